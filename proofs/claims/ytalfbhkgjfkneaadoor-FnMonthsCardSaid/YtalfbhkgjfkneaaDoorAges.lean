/- The law of chapter 2 on ages, over whatever the draws give. -/
import Derived.Test.YtalfbhkgjfkneaaDoorDrawA
import Derived.Test.YtalfbhkgjfkneaaDoorMonT
namespace Go.Proofs.YtalfbhkgjfkneaaDoor
open Go.ChangeShapes Go.WideShapes Go.ChangeAt Go.RowKit
set_option linter.unusedVariables false

theorem mon_r (B : Nat) (a : Option Addr) (l c : Nat) (z : List Int) (w : World) (h : Ready B a l c z w) :
    Calls Tryd.prog 22 #[.pointer (some ⟨B, 0, none⟩)] w (NumPost B a l c z Any w) := by
  have HS := Lib.hid h
  have HO := Lib.hid (But.refl B w)
  clear h
  go_enter Tryd.func22, Tryd.ntmps22
  go_wp2_with (first | (go_at_call 18; refine (next_r _ _ _ _ _ _ _ HS.out).mono ?_; rintro e w1 ⟨r, rfl, hd, ho, hs⟩; have HO := Lib.hid (HO.out.trans ho); have HS := Lib.hid hs; clear ho hs hd) | (go_at_call 19; ((with_reducible refine (pick4 B _ _ _ _ _ _ HS.out).mono ?_); rintro e w1 ⟨r, rfl, hd, ho, hs⟩; have HO := Lib.hid (HO.out.trans ho); have HS := Lib.hid hs; clear ho hs hd)))
  all_goals
    go_ret
    exact ⟨_, rfl, trivial, HO.out, HS.out⟩

def PairPost (B : Nat) (a : Option Addr) (l c : Nat) (z : List Int) (w : World) (e : Ending) (w' : World) : Prop :=
  ∃ x y, e = .returned (.tuple #[.int .i64 x, .int .i64 y]) ∧ But B w w' ∧ Ready B a l c z w'

theorem big2_any (a : Option Addr) (l c : Nat) (w : World) : Calls Tryd.prog 5 #[.slice a l c] w fun e w' => e = .returned (.bool (decide (4096 < (l : Int)))) ∧ w = w' := by
  go_enter Tryd.func5, Tryd.ntmps5
  go_wp2
  go_ret
  exact ⟨rfl, rfl⟩

theorem fy_in (a b : Int) (h0 : 0 ≤ a) (h1 : a ≤ b) (h2 : b ≤ 35999) : fyE a b = 0 ∧ fyY a b = (b - a) / 12 ∧ fyM a b = (b - a) % 12 := by
  have e : fyE a b = 0 := by
    unfold fyE
    rw [if_pos ((mthB_iff _).2 ⟨h0, by omega⟩), if_pos ((mthB_iff _).2 ⟨by omega, h2⟩), if_neg (by omega)]
  exact ⟨e, by simp [fyY, e], by simp [fyM, e]⟩

theorem am_split (n k : Int) : (amE n k = 0 ∧ -36000 ≤ k ∧ k ≤ 36000 ∧ amV (amV n k) (-k) = n ∧ amE (amV n k) (-k) = 0) ∨ (amE n k == 0) = false := by
  by_cases h : amE n k = 0
  · left
    unfold amE amB at h
    split at h
    · next h1 =>
      rw [Bool.and_eq_true] at h1
      obtain ⟨n1, n2⟩ := (mthB_iff _).1 h1.1
      obtain ⟨k1, k2⟩ := (inB_iff _ _ _).1 h1.2
      split at h
      · next h2 =>
        have e : amV n k = n + k := by simp [amV, amB, h1, h2]
        have h3 : inB (-k) (-36000) 36000 = true := inB_t (by omega) (by omega)
        have h4 : n + k + -k = n := by omega
        refine ⟨by simp [amE, amB, h1, h2], k1, k2, ?_, ?_⟩
        · rw [e]; simp [amV, amB, h2, h3, h4, h1.1]
        · rw [e]; simp [amE, amB, h2, h3, h4, h1.1]
      · cases h
    · cases h
  · exact .inr (by simpa using h)

theorem nb_split (b n : Int) : (nbE b n = 0 ∧ fyE b n = 0 ∧ fyE b (nbV b n - 1) = 0 ∧ fyE b (nbV b n) = 0 ∧ fyY b (nbV b n - 1) = fyY b n ∧ fyY b (nbV b n) = fyY b n + 1 ∧ n < nbV b n ∧ 0 ≤ nbV b n ∧ nbV b n ≤ 35999 ∧ 0 ≤ fyY b n ∧ fyY b n ≤ 36000) ∨ (nbE b n == 0) = false := by
  by_cases h : nbE b n = 0
  · left
    rcases fy_split b n with ⟨h0, _, _, a1, a2, a3⟩ | ⟨h0, _, _⟩
    · have h' := h
      unfold nbE at h
      rw [if_pos h0] at h
      split at h
      · next hm =>
        obtain ⟨m1, m2⟩ := (mthB_iff _).1 hm
        have e : nbV b n = nbX b n := by simp [nbV, h0, hm]
        have ex : nbX b n = b + 12 * ((n - b) / 12 + 1) := rfl
        obtain ⟨x, hx⟩ : ∃ x, nbX b n = x := ⟨_, rfl⟩
        rw [e, hx]
        rw [hx] at ex m1 m2
        obtain ⟨f1, f2, f3⟩ := fy_in b n a1 a2 a3
        obtain ⟨g1, g2, g3⟩ := fy_in b (x - 1) a1 (by omega) (by omega)
        obtain ⟨k1, k2, k3⟩ := fy_in b x a1 (by omega) (by omega)
        refine ⟨h', h0, g1, k1, ?_, ?_, ?_, ?_, ?_, ?_, ?_⟩
        all_goals omega
      · cases h
    · exfalso
      unfold nbE at h
      rw [if_neg h0] at h
      exact h0 h
  · exact .inr (by simpa using h)

theorem ag_split (b n : Int) : (fyE b n = 0 ∧ 12 * fyY b n + fyM b n = n - b ∧ fyM b n < 12 ∧ 0 ≤ fyY b n ∧ fyY b n ≤ 3000 ∧ 0 ≤ fyM b n ∧ 0 ≤ b ∧ b ≤ n ∧ n ≤ 35999) ∨ (fyE b n != 0) = true := by
  rcases fy_split b n with ⟨h0, _, _, a1, a2, a3⟩ | ⟨h0, _, h2⟩
  · left
    obtain ⟨f1, f2, f3⟩ := fy_in b n a1 a2 a3
    refine ⟨h0, ?_, ?_, ?_, ?_, ?_, a1, a2, a3⟩
    all_goals omega
  · exact .inr h2

end Go.Proofs.YtalfbhkgjfkneaaDoor
