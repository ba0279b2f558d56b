/- Whether a life table is one: what the program's function returns. -/
import Derived.Test.YtmcagpcldjopjaaTabI
namespace Go.Proofs.Ytmcagpcldjopjaa
open Go.ChangeShapes Go.WideShapes Go.ChangeAt Go.RowKit
set_option linter.unusedVariables false

theorem isL_impl (f : Int) (xs : List Int) (a : Option Addr) (l c : Nat) (w : World) (h : Ints w a l xs) (hlc : l ≤ c) :
    Calls Try.prog 86 #[.agg #[.int .i64 f, .slice a l c]] w fun e w' => e = .returned (.bool (ltB f xs)) ∧ Below w.heap.size w w' := by
  have hm := h.max
  have HL := Lib.hid h.len
  by_cases c3 : inB f 0 100 = true
  case neg =>
    have HR : Hid (ltB f xs = false) := Lib.hid (ltB_no fun e => by have := ((ltB_iff _ _).1 e).1; rw [inB_iff] at c3; exact c3 this)
    go_enter Try.func86, Try.ntmps86
    go_wp2_with (go_at_call 70; refine (within_any _ _ _ _).mono ?_; rintro e w' ⟨rfl, rfl⟩)
    go_ret
    exact ⟨ret_bool HR.out.symm, (Below.refl _ _).alloc (Nat.le_refl _) _⟩
  obtain ⟨f0, f1⟩ := (inB_iff _ _ _).1 c3
  by_cases c1 : inB (l : Int) 2 120 = true
  case neg =>
    have HR : Hid (ltB f xs = false) := Lib.hid (ltB_no fun e => by have := ((ltB_iff _ _).1 e).2.1; rw [inB_iff] at c1; have := HL.out; omega)
    go_enter Try.func86, Try.ntmps86
    go_wp2_with (go_at_call 70; refine (within_any _ _ _ _).mono ?_; rintro e w' ⟨rfl, rfl⟩)
    go_ret
    exact ⟨ret_bool HR.out.symm, (Below.refl _ _).alloc (Nat.le_refl _) _⟩
  obtain ⟨l0, l1⟩ := (inB_iff _ _ _).1 c1
  obtain ⟨b, off, rfl, hb, hc⟩ := h.at (by omega)
  have HC := Lib.hid hc
  have H := Lib.hid h
  clear hc h
  by_cases c6 : (150 : Int) < f + l - 1
  · have HR : Hid (ltB f xs = false) := Lib.hid (ltB_no fun e => by have := ((ltB_iff _ _).1 e).2.2.1; have := HL.out; omega)
    go_enter Try.func86, Try.ntmps86
    go_wp2_with (first | (go_at_call 70; refine (within_any _ _ _ _).mono ?_; rintro e w' ⟨rfl, rfl⟩) | (go_at_call 78; refine (end_any _ xs _ _ _ _ (by omega) (by omega) (by omega)).mono ?_; rintro e w1 ⟨rfl, hb1⟩; have HB1 := Lib.hid (((Below.refl w.heap.size w).alloc (Nat.le_refl _) (.cells #[.int .i64 f, .slice (some ⟨b, off, none⟩) l c] 26)).trans (hb1.mono (by simp))); clear hb1))
    go_ret
    exact ⟨ret_bool HR.out.symm, HB1.out⟩
  have q3 : IntKind.i64.wrap ((l : Int) - 1) = (l : Int) - 1 := IntWalk.i64_in _ (by omega)
  have q4 : ((l : Int) - 1).toNat = l - 1 := by omega
  go_enter Try.func86, Try.ntmps86
  go_wp2_with (first | (go_at_call 70; refine (within_any _ _ _ _).mono ?_; rintro e w' ⟨rfl, rfl⟩) | (go_at_call 78; refine (end_any _ xs _ _ _ _ (by omega) (by omega) (by omega)).mono ?_; rintro e w1 ⟨rfl, hb1⟩; have HB1 := Lib.hid (((Below.refl w.heap.size w).alloc (Nat.le_refl _) (.cells #[.int .i64 f, .slice (some ⟨b, off, none⟩) l c] 26)).trans (hb1.mono (by simp))); have hbox : w1.cell? ⟨w.heap.size, 1, none⟩ = some (.slice (some ⟨b, off, none⟩) l c) := (hb1.cell (p := ⟨w.heap.size, 1, none⟩) (by simp)).trans (World.cell?_alloc_new _ _ _ _); clear hb1))
  have hcell : ∀ i, i < l → w1.cell? ⟨b, off + i, none⟩ = some (.int .i64 (xs.getD i 0)) := fun i hi => (HB1.out.cell (p := ⟨b, off + i, none⟩) hb).trans (HC.out i hi)
  have HCW := Lib.hid hcell
  clear hcell
  go_loop [4, 32] (fun s i => ∃ (k : Nat) (p : Int), k ≤ l - 1 ∧ i = .int .i64 k ∧ s = .int .i64 p ∧ p ≤ 1000000 ∧ Hid (k = 0 ∧ p = 1000000 ∨ 1 ≤ k ∧ p = xs.getD (k - 1) 0) ∧ Hid (∀ j, j < k → 1 ≤ xs.getD j 0 ∧ (1 ≤ j → xs.getD j 0 ≤ xs.getD (j - 1) 0) ∧ xs.getD j 0 ≤ 1000000)) (fun _ i => l - (intOf i).toNat)
  case atStart => exact ⟨0, 1000000, Nat.zero_le _, rfl, rfl, by omega, Lib.hid (.inl ⟨rfl, rfl⟩), Lib.hid (fun j hj => by omega)⟩
  case round =>
    obtain ⟨k, p, hk, rfl, rfl, hp, HP, HK⟩ := hrel
    by_cases hlt : k < l - 1
    · have hx := HCW.out k (by omega)
      obtain ⟨x, hx0⟩ : ∃ x, xs.getD k 0 = x := ⟨_, rfl⟩
      rw [hx0] at hx
      have HX := Lib.hid hx0
      have hkl : (k : Int) < (l : Int) - 1 := by omega
      have hkc : k < c := by omega
      clear hx0
      by_cases hin : inB x 1 p = true
      · obtain ⟨x0, x1⟩ := (inB_iff _ _ _).1 hin
        go_wp2_with (go_at_call 70; refine (within_any _ _ _ _).mono ?_; rintro e w' ⟨rfl, rfl⟩)
        go_round
        case rel => exact ⟨k + 1, x, by omega, by go_num, rfl, by omega, Lib.hid (.inr ⟨by omega, by simpa using HX.out.symm⟩), Lib.hid (fun j hj => by
          by_cases e : j = k
          · subst e
            rw [HX.out]
            refine ⟨x0, fun h1 => ?_, by omega⟩
            rcases HP.out with ⟨h0, _⟩ | ⟨_, h2⟩
            · omega
            · omega
          · exact HK.out j (by omega))⟩
        case measure => simp [intOf]; omega
      · have HR : Hid (ltB f xs = false) := Lib.hid (ltB_no fun e => by
          have e := (ltB_iff _ _).1 e
          rw [inB_iff] at hin
          have h1 := e.pos k (by rw [HL.out]; omega)
          have h2 := e.le k
          rw [HX.out] at h1 h2
          rcases HP.out with ⟨_, rfl⟩ | ⟨hk1, rfl⟩
          · exact hin ⟨h1, h2⟩
          · have h3 := e.mono (k - 1) k (by omega)
            rw [HX.out] at h3
            exact hin ⟨h1, h3⟩)
        go_wp2_with (go_at_call 70; refine (within_any _ _ _ _).mono ?_; rintro e w' ⟨rfl, rfl⟩)
        go_ret
        exact ⟨ret_bool HR.out.symm, HB1.out⟩
    · have hkl : ¬ (k : Int) < (l : Int) - 1 := by omega
      have hx := HCW.out (l - 1) (by omega)
      obtain ⟨x, hx0⟩ : ∃ x, xs.getD (l - 1) 0 = x := ⟨_, rfl⟩
      rw [hx0] at hx
      have HX := Lib.hid hx0
      have q5 : l - 1 < c := by omega
      clear hx0
      by_cases h0 : x = 0
      · subst h0
        have HR : Hid (ltB f xs = true) := Lib.hid (ltB_t (by
          have hl := HL.out
          have K := HK.out
          refine ⟨⟨f0, f1⟩, by omega, by omega, ?_, by rw [hl]; exact HX.out, fun i hi h1 => ?_⟩
          · obtain ⟨g1, _, g3⟩ := K 0 (by omega); exact ⟨g1, g3⟩
          · by_cases e : i + 1 < l
            · obtain ⟨g1, g2, g3⟩ := K i (by omega); exact ⟨g2 h1, fun _ => g1⟩
            · obtain rfl : i = l - 1 := by omega
              rw [HX.out]
              obtain ⟨g1, _, _⟩ := K (l - 1 - 1) (by omega)
              exact ⟨by omega, fun hh => by omega⟩))
        go_wp2_with fail
        go_ret
        exact ⟨ret_bool HR.out.symm, HB1.out⟩
      · have HR : Hid (ltB f xs = false) := Lib.hid (ltB_no fun e => by
          have := ((ltB_iff _ _).1 e).2.2.2.2.1
          rw [HL.out, HX.out] at this
          exact h0 this)
        have h0' : (x == 0) = false := by simpa using h0
        clear h0
        go_wp2_with fail
        go_ret
        exact ⟨ret_bool HR.out.symm, HB1.out⟩

end Go.Proofs.Ytmcagpcldjopjaa
