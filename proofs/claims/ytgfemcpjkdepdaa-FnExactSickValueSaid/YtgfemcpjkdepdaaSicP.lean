/- Sickness: the program's small functions: is it a table, the weeks at an age, sums, the weeks of members, the worst age. -/
import Derived.Test.YtgfemcpjkdepdaaSicW
import Derived.Test.YtgfemcpjkdepdaaColL
import Derived.Test.YtgfemcpjkdepdaaDrawS
import Derived.Deep.RegionHeld3
namespace Go.Proofs.Ytgfemcpjkdepdaa
open Go.ChangeShapes Go.WideShapes Go.ChangeAt Go.RowKit
set_option linter.unusedVariables false
set_option linter.unusedSimpArgs false
set_option maxRecDepth 100000

theorem iwk_any (g : Int) (ys : List Int) (a : Option Addr) (l c : Nat) (x : Int) (w : World) (h : Ints w a l ys) (g0 : 0 ≤ g) (g1 : g ≤ 100) (x0 : 0 ≤ x) (x1 : x ≤ 1000) (hl : l ≤ 1000) (hlc : l ≤ c) :
    Calls Try.prog 38 #[.agg #[.int .i64 g, .slice a l c], .int .i64 x] w fun e w' => e = .returned (.int .i64 (wk g ys x)) ∧ Below w.heap.size w w' := by
  have HL := Lib.hid h.len
  have H := Lib.hid h
  clear h
  have HR0 : Hid (wk g ys x = if inB (x - g) 0 ((l : Int) - 1) = true then ys.getD (x - g).toNat 0 else 0) := Lib.hid (by unfold wk; rw [HL.out])
  have q1 : IntKind.i64.wrap (x - g) = x - g := IntWalk.i64_in _ (by omega)
  have q2 : IntKind.i64.wrap ((l : Int) - 1) = (l : Int) - 1 := IntWalk.i64_in _ (by omega)
  by_cases hin : inB (x - g) 0 ((l : Int) - 1) = true
  · obtain ⟨i0, i1⟩ := (inB_iff _ _ _).1 hin
    obtain ⟨b, off, rfl, hb, hc⟩ := H.out.at (by omega)
    have hx := hc (x - g).toNat (by omega)
    obtain ⟨v, hv⟩ : ∃ v, ys.getD (x - g).toNat 0 = v := ⟨_, rfl⟩
    rw [hv] at hx
    have HR : Hid (wk g ys x = v) := Lib.hid (by rw [HR0.out, if_pos hin, hv])
    have q3 : (x - g).toNat < l := by omega
    clear hv hc HR0
    go_enter Try.func38, Try.ntmps38
    go_wp2_with (go_at_call 37; refine (within_any _ _ _ _).mono ?_; rintro e w' ⟨rfl, rfl⟩)
    go_ret
    exact ⟨ret_int HR.out.symm, box_b _ _⟩
  · have HR : Hid (wk g ys x = 0) := Lib.hid (by rw [HR0.out, if_neg hin])
    have hin2 : inB (x - g) 0 ((l : Int) - 1) = false := by simpa using hin
    clear HR0 hin
    go_enter Try.func38, Try.ntmps38
    go_wp2_with (go_at_call 37; refine (within_any _ _ _ _).mono ?_; rintro e w' ⟨rfl, rfl⟩)
    go_ret
    exact ⟨ret_int HR.out.symm, box_b _ _⟩

theorem iwe_any (g : Int) (ys : List Int) (a : Option Addr) (l c : Nat) (x : Int) (w : World) (h : Ints w a l ys) (hlc : l ≤ c) :
    Calls Try.prog 15 #[.agg #[.int .i64 g, .slice a l c], .int .i64 x] w (IIPost (weV g ys x) (weE g ys x) w) := by
  have HC := Lib.hid (isS_impl g ys a l c (w.alloc (.cells #[.int .i64 g, .slice a l c] 26)) (h.on (box_b _ _)) hlc)
  have HL := Lib.hid h.len
  have H := Lib.hid h
  clear h
  unfold IIPost
  by_cases h1 : skB g ys = true
  · rw [h1] at HC
    by_cases h2 : inB x 0 150 = true
    · have HE : Hid (weE g ys x = 0) := Lib.hid (by unfold weE; rw [if_pos h1, if_pos h2])
      have HV : Hid (weV g ys x = wk g ys x) := Lib.hid (by unfold weV; rw [if_pos HE.out])
      obtain ⟨⟨g0, g1⟩, ⟨l0, l1⟩, _⟩ := (skB_iff _ _).1 h1
      obtain ⟨x0, x1⟩ := (inB_iff _ _ _).1 h2
      have hl := HL.out
      rw [hl] at l0 l1
      clear h1 hl
      go_enter Try.func15, Try.ntmps15
      go_wp2_with fail
      refine HC.out.mono ?_
      rintro e w1 ⟨rfl, hb1⟩
      obtain ⟨hB, hc0, hc1⟩ := box2 hb1
      have HB := Lib.hid hB
      clear hB hb1
      go_wp2_with (go_at_call 37; refine (within_any _ _ _ _).mono ?_; rintro e w' ⟨rfl, rfl⟩)
      refine (iwk_any g ys _ _ _ _ _ (H.out.on HB.out) g0 g1 x0 (by omega) (by omega) hlc).mono ?_
      rintro e w2 ⟨rfl, hb⟩
      have HB2 := Lib.hid (HB.out.trans (hb.mono HB.out.size))
      clear hb
      go_wp2_with fail
      go_ret2
      exact ⟨ret_ii HV.out.symm HE.out.symm, HB2.out⟩
    · have HE : Hid (weE g ys x = 2) := Lib.hid (by unfold weE; rw [if_pos h1, if_neg h2])
      have HV : Hid (weV g ys x = 0) := Lib.hid (by unfold weV; rw [HE.out]; rfl)
      have h3 : inB x 0 150 = false := by simpa using h2
      clear h1 h2
      go_enter Try.func15, Try.ntmps15
      go_wp2_with fail
      refine HC.out.mono ?_
      rintro e w1 ⟨rfl, hb1⟩
      obtain ⟨hB, hc0, hc1⟩ := box2 hb1
      have HB := Lib.hid hB
      clear hB hb1
      go_wp2_with (go_at_call 37; refine (within_any _ _ _ _).mono ?_; rintro e w' ⟨rfl, rfl⟩)
      go_ret2
      exact ⟨ret_ii HV.out.symm HE.out.symm, HB.out⟩
  · have h1' : skB g ys = false := by simpa using h1
    have HE : Hid (weE g ys x = 1) := Lib.hid (by unfold weE; rw [if_neg h1])
    have HV : Hid (weV g ys x = 0) := Lib.hid (by unfold weV; rw [HE.out]; rfl)
    rw [h1'] at HC
    clear h1 h1'
    go_enter Try.func15, Try.ntmps15
    go_wp2_with fail
    refine HC.out.mono ?_
    rintro e w1 ⟨rfl, hb1⟩
    obtain ⟨hB, hc0, hc1⟩ := box2 hb1
    have HB := Lib.hid hB
    clear hB hb1
    go_wp2_with fail
    go_ret2
    exact ⟨ret_ii HV.out.symm HE.out.symm, HB.out⟩

/-- the sum of numbers -/
theorem tot_any (zs : List Int) (a : Option Addr) (l c : Nat) (w : World) (h : Ints w a l zs) (hlc : l ≤ c) (hs : ∀ k, 0 ≤ (zs.take k).sum ∧ (zs.take k).sum ≤ 1000000000000) :
    Calls Try.prog 40 #[.slice a l c] w fun e w' => e = .returned (.int .i64 zs.sum) ∧ w = w' := by
  have hm := h.max
  have HL := Lib.hid h.len
  have H := Lib.hid h
  have HS := Lib.hid hs
  clear h hs
  go_enter Try.func40, Try.ntmps40
  go_wp2_with fail
  go_loop [3, 8] (fun v i => ∃ k : Nat, k ≤ l ∧ i = .int .i64 k ∧ v = .int .i64 (zs.take k).sum) (fun _ i => l - (intOf i).toNat)
  case atStart => exact ⟨0, Nat.zero_le _, rfl, rfl⟩
  case round =>
    obtain ⟨k, hk, rfl, rfl⟩ := hrel
    by_cases hlt : k < l
    · obtain ⟨b, off, rfl, hb, hc⟩ := H.out.at (by omega)
      have hx := hc k hlt
      have h1 := HS.out k
      have h2 := HS.out (k + 1)
      rw [take_sum_succ] at h2
      have HT := Lib.hid (take_sum_succ zs k)
      obtain ⟨A, hA⟩ : ∃ y_, (zs.take k).sum = y_ := ⟨_, rfl⟩
      obtain ⟨X, hX⟩ : ∃ y_, zs.getD k 0 = y_ := ⟨_, rfl⟩
      rw [hA] at h1 h2 HT ⊢
      rw [hX] at hx h2 HT
      clear hA hX hc
      go_wp2_with fail
      go_round
      case rel => exact ⟨k + 1, by omega, by go_num, by rw [HT.out]⟩
      case measure => simp [intOf]; omega
    · obtain rfl : k = l := by omega
      have e : zs.take k = zs := List.take_of_length_le (by rw [HL.out]; exact Nat.le_refl _)
      rw [e]
      go_wp2_with fail
      go_ret
      exact ⟨rfl, rfl⟩

/-- the greatest number -/
theorem max_any (ys : List Int) (a : Option Addr) (l c : Nat) (w : World) (h : Ints w a l ys) (hlc : l ≤ c) (l0 : 1 ≤ l) :
    Calls Try.prog 46 #[.slice a l c] w fun e w' => e = .returned (.int .i64 (ys.getD (bestN ys l) 0)) ∧ w = w' := by
  have hm := h.max
  obtain ⟨b, off, rfl, hb, hc⟩ := h.at (by omega)
  have HC := Lib.hid hc
  have hx0 : w.cell? ⟨b, off, none⟩ = some (.int .i64 (ys.getD 0 0)) := hc 0 (by omega)
  have HZ : Hid (bestN ys 1 = 0) := Lib.hid (by simp [bestN])
  obtain ⟨X0, hX0⟩ : ∃ y_, ys.getD 0 0 = y_ := ⟨_, rfl⟩
  rw [hX0] at hx0
  have HX0 := Lib.hid hX0
  have hl2 : ¬ (l : Int) < 1 := by omega
  clear hc h hX0
  go_enter Try.func46, Try.ntmps46
  go_wp2_with fail
  go_loop [3, 4] (fun v i => ∃ k : Nat, 1 ≤ k ∧ k ≤ l ∧ i = .int .i64 k ∧ v = .int .i64 (ys.getD (bestN ys k) 0)) (fun _ i => l - (intOf i).toNat)
  case atStart => exact ⟨1, Nat.le_refl _, l0, rfl, by rw [HZ.out, HX0.out]⟩
  case round =>
    obtain ⟨k, hk1, hk, rfl, rfl⟩ := hrel
    by_cases hlt : k < l
    · have hx := HC.out k hlt
      have HST : Hid (bestN ys (k + 1) = if ys.getD (bestN ys k) 0 < ys.getD k 0 then k else bestN ys k) := Lib.hid rfl
      obtain ⟨A, hA⟩ : ∃ y_, ys.getD (bestN ys k) 0 = y_ := ⟨_, rfl⟩
      obtain ⟨X, hX⟩ : ∃ y_, ys.getD k 0 = y_ := ⟨_, rfl⟩
      have HN : Hid (ys.getD (bestN ys (k + 1)) 0 = if A < X then X else A) := Lib.hid (by
        rw [HST.out, hA, hX]
        split
        · exact hX
        · exact hA)
      rw [hA]
      rw [hX] at hx
      clear hA hX HST
      by_cases hgt : A < X
      · have HN2 : Hid (ys.getD (bestN ys (k + 1)) 0 = X) := Lib.hid (by rw [HN.out, if_pos hgt])
        have hmx : max A X = X := by omega
        go_wp2_with fail
        go_round
        case rel => exact ⟨k + 1, by omega, by omega, by go_num, by rw [HN2.out]⟩
        case measure => simp [intOf]; omega
      · have HN2 : Hid (ys.getD (bestN ys (k + 1)) 0 = A) := Lib.hid (by rw [HN.out, if_neg hgt])
        have hmx : max A X = A := by omega
        go_wp2_with fail
        go_round
        case rel => exact ⟨k + 1, by omega, by omega, by go_num, by rw [HN2.out]⟩
        case measure => simp [intOf]; omega
    · obtain rfl : k = l := by omega
      go_wp2_with fail
      go_ret
      exact ⟨rfl, rfl⟩

/-- the first place of a number that a list holds -/
theorem idx_any (ys : List Int) (M : Int) (a : Option Addr) (n c N : Nat) (w : World) (h : Ints w a n ys) (hN : N < n) (hz : ys.getD N 0 = M) (hp : ∀ j, j < N → ys.getD j 0 ≠ M) :
    Calls Try.prog 45 #[.slice a n c, .int .i64 M] w fun e w' => e = .returned (.int .i64 N) ∧ w = w' := by
  have hm := h.max
  obtain ⟨b, off, rfl, hb, hc⟩ := h.at (by omega)
  have HC := Lib.hid hc
  have HZ := Lib.hid hz
  have HP := Lib.hid hp
  clear hc hz hp h
  go_enter Try.func45, Try.ntmps45
  go_wp2_with fail
  go_loopw [5, 8] (fun _ i wr => ∃ k : Nat, k ≤ N ∧ i = .int .i64 k ∧ Hid (wr = w)) (fun _ i _ => N - (intOf i).toNat)
  case atStart => exact ⟨0, Nat.zero_le _, rfl, Lib.hid rfl⟩
  case round =>
    obtain ⟨k, hk, rfl, HW⟩ := hrel
    have hw := HW.out
    subst hw
    have hx := HC.out k (by omega)
    have hkn : k < n := by omega
    by_cases hlt : k < N
    · have hne := HP.out k hlt
      obtain ⟨u, hu⟩ : ∃ y_, ys.getD k 0 = y_ := ⟨_, rfl⟩
      rw [hu] at hx hne
      have hu2 : (M == u) = false := by simp; omega
      clear hu hne
      go_wp2_with fail
      go_roundw
      case rel => exact ⟨k + 1, by omega, by go_num, by first | exact Lib.hid rfl | exact Lib.hid trivial⟩
      case measure => simp [intOf]; omega
    · obtain rfl : k = N := by omega
      rw [HZ.out] at hx
      go_wp2_with fail
      go_ret
      exact ⟨rfl, rfl⟩

end Go.Proofs.Ytgfemcpjkdepdaa
