/- The law on discounts: they fall from year to year, and annuities certain are their sums. -/
import Derived.Test.YthennmhmnimpfaaPv
import Derived.Test.YthennmhmnimpfaaIntD
import Derived.Test.YthennmhmnimpfaaSumLaw
namespace Go.Proofs.Ythennmhmnimpfaa
open Go.ChangeShapes Go.WideShapes Go.ChangeAt Go.RowKit
set_option linter.unusedVariables false
set_option maxRecDepth 100000

theorem lsumI_any (xs : List Int) (a : Option Addr) (l c : Nat) (w : World) (h : Ints w a l xs) (hs : SumsFit xs) :
    Calls Try.prog 23 #[.slice a l c] w fun e w' => e = .returned (.int .i64 xs.sum) ∧ w = w' := by
  have hm := h.max
  have hl := Lib.hid h.len
  have H := Lib.hid h
  have HS := Lib.hid hs
  clear h hs
  go_enter Try.func23, Try.ntmps23
  go_wp2_with fail
  go_loop [3, 4] (fun s i => ∃ k : Nat, k ≤ l ∧ i = .int .i64 k ∧ s = .int .i64 (xs.take k).sum) (fun _ i => l - (intOf i).toNat)
  case atStart => exact ⟨0, Nat.zero_le _, rfl, by simp⟩
  case round =>
    obtain ⟨k, hk, rfl, rfl⟩ := hrel
    by_cases hlt : k < l
    · rcases H.out.cells with h0 | ⟨b, off, rfl, hc⟩
      · omega
      have hx := hc k hlt
      obtain ⟨v, hv⟩ : ∃ v, xs.getD k 0 = v := ⟨_, rfl⟩
      rw [hv] at hx
      obtain ⟨s1, s2⟩ := HS.out k
      have hn := sum_snoc xs k (by rw [hl.out]; exact hlt)
      obtain ⟨s3, s4⟩ := HS.out (k + 1)
      rw [hn, hv] at s3 s4
      rw [hv] at hn
      have HN := Lib.hid hn
      have HV := Lib.hid hv
      have HC := Lib.hid hc
      clear hv hc hn
      obtain ⟨s, hs⟩ : ∃ s, (xs.take k).sum = s := ⟨_, rfl⟩
      have HT := Lib.hid hs
      rw [hs] at s1 s2 s3 s4 ⊢
      clear hs
      go_wp2_with fail
      go_round
      case rel => exact ⟨k + 1, by omega, by go_num, by rw [HN.out, HT.out]⟩
      case measure => simp [intOf]; omega
    · go_wp2_with fail
      go_ret
      obtain rfl : k = l := by omega
      have e : xs.take k = xs := List.take_of_length_le (by rw [hl.out]; exact Nat.le_refl _)
      exact ⟨ret_int (by rw [e]), rfl⟩

theorem disc_zero (k : Nat) : disc 0 k = 1000000000 := by
  induction k with
  | zero => rfl
  | succ k ih => rw [disc, ih]; rfl

/-- payments whose discounts are at most one: what they are worth -/
theorem pvS_le (r : Int) (h0 : 0 ≤ r) (xs : List Int) (h : ∀ i, i < xs.length → inB (xs.getD i 0) 0 1000000000 = true) (k : Nat) (hk : k ≤ xs.length) :
    0 ≤ pvS r xs k ∧ pvS r xs k ≤ 1000000000 * (xs.take k).sum ∧ (r = 0 → pvS r xs k = 1000000000 * (xs.take k).sum) := by
  induction k with
  | zero => simp [pvS]
  | succ k ih =>
    obtain ⟨i1, i2, i3⟩ := ih (by omega)
    obtain ⟨x0, x1⟩ := (inB_iff _ _ _).1 (h k (by omega))
    obtain ⟨d0, d1⟩ := disc_bd r h0 k
    have h4 := Int.mul_le_mul_of_nonneg_left d1 x0
    have h5 := Int.mul_nonneg x0 d0
    rw [pvS, sum_snoc xs k (by omega)]
    refine ⟨by omega, by omega, fun hr => ?_⟩
    have h6 := i3 hr
    have h7 : disc r k = 1000000000 := by
      subst hr; exact disc_zero k
    rw [h6, h7]; omega

theorem pv_law (xs : List Int) (r : Int) (h : pvB xs r = true) : SumsFit xs ∧ pvE xs r = 0 ∧ pvV xs r ≤ xs.sum ∧ (r = 0 → pvV xs r = xs.sum) ∧ 0 ≤ r := by
  obtain ⟨⟨h1, h2⟩, h3⟩ := (pvB_iff _ _).1 h
  obtain ⟨r0, r1⟩ := (inB_iff _ _ _).1 h3
  obtain ⟨i1, i2, i3⟩ := pvS_le r r0 xs h1 xs.length (Nat.le_refl _)
  rw [List.take_length] at i2 i3
  have hv : pvV xs r = -(-(pvS r xs xs.length) / 1000000000) := by simp [pvV, h]
  refine ⟨fun k => ?_, by simp [pvE, h], by rw [hv]; omega, fun hr => by rw [hv, i3 hr]; omega, r0⟩
  have := sum_take_bd 1000000000 (by omega) xs k 120 h2 (fun x hx => by
    obtain ⟨i, hi, rfl⟩ := List.getElem_of_mem (List.mem_of_mem_take hx)
    have := (inB_iff _ _ _).1 (h1 i hi)
    simp only [List.getD, List.getElem?_eq_getElem hi, Option.getD_some] at this
    omega)
  omega

/-- the ways of the two numbers -/
theorem do_split (x y : Int) : ∃ V A E : Int, doV x y = V ∧ caV x y = A ∧ rtE x y = E ∧
    ((E != 0) = true ∨ ((E != 0) = false ∧ (y == 0) = true ∧ (V == 1000000000) = true ∧ (A == 0) = true) ∨
     ((E != 0) = false ∧ (y == 0) = false ∧ 1 ≤ y ∧ y ≤ 120 ∧ ∃ V2 A2 : Int, doV x (y - 1) = V2 ∧ caV x (y - 1) = A2 ∧ rtE x (y - 1) = 0 ∧ V ≤ V2 ∧ A2 + V2 = A ∧ 0 ≤ V2 ∧ V2 ≤ 1000000000 ∧ 0 ≤ A2 ∧ A2 ≤ 200000000000)) := by
  refine ⟨_, _, _, rfl, rfl, rfl, ?_⟩
  by_cases h : rtB x y = true
  · obtain ⟨⟨x0, x1⟩, ⟨y0, y1⟩⟩ := (rtB_iff _ _).1 h
    right
    have e0 : rtE x y = 0 := by simp [rtE, h]
    by_cases hy : y = 0
    · left
      subst hy
      exact ⟨by simp [e0], rfl, by simp [doV, h, disc], by simp [caV, h, dsum]⟩
    · right
      obtain ⟨k, rfl⟩ : ∃ k : Nat, y = (k : Int) + 1 := ⟨(y - 1).toNat, by omega⟩
      have h2 : rtB x k = true := (rtB_iff _ _).2 ⟨⟨x0, x1⟩, by omega, by omega⟩
      have e1 : (k : Int) + 1 - 1 = k := by omega
      have e2 : ((k : Int) + 1).toNat = k + 1 := by omega
      have b1 := disc_bd x x0 k
      have b2 := dsum_bd x x0 0 k
      refine ⟨by simp [e0], by simp; omega, by omega, y1, _, _, rfl, rfl, ?_, ?_, ?_, ?_⟩
      · rw [e1]; simp [rtE, h2]
      · rw [e1]
        simp only [doV, h, h2, if_true, e2, Int.toNat_natCast]
        exact disc_le x x0 k
      · rw [e1]
        simp only [doV, caV, h, h2, if_true, e2, Int.toNat_natCast, dsum, Nat.zero_add]
      · rw [e1]
        simp only [doV, caV, h2, if_true, Int.toNat_natCast]
        omega
  · left
    simp [rtE, h]

set_option maxHeartbeats 8000000 in
theorem fnDiscounts_walk (a0 : Option Addr) (len0 cap0 : Nat) (z0 : List Int) (w : World) (w0 : IsRow .u8 w a0 len0 cap0 z0) :
    Calls Try.prog 3 #[.slice a0 len0 cap0] w fun e w' => e = .returned (.bool true) ∧ Below w.heap.size w w' := by
  by_cases hbig : (4096 : Int) < len0
  · go_enter Try.func3, Try.ntmps3
    go_wp2_with (go_at_call 14; refine (bigI_any _ _ _ _).mono ?_; rintro e w' ⟨rfl, rfl⟩)
    go_ret
    exact ⟨rfl, Below.refl _ _⟩
  · have HR := Lib.hid w0
    clear w0
    go_enter Try.func3, Try.ntmps3
    go_wp2_with (go_at_call 14; refine (bigI_any _ _ _ _).mono ?_; rintro e w' ⟨rfl, rfl⟩)
    refine (drawDO _ _ _ _ _ HR.out).mono ?_
    rintro e w1 ⟨x, y, rfl, hb⟩
    have HB1 := Lib.hid hb
    have HR1 := Lib.hid (HR.out.below hb HR.out.apart)
    clear hb
    obtain ⟨V, A, E, e1, e2, e3, hE⟩ := do_split x y
    have di := fun W => do_impl x y W
    have ds := fun W => do_spec x y W
    have ai := fun W => ca_impl x y W
    have as' := fun W => ca_spec x y W
    simp only [e1, e2, e3] at di ds ai as'
    have DI := Lib.hid di
    have DS := Lib.hid ds
    have AI := Lib.hid ai
    have AS := Lib.hid as'
    clear di ds ai as' e1 e2 e3
    go_wp2_with fail
    refine (DI.out _).mono ?_
    rintro e w2 ⟨rfl, hb⟩
    have HB2 := Lib.hid (HB1.out.trans (hb.mono HB1.out.size))
    have HR2 := Lib.hid (HR1.out.below hb HR1.out.apart)
    clear hb
    go_wp2_with (go_at_call 17; refine (DS.out _).mono ?_; rintro e w' ⟨rfl, rfl⟩)
    refine (AI.out _).mono ?_
    rintro e w3 ⟨rfl, hb⟩
    have HB3 := Lib.hid (HB2.out.trans (hb.mono HB2.out.size))
    have HR3 := Lib.hid (HR2.out.below hb HR2.out.apart)
    clear hb
    go_wp2_with (go_at_call 19; refine (AS.out _).mono ?_; rintro e w' ⟨rfl, rfl⟩)
    refine (drawPVal _ _ _ _ _ HR3.out).mono ?_
    rintro e w4 ⟨al, l, c, xs, r, rfl, hI, hl, hb⟩
    have HB4 := Lib.hid (HB3.out.trans (hb.mono HB3.out.size))
    have HI4 := Lib.hid hI
    clear hb hI HR1 HR2 HR3 DI DS AI AS
    go_wp2_with fail
    refine (pv_impl xs _ _ _ _ _ HI4.out).mono ?_
    rintro e w5 ⟨rfl, hb⟩
    have HB5 := Lib.hid (HB4.out.trans (hb.mono HB4.out.size))
    have HI5 := Lib.hid (HI4.out.step hb)
    clear hb
    go_wp2_with fail
    refine (pv_spec xs _ _ _ _ _ HI5.out).mono ?_
    rintro e w6 ⟨rfl, hb⟩
    have HB6 := Lib.hid (HB5.out.trans (hb.mono HB5.out.size))
    have HI6 := Lib.hid (HI5.out.step hb)
    clear hb HB1 HB2 HB3 HB4 HB5 HI4 HI5
    have hls := fun h => lsumI_any xs al l c w6 HI6.out h
    obtain ⟨S, hS⟩ : ∃ S, xs.sum = S := ⟨_, rfl⟩
    obtain ⟨pe, hpe⟩ : ∃ y, pvE xs r = y := ⟨_, rfl⟩
    obtain ⟨pv, hpv⟩ : ∃ y, pvV xs r = y := ⟨_, rfl⟩
    have hcase : (pe == 0) = false ∨ ((pe == 0) = true ∧ SumsFit xs ∧ pv ≤ S ∧ ((r == 0) = false ∨ (r == 0) = true ∧ pv = S)) := by
      subst hS hpe hpv
      by_cases h : pvB xs r = true
      · obtain ⟨g1, g2, g3, g4, g5⟩ := pv_law xs r h
        refine .inr ⟨by simp [g2], g1, g3, ?_⟩
        by_cases hr : r = 0
        · exact .inr ⟨by simp [hr], g4 hr⟩
        · exact .inl (by simpa using hr)
      · exact .inl (by simp [pvE, h])
    simp only [hS] at hls
    rw [hpe, hpv]
    have HLS := Lib.hid hls
    clear hls hS hpe hpv
    have di := fun W => do_impl x (y - 1) W
    have ai := fun W => ca_impl x (y - 1) W
    rcases hE with h1 | ⟨h1, h2, h3, h4⟩ | ⟨h1, h2, y0, y1, V2, A2, q1, q2, q3, q4, q5, q6, q7, q8, q9⟩
    all_goals
      (try simp only [q1, q3] at di)
      (try simp only [q2, q3] at ai)
      have DI := Lib.hid di
      have AI := Lib.hid ai
      clear di ai
      (try clear q1 q2 q3)
      rcases hcase with k1 | ⟨k1, k2, k3, k4 | ⟨k4, rfl⟩⟩
      all_goals
        (try have HF := Lib.hid k2)
        (try clear k2)
        go_wp2_with (first | (go_at_call 23; ((with_reducible refine (HLS.out HF.out).mono ?_); rintro e w' ⟨rfl, rfl⟩)) | (go_at_call 16; ((with_reducible refine (DI.out _).mono ?_); rintro e w7 ⟨rfl, hb7⟩)) | (go_at_call 18; ((with_reducible refine (AI.out _).mono ?_); rintro e w8 ⟨rfl, hb8⟩)))
        go_ret
        first
        | exact ⟨rfl, HB6.out⟩
        | exact ⟨rfl, (HB6.out.trans (hb7.mono HB6.out.size)).trans (hb8.mono (HB6.out.trans (hb7.mono HB6.out.size)).size)⟩

end Go.Proofs.Ythennmhmnimpfaa
