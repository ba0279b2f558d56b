/- Whether a life table is one: what both functions return; codes of a table and an age. -/
import Derived.Test.YtmcagpcldjopjaaTab
import Derived.Test.YtmcagpcldjopjaaDiv
namespace Go.Proofs.Ytmcagpcldjopjaa
open Go.ChangeShapes Go.WideShapes Go.ChangeAt Go.RowKit
set_option linter.unusedVariables false

theorem Ints.on {w w1 : World} {a : Option Addr} {l : Nat} {xs : List Int} (h : Ints w a l xs) (hb : Below w.heap.size w w1) : Ints w1 a l xs := h.below hb h.lt

/-- a number of the list, in its cell -/
theorem Ints.at {w : World} {a : Option Addr} {l : Nat} {xs : List Int} (h : Ints w a l xs) (hl : 0 < l) : ∃ b off, a = some ⟨b, off, none⟩ ∧ b < w.heap.size ∧ ∀ i, i < l → w.cell? ⟨b, off + i, none⟩ = some (.int .i64 (xs.getD i 0)) := by
  rcases h.cells with h0 | ⟨b, off, rfl, hc⟩
  · omega
  · exact ⟨b, off, rfl, block_lt (hc 0 hl), hc⟩

theorem ltB_no {f : Int} {xs : List Int} (h : ltB f xs = true → False) : ltB f xs = false := by
  rw [Bool.eq_false_iff]; exact h

theorem end_any (f : Int) (xs : List Int) (a : Option Addr) (l c : Nat) (w : World) (hl : l ≤ 1000000) (h0 : 0 ≤ f) (h1 : f ≤ 1000) :
    Calls Try.prog 78 #[.agg #[.int .i64 f, .slice a l c]] w fun e w' => e = .returned (.int .i64 (f + l - 1)) ∧ Below w.heap.size w w' := by
  go_enter Try.func78, Try.ntmps78
  go_wp2_with fail
  go_ret
  exact ⟨rfl, (Below.refl _ _).alloc (Nat.le_refl _) _⟩

theorem isL_spec (f : Int) (xs : List Int) (a : Option Addr) (l c : Nat) (w : World) (h : Ints w a l xs) :
    Calls Try.prog 84 #[.agg #[.int .i64 f, .slice a l c]] w fun e w' => e = .returned (.bool (ltB f xs)) ∧ Below w.heap.size w w' := by
  have hm := h.max
  have HL := Lib.hid h.len
  by_cases c1 : (l : Int) < 2
  · have HR : Hid (ltB f xs = false) := Lib.hid (ltB_no fun e => by have := ((ltB_iff _ _).1 e).2.1.1; have := HL.out; omega)
    go_enter Try.func84, Try.ntmps84
    go_wp2_with fail
    go_ret
    exact ⟨ret_bool HR.out.symm, (Below.refl _ _).alloc (Nat.le_refl _) _⟩
  by_cases c2 : (120 : Int) < l
  · have HR : Hid (ltB f xs = false) := Lib.hid (ltB_no fun e => by have := ((ltB_iff _ _).1 e).2.1.2; have := HL.out; omega)
    go_enter Try.func84, Try.ntmps84
    go_wp2_with fail
    go_ret
    exact ⟨ret_bool HR.out.symm, (Below.refl _ _).alloc (Nat.le_refl _) _⟩
  by_cases c3 : inB f 0 100 = true
  case neg =>
    have HR : Hid (ltB f xs = false) := Lib.hid (ltB_no fun e => by have := ((ltB_iff _ _).1 e).1; rw [inB_iff] at c3; exact c3 this)
    go_enter Try.func84, Try.ntmps84
    go_wp2_with (go_at_call 74; refine (in_any _ _ _ _).mono ?_; rintro e w' ⟨rfl, rfl⟩)
    go_ret
    exact ⟨ret_bool HR.out.symm, (Below.refl _ _).alloc (Nat.le_refl _) _⟩
  obtain ⟨f0, f1⟩ := (inB_iff _ _ _).1 c3
  obtain ⟨b, off, rfl, hb, hc⟩ := h.at (by omega)
  have hx0 := hc 0 (by omega)
  have hxl := hc (l - 1) (by omega)
  obtain ⟨u, hu⟩ : ∃ u, xs.getD 0 0 = u := ⟨_, rfl⟩
  obtain ⟨v, hv⟩ : ∃ v, xs.getD (l - 1) 0 = v := ⟨_, rfl⟩
  rw [hu, Nat.add_zero] at hx0
  rw [hv] at hxl
  have hn1 : ((l : Int) - 1).toNat = l - 1 := by omega
  have HU := Lib.hid hu
  have HV := Lib.hid hv
  have HC := Lib.hid hc
  have H := Lib.hid h
  clear hu hv hc h
  by_cases c4 : inB u 1 1000000 = true
  case neg =>
    have HR : Hid (ltB f xs = false) := Lib.hid (ltB_no fun e => by have := ((ltB_iff _ _).1 e).2.2.2.1; rw [HU.out] at this; rw [inB_iff] at c4; exact c4 this)
    go_enter Try.func84, Try.ntmps84
    go_wp2_with (go_at_call 74; refine (in_any _ _ _ _).mono ?_; rintro e w' ⟨rfl, rfl⟩)
    go_ret
    exact ⟨ret_bool HR.out.symm, (Below.refl _ _).alloc (Nat.le_refl _) _⟩
  by_cases c5 : v = 0
  case neg =>
    have HR : Hid (ltB f xs = false) := Lib.hid (ltB_no fun e => by have := ((ltB_iff _ _).1 e).2.2.2.2.1; rw [HL.out, HV.out] at this; exact c5 this)
    have hne : (v != 0) = true := by simpa using c5
    clear c5
    go_enter Try.func84, Try.ntmps84
    go_wp2_with (go_at_call 74; refine (in_any _ _ _ _).mono ?_; rintro e w' ⟨rfl, rfl⟩)
    go_ret
    exact ⟨ret_bool HR.out.symm, (Below.refl _ _).alloc (Nat.le_refl _) _⟩
  subst c5
  by_cases c6 : (150 : Int) < f + l - 1
  · have HR : Hid (ltB f xs = false) := Lib.hid (ltB_no fun e => by have := ((ltB_iff _ _).1 e).2.2.1; have := HL.out; omega)
    go_enter Try.func84, Try.ntmps84
    go_wp2_with (go_at_call 74; refine (in_any _ _ _ _).mono ?_; rintro e w' ⟨rfl, rfl⟩)
    go_ret
    exact ⟨ret_bool HR.out.symm, (Below.refl _ _).alloc (Nat.le_refl _) _⟩
  obtain ⟨u0, u1⟩ := (inB_iff _ _ _).1 c4
  have q3 : IntKind.i64.wrap ((l : Int) - 1) = (l : Int) - 1 := IntWalk.i64_in _ (by omega)
  go_enter Try.func84, Try.ntmps84
  go_wp2_with (go_at_call 74; refine (in_any _ _ _ _).mono ?_; rintro e w' ⟨rfl, rfl⟩)
  have HB : Hid (Below w.heap.size w (w.alloc (.cells #[.int .i64 f, .slice (some ⟨b, off, none⟩) l c] 26))) := Lib.hid ((Below.refl _ _).alloc (Nat.le_refl _) _)
  have HI := Lib.hid (H.out.on HB.out)
  have HN : Hid ((w.alloc (.cells #[.int .i64 f, .slice (some ⟨b, off, none⟩) l c] 26)).cell? ⟨w.heap.size, 1, none⟩ = some (.slice (some ⟨b, off, none⟩) l c)) := Lib.hid (World.cell?_alloc_new _ _ _ _)
  go_loopw [4] (fun i wr => ∃ k : Nat, 1 ≤ k ∧ k ≤ l ∧ i = .int .i64 k ∧ Hid (∀ j, 1 ≤ j → j < k → xs.getD j 0 ≤ xs.getD (j - 1) 0 ∧ (j + 1 < l → 1 ≤ xs.getD j 0)) ∧ Hid (∃ n, wr = (w.alloc (.cells #[.int .i64 f, .slice (some ⟨b, off, none⟩) l c] 26)).drewN n)) (fun i _ => l - (intOf i).toNat)
  case atStart => exact ⟨1, by omega, by omega, rfl, Lib.hid (fun j _ _ => by omega), Lib.hid ⟨0, rfl⟩⟩
  case round =>
    obtain ⟨k, hk1, hk, rfl, HK, HW⟩ := hrel
    have hbox : wr.cell? ⟨w.heap.size, 1, none⟩ = some (.slice (some ⟨b, off, none⟩) l c) := by obtain ⟨n, rfl⟩ := HW.out; exact HN.out
    have hcell : ∀ i, i < l → wr.cell? ⟨b, off + i, none⟩ = some (.int .i64 (xs.getD i 0)) := by
      obtain ⟨n, rfl⟩ := HW.out
      intro i hi
      exact (HB.out.cell (p := ⟨b, off + i, none⟩) hb).trans (HC.out i hi)
    by_cases hlt : k < l
    · have hx := hcell k hlt
      have hy := hcell (k - 1) (by omega)
      obtain ⟨x, hx0⟩ : ∃ x, xs.getD k 0 = x := ⟨_, rfl⟩
      obtain ⟨y, hy0⟩ : ∃ y, xs.getD (k - 1) 0 = y := ⟨_, rfl⟩
      rw [hx0] at hx
      rw [hy0] at hy
      have HX := Lib.hid hx0
      have HY := Lib.hid hy0
      have q1 : IntKind.i64.wrap ((k : Int) - 1) = (k : Int) - 1 := IntWalk.i64_in _ (by omega)
      have q2 : ((k : Int) - 1).toNat = k - 1 := by omega
      have q4 : k - 1 < l := by omega
      clear hx0 hy0 hcell
      by_cases h1 : y < x
      · have HR : Hid (ltB f xs = false) := Lib.hid (ltB_no fun e => by have := (((ltB_iff _ _).1 e).2.2.2.2.2 k (by rw [HL.out]; exact hlt) hk1).1; rw [HX.out, HY.out] at this; omega)
        go_wp2_with fail
        go_quiet (fail)
        go_wp2_with fail
        go_ret
        exact ⟨ret_bool HR.out.symm, by obtain ⟨n, hn⟩ := HW.out; rw [hn]; exact below_drewN (below_drewN HB.out _) _⟩
      · have h1' : decide (y < x) = false := by simpa using h1
        by_cases h2 : (k : Int) < (l : Int) - 1
        · by_cases h3 : x < 1
          · have HR : Hid (ltB f xs = false) := Lib.hid (ltB_no fun e => by have := (((ltB_iff _ _).1 e).2.2.2.2.2 k (by rw [HL.out]; exact hlt) hk1).2 (by rw [HL.out]; omega); rw [HX.out] at this; omega)
            go_wp2_with fail
            go_quiet (fail)
            go_wp2_with fail
            go_ret
            exact ⟨ret_bool HR.out.symm, by obtain ⟨n, hn⟩ := HW.out; rw [hn]; exact below_drewN (below_drewN HB.out _) _⟩
          · have h3' : decide (x < 1) = false := by simpa using h3
            go_wp2_with fail
            go_quiet (fail)
            go_wp2_with fail
            go_roundw
            case rel => exact ⟨k + 1, by omega, by omega, by go_num, Lib.hid (fun j j1 j2 => by
              by_cases hj : j = k
              · subst hj; rw [HX.out, HY.out]; omega
              · exact HK.out j j1 (by omega)), Lib.hid (by obtain ⟨n, hn⟩ := HW.out; exact ⟨n + nq, by rw [hn, World.drewN_drewN]⟩)⟩
            case measure => simp [intOf]; omega
        · have h2' : decide ((k : Int) < (l : Int) - 1) = false := by simpa using h2
          go_wp2_with fail
          go_quiet (fail)
          go_wp2_with fail
          go_roundw
          case rel => exact ⟨k + 1, by omega, by omega, by go_num, Lib.hid (fun j j1 j2 => by
            by_cases hj : j = k
            · subst hj; rw [HX.out, HY.out]; omega
            · exact HK.out j j1 (by omega)), Lib.hid (by obtain ⟨n, hn⟩ := HW.out; exact ⟨n + nq, by rw [hn, World.drewN_drewN]⟩)⟩
          case measure => simp [intOf]; omega
    · clear hcell
      obtain rfl : k = l := by omega
      have HR : Hid (ltB f xs = true) := Lib.hid (ltB_t ⟨⟨f0, f1⟩, by have := HL.out; omega, by have := HL.out; omega, by rw [HU.out]; exact ⟨u0, u1⟩, by rw [HL.out]; exact HV.out, fun i hi h1 => by rw [HL.out] at hi ⊢; exact HK.out i h1 hi⟩)
      go_wp2_with fail
      go_ret
      exact ⟨ret_bool HR.out.symm, by obtain ⟨n, hn⟩ := HW.out; rw [hn]; exact below_drewN HB.out _⟩

end Go.Proofs.Ytmcagpcldjopjaa
