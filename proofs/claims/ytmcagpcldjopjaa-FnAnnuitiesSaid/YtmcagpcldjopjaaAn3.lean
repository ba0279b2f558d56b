/- Merged: TabI, TabJ, TabC, TabD, ByAge, Gcd. -/
import Derived.Test.YtmcagpcldjopjaaAn2
import Derived.Deep.RegionHeld3
import Derived.Deep.WholeRow
import Derived.Deep.RegionLaw
import Derived.Laws.CopyOwn

/- Whether a life table is one: what both functions return; codes of a table and an age. -/
namespace Go.Proofs.Ytmcagpcldjopjaa
open Go.ChangeShapes Go.WideShapes Go.ChangeAt Go.RowKit
set_option linter.unusedVariables false

theorem Ints.on {w w1 : World} {a : Option Addr} {l : Nat} {xs : List Int} (h : Ints w a l xs) (hb : Below w.heap.size w w1) : Ints w1 a l xs := h.below hb h.lt

/-- a number of the list, in its cell -/
theorem Ints.at {w : World} {a : Option Addr} {l : Nat} {xs : List Int} (h : Ints w a l xs) (hl : 0 < l) : ∃ b off, a = some ⟨b, off, none⟩ ∧ b < w.heap.size ∧ ∀ i, i < l → w.cell? ⟨b, off + i, none⟩ = some (.int .i64 (xs.getD i 0)) := by
  rcases h.cells with h0 | ⟨b, off, rfl, hc⟩
  · omega
  · exact ⟨b, off, rfl, block_lt (hc 0 hl), hc⟩

theorem ltB_no {f : Int} {xs : List Int} (h : ltB f xs = true → False) : ltB f xs = false := by
  rw [Bool.eq_false_iff]; exact h

theorem end_any (f : Int) (xs : List Int) (a : Option Addr) (l c : Nat) (w : World) (hl : l ≤ 1000000) (h0 : 0 ≤ f) (h1 : f ≤ 1000) :
    Calls Try.prog 78 #[.agg #[.int .i64 f, .slice a l c]] w fun e w' => e = .returned (.int .i64 (f + l - 1)) ∧ Below w.heap.size w w' := by
  go_enter Try.func78, Try.ntmps78
  go_wp2_with fail
  go_ret
  exact ⟨rfl, (Below.refl _ _).alloc (Nat.le_refl _) _⟩

theorem isL_spec (f : Int) (xs : List Int) (a : Option Addr) (l c : Nat) (w : World) (h : Ints w a l xs) :
    Calls Try.prog 84 #[.agg #[.int .i64 f, .slice a l c]] w fun e w' => e = .returned (.bool (ltB f xs)) ∧ Below w.heap.size w w' := by
  have hm := h.max
  have HL := Lib.hid h.len
  by_cases c1 : (l : Int) < 2
  · have HR : Hid (ltB f xs = false) := Lib.hid (ltB_no fun e => by have := ((ltB_iff _ _).1 e).2.1.1; have := HL.out; omega)
    go_enter Try.func84, Try.ntmps84
    go_wp2_with fail
    go_ret
    exact ⟨ret_bool HR.out.symm, (Below.refl _ _).alloc (Nat.le_refl _) _⟩
  by_cases c2 : (120 : Int) < l
  · have HR : Hid (ltB f xs = false) := Lib.hid (ltB_no fun e => by have := ((ltB_iff _ _).1 e).2.1.2; have := HL.out; omega)
    go_enter Try.func84, Try.ntmps84
    go_wp2_with fail
    go_ret
    exact ⟨ret_bool HR.out.symm, (Below.refl _ _).alloc (Nat.le_refl _) _⟩
  by_cases c3 : inB f 0 100 = true
  case neg =>
    have HR : Hid (ltB f xs = false) := Lib.hid (ltB_no fun e => by have := ((ltB_iff _ _).1 e).1; rw [inB_iff] at c3; exact c3 this)
    go_enter Try.func84, Try.ntmps84
    go_wp2_with (go_at_call 74; refine (in_any _ _ _ _).mono ?_; rintro e w' ⟨rfl, rfl⟩)
    go_ret
    exact ⟨ret_bool HR.out.symm, (Below.refl _ _).alloc (Nat.le_refl _) _⟩
  obtain ⟨f0, f1⟩ := (inB_iff _ _ _).1 c3
  obtain ⟨b, off, rfl, hb, hc⟩ := h.at (by omega)
  have hx0 := hc 0 (by omega)
  have hxl := hc (l - 1) (by omega)
  obtain ⟨u, hu⟩ : ∃ u, xs.getD 0 0 = u := ⟨_, rfl⟩
  obtain ⟨v, hv⟩ : ∃ v, xs.getD (l - 1) 0 = v := ⟨_, rfl⟩
  rw [hu, Nat.add_zero] at hx0
  rw [hv] at hxl
  have hn1 : ((l : Int) - 1).toNat = l - 1 := by omega
  have HU := Lib.hid hu
  have HV := Lib.hid hv
  have HC := Lib.hid hc
  have H := Lib.hid h
  clear hu hv hc h
  by_cases c4 : inB u 1 1000000 = true
  case neg =>
    have HR : Hid (ltB f xs = false) := Lib.hid (ltB_no fun e => by have := ((ltB_iff _ _).1 e).2.2.2.1; rw [HU.out] at this; rw [inB_iff] at c4; exact c4 this)
    go_enter Try.func84, Try.ntmps84
    go_wp2_with (go_at_call 74; refine (in_any _ _ _ _).mono ?_; rintro e w' ⟨rfl, rfl⟩)
    go_ret
    exact ⟨ret_bool HR.out.symm, (Below.refl _ _).alloc (Nat.le_refl _) _⟩
  by_cases c5 : v = 0
  case neg =>
    have HR : Hid (ltB f xs = false) := Lib.hid (ltB_no fun e => by have := ((ltB_iff _ _).1 e).2.2.2.2.1; rw [HL.out, HV.out] at this; exact c5 this)
    have hne : (v != 0) = true := by simpa using c5
    clear c5
    go_enter Try.func84, Try.ntmps84
    go_wp2_with (go_at_call 74; refine (in_any _ _ _ _).mono ?_; rintro e w' ⟨rfl, rfl⟩)
    go_ret
    exact ⟨ret_bool HR.out.symm, (Below.refl _ _).alloc (Nat.le_refl _) _⟩
  subst c5
  by_cases c6 : (150 : Int) < f + l - 1
  · have HR : Hid (ltB f xs = false) := Lib.hid (ltB_no fun e => by have := ((ltB_iff _ _).1 e).2.2.1; have := HL.out; omega)
    go_enter Try.func84, Try.ntmps84
    go_wp2_with (go_at_call 74; refine (in_any _ _ _ _).mono ?_; rintro e w' ⟨rfl, rfl⟩)
    go_ret
    exact ⟨ret_bool HR.out.symm, (Below.refl _ _).alloc (Nat.le_refl _) _⟩
  obtain ⟨u0, u1⟩ := (inB_iff _ _ _).1 c4
  have q3 : IntKind.i64.wrap ((l : Int) - 1) = (l : Int) - 1 := IntWalk.i64_in _ (by omega)
  go_enter Try.func84, Try.ntmps84
  go_wp2_with (go_at_call 74; refine (in_any _ _ _ _).mono ?_; rintro e w' ⟨rfl, rfl⟩)
  have HB : Hid (Below w.heap.size w (w.alloc (.cells #[.int .i64 f, .slice (some ⟨b, off, none⟩) l c] 26))) := Lib.hid ((Below.refl _ _).alloc (Nat.le_refl _) _)
  have HI := Lib.hid (H.out.on HB.out)
  have HN : Hid ((w.alloc (.cells #[.int .i64 f, .slice (some ⟨b, off, none⟩) l c] 26)).cell? ⟨w.heap.size, 1, none⟩ = some (.slice (some ⟨b, off, none⟩) l c)) := Lib.hid (World.cell?_alloc_new _ _ _ _)
  go_loopw [4] (fun i wr => ∃ k : Nat, 1 ≤ k ∧ k ≤ l ∧ i = .int .i64 k ∧ Hid (∀ j, 1 ≤ j → j < k → xs.getD j 0 ≤ xs.getD (j - 1) 0 ∧ (j + 1 < l → 1 ≤ xs.getD j 0)) ∧ Hid (∃ n, wr = (w.alloc (.cells #[.int .i64 f, .slice (some ⟨b, off, none⟩) l c] 26)).drewN n)) (fun i _ => l - (intOf i).toNat)
  case atStart => exact ⟨1, by omega, by omega, rfl, Lib.hid (fun j _ _ => by omega), Lib.hid ⟨0, rfl⟩⟩
  case round =>
    obtain ⟨k, hk1, hk, rfl, HK, HW⟩ := hrel
    have hbox : wr.cell? ⟨w.heap.size, 1, none⟩ = some (.slice (some ⟨b, off, none⟩) l c) := by obtain ⟨n, rfl⟩ := HW.out; exact HN.out
    have hcell : ∀ i, i < l → wr.cell? ⟨b, off + i, none⟩ = some (.int .i64 (xs.getD i 0)) := by
      obtain ⟨n, rfl⟩ := HW.out
      intro i hi
      exact (HB.out.cell (p := ⟨b, off + i, none⟩) hb).trans (HC.out i hi)
    by_cases hlt : k < l
    · have hx := hcell k hlt
      have hy := hcell (k - 1) (by omega)
      obtain ⟨x, hx0⟩ : ∃ x, xs.getD k 0 = x := ⟨_, rfl⟩
      obtain ⟨y, hy0⟩ : ∃ y, xs.getD (k - 1) 0 = y := ⟨_, rfl⟩
      rw [hx0] at hx
      rw [hy0] at hy
      have HX := Lib.hid hx0
      have HY := Lib.hid hy0
      have q1 : IntKind.i64.wrap ((k : Int) - 1) = (k : Int) - 1 := IntWalk.i64_in _ (by omega)
      have q2 : ((k : Int) - 1).toNat = k - 1 := by omega
      have q4 : k - 1 < l := by omega
      clear hx0 hy0 hcell
      by_cases h1 : y < x
      · have HR : Hid (ltB f xs = false) := Lib.hid (ltB_no fun e => by have := (((ltB_iff _ _).1 e).2.2.2.2.2 k (by rw [HL.out]; exact hlt) hk1).1; rw [HX.out, HY.out] at this; omega)
        go_wp2_with fail
        go_quiet (fail)
        go_wp2_with fail
        go_ret
        exact ⟨ret_bool HR.out.symm, by obtain ⟨n, hn⟩ := HW.out; rw [hn]; exact below_drewN (below_drewN HB.out _) _⟩
      · have h1' : decide (y < x) = false := by simpa using h1
        by_cases h2 : (k : Int) < (l : Int) - 1
        · by_cases h3 : x < 1
          · have HR : Hid (ltB f xs = false) := Lib.hid (ltB_no fun e => by have := (((ltB_iff _ _).1 e).2.2.2.2.2 k (by rw [HL.out]; exact hlt) hk1).2 (by rw [HL.out]; omega); rw [HX.out] at this; omega)
            go_wp2_with fail
            go_quiet (fail)
            go_wp2_with fail
            go_ret
            exact ⟨ret_bool HR.out.symm, by obtain ⟨n, hn⟩ := HW.out; rw [hn]; exact below_drewN (below_drewN HB.out _) _⟩
          · have h3' : decide (x < 1) = false := by simpa using h3
            go_wp2_with fail
            go_quiet (fail)
            go_wp2_with fail
            go_roundw
            case rel => exact ⟨k + 1, by omega, by omega, by go_num, Lib.hid (fun j j1 j2 => by
              by_cases hj : j = k
              · subst hj; rw [HX.out, HY.out]; omega
              · exact HK.out j j1 (by omega)), Lib.hid (by obtain ⟨n, hn⟩ := HW.out; exact ⟨n + nq, by rw [hn, World.drewN_drewN]⟩)⟩
            case measure => simp [intOf]; omega
        · have h2' : decide ((k : Int) < (l : Int) - 1) = false := by simpa using h2
          go_wp2_with fail
          go_quiet (fail)
          go_wp2_with fail
          go_roundw
          case rel => exact ⟨k + 1, by omega, by omega, by go_num, Lib.hid (fun j j1 j2 => by
            by_cases hj : j = k
            · subst hj; rw [HX.out, HY.out]; omega
            · exact HK.out j j1 (by omega)), Lib.hid (by obtain ⟨n, hn⟩ := HW.out; exact ⟨n + nq, by rw [hn, World.drewN_drewN]⟩)⟩
          case measure => simp [intOf]; omega
    · clear hcell
      obtain rfl : k = l := by omega
      have HR : Hid (ltB f xs = true) := Lib.hid (ltB_t ⟨⟨f0, f1⟩, by have := HL.out; omega, by have := HL.out; omega, by rw [HU.out]; exact ⟨u0, u1⟩, by rw [HL.out]; exact HV.out, fun i hi h1 => by rw [HL.out] at hi ⊢; exact HK.out i h1 hi⟩)
      go_wp2_with fail
      go_ret
      exact ⟨ret_bool HR.out.symm, by obtain ⟨n, hn⟩ := HW.out; rw [hn]; exact below_drewN HB.out _⟩

end Go.Proofs.Ytmcagpcldjopjaa

/- Whether a life table is one: what the program's function returns. -/
namespace Go.Proofs.Ytmcagpcldjopjaa
open Go.ChangeShapes Go.WideShapes Go.ChangeAt Go.RowKit
set_option linter.unusedVariables false

theorem isL_impl (f : Int) (xs : List Int) (a : Option Addr) (l c : Nat) (w : World) (h : Ints w a l xs) (hlc : l ≤ c) :
    Calls Try.prog 86 #[.agg #[.int .i64 f, .slice a l c]] w fun e w' => e = .returned (.bool (ltB f xs)) ∧ Below w.heap.size w w' := by
  have hm := h.max
  have HL := Lib.hid h.len
  by_cases c3 : inB f 0 100 = true
  case neg =>
    have HR : Hid (ltB f xs = false) := Lib.hid (ltB_no fun e => by have := ((ltB_iff _ _).1 e).1; rw [inB_iff] at c3; exact c3 this)
    go_enter Try.func86, Try.ntmps86
    go_wp2_with (go_at_call 70; refine (within_any _ _ _ _).mono ?_; rintro e w' ⟨rfl, rfl⟩)
    go_ret
    exact ⟨ret_bool HR.out.symm, (Below.refl _ _).alloc (Nat.le_refl _) _⟩
  obtain ⟨f0, f1⟩ := (inB_iff _ _ _).1 c3
  by_cases c1 : inB (l : Int) 2 120 = true
  case neg =>
    have HR : Hid (ltB f xs = false) := Lib.hid (ltB_no fun e => by have := ((ltB_iff _ _).1 e).2.1; rw [inB_iff] at c1; have := HL.out; omega)
    go_enter Try.func86, Try.ntmps86
    go_wp2_with (go_at_call 70; refine (within_any _ _ _ _).mono ?_; rintro e w' ⟨rfl, rfl⟩)
    go_ret
    exact ⟨ret_bool HR.out.symm, (Below.refl _ _).alloc (Nat.le_refl _) _⟩
  obtain ⟨l0, l1⟩ := (inB_iff _ _ _).1 c1
  obtain ⟨b, off, rfl, hb, hc⟩ := h.at (by omega)
  have HC := Lib.hid hc
  have H := Lib.hid h
  clear hc h
  by_cases c6 : (150 : Int) < f + l - 1
  · have HR : Hid (ltB f xs = false) := Lib.hid (ltB_no fun e => by have := ((ltB_iff _ _).1 e).2.2.1; have := HL.out; omega)
    go_enter Try.func86, Try.ntmps86
    go_wp2_with (first | (go_at_call 70; refine (within_any _ _ _ _).mono ?_; rintro e w' ⟨rfl, rfl⟩) | (go_at_call 78; refine (end_any _ xs _ _ _ _ (by omega) (by omega) (by omega)).mono ?_; rintro e w1 ⟨rfl, hb1⟩; have HB1 := Lib.hid (((Below.refl w.heap.size w).alloc (Nat.le_refl _) (.cells #[.int .i64 f, .slice (some ⟨b, off, none⟩) l c] 26)).trans (hb1.mono (by simp))); clear hb1))
    go_ret
    exact ⟨ret_bool HR.out.symm, HB1.out⟩
  have q3 : IntKind.i64.wrap ((l : Int) - 1) = (l : Int) - 1 := IntWalk.i64_in _ (by omega)
  have q4 : ((l : Int) - 1).toNat = l - 1 := by omega
  go_enter Try.func86, Try.ntmps86
  go_wp2_with (first | (go_at_call 70; refine (within_any _ _ _ _).mono ?_; rintro e w' ⟨rfl, rfl⟩) | (go_at_call 78; refine (end_any _ xs _ _ _ _ (by omega) (by omega) (by omega)).mono ?_; rintro e w1 ⟨rfl, hb1⟩; have HB1 := Lib.hid (((Below.refl w.heap.size w).alloc (Nat.le_refl _) (.cells #[.int .i64 f, .slice (some ⟨b, off, none⟩) l c] 26)).trans (hb1.mono (by simp))); have hbox : w1.cell? ⟨w.heap.size, 1, none⟩ = some (.slice (some ⟨b, off, none⟩) l c) := (hb1.cell (p := ⟨w.heap.size, 1, none⟩) (by simp)).trans (World.cell?_alloc_new _ _ _ _); clear hb1))
  have hcell : ∀ i, i < l → w1.cell? ⟨b, off + i, none⟩ = some (.int .i64 (xs.getD i 0)) := fun i hi => (HB1.out.cell (p := ⟨b, off + i, none⟩) hb).trans (HC.out i hi)
  have HCW := Lib.hid hcell
  clear hcell
  go_loop [4, 32] (fun s i => ∃ (k : Nat) (p : Int), k ≤ l - 1 ∧ i = .int .i64 k ∧ s = .int .i64 p ∧ p ≤ 1000000 ∧ Hid (k = 0 ∧ p = 1000000 ∨ 1 ≤ k ∧ p = xs.getD (k - 1) 0) ∧ Hid (∀ j, j < k → 1 ≤ xs.getD j 0 ∧ (1 ≤ j → xs.getD j 0 ≤ xs.getD (j - 1) 0) ∧ xs.getD j 0 ≤ 1000000)) (fun _ i => l - (intOf i).toNat)
  case atStart => exact ⟨0, 1000000, Nat.zero_le _, rfl, rfl, by omega, Lib.hid (.inl ⟨rfl, rfl⟩), Lib.hid (fun j hj => by omega)⟩
  case round =>
    obtain ⟨k, p, hk, rfl, rfl, hp, HP, HK⟩ := hrel
    by_cases hlt : k < l - 1
    · have hx := HCW.out k (by omega)
      obtain ⟨x, hx0⟩ : ∃ x, xs.getD k 0 = x := ⟨_, rfl⟩
      rw [hx0] at hx
      have HX := Lib.hid hx0
      have hkl : (k : Int) < (l : Int) - 1 := by omega
      have hkc : k < c := by omega
      clear hx0
      by_cases hin : inB x 1 p = true
      · obtain ⟨x0, x1⟩ := (inB_iff _ _ _).1 hin
        go_wp2_with (go_at_call 70; refine (within_any _ _ _ _).mono ?_; rintro e w' ⟨rfl, rfl⟩)
        go_round
        case rel => exact ⟨k + 1, x, by omega, by go_num, rfl, by omega, Lib.hid (.inr ⟨by omega, by simpa using HX.out.symm⟩), Lib.hid (fun j hj => by
          by_cases e : j = k
          · subst e
            rw [HX.out]
            refine ⟨x0, fun h1 => ?_, by omega⟩
            rcases HP.out with ⟨h0, _⟩ | ⟨_, h2⟩
            · omega
            · omega
          · exact HK.out j (by omega))⟩
        case measure => simp [intOf]; omega
      · have HR : Hid (ltB f xs = false) := Lib.hid (ltB_no fun e => by
          have e := (ltB_iff _ _).1 e
          rw [inB_iff] at hin
          have h1 := e.pos k (by rw [HL.out]; omega)
          have h2 := e.le k
          rw [HX.out] at h1 h2
          rcases HP.out with ⟨_, rfl⟩ | ⟨hk1, rfl⟩
          · exact hin ⟨h1, h2⟩
          · have h3 := e.mono (k - 1) k (by omega)
            rw [HX.out] at h3
            exact hin ⟨h1, h3⟩)
        go_wp2_with (go_at_call 70; refine (within_any _ _ _ _).mono ?_; rintro e w' ⟨rfl, rfl⟩)
        go_ret
        exact ⟨ret_bool HR.out.symm, HB1.out⟩
    · have hkl : ¬ (k : Int) < (l : Int) - 1 := by omega
      have hx := HCW.out (l - 1) (by omega)
      obtain ⟨x, hx0⟩ : ∃ x, xs.getD (l - 1) 0 = x := ⟨_, rfl⟩
      rw [hx0] at hx
      have HX := Lib.hid hx0
      have q5 : l - 1 < c := by omega
      clear hx0
      by_cases h0 : x = 0
      · subst h0
        have HR : Hid (ltB f xs = true) := Lib.hid (ltB_t (by
          have hl := HL.out
          have K := HK.out
          refine ⟨⟨f0, f1⟩, by omega, by omega, ?_, by rw [hl]; exact HX.out, fun i hi h1 => ?_⟩
          · obtain ⟨g1, _, g3⟩ := K 0 (by omega); exact ⟨g1, g3⟩
          · by_cases e : i + 1 < l
            · obtain ⟨g1, g2, g3⟩ := K i (by omega); exact ⟨g2 h1, fun _ => g1⟩
            · obtain rfl : i = l - 1 := by omega
              rw [HX.out]
              obtain ⟨g1, _, _⟩ := K (l - 1 - 1) (by omega)
              exact ⟨by omega, fun hh => by omega⟩))
        go_wp2_with fail
        go_ret
        exact ⟨ret_bool HR.out.symm, HB1.out⟩
      · have HR : Hid (ltB f xs = false) := Lib.hid (ltB_no fun e => by
          have := ((ltB_iff _ _).1 e).2.2.2.2.1
          rw [HL.out, HX.out] at this
          exact h0 this)
        have h0' : (x == 0) = false := by simpa using h0
        clear h0
        go_wp2_with fail
        go_ret
        exact ⟨ret_bool HR.out.symm, HB1.out⟩

end Go.Proofs.Ytmcagpcldjopjaa

/- Codes of a table and an age; the lives at an age: what the calls return. -/
namespace Go.Proofs.Ytmcagpcldjopjaa
open Go.ChangeShapes Go.WideShapes Go.ChangeAt Go.RowKit
set_option linter.unusedVariables false

/-- behind a call that was made when a block of two cells had just been laid -/
theorem box2 {w w1 : World} {x y : Value} {T : TypeId} (hb : Below (w.alloc (.cells #[x, y] T)).heap.size (w.alloc (.cells #[x, y] T)) w1) :
    Below w.heap.size w w1 ∧ w1.cell? ⟨w.heap.size, 0, none⟩ = some x ∧ w1.cell? ⟨w.heap.size, 1, none⟩ = some y :=
  ⟨((Below.refl w.heap.size w).alloc (Nat.le_refl _) _).trans (hb.mono (by simp)), (hb.cell (p := ⟨w.heap.size, 0, none⟩) (by simp)).trans (World.cell?_alloc_new _ _ _ _), (hb.cell (p := ⟨w.heap.size, 1, none⟩) (by simp)).trans (World.cell?_alloc_new _ _ _ _)⟩

/-- .. and behind the next one -/
theorem keep2 {w1 w2 : World} {p : Addr} {x : Value} (hb : Below w1.heap.size w1 w2) (h : w1.cell? p = some x) : w2.cell? p = some x := (hb.cell (block_lt h)).trans h

theorem box_b (w : World) (o : Obj) : Below w.heap.size w (w.alloc o) := (Below.refl _ _).alloc (Nat.le_refl _) _

/-- years in their range, too -/
def chE (f : Int) (xs : List Int) (x y : Int) : Int := if ltB f xs = true then (if inB x f 150 = true ∧ inB y 0 150 = true then 0 else 2) else 1

theorem chE_1 {f : Int} {xs : List Int} {x y : Int} (h : ltB f xs = false) : chE f xs x y = 1 := by simp [chE, h]

theorem chE_2 {f : Int} {xs : List Int} {x y : Int} (h : ltB f xs = true) (g : ¬ (inB x f 150 = true ∧ inB y 0 150 = true)) : chE f xs x y = 2 := by unfold chE; rw [if_pos h, if_neg g]

theorem chE_0 {f : Int} {xs : List Int} {x y : Int} (h : ltB f xs = true) (g : inB x f 150 = true) (k : inB y 0 150 = true) : chE f xs x y = 0 := by unfold chE; rw [if_pos h, if_pos ⟨g, k⟩]

theorem chE_age (f : Int) (xs : List Int) (x : Int) : chE f xs x 0 = ageE f xs x := by
  unfold chE ageE
  simp only [inB_iff]
  simp

theorem chE_iff {f : Int} {xs : List Int} {x y : Int} : chE f xs x y = 0 ↔ LTab f xs ∧ (f ≤ x ∧ x ≤ 150) ∧ 0 ≤ y ∧ y ≤ 150 := by
  unfold chE; rw [← ltB_iff]
  simp only [inB_iff]
  split
  · next h => split <;> simp_all
  · next h => simp [h]

set_option maxHeartbeats 400000 in
theorem check_any (f : Int) (xs : List Int) (a : Option Addr) (l c : Nat) (x y : Int) (w : World) (h : Ints w a l xs) (hlc : l ≤ c) :
    Calls Try.prog 52 #[.agg #[.int .i64 f, .slice a l c], .int .i64 x, .int .i64 y] w fun e w' => e = .returned (.int .i64 (chE f xs x y)) ∧ Below w.heap.size w w' := by
  have H := Lib.hid h
  clear h
  by_cases h1 : ltB f xs = true
  · by_cases h2 : inB x f 150 = true
    · by_cases h3 : inB y 0 150 = true
      · have HR := Lib.hid (chE_0 h1 h2 h3)
        go_enter Try.func52, Try.ntmps52
        go_wp2_with (first | (go_at_call 70; refine (within_any _ _ _ _).mono ?_; rintro e w' ⟨rfl, rfl⟩) | (go_at_call 86; refine (isL_impl f xs _ _ _ _ (H.out.on (box_b _ _)) hlc).mono ?_; rintro e w1 ⟨rfl, hb⟩; obtain ⟨hB, hc0, hc1⟩ := box2 hb; have HB := Lib.hid hB; clear hB hb))
        go_ret
        exact ⟨ret_int HR.out.symm, HB.out⟩
      · have HR := Lib.hid (chE_2 (x := x) (y := y) h1 (fun hh => h3 hh.2))
        go_enter Try.func52, Try.ntmps52
        go_wp2_with (first | (go_at_call 70; refine (within_any _ _ _ _).mono ?_; rintro e w' ⟨rfl, rfl⟩) | (go_at_call 86; refine (isL_impl f xs _ _ _ _ (H.out.on (box_b _ _)) hlc).mono ?_; rintro e w1 ⟨rfl, hb⟩; obtain ⟨hB, hc0, hc1⟩ := box2 hb; have HB := Lib.hid hB; clear hB hb))
        go_ret
        exact ⟨ret_int HR.out.symm, HB.out⟩
    · have HR := Lib.hid (chE_2 (x := x) (y := y) h1 (fun hh => h2 hh.1))
      go_enter Try.func52, Try.ntmps52
      go_wp2_with (first | (go_at_call 70; refine (within_any _ _ _ _).mono ?_; rintro e w' ⟨rfl, rfl⟩) | (go_at_call 86; refine (isL_impl f xs _ _ _ _ (H.out.on (box_b _ _)) hlc).mono ?_; rintro e w1 ⟨rfl, hb⟩; obtain ⟨hB, hc0, hc1⟩ := box2 hb; have HB := Lib.hid hB; clear hB hb))
      go_ret
      exact ⟨ret_int HR.out.symm, HB.out⟩
  · have h1' : ltB f xs = false := by simpa using h1
    have HR := Lib.hid (chE_1 (x := x) (y := y) h1')
    clear h1
    go_enter Try.func52, Try.ntmps52
    go_wp2_with (go_at_call 86; refine (isL_impl f xs _ _ _ _ (H.out.on (box_b _ _)) hlc).mono ?_; rintro e w1 ⟨rfl, hb⟩; obtain ⟨hB, hc0, hc1⟩ := box2 hb; have HB := Lib.hid hB; clear hB hb)
    go_ret
    exact ⟨ret_int HR.out.symm, HB.out⟩

set_option maxHeartbeats 400000 in
theorem code_any (f : Int) (xs : List Int) (a : Option Addr) (l c : Nat) (x : Int) (w : World) (h : Ints w a l xs) :
    Calls Try.prog 48 #[.agg #[.int .i64 f, .slice a l c], .int .i64 x] w fun e w' => e = .returned (.int .i64 (ageE f xs x)) ∧ Below w.heap.size w w' := by
  have H := Lib.hid h
  clear h
  by_cases h1 : ltB f xs = true
  · by_cases h2 : inB x f 150 = true
    · have HR := Lib.hid (ageE_0 h1 ((inB_iff _ _ _).1 h2))
      go_enter Try.func48, Try.ntmps48
      go_wp2_with (first | (go_at_call 74; refine (in_any _ _ _ _).mono ?_; rintro e w' ⟨rfl, rfl⟩) | (go_at_call 84; refine (isL_spec f xs _ _ _ _ (H.out.on (box_b _ _))).mono ?_; rintro e w1 ⟨rfl, hb⟩; obtain ⟨hB, hc0, hc1⟩ := box2 hb; have HB := Lib.hid hB; clear hB hb))
      go_ret
      exact ⟨ret_int HR.out.symm, HB.out⟩
    · have HR := Lib.hid (ageE_2 (x := x) h1 (fun hh => h2 ((inB_iff _ _ _).2 hh)))
      go_enter Try.func48, Try.ntmps48
      go_wp2_with (first | (go_at_call 74; refine (in_any _ _ _ _).mono ?_; rintro e w' ⟨rfl, rfl⟩) | (go_at_call 84; refine (isL_spec f xs _ _ _ _ (H.out.on (box_b _ _))).mono ?_; rintro e w1 ⟨rfl, hb⟩; obtain ⟨hB, hc0, hc1⟩ := box2 hb; have HB := Lib.hid hB; clear hB hb))
      go_ret
      exact ⟨ret_int HR.out.symm, HB.out⟩
  · have h1' : ltB f xs = false := by simpa using h1
    have HR := Lib.hid (ageE_1 (x := x) h1')
    clear h1
    go_enter Try.func48, Try.ntmps48
    go_wp2_with (go_at_call 84; refine (isL_spec f xs _ _ _ _ (H.out.on (box_b _ _))).mono ?_; rintro e w1 ⟨rfl, hb⟩; obtain ⟨hB, hc0, hc1⟩ := box2 hb; have HB := Lib.hid hB; clear hB hb)
    go_ret
    exact ⟨ret_int HR.out.symm, HB.out⟩

theorem lives_any (f : Int) (xs : List Int) (a : Option Addr) (l c : Nat) (x : Int) (w : World) (h : Ints w a l xs) (f0 : 0 ≤ f) (f1 : f ≤ 100) (x0 : f ≤ x) (x1 : x ≤ 1000) :
    Calls Try.prog 49 #[.agg #[.int .i64 f, .slice a l c], .int .i64 x] w fun e w' => e = .returned (.int .i64 (lvs f xs x)) ∧ Below w.heap.size w w' := by
  have hm := h.max
  have HL := Lib.hid h.len
  have H := Lib.hid h
  clear h
  by_cases hlt : (l : Int) ≤ x - f
  · have HR : Hid (lvs f xs x = 0) := Lib.hid (getD_far _ _ (by have := HL.out; omega))
    go_enter Try.func49, Try.ntmps49
    go_wp2_with fail
    go_ret
    exact ⟨ret_int HR.out.symm, box_b _ _⟩
  · obtain ⟨b, off, rfl, hb, hc⟩ := H.out.at (by omega)
    have hx := hc (x - f).toNat (by omega)
    obtain ⟨v, hv⟩ : ∃ v, xs.getD (x - f).toNat 0 = v := ⟨_, rfl⟩
    rw [hv] at hx
    have HR : Hid (lvs f xs x = v) := Lib.hid hv
    have q1 : (x - f).toNat < l := by omega
    clear hv hc
    go_enter Try.func49, Try.ntmps49
    go_wp2_with fail
    go_ret
    exact ⟨ret_int HR.out.symm, box_b _ _⟩

theorem end_spec (f : Int) (xs : List Int) (a : Option Addr) (l c : Nat) (w : World) (hl : l ≤ 1000000) (h0 : 0 ≤ f) (h1 : f ≤ 1000) :
    Calls Try.prog 50 #[.agg #[.int .i64 f, .slice a l c]] w fun e w' => e = .returned (.int .i64 (f + l - 1)) ∧ Below w.heap.size w w' := by
  go_enter Try.func50, Try.ntmps50
  go_wp2_with fail
  go_ret
  exact ⟨rfl, box_b _ _⟩

end Go.Proofs.Ytmcagpcldjopjaa

/- LivesAt and DeathsAt of the model: what the calls return. -/
namespace Go.Proofs.Ytmcagpcldjopjaa
open Go.ChangeShapes Go.WideShapes Go.ChangeAt Go.RowKit
set_option linter.unusedVariables false

theorem laV_0 {f : Int} {xs : List Int} {x : Int} (h : ageE f xs x = 0) : laV f xs x = lvs f xs x := by simp [laV, h]

theorem laV_n {f : Int} {xs : List Int} {x : Int} (h : ¬ ageE f xs x = 0) : laV f xs x = 0 := by simp [laV, h]

theorem daV_0 {f : Int} {xs : List Int} {x : Int} (h : ageE f xs x = 0) : daV f xs x = lvs f xs x - lvs f xs (x + 1) := by simp [daV, h]

theorem daV_n {f : Int} {xs : List Int} {x : Int} (h : ¬ ageE f xs x = 0) : daV f xs x = 0 := by simp [daV, h]

end Go.Proofs.Ytmcagpcldjopjaa

/- The lives by age, as an array of the program's. -/
namespace Go.Proofs.Ytmcagpcldjopjaa
open Go.ChangeShapes Go.WideShapes Go.ChangeAt Go.RowKit
set_option linter.unusedVariables false

/-- the lives by age: 152 numbers, those of the table from its first age on -/
def byL (f : Int) (xs : List Int) : List Int := List.replicate f.toNat 0 ++ (xs ++ List.replicate (152 - (f.toNat + xs.length)) 0)

theorem byL_len (f : Int) (xs : List Int) (h : f.toNat + xs.length ≤ 152) : (byL f xs).length = 152 := by simp [byL]; omega

theorem byL_get (f : Int) (xs : List Int) (i : Nat) (h : f.toNat ≤ i) : (byL f xs).getD i 0 = xs.getD (i - f.toNat) 0 := by
  unfold byL
  rw [List.getD_eq_getElem?_getD, List.getElem?_append_right (by simpa using h), List.length_replicate, List.getD_eq_getElem?_getD]
  by_cases hi : i - f.toNat < xs.length
  · rw [List.getElem?_append_left hi]
  · rw [List.getElem?_append_right (by omega), List.getElem?_eq_none (l := xs) (by omega), List.getElem?_replicate]
    split <;> rfl

theorem LTab.fit {f : Int} {xs : List Int} (h : LTab f xs) : f.toNat + xs.length ≤ 151 := by
  have := h.1; have := h.2.2.1; omega

/-- the lives at an age, in the array -/
theorem LTab.by {f : Int} {xs : List Int} (h : LTab f xs) (x : Int) (hx : f ≤ x) : (byL f xs).getD x.toNat 0 = lvs f xs x := by
  have := h.1
  rw [byL_get _ _ _ (by omega)]
  unfold lvs
  congr 1; omega

theorem zero152 : Try.zeroCells54 = (List.replicate 152 (Value.int .i64 0)).toArray := by kernel_rfl

theorem splice_by (f : Int) (xs : List Int) (h : f.toNat + xs.length ≤ 152) : splice (List.replicate 152 (Value.int .i64 0)) f.toNat (xs.map (Value.int .i64)) = (byL f xs).map (Value.int .i64) := by
  unfold splice byL
  simp only [List.take_replicate, List.drop_replicate, List.map_append, List.map_replicate, List.length_map]
  congr 2
  omega

theorem und152 : Try.prog.underlying 54 = some (.array (Try.prog.arrayLen 54) (Try.prog.elem 54)) := by kernel_rfl

theorem len152 : Try.prog.arrayLen 54 = 152 := by kernel_rfl

theorem elem152 : Try.prog.elem 54 = 2 := by kernel_rfl

theorem slice152 (B : Nat) (f : Int) (f0 : 0 ≤ f) (f1 : f ≤ 100) (W : World) : (Instr.sliceAt 54 (.pointer (some ⟨B, 0, none⟩)) (some (.int .i64 f)) none none).run Try.prog W = .ok (.slice (some ⟨B, f.toNat, none⟩) (152 - f.toNat) (152 - f.toNat)) W := by
  rw [run_sliceAt_array_l W _ _ und152 .i64 f f0 (by rw [len152]; omega), len152, elem152]
  have hs : (sizeOf 2).run Try.prog W = .ok 1 W := by
    simp [sizeOf, go_sem]
    rfl
  rw [hs]
  simp only [Result.andThen, slicedAt]
  rw [if_neg (by omega), Go.WideShapes.add_plain]
  simp

set_option maxHeartbeats 400000 in
theorem byAge_any (f : Int) (xs : List Int) (a : Option Addr) (l c : Nat) (w : World) (h : Ints w a l xs) (ht : LTab f xs) :
    Calls Try.prog 45 #[.agg #[.int .i64 f, .slice a l c]] w fun e w' => e = .returned (.agg ((byL f xs).map (Value.int .i64)).toArray) ∧ Below w.heap.size w w' := by
  have hlen := h.len
  have hfit := ht.fit
  obtain ⟨f0, f1⟩ := ht.1
  obtain ⟨l0, l1⟩ := ht.2.1
  rw [hlen] at l0 l1
  obtain ⟨b, off, rfl, hb, hc⟩ := h.at (by omega)
  have hz := zero152
  have HB : Hid (Below w.heap.size w (((w.alloc (.cells #[.int .i64 f, .slice (some ⟨b, off, none⟩) l c] 26)).alloc (.cells Try.zeroCells54 54)).alloc (.cells Try.zeroCells54 54))) :=
    Lib.hid (((box_b _ _).alloc (by simp) _).alloc (by simp; omega) _)
  have HG : Hid ((((w.alloc (.cells #[.int .i64 f, .slice (some ⟨b, off, none⟩) l c] 26)).alloc (.cells Try.zeroCells54 54)).alloc (.cells Try.zeroCells54 54)).heap[w.heap.size + 1 + 1]? = some (.cells (List.replicate 152 (Value.int .i64 0)).toArray 54 (0, 0))) := Lib.hid (by
      have := heap_alloc_new ((w.alloc (.cells #[.int .i64 f, .slice (some ⟨b, off, none⟩) l c] 26)).alloc (.cells Try.zeroCells54 54)) (.cells Try.zeroCells54 54)
      rw [World.size_alloc, World.size_alloc] at this
      rw [this, hz])
  have HC : Hid (∀ j v, (xs.map (Value.int .i64))[j]? = some v → (((w.alloc (.cells #[.int .i64 f, .slice (some ⟨b, off, none⟩) l c] 26)).alloc (.cells Try.zeroCells54 54)).alloc (.cells Try.zeroCells54 54)).cell? ((⟨b, off, none⟩ : Addr).add j) = some v) := Lib.hid (by
      intro j v hj
      have hjl : j < l := by
        have := (List.getElem?_eq_some_iff.1 hj).1
        simpa [hlen] using this
      rw [Go.WideShapes.add_plain, HB.out.cell (p := ⟨b, off + j, none⟩) hb, hc j hjl]
      rw [List.getElem?_map, List.getElem?_eq_getElem (by omega)] at hj
      simp [List.getD, List.getElem?_eq_getElem (show j < xs.length by omega)] at hj ⊢
      exact hj)
  obtain ⟨Zs, hZs⟩ : ∃ Zs, ((byL f xs).map (Value.int .i64)).toArray = Zs := ⟨_, rfl⟩
  have HS : Hid ((splice (List.replicate 152 (Value.int .i64 0)) f.toNat (xs.map (Value.int .i64))).toArray = Zs) := Lib.hid (by rw [splice_by f xs (by omega), hZs])
  have HZ : Hid (Zs.size = 152) := Lib.hid (by rw [← hZs]; simp [byL_len f xs (by omega)])
  have HO : Hid (Zs.all (·.oneCell') = true) := Lib.hid (by rw [← hZs, Array.all_eq_true_iff_forall_mem]; intro v hv; simp at hv; obtain ⟨x, _, rfl⟩ := hv; rfl)
  have HP : Hid ((((w.alloc (.cells #[.int .i64 f, .slice (some ⟨b, off, none⟩) l c] 26)).alloc (.cells Try.zeroCells54 54)).alloc (.cells Try.zeroCells54 54)).heap[w.heap.size + 1]? = some (.cells Try.zeroCells54 54 (0, 0))) := Lib.hid (by
      rw [Below.heap_alloc _ _ _ (by simp)]
      have := heap_alloc_new (w.alloc (.cells #[.int .i64 f, .slice (some ⟨b, off, none⟩) l c] 26)) (.cells Try.zeroCells54 54)
      rw [World.size_alloc] at this
      exact this)
  have HL := Lib.hid hlen
  have hfl : f.toNat + l ≤ 151 := by omega
  have hft : f.toNat ≤ 152 := by omega
  have HZZ : Hid (Zs = ((byL f xs).map (Value.int .i64)).toArray) := Lib.hid hZs.symm
  clear hz hc hlen ht h hZs hfit
  have hsl := slice152 (w.heap.size + 1 + 1) f f0 f1
  go_enter Try.func45, Try.ntmps45
  go_wp2_with fail
  go_region_law (refine step_copy_splice rfl (.tmp 6) (.tmp 8) 24 24 rfl 2 Try.underlying24 (by kernel_rfl) (some ⟨w.heap.size + 1 + 1, f.toNat, none⟩) (some ⟨b, off, none⟩) _ _ l c (by rfl) (by rfl) (w.heap.size + 1 + 1) f.toNat (List.replicate 152 (.int .i64 0)) 54 HG.out (xs.map (.int .i64)) (by rw [List.length_map, HL.out]; exact (Nat.min_eq_left (by omega)).symm) (fun _ => ⟨rfl, ⟨b, off, none⟩, rfl, HC.out⟩) (by rw [List.length_map, HL.out, List.length_replicate]; omega) (by intro v hv; obtain ⟨x, _, rfl⟩ := List.mem_map.1 hv; rfl) (w.heap.size + 1 + 1) _ (Below.refl _ _) (by omega) ?_; intro w4 hg4 hb4)
  all_goals
    have hrow : w4.heap[w.heap.size + 1 + 1]? = some (.cells Zs 54 (0, 0)) := by rw [← HS.out]; exact hg4.out
    have hres : w4.heap[w.heap.size + 1]? = some (.cells Try.zeroCells54 54 (0, 0)) := (hb4.block (w.heap.size + 1) (by omega)).trans HP.out
    have HW : Hid (Below w.heap.size w w4) := Lib.hid (by first | exact HB.out.drew.trans (hb4.mono (by omega)) | exact HB.out.trans (hb4.mono (by omega)))
    clear hg4 hb4
    go_wp2_with (first | (refine wpList_load_row rfl 54 (.tmp 3) rfl (w.heap.size + 1 + 1) rfl 54 Zs (0, 0) _ hrow und152 rfl (by rw [HZ.out]; kernel_rfl) ?_) | (refine wpList_store_row rfl 54 (.tmp 2) (.tmp 10) rfl (w.heap.size + 1) Zs rfl rfl 54 _ hres (by rw [HZ.out]; kernel_rfl) (by rw [HZ.out]; kernel_rfl) HO.out ?_))
    refine bodyPost_ret (v := .agg Zs) (results_cell_row rfl _ _ (w.heap.size + 1) 54 Zs (0, 0) _ rfl (setRow_heap w4 _ _ Zs _ _ hres) und152 rfl (by rw [HZ.out]; kernel_rfl)) rfl ⟨by rw [HZZ.out], below_setRow HW.out (by omega) Zs⟩

/-- an array of 152 numbers -/
structure Arr (Zs : Array Value) (ys : List Int) : Prop where
  eq : Zs = (ys.map (Value.int .i64)).toArray
  len : ys.length = 152

theorem Arr.size {Zs : Array Value} {ys : List Int} (h : Arr Zs ys) : Zs.size = 152 := by rw [h.eq]; simp [h.len]

theorem Arr.one {Zs : Array Value} {ys : List Int} (h : Arr Zs ys) : Zs.all (·.oneCell') = true := by
  rw [h.eq, Array.all_eq_true_iff_forall_mem]
  intro v hv
  simp at hv
  obtain ⟨x, _, rfl⟩ := hv
  rfl

theorem Arr.get {Zs : Array Value} {ys : List Int} (h : Arr Zs ys) (i : Nat) (hi : i < 152) : Zs[i]? = some (.int .i64 (ys.getD i 0)) := by
  rw [h.eq]
  have := h.len
  simp [List.getD, show i < ys.length by omega]

theorem Arr.info {Zs : Array Value} {ys : List Int} (h : Arr Zs ys) : (Try.prog.info? 54).map (·.size) = some Zs.size := by
  rw [h.size]; kernel_rfl

theorem Arr.old {Zs : Array Value} {ys : List Int} (h : Arr Zs ys) : Try.zeroCells54.size = Zs.size := by
  rw [h.size]; kernel_rfl

def ByPost (f : Int) (xs : List Int) (w : World) (e : Ending) (w' : World) : Prop := ∃ Zs, e = .returned (.agg Zs) ∧ Arr Zs (byL f xs) ∧ Below w.heap.size w w'

theorem byAge_r (f : Int) (xs : List Int) (a : Option Addr) (l c : Nat) (w : World) (h : Ints w a l xs) (ht : LTab f xs) :
    Calls Try.prog 45 #[.agg #[.int .i64 f, .slice a l c]] w (ByPost f xs w) :=
  (byAge_any f xs a l c w h ht).mono fun e w' ⟨he, hb⟩ => ⟨_, he, ⟨rfl, byL_len _ _ (by have := ht.fit; omega)⟩, hb⟩

/-- a cell of a block that was laid with the array -/
theorem Arr.cell {Zs : Array Value} {ys : List Int} (h : Arr Zs ys) (w : World) (i : Nat) (hi : i < 152) : (w.alloc (.cells Zs 54)).cell? ⟨w.heap.size, i, none⟩ = some (.int .i64 (ys.getD i 0)) := by
  rw [World.cell?_alloc_new]; exact h.get i hi

end Go.Proofs.Ytmcagpcldjopjaa

/- CommonFactor of the program and of its model: what each call returns (the greatest common divisor), one Lean function for both. -/
namespace Go.Proofs.Ytmcagpcldjopjaa
open Go.ChangeShapes Go.WideShapes Go.ChangeAt Go.RowKit
set_option linter.unusedVariables false

def gcdI (a b : Int) : Int := ((Nat.gcd a.toNat b.toNat : Nat) : Int)

theorem gcdI_zero (a : Int) (h : 0 ≤ a) : gcdI a 0 = a := by unfold gcdI; simp; omega

theorem gcdI_step (a b : Int) (ha : 0 ≤ a) (hb : 0 < b) : gcdI b (a % b) = gcdI a b := by
  unfold gcdI
  obtain ⟨x, rfl⟩ := Int.eq_ofNat_of_zero_le ha
  obtain ⟨y, rfl⟩ := Int.eq_ofNat_of_zero_le (show 0 ≤ b by omega)
  have e : ((x : Int) % (y : Int)).toNat = x % y := by
    omega
  rw [e]
  simp only [Int.toNat_natCast]
  rw [Nat.gcd_comm y, ← Nat.gcd_rec, Nat.gcd_comm]

def cfB (a b : Int) : Bool := inB a 0 1000000000000 && inB b 0 1000000000000

def cfV (a b : Int) : Int := if cfB a b then gcdI a b else 0

def cfE (a b : Int) : Int := if cfB a b then 0 else 2

theorem factor_any (n : Nat) : ∀ (a b : Int) (w : World), b.toNat ≤ n → 0 ≤ a → 0 ≤ b → a ≤ 1000000000000 → b ≤ 1000000000000 →
    Calls Try.prog 85 #[.int .i64 a, .int .i64 b] w fun e w' => e = .returned (.int .i64 (gcdI a b)) ∧ w = w' := by
  induction n with
  | zero =>
    intro a b w hn h1 h2 h3 h4
    obtain rfl : b = 0 := by omega
    have G := Lib.hid (gcdI_zero a h1)
    go_enter Try.func85, Try.ntmps85
    go_wp2_with fail
    go_ret
    exact ⟨ret_int (G.out.symm), rfl⟩
  | succ n ih =>
    intro a b w hn h1 h2 h3 h4
    by_cases hb : b = 0
    · subst hb
      have G := Lib.hid (gcdI_zero a h1)
      go_enter Try.func85, Try.ntmps85
      go_wp2_with fail
      go_ret
      exact ⟨ret_int (G.out.symm), rfl⟩
    · have hp : 0 < b := by omega
      have G := Lib.hid (gcdI_step a b h1 hp)
      have m1 := Int.emod_nonneg a hb
      have m2 := Int.emod_lt_of_pos a hp
      go_enter Try.func85, Try.ntmps85
      go_wp2_with (go_at_call 85; refine (ih b (a % b) _ (by omega) (by omega) (by omega) (by omega) (by omega)).mono ?_; rintro e w' ⟨rfl, rfl⟩)
      go_ret
      exact ⟨ret_int G.out, rfl⟩

theorem cf_impl (a b : Int) (w : World) : Calls Try.prog 83 #[.int .i64 a, .int .i64 b] w fun e w' => e = .returned (.tuple #[.int .i64 (cfV a b), .int .i64 (cfE a b)]) ∧ ∃ n, w' = w.drewN n := by
  by_cases h1 : inB a 0 1000000000000 = true
  · obtain ⟨ha1, ha2⟩ := (inB_iff _ _ _).1 h1
    by_cases h2 : inB b 0 1000000000000 = true
    · obtain ⟨hb1, hb2⟩ := (inB_iff _ _ _).1 h2
      obtain ⟨G, hG⟩ : ∃ G, gcdI a b = G := ⟨_, rfl⟩
      have HV : Hid (cfV a b = G) := Lib.hid (by simp [cfV, cfB, h1, h2, hG])
      have HE : Hid (cfE a b = 0) := Lib.hid (by simp [cfE, cfB, h1, h2])
      have HG := Lib.hid hG
      clear hG
      go_enter Try.func83, Try.ntmps83
      go_wp2_with (go_at_call 70; refine (within_any _ _ _ _).mono ?_; rintro e w' ⟨rfl, rfl⟩)
      go_loopw [0, 1] (fun x y wr => ∃ p q : Int, x = .int .i64 p ∧ y = .int .i64 q ∧ 0 ≤ p ∧ 0 ≤ q ∧ p ≤ 1000000000000 ∧ q ≤ 1000000000000 ∧ Hid (gcdI p q = G) ∧ Hid (∃ n, wr = w.drewN n)) (fun _ y _ => (intOf y).toNat)
      case atStart => exact ⟨a, b, rfl, rfl, ha1, hb1, ha2, hb2, HG, Lib.hid ⟨0, by simp [World.drewN]⟩⟩
      case round =>
        obtain ⟨p, q, rfl, rfl, p1, q1, p2, q2, HP, HW⟩ := hrel
        by_cases hq : q = 0
        · subst hq
          have GZ := Lib.hid (gcdI_zero p p1)
          have W0 : Hid (∃ n, wr = w.drewN n) := HW
          go_wp2
          go_ret2
          exact ⟨ret_ii (by rw [HV.out, ← HP.out, GZ.out]) HE.out.symm, HW.out⟩
        · have hqp : 0 < q := by omega
          have m1 := Int.emod_nonneg p hq
          have m2 := Int.emod_lt_of_pos p hqp
          have GS := Lib.hid (gcdI_step p q p1 hqp)
          go_wp2
          go_quiet (fail)
          go_wp2
          go_roundw
          case rel => exact ⟨q, p % q, rfl, rfl, by omega, by omega, by omega, by omega, Lib.hid (by rw [GS.out, HP.out]), Lib.hid (by obtain ⟨n, hn⟩ := HW.out; exact ⟨n + nq, by rw [hn]; simp [World.drewN]; omega⟩)⟩
          case measure => simp [intOf]; omega
    · go_enter Try.func83, Try.ntmps83
      go_wp2_with (go_at_call 70; refine (within_any _ _ _ _).mono ?_; rintro e w' ⟨rfl, rfl⟩)
      go_ret2
      exact ⟨ret_ii (by simp [cfV, cfB, h1, h2]) (by simp [cfE, cfB, h1, h2]), 0, by simp [World.drewN]⟩
  · go_enter Try.func83, Try.ntmps83
    go_wp2_with (go_at_call 70; refine (within_any _ _ _ _).mono ?_; rintro e w' ⟨rfl, rfl⟩)
    go_ret2
    exact ⟨ret_ii (by simp [cfV, cfB, h1]) (by simp [cfE, cfB, h1]), 0, by simp [World.drewN]⟩

end Go.Proofs.Ytmcagpcldjopjaa
