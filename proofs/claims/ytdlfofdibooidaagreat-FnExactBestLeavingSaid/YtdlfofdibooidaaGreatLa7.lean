/- Merged: TabC. -/
import Derived.Test.YtdlfofdibooidaaGreatLa2
import Derived.Deep.RegionHeld3

/- Codes of a table and an age; the lives at an age: what the calls return. | LivesAt and DeathsAt of the model: what the calls return. -/
namespace Go.Proofs.YtdlfofdibooidaaGreat
open Go.ChangeShapes Go.WideShapes Go.ChangeAt Go.RowKit
set_option linter.unusedVariables false
set_option maxRecDepth 100000

/-- behind a call that was made when a block of two cells had just been laid -/
theorem box2 {w w1 : World} {x y : Value} {T : TypeId} (hb : Below (w.alloc (.cells #[x, y] T)).heap.size (w.alloc (.cells #[x, y] T)) w1) :
    Below w.heap.size w w1 ∧ w1.cell? ⟨w.heap.size, 0, none⟩ = some x ∧ w1.cell? ⟨w.heap.size, 1, none⟩ = some y :=
  ⟨((Below.refl w.heap.size w).alloc (Nat.le_refl _) _).trans (hb.mono (by simp)), (hb.cell (p := ⟨w.heap.size, 0, none⟩) (by simp)).trans (World.cell?_alloc_new _ _ _ _), (hb.cell (p := ⟨w.heap.size, 1, none⟩) (by simp)).trans (World.cell?_alloc_new _ _ _ _)⟩

/-- .. and behind the next one -/
theorem keep2 {w1 w2 : World} {p : Addr} {x : Value} (hb : Below w1.heap.size w1 w2) (h : w1.cell? p = some x) : w2.cell? p = some x := (hb.cell (block_lt h)).trans h

theorem box_b (w : World) (o : Obj) : Below w.heap.size w (w.alloc o) := (Below.refl _ _).alloc (Nat.le_refl _) _

/-- years in their range, too -/
def chE (f : Int) (xs : List Int) (x y : Int) : Int := if ltB f xs = true then (if inB x f 150 = true ∧ inB y 0 150 = true then 0 else 2) else 1

theorem chE_1 {f : Int} {xs : List Int} {x y : Int} (h : ltB f xs = false) : chE f xs x y = 1 := by simp [chE, h]

theorem chE_2 {f : Int} {xs : List Int} {x y : Int} (h : ltB f xs = true) (g : ¬ (inB x f 150 = true ∧ inB y 0 150 = true)) : chE f xs x y = 2 := by unfold chE; rw [if_pos h, if_neg g]

theorem chE_0 {f : Int} {xs : List Int} {x y : Int} (h : ltB f xs = true) (g : inB x f 150 = true) (k : inB y 0 150 = true) : chE f xs x y = 0 := by unfold chE; rw [if_pos h, if_pos ⟨g, k⟩]

theorem chE_age (f : Int) (xs : List Int) (x : Int) : chE f xs x 0 = ageE f xs x := by
  unfold chE ageE
  simp only [inB_iff]
  simp

theorem chE_iff {f : Int} {xs : List Int} {x y : Int} : chE f xs x y = 0 ↔ LTab f xs ∧ (f ≤ x ∧ x ≤ 150) ∧ 0 ≤ y ∧ y ≤ 150 := by
  unfold chE; rw [← ltB_iff]
  simp only [inB_iff]
  split
  · next h => split <;> simp_all
  · next h => simp [h]

set_option maxHeartbeats 400000 in
theorem check_any (f : Int) (xs : List Int) (a : Option Addr) (l c : Nat) (x y : Int) (w : World) (h : Ints w a l xs) (hlc : l ≤ c) :
    Calls Tryz.prog 121 #[.agg #[.int .i64 f, .slice a l c], .int .i64 x, .int .i64 y] w fun e w' => e = .returned (.int .i64 (chE f xs x y)) ∧ Below w.heap.size w w' := by
  have H := Lib.hid h
  clear h
  by_cases h1 : ltB f xs = true
  · by_cases h2 : inB x f 150 = true
    · by_cases h3 : inB y 0 150 = true
      · have HR := Lib.hid (chE_0 h1 h2 h3)
        go_enter Tryz.func121, Tryz.ntmps121
        go_wp2_with (first | (go_at_call 87; refine (within_any _ _ _ _).mono ?_; rintro e w' ⟨rfl, rfl⟩) | (go_at_call 134; refine (isL_impl f xs _ _ _ _ (H.out.on (box_b _ _)) hlc).mono ?_; rintro e w1 ⟨rfl, hb⟩; obtain ⟨hB, hc0, hc1⟩ := box2 hb; have HB := Lib.hid hB; clear hB hb))
        go_ret
        exact ⟨ret_int HR.out.symm, HB.out⟩
      · have HR := Lib.hid (chE_2 (x := x) (y := y) h1 (fun hh => h3 hh.2))
        go_enter Tryz.func121, Tryz.ntmps121
        go_wp2_with (first | (go_at_call 87; refine (within_any _ _ _ _).mono ?_; rintro e w' ⟨rfl, rfl⟩) | (go_at_call 134; refine (isL_impl f xs _ _ _ _ (H.out.on (box_b _ _)) hlc).mono ?_; rintro e w1 ⟨rfl, hb⟩; obtain ⟨hB, hc0, hc1⟩ := box2 hb; have HB := Lib.hid hB; clear hB hb))
        go_ret
        exact ⟨ret_int HR.out.symm, HB.out⟩
    · have HR := Lib.hid (chE_2 (x := x) (y := y) h1 (fun hh => h2 hh.1))
      go_enter Tryz.func121, Tryz.ntmps121
      go_wp2_with (first | (go_at_call 87; refine (within_any _ _ _ _).mono ?_; rintro e w' ⟨rfl, rfl⟩) | (go_at_call 134; refine (isL_impl f xs _ _ _ _ (H.out.on (box_b _ _)) hlc).mono ?_; rintro e w1 ⟨rfl, hb⟩; obtain ⟨hB, hc0, hc1⟩ := box2 hb; have HB := Lib.hid hB; clear hB hb))
      go_ret
      exact ⟨ret_int HR.out.symm, HB.out⟩
  · have h1' : ltB f xs = false := by simpa using h1
    have HR := Lib.hid (chE_1 (x := x) (y := y) h1')
    clear h1
    go_enter Tryz.func121, Tryz.ntmps121
    go_wp2_with (go_at_call 134; refine (isL_impl f xs _ _ _ _ (H.out.on (box_b _ _)) hlc).mono ?_; rintro e w1 ⟨rfl, hb⟩; obtain ⟨hB, hc0, hc1⟩ := box2 hb; have HB := Lib.hid hB; clear hB hb)
    go_ret
    exact ⟨ret_int HR.out.symm, HB.out⟩

theorem lives_any (f : Int) (xs : List Int) (a : Option Addr) (l c : Nat) (x : Int) (w : World) (h : Ints w a l xs) (f0 : 0 ≤ f) (f1 : f ≤ 100) (x0 : f ≤ x) (x1 : x ≤ 1000) :
    Calls Tryz.prog 71 #[.agg #[.int .i64 f, .slice a l c], .int .i64 x] w fun e w' => e = .returned (.int .i64 (lvs f xs x)) ∧ Below w.heap.size w w' := by
  have hm := h.max
  have HL := Lib.hid h.len
  have H := Lib.hid h
  clear h
  by_cases hlt : (l : Int) ≤ x - f
  · have HR : Hid (lvs f xs x = 0) := Lib.hid (getD_far _ _ (by have := HL.out; omega))
    go_enter Tryz.func71, Tryz.ntmps71
    go_wp2_with fail
    go_ret
    exact ⟨ret_int HR.out.symm, box_b _ _⟩
  · obtain ⟨b, off, rfl, hb, hc⟩ := H.out.at (by omega)
    have hx := hc (x - f).toNat (by omega)
    obtain ⟨v, hv⟩ : ∃ v, xs.getD (x - f).toNat 0 = v := ⟨_, rfl⟩
    rw [hv] at hx
    have HR : Hid (lvs f xs x = v) := Lib.hid hv
    have q1 : (x - f).toNat < l := by omega
    clear hv hc
    go_enter Tryz.func71, Tryz.ntmps71
    go_wp2_with fail
    go_ret
    exact ⟨ret_int HR.out.symm, box_b _ _⟩

theorem end_spec (f : Int) (xs : List Int) (a : Option Addr) (l c : Nat) (w : World) (hl : l ≤ 1000000) (h0 : 0 ≤ f) (h1 : f ≤ 1000) :
    Calls Tryz.prog 73 #[.agg #[.int .i64 f, .slice a l c]] w fun e w' => e = .returned (.int .i64 (f + l - 1)) ∧ Below w.heap.size w w' := by
  go_enter Tryz.func73, Tryz.ntmps73
  go_wp2_with fail
  go_ret
  exact ⟨rfl, box_b _ _⟩

theorem laV_0 {f : Int} {xs : List Int} {x : Int} (h : ageE f xs x = 0) : laV f xs x = lvs f xs x := by simp [laV, h]

theorem laV_n {f : Int} {xs : List Int} {x : Int} (h : ¬ ageE f xs x = 0) : laV f xs x = 0 := by simp [laV, h]

theorem daV_0 {f : Int} {xs : List Int} {x : Int} (h : ageE f xs x = 0) : daV f xs x = lvs f xs x - lvs f xs (x + 1) := by simp [daV, h]

theorem daV_n {f : Int} {xs : List Int} {x : Int} (h : ¬ ageE f xs x = 0) : daV f xs x = 0 := by simp [daV, h]

end Go.Proofs.YtdlfofdibooidaaGreat
