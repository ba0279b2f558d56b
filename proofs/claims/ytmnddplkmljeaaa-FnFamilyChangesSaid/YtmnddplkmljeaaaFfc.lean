/- The law on changes of families. (Written by wip/gen/ffc.py.) -/
import Derived.Test.YtmnddplkmljeaaaFmu
import Derived.Test.YtmnddplkmljeaaaFmh
import Derived.Test.YtmnddplkmljeaaaFmw
import Derived.Test.YtmnddplkmljeaaaFmo
import Derived.Test.YtmnddplkmljeaaaFmp
import Derived.Test.YtmnddplkmljeaaaFmj
namespace Go.Proofs.Ytmnddplkmljeaaa
open Go.ChangeShapes Go.WideShapes Go.ChangeAt Go.RowKit
set_option linter.unusedVariables false
set_option linter.unusedSimpArgs false

/-- a drawn family in its box -/
structure FY (w : World) (X : Nat) (d m v l : Int) (x : Option Addr) (n q : Nat) (ch : List Int) (W : World) : Prop where
  b : Bx W X [.int .i64 d, .int .i64 m, .int .i64 v, .int .i64 l, .slice x n q]
  i : Ints W x n ch

theorem FY.on {w : World} {X : Nat} {d m v l : Int} {x : Option Addr} {n q : Nat} {ch : List Int} {W W' : World} (h : FY w X d m v l x n q ch W) (hb : Below W.heap.size W W') : FY w X d m v l x n q ch W' := ⟨h.b.on hb, h.i.on hb⟩

set_option maxRecDepth 100000 in
set_option maxHeartbeats 32000000 in
theorem fnFamilyChanges_walk (a0 : Option Addr) (len0 cap0 : Nat) (z0 : List Int) (w : World) (w0 : IsRow .u8 w a0 len0 cap0 z0) :
    Calls Try.prog 4 #[.slice a0 len0 cap0] w fun e w' => e = .returned (.bool true) ∧ Below w.heap.size w w' := by
  by_cases hbig : 4096 < (len0 : Int)
  · go_enter Try.func4, Try.ntmps4
    go_wp2_with (go_at_call 15; refine (bigT_any _ _ _ _).mono ?_; rintro e w' ⟨rfl, rfl⟩)
    go_ret
    exact ⟨rfl, Below.refl _ _⟩
  have HR := Lib.hid w0
  clear w0
  go_enter Try.func4, Try.ntmps4
  go_wp2_with (go_at_call 15; refine (bigT_any _ _ _ _).mono ?_; rintro e w' ⟨rfl, rfl⟩)
  refine (dnx_any a0 len0 cap0 z0 _ HR.out).mono ?_
  rintro e w1 ⟨d1, m1, v1, l1, x1, n1, q1, c1, k1, rfl, hi, -, hb⟩
  have HLW : Hid (Below w.heap.size w w1) := Lib.hid hb
  clear hb
  have HF1 : Hid (FY w w1.heap.size d1 m1 v1 l1 x1 n1 q1 c1 (w1.alloc (.cells #[.int .i64 d1, .int .i64 m1, .int .i64 v1, .int .i64 l1, .slice x1 n1 q1] 26))) := Lib.hid ⟨Bx.new w1 [.int .i64 d1, .int .i64 m1, .int .i64 v1, .int .i64 l1, .slice x1 n1 q1] 26, hi.on (box_b _ _)⟩
  have hbx := box_b w1 (.cells #[.int .i64 d1, .int .i64 m1, .int .i64 v1, .int .i64 l1, .slice x1 n1 q1] 26)
  have HLW := Lib.hid (HLW.out.trans (hbx.mono HLW.out.size))
  obtain ⟨k1_0, k1_1, k1_2, k1_3, k1_4⟩ := HF1.out.b.five
  clear hi hbx
  go_wp2_with fail
  obtain ⟨X1, hX1⟩ : ∃ y_, w1.heap.size = y_ := ⟨_, rfl⟩
  obtain ⟨W1, hW1⟩ : ∃ y_, w1.alloc (.cells #[.int .i64 d1, .int .i64 m1, .int .i64 v1, .int .i64 l1, .slice x1 n1 q1] 26) = y_ := ⟨_, rfl⟩
  rw [hX1, hW1] at HF1
  rw [hW1] at HLW
  (try rw [hW1])
  (try rw [hX1])
  clear hX1 hW1
  obtain ⟨k1_0, k1_1, k1_2, k1_3, k1_4⟩ := HF1.out.b.five
  have Ci1 : Hid (∀ W, Hid (FY w X1 d1 m1 v1 l1 x1 n1 q1 c1 W) → Calls Try.prog 31 #[.agg #[.int .i64 d1, .int .i64 m1, .int .i64 v1, .int .i64 l1, .slice x1 n1 q1], .int .i64 k1] W fun e w' => e = .returned (.tuple #[.int .i64 (fV (nxE (fmE (fmB d1 m1 v1 l1 c1) (mthB k1)) (nxV d1 v1 l1 c1 k1)) (nxV d1 v1 l1 c1 k1)), .int .i64 (nxE (fmE (fmB d1 m1 v1 l1 c1) (mthB k1)) (nxV d1 v1 l1 c1 k1))]) ∧ Below W.heap.size W w') := Lib.hid (fun W hW => inx_any d1 m1 v1 l1 c1 x1 n1 q1 k1 W hW.out.i)
  have Cs1 : Hid (∀ W, Hid (FY w X1 d1 m1 v1 l1 x1 n1 q1 c1 W) → Calls Try.prog 32 #[.agg #[.int .i64 d1, .int .i64 m1, .int .i64 v1, .int .i64 l1, .slice x1 n1 q1], .int .i64 k1] W fun e w' => e = .returned (.tuple #[.int .i64 (fV (nxE (fmE (fmB d1 m1 v1 l1 c1) (mthB k1)) (nxV d1 v1 l1 c1 k1)) (nxV d1 v1 l1 c1 k1)), .int .i64 (nxE (fmE (fmB d1 m1 v1 l1 c1) (mthB k1)) (nxV d1 v1 l1 c1 k1))]) ∧ Below W.heap.size W w') := Lib.hid (fun W hW => snx_any d1 m1 v1 l1 c1 x1 n1 q1 k1 W hW.out.i)
  have CG1 : Hid (nxE (fmE (fmB d1 m1 v1 l1 c1) (mthB k1)) (nxV d1 v1 l1 c1 k1) = 0 → ∀ j, k1 ≤ j → j < nxV d1 v1 l1 c1 k1 → ∀ W, Hid (FY w X1 d1 m1 v1 l1 x1 n1 q1 c1 W) → Calls Try.prog 22 #[.agg #[.int .i64 d1, .int .i64 m1, .int .i64 v1, .int .i64 l1, .slice x1 n1 q1], .int .i64 j] W fun e w' => e = .returned (.tuple #[.bool (wdB v1 l1 k1), .int .i64 0]) ∧ Below W.heap.size W w') := Lib.hid (fun hE j h1 h2 W hW => by have := igw_any d1 m1 v1 l1 c1 x1 n1 q1 j W hW.out.i; obtain ⟨e1, e2, e3⟩ := (fam_still d1 m1 v1 l1 k1 c1 hE).2.2.2 j h1 h2; rw [e1, e2] at this; exact this)
  have CO1 : Hid (nxE (fmE (fmB d1 m1 v1 l1 c1) (mthB k1)) (nxV d1 v1 l1 c1 k1) = 0 → ∀ j, k1 ≤ j → j < nxV d1 v1 l1 c1 k1 → ∀ W, Hid (FY w X1 d1 m1 v1 l1 x1 n1 q1 c1 W) → Calls Try.prog 24 #[.agg #[.int .i64 d1, .int .i64 m1, .int .i64 v1, .int .i64 l1, .slice x1 n1 q1], .int .i64 j] W fun e w' => e = .returned (.tuple #[.int .i64 (orN d1 c1 k1), .int .i64 0]) ∧ Below W.heap.size W w') := Lib.hid (fun hE j h1 h2 W hW => by have := ioi_any d1 m1 v1 l1 c1 x1 n1 q1 j W hW.out.i; obtain ⟨e1, e2, e3⟩ := (fam_still d1 m1 v1 l1 k1 c1 hE).2.2.2 j h1 h2; rw [e1, e3] at this; exact this)
  have HK1 : Hid (nxE (fmE (fmB d1 m1 v1 l1 c1) (mthB k1)) (nxV d1 v1 l1 c1 k1) = 0 → 0 ≤ k1 ∧ k1 < nxV d1 v1 l1 c1 k1 ∧ nxV d1 v1 l1 c1 k1 < 36000) := Lib.hid (fun hE => ⟨(fam_still d1 m1 v1 l1 k1 c1 hE).1, (fam_still d1 m1 v1 l1 k1 c1 hE).2.1, (fam_still d1 m1 v1 l1 k1 c1 hE).2.2.1⟩)
  obtain ⟨N1, hN1⟩ : ∃ y_, nxV d1 v1 l1 c1 k1 = y_ := ⟨_, rfl⟩
  rw [hN1] at Ci1 Cs1 CG1 CO1 HK1
  obtain ⟨E1, hE1⟩ : ∃ y_, nxE (fmE (fmB d1 m1 v1 l1 c1) (mthB k1)) (N1) = y_ := ⟨_, rfl⟩
  rw [hE1] at Ci1 Cs1 CG1 CO1 HK1
  obtain ⟨V1, hV1⟩ : ∃ y_, fV E1 N1 = y_ := ⟨_, rfl⟩
  rw [hV1] at Ci1 Cs1
  have HV1 := Lib.hid hV1
  obtain ⟨G1, hG1⟩ : ∃ y_, wdB v1 l1 k1 = y_ := ⟨_, rfl⟩
  rw [hG1] at CG1
  obtain ⟨O1, hO1⟩ : ∃ y_, orN d1 c1 k1 = y_ := ⟨_, rfl⟩
  rw [hO1] at CO1
  clear hN1 hE1 hV1 hG1 hO1
  (with_reducible refine (Ci1.out _ HF1).mono ?_)
  rintro e w2 ⟨rfl, hb⟩
  have HF1 := Lib.hid (HF1.out.on hb)
  have HLW := Lib.hid (HLW.out.trans (hb.mono HLW.out.size))
  clear hb
  obtain ⟨k1_0, k1_1, k1_2, k1_3, k1_4⟩ := HF1.out.b.five
  go_wp2_with fail
  (with_reducible refine (Cs1.out _ HF1).mono ?_)
  rintro e w3 ⟨rfl, hb⟩
  have HF1 := Lib.hid (HF1.out.on hb)
  have HLW := Lib.hid (HLW.out.trans (hb.mono HLW.out.size))
  clear hb
  obtain ⟨k1_0, k1_1, k1_2, k1_3, k1_4⟩ := HF1.out.b.five
  go_wp2_with fail
  refine (den_any a0 len0 cap0 z0 _ (HR.out.below (HLW.out) HR.out.apart)).mono ?_
  rintro e w4 ⟨d2, m2, v2, l2, x2, n2, q2, c2, rfl, hi, -, hb⟩
  have HF1 := Lib.hid (HF1.out.on hb)
  have HLW := Lib.hid (HLW.out.trans (hb.mono HLW.out.size))
  clear hb
  have HF2 : Hid (FY w w4.heap.size d2 m2 v2 l2 x2 n2 q2 c2 (w4.alloc (.cells #[.int .i64 d2, .int .i64 m2, .int .i64 v2, .int .i64 l2, .slice x2 n2 q2] 26))) := Lib.hid ⟨Bx.new w4 [.int .i64 d2, .int .i64 m2, .int .i64 v2, .int .i64 l2, .slice x2 n2 q2] 26, hi.on (box_b _ _)⟩
  have hbx := box_b w4 (.cells #[.int .i64 d2, .int .i64 m2, .int .i64 v2, .int .i64 l2, .slice x2 n2 q2] 26)
  have HF1 := Lib.hid (HF1.out.on hbx)
  have HLW := Lib.hid (HLW.out.trans (hbx.mono HLW.out.size))
  obtain ⟨k2_0, k2_1, k2_2, k2_3, k2_4⟩ := HF2.out.b.five
  obtain ⟨k1_0, k1_1, k1_2, k1_3, k1_4⟩ := HF1.out.b.five
  clear hi hbx
  go_wp2_with fail
  obtain ⟨X2, hX2⟩ : ∃ y_, w4.heap.size = y_ := ⟨_, rfl⟩
  obtain ⟨W2, hW2⟩ : ∃ y_, w4.alloc (.cells #[.int .i64 d2, .int .i64 m2, .int .i64 v2, .int .i64 l2, .slice x2 n2 q2] 26) = y_ := ⟨_, rfl⟩
  rw [hX2, hW2] at HF2
  rw [hW2] at HLW
  rw [hW2] at HF1
  (try rw [hW2])
  (try rw [hX2])
  clear hX2 hW2
  obtain ⟨k1_0, k1_1, k1_2, k1_3, k1_4⟩ := HF1.out.b.five
  obtain ⟨k2_0, k2_1, k2_2, k2_3, k2_4⟩ := HF2.out.b.five
  have Ci2 : Hid (∀ W, Hid (FY w X2 d2 m2 v2 l2 x2 n2 q2 c2 W) → Calls Try.prog 34 #[.agg #[.int .i64 d2, .int .i64 m2, .int .i64 v2, .int .i64 l2, .slice x2 n2 q2]] W fun e w' => e = .returned (.tuple #[.int .i64 (fV (enE (fmB d2 m2 v2 l2 c2) v2 l2 (enM d2 l2 c2)) (enM d2 l2 c2)), .int .i64 (enE (fmB d2 m2 v2 l2 c2) v2 l2 (enM d2 l2 c2))]) ∧ Below W.heap.size W w') := Lib.hid (fun W hW => ien_any d2 m2 v2 l2 c2 x2 n2 q2 W hW.out.i)
  have Cs2 : Hid (∀ W, Hid (FY w X2 d2 m2 v2 l2 x2 n2 q2 c2 W) → Calls Try.prog 35 #[.agg #[.int .i64 d2, .int .i64 m2, .int .i64 v2, .int .i64 l2, .slice x2 n2 q2]] W fun e w' => e = .returned (.tuple #[.int .i64 (fV (enE (fmB d2 m2 v2 l2 c2) v2 l2 (enM d2 l2 c2)) (enM d2 l2 c2)), .int .i64 (enE (fmB d2 m2 v2 l2 c2) v2 l2 (enM d2 l2 c2))]) ∧ Below W.heap.size W w') := Lib.hid (fun W hW => sen_any d2 m2 v2 l2 c2 x2 n2 q2 W hW.out.i)
  have CP2 : Hid (enE (fmB d2 m2 v2 l2 c2) v2 l2 (enM d2 l2 c2) = 0 → ∀ W, Hid (FY w X2 d2 m2 v2 l2 x2 n2 q2 c2 W) → Calls Try.prog 20 #[.agg #[.int .i64 d2, .int .i64 m2, .int .i64 v2, .int .i64 l2, .slice x2 n2 q2], .int .i64 (fV (enE (fmB d2 m2 v2 l2 c2) v2 l2 (enM d2 l2 c2)) (enM d2 l2 c2)), .int .i64 1, .int .i64 1] W fun e w' => e = .returned (.tuple #[.int .i64 0, .int .i64 0]) ∧ Below W.heap.size W w') := Lib.hid (fun hE W hW => by have := ipi_any d2 m2 v2 l2 c2 x2 n2 q2 (fV (enE (fmB d2 m2 v2 l2 c2) v2 l2 (enM d2 l2 c2)) (enM d2 l2 c2)) 1 1 W hW.out.i; obtain ⟨e1, e2, e3⟩ := fam_end d2 m2 v2 l2 c2 hE; rw [e1, e2] at this; exact this)
  have CN2 : Hid (enE (fmB d2 m2 v2 l2 c2) v2 l2 (enM d2 l2 c2) = 0 → ∀ W, Hid (FY w X2 d2 m2 v2 l2 x2 n2 q2 c2 W) → Calls Try.prog 31 #[.agg #[.int .i64 d2, .int .i64 m2, .int .i64 v2, .int .i64 l2, .slice x2 n2 q2], .int .i64 (fV (enE (fmB d2 m2 v2 l2 c2) v2 l2 (enM d2 l2 c2)) (enM d2 l2 c2))] W fun e w' => e = .returned (.tuple #[.int .i64 0, .int .i64 4]) ∧ Below W.heap.size W w') := Lib.hid (fun hE W hW => by have := inx_any d2 m2 v2 l2 c2 x2 n2 q2 (fV (enE (fmB d2 m2 v2 l2 c2) v2 l2 (enM d2 l2 c2)) (enM d2 l2 c2)) W hW.out.i; obtain ⟨e1, e2, e3⟩ := fam_end d2 m2 v2 l2 c2 hE; rw [e3] at this; exact this)
  obtain ⟨E2, hE2⟩ : ∃ y_, enE (fmB d2 m2 v2 l2 c2) v2 l2 (enM d2 l2 c2) = y_ := ⟨_, rfl⟩
  rw [hE2] at Ci2 Cs2 CP2 CN2
  obtain ⟨V2, hV2⟩ : ∃ y_, fV E2 (enM d2 l2 c2) = y_ := ⟨_, rfl⟩
  rw [hV2] at Ci2 Cs2 CP2 CN2
  clear hE2 hV2
  (with_reducible refine (Ci2.out _ HF2).mono ?_)
  rintro e w5 ⟨rfl, hb⟩
  have HF1 := Lib.hid (HF1.out.on hb)
  have HF2 := Lib.hid (HF2.out.on hb)
  have HLW := Lib.hid (HLW.out.trans (hb.mono HLW.out.size))
  clear hb
  obtain ⟨k1_0, k1_1, k1_2, k1_3, k1_4⟩ := HF1.out.b.five
  obtain ⟨k2_0, k2_1, k2_2, k2_3, k2_4⟩ := HF2.out.b.five
  go_wp2_with fail
  (with_reducible refine (Cs2.out _ HF2).mono ?_)
  rintro e w6 ⟨rfl, hb⟩
  have HF1 := Lib.hid (HF1.out.on hb)
  have HF2 := Lib.hid (HF2.out.on hb)
  have HLW := Lib.hid (HLW.out.trans (hb.mono HLW.out.size))
  clear hb
  obtain ⟨k1_0, k1_1, k1_2, k1_3, k1_4⟩ := HF1.out.b.five
  obtain ⟨k2_0, k2_1, k2_2, k2_3, k2_4⟩ := HF2.out.b.five
  go_wp2_with fail
  refine (drm_any a0 len0 cap0 z0 _ (HR.out.below (HLW.out) HR.out.apart)).mono ?_
  rintro e w7 ⟨d3, m3, v3, l3, x3, n3, q3, c3, k3, rfl, hi, -, hb⟩
  have HF1 := Lib.hid (HF1.out.on hb)
  have HF2 := Lib.hid (HF2.out.on hb)
  have HLW := Lib.hid (HLW.out.trans (hb.mono HLW.out.size))
  clear hb
  have HF3 : Hid (FY w w7.heap.size d3 m3 v3 l3 x3 n3 q3 c3 (w7.alloc (.cells #[.int .i64 d3, .int .i64 m3, .int .i64 v3, .int .i64 l3, .slice x3 n3 q3] 26))) := Lib.hid ⟨Bx.new w7 [.int .i64 d3, .int .i64 m3, .int .i64 v3, .int .i64 l3, .slice x3 n3 q3] 26, hi.on (box_b _ _)⟩
  have hbx := box_b w7 (.cells #[.int .i64 d3, .int .i64 m3, .int .i64 v3, .int .i64 l3, .slice x3 n3 q3] 26)
  have HF1 := Lib.hid (HF1.out.on hbx)
  have HF2 := Lib.hid (HF2.out.on hbx)
  have HLW := Lib.hid (HLW.out.trans (hbx.mono HLW.out.size))
  obtain ⟨k3_0, k3_1, k3_2, k3_3, k3_4⟩ := HF3.out.b.five
  obtain ⟨k1_0, k1_1, k1_2, k1_3, k1_4⟩ := HF1.out.b.five
  obtain ⟨k2_0, k2_1, k2_2, k2_3, k2_4⟩ := HF2.out.b.five
  clear hi hbx
  go_wp2_with fail
  obtain ⟨X3, hX3⟩ : ∃ y_, w7.heap.size = y_ := ⟨_, rfl⟩
  obtain ⟨W3, hW3⟩ : ∃ y_, w7.alloc (.cells #[.int .i64 d3, .int .i64 m3, .int .i64 v3, .int .i64 l3, .slice x3 n3 q3] 26) = y_ := ⟨_, rfl⟩
  rw [hX3, hW3] at HF3
  rw [hW3] at HLW
  rw [hW3] at HF1
  rw [hW3] at HF2
  (try rw [hW3])
  (try rw [hX3])
  clear hX3 hW3
  obtain ⟨k1_0, k1_1, k1_2, k1_3, k1_4⟩ := HF1.out.b.five
  obtain ⟨k2_0, k2_1, k2_2, k2_3, k2_4⟩ := HF2.out.b.five
  obtain ⟨k3_0, k3_1, k3_2, k3_3, k3_4⟩ := HF3.out.b.five
  have Ci3 : Hid (∀ W, Hid (FY w X3 d3 m3 v3 l3 x3 n3 q3 c3 W) → Calls Try.prog 37 #[.agg #[.int .i64 d3, .int .i64 m3, .int .i64 v3, .int .i64 l3, .slice x3 n3 q3], .int .i64 k3] W fun e w' => ∃ x q c', e = .returned (.tuple #[.agg #[.int .i64 (fV (rmE (fmE (fmB d3 m3 v3 l3 c3) (mthB k3)) (wdB v3 l3 k3)) d3), .int .i64 (fV (rmE (fmE (fmB d3 m3 v3 l3 c3) (mthB k3)) (wdB v3 l3 k3)) m3), .int .i64 (fV (rmE (fmE (fmB d3 m3 v3 l3 c3) (mthB k3)) (wdB v3 l3 k3)) v3), .int .i64 (fV (rmE (fmE (fmB d3 m3 v3 l3 c3) (mthB k3)) (wdB v3 l3 k3)) k3), .slice x q c'], .int .i64 (rmE (fmE (fmB d3 m3 v3 l3 c3) (mthB k3)) (wdB v3 l3 k3))]) ∧ TbL W.heap.size w' x q (fL (rmE (fmE (fmB d3 m3 v3 l3 c3) (mthB k3)) (wdB v3 l3 k3)) c3) ∧ Below W.heap.size W w') := Lib.hid (fun W hW => by have := irm_any d3 m3 v3 l3 c3 x3 n3 q3 k3 W hW.out.i; unfold RmP at this; exact this)
  have Cs3 : Hid (∀ W, Hid (FY w X3 d3 m3 v3 l3 x3 n3 q3 c3 W) → Calls Try.prog 38 #[.agg #[.int .i64 d3, .int .i64 m3, .int .i64 v3, .int .i64 l3, .slice x3 n3 q3], .int .i64 k3] W fun e w' => ∃ x q c', e = .returned (.tuple #[.agg #[.int .i64 (fV (rmE (fmE (fmB d3 m3 v3 l3 c3) (mthB k3)) (wdB v3 l3 k3)) d3), .int .i64 (fV (rmE (fmE (fmB d3 m3 v3 l3 c3) (mthB k3)) (wdB v3 l3 k3)) m3), .int .i64 (fV (rmE (fmE (fmB d3 m3 v3 l3 c3) (mthB k3)) (wdB v3 l3 k3)) v3), .int .i64 (fV (rmE (fmE (fmB d3 m3 v3 l3 c3) (mthB k3)) (wdB v3 l3 k3)) k3), .slice x q c'], .int .i64 (rmE (fmE (fmB d3 m3 v3 l3 c3) (mthB k3)) (wdB v3 l3 k3))]) ∧ TbL W.heap.size w' x q (fL (rmE (fmE (fmB d3 m3 v3 l3 c3) (mthB k3)) (wdB v3 l3 k3)) c3) ∧ Below W.heap.size W w') := Lib.hid (fun W hW => by have := srm_any d3 m3 v3 l3 c3 x3 n3 q3 k3 W hW.out.i; unfold RmP at this; exact this)
  have CG4 : Hid (rmE (fmE (fmB d3 m3 v3 l3 c3) (mthB k3)) (wdB v3 l3 k3) = 0 → ∀ x n q W, Ints W x n (fL (rmE (fmE (fmB d3 m3 v3 l3 c3) (mthB k3)) (wdB v3 l3 k3)) c3) → Calls Try.prog 22 #[.agg #[.int .i64 (fV (rmE (fmE (fmB d3 m3 v3 l3 c3) (mthB k3)) (wdB v3 l3 k3)) d3), .int .i64 (fV (rmE (fmE (fmB d3 m3 v3 l3 c3) (mthB k3)) (wdB v3 l3 k3)) m3), .int .i64 (fV (rmE (fmE (fmB d3 m3 v3 l3 c3) (mthB k3)) (wdB v3 l3 k3)) v3), .int .i64 (fV (rmE (fmE (fmB d3 m3 v3 l3 c3) (mthB k3)) (wdB v3 l3 k3)) k3), .slice x n q], .int .i64 k3] W fun e w' => e = .returned (.tuple #[.bool false, .int .i64 0]) ∧ Below W.heap.size W w') := Lib.hid (fun hE x n q W hW => by have := igw_any (fV (rmE (fmE (fmB d3 m3 v3 l3 c3) (mthB k3)) (wdB v3 l3 k3)) d3) (fV (rmE (fmE (fmB d3 m3 v3 l3 c3) (mthB k3)) (wdB v3 l3 k3)) m3) (fV (rmE (fmE (fmB d3 m3 v3 l3 c3) (mthB k3)) (wdB v3 l3 k3)) v3) (fV (rmE (fmE (fmB d3 m3 v3 l3 c3) (mthB k3)) (wdB v3 l3 k3)) k3) (fL (rmE (fmE (fmB d3 m3 v3 l3 c3) (mthB k3)) (wdB v3 l3 k3)) c3) x n q k3 W hW; obtain ⟨e1, e2, e3⟩ := fam_wed d3 m3 v3 l3 k3 c3 _ rfl hE; rw [e1, e2] at this; exact this)
  have CF4 : Hid (rmE (fmE (fmB d3 m3 v3 l3 c3) (mthB k3)) (wdB v3 l3 k3) = 0 → ∀ x n q W, Ints W x n (fL (rmE (fmE (fmB d3 m3 v3 l3 c3) (mthB k3)) (wdB v3 l3 k3)) c3) → Calls Try.prog 26 #[.agg #[.int .i64 (fV (rmE (fmE (fmB d3 m3 v3 l3 c3) (mthB k3)) (wdB v3 l3 k3)) d3), .int .i64 (fV (rmE (fmE (fmB d3 m3 v3 l3 c3) (mthB k3)) (wdB v3 l3 k3)) m3), .int .i64 (fV (rmE (fmE (fmB d3 m3 v3 l3 c3) (mthB k3)) (wdB v3 l3 k3)) v3), .int .i64 (fV (rmE (fmE (fmB d3 m3 v3 l3 c3) (mthB k3)) (wdB v3 l3 k3)) k3), .slice x n q]] W fun e w' => e = .returned (.bool true) ∧ Below W.heap.size W w') := Lib.hid (fun hE x n q W hW => by have := ifm_any (fV (rmE (fmE (fmB d3 m3 v3 l3 c3) (mthB k3)) (wdB v3 l3 k3)) d3) (fV (rmE (fmE (fmB d3 m3 v3 l3 c3) (mthB k3)) (wdB v3 l3 k3)) m3) (fV (rmE (fmE (fmB d3 m3 v3 l3 c3) (mthB k3)) (wdB v3 l3 k3)) v3) (fV (rmE (fmE (fmB d3 m3 v3 l3 c3) (mthB k3)) (wdB v3 l3 k3)) k3) (fL (rmE (fmE (fmB d3 m3 v3 l3 c3) (mthB k3)) (wdB v3 l3 k3)) c3) x n q W hW; obtain ⟨e1, e2, e3⟩ := fam_wed d3 m3 v3 l3 k3 c3 _ rfl hE; rw [e3] at this; exact this)
  obtain ⟨E3, hE3⟩ : ∃ y_, rmE (fmE (fmB d3 m3 v3 l3 c3) (mthB k3)) (wdB v3 l3 k3) = y_ := ⟨_, rfl⟩
  rw [hE3] at Ci3 Cs3 CG4 CF4
  obtain ⟨d4, hd4⟩ : ∃ y_, fV E3 d3 = y_ := ⟨_, rfl⟩
  rw [hd4] at Ci3 Cs3 CG4 CF4
  obtain ⟨m4, hm4⟩ : ∃ y_, fV E3 m3 = y_ := ⟨_, rfl⟩
  rw [hm4] at Ci3 Cs3 CG4 CF4
  obtain ⟨v4, hv4⟩ : ∃ y_, fV E3 v3 = y_ := ⟨_, rfl⟩
  rw [hv4] at Ci3 Cs3 CG4 CF4
  obtain ⟨l4, hl4⟩ : ∃ y_, fV E3 k3 = y_ := ⟨_, rfl⟩
  rw [hl4] at Ci3 Cs3 CG4 CF4
  obtain ⟨c4, hc4⟩ : ∃ y_, fL E3 c3 = y_ := ⟨_, rfl⟩
  rw [hc4] at Ci3 Cs3 CG4 CF4
  clear hE3 hd4 hm4 hv4 hl4 hc4
  (with_reducible refine (Ci3.out _ HF3).mono ?_)
  rintro e w8 ⟨x4, n4, q4, rfl, t4, hb⟩
  have HF1 := Lib.hid (HF1.out.on hb)
  have HF2 := Lib.hid (HF2.out.on hb)
  have HF3 := Lib.hid (HF3.out.on hb)
  have HLW := Lib.hid (HLW.out.trans (hb.mono HLW.out.size))
  clear hb
  obtain ⟨k1_0, k1_1, k1_2, k1_3, k1_4⟩ := HF1.out.b.five
  obtain ⟨k2_0, k2_1, k2_2, k2_3, k2_4⟩ := HF2.out.b.five
  obtain ⟨k3_0, k3_1, k3_2, k3_3, k3_4⟩ := HF3.out.b.five
  have hi := t4.ints
  clear t4
  have HF4 : Hid (FY w w8.heap.size d4 m4 v4 l4 x4 n4 q4 c4 (w8.alloc (.cells #[.int .i64 d4, .int .i64 m4, .int .i64 v4, .int .i64 l4, .slice x4 n4 q4] 26))) := Lib.hid ⟨Bx.new w8 [.int .i64 d4, .int .i64 m4, .int .i64 v4, .int .i64 l4, .slice x4 n4 q4] 26, hi.on (box_b _ _)⟩
  have hbx := box_b w8 (.cells #[.int .i64 d4, .int .i64 m4, .int .i64 v4, .int .i64 l4, .slice x4 n4 q4] 26)
  have HF1 := Lib.hid (HF1.out.on hbx)
  have HF2 := Lib.hid (HF2.out.on hbx)
  have HF3 := Lib.hid (HF3.out.on hbx)
  have HLW := Lib.hid (HLW.out.trans (hbx.mono HLW.out.size))
  obtain ⟨k4_0, k4_1, k4_2, k4_3, k4_4⟩ := HF4.out.b.five
  obtain ⟨k1_0, k1_1, k1_2, k1_3, k1_4⟩ := HF1.out.b.five
  obtain ⟨k2_0, k2_1, k2_2, k2_3, k2_4⟩ := HF2.out.b.five
  obtain ⟨k3_0, k3_1, k3_2, k3_3, k3_4⟩ := HF3.out.b.five
  clear hi hbx
  go_wp2_with fail
  obtain ⟨X4, hX4⟩ : ∃ y_, w8.heap.size = y_ := ⟨_, rfl⟩
  obtain ⟨W4, hW4⟩ : ∃ y_, w8.alloc (.cells #[.int .i64 d4, .int .i64 m4, .int .i64 v4, .int .i64 l4, .slice x4 n4 q4] 26) = y_ := ⟨_, rfl⟩
  rw [hX4, hW4] at HF4
  rw [hW4] at HLW
  rw [hW4] at HF1
  rw [hW4] at HF2
  rw [hW4] at HF3
  (try rw [hW4])
  (try rw [hX4])
  clear hX4 hW4
  obtain ⟨k1_0, k1_1, k1_2, k1_3, k1_4⟩ := HF1.out.b.five
  obtain ⟨k2_0, k2_1, k2_2, k2_3, k2_4⟩ := HF2.out.b.five
  obtain ⟨k3_0, k3_1, k3_2, k3_3, k3_4⟩ := HF3.out.b.five
  obtain ⟨k4_0, k4_1, k4_2, k4_3, k4_4⟩ := HF4.out.b.five
  (with_reducible refine (Cs3.out _ HF3).mono ?_)
  rintro e w9 ⟨x5, n5, q5, rfl, t5, hb⟩
  have HF1 := Lib.hid (HF1.out.on hb)
  have HF2 := Lib.hid (HF2.out.on hb)
  have HF3 := Lib.hid (HF3.out.on hb)
  have HF4 := Lib.hid (HF4.out.on hb)
  have HLW := Lib.hid (HLW.out.trans (hb.mono HLW.out.size))
  clear hb
  obtain ⟨k1_0, k1_1, k1_2, k1_3, k1_4⟩ := HF1.out.b.five
  obtain ⟨k2_0, k2_1, k2_2, k2_3, k2_4⟩ := HF2.out.b.five
  obtain ⟨k3_0, k3_1, k3_2, k3_3, k3_4⟩ := HF3.out.b.five
  obtain ⟨k4_0, k4_1, k4_2, k4_3, k4_4⟩ := HF4.out.b.five
  have hi := t5.ints
  clear t5
  have HF5 : Hid (FY w w9.heap.size d4 m4 v4 l4 x5 n5 q5 c4 (w9.alloc (.cells #[.int .i64 d4, .int .i64 m4, .int .i64 v4, .int .i64 l4, .slice x5 n5 q5] 26))) := Lib.hid ⟨Bx.new w9 [.int .i64 d4, .int .i64 m4, .int .i64 v4, .int .i64 l4, .slice x5 n5 q5] 26, hi.on (box_b _ _)⟩
  have hbx := box_b w9 (.cells #[.int .i64 d4, .int .i64 m4, .int .i64 v4, .int .i64 l4, .slice x5 n5 q5] 26)
  have HF1 := Lib.hid (HF1.out.on hbx)
  have HF2 := Lib.hid (HF2.out.on hbx)
  have HF3 := Lib.hid (HF3.out.on hbx)
  have HF4 := Lib.hid (HF4.out.on hbx)
  have HLW := Lib.hid (HLW.out.trans (hbx.mono HLW.out.size))
  obtain ⟨k5_0, k5_1, k5_2, k5_3, k5_4⟩ := HF5.out.b.five
  obtain ⟨k1_0, k1_1, k1_2, k1_3, k1_4⟩ := HF1.out.b.five
  obtain ⟨k2_0, k2_1, k2_2, k2_3, k2_4⟩ := HF2.out.b.five
  obtain ⟨k3_0, k3_1, k3_2, k3_3, k3_4⟩ := HF3.out.b.five
  obtain ⟨k4_0, k4_1, k4_2, k4_3, k4_4⟩ := HF4.out.b.five
  clear hi hbx
  go_wp2_with fail
  obtain ⟨X5, hX5⟩ : ∃ y_, w9.heap.size = y_ := ⟨_, rfl⟩
  obtain ⟨W5, hW5⟩ : ∃ y_, w9.alloc (.cells #[.int .i64 d4, .int .i64 m4, .int .i64 v4, .int .i64 l4, .slice x5 n5 q5] 26) = y_ := ⟨_, rfl⟩
  rw [hX5, hW5] at HF5
  rw [hW5] at HLW
  rw [hW5] at HF1
  rw [hW5] at HF2
  rw [hW5] at HF3
  rw [hW5] at HF4
  (try rw [hW5])
  (try rw [hX5])
  clear hX5 hW5
  obtain ⟨k1_0, k1_1, k1_2, k1_3, k1_4⟩ := HF1.out.b.five
  obtain ⟨k2_0, k2_1, k2_2, k2_3, k2_4⟩ := HF2.out.b.five
  obtain ⟨k3_0, k3_1, k3_2, k3_3, k3_4⟩ := HF3.out.b.five
  obtain ⟨k4_0, k4_1, k4_2, k4_3, k4_4⟩ := HF4.out.b.five
  obtain ⟨k5_0, k5_1, k5_2, k5_3, k5_4⟩ := HF5.out.b.five
  clear Ci1 Cs1 Ci2 Cs2 Ci3 Cs3 HF3
  (with_reducible refine (likeF_any d4 m4 v4 l4 c4 x4 x5 n4 n5 q4 q5 _ HF4.out.i HF5.out.i).mono ?_)
  rintro e w10 ⟨rfl, hb⟩
  have HF1 := Lib.hid (HF1.out.on hb)
  have HF2 := Lib.hid (HF2.out.on hb)
  have HF4 := Lib.hid (HF4.out.on hb)
  have HF5 := Lib.hid (HF5.out.on hb)
  have HLW := Lib.hid (HLW.out.trans (hb.mono HLW.out.size))
  clear hb
  obtain ⟨k1_0, k1_1, k1_2, k1_3, k1_4⟩ := HF1.out.b.five
  obtain ⟨k2_0, k2_1, k2_2, k2_3, k2_4⟩ := HF2.out.b.five
  obtain ⟨k4_0, k4_1, k4_2, k4_3, k4_4⟩ := HF4.out.b.five
  obtain ⟨k5_0, k5_1, k5_2, k5_3, k5_4⟩ := HF5.out.b.five
  clear HF5
  obtain ⟨k1_0, k1_1, k1_2, k1_3, k1_4⟩ := HF1.out.b.five
  obtain ⟨k2_0, k2_1, k2_2, k2_3, k2_4⟩ := HF2.out.b.five
  obtain ⟨k4_0, k4_1, k4_2, k4_3, k4_4⟩ := HF4.out.b.five
  by_cases g3 : E3 = 0
  · subst g3
    have CGx := Lib.hid (CG4.out (by trivial))
    have CFx := Lib.hid (CF4.out (by trivial))
    clear CG4 CF4
    go_wp2_with fail
    (with_reducible refine (CGx.out x4 n4 q4 _ HF4.out.i).mono ?_)
    rintro e wC ⟨rfl, hb⟩
    have HF1 := Lib.hid (HF1.out.on hb)
    have HF2 := Lib.hid (HF2.out.on hb)
    have HF4 := Lib.hid (HF4.out.on hb)
    have HLW := Lib.hid (HLW.out.trans (hb.mono HLW.out.size))
    clear hb
    obtain ⟨k1_0, k1_1, k1_2, k1_3, k1_4⟩ := HF1.out.b.five
    obtain ⟨k2_0, k2_1, k2_2, k2_3, k2_4⟩ := HF2.out.b.five
    obtain ⟨k4_0, k4_1, k4_2, k4_3, k4_4⟩ := HF4.out.b.five
    go_wp2_with fail
    (with_reducible refine (CFx.out x4 n4 q4 _ HF4.out.i).mono ?_)
    rintro e wD ⟨rfl, hb⟩
    have HF1 := Lib.hid (HF1.out.on hb)
    have HF2 := Lib.hid (HF2.out.on hb)
    have HF4 := Lib.hid (HF4.out.on hb)
    have HLW := Lib.hid (HLW.out.trans (hb.mono HLW.out.size))
    clear hb
    obtain ⟨k1_0, k1_1, k1_2, k1_3, k1_4⟩ := HF1.out.b.five
    obtain ⟨k2_0, k2_1, k2_2, k2_3, k2_4⟩ := HF2.out.b.five
    obtain ⟨k4_0, k4_1, k4_2, k4_3, k4_4⟩ := HF4.out.b.five
    clear CGx CFx HF4
    obtain ⟨k1_0, k1_1, k1_2, k1_3, k1_4⟩ := HF1.out.b.five
    obtain ⟨k2_0, k2_1, k2_2, k2_3, k2_4⟩ := HF2.out.b.five
    by_cases g2 : E2 = 0
    · subst g2
      have CPx := Lib.hid (CP2.out (by trivial))
      have CNx := Lib.hid (CN2.out (by trivial))
      clear CP2 CN2
      go_wp2_with fail
      (with_reducible refine (CPx.out _ HF2).mono ?_)
      rintro e wE ⟨rfl, hb⟩
      have HF1 := Lib.hid (HF1.out.on hb)
      have HF2 := Lib.hid (HF2.out.on hb)
      have HLW := Lib.hid (HLW.out.trans (hb.mono HLW.out.size))
      clear hb
      obtain ⟨k1_0, k1_1, k1_2, k1_3, k1_4⟩ := HF1.out.b.five
      obtain ⟨k2_0, k2_1, k2_2, k2_3, k2_4⟩ := HF2.out.b.five
      go_wp2_with fail
      (with_reducible refine (CNx.out _ HF2).mono ?_)
      rintro e wF ⟨rfl, hb⟩
      have HF1 := Lib.hid (HF1.out.on hb)
      have HLW := Lib.hid (HLW.out.trans (hb.mono HLW.out.size))
      clear hb
      obtain ⟨k1_0, k1_1, k1_2, k1_3, k1_4⟩ := HF1.out.b.five
      clear CPx CNx HF2
      by_cases g1 : E1 = 0
      · skip
        obtain ⟨t0, t1, t2⟩ := HK1.out g1
        subst g1
        have hVV : N1 = V1 := HV1.out
        subst hVV
        have q5 : IntKind.i64.wrap (N1 - k1) = N1 - k1 := IntWalk.i64_in _ (by omega)
        have hn1 : Hid (1 ≤ N1 - k1 ∧ N1 - k1 ≤ 1000000) := Lib.hid (by omega)
        have HT := Lib.hid (And.intro t0 (And.intro t1 t2))
        have hgt : k1 < N1 := t1
        clear t0 t1 t2 HK1 HV1
        have HRB := Lib.hid (HR.out.below HLW.out HR.out.apart)
        have HFB := HF1
        have HLB := HLW
        go_wp2_with fail
        refine (roll_any a0 len0 cap0 z0 1402 _ HRB.out (by omega) (by omega)).mono ?_
        rintro e u1 ⟨rfl, ⟨h9, h90, h91, hdc⟩, hb⟩
        have HDC := Lib.hid hdc
        have HU := Lib.hid hb
        clear hb hdc
        go_wp2_with fail
        refine (below_any _ a0 len0 cap0 z0 h9 _ _ u1 (HRB.out.below HU.out HRB.out.apart) HRB.out.apart HDC.out (Nat.le_refl _) hn1.out.1 hn1.out.2).mono ?_
        rintro e u2 ⟨r9, rfl, r0, r1, hb⟩
        have hb := HU.out.trans hb
        have HF1 := Lib.hid (HFB.out.on hb)
        have HLW := Lib.hid (HLB.out.trans (hb.mono HLB.out.size))
        have hT := HT.out
        obtain ⟨mid, hmid⟩ : ∃ y_, k1 + r9 = y_ := ⟨_, rfl⟩
        have M0 : Hid (k1 ≤ mid ∧ mid < N1) := Lib.hid (by omega)
        have q7 : IntKind.i64.wrap (k1 + r9) = mid := by rw [hmid]; exact IntWalk.i64_in _ (by have := M0.out; omega)
        have CGa := Lib.hid (CG1.out (by trivial) k1 (Int.le_refl _) hgt)
        have CGb := Lib.hid (CG1.out (by trivial) mid M0.out.1 M0.out.2)
        have COa := Lib.hid (CO1.out (by trivial) k1 (Int.le_refl _) hgt)
        have COb := Lib.hid (CO1.out (by trivial) mid M0.out.1 M0.out.2)
        clear hb hmid hT r0 r1 CG1 CO1
        obtain ⟨k1_0, k1_1, k1_2, k1_3, k1_4⟩ := HF1.out.b.five
        go_wp2_with fail
        (with_reducible refine (CGa.out _ HF1).mono ?_)
        rintro e y1 ⟨rfl, hb⟩
        have HF1 := Lib.hid (HF1.out.on hb)
        have HLW := Lib.hid (HLW.out.trans (hb.mono HLW.out.size))
        clear hb
        obtain ⟨k1_0, k1_1, k1_2, k1_3, k1_4⟩ := HF1.out.b.five
        go_wp2_with fail
        (with_reducible refine (CGb.out _ HF1).mono ?_)
        rintro e y2 ⟨rfl, hb⟩
        have HF1 := Lib.hid (HF1.out.on hb)
        have HLW := Lib.hid (HLW.out.trans (hb.mono HLW.out.size))
        clear hb
        obtain ⟨k1_0, k1_1, k1_2, k1_3, k1_4⟩ := HF1.out.b.five
        go_wp2_with fail
        (with_reducible refine (COa.out _ HF1).mono ?_)
        rintro e y3 ⟨rfl, hb⟩
        have HF1 := Lib.hid (HF1.out.on hb)
        have HLW := Lib.hid (HLW.out.trans (hb.mono HLW.out.size))
        clear hb
        obtain ⟨k1_0, k1_1, k1_2, k1_3, k1_4⟩ := HF1.out.b.five
        go_wp2_with fail
        (with_reducible refine (COb.out _ HF1).mono ?_)
        rintro e y4 ⟨rfl, hb⟩
        have HF1 := Lib.hid (HF1.out.on hb)
        have HLW := Lib.hid (HLW.out.trans (hb.mono HLW.out.size))
        clear hb
        obtain ⟨k1_0, k1_1, k1_2, k1_3, k1_4⟩ := HF1.out.b.five
        go_wp2_with fail
        go_ret
        exact ⟨rfl, HLW.out⟩
      · skip
        have g1' : (E1 != 0) = true := by simpa using g1
        clear g1
        go_wp2_with fail
        go_ret
        exact ⟨rfl, HLW.out⟩
    · have g2' : (E2 == 0) = false := by simpa using g2
      clear g2
      by_cases g1 : E1 = 0
      · skip
        obtain ⟨t0, t1, t2⟩ := HK1.out g1
        subst g1
        have hVV : N1 = V1 := HV1.out
        subst hVV
        have q5 : IntKind.i64.wrap (N1 - k1) = N1 - k1 := IntWalk.i64_in _ (by omega)
        have hn1 : Hid (1 ≤ N1 - k1 ∧ N1 - k1 ≤ 1000000) := Lib.hid (by omega)
        have HT := Lib.hid (And.intro t0 (And.intro t1 t2))
        have hgt : k1 < N1 := t1
        clear t0 t1 t2 HK1 HV1
        have HRB := Lib.hid (HR.out.below HLW.out HR.out.apart)
        have HFB := HF1
        have HLB := HLW
        go_wp2_with fail
        refine (roll_any a0 len0 cap0 z0 1402 _ HRB.out (by omega) (by omega)).mono ?_
        rintro e u1 ⟨rfl, ⟨h9, h90, h91, hdc⟩, hb⟩
        have HDC := Lib.hid hdc
        have HU := Lib.hid hb
        clear hb hdc
        go_wp2_with fail
        refine (below_any _ a0 len0 cap0 z0 h9 _ _ u1 (HRB.out.below HU.out HRB.out.apart) HRB.out.apart HDC.out (Nat.le_refl _) hn1.out.1 hn1.out.2).mono ?_
        rintro e u2 ⟨r9, rfl, r0, r1, hb⟩
        have hb := HU.out.trans hb
        have HF1 := Lib.hid (HFB.out.on hb)
        have HLW := Lib.hid (HLB.out.trans (hb.mono HLB.out.size))
        have hT := HT.out
        obtain ⟨mid, hmid⟩ : ∃ y_, k1 + r9 = y_ := ⟨_, rfl⟩
        have M0 : Hid (k1 ≤ mid ∧ mid < N1) := Lib.hid (by omega)
        have q7 : IntKind.i64.wrap (k1 + r9) = mid := by rw [hmid]; exact IntWalk.i64_in _ (by have := M0.out; omega)
        have CGa := Lib.hid (CG1.out (by trivial) k1 (Int.le_refl _) hgt)
        have CGb := Lib.hid (CG1.out (by trivial) mid M0.out.1 M0.out.2)
        have COa := Lib.hid (CO1.out (by trivial) k1 (Int.le_refl _) hgt)
        have COb := Lib.hid (CO1.out (by trivial) mid M0.out.1 M0.out.2)
        clear hb hmid hT r0 r1 CG1 CO1
        obtain ⟨k1_0, k1_1, k1_2, k1_3, k1_4⟩ := HF1.out.b.five
        go_wp2_with fail
        (with_reducible refine (CGa.out _ HF1).mono ?_)
        rintro e y1 ⟨rfl, hb⟩
        have HF1 := Lib.hid (HF1.out.on hb)
        have HLW := Lib.hid (HLW.out.trans (hb.mono HLW.out.size))
        clear hb
        obtain ⟨k1_0, k1_1, k1_2, k1_3, k1_4⟩ := HF1.out.b.five
        go_wp2_with fail
        (with_reducible refine (CGb.out _ HF1).mono ?_)
        rintro e y2 ⟨rfl, hb⟩
        have HF1 := Lib.hid (HF1.out.on hb)
        have HLW := Lib.hid (HLW.out.trans (hb.mono HLW.out.size))
        clear hb
        obtain ⟨k1_0, k1_1, k1_2, k1_3, k1_4⟩ := HF1.out.b.five
        go_wp2_with fail
        (with_reducible refine (COa.out _ HF1).mono ?_)
        rintro e y3 ⟨rfl, hb⟩
        have HF1 := Lib.hid (HF1.out.on hb)
        have HLW := Lib.hid (HLW.out.trans (hb.mono HLW.out.size))
        clear hb
        obtain ⟨k1_0, k1_1, k1_2, k1_3, k1_4⟩ := HF1.out.b.five
        go_wp2_with fail
        (with_reducible refine (COb.out _ HF1).mono ?_)
        rintro e y4 ⟨rfl, hb⟩
        have HF1 := Lib.hid (HF1.out.on hb)
        have HLW := Lib.hid (HLW.out.trans (hb.mono HLW.out.size))
        clear hb
        obtain ⟨k1_0, k1_1, k1_2, k1_3, k1_4⟩ := HF1.out.b.five
        go_wp2_with fail
        go_ret
        exact ⟨rfl, HLW.out⟩
      · skip
        have g1' : (E1 != 0) = true := by simpa using g1
        clear g1
        go_wp2_with fail
        go_ret
        exact ⟨rfl, HLW.out⟩
  · have g3' : (E3 == 0) = false := by simpa using g3
    clear g3 CG4 CF4
    by_cases g2 : E2 = 0
    · subst g2
      have CPx := Lib.hid (CP2.out (by trivial))
      have CNx := Lib.hid (CN2.out (by trivial))
      clear CP2 CN2
      go_wp2_with fail
      (with_reducible refine (CPx.out _ HF2).mono ?_)
      rintro e wE ⟨rfl, hb⟩
      have HF1 := Lib.hid (HF1.out.on hb)
      have HF2 := Lib.hid (HF2.out.on hb)
      have HLW := Lib.hid (HLW.out.trans (hb.mono HLW.out.size))
      clear hb
      obtain ⟨k1_0, k1_1, k1_2, k1_3, k1_4⟩ := HF1.out.b.five
      obtain ⟨k2_0, k2_1, k2_2, k2_3, k2_4⟩ := HF2.out.b.five
      go_wp2_with fail
      (with_reducible refine (CNx.out _ HF2).mono ?_)
      rintro e wF ⟨rfl, hb⟩
      have HF1 := Lib.hid (HF1.out.on hb)
      have HLW := Lib.hid (HLW.out.trans (hb.mono HLW.out.size))
      clear hb
      obtain ⟨k1_0, k1_1, k1_2, k1_3, k1_4⟩ := HF1.out.b.five
      clear CPx CNx HF2
      by_cases g1 : E1 = 0
      · skip
        obtain ⟨t0, t1, t2⟩ := HK1.out g1
        subst g1
        have hVV : N1 = V1 := HV1.out
        subst hVV
        have q5 : IntKind.i64.wrap (N1 - k1) = N1 - k1 := IntWalk.i64_in _ (by omega)
        have hn1 : Hid (1 ≤ N1 - k1 ∧ N1 - k1 ≤ 1000000) := Lib.hid (by omega)
        have HT := Lib.hid (And.intro t0 (And.intro t1 t2))
        have hgt : k1 < N1 := t1
        clear t0 t1 t2 HK1 HV1
        have HRB := Lib.hid (HR.out.below HLW.out HR.out.apart)
        have HFB := HF1
        have HLB := HLW
        go_wp2_with fail
        refine (roll_any a0 len0 cap0 z0 1402 _ HRB.out (by omega) (by omega)).mono ?_
        rintro e u1 ⟨rfl, ⟨h9, h90, h91, hdc⟩, hb⟩
        have HDC := Lib.hid hdc
        have HU := Lib.hid hb
        clear hb hdc
        go_wp2_with fail
        refine (below_any _ a0 len0 cap0 z0 h9 _ _ u1 (HRB.out.below HU.out HRB.out.apart) HRB.out.apart HDC.out (Nat.le_refl _) hn1.out.1 hn1.out.2).mono ?_
        rintro e u2 ⟨r9, rfl, r0, r1, hb⟩
        have hb := HU.out.trans hb
        have HF1 := Lib.hid (HFB.out.on hb)
        have HLW := Lib.hid (HLB.out.trans (hb.mono HLB.out.size))
        have hT := HT.out
        obtain ⟨mid, hmid⟩ : ∃ y_, k1 + r9 = y_ := ⟨_, rfl⟩
        have M0 : Hid (k1 ≤ mid ∧ mid < N1) := Lib.hid (by omega)
        have q7 : IntKind.i64.wrap (k1 + r9) = mid := by rw [hmid]; exact IntWalk.i64_in _ (by have := M0.out; omega)
        have CGa := Lib.hid (CG1.out (by trivial) k1 (Int.le_refl _) hgt)
        have CGb := Lib.hid (CG1.out (by trivial) mid M0.out.1 M0.out.2)
        have COa := Lib.hid (CO1.out (by trivial) k1 (Int.le_refl _) hgt)
        have COb := Lib.hid (CO1.out (by trivial) mid M0.out.1 M0.out.2)
        clear hb hmid hT r0 r1 CG1 CO1
        obtain ⟨k1_0, k1_1, k1_2, k1_3, k1_4⟩ := HF1.out.b.five
        go_wp2_with fail
        (with_reducible refine (CGa.out _ HF1).mono ?_)
        rintro e y1 ⟨rfl, hb⟩
        have HF1 := Lib.hid (HF1.out.on hb)
        have HLW := Lib.hid (HLW.out.trans (hb.mono HLW.out.size))
        clear hb
        obtain ⟨k1_0, k1_1, k1_2, k1_3, k1_4⟩ := HF1.out.b.five
        go_wp2_with fail
        (with_reducible refine (CGb.out _ HF1).mono ?_)
        rintro e y2 ⟨rfl, hb⟩
        have HF1 := Lib.hid (HF1.out.on hb)
        have HLW := Lib.hid (HLW.out.trans (hb.mono HLW.out.size))
        clear hb
        obtain ⟨k1_0, k1_1, k1_2, k1_3, k1_4⟩ := HF1.out.b.five
        go_wp2_with fail
        (with_reducible refine (COa.out _ HF1).mono ?_)
        rintro e y3 ⟨rfl, hb⟩
        have HF1 := Lib.hid (HF1.out.on hb)
        have HLW := Lib.hid (HLW.out.trans (hb.mono HLW.out.size))
        clear hb
        obtain ⟨k1_0, k1_1, k1_2, k1_3, k1_4⟩ := HF1.out.b.five
        go_wp2_with fail
        (with_reducible refine (COb.out _ HF1).mono ?_)
        rintro e y4 ⟨rfl, hb⟩
        have HF1 := Lib.hid (HF1.out.on hb)
        have HLW := Lib.hid (HLW.out.trans (hb.mono HLW.out.size))
        clear hb
        obtain ⟨k1_0, k1_1, k1_2, k1_3, k1_4⟩ := HF1.out.b.five
        go_wp2_with fail
        go_ret
        exact ⟨rfl, HLW.out⟩
      · skip
        have g1' : (E1 != 0) = true := by simpa using g1
        clear g1
        go_wp2_with fail
        go_ret
        exact ⟨rfl, HLW.out⟩
    · have g2' : (E2 == 0) = false := by simpa using g2
      clear g2
      by_cases g1 : E1 = 0
      · skip
        obtain ⟨t0, t1, t2⟩ := HK1.out g1
        subst g1
        have hVV : N1 = V1 := HV1.out
        subst hVV
        have q5 : IntKind.i64.wrap (N1 - k1) = N1 - k1 := IntWalk.i64_in _ (by omega)
        have hn1 : Hid (1 ≤ N1 - k1 ∧ N1 - k1 ≤ 1000000) := Lib.hid (by omega)
        have HT := Lib.hid (And.intro t0 (And.intro t1 t2))
        have hgt : k1 < N1 := t1
        clear t0 t1 t2 HK1 HV1
        have HRB := Lib.hid (HR.out.below HLW.out HR.out.apart)
        have HFB := HF1
        have HLB := HLW
        go_wp2_with fail
        refine (roll_any a0 len0 cap0 z0 1402 _ HRB.out (by omega) (by omega)).mono ?_
        rintro e u1 ⟨rfl, ⟨h9, h90, h91, hdc⟩, hb⟩
        have HDC := Lib.hid hdc
        have HU := Lib.hid hb
        clear hb hdc
        go_wp2_with fail
        refine (below_any _ a0 len0 cap0 z0 h9 _ _ u1 (HRB.out.below HU.out HRB.out.apart) HRB.out.apart HDC.out (Nat.le_refl _) hn1.out.1 hn1.out.2).mono ?_
        rintro e u2 ⟨r9, rfl, r0, r1, hb⟩
        have hb := HU.out.trans hb
        have HF1 := Lib.hid (HFB.out.on hb)
        have HLW := Lib.hid (HLB.out.trans (hb.mono HLB.out.size))
        have hT := HT.out
        obtain ⟨mid, hmid⟩ : ∃ y_, k1 + r9 = y_ := ⟨_, rfl⟩
        have M0 : Hid (k1 ≤ mid ∧ mid < N1) := Lib.hid (by omega)
        have q7 : IntKind.i64.wrap (k1 + r9) = mid := by rw [hmid]; exact IntWalk.i64_in _ (by have := M0.out; omega)
        have CGa := Lib.hid (CG1.out (by trivial) k1 (Int.le_refl _) hgt)
        have CGb := Lib.hid (CG1.out (by trivial) mid M0.out.1 M0.out.2)
        have COa := Lib.hid (CO1.out (by trivial) k1 (Int.le_refl _) hgt)
        have COb := Lib.hid (CO1.out (by trivial) mid M0.out.1 M0.out.2)
        clear hb hmid hT r0 r1 CG1 CO1
        obtain ⟨k1_0, k1_1, k1_2, k1_3, k1_4⟩ := HF1.out.b.five
        go_wp2_with fail
        (with_reducible refine (CGa.out _ HF1).mono ?_)
        rintro e y1 ⟨rfl, hb⟩
        have HF1 := Lib.hid (HF1.out.on hb)
        have HLW := Lib.hid (HLW.out.trans (hb.mono HLW.out.size))
        clear hb
        obtain ⟨k1_0, k1_1, k1_2, k1_3, k1_4⟩ := HF1.out.b.five
        go_wp2_with fail
        (with_reducible refine (CGb.out _ HF1).mono ?_)
        rintro e y2 ⟨rfl, hb⟩
        have HF1 := Lib.hid (HF1.out.on hb)
        have HLW := Lib.hid (HLW.out.trans (hb.mono HLW.out.size))
        clear hb
        obtain ⟨k1_0, k1_1, k1_2, k1_3, k1_4⟩ := HF1.out.b.five
        go_wp2_with fail
        (with_reducible refine (COa.out _ HF1).mono ?_)
        rintro e y3 ⟨rfl, hb⟩
        have HF1 := Lib.hid (HF1.out.on hb)
        have HLW := Lib.hid (HLW.out.trans (hb.mono HLW.out.size))
        clear hb
        obtain ⟨k1_0, k1_1, k1_2, k1_3, k1_4⟩ := HF1.out.b.five
        go_wp2_with fail
        (with_reducible refine (COb.out _ HF1).mono ?_)
        rintro e y4 ⟨rfl, hb⟩
        have HF1 := Lib.hid (HF1.out.on hb)
        have HLW := Lib.hid (HLW.out.trans (hb.mono HLW.out.size))
        clear hb
        obtain ⟨k1_0, k1_1, k1_2, k1_3, k1_4⟩ := HF1.out.b.five
        go_wp2_with fail
        go_ret
        exact ⟨rfl, HLW.out⟩
      · skip
        have g1' : (E1 != 0) = true := by simpa using g1
        clear g1
        go_wp2_with fail
        go_ret
        exact ⟨rfl, HLW.out⟩

end Go.Proofs.Ytmnddplkmljeaaa
