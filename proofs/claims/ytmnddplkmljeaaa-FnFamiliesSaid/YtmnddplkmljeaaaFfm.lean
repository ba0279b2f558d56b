/- The law on families: pensions of parts of a time add up. (Written by wip/gen/ffm.py.) -/
import Derived.Test.YtmnddplkmljeaaaFmu
import Derived.Test.YtmnddplkmljeaaaFmh
import Derived.Test.YtmnddplkmljeaaaFmw
import Derived.Test.YtmnddplkmljeaaaFmo
namespace Go.Proofs.Ytmnddplkmljeaaa
open Go.ChangeShapes Go.WideShapes Go.ChangeAt Go.RowKit
set_option linter.unusedVariables false
set_option linter.unusedSimpArgs false

/-- a drawn family in its box -/
structure FW (w : World) (X : Nat) (d m v l : Int) (x : Option Addr) (n q : Nat) (ch : List Int) (W : World) : Prop where
  b : Bx W X [.int .i64 d, .int .i64 m, .int .i64 v, .int .i64 l, .slice x n q]
  i : Ints W x n ch

theorem FW.on {w : World} {X : Nat} {d m v l : Int} {x : Option Addr} {n q : Nat} {ch : List Int} {W W' : World} (h : FW w X d m v l x n q ch W) (hb : Below W.heap.size W W') : FW w X d m v l x n q ch W' := ⟨h.b.on hb, h.i.on hb⟩

theorem fam_one (d m v l k p o : Int) (ch : List Int) : fmE (fmB d m v l ch) (mthB k && rtP p o) = 0 → fV (fmE (fmB d m v l ch) (mthB k && rtP p o)) (pnV d v l ch k p o) = o * fV (fmE (fmB d m v l ch) (mthB k)) (orN d ch k) + (if fB (fmE (fmB d m v l ch) (mthB k)) (wdB v l k) = true then p else 0) ∧ 0 ≤ o * fV (fmE (fmB d m v l ch) (mthB k)) (orN d ch k) ∧ o * fV (fmE (fmB d m v l ch) (mthB k)) (orN d ch k) ≤ 12000000 ∧ 0 ≤ p ∧ p ≤ 1000000 := by
  intro hE
  obtain ⟨hf, hk⟩ := fmE_iff.1 hE
  rw [Bool.and_eq_true] at hk
  have hE1 : fmE (fmB d m v l ch) (mthB k) = 0 := fmE_iff.2 ⟨hf, hk.1⟩
  have hbd := pn_bd (d := d) (w := v) (l := l) (n := k) hk.2 ((fm_iff ..).1 hf).2.2.2.2.1
  have hr := hk.2
  unfold rtP at hr
  rw [Bool.and_eq_true, inB_iff, inB_iff] at hr
  rw [hE, hE1]
  have e1 : fV 0 (pnV d v l ch k p o) = pnV d v l ch k p o := rfl
  have e2 : fV 0 (orN d ch k) = orN d ch k := rfl
  have e3 : fB 0 (wdB v l k) = wdB v l k := rfl
  rw [e1, e2, e3]
  exact ⟨rfl, hbd.1, hbd.2.1, hr.1.1, hr.1.2⟩

theorem fam_parts (d m v l fr tt p o : Int) (ch : List Int) : fmE (fmB d m v l ch) (mthB fr && mthB tt && inB (tt - fr) 0 1200 && rtP p o) = 0 → ∀ mid, fr ≤ mid → mid ≤ tt →
    fmE (fmB d m v l ch) (mthB fr && mthB mid && inB (mid - fr) 0 1200 && rtP p o) = 0 ∧ fmE (fmB d m v l ch) (mthB mid && mthB tt && inB (tt - mid) 0 1200 && rtP p o) = 0 ∧ pbS d v l ch p o fr (mid - fr).toNat + pbS d v l ch p o mid (tt - mid).toNat = pbS d v l ch p o fr (tt - fr).toNat := by
  intro hE mid h1 h2
  obtain ⟨hf, hk⟩ := fmE_iff.1 hE
  simp only [Bool.and_eq_true, mthB_iff, inB_iff] at hk
  refine ⟨fmE_iff.2 ⟨hf, ?_⟩, fmE_iff.2 ⟨hf, ?_⟩, ?_⟩
  · simp only [Bool.and_eq_true, mthB_iff, inB_iff]; exact ⟨⟨⟨hk.1.1.1, by omega⟩, by omega⟩, hk.2⟩
  · simp only [Bool.and_eq_true, mthB_iff, inB_iff]; exact ⟨⟨⟨by omega, hk.1.1.2⟩, by omega⟩, hk.2⟩
  · have e1 : (tt - fr).toNat = (mid - fr).toNat + (tt - mid).toNat := by omega
    have e2 : fr + ((mid - fr).toNat : Int) = mid := by omega
    rw [e1, pbS_add, e2]

theorem fam_in (d m v l fr tt p o : Int) (ch : List Int) : fmE (fmB d m v l ch) (mthB fr && mthB tt && inB (tt - fr) 0 1200 && rtP p o) = 0 → 0 ≤ fr ∧ tt ≤ 35999 ∧ 0 ≤ tt - fr ∧ tt - fr ≤ 1200 := by
  intro hE
  obtain ⟨hf, hk⟩ := fmE_iff.1 hE
  simp only [Bool.and_eq_true, mthB_iff, inB_iff] at hk
  omega

theorem fam_sum (d m v l fr tt p o : Int) (ch : List Int) : fmE (fmB d m v l ch) (mthB fr && mthB tt && inB (tt - fr) 0 1200 && rtP p o) = 0 → ∀ f (k : Nat), 0 ≤ pbS d v l ch p o f k ∧ pbS d v l ch p o f k ≤ 13000000 * k := by
  intro hE f k
  obtain ⟨hf, hk⟩ := fmE_iff.1 hE
  rw [Bool.and_eq_true] at hk
  exact pbS_bd hk.2 ((fm_iff ..).1 hf).2.2.2.2.1 f k

set_option maxRecDepth 100000 in
set_option maxHeartbeats 16000000 in
theorem fnFamilies_walk (a0 : Option Addr) (len0 cap0 : Nat) (z0 : List Int) (w : World) (w0 : IsRow .u8 w a0 len0 cap0 z0) :
    Calls Try.prog 3 #[.slice a0 len0 cap0] w fun e w' => e = .returned (.bool true) ∧ Below w.heap.size w w' := by
  by_cases hbig : 4096 < (len0 : Int)
  · go_enter Try.func3, Try.ntmps3
    go_wp2_with (go_at_call 15; refine (bigT_any _ _ _ _).mono ?_; rintro e w' ⟨rfl, rfl⟩)
    go_ret
    exact ⟨rfl, Below.refl _ _⟩
  have HR := Lib.hid w0
  clear w0
  go_enter Try.func3, Try.ntmps3
  go_wp2_with (go_at_call 15; refine (bigT_any _ _ _ _).mono ?_; rintro e w' ⟨rfl, rfl⟩)
  refine (dpb_any a0 len0 cap0 z0 _ HR.out).mono ?_
  rintro e w1 ⟨d1, m1, v1, l1, x1, n1, q1, c1, fr, tt, p1, o1, rfl, hi, -, hb⟩
  have HLW : Hid (Below w.heap.size w w1) := Lib.hid hb
  clear hb
  have HF1 : Hid (FW w w1.heap.size d1 m1 v1 l1 x1 n1 q1 c1 (w1.alloc (.cells #[.int .i64 d1, .int .i64 m1, .int .i64 v1, .int .i64 l1, .slice x1 n1 q1] 26))) := Lib.hid ⟨Bx.new w1 [.int .i64 d1, .int .i64 m1, .int .i64 v1, .int .i64 l1, .slice x1 n1 q1] 26, hi.on (box_b _ _)⟩
  have hbx := box_b w1 (.cells #[.int .i64 d1, .int .i64 m1, .int .i64 v1, .int .i64 l1, .slice x1 n1 q1] 26)
  have HLW := Lib.hid (HLW.out.trans (hbx.mono HLW.out.size))
  obtain ⟨k1_0, k1_1, k1_2, k1_3, k1_4⟩ := HF1.out.b.five
  clear hi hbx
  go_wp2_with fail
  obtain ⟨X1, hX1⟩ : ∃ y_, w1.heap.size = y_ := ⟨_, rfl⟩
  obtain ⟨W1, hW1⟩ : ∃ y_, w1.alloc (.cells #[.int .i64 d1, .int .i64 m1, .int .i64 v1, .int .i64 l1, .slice x1 n1 q1] 26) = y_ := ⟨_, rfl⟩
  rw [hX1, hW1] at HF1
  rw [hW1] at HLW
  (try rw [hW1])
  (try rw [hX1])
  clear hX1 hW1
  obtain ⟨k1_0, k1_1, k1_2, k1_3, k1_4⟩ := HF1.out.b.five
  have CI3 : Hid (∀ W, Hid (FW w X1 d1 m1 v1 l1 x1 n1 q1 c1 W) → Calls Try.prog 17 #[.agg #[.int .i64 d1, .int .i64 m1, .int .i64 v1, .int .i64 l1, .slice x1 n1 q1], .int .i64 fr, .int .i64 tt, .int .i64 p1, .int .i64 o1] W fun e w' => e = .returned (.tuple #[.int .i64 (fV (fmE (fmB d1 m1 v1 l1 c1) (mthB fr && mthB tt && inB (tt - fr) 0 1200 && rtP p1 o1)) (pbS d1 v1 l1 c1 p1 o1 fr (tt - fr).toNat)), .int .i64 (fmE (fmB d1 m1 v1 l1 c1) (mthB fr && mthB tt && inB (tt - fr) 0 1200 && rtP p1 o1))]) ∧ Below W.heap.size W w') := Lib.hid (fun W hW => ipb_any d1 m1 v1 l1 c1 x1 n1 q1 fr tt p1 o1 W hW.out.i)
  have CS3 : Hid (∀ W, Hid (FW w X1 d1 m1 v1 l1 x1 n1 q1 c1 W) → Calls Try.prog 18 #[.agg #[.int .i64 d1, .int .i64 m1, .int .i64 v1, .int .i64 l1, .slice x1 n1 q1], .int .i64 fr, .int .i64 tt, .int .i64 p1, .int .i64 o1] W fun e w' => e = .returned (.tuple #[.int .i64 (fV (fmE (fmB d1 m1 v1 l1 c1) (mthB fr && mthB tt && inB (tt - fr) 0 1200 && rtP p1 o1)) (pbS d1 v1 l1 c1 p1 o1 fr (tt - fr).toNat)), .int .i64 (fmE (fmB d1 m1 v1 l1 c1) (mthB fr && mthB tt && inB (tt - fr) 0 1200 && rtP p1 o1))]) ∧ Below W.heap.size W w') := Lib.hid (fun W hW => spb_any d1 m1 v1 l1 c1 x1 n1 q1 fr tt p1 o1 W hW.out.i)
  have CF1 : Hid (∀ W, Hid (FW w X1 d1 m1 v1 l1 x1 n1 q1 c1 W) → Calls Try.prog 26 #[.agg #[.int .i64 d1, .int .i64 m1, .int .i64 v1, .int .i64 l1, .slice x1 n1 q1]] W fun e w' => e = .returned (.bool (fmB d1 m1 v1 l1 c1)) ∧ Below W.heap.size W w') := Lib.hid (fun W hW => ifm_any d1 m1 v1 l1 c1 x1 n1 q1 W hW.out.i)
  have CF2 : Hid (∀ W, Hid (FW w X1 d1 m1 v1 l1 x1 n1 q1 c1 W) → Calls Try.prog 27 #[.agg #[.int .i64 d1, .int .i64 m1, .int .i64 v1, .int .i64 l1, .slice x1 n1 q1]] W fun e w' => e = .returned (.bool (fmB d1 m1 v1 l1 c1)) ∧ Below W.heap.size W w') := Lib.hid (fun W hW => sfm_any d1 m1 v1 l1 c1 x1 n1 q1 W hW.out.i)
  have HP3b := Lib.hid (fam_in d1 m1 v1 l1 fr tt p1 o1 c1)
  have HP3c := Lib.hid (fam_sum d1 m1 v1 l1 fr tt p1 o1 c1)
  have HP3 := Lib.hid (fam_parts d1 m1 v1 l1 fr tt p1 o1 c1)
  have CP3 : Hid (∀ mid, fr ≤ mid → mid ≤ tt → fmE (fmB d1 m1 v1 l1 c1) (mthB fr && mthB tt && inB (tt - fr) 0 1200 && rtP p1 o1) = 0 → ∀ W, Hid (FW w X1 d1 m1 v1 l1 x1 n1 q1 c1 W) → Calls Try.prog 17 #[.agg #[.int .i64 d1, .int .i64 m1, .int .i64 v1, .int .i64 l1, .slice x1 n1 q1], .int .i64 fr, .int .i64 mid, .int .i64 p1, .int .i64 o1] W fun e w' => e = .returned (.tuple #[.int .i64 (pbS d1 v1 l1 c1 p1 o1 fr (mid - fr).toNat), .int .i64 0]) ∧ Below W.heap.size W w') := Lib.hid (fun mid h1 h2 hE W hW => by have := ipb_any d1 m1 v1 l1 c1 x1 n1 q1 fr mid p1 o1 W hW.out.i; rw [(HP3.out hE mid h1 h2).1] at this; exact this)
  have CQ3 : Hid (∀ mid, fr ≤ mid → mid ≤ tt → fmE (fmB d1 m1 v1 l1 c1) (mthB fr && mthB tt && inB (tt - fr) 0 1200 && rtP p1 o1) = 0 → ∀ W, Hid (FW w X1 d1 m1 v1 l1 x1 n1 q1 c1 W) → Calls Try.prog 17 #[.agg #[.int .i64 d1, .int .i64 m1, .int .i64 v1, .int .i64 l1, .slice x1 n1 q1], .int .i64 mid, .int .i64 tt, .int .i64 p1, .int .i64 o1] W fun e w' => e = .returned (.tuple #[.int .i64 (pbS d1 v1 l1 c1 p1 o1 mid (tt - mid).toNat), .int .i64 0]) ∧ Below W.heap.size W w') := Lib.hid (fun mid h1 h2 hE W hW => by have := ipb_any d1 m1 v1 l1 c1 x1 n1 q1 mid tt p1 o1 W hW.out.i; rw [(HP3.out hE mid h1 h2).2.1] at this; exact this)
  obtain ⟨E3, hE3⟩ : ∃ y_, fmE (fmB d1 m1 v1 l1 c1) (mthB fr && mthB tt && inB (tt - fr) 0 1200 && rtP p1 o1) = y_ := ⟨_, rfl⟩
  obtain ⟨V3, hV3⟩ : ∃ y_, fV E3 (pbS d1 v1 l1 c1 p1 o1 fr (tt - fr).toNat) = y_ := ⟨_, rfl⟩
  rw [hE3] at CI3 CS3 HP3 HP3b HP3c CP3 CQ3
  rw [hV3] at CI3 CS3
  have HV3 := Lib.hid hV3
  obtain ⟨B1, hB1⟩ : ∃ y_, fmB d1 m1 v1 l1 c1 = y_ := ⟨_, rfl⟩
  rw [hB1] at CF1 CF2
  clear hE3 hV3 hB1
  (with_reducible refine (CI3.out _ HF1).mono ?_)
  rintro e w2 ⟨rfl, hb⟩
  have HF1 := Lib.hid (HF1.out.on hb)
  have HLW := Lib.hid (HLW.out.trans (hb.mono HLW.out.size))
  clear hb
  obtain ⟨k1_0, k1_1, k1_2, k1_3, k1_4⟩ := HF1.out.b.five
  go_wp2_with fail
  (with_reducible refine (CS3.out _ HF1).mono ?_)
  rintro e w3 ⟨rfl, hb⟩
  have HF1 := Lib.hid (HF1.out.on hb)
  have HLW := Lib.hid (HLW.out.trans (hb.mono HLW.out.size))
  clear hb
  obtain ⟨k1_0, k1_1, k1_2, k1_3, k1_4⟩ := HF1.out.b.five
  go_wp2_with fail
  refine (dpi_any a0 len0 cap0 z0 _ (HR.out.below (HLW.out) HR.out.apart)).mono ?_
  rintro e w4 ⟨d2, m2, v2, l2, x2, n2, q2, c2, k, p2, o2, rfl, hi, -, hb⟩
  have HF1 := Lib.hid (HF1.out.on hb)
  have HLW := Lib.hid (HLW.out.trans (hb.mono HLW.out.size))
  clear hb
  have HF2 : Hid (FW w w4.heap.size d2 m2 v2 l2 x2 n2 q2 c2 (w4.alloc (.cells #[.int .i64 d2, .int .i64 m2, .int .i64 v2, .int .i64 l2, .slice x2 n2 q2] 26))) := Lib.hid ⟨Bx.new w4 [.int .i64 d2, .int .i64 m2, .int .i64 v2, .int .i64 l2, .slice x2 n2 q2] 26, hi.on (box_b _ _)⟩
  have hbx := box_b w4 (.cells #[.int .i64 d2, .int .i64 m2, .int .i64 v2, .int .i64 l2, .slice x2 n2 q2] 26)
  have HF1 := Lib.hid (HF1.out.on hbx)
  have HLW := Lib.hid (HLW.out.trans (hbx.mono HLW.out.size))
  obtain ⟨k2_0, k2_1, k2_2, k2_3, k2_4⟩ := HF2.out.b.five
  obtain ⟨k1_0, k1_1, k1_2, k1_3, k1_4⟩ := HF1.out.b.five
  clear hi hbx
  go_wp2_with fail
  obtain ⟨X2, hX2⟩ : ∃ y_, w4.heap.size = y_ := ⟨_, rfl⟩
  obtain ⟨W2, hW2⟩ : ∃ y_, w4.alloc (.cells #[.int .i64 d2, .int .i64 m2, .int .i64 v2, .int .i64 l2, .slice x2 n2 q2] 26) = y_ := ⟨_, rfl⟩
  rw [hX2, hW2] at HF2
  rw [hW2] at HLW
  rw [hW2] at HF1
  (try rw [hW2])
  (try rw [hX2])
  clear hX2 hW2
  obtain ⟨k1_0, k1_1, k1_2, k1_3, k1_4⟩ := HF1.out.b.five
  obtain ⟨k2_0, k2_1, k2_2, k2_3, k2_4⟩ := HF2.out.b.five
  have Ci2 : Hid (∀ W, Hid (FW w X2 d2 m2 v2 l2 x2 n2 q2 c2 W) → Calls Try.prog 20 #[.agg #[.int .i64 d2, .int .i64 m2, .int .i64 v2, .int .i64 l2, .slice x2 n2 q2], .int .i64 k, .int .i64 p2, .int .i64 o2] W fun e w' => e = .returned (.tuple #[.int .i64 (fV (fmE (fmB d2 m2 v2 l2 c2) (mthB k && rtP p2 o2)) (pnV d2 v2 l2 c2 k p2 o2)), .int .i64 (fmE (fmB d2 m2 v2 l2 c2) (mthB k && rtP p2 o2))]) ∧ Below W.heap.size W w') := Lib.hid (fun W hW => ipi_any d2 m2 v2 l2 c2 x2 n2 q2 k p2 o2 W hW.out.i)
  have CiG : Hid (∀ W, Hid (FW w X2 d2 m2 v2 l2 x2 n2 q2 c2 W) → Calls Try.prog 22 #[.agg #[.int .i64 d2, .int .i64 m2, .int .i64 v2, .int .i64 l2, .slice x2 n2 q2], .int .i64 k] W fun e w' => e = .returned (.tuple #[.bool (fB (fmE (fmB d2 m2 v2 l2 c2) (mthB k)) (wdB v2 l2 k)), .int .i64 (fmE (fmB d2 m2 v2 l2 c2) (mthB k))]) ∧ Below W.heap.size W w') := Lib.hid (fun W hW => igw_any d2 m2 v2 l2 c2 x2 n2 q2 k W hW.out.i)
  have CiO : Hid (∀ W, Hid (FW w X2 d2 m2 v2 l2 x2 n2 q2 c2 W) → Calls Try.prog 24 #[.agg #[.int .i64 d2, .int .i64 m2, .int .i64 v2, .int .i64 l2, .slice x2 n2 q2], .int .i64 k] W fun e w' => e = .returned (.tuple #[.int .i64 (fV (fmE (fmB d2 m2 v2 l2 c2) (mthB k)) (orN d2 c2 k)), .int .i64 (fmE (fmB d2 m2 v2 l2 c2) (mthB k))]) ∧ Below W.heap.size W w') := Lib.hid (fun W hW => ioi_any d2 m2 v2 l2 c2 x2 n2 q2 k W hW.out.i)
  have Cs2 : Hid (∀ W, Hid (FW w X2 d2 m2 v2 l2 x2 n2 q2 c2 W) → Calls Try.prog 21 #[.agg #[.int .i64 d2, .int .i64 m2, .int .i64 v2, .int .i64 l2, .slice x2 n2 q2], .int .i64 k, .int .i64 p2, .int .i64 o2] W fun e w' => e = .returned (.tuple #[.int .i64 (fV (fmE (fmB d2 m2 v2 l2 c2) (mthB k && rtP p2 o2)) (pnV d2 v2 l2 c2 k p2 o2)), .int .i64 (fmE (fmB d2 m2 v2 l2 c2) (mthB k && rtP p2 o2))]) ∧ Below W.heap.size W w') := Lib.hid (fun W hW => spi_any d2 m2 v2 l2 c2 x2 n2 q2 k p2 o2 W hW.out.i)
  have CsG : Hid (∀ W, Hid (FW w X2 d2 m2 v2 l2 x2 n2 q2 c2 W) → Calls Try.prog 23 #[.agg #[.int .i64 d2, .int .i64 m2, .int .i64 v2, .int .i64 l2, .slice x2 n2 q2], .int .i64 k] W fun e w' => e = .returned (.tuple #[.bool (fB (fmE (fmB d2 m2 v2 l2 c2) (mthB k)) (wdB v2 l2 k)), .int .i64 (fmE (fmB d2 m2 v2 l2 c2) (mthB k))]) ∧ Below W.heap.size W w') := Lib.hid (fun W hW => sgw_any d2 m2 v2 l2 c2 x2 n2 q2 k W hW.out.i)
  have CsO : Hid (∀ W, Hid (FW w X2 d2 m2 v2 l2 x2 n2 q2 c2 W) → Calls Try.prog 25 #[.agg #[.int .i64 d2, .int .i64 m2, .int .i64 v2, .int .i64 l2, .slice x2 n2 q2], .int .i64 k] W fun e w' => e = .returned (.tuple #[.int .i64 (fV (fmE (fmB d2 m2 v2 l2 c2) (mthB k)) (orN d2 c2 k)), .int .i64 (fmE (fmB d2 m2 v2 l2 c2) (mthB k))]) ∧ Below W.heap.size W w') := Lib.hid (fun W hW => soi_any d2 m2 v2 l2 c2 x2 n2 q2 k W hW.out.i)
  have HP2 := Lib.hid (fam_one d2 m2 v2 l2 k p2 o2 c2)
  obtain ⟨E2, hE2⟩ : ∃ y_, fmE (fmB d2 m2 v2 l2 c2) (mthB k && rtP p2 o2) = y_ := ⟨_, rfl⟩
  obtain ⟨E1, hE1⟩ : ∃ y_, fmE (fmB d2 m2 v2 l2 c2) (mthB k) = y_ := ⟨_, rfl⟩
  rw [hE2, hE1] at HP2
  rw [hE2] at Ci2 Cs2
  rw [hE1] at CiG CsG CiO CsO
  obtain ⟨V2, hV2⟩ : ∃ y_, fV E2 (pnV d2 v2 l2 c2 k p2 o2) = y_ := ⟨_, rfl⟩
  obtain ⟨G, hG⟩ : ∃ y_, fB E1 (wdB v2 l2 k) = y_ := ⟨_, rfl⟩
  obtain ⟨O, hO⟩ : ∃ y_, fV E1 (orN d2 c2 k) = y_ := ⟨_, rfl⟩
  rw [hV2] at Ci2 Cs2 HP2
  rw [hG] at CiG CsG HP2
  rw [hO] at CiO CsO HP2
  clear hE2 hE1 hV2 hG hO
  (with_reducible refine (Ci2.out _ HF2).mono ?_)
  rintro e w5 ⟨rfl, hb⟩
  have HF1 := Lib.hid (HF1.out.on hb)
  have HF2 := Lib.hid (HF2.out.on hb)
  have HLW := Lib.hid (HLW.out.trans (hb.mono HLW.out.size))
  clear hb
  obtain ⟨k1_0, k1_1, k1_2, k1_3, k1_4⟩ := HF1.out.b.five
  obtain ⟨k2_0, k2_1, k2_2, k2_3, k2_4⟩ := HF2.out.b.five
  go_wp2_with fail
  (with_reducible refine (Cs2.out _ HF2).mono ?_)
  rintro e w6 ⟨rfl, hb⟩
  have HF1 := Lib.hid (HF1.out.on hb)
  have HF2 := Lib.hid (HF2.out.on hb)
  have HLW := Lib.hid (HLW.out.trans (hb.mono HLW.out.size))
  clear hb
  obtain ⟨k1_0, k1_1, k1_2, k1_3, k1_4⟩ := HF1.out.b.five
  obtain ⟨k2_0, k2_1, k2_2, k2_3, k2_4⟩ := HF2.out.b.five
  go_wp2_with fail
  (with_reducible refine (CiG.out _ HF2).mono ?_)
  rintro e w7 ⟨rfl, hb⟩
  have HF1 := Lib.hid (HF1.out.on hb)
  have HF2 := Lib.hid (HF2.out.on hb)
  have HLW := Lib.hid (HLW.out.trans (hb.mono HLW.out.size))
  clear hb
  obtain ⟨k1_0, k1_1, k1_2, k1_3, k1_4⟩ := HF1.out.b.five
  obtain ⟨k2_0, k2_1, k2_2, k2_3, k2_4⟩ := HF2.out.b.five
  go_wp2_with fail
  (with_reducible refine (CsG.out _ HF2).mono ?_)
  rintro e w8 ⟨rfl, hb⟩
  have HF1 := Lib.hid (HF1.out.on hb)
  have HF2 := Lib.hid (HF2.out.on hb)
  have HLW := Lib.hid (HLW.out.trans (hb.mono HLW.out.size))
  clear hb
  obtain ⟨k1_0, k1_1, k1_2, k1_3, k1_4⟩ := HF1.out.b.five
  obtain ⟨k2_0, k2_1, k2_2, k2_3, k2_4⟩ := HF2.out.b.five
  go_wp2_with fail
  (with_reducible refine (CiO.out _ HF2).mono ?_)
  rintro e w9 ⟨rfl, hb⟩
  have HF1 := Lib.hid (HF1.out.on hb)
  have HF2 := Lib.hid (HF2.out.on hb)
  have HLW := Lib.hid (HLW.out.trans (hb.mono HLW.out.size))
  clear hb
  obtain ⟨k1_0, k1_1, k1_2, k1_3, k1_4⟩ := HF1.out.b.five
  obtain ⟨k2_0, k2_1, k2_2, k2_3, k2_4⟩ := HF2.out.b.five
  go_wp2_with fail
  (with_reducible refine (CsO.out _ HF2).mono ?_)
  rintro e w10 ⟨rfl, hb⟩
  have HF1 := Lib.hid (HF1.out.on hb)
  have HF2 := Lib.hid (HF2.out.on hb)
  have HLW := Lib.hid (HLW.out.trans (hb.mono HLW.out.size))
  clear hb
  obtain ⟨k1_0, k1_1, k1_2, k1_3, k1_4⟩ := HF1.out.b.five
  obtain ⟨k2_0, k2_1, k2_2, k2_3, k2_4⟩ := HF2.out.b.five
  go_wp2_with fail
  have HF1 := Lib.hid (HF1.out.on (Below.drew (Below.refl _ _)))
  have HF2 := Lib.hid (HF2.out.on (Below.drew (Below.refl _ _)))
  have HLW := Lib.hid (HLW.out.drew)
  refine wp_region_held_drew (S := (fun W9 => W9.cell? ⟨X1, 0, none⟩ = some (.int .i64 d1) ∧ W9.cell? ⟨X1, 1, none⟩ = some (.int .i64 m1) ∧ W9.cell? ⟨X1, 2, none⟩ = some (.int .i64 v1) ∧ W9.cell? ⟨X1, 3, none⟩ = some (.int .i64 l1) ∧ W9.cell? ⟨X1, 4, none⟩ = some (.slice x1 n1 q1))) (by kernel_rfl) HF1.out.b.five (fun hHeld => ?_)
  refine wpAnyH_take (i := 0) (v := ?_) rfl (by kernel_rfl) (by kernel_rfl) (by kernel_rfl) (fun _ _ _ h => h) (Or.inl ⟨by kernel_rfl, ?_⟩) (by assumption) ?_
  rotate_left
  · (intro w hSw; (try dsimp only at hSw); go_split_ands; go_simp; try with_reducible rfl)
  try simp only [Act.put, List.setIfInBounds_toArray, List.set_cons_zero, List.set_cons_succ]
  refine wpAnyH_take (i := 1) (v := ?_) rfl (by kernel_rfl) (by kernel_rfl) (by kernel_rfl) (fun _ _ _ h => h) (Or.inl ⟨by kernel_rfl, ?_⟩) (by assumption) ?_
  rotate_left
  · (intro w hSw; (try dsimp only at hSw); go_split_ands; go_simp; try with_reducible rfl)
  try simp only [Act.put, List.setIfInBounds_toArray, List.set_cons_zero, List.set_cons_succ]
  refine wpAnyH_take (i := 2) (v := ?_) rfl (by kernel_rfl) (by kernel_rfl) (by kernel_rfl) (fun _ _ _ h => h) (Or.inl ⟨by kernel_rfl, ?_⟩) (by assumption) ?_
  rotate_left
  · (intro w hSw; (try dsimp only at hSw); go_split_ands; go_simp; try with_reducible rfl)
  try simp only [Act.put, List.setIfInBounds_toArray, List.set_cons_zero, List.set_cons_succ]
  refine wpAnyH_take (i := 3) (v := ?_) rfl (by kernel_rfl) (by kernel_rfl) (by kernel_rfl) (fun _ _ _ h => h) (Or.inl ⟨by kernel_rfl, ?_⟩) (by assumption) ?_
  rotate_left
  · (intro w hSw; (try dsimp only at hSw); go_split_ands; go_simp; try with_reducible rfl)
  try simp only [Act.put, List.setIfInBounds_toArray, List.set_cons_zero, List.set_cons_succ]
  refine wpAnyH_take (i := 4) (v := ?_) rfl (by kernel_rfl) (by kernel_rfl) (by kernel_rfl) (fun _ _ _ h => h) (Or.inl ⟨by kernel_rfl, ?_⟩) (by assumption) ?_
  rotate_left
  · (intro w hSw; (try dsimp only at hSw); go_split_ands; go_simp; try with_reducible rfl)
  try simp only [Act.put, List.setIfInBounds_toArray, List.set_cons_zero, List.set_cons_succ]
  refine wpAnyH_take (i := 5) (v := ?_) rfl (by kernel_rfl) (by kernel_rfl) (by kernel_rfl) (fun _ _ _ h => h) (Or.inl ⟨by kernel_rfl, ?_⟩) (by assumption) ?_
  rotate_left
  · (intro w hSw; (try dsimp only at hSw); go_split_ands; go_simp; try with_reducible rfl)
  try simp only [Act.put, List.setIfInBounds_toArray, List.set_cons_zero, List.set_cons_succ]
  refine wpAnyH_take (i := 6) (v := ?_) rfl (by kernel_rfl) (by kernel_rfl) (by kernel_rfl) (fun _ _ _ h => h) (Or.inl ⟨by kernel_rfl, ?_⟩) (by assumption) ?_
  rotate_left
  · (intro w hSw; (try dsimp only at hSw); go_split_ands; go_simp; try with_reducible rfl)
  try simp only [Act.put, List.setIfInBounds_toArray, List.set_cons_zero, List.set_cons_succ]
  refine wpAnyH_take (i := 7) (v := ?_) rfl (by kernel_rfl) (by kernel_rfl) (by kernel_rfl) (fun _ _ _ h => h) (Or.inl ⟨by kernel_rfl, ?_⟩) (by assumption) ?_
  rotate_left
  · (intro w hSw; (try dsimp only at hSw); go_split_ands; go_simp; try with_reducible rfl)
  try simp only [Act.put, List.setIfInBounds_toArray, List.set_cons_zero, List.set_cons_succ]
  refine wpAnyH_take (i := 8) (v := ?_) rfl (by kernel_rfl) (by kernel_rfl) (by kernel_rfl) (fun _ _ _ h => h) (Or.inl ⟨by kernel_rfl, ?_⟩) (by assumption) ?_
  rotate_left
  · (intro w hSw; (try dsimp only at hSw); go_split_ands; go_simp; try with_reducible rfl)
  try simp only [Act.put, List.setIfInBounds_toArray, List.set_cons_zero, List.set_cons_succ]
  refine wpAnyH_take (i := 9) (v := ?_) rfl (by kernel_rfl) (by kernel_rfl) (by kernel_rfl) (fun _ _ _ h => h) (Or.inl ⟨by kernel_rfl, ?_⟩) (by assumption) ?_
  rotate_left
  · (intro w hSw; (try dsimp only at hSw); go_split_ands; go_simp; try with_reducible rfl)
  try simp only [Act.put, List.setIfInBounds_toArray, List.set_cons_zero, List.set_cons_succ]
  refine wpAnyH_take (i := 10) (v := ?_) rfl (by kernel_rfl) (by kernel_rfl) (by kernel_rfl) (fun _ _ _ h => h) (Or.inl ⟨by kernel_rfl, ?_⟩) (by assumption) ?_
  rotate_left
  · (intro w hSw; (try dsimp only at hSw); go_split_ands; go_simp; try with_reducible rfl)
  try simp only [Act.put, List.setIfInBounds_toArray, List.set_cons_zero, List.set_cons_succ]
  refine wpAnyH_take (i := 11) (v := ?_) rfl (by kernel_rfl) (by kernel_rfl) (by kernel_rfl) (fun _ _ _ h => h) (Or.inl ⟨by kernel_rfl, ?_⟩) (by assumption) ?_
  rotate_left
  · (intro w hSw; (try dsimp only at hSw); go_split_ands; go_simp; try with_reducible rfl)
  try simp only [Act.put, List.setIfInBounds_toArray, List.set_cons_zero, List.set_cons_succ]
  refine wpAnyH_take (i := 12) (v := ?_) rfl (by kernel_rfl) (by kernel_rfl) (by kernel_rfl) (fun _ _ _ h => h) (Or.inl ⟨by kernel_rfl, ?_⟩) (by assumption) ?_
  rotate_left
  · (intro w hSw; (try dsimp only at hSw); go_split_ands; go_simp; try with_reducible rfl)
  try simp only [Act.put, List.setIfInBounds_toArray, List.set_cons_zero, List.set_cons_succ]
  refine wpAnyH_take (i := 13) (v := ?_) rfl (by kernel_rfl) (by kernel_rfl) (by kernel_rfl) (fun _ _ _ h => h) (Or.inl ⟨by kernel_rfl, ?_⟩) (by assumption) ?_
  rotate_left
  · (intro w hSw; (try dsimp only at hSw); go_split_ands; go_simp; try with_reducible rfl)
  try simp only [Act.put, List.setIfInBounds_toArray, List.set_cons_zero, List.set_cons_succ]
  refine wpAnyH_take (i := 14) (v := ?_) rfl (by kernel_rfl) (by kernel_rfl) (by kernel_rfl) (fun _ _ _ h => h) (Or.inl ⟨by kernel_rfl, ?_⟩) (by assumption) ?_
  rotate_left
  · (intro w hSw; (try dsimp only at hSw); go_split_ands; go_simp; try with_reducible rfl)
  try simp only [Act.put, List.setIfInBounds_toArray, List.set_cons_zero, List.set_cons_succ]
  refine wpAnyH_take (i := 15) (v := ?_) rfl (by kernel_rfl) (by kernel_rfl) (by kernel_rfl) (fun _ _ _ h => h) (Or.inl ⟨by kernel_rfl, ?_⟩) (by assumption) ?_
  rotate_left
  · (intro w hSw; (try dsimp only at hSw); go_split_ands; go_simp; try with_reducible rfl)
  try simp only [Act.put, List.setIfInBounds_toArray, List.set_cons_zero, List.set_cons_succ]
  refine wpAnyH_take (i := 16) (v := ?_) rfl (by kernel_rfl) (by kernel_rfl) (by kernel_rfl) (fun _ _ _ h => h) (Or.inl ⟨by kernel_rfl, ?_⟩) (by assumption) ?_
  rotate_left
  · (intro w hSw; (try dsimp only at hSw); go_split_ands; go_simp; try with_reducible rfl)
  try simp only [Act.put, List.setIfInBounds_toArray, List.set_cons_zero, List.set_cons_succ]
  refine wpAnyH_take (i := 17) (v := ?_) rfl (by kernel_rfl) (by kernel_rfl) (by kernel_rfl) (fun _ _ _ h => h) (Or.inl ⟨by kernel_rfl, ?_⟩) (by assumption) ?_
  rotate_left
  · (intro w hSw; (try dsimp only at hSw); go_split_ands; go_simp; try with_reducible rfl)
  try simp only [Act.put, List.setIfInBounds_toArray, List.set_cons_zero, List.set_cons_succ]
  refine wpAnyH_take (i := 18) (v := ?_) rfl (by kernel_rfl) (by kernel_rfl) (by kernel_rfl) (fun _ _ _ h => h) (Or.inl ⟨by kernel_rfl, ?_⟩) (by assumption) ?_
  rotate_left
  · (intro w hSw; (try dsimp only at hSw); go_split_ands; go_simp; try with_reducible rfl)
  try simp only [Act.put, List.setIfInBounds_toArray, List.set_cons_zero, List.set_cons_succ]
  refine wpAnyH_take (i := 19) (v := ?_) rfl (by kernel_rfl) (by kernel_rfl) (by kernel_rfl) (fun _ _ _ h => h) (Or.inl ⟨by kernel_rfl, ?_⟩) (by assumption) ?_
  rotate_left
  · (intro w hSw; (try dsimp only at hSw); go_split_ands; go_simp; try with_reducible rfl)
  try simp only [Act.put, List.setIfInBounds_toArray, List.set_cons_zero, List.set_cons_succ]
  refine wpAnyH_take (i := 20) (v := ?_) rfl (by kernel_rfl) (by kernel_rfl) (by kernel_rfl) (fun _ _ _ h => h) (Or.inl ⟨by kernel_rfl, ?_⟩) (by assumption) ?_
  rotate_left
  · (intro w hSw; (try dsimp only at hSw); go_split_ands; go_simp; try with_reducible rfl)
  try simp only [Act.put, List.setIfInBounds_toArray, List.set_cons_zero, List.set_cons_succ]
  refine wpAnyH_take (i := 21) (v := ?_) rfl (by kernel_rfl) (by kernel_rfl) (by kernel_rfl) (fun _ _ _ h => h) (Or.inl ⟨by kernel_rfl, ?_⟩) (by assumption) ?_
  rotate_left
  · (intro w hSw; (try dsimp only at hSw); go_split_ands; go_simp; try with_reducible rfl)
  try simp only [Act.put, List.setIfInBounds_toArray, List.set_cons_zero, List.set_cons_succ]
  refine wpAnyH_take (i := 22) (v := ?_) rfl (by kernel_rfl) (by kernel_rfl) (by kernel_rfl) (fun _ _ _ h => h) (Or.inl ⟨by kernel_rfl, ?_⟩) (by assumption) ?_
  rotate_left
  · (intro w hSw; (try dsimp only at hSw); go_split_ands; go_simp; try with_reducible rfl)
  try simp only [Act.put, List.setIfInBounds_toArray, List.set_cons_zero, List.set_cons_succ]
  refine wpAnyH_take (i := 23) (v := ?_) rfl (by kernel_rfl) (by kernel_rfl) (by kernel_rfl) (fun _ _ _ h => h) (Or.inl ⟨by kernel_rfl, ?_⟩) (by assumption) ?_
  rotate_left
  · (intro w hSw; (try dsimp only at hSw); go_split_ands; go_simp; try with_reducible rfl)
  try simp only [Act.put, List.setIfInBounds_toArray, List.set_cons_zero, List.set_cons_succ]
  refine wpAnyH_take (i := 24) (v := ?_) rfl (by kernel_rfl) (by kernel_rfl) (by kernel_rfl) (fun _ _ _ h => h) (Or.inl ⟨by kernel_rfl, ?_⟩) (by assumption) ?_
  rotate_left
  · (intro w hSw; (try dsimp only at hSw); go_split_ands; go_simp; try with_reducible rfl)
  try simp only [Act.put, List.setIfInBounds_toArray, List.set_cons_zero, List.set_cons_succ]
  refine wpAnyH_take (i := 25) (v := ?_) rfl (by kernel_rfl) (by kernel_rfl) (by kernel_rfl) (fun _ _ _ h => h) (Or.inl ⟨by kernel_rfl, ?_⟩) (by assumption) ?_
  rotate_left
  · (intro w hSw; (try dsimp only at hSw); go_split_ands; go_simp; try with_reducible rfl)
  try simp only [Act.put, List.setIfInBounds_toArray, List.set_cons_zero, List.set_cons_succ]
  refine wpAnyH_take (i := 26) (v := ?_) rfl (by kernel_rfl) (by kernel_rfl) (by kernel_rfl) (fun _ _ _ h => h) (Or.inl ⟨by kernel_rfl, ?_⟩) (by assumption) ?_
  rotate_left
  · (intro w hSw; (try dsimp only at hSw); go_split_ands; go_simp; try with_reducible rfl)
  try simp only [Act.put, List.setIfInBounds_toArray, List.set_cons_zero, List.set_cons_succ]
  refine wpAnyH_take (i := 27) (v := ?_) rfl (by kernel_rfl) (by kernel_rfl) (by kernel_rfl) (fun _ _ _ h => h) (Or.inl ⟨by kernel_rfl, ?_⟩) (by assumption) ?_
  rotate_left
  · (intro w hSw; (try dsimp only at hSw); go_split_ands; go_simp; try with_reducible rfl)
  try simp only [Act.put, List.setIfInBounds_toArray, List.set_cons_zero, List.set_cons_succ]
  refine wpAnyH_take (i := 28) (v := ?_) rfl (by kernel_rfl) (by kernel_rfl) (by kernel_rfl) (fun _ _ _ h => h) (Or.inl ⟨by kernel_rfl, ?_⟩) (by assumption) ?_
  rotate_left
  · (intro w hSw; (try dsimp only at hSw); go_split_ands; go_simp; try with_reducible rfl)
  try simp only [Act.put, List.setIfInBounds_toArray, List.set_cons_zero, List.set_cons_succ]
  refine wpAnyH_take (i := 29) (v := ?_) rfl (by kernel_rfl) (by kernel_rfl) (by kernel_rfl) (fun _ _ _ h => h) (Or.inl ⟨by kernel_rfl, ?_⟩) (by assumption) ?_
  rotate_left
  · (intro w hSw; (try dsimp only at hSw); go_split_ands; go_simp; try with_reducible rfl)
  try simp only [Act.put, List.setIfInBounds_toArray, List.set_cons_zero, List.set_cons_succ]
  refine wpAnyH_take (i := 30) (v := ?_) rfl (by kernel_rfl) (by kernel_rfl) (by kernel_rfl) (fun _ _ _ h => h) (Or.inl ⟨by kernel_rfl, ?_⟩) (by assumption) ?_
  rotate_left
  · (intro w hSw; (try dsimp only at hSw); go_split_ands; go_simp; try with_reducible rfl)
  try simp only [Act.put, List.setIfInBounds_toArray, List.set_cons_zero, List.set_cons_succ]
  refine wpAnyH_take (i := 31) (v := ?_) rfl (by kernel_rfl) (by kernel_rfl) (by kernel_rfl) (fun _ _ _ h => h) (Or.inl ⟨by kernel_rfl, ?_⟩) (by assumption) ?_
  rotate_left
  · (intro w hSw; (try dsimp only at hSw); go_split_ands; go_simp; try with_reducible rfl)
  try simp only [Act.put, List.setIfInBounds_toArray, List.set_cons_zero, List.set_cons_succ]
  refine wpAnyH_take (i := 32) (v := ?_) rfl (by kernel_rfl) (by kernel_rfl) (by kernel_rfl) (fun _ _ _ h => h) (Or.inl ⟨by kernel_rfl, ?_⟩) (by assumption) ?_
  rotate_left
  · (intro w hSw; (try dsimp only at hSw); go_split_ands; go_simp; try with_reducible rfl)
  try simp only [Act.put, List.setIfInBounds_toArray, List.set_cons_zero, List.set_cons_succ]
  refine wpAnyH_take (i := 33) (v := ?_) rfl (by kernel_rfl) (by kernel_rfl) (by kernel_rfl) (fun _ _ _ h => h) (Or.inl ⟨by kernel_rfl, ?_⟩) (by assumption) ?_
  rotate_left
  · (intro w hSw; (try dsimp only at hSw); go_split_ands; go_simp; try with_reducible rfl)
  try simp only [Act.put, List.setIfInBounds_toArray, List.set_cons_zero, List.set_cons_succ]
  refine wpAnyH_take (i := 34) (v := ?_) rfl (by kernel_rfl) (by kernel_rfl) (by kernel_rfl) (fun _ _ _ h => h) (Or.inl ⟨by kernel_rfl, ?_⟩) (by assumption) ?_
  rotate_left
  · (intro w hSw; (try dsimp only at hSw); go_split_ands; go_simp; try with_reducible rfl)
  try simp only [Act.put, List.setIfInBounds_toArray, List.set_cons_zero, List.set_cons_succ]
  refine wpAnyH_take (i := 35) (v := ?_) rfl (by kernel_rfl) (by kernel_rfl) (by kernel_rfl) (fun _ _ _ h => h) (Or.inl ⟨by kernel_rfl, ?_⟩) (by assumption) ?_
  rotate_left
  · (intro w hSw; (try dsimp only at hSw); go_split_ands; go_simp; try with_reducible rfl)
  try simp only [Act.put, List.setIfInBounds_toArray, List.set_cons_zero, List.set_cons_succ]
  refine wpAnyH_take (i := 36) (v := ?_) rfl (by kernel_rfl) (by kernel_rfl) (by kernel_rfl) (fun _ _ _ h => h) (Or.inl ⟨by kernel_rfl, ?_⟩) (by assumption) ?_
  rotate_left
  · (intro w hSw; (try dsimp only at hSw); go_split_ands; go_simp; try with_reducible rfl)
  try simp only [Act.put, List.setIfInBounds_toArray, List.set_cons_zero, List.set_cons_succ]
  refine wpAnyH_take (i := 37) (v := ?_) rfl (by kernel_rfl) (by kernel_rfl) (by kernel_rfl) (fun _ _ _ h => h) (Or.inl ⟨by kernel_rfl, ?_⟩) (by assumption) ?_
  rotate_left
  · (intro w hSw; (try dsimp only at hSw); go_split_ands; go_simp; try with_reducible rfl)
  try simp only [Act.put, List.setIfInBounds_toArray, List.set_cons_zero, List.set_cons_succ]
  refine wpAnyH_take (i := 38) (v := ?_) rfl (by kernel_rfl) (by kernel_rfl) (by kernel_rfl) (fun _ _ _ h => h) (Or.inl ⟨by kernel_rfl, ?_⟩) (by assumption) ?_
  rotate_left
  · (intro w hSw; (try dsimp only at hSw); go_split_ands; go_simp; try with_reducible rfl)
  try simp only [Act.put, List.setIfInBounds_toArray, List.set_cons_zero, List.set_cons_succ]
  refine wpAnyH_take (i := 39) (v := ?_) rfl (by kernel_rfl) (by kernel_rfl) (by kernel_rfl) (fun _ _ _ h => h) (Or.inl ⟨by kernel_rfl, ?_⟩) (by assumption) ?_
  rotate_left
  · (intro w hSw; (try dsimp only at hSw); go_split_ands; go_simp; try with_reducible rfl)
  try simp only [Act.put, List.setIfInBounds_toArray, List.set_cons_zero, List.set_cons_succ]
  refine wpAnyH_take (i := 41) (v := ?_) rfl (by kernel_rfl) (by kernel_rfl) (by kernel_rfl) (fun _ _ _ h => h) (Or.inl ⟨by kernel_rfl, ?_⟩) (by assumption) ?_
  rotate_left
  · (intro w hSw; (try dsimp only at hSw); go_split_ands; go_simp; try with_reducible rfl)
  try simp only [Act.put, List.setIfInBounds_toArray, List.set_cons_zero, List.set_cons_succ]
  refine wpAnyH_ready (rs := [40]) (by kernel_rfl) (by simp) ?_
  refine AllReadyH.cons (o := _) rfl (fun K hK => ?_) AllReadyH.nil
  try simp only [List.getElem_toArray, List.getElem_cons_succ, List.getElem_cons_zero]
  go_simp
  with_reducible refine (CF1.out _ HF1).mono ?_
  rintro e wA ⟨rfl, hb⟩
  have HF1 := Lib.hid (HF1.out.on hb)
  have HF2 := Lib.hid (HF2.out.on hb)
  have HLW := Lib.hid (HLW.out.trans (hb.mono HLW.out.size))
  clear hb
  refine hK.out _ _ ?_ (fun hHeld => ?_)
  · exact HF1.out.b.five
  clear hK K
  try simp only [Act.put, List.setIfInBounds_toArray, List.set_cons_zero, List.set_cons_succ]
  refine wpAnyH_ready (rs := [42]) (by kernel_rfl) (by simp) ?_
  refine AllReadyH.cons (o := _) rfl (fun K hK => ?_) AllReadyH.nil
  try simp only [List.getElem_toArray, List.getElem_cons_succ, List.getElem_cons_zero]
  go_simp
  with_reducible refine (CF2.out _ HF1).mono ?_
  rintro e wB ⟨rfl, hb⟩
  have HF1 := Lib.hid (HF1.out.on hb)
  have HF2 := Lib.hid (HF2.out.on hb)
  have HLW := Lib.hid (HLW.out.trans (hb.mono HLW.out.size))
  clear hb
  refine hK.out _ _ ?_ (fun hHeld => ?_)
  · exact HF1.out.b.five
  clear hK K
  try simp only [Act.put, List.setIfInBounds_toArray, List.set_cons_zero, List.set_cons_succ]
  refine wpAnyH_take (i := 43) (v := ?_) rfl (by kernel_rfl) (by kernel_rfl) (by kernel_rfl) (fun _ _ _ h => h) (Or.inl ⟨by kernel_rfl, ?_⟩) (by assumption) ?_
  rotate_left
  · (intro w hSw; (try dsimp only at hSw); go_split_ands; go_simp; try with_reducible rfl)
  try simp only [Act.put, List.setIfInBounds_toArray, List.set_cons_zero, List.set_cons_succ]
  refine wpAnyH_take (i := 44) (v := ?_) rfl (by kernel_rfl) (by kernel_rfl) (by kernel_rfl) (fun _ _ _ h => h) (Or.inl ⟨by kernel_rfl, ?_⟩) (by assumption) ?_
  rotate_left
  · (intro w hSw; (try dsimp only at hSw); go_split_ands; go_simp; try with_reducible rfl)
  try simp only [Act.put, List.setIfInBounds_toArray, List.set_cons_zero, List.set_cons_succ]
  refine wpAnyH_done (by kernel_rfl) ?_ _
  try simp only [List.getElem_toArray, List.getElem_cons_succ, List.getElem_cons_zero, List.setIfInBounds_toArray, List.set_cons_zero, List.set_cons_succ]
  obtain ⟨k1_0, k1_1, k1_2, k1_3, k1_4⟩ := HF1.out.b.five
  obtain ⟨k2_0, k2_1, k2_2, k2_3, k2_4⟩ := HF2.out.b.five
  clear CF1 CF2 CI3 CS3 Ci2 Cs2 CiG CsG CiO CsO
  have key : ∀ _ : True, True := fun _ => trivial
  by_cases g2 : E2 = 0
  · obtain ⟨hv2, a1, a2, a3, a4⟩ := HP2.out g2
    subst g2
    have q1 : IntKind.i64.wrap (o2 * O) = o2 * O := IntWalk.i64_in _ (by omega)
    have q2 : IntKind.i64.wrap (o2 * O + p2) = o2 * O + p2 := IntWalk.i64_in _ (by omega)
    cases G with
    | false =>
      have hv3 : V2 = o2 * O := by rw [hv2]; simp
      have hv4 : ((o2 * O) != V2) = false := by rw [hv3]; simp
      clear hv2 hv3 a1 a2 a3 a4
      by_cases g3 : E3 = 0
      · obtain ⟨t1, t2, t3⟩ := HP3b.out g3
        subst g3
        have q5 : IntKind.i64.wrap (tt - fr) = tt - fr := IntWalk.i64_in _ (by omega)
        have q6 : IntKind.i64.wrap (tt - fr + 1) = tt - fr + 1 := IntWalk.i64_in _ (by omega)
        have HT := Lib.hid (And.intro t1 (And.intro t2 t3))
        have hn1 : Hid (1 ≤ tt - fr + 1 ∧ tt - fr + 1 ≤ 1000000) := Lib.hid (by omega)
        clear t1 t2 t3
        have HRB := Lib.hid (HR.out.below HLW.out HR.out.apart)
        have HFB := HF1
        have HLB := HLW
        go_wp2_with fail
        refine (roll_any a0 len0 cap0 z0 1401 _ HRB.out (by omega) (by omega)).mono ?_
        rintro e u1 ⟨rfl, ⟨h9, h90, h91, hdc⟩, hb⟩
        have HDC := Lib.hid hdc
        have HU := Lib.hid hb
        clear hb hdc
        go_wp2_with fail
        refine (below_any _ a0 len0 cap0 z0 h9 _ _ u1 (HRB.out.below HU.out HRB.out.apart) HRB.out.apart HDC.out (Nat.le_refl _) hn1.out.1 hn1.out.2).mono ?_
        rintro e u2 ⟨r9, rfl, r0, r1, hb⟩
        have hb := HU.out.trans hb
        have HF1 := Lib.hid (HFB.out.on hb)
        have HLW := Lib.hid (HLB.out.trans (hb.mono HLB.out.size))
        have hT := HT.out
        obtain ⟨mid, hmid⟩ : ∃ y_, fr + r9 = y_ := ⟨_, rfl⟩
        have M0 : Hid (fr ≤ mid ∧ mid ≤ tt) := Lib.hid (by omega)
        have q7 : IntKind.i64.wrap (fr + r9) = mid := by rw [hmid]; exact IntWalk.i64_in _ (by have := M0.out; omega)
        have SA := HP3.out (by trivial) mid M0.out.1 M0.out.2
        have b1 := HP3c.out (by trivial) fr (mid - fr).toNat
        have b2 := HP3c.out (by trivial) mid (tt - mid).toNat
        have CA := CP3.out mid M0.out.1 M0.out.2 (by trivial)
        have CB := CQ3.out mid M0.out.1 M0.out.2 (by trivial)
        have hs := SA.2.2.trans HV3.out
        obtain ⟨S1, hS1⟩ : ∃ y_, pbS d1 v1 l1 c1 p1 o1 fr (mid - fr).toNat = y_ := ⟨_, rfl⟩
        obtain ⟨S2, hS2⟩ : ∃ y_, pbS d1 v1 l1 c1 p1 o1 mid (tt - mid).toNat = y_ := ⟨_, rfl⟩
        rw [hS1] at hs b1 CA
        rw [hS2] at hs b2 CB
        have q8 : IntKind.i64.wrap (S1 + S2) = V3 := by rw [hs]; exact IntWalk.i64_in _ (by have := M0.out; omega)
        have CA := Lib.hid CA
        have CB := Lib.hid CB
        clear hb SA b1 b2 hs hS1 hS2 hmid hT r0 r1 CP3 CQ3 HP3 HP3b HP3c HV3
        obtain ⟨k1_0, k1_1, k1_2, k1_3, k1_4⟩ := HF1.out.b.five
        go_wp2_with fail
        (with_reducible refine (CA.out _ HF1).mono ?_)
        rintro e u3 ⟨rfl, hb⟩
        have HF1 := Lib.hid (HF1.out.on hb)
        have HLW := Lib.hid (HLW.out.trans (hb.mono HLW.out.size))
        clear hb
        obtain ⟨k1_0, k1_1, k1_2, k1_3, k1_4⟩ := HF1.out.b.five
        go_wp2_with fail
        (with_reducible refine (CB.out _ HF1).mono ?_)
        rintro e u4 ⟨rfl, hb⟩
        have HLW := Lib.hid (HLW.out.trans (hb.mono HLW.out.size))
        clear hb
        go_wp2_with fail
        go_ret
        exact ⟨rfl, HLW.out⟩
      · have g3' : (E3 != 0) = true := by simpa using g3
        clear g3
        go_wp2_with fail
        go_ret
        exact ⟨rfl, HLW.out⟩
    | true =>
      have hv3 : V2 = o2 * O + p2 := by rw [hv2]; simp
      have hv4 : ((o2 * O + p2) != V2) = false := by rw [hv3]; simp
      clear hv2 hv3 a1 a2 a3 a4
      by_cases g3 : E3 = 0
      · obtain ⟨t1, t2, t3⟩ := HP3b.out g3
        subst g3
        have q5 : IntKind.i64.wrap (tt - fr) = tt - fr := IntWalk.i64_in _ (by omega)
        have q6 : IntKind.i64.wrap (tt - fr + 1) = tt - fr + 1 := IntWalk.i64_in _ (by omega)
        have HT := Lib.hid (And.intro t1 (And.intro t2 t3))
        have hn1 : Hid (1 ≤ tt - fr + 1 ∧ tt - fr + 1 ≤ 1000000) := Lib.hid (by omega)
        clear t1 t2 t3
        have HRB := Lib.hid (HR.out.below HLW.out HR.out.apart)
        have HFB := HF1
        have HLB := HLW
        go_wp2_with fail
        refine (roll_any a0 len0 cap0 z0 1401 _ HRB.out (by omega) (by omega)).mono ?_
        rintro e u1 ⟨rfl, ⟨h9, h90, h91, hdc⟩, hb⟩
        have HDC := Lib.hid hdc
        have HU := Lib.hid hb
        clear hb hdc
        go_wp2_with fail
        refine (below_any _ a0 len0 cap0 z0 h9 _ _ u1 (HRB.out.below HU.out HRB.out.apart) HRB.out.apart HDC.out (Nat.le_refl _) hn1.out.1 hn1.out.2).mono ?_
        rintro e u2 ⟨r9, rfl, r0, r1, hb⟩
        have hb := HU.out.trans hb
        have HF1 := Lib.hid (HFB.out.on hb)
        have HLW := Lib.hid (HLB.out.trans (hb.mono HLB.out.size))
        have hT := HT.out
        obtain ⟨mid, hmid⟩ : ∃ y_, fr + r9 = y_ := ⟨_, rfl⟩
        have M0 : Hid (fr ≤ mid ∧ mid ≤ tt) := Lib.hid (by omega)
        have q7 : IntKind.i64.wrap (fr + r9) = mid := by rw [hmid]; exact IntWalk.i64_in _ (by have := M0.out; omega)
        have SA := HP3.out (by trivial) mid M0.out.1 M0.out.2
        have b1 := HP3c.out (by trivial) fr (mid - fr).toNat
        have b2 := HP3c.out (by trivial) mid (tt - mid).toNat
        have CA := CP3.out mid M0.out.1 M0.out.2 (by trivial)
        have CB := CQ3.out mid M0.out.1 M0.out.2 (by trivial)
        have hs := SA.2.2.trans HV3.out
        obtain ⟨S1, hS1⟩ : ∃ y_, pbS d1 v1 l1 c1 p1 o1 fr (mid - fr).toNat = y_ := ⟨_, rfl⟩
        obtain ⟨S2, hS2⟩ : ∃ y_, pbS d1 v1 l1 c1 p1 o1 mid (tt - mid).toNat = y_ := ⟨_, rfl⟩
        rw [hS1] at hs b1 CA
        rw [hS2] at hs b2 CB
        have q8 : IntKind.i64.wrap (S1 + S2) = V3 := by rw [hs]; exact IntWalk.i64_in _ (by have := M0.out; omega)
        have CA := Lib.hid CA
        have CB := Lib.hid CB
        clear hb SA b1 b2 hs hS1 hS2 hmid hT r0 r1 CP3 CQ3 HP3 HP3b HP3c HV3
        obtain ⟨k1_0, k1_1, k1_2, k1_3, k1_4⟩ := HF1.out.b.five
        go_wp2_with fail
        (with_reducible refine (CA.out _ HF1).mono ?_)
        rintro e u3 ⟨rfl, hb⟩
        have HF1 := Lib.hid (HF1.out.on hb)
        have HLW := Lib.hid (HLW.out.trans (hb.mono HLW.out.size))
        clear hb
        obtain ⟨k1_0, k1_1, k1_2, k1_3, k1_4⟩ := HF1.out.b.five
        go_wp2_with fail
        (with_reducible refine (CB.out _ HF1).mono ?_)
        rintro e u4 ⟨rfl, hb⟩
        have HLW := Lib.hid (HLW.out.trans (hb.mono HLW.out.size))
        clear hb
        go_wp2_with fail
        go_ret
        exact ⟨rfl, HLW.out⟩
      · have g3' : (E3 != 0) = true := by simpa using g3
        clear g3
        go_wp2_with fail
        go_ret
        exact ⟨rfl, HLW.out⟩
  · have g2' : (E2 == 0) = false := by simpa using g2
    clear g2
    by_cases g3 : E3 = 0
    · obtain ⟨t1, t2, t3⟩ := HP3b.out g3
      subst g3
      have q5 : IntKind.i64.wrap (tt - fr) = tt - fr := IntWalk.i64_in _ (by omega)
      have q6 : IntKind.i64.wrap (tt - fr + 1) = tt - fr + 1 := IntWalk.i64_in _ (by omega)
      have HT := Lib.hid (And.intro t1 (And.intro t2 t3))
      have hn1 : Hid (1 ≤ tt - fr + 1 ∧ tt - fr + 1 ≤ 1000000) := Lib.hid (by omega)
      clear t1 t2 t3
      have HRB := Lib.hid (HR.out.below HLW.out HR.out.apart)
      have HFB := HF1
      have HLB := HLW
      go_wp2_with fail
      refine (roll_any a0 len0 cap0 z0 1401 _ HRB.out (by omega) (by omega)).mono ?_
      rintro e u1 ⟨rfl, ⟨h9, h90, h91, hdc⟩, hb⟩
      have HDC := Lib.hid hdc
      have HU := Lib.hid hb
      clear hb hdc
      go_wp2_with fail
      refine (below_any _ a0 len0 cap0 z0 h9 _ _ u1 (HRB.out.below HU.out HRB.out.apart) HRB.out.apart HDC.out (Nat.le_refl _) hn1.out.1 hn1.out.2).mono ?_
      rintro e u2 ⟨r9, rfl, r0, r1, hb⟩
      have hb := HU.out.trans hb
      have HF1 := Lib.hid (HFB.out.on hb)
      have HLW := Lib.hid (HLB.out.trans (hb.mono HLB.out.size))
      have hT := HT.out
      obtain ⟨mid, hmid⟩ : ∃ y_, fr + r9 = y_ := ⟨_, rfl⟩
      have M0 : Hid (fr ≤ mid ∧ mid ≤ tt) := Lib.hid (by omega)
      have q7 : IntKind.i64.wrap (fr + r9) = mid := by rw [hmid]; exact IntWalk.i64_in _ (by have := M0.out; omega)
      have SA := HP3.out (by trivial) mid M0.out.1 M0.out.2
      have b1 := HP3c.out (by trivial) fr (mid - fr).toNat
      have b2 := HP3c.out (by trivial) mid (tt - mid).toNat
      have CA := CP3.out mid M0.out.1 M0.out.2 (by trivial)
      have CB := CQ3.out mid M0.out.1 M0.out.2 (by trivial)
      have hs := SA.2.2.trans HV3.out
      obtain ⟨S1, hS1⟩ : ∃ y_, pbS d1 v1 l1 c1 p1 o1 fr (mid - fr).toNat = y_ := ⟨_, rfl⟩
      obtain ⟨S2, hS2⟩ : ∃ y_, pbS d1 v1 l1 c1 p1 o1 mid (tt - mid).toNat = y_ := ⟨_, rfl⟩
      rw [hS1] at hs b1 CA
      rw [hS2] at hs b2 CB
      have q8 : IntKind.i64.wrap (S1 + S2) = V3 := by rw [hs]; exact IntWalk.i64_in _ (by have := M0.out; omega)
      have CA := Lib.hid CA
      have CB := Lib.hid CB
      clear hb SA b1 b2 hs hS1 hS2 hmid hT r0 r1 CP3 CQ3 HP3 HP3b HP3c HV3
      obtain ⟨k1_0, k1_1, k1_2, k1_3, k1_4⟩ := HF1.out.b.five
      go_wp2_with fail
      (with_reducible refine (CA.out _ HF1).mono ?_)
      rintro e u3 ⟨rfl, hb⟩
      have HF1 := Lib.hid (HF1.out.on hb)
      have HLW := Lib.hid (HLW.out.trans (hb.mono HLW.out.size))
      clear hb
      obtain ⟨k1_0, k1_1, k1_2, k1_3, k1_4⟩ := HF1.out.b.five
      go_wp2_with fail
      (with_reducible refine (CB.out _ HF1).mono ?_)
      rintro e u4 ⟨rfl, hb⟩
      have HLW := Lib.hid (HLW.out.trans (hb.mono HLW.out.size))
      clear hb
      go_wp2_with fail
      go_ret
      exact ⟨rfl, HLW.out⟩
    · have g3' : (E3 != 0) = true := by simpa using g3
      clear g3
      go_wp2_with fail
      go_ret
      exact ⟨rfl, HLW.out⟩

end Go.Proofs.Ytmnddplkmljeaaa
