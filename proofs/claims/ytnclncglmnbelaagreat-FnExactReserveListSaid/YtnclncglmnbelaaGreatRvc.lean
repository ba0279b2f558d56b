/- Reserves: the program's course of a policy. (Written by wip/gen/rvc.py.) -/
import Derived.Test.YtnclncglmnbelaaGreatPof
import Derived.Test.YtnclncglmnbelaaGreatRvn
namespace Go.Proofs.YtnclncglmnbelaaGreat
open Go.ChangeShapes Go.WideShapes Go.ChangeAt Go.RowKit
open Go.ChangeMaps (setBlock heap_setBlock_same heap_setBlock_other)
set_option linter.unusedVariables false
set_option maxRecDepth 100000

theorem Bx.c17 {w : World} {B : Nat} {y0 y1 y2 y3 y4 y5 y6 y7 y8 y9 y10 y11 y12 y13 y14 y15 y16 : Value} (h : Bx w B [y0, y1, y2, y3, y4, y5, y6, y7, y8, y9, y10, y11, y12, y13, y14, y15, y16]) : w.cell? ⟨B, 0, none⟩ = some y0 ∧ w.cell? ⟨B, 1, none⟩ = some y1 ∧ w.cell? ⟨B, 2, none⟩ = some y2 ∧ w.cell? ⟨B, 3, none⟩ = some y3 ∧ w.cell? ⟨B, 4, none⟩ = some y4 ∧ w.cell? ⟨B, 5, none⟩ = some y5 ∧ w.cell? ⟨B, 6, none⟩ = some y6 ∧ w.cell? ⟨B, 7, none⟩ = some y7 ∧ w.cell? ⟨B, 8, none⟩ = some y8 ∧ w.cell? ⟨B, 9, none⟩ = some y9 ∧ w.cell? ⟨B, 10, none⟩ = some y10 ∧ w.cell? ⟨B, 11, none⟩ = some y11 ∧ w.cell? ⟨B, 12, none⟩ = some y12 ∧ w.cell? ⟨B, 13, none⟩ = some y13 ∧ w.cell? ⟨B, 14, none⟩ = some y14 ∧ w.cell? ⟨B, 15, none⟩ = some y15 ∧ w.cell? ⟨B, 16, none⟩ = some y16 := by
  obtain ⟨T, h⟩ := h
  simp [World.cell?, h]

theorem Bx.c10 {w : World} {B : Nat} {y0 y1 y2 y3 y4 y5 y6 y7 y8 y9 : Value} (h : Bx w B [y0, y1, y2, y3, y4, y5, y6, y7, y8, y9]) : w.cell? ⟨B, 0, none⟩ = some y0 ∧ w.cell? ⟨B, 1, none⟩ = some y1 ∧ w.cell? ⟨B, 2, none⟩ = some y2 ∧ w.cell? ⟨B, 3, none⟩ = some y3 ∧ w.cell? ⟨B, 4, none⟩ = some y4 ∧ w.cell? ⟨B, 5, none⟩ = some y5 ∧ w.cell? ⟨B, 6, none⟩ = some y6 ∧ w.cell? ⟨B, 7, none⟩ = some y7 ∧ w.cell? ⟨B, 8, none⟩ = some y8 ∧ w.cell? ⟨B, 9, none⟩ = some y9 := by
  obtain ⟨T, h⟩ := h
  simp [World.cell?, h]

/-- a course in block C, over the columns in block R -/
def crV (R : Nat) (r f : Int) (xs : List Int) (k x n s u : Int) : List Value := [.pointer (some ⟨R, 0, none⟩), .int .i64 k, .int .i64 x, .int .i64 n, .int .i64 s, .int .i64 u, .int .i64 (netN r f xs k x n s), .iface (kT k) (.agg #[]), .int .i64 (cD r xs (x - f).toNat), .int .i64 (cN r xs (x - f).toNat), .int .i64 (cC r xs (x - f).toNat), .int .i64 (cM r xs (x - f).toNat), .int .i64 (cD r xs (x + n - f).toNat), .int .i64 (cN r xs (x + n - f).toNat), .int .i64 (cC r xs (x + n - f).toNat), .int .i64 (cM r xs (x + n - f).toNat), .int .i64 (durN f xs k x n)]

structure Crs (C R : Nat) (r f : Int) (xs : List Int) (v : Value) (k x n s u : Int) (W : World) : Prop where
  b : Bx W C (crV R r f xs k x n s u)
  cols : Cols W R r f xs v

theorem Crs.on {C R : Nat} {r f : Int} {xs : List Int} {k x n s u : Int} {v : Value} {W W' : World} (h : Crs C R r f xs v k x n s u W) (hb : Below W.heap.size W W') : Crs C R r f xs v k x n s u W' := ⟨h.b.on hb, h.cols.on hb⟩

theorem Crs.drew {C R : Nat} {r f : Int} {xs : List Int} {k x n s u : Int} {v : Value} {W : World} (h : Crs C R r f xs v k x n s u W) : Crs C R r f xs v k x n s u W.drew := h.on (Below.drew (Below.refl _ _))

/-- while a course is made -/
structure CX (w : World) (R M D : Nat) (r f : Int) (xs : List Int) (v : Value) (k x n s u : Int) (W : World) : Prop where
  bp : BP w f v r k x n s u W
  tf : TF R M D r f xs v k x n u W
  ml : w.heap.size ≤ M

theorem CX.on {w : World} {R M D : Nat} {r f : Int} {xs : List Int} {v : Value} {k x n s u : Int} {W W' : World} (h : CX w R M D r f xs v k x n s u W) (hb : Below W.heap.size W W') : CX w R M D r f xs v k x n s u W' := ⟨h.bp.on hb, h.tf.on hb, h.ml⟩

theorem CX.drew {w : World} {R M D : Nat} {r f : Int} {xs : List Int} {v : Value} {k x n s u : Int} {W : World} (h : CX w R M D r f xs v k x n s u W) : CX w R M D r f xs v k x n s u W.drew := h.on (Below.drew (Below.refl _ _))

theorem CX.onM {w : World} {R M D : Nat} {r f : Int} {xs : List Int} {v : Value} {k x n s u : Int} {W W' : World} (h : CX w R M D r f xs v k x n s u W) (ht : TF R M D r f xs v k x n u W') (hb : But M W W') : CX w R M D r f xs v k x n s u W' := by
  obtain ⟨es, c, hm, -⟩ := h.tf.map
  exact ⟨⟨hb.keepM hm h.bp.b0, hb.keepM hm h.bp.b1, hb.keepM hm h.bp.b2, hb.keepM hm h.bp.p0, hb.keepM hm h.bp.p1, hb.keepM hm h.bp.p2, hb.keepM hm h.bp.p3, hb.keepM hm h.bp.p4, h.bp.low.trans (hb.below h.ml h.bp.low.size), Nat.le_trans h.bp.sz hb.size⟩, ht, h.ml⟩

theorem cxS {w : World} {R M D : Nat} {r f : Int} {xs : List Int} {v : Value} {k x n s u : Int} {W : World} (h : CX w R M D r f xs v k x n s u W) : W.cell? ⟨D, 0, none⟩ = some (.pointer (some ⟨R, 0, none⟩)) ∧ W.cell? ⟨w.heap.size + 1, 0, none⟩ = some (.int .i64 k) ∧ W.cell? ⟨w.heap.size + 1, 1, none⟩ = some (.int .i64 x) ∧ W.cell? ⟨w.heap.size + 1, 2, none⟩ = some (.int .i64 n) ∧ W.cell? ⟨w.heap.size + 1, 3, none⟩ = some (.int .i64 s) ∧ W.cell? ⟨w.heap.size + 1, 4, none⟩ = some (.int .i64 u) ∧ Hid (CX w R M D r f xs v k x n s u W) := ⟨h.tf.t0, h.bp.p0, h.bp.p1, h.bp.p2, h.bp.p3, h.bp.p4, Lib.hid h⟩

theorem build_crs (R : Nat) (k x n s u p : Int) (T : TypeId) (z : Value) (g0 g1 g2 g3 g4 g5 g6 g7 E : Int) (W : World) : (Instr.build 104 #[(0, .pointer (some ⟨R, 0, none⟩)), (1, .agg #[.int .i64 k, .int .i64 x, .int .i64 n, .int .i64 s, .int .i64 u]), (2, .int .i64 p), (3, .agg #[.iface T z, .int .i64 g0, .int .i64 g1, .int .i64 g2, .int .i64 g3, .int .i64 g4, .int .i64 g5, .int .i64 g6, .int .i64 g7]), (4, .int .i64 E)]).run Tryz.prog W = .ok (.agg #[.pointer (some ⟨R, 0, none⟩), .int .i64 k, .int .i64 x, .int .i64 n, .int .i64 s, .int .i64 u, .int .i64 p, .iface T z, .int .i64 g0, .int .i64 g1, .int .i64 g2, .int .i64 g3, .int .i64 g4, .int .i64 g5, .int .i64 g6, .int .i64 g7, .int .i64 E]) W := by kernel_rfl

def CoYes (r f : Int) (xs : List Int) (v : Value) (k x n s u : Int) (w : World) (e : Ending) (w' : World) : Prop :=
  ∃ C R, e = .returned (.tuple #[.pointer (some ⟨C, 0, none⟩), .int .i64 0]) ∧ Crs C R r f xs v k x n s u w' ∧ Below w.heap.size w w'

theorem ico_no (r f : Int) (xs : List Int) (a : Option Addr) (l c : Nat) (k x n s u : Int) (w : World) (h : Ints w a l xs) (hlc : l ≤ c) (hp : poB r f xs k x n s u = false) :
    Calls Tryz.prog 39 #[.agg #[.int .i64 f, .slice a l c, .int .i64 r], .agg #[.int .i64 k, .int .i64 x, .int .i64 n, .int .i64 s, .int .i64 u]] w (TfNo w) := by
  have H := Lib.hid h
  clear h
  have HP := Lib.hid (BP.new w f (.slice a l c) r k x n s u 28 30)
  have CT : Hid (∀ W, Hid (BP w f (.slice a l c) r k x n s u W) → Calls Tryz.prog 67 #[.agg #[.int .i64 f, .slice a l c, .int .i64 r], .agg #[.int .i64 k, .int .i64 x, .int .i64 n, .int .i64 s, .int .i64 u]] W (TfNo W)) := Lib.hid (fun W hW => itf_no r f xs a l c k x n s u W (H.out.on hW.out.low) hlc hp)
  unfold TfNo at CT ⊢
  clear hp
  go_enter Tryz.func39, Tryz.ntmps39
  go_wp2_with fail
  obtain ⟨W1, hW1⟩ : ∃ W1, ((w.alloc (.cells #[.int .i64 f, .slice a l c, .int .i64 r] 28)).alloc (.cells #[.int .i64 k, .int .i64 x, .int .i64 n, .int .i64 s, .int .i64 u] 30)) = W1 := ⟨_, rfl⟩
  rw [hW1] at HP ⊢
  clear hW1
  with_reducible refine (CT.out _ HP).mono ?_
  rintro e w1 ⟨rfl, hb⟩
  have HP := Lib.hid (HP.out.on hb)
  clear hb
  go_wp2_with fail
  go_ret2
  exact ⟨rfl, HP.out.low⟩

set_option maxHeartbeats 8000000 in
theorem ico_yes (r f : Int) (xs : List Int) (a : Option Addr) (l c : Nat) (k x n s u : Int) (w : World) (h : Ints w a l xs) (hlc : l ≤ c) (hp : poB r f xs k x n s u = true) :
    Calls Tryz.prog 39 #[.agg #[.int .i64 f, .slice a l c, .int .i64 r], .agg #[.int .i64 k, .int .i64 x, .int .i64 n, .int .i64 s, .int .i64 u]] w (CoYes r f xs (.slice a l c) k x n s u w) := by
  have hl := h.len
  have H := Lib.hid h
  clear h
  have HP := Lib.hid (BP.new w f (.slice a l c) r k x n s u 28 30)
  have CT : Hid (∀ W, Hid (BP w f (.slice a l c) r k x n s u W) → Calls Tryz.prog 67 #[.agg #[.int .i64 f, .slice a l c, .int .i64 r], .agg #[.int .i64 k, .int .i64 x, .int .i64 n, .int .i64 s, .int .i64 u]] W (TfYes r f xs (.slice a l c) k x n u W)) := Lib.hid (fun W hW => itf_yes r f xs a l c k x n s u W (H.out.on hW.out.low) hlc hp)
  unfold TfYes at CT
  have CN : Hid (∀ R M D W, Hid (CX w R M D r f xs (.slice a l c) k x n s u W) → Calls Tryz.prog 68 #[.pointer (some ⟨D, 0, none⟩), .agg #[.int .i64 k, .int .i64 x, .int .i64 n, .int .i64 s, .int .i64 u]] W (TPost (netN r f xs k x n s) R M D r f xs (.slice a l c) k x n u W)) :=
    Lib.hid (fun R M D W hW => inet_any R M D r f xs (.slice a l c) k x n s u W hW.out.tf hp)
  unfold TPost at CN
  have CC : Hid (∀ R M D W, Hid (CX w R M D r f xs (.slice a l c) k x n s u W) → Calls Tryz.prog 69 #[.pointer (some ⟨D, 0, none⟩), .agg #[.int .i64 k, .int .i64 x, .int .i64 n, .int .i64 s, .int .i64 u]] W fun e w' => e = .returned (cvr (.iface (kT k) (.agg #[])) (cD r xs (x - f).toNat) (cN r xs (x - f).toNat) (cC r xs (x - f).toNat) (cM r xs (x - f).toNat) (cD r xs (x + n - f).toNat) (cN r xs (x + n - f).toNat) (cC r xs (x + n - f).toNat) (cM r xs (x + n - f).toNat)) ∧ Below W.heap.size W w') :=
    Lib.hid (fun R M D W hW => icov_any R M D r f xs (.slice a l c) k x n s u W hW.out.tf hp)
  unfold cvr at CC
  have CU : Hid (∀ R M D W, Hid (CX w R M D r f xs (.slice a l c) k x n s u W) → Calls Tryz.prog 70 #[.pointer (some ⟨D, 0, none⟩), .agg #[.int .i64 k, .int .i64 x, .int .i64 n, .int .i64 s, .int .i64 u]] W fun e w' => e = .returned (.int .i64 (durN f xs k x n)) ∧ Below W.heap.size W w') :=
    Lib.hid (fun R M D W hW => idur_any R M D r f xs a l c k x n s u W hW.out.tf hp hl)
  have HV : Hid (∀ R, crV R r f xs k x n s u = [.pointer (some ⟨R, 0, none⟩), .int .i64 k, .int .i64 x, .int .i64 n, .int .i64 s, .int .i64 u, .int .i64 (netN r f xs k x n s), .iface (kT k) (.agg #[]), .int .i64 (cD r xs (x - f).toNat), .int .i64 (cN r xs (x - f).toNat), .int .i64 (cC r xs (x - f).toNat), .int .i64 (cM r xs (x - f).toNat), .int .i64 (cD r xs (x + n - f).toNat), .int .i64 (cN r xs (x + n - f).toNat), .int .i64 (cC r xs (x + n - f).toNat), .int .i64 (cM r xs (x + n - f).toNat), .int .i64 (durN f xs k x n)]) := Lib.hid (fun R => rfl)
  unfold CoYes
  obtain ⟨g0, hg0⟩ : ∃ y_, cD r xs (x - f).toNat = y_ := ⟨_, rfl⟩
  obtain ⟨g1, hg1⟩ : ∃ y_, cN r xs (x - f).toNat = y_ := ⟨_, rfl⟩
  obtain ⟨g2, hg2⟩ : ∃ y_, cC r xs (x - f).toNat = y_ := ⟨_, rfl⟩
  obtain ⟨g3, hg3⟩ : ∃ y_, cM r xs (x - f).toNat = y_ := ⟨_, rfl⟩
  rw [hg0, hg1, hg2, hg3] at CC HV
  clear hg0 hg1 hg2 hg3
  obtain ⟨g4, hg4⟩ : ∃ y_, cD r xs (x + n - f).toNat = y_ := ⟨_, rfl⟩
  obtain ⟨g5, hg5⟩ : ∃ y_, cN r xs (x + n - f).toNat = y_ := ⟨_, rfl⟩
  obtain ⟨g6, hg6⟩ : ∃ y_, cC r xs (x + n - f).toNat = y_ := ⟨_, rfl⟩
  obtain ⟨g7, hg7⟩ : ∃ y_, cM r xs (x + n - f).toNat = y_ := ⟨_, rfl⟩
  rw [hg4, hg5, hg6, hg7] at CC HV
  clear hg4 hg5 hg6 hg7
  obtain ⟨T, hT⟩ : ∃ y_, kT k = y_ := ⟨_, rfl⟩
  rw [hT] at CC HV
  obtain ⟨p, hpn⟩ : ∃ y_, netN r f xs k x n s = y_ := ⟨_, rfl⟩
  rw [hpn] at CN HV
  obtain ⟨E, hE⟩ : ∃ y_, durN f xs k x n = y_ := ⟨_, rfl⟩
  rw [hE] at CU HV
  clear hT hpn hE hp hl
  go_enter Tryz.func39, Tryz.ntmps39
  go_wp2_with fail
  obtain ⟨W1, hW1⟩ : ∃ W1, ((w.alloc (.cells #[.int .i64 f, .slice a l c, .int .i64 r] 28)).alloc (.cells #[.int .i64 k, .int .i64 x, .int .i64 n, .int .i64 s, .int .i64 u] 30)) = W1 := ⟨_, rfl⟩
  rw [hW1] at HP ⊢
  clear hW1
  with_reducible refine (CT.out _ HP).mono ?_
  rintro e w1 ⟨R, M, D, rfl, htf, hnew, hb⟩
  have HX : Hid (CX w R M D r f xs (.slice a l c) k x n s u w1) := Lib.hid ⟨HP.out.on hb, htf, Nat.le_trans HP.out.low.size hnew⟩
  have hbu := build_crs R k x n s u p T (.agg #[]) g0 g1 g2 g3 g4 g5 g6 g7 E
  have CN2 := Lib.hid (CN.out R M D)
  have CC2 := Lib.hid (CC.out R M D)
  have CU2 := Lib.hid (CU.out R M D)
  clear hb htf hnew CT HP CN CC CU
  obtain ⟨t0, p0, p1, p2, p3, p4, -⟩ := cxS HX.out
  go_wp2_with fail
  go_region_held3 (fun W9 => W9.cell? ⟨D, 0, none⟩ = some (.pointer (some ⟨R, 0, none⟩)) ∧ W9.cell? ⟨w.heap.size + 1, 0, none⟩ = some (.int .i64 k) ∧ W9.cell? ⟨w.heap.size + 1, 1, none⟩ = some (.int .i64 x) ∧ W9.cell? ⟨w.heap.size + 1, 2, none⟩ = some (.int .i64 n) ∧ W9.cell? ⟨w.heap.size + 1, 3, none⟩ = some (.int .i64 s) ∧ W9.cell? ⟨w.heap.size + 1, 4, none⟩ = some (.int .i64 u) ∧ Hid (CX w R M D r f xs (.slice a l c) k x n s u W9))
    (first
      | (go_split_ands; with_reducible exact cxS (Hid.out (by with_reducible assumption)))
      | (go_split_ands; with_reducible exact cxS (CX.on (Hid.out (by with_reducible assumption)) hb))
      | (go_split_ands; with_reducible exact cxS (CX.drew (Hid.out (by with_reducible assumption))))
      | (go_split_ands; with_reducible exact cxS (CX.onM (Hid.out (by with_reducible assumption)) HTM.out hbm))
      | (go_split_ands; with_reducible exact cxS (CX.on (Hid.out (by with_reducible assumption)) (box_b _ _)))
      | (go_split_ands; with_reducible exact cxS (CX.on HSp.out (box_b _ _)))
      | fail)
    (first
      | (go_split_ands; go_at_call 68; ((with_reducible refine (CN2.out _ (by with_reducible assumption)).mono ?_); rintro e w' ⟨rfl, htm, hbm⟩; have HTM := Lib.hid htm; have HSp : Hid (CX w R M D r f xs (.slice a l c) k x n s u w') := Lib.hid (CX.onM (Hid.out (by with_reducible assumption)) htm hbm); clear htm))
      | (go_split_ands; go_at_call 69; ((with_reducible refine (CC2.out _ (by with_reducible assumption)).mono ?_); rintro e w' ⟨rfl, hb⟩; have HSp : Hid (CX w R M D r f xs (.slice a l c) k x n s u w') := Lib.hid (CX.on (Hid.out (by with_reducible assumption)) hb)))
      | (go_split_ands; go_at_call 70; ((with_reducible refine (CU2.out _ (by with_reducible assumption)).mono ?_); rintro e w' ⟨rfl, hb⟩; have HSp : Hid (CX w R M D r f xs (.slice a l c) k x n s u w') := Lib.hid (CX.on (Hid.out (by with_reducible assumption)) hb)))
      | fail)
  all_goals
    go_split_ands
    have HX9 := HSp
    go_wp2_with fail
    go_ret2
    refine ⟨_, R, rfl, ⟨?_, ?_⟩, ?_⟩
    · rw [HV.out]
      exact Bx.new w' [.pointer (some ⟨R, 0, none⟩), .int .i64 k, .int .i64 x, .int .i64 n, .int .i64 s, .int .i64 u, .int .i64 p, .iface T (.agg #[]), .int .i64 g0, .int .i64 g1, .int .i64 g2, .int .i64 g3, .int .i64 g4, .int .i64 g5, .int .i64 g6, .int .i64 g7, .int .i64 E] 104
    · exact HX9.out.tf.cols.on (box_b _ _)
    · exact HX9.out.bp.low.trans ((box_b _ _).mono HX9.out.bp.low.size)

end Go.Proofs.YtnclncglmnbelaaGreat
