/- Reserves: the program's yearOf, the numerators of the three sides, what is told. (Written by wip/gen/rve.py.) -/
import Derived.Test.YtnclncglmnbelaaGreatRvd
import Derived.Test.YtnclncglmnbelaaGreatRvw
namespace Go.Proofs.YtnclncglmnbelaaGreat
open Go.ChangeShapes Go.WideShapes Go.ChangeAt Go.RowKit
open Go.ChangeMaps (setBlock heap_setBlock_same heap_setBlock_other)
set_option linter.unusedVariables false
set_option maxRecDepth 100000

/-- the boxes of yearOf -/
structure YW (w : World) (f : Int) (v : Value) (r k x n s u : Int) (W : World) : Prop where
  bp : BP w f v r k x n s u W
  box : Bx W (w.heap.size + 2) [.pointer none, .nilIface, .int .i64 0, .int .i64 0, .int .i64 0, .int .i64 0, .int .i64 0, .int .i64 0, .int .i64 0, .int .i64 0]

theorem YW.on {w : World} {f : Int} {v : Value} {r k x n s u : Int} {W W' : World} (h : YW w f v r k x n s u W) (hb : Below W.heap.size W W') : YW w f v r k x n s u W' := ⟨h.bp.on hb, h.box.on hb⟩

theorem YW.new (w : World) (f : Int) (v : Value) (r k x n s u : Int) (T U : TypeId) : YW w f v r k x n s u (((w.alloc (.cells #[.int .i64 f, v, .int .i64 r] T)).alloc (.cells #[.int .i64 k, .int .i64 x, .int .i64 n, .int .i64 s, .int .i64 u] U)).alloc (.cells #[.pointer none, .nilIface, .int .i64 0, .int .i64 0, .int .i64 0, .int .i64 0, .int .i64 0, .int .i64 0, .int .i64 0, .int .i64 0] 74)) := by
  have h := Bx.new ((w.alloc (.cells #[.int .i64 f, v, .int .i64 r] T)).alloc (.cells #[.int .i64 k, .int .i64 x, .int .i64 n, .int .i64 s, .int .i64 u] U)) [.pointer none, .nilIface, .int .i64 0, .int .i64 0, .int .i64 0, .int .i64 0, .int .i64 0, .int .i64 0, .int .i64 0, .int .i64 0] 74
  rw [World.size_alloc, World.size_alloc] at h
  exact ⟨(BP.new w f v r k x n s u T U).on (box_b _ _), h⟩

/-- a course stays while the box of a year is written -/
theorem Crs.far {C R : Nat} {r f : Int} {xs : List Int} {k x n s u : Int} {v : Value} {W W' : World} {B : Nat} {vs : List Value} (h : Crs C R r f xs v k x n s u W) (hb : Bx W B (.pointer none :: vs)) (hW : ∀ j, j ≠ B → W'.heap[j]? = W.heap[j]?) : Crs C R r f xs v k x n s u W' := by
  have hB : W.cell? ⟨B, 0, none⟩ = some (.pointer none) := by
    obtain ⟨T, hb⟩ := hb
    simp [World.cell?, hb]
  have hC : W.cell? ⟨C, 0, none⟩ = some (.pointer (some ⟨R, 0, none⟩)) := by
    have h1 := h.b
    unfold crV at h1
    exact h1.c17.1
  have hR := h.cols.head.1
  refine ⟨h.b.same (hW C ?_), h.cols.same (hW R ?_)⟩
  · rintro rfl; rw [hB] at hC; cases hC
  · rintro rfl; rw [hB] at hR; cases hR

theorem sets10_far (W : World) (N : Nat) (y0 y1 y2 y3 y4 y5 y6 y7 y8 y9 : Value) (j : Nat) (h : j ≠ N) : ((((((((((W.setCell ⟨N, 0, none⟩ (y0)).setCell ⟨N, 1, none⟩ (y1)).setCell ⟨N, 2, none⟩ (y2)).setCell ⟨N, 3, none⟩ (y3)).setCell ⟨N, 4, none⟩ (y4)).setCell ⟨N, 5, none⟩ (y5)).setCell ⟨N, 6, none⟩ (y6)).setCell ⟨N, 7, none⟩ (y7)).setCell ⟨N, 8, none⟩ (y8)).setCell ⟨N, 9, none⟩ (y9)).heap[j]? = W.heap[j]? := by
  have e : ∀ (X : World) (i : Nat) (z : Value), (X.setCell ⟨N, i, none⟩ z).heap[j]? = X.heap[j]? := fun X i z => Below.heap_setCell _ _ _ _ h
  rw [e, e, e, e, e, e, e, e, e, e]

/-- a year that is found, of a course that lies somewhere -/
def YoYes (r f : Int) (xs : List Int) (v : Value) (k x n s u j : Int) (w : World) (e : Ending) (w' : World) : Prop :=
  ∃ C R, e = .returned (.tuple #[yrV C r f xs k x n j, .int .i64 0]) ∧ Crs C R r f xs v k x n s u w' ∧ Below w.heap.size w w'

set_option maxHeartbeats 4000000 in
theorem iyo_no (r f : Int) (xs : List Int) (a : Option Addr) (l c : Nat) (k x n s u j : Int) (w : World) (h : Ints w a l xs) (hlc : l ≤ c) (he : rvE r f xs k x n s u j ≠ 0) :
    Calls Tryz.prog 46 #[.agg #[.int .i64 f, .slice a l c, .int .i64 r], .agg #[.int .i64 k, .int .i64 x, .int .i64 n, .int .i64 s, .int .i64 u], .int .i64 j] w (YrPost yrZ (rvE r f xs k x n s u j) w) := by
  have H := Lib.hid h
  clear h
  have HY := Lib.hid (YW.new w f (.slice a l c) r k x n s u 28 30)
  have hbz := build_yz
  unfold YrPost yrZ
  by_cases hp : poB r f xs k x n s u = true
  · by_cases hi : inB j 0 (durN f xs k x n - 1) = true
    · by_cases hd : dvN r f xs x j = 0
      · rw [rvE_zero hp hi hd]
        clear he
        have CT : Hid (∀ W, Hid (YW w f (.slice a l c) r k x n s u W) → Calls Tryz.prog 39 #[.agg #[.int .i64 f, .slice a l c, .int .i64 r], .agg #[.int .i64 k, .int .i64 x, .int .i64 n, .int .i64 s, .int .i64 u]] W (CoYes r f xs (.slice a l c) k x n s u W)) := Lib.hid (fun W hW => ico_yes r f xs a l c k x n s u W (H.out.on hW.out.bp.low) hlc hp)
        unfold CoYes at CT
        have CI : Hid (∀ C R W, Crs C R r f xs (.slice a l c) k x n s u W → Calls Tryz.prog 77 #[.pointer (some ⟨C, 0, none⟩), .int .i64 j] W (YrPost yrZ 5 W)) := Lib.hid (fun C R W hW => iin_zero C R r f xs (.slice a l c) k x n s u j W hW hp hi hd)
        unfold YrPost yrZ at CI
        clear hp hi hd
        go_enter Tryz.func46, Tryz.ntmps46
        go_wp2_with fail
        obtain ⟨W1, hW1⟩ : ∃ W1, (((w.alloc (.cells #[.int .i64 f, .slice a l c, .int .i64 r] 28)).alloc (.cells #[.int .i64 k, .int .i64 x, .int .i64 n, .int .i64 s, .int .i64 u] 30)).alloc (.cells #[.pointer none, .nilIface, .int .i64 0, .int .i64 0, .int .i64 0, .int .i64 0, .int .i64 0, .int .i64 0, .int .i64 0, .int .i64 0] 74)) = W1 := ⟨_, rfl⟩
        rw [hW1] at HY ⊢
        clear hW1
        with_reducible refine (CT.out _ HY).mono ?_
        rintro e w1 ⟨C, R, rfl, hcr, hb⟩
        have HY := Lib.hid (HY.out.on hb)
        have HCR := Lib.hid hcr
        obtain ⟨b0, b1, b2, p0, p1, p2, p3, p4, -⟩ := bpS HY.out.bp
        clear hb hcr CT
        go_wp2_with fail
        with_reducible refine (CI.out C R _ HCR.out).mono ?_
        rintro e w2 ⟨rfl, hb⟩
        have HY := Lib.hid (HY.out.on hb)
        clear hb b0 b1 b2 p0 p1 p2 p3 p4
        obtain ⟨c0, c1, c2, c3, c4, c5, c6, c7, c8, c9⟩ := HY.out.box.c10
        have z0 := HY.out.box.free 0
        have z1 := HY.out.box.free 1
        have z2 := HY.out.box.free 2
        have z3 := HY.out.box.free 3
        have z4 := HY.out.box.free 4
        have z5 := HY.out.box.free 5
        have z6 := HY.out.box.free 6
        have z7 := HY.out.box.free 7
        have z8 := HY.out.box.free 8
        have z9 := HY.out.box.free 9
        go_wp2_with fail
        refine bodyPost_ret (v := .tuple #[.agg #[.pointer none, .nilIface, .int .i64 0, .int .i64 0, .int .i64 0, .int .i64 0, .int .i64 0, .int .i64 0, .int .i64 0, .int .i64 0], .int .i64 5]) ?_ rfl ?_
        · simp [results, Tryz.results46, go_sem, c0, c1, c2, c3, c4, c5, c6, c7, c8, c9]
        · exact ⟨rfl, ((((((((((HY.out.bp.low.setCell (p := ⟨w.heap.size + 2, 0, none⟩) (by show w.heap.size ≤ w.heap.size + 2; omega) _).setCell (p := ⟨w.heap.size + 2, 1, none⟩) (by show w.heap.size ≤ w.heap.size + 2; omega) _).setCell (p := ⟨w.heap.size + 2, 2, none⟩) (by show w.heap.size ≤ w.heap.size + 2; omega) _).setCell (p := ⟨w.heap.size + 2, 3, none⟩) (by show w.heap.size ≤ w.heap.size + 2; omega) _).setCell (p := ⟨w.heap.size + 2, 4, none⟩) (by show w.heap.size ≤ w.heap.size + 2; omega) _).setCell (p := ⟨w.heap.size + 2, 5, none⟩) (by show w.heap.size ≤ w.heap.size + 2; omega) _).setCell (p := ⟨w.heap.size + 2, 6, none⟩) (by show w.heap.size ≤ w.heap.size + 2; omega) _).setCell (p := ⟨w.heap.size + 2, 7, none⟩) (by show w.heap.size ≤ w.heap.size + 2; omega) _).setCell (p := ⟨w.heap.size + 2, 8, none⟩) (by show w.heap.size ≤ w.heap.size + 2; omega) _).setCell (p := ⟨w.heap.size + 2, 9, none⟩) (by show w.heap.size ≤ w.heap.size + 2; omega) _)⟩
      · exact absurd (rvE_iff.2 ⟨hp, (inB_iff _ _ _).1 hi, hd⟩) he
    · have hi : inB j 0 (durN f xs k x n - 1) = false := by simpa using hi
      rw [rvE_out hp hi]
      clear he
      have CT : Hid (∀ W, Hid (YW w f (.slice a l c) r k x n s u W) → Calls Tryz.prog 39 #[.agg #[.int .i64 f, .slice a l c, .int .i64 r], .agg #[.int .i64 k, .int .i64 x, .int .i64 n, .int .i64 s, .int .i64 u]] W (CoYes r f xs (.slice a l c) k x n s u W)) := Lib.hid (fun W hW => ico_yes r f xs a l c k x n s u W (H.out.on hW.out.bp.low) hlc hp)
      unfold CoYes at CT
      have CI : Hid (∀ C R W, Crs C R r f xs (.slice a l c) k x n s u W → Calls Tryz.prog 77 #[.pointer (some ⟨C, 0, none⟩), .int .i64 j] W (YrPost yrZ 2 W)) := Lib.hid (fun C R W hW => iin_out C R r f xs (.slice a l c) k x n s u j W hW hp hi)
      unfold YrPost yrZ at CI
      clear hp hi
      go_enter Tryz.func46, Tryz.ntmps46
      go_wp2_with fail
      obtain ⟨W1, hW1⟩ : ∃ W1, (((w.alloc (.cells #[.int .i64 f, .slice a l c, .int .i64 r] 28)).alloc (.cells #[.int .i64 k, .int .i64 x, .int .i64 n, .int .i64 s, .int .i64 u] 30)).alloc (.cells #[.pointer none, .nilIface, .int .i64 0, .int .i64 0, .int .i64 0, .int .i64 0, .int .i64 0, .int .i64 0, .int .i64 0, .int .i64 0] 74)) = W1 := ⟨_, rfl⟩
      rw [hW1] at HY ⊢
      clear hW1
      with_reducible refine (CT.out _ HY).mono ?_
      rintro e w1 ⟨C, R, rfl, hcr, hb⟩
      have HY := Lib.hid (HY.out.on hb)
      have HCR := Lib.hid hcr
      obtain ⟨b0, b1, b2, p0, p1, p2, p3, p4, -⟩ := bpS HY.out.bp
      clear hb hcr CT
      go_wp2_with fail
      with_reducible refine (CI.out C R _ HCR.out).mono ?_
      rintro e w2 ⟨rfl, hb⟩
      have HY := Lib.hid (HY.out.on hb)
      clear hb b0 b1 b2 p0 p1 p2 p3 p4
      obtain ⟨c0, c1, c2, c3, c4, c5, c6, c7, c8, c9⟩ := HY.out.box.c10
      have z0 := HY.out.box.free 0
      have z1 := HY.out.box.free 1
      have z2 := HY.out.box.free 2
      have z3 := HY.out.box.free 3
      have z4 := HY.out.box.free 4
      have z5 := HY.out.box.free 5
      have z6 := HY.out.box.free 6
      have z7 := HY.out.box.free 7
      have z8 := HY.out.box.free 8
      have z9 := HY.out.box.free 9
      go_wp2_with fail
      refine bodyPost_ret (v := .tuple #[.agg #[.pointer none, .nilIface, .int .i64 0, .int .i64 0, .int .i64 0, .int .i64 0, .int .i64 0, .int .i64 0, .int .i64 0, .int .i64 0], .int .i64 2]) ?_ rfl ?_
      · simp [results, Tryz.results46, go_sem, c0, c1, c2, c3, c4, c5, c6, c7, c8, c9]
      · exact ⟨rfl, ((((((((((HY.out.bp.low.setCell (p := ⟨w.heap.size + 2, 0, none⟩) (by show w.heap.size ≤ w.heap.size + 2; omega) _).setCell (p := ⟨w.heap.size + 2, 1, none⟩) (by show w.heap.size ≤ w.heap.size + 2; omega) _).setCell (p := ⟨w.heap.size + 2, 2, none⟩) (by show w.heap.size ≤ w.heap.size + 2; omega) _).setCell (p := ⟨w.heap.size + 2, 3, none⟩) (by show w.heap.size ≤ w.heap.size + 2; omega) _).setCell (p := ⟨w.heap.size + 2, 4, none⟩) (by show w.heap.size ≤ w.heap.size + 2; omega) _).setCell (p := ⟨w.heap.size + 2, 5, none⟩) (by show w.heap.size ≤ w.heap.size + 2; omega) _).setCell (p := ⟨w.heap.size + 2, 6, none⟩) (by show w.heap.size ≤ w.heap.size + 2; omega) _).setCell (p := ⟨w.heap.size + 2, 7, none⟩) (by show w.heap.size ≤ w.heap.size + 2; omega) _).setCell (p := ⟨w.heap.size + 2, 8, none⟩) (by show w.heap.size ≤ w.heap.size + 2; omega) _).setCell (p := ⟨w.heap.size + 2, 9, none⟩) (by show w.heap.size ≤ w.heap.size + 2; omega) _)⟩
  · have hp : poB r f xs k x n s u = false := by simpa using hp
    rw [rvE_no hp]
    have CT : Hid (∀ W, Hid (YW w f (.slice a l c) r k x n s u W) → Calls Tryz.prog 39 #[.agg #[.int .i64 f, .slice a l c, .int .i64 r], .agg #[.int .i64 k, .int .i64 x, .int .i64 n, .int .i64 s, .int .i64 u]] W (TfNo W)) := Lib.hid (fun W hW => ico_no r f xs a l c k x n s u W (H.out.on hW.out.bp.low) hlc hp)
    unfold TfNo at CT
    clear hp he
    go_enter Tryz.func46, Tryz.ntmps46
    go_wp2_with fail
    obtain ⟨W1, hW1⟩ : ∃ W1, (((w.alloc (.cells #[.int .i64 f, .slice a l c, .int .i64 r] 28)).alloc (.cells #[.int .i64 k, .int .i64 x, .int .i64 n, .int .i64 s, .int .i64 u] 30)).alloc (.cells #[.pointer none, .nilIface, .int .i64 0, .int .i64 0, .int .i64 0, .int .i64 0, .int .i64 0, .int .i64 0, .int .i64 0, .int .i64 0] 74)) = W1 := ⟨_, rfl⟩
    rw [hW1] at HY ⊢
    clear hW1
    with_reducible refine (CT.out _ HY).mono ?_
    rintro e w1 ⟨rfl, hb⟩
    have HY := Lib.hid (HY.out.on hb)
    clear hb CT
    obtain ⟨c0, c1, c2, c3, c4, c5, c6, c7, c8, c9⟩ := HY.out.box.c10
    have z0 := HY.out.box.free 0
    have z1 := HY.out.box.free 1
    have z2 := HY.out.box.free 2
    have z3 := HY.out.box.free 3
    have z4 := HY.out.box.free 4
    have z5 := HY.out.box.free 5
    have z6 := HY.out.box.free 6
    have z7 := HY.out.box.free 7
    have z8 := HY.out.box.free 8
    have z9 := HY.out.box.free 9
    go_wp2_with fail
    refine bodyPost_ret (v := .tuple #[.agg #[.pointer none, .nilIface, .int .i64 0, .int .i64 0, .int .i64 0, .int .i64 0, .int .i64 0, .int .i64 0, .int .i64 0, .int .i64 0], .int .i64 1]) ?_ rfl ?_
    · simp [results, Tryz.results46, go_sem, c0, c1, c2, c3, c4, c5, c6, c7, c8, c9]
    · exact ⟨rfl, ((((((((((HY.out.bp.low.setCell (p := ⟨w.heap.size + 2, 0, none⟩) (by show w.heap.size ≤ w.heap.size + 2; omega) _).setCell (p := ⟨w.heap.size + 2, 1, none⟩) (by show w.heap.size ≤ w.heap.size + 2; omega) _).setCell (p := ⟨w.heap.size + 2, 2, none⟩) (by show w.heap.size ≤ w.heap.size + 2; omega) _).setCell (p := ⟨w.heap.size + 2, 3, none⟩) (by show w.heap.size ≤ w.heap.size + 2; omega) _).setCell (p := ⟨w.heap.size + 2, 4, none⟩) (by show w.heap.size ≤ w.heap.size + 2; omega) _).setCell (p := ⟨w.heap.size + 2, 5, none⟩) (by show w.heap.size ≤ w.heap.size + 2; omega) _).setCell (p := ⟨w.heap.size + 2, 6, none⟩) (by show w.heap.size ≤ w.heap.size + 2; omega) _).setCell (p := ⟨w.heap.size + 2, 7, none⟩) (by show w.heap.size ≤ w.heap.size + 2; omega) _).setCell (p := ⟨w.heap.size + 2, 8, none⟩) (by show w.heap.size ≤ w.heap.size + 2; omega) _).setCell (p := ⟨w.heap.size + 2, 9, none⟩) (by show w.heap.size ≤ w.heap.size + 2; omega) _)⟩

set_option maxHeartbeats 4000000 in
theorem iyo_yes (r f : Int) (xs : List Int) (a : Option Addr) (l c : Nat) (k x n s u j : Int) (w : World) (h : Ints w a l xs) (hlc : l ≤ c) (he : rvE r f xs k x n s u j = 0) :
    Calls Tryz.prog 46 #[.agg #[.int .i64 f, .slice a l c, .int .i64 r], .agg #[.int .i64 k, .int .i64 x, .int .i64 n, .int .i64 s, .int .i64 u], .int .i64 j] w (YoYes r f xs (.slice a l c) k x n s u j w) := by
  have H := Lib.hid h
  clear h
  have HY := Lib.hid (YW.new w f (.slice a l c) r k x n s u 28 30)
  have hbz := build_yz
  obtain ⟨hp, hj, hd⟩ := rvE_iff.1 he
  have hi := (inB_iff j 0 (durN f xs k x n - 1)).2 hj
  have CT : Hid (∀ W, Hid (YW w f (.slice a l c) r k x n s u W) → Calls Tryz.prog 39 #[.agg #[.int .i64 f, .slice a l c, .int .i64 r], .agg #[.int .i64 k, .int .i64 x, .int .i64 n, .int .i64 s, .int .i64 u]] W (CoYes r f xs (.slice a l c) k x n s u W)) := Lib.hid (fun W hW => ico_yes r f xs a l c k x n s u W (H.out.on hW.out.bp.low) hlc hp)
  unfold CoYes at CT
  have CI : Hid (∀ C R W, Crs C R r f xs (.slice a l c) k x n s u W → Calls Tryz.prog 77 #[.pointer (some ⟨C, 0, none⟩), .int .i64 j] W (YrPost (yrV C r f xs k x n j) 0 W)) := Lib.hid (fun C R W hW => iin_yes C R r f xs (.slice a l c) k x n s u j W hW hp hi hd)
  unfold YrPost yrV at CI
  unfold YoYes yrV
  obtain ⟨L, hL⟩ : ∃ y_, lfN k n j = y_ := ⟨_, rfl⟩
  rw [hL] at CI ⊢
  have HCB : Hid (∀ C R (W W' : World), Crs C R r f xs (.slice a l c) k x n s u W → Below W.heap.size W W' → Crs C R r f xs (.slice a l c) k x n s u W') := Lib.hid (fun C R W W' h1 h2 => h1.on h2)
  have HCF : Hid (∀ C R (W W' : World) B vs, Crs C R r f xs (.slice a l c) k x n s u W → Bx W B (.pointer none :: vs) → (∀ j, j ≠ B → W'.heap[j]? = W.heap[j]?) → Crs C R r f xs (.slice a l c) k x n s u W') := Lib.hid (fun C R W W' B vs h1 h2 h3 => h1.far h2 h3)
  obtain ⟨g0, hg0⟩ : ∃ y_, cD r xs (x + j - f).toNat = y_ := ⟨_, rfl⟩
  obtain ⟨g1, hg1⟩ : ∃ y_, cN r xs (x + j - f).toNat = y_ := ⟨_, rfl⟩
  obtain ⟨g2, hg2⟩ : ∃ y_, cC r xs (x + j - f).toNat = y_ := ⟨_, rfl⟩
  obtain ⟨g3, hg3⟩ : ∃ y_, cM r xs (x + j - f).toNat = y_ := ⟨_, rfl⟩
  rw [hg0, hg1, hg2, hg3] at CI ⊢
  clear hg0 hg1 hg2 hg3
  obtain ⟨g4, hg4⟩ : ∃ y_, cD r xs (x + j + L - f).toNat = y_ := ⟨_, rfl⟩
  obtain ⟨g5, hg5⟩ : ∃ y_, cN r xs (x + j + L - f).toNat = y_ := ⟨_, rfl⟩
  obtain ⟨g6, hg6⟩ : ∃ y_, cC r xs (x + j + L - f).toNat = y_ := ⟨_, rfl⟩
  obtain ⟨g7, hg7⟩ : ∃ y_, cM r xs (x + j + L - f).toNat = y_ := ⟨_, rfl⟩
  rw [hg4, hg5, hg6, hg7] at CI ⊢
  clear hg4 hg5 hg6 hg7
  obtain ⟨T, hT⟩ : ∃ y_, kT k = y_ := ⟨_, rfl⟩
  rw [hT] at CI ⊢
  clear hT
  clear hp hi hd hj he hL
  go_enter Tryz.func46, Tryz.ntmps46
  go_wp2_with fail
  obtain ⟨W1, hW1⟩ : ∃ W1, (((w.alloc (.cells #[.int .i64 f, .slice a l c, .int .i64 r] 28)).alloc (.cells #[.int .i64 k, .int .i64 x, .int .i64 n, .int .i64 s, .int .i64 u] 30)).alloc (.cells #[.pointer none, .nilIface, .int .i64 0, .int .i64 0, .int .i64 0, .int .i64 0, .int .i64 0, .int .i64 0, .int .i64 0, .int .i64 0] 74)) = W1 := ⟨_, rfl⟩
  rw [hW1] at HY ⊢
  clear hW1
  with_reducible refine (CT.out _ HY).mono ?_
  rintro e w1 ⟨C, R, rfl, hcr, hb⟩
  have HN := Lib.hid (show Below W1.heap.size W1 w1 from hb)
  have HY := Lib.hid (HY.out.on hb)
  have HCR := Lib.hid hcr
  obtain ⟨b0, b1, b2, p0, p1, p2, p3, p4, -⟩ := bpS HY.out.bp
  clear hb hcr CT
  go_wp2_with fail
  with_reducible refine (CI.out C R _ HCR.out).mono ?_
  rintro e w2 ⟨rfl, hb⟩
  have HY := Lib.hid (HY.out.on hb)
  have HCR := Lib.hid (HCB.out _ _ _ _ HCR.out hb)
  clear hb b0 b1 b2 p0 p1 p2 p3 p4
  obtain ⟨c0, c1, c2, c3, c4, c5, c6, c7, c8, c9⟩ := HY.out.box.c10
  have z0 := HY.out.box.free 0
  have z1 := HY.out.box.free 1
  have z2 := HY.out.box.free 2
  have z3 := HY.out.box.free 3
  have z4 := HY.out.box.free 4
  have z5 := HY.out.box.free 5
  have z6 := HY.out.box.free 6
  have z7 := HY.out.box.free 7
  have z8 := HY.out.box.free 8
  have z9 := HY.out.box.free 9
  go_wp2_with fail
  refine bodyPost_ret (v := .tuple #[.agg #[.pointer (some ⟨C, 0, none⟩), .iface T (.agg #[]), .int .i64 g0, .int .i64 g1, .int .i64 g2, .int .i64 g3, .int .i64 g4, .int .i64 g5, .int .i64 g6, .int .i64 g7], .int .i64 0]) ?_ rfl ?_
  · simp [results, Tryz.results46, go_sem, c0, c1, c2, c3, c4, c5, c6, c7, c8, c9]
  · refine ⟨C, R, rfl, ?_, ((((((((((HY.out.bp.low.setCell (p := ⟨w.heap.size + 2, 0, none⟩) (by show w.heap.size ≤ w.heap.size + 2; omega) _).setCell (p := ⟨w.heap.size + 2, 1, none⟩) (by show w.heap.size ≤ w.heap.size + 2; omega) _).setCell (p := ⟨w.heap.size + 2, 2, none⟩) (by show w.heap.size ≤ w.heap.size + 2; omega) _).setCell (p := ⟨w.heap.size + 2, 3, none⟩) (by show w.heap.size ≤ w.heap.size + 2; omega) _).setCell (p := ⟨w.heap.size + 2, 4, none⟩) (by show w.heap.size ≤ w.heap.size + 2; omega) _).setCell (p := ⟨w.heap.size + 2, 5, none⟩) (by show w.heap.size ≤ w.heap.size + 2; omega) _).setCell (p := ⟨w.heap.size + 2, 6, none⟩) (by show w.heap.size ≤ w.heap.size + 2; omega) _).setCell (p := ⟨w.heap.size + 2, 7, none⟩) (by show w.heap.size ≤ w.heap.size + 2; omega) _).setCell (p := ⟨w.heap.size + 2, 8, none⟩) (by show w.heap.size ≤ w.heap.size + 2; omega) _).setCell (p := ⟨w.heap.size + 2, 9, none⟩) (by show w.heap.size ≤ w.heap.size + 2; omega) _)⟩
    exact HCF.out _ _ _ _ _ _ HCR.out HY.out.box (sets10_far _ _ _ _ _ _ _ _ _ _ _ _)

/-- while a numerator is found: the course, the box of the year, the box of the result -/
structure FW (w : World) (C R : Nat) (r f : Int) (xs : List Int) (v : Value) (k x n s u : Int) (ys : List Value) (W : World) : Prop where
  crs : Crs C R r f xs v k x n s u W
  y : Bx W w.heap.size ys
  r : ∃ p q, Bx W (w.heap.size + 1) [.int .u64 p, .int .u64 q]
  low : Below w.heap.size w W
  sz : w.heap.size + 2 ≤ W.heap.size
  cl : C < w.heap.size
  rl : R < w.heap.size

theorem FW.on {w : World} {C R : Nat} {r f : Int} {xs : List Int} {v : Value} {k x n s u : Int} {ys : List Value} {W W' : World} (h : FW w C R r f xs v k x n s u ys W) (hb : Below W.heap.size W W') : FW w C R r f xs v k x n s u ys W' := by
  obtain ⟨p, q, hr⟩ := h.r
  exact ⟨h.crs.on hb, h.y.on hb, ⟨p, q, hr.on hb⟩, h.low.trans (hb.mono h.low.size), Nat.le_trans h.sz hb.size, h.cl, h.rl⟩

theorem FW.drew {w : World} {C R : Nat} {r f : Int} {xs : List Int} {v : Value} {k x n s u : Int} {ys : List Value} {W : World} (h : FW w C R r f xs v k x n s u ys W) : FW w C R r f xs v k x n s u ys W.drew := h.on (Below.drew (Below.refl _ _))

theorem FW.new {w : World} {C R : Nat} {r f : Int} {xs : List Int} {v : Value} {k x n s u : Int} (ys : List Value) (h : Crs C R r f xs v k x n s u w) : FW w C R r f xs v k x n s u ys ((w.alloc (.cells ys.toArray 74)).alloc (.cells #[.int .u64 0, .int .u64 0] 114)) := by
  have hb1 := box_b w (.cells ys.toArray 74)
  have hb2 := box_b (w.alloc (.cells ys.toArray 74)) (.cells #[.int .u64 0, .int .u64 0] 114)
  have h2 := Bx.new (w.alloc (.cells ys.toArray 74)) [.int .u64 0, .int .u64 0] 114
  rw [World.size_alloc] at h2
  exact ⟨(h.on hb1).on hb2, (Bx.new w ys 74).on hb2, ⟨0, 0, h2⟩, hb1.trans (hb2.mono (by simp)), by simp, h.b.lt, h.cols.lt⟩

theorem FW.put {w : World} {C R : Nat} {r f : Int} {xs : List Int} {v : Value} {k x n s u : Int} {ys : List Value} {W : World} (h : FW w C R r f xs v k x n s u ys W) (p q : Int) : FW w C R r f xs v k x n s u ys ((W.setCell ⟨w.heap.size + 1, 0, none⟩ (.int .u64 p)).setCell ⟨w.heap.size + 1, 1, none⟩ (.int .u64 q)) := by
  have far : ∀ j, j ≠ w.heap.size + 1 → ((W.setCell ⟨w.heap.size + 1, 0, none⟩ (.int .u64 p)).setCell ⟨w.heap.size + 1, 1, none⟩ (.int .u64 q)).heap[j]? = W.heap[j]? := fun j hj => (Below.heap_setCell _ _ _ _ hj).trans (Below.heap_setCell _ _ _ _ hj)
  have hc := h.cl
  have hr := h.rl
  obtain ⟨p0, q0, T, hB⟩ := h.r
  refine ⟨⟨h.crs.b.same (far C (by omega)), h.crs.cols.same (far R (by omega))⟩, h.y.same (far _ (by omega)), ⟨p, q, T, ?_⟩, (h.low.setCell (p := ⟨w.heap.size + 1, 0, none⟩) (by show w.heap.size ≤ w.heap.size + 1; omega) _).setCell (p := ⟨w.heap.size + 1, 1, none⟩) (by show w.heap.size ≤ w.heap.size + 1; omega) _, by have := h.sz; simpa [World.setCell] using this, hc, hr⟩
  simp [World.setCell, Array.getElem?_modify, hB]

theorem Crs.prem {C R : Nat} {r f : Int} {xs : List Int} {k x n s u : Int} {v : Value} {W : World} (h : Crs C R r f xs v k x n s u W) : W.cell? ⟨C, 4, none⟩ = some (.int .i64 s) ∧ W.cell? ⟨C, 6, none⟩ = some (.int .i64 (netN r f xs k x n s)) := by
  have hb := h.b
  unfold crV at hb
  obtain ⟨-, -, -, -, c4, -, c6, -⟩ := hb.c17
  exact ⟨c4, c6⟩

end Go.Proofs.YtnclncglmnbelaaGreat
