/- The exact law on PolicyText. -/
import Derived.Test.YtnppkdnmkhoeeaaDoorPtj
namespace Go.Proofs.YtnppkdnmkhoeeaaDoor
open Go.ChangeShapes Go.WideShapes Go.ChangeAt Go.RowKit
set_option linter.unusedVariables false
set_option maxRecDepth 100000

/-- a block of plain cells -/
def BxT (w : World) (B : Nat) (vs : List Value) : Prop := ∃ T, w.heap[B]? = some (.cells vs.toArray T (0, 0))

theorem BxT.two {w : World} {B : Nat} {x y : Value} (h : BxT w B [x, y]) : w.cell? ⟨B, 0, none⟩ = some x ∧ w.cell? ⟨B, 1, none⟩ = some y := by
  obtain ⟨T, h⟩ := h
  simp [World.cell?, h]

theorem BxT.four {w : World} {B : Nat} {x y z u : Value} (h : BxT w B [x, y, z, u]) : w.cell? ⟨B, 0, none⟩ = some x ∧ w.cell? ⟨B, 1, none⟩ = some y ∧ w.cell? ⟨B, 2, none⟩ = some z ∧ w.cell? ⟨B, 3, none⟩ = some u := by
  obtain ⟨T, h⟩ := h
  simp [World.cell?, h]

theorem BxT.free {w : World} {B : Nat} {vs : List Value} (h : BxT w B vs) (i : Nat) : w.frozen? ⟨B, i, none⟩ = false := by
  obtain ⟨T, h⟩ := h
  simp [World.frozen?, h]

theorem BxT.lt {w : World} {B : Nat} {vs : List Value} (h : BxT w B vs) : B < w.heap.size := by
  obtain ⟨T, h⟩ := h
  by_cases hb : B < w.heap.size
  · exact hb
  · have : w.heap[B]? = none := by simp; omega
    rw [this] at h; cases h

theorem BxT.same {w w' : World} {B : Nat} {vs : List Value} (h : BxT w B vs) (hb : w'.heap[B]? = w.heap[B]?) : BxT w' B vs := by
  obtain ⟨T, h⟩ := h
  exact ⟨T, by rw [hb, h]⟩

theorem BxT.on {w w' : World} {B : Nat} {vs : List Value} (h : BxT w B vs) (hb : Below w.heap.size w w') : BxT w' B vs := h.same (hb.block _ h.lt)

theorem BxT.new (w : World) (vs : List Value) (T : TypeId) : BxT (w.alloc (.cells vs.toArray T)) w.heap.size vs := ⟨T, heap_alloc_new _ _⟩

theorem BxT.fiveT {w : World} {B : Nat} {x y z u v : Value} (h : BxT w B [x, y, z, u, v]) : w.cell? ⟨B, 0, none⟩ = some x ∧ w.cell? ⟨B, 1, none⟩ = some y ∧ w.cell? ⟨B, 2, none⟩ = some z ∧ w.cell? ⟨B, 3, none⟩ = some u ∧ w.cell? ⟨B, 4, none⟩ = some v := by
  obtain ⟨T, h⟩ := h
  simp [World.cell?, h]

set_option maxHeartbeats 1000000 in
theorem toP_anyT (k x n s u : Int) (w : World) : Calls Tryd.prog 6 #[.agg #[.int .i64 k, .int .i64 x, .int .i64 n, .int .i64 s, .int .i64 u]] w fun e w' => e = .returned (.agg #[.int .i64 k, .int .i64 x, .int .i64 n, .int .i64 s, .int .i64 u]) ∧ Below w.heap.size w w' := by
  have hB1 := box_b w (.cells #[.int .i64 k, .int .i64 x, .int .i64 n, .int .i64 s, .int .i64 u] 23)
  have hB2 := box_b (w.alloc (.cells #[.int .i64 k, .int .i64 x, .int .i64 n, .int .i64 s, .int .i64 u] 23)) (.cells #[.int .i64 0, .int .i64 0, .int .i64 0, .int .i64 0, .int .i64 0] 25)
  have hB3 := box_b ((w.alloc (.cells #[.int .i64 k, .int .i64 x, .int .i64 n, .int .i64 s, .int .i64 u] 23)).alloc (.cells #[.int .i64 0, .int .i64 0, .int .i64 0, .int .i64 0, .int .i64 0] 25)) (.cells #[.int .i64 0, .int .i64 0, .int .i64 0, .int .i64 0, .int .i64 0] 25)
  have HB : Hid (Below w.heap.size w (((w.alloc (.cells #[.int .i64 k, .int .i64 x, .int .i64 n, .int .i64 s, .int .i64 u] 23)).alloc (.cells #[.int .i64 0, .int .i64 0, .int .i64 0, .int .i64 0, .int .i64 0] 25)).alloc (.cells #[.int .i64 0, .int .i64 0, .int .i64 0, .int .i64 0, .int .i64 0] 25))) := Lib.hid ((hB1.trans (hB2.mono (by simp))).trans (hB3.mono (by simp; omega)))
  have x0 := ((BxT.new w [.int .i64 k, .int .i64 x, .int .i64 n, .int .i64 s, .int .i64 u] 23).on hB2).on hB3
  have x1 := (BxT.new (w.alloc (.cells #[.int .i64 k, .int .i64 x, .int .i64 n, .int .i64 s, .int .i64 u] 23)) [.int .i64 0, .int .i64 0, .int .i64 0, .int .i64 0, .int .i64 0] 25).on hB3
  have x2 := BxT.new ((w.alloc (.cells #[.int .i64 k, .int .i64 x, .int .i64 n, .int .i64 s, .int .i64 u] 23)).alloc (.cells #[.int .i64 0, .int .i64 0, .int .i64 0, .int .i64 0, .int .i64 0] 25)) [.int .i64 0, .int .i64 0, .int .i64 0, .int .i64 0, .int .i64 0] 25
  rw [World.size_alloc] at x1
  rw [World.size_alloc, World.size_alloc] at x2
  obtain ⟨c0, c1, c2, c3, c4⟩ := x0.fiveT
  obtain ⟨d0, d1, d2, d3, d4⟩ := x1.fiveT
  obtain ⟨e0, e1, e2, e3, e4⟩ := x2.fiveT
  have p0 := x1.free 0
  have q0 := x2.free 0
  have p1 := x1.free 1
  have q1 := x2.free 1
  have p2 := x1.free 2
  have q2 := x2.free 2
  have p3 := x1.free 3
  have q3 := x2.free 3
  have p4 := x1.free 4
  have q4 := x2.free 4
  clear x0 x1 x2 hB1 hB2 hB3
  obtain ⟨W0, hW0⟩ : ∃ y_, ((w.alloc (.cells #[.int .i64 k, .int .i64 x, .int .i64 n, .int .i64 s, .int .i64 u] 23)).alloc (.cells #[.int .i64 0, .int .i64 0, .int .i64 0, .int .i64 0, .int .i64 0] 25)).alloc (.cells #[.int .i64 0, .int .i64 0, .int .i64 0, .int .i64 0, .int .i64 0] 25) = y_ := ⟨_, rfl⟩
  rw [hW0] at HB c0 c1 c2 c3 c4 d0 d1 d2 d3 d4 e0 e1 e2 e3 e4 p0 p1 p2 p3 p4 q0 q1 q2 q3 q4
  go_enter Tryd.func6, Tryd.ntmps6
  go_wp2_with fail
  refine bodyPost_ret (v := .agg #[.int .i64 k, .int .i64 x, .int .i64 n, .int .i64 s, .int .i64 u]) ?_ rfl ⟨rfl, ?_⟩
  · simp [results, Tryd.results6, go_sem, d0, d1, d2, d3, d4]
  · exact ((((((((((HB.out.setCell (p := ⟨w.heap.size + 1 + 1, 0, none⟩) (by show w.heap.size ≤ w.heap.size + 1 + 1; omega) _).setCell (p := ⟨w.heap.size + 1 + 1, 1, none⟩) (by show w.heap.size ≤ w.heap.size + 1 + 1; omega) _).setCell (p := ⟨w.heap.size + 1 + 1, 2, none⟩) (by show w.heap.size ≤ w.heap.size + 1 + 1; omega) _).setCell (p := ⟨w.heap.size + 1 + 1, 3, none⟩) (by show w.heap.size ≤ w.heap.size + 1 + 1; omega) _).setCell (p := ⟨w.heap.size + 1 + 1, 4, none⟩) (by show w.heap.size ≤ w.heap.size + 1 + 1; omega) _).setCell (p := ⟨w.heap.size + 1, 0, none⟩) (by show w.heap.size ≤ w.heap.size + 1; omega) _).setCell (p := ⟨w.heap.size + 1, 1, none⟩) (by show w.heap.size ≤ w.heap.size + 1; omega) _).setCell (p := ⟨w.heap.size + 1, 2, none⟩) (by show w.heap.size ≤ w.heap.size + 1; omega) _).setCell (p := ⟨w.heap.size + 1, 3, none⟩) (by show w.heap.size ≤ w.heap.size + 1; omega) _).setCell (p := ⟨w.heap.size + 1, 4, none⟩) (by show w.heap.size ≤ w.heap.size + 1; omega) _)

theorem box5T {w w1 : World} {a b c d e : Value} {T : TypeId} (hb : Below (w.alloc (.cells #[a, b, c, d, e] T)).heap.size (w.alloc (.cells #[a, b, c, d, e] T)) w1) :
    Below w.heap.size w w1 ∧ w1.cell? ⟨w.heap.size, 0, none⟩ = some a ∧ w1.cell? ⟨w.heap.size, 1, none⟩ = some b ∧ w1.cell? ⟨w.heap.size, 2, none⟩ = some c ∧ w1.cell? ⟨w.heap.size, 3, none⟩ = some d ∧ w1.cell? ⟨w.heap.size, 4, none⟩ = some e := by
  have h := ((BxT.new w [a, b, c, d, e] T).on hb).fiveT
  exact ⟨(box_b w _).trans (hb.mono (by simp)), h.1, h.2.1, h.2.2.1, h.2.2.2.1, h.2.2.2.2⟩

set_option maxHeartbeats 1000000 in
theorem fnExactPolicyText_walk (k x n s u : Int) (w : World) (ht : Tab w) :
    Calls Tryd.prog 3 #[.agg #[.int .i64 k, .int .i64 x, .int .i64 n, .int .i64 s, .int .i64 u]] w fun e w' => e = .returned (.bool true) ∧ Below w.heap.size w w' := by
  have HG := Lib.hid ht.lt
  have HT := Lib.hid ht
  have HP := Lib.hid (toP_anyT k x n s u)
  have HS := Lib.hid (pt_spec k x n s u)
  have HI : Hid (∀ W, Tab W → Calls Tryd.prog 7 #[.agg #[.int .i64 k, .int .i64 x, .int .i64 n, .int .i64 s, .int .i64 u]] W fun e w' => e = .returned (.string ⟨(ptT k x n s u).toArray⟩) ∧ Below W.heap.size W w') := Lib.hid (fun W hW => pt_impl k x n s u W hW)
  obtain ⟨Y, hY⟩ : ∃ Y, ptT k x n s u = Y := ⟨_, rfl⟩
  rw [hY] at HS HI
  clear ht hY
  go_enter Tryd.func3, Tryd.ntmps3
  go_wp2_with fail
  refine (HP.out _).mono ?_
  rintro e w1 ⟨rfl, hb⟩
  have HB0 := Lib.hid hb
  obtain ⟨hB, c0, c1, c2, c3, c4⟩ := box5T hb
  clear hb hB c0 c1 c2 c3 c4
  go_wp2_with fail
  refine (HS.out _).mono ?_
  rintro e w2 ⟨rfl, hb2⟩
  have HB2 := Lib.hid (HB0.out.trans (hb2.mono HB0.out.size))
  obtain ⟨hB, c0, c1, c2, c3, c4⟩ := box5T HB2.out
  clear hb2 hB HB0
  go_wp2_with fail
  refine (HP.out _).mono ?_
  rintro e w3 ⟨rfl, hb3⟩
  have HB3 := Lib.hid (HB2.out.trans (hb3.mono HB2.out.size))
  have HB4 := Lib.hid (box5T HB3.out).1
  clear hb3 HB2 c0 c1 c2 c3 c4
  go_wp2_with fail
  refine (HI.out _ (HT.out.stepB HG.out HB4.out)).mono ?_
  rintro e w4 ⟨rfl, hb4⟩
  have HB5 := Lib.hid (HB4.out.trans (hb4.mono HB4.out.size))
  clear hb4
  go_wp2_with fail
  go_ret
  exact ⟨rfl, HB5.out⟩

end Go.Proofs.YtnppkdnmkhoeeaaDoor
