/- Policies: a basis and a policy that a law counts, copies and compares. (Written by wip/gen/poh.py.) -/
import Derived.Test.YtnclncglmnbelaaGreatTabL
import Derived.Test.YtnclncglmnbelaaGreatPos
namespace Go.Proofs.YtnclncglmnbelaaGreat
open Go.ChangeShapes Go.WideShapes Go.ChangeAt Go.RowKit
set_option linter.unusedVariables false
set_option maxRecDepth 100000

theorem szB_big (r f : Int) (a : Option Addr) (l c : Nat) (w : World) (hl : l ≤ 9223372036854775807) (h : (1048576 : Int) < l) :
    Calls Tryz.prog 24 #[.agg #[.int .i64 f, .slice a l c, .int .i64 r], .int .i64 1048576] w fun e w' => e = .returned (.int .i64 (-1)) ∧ Below w.heap.size w w' := by
  have HC := Lib.hid (fun W => szT_big f a l c W hl h)
  clear h
  go_enter Tryz.func24, Tryz.ntmps24
  go_wp2_with fail
  refine (HC.out _).mono ?_
  rintro e w1 ⟨rfl, hb⟩
  obtain ⟨hB, hc0, hc1, hc2⟩ := bx3 hb
  have HB := Lib.hid hB
  clear hb hB
  go_wp2_with fail
  go_ret
  exact ⟨rfl, HB.out⟩

theorem szB_fit (r f : Int) (a : Option Addr) (l c : Nat) (w : World) (h : (l : Int) ≤ 1048576) :
    Calls Tryz.prog 24 #[.agg #[.int .i64 f, .slice a l c, .int .i64 r], .int .i64 1048576] w fun e w' => e = .returned (.int .i64 (1048576 - l)) ∧ Below w.heap.size w w' := by
  have HC := Lib.hid (fun W => szT_fit f a l c W h)
  have hp : ¬ 1048576 - (l : Int) < 0 := by omega
  clear h
  go_enter Tryz.func24, Tryz.ntmps24
  go_wp2_with fail
  refine (HC.out _).mono ?_
  rintro e w1 ⟨rfl, hb⟩
  obtain ⟨hB, hc0, hc1, hc2⟩ := bx3 hb
  have HB := Lib.hid hB
  clear hb hB
  go_wp2_with fail
  go_ret
  exact ⟨rfl, HB.out⟩

/-- a basis that a law has copied: its lives in a block of their own -/
def TbPost (w : World) (f : Int) (xs : List Int) (l : Nat) (r : Int) (e : Ending) (w' : World) : Prop := ∃ B, e = .returned (.agg #[.int .i64 f, .slice (some ⟨B, 0, none⟩) l l, .int .i64 r]) ∧ w.heap.size ≤ B ∧ Blk w' B xs ∧ Below w.heap.size w w'

theorem Bx.three {w : World} {B : Nat} {x y z : Value} (h : Bx w B [x, y, z]) : w.cell? ⟨B, 0, none⟩ = some x ∧ w.cell? ⟨B, 1, none⟩ = some y ∧ w.cell? ⟨B, 2, none⟩ = some z := by
  obtain ⟨T, h⟩ := h
  simp [World.cell?, h]

set_option maxHeartbeats 1000000 in
theorem toB_any (r f : Int) (xs : List Int) (a : Option Addr) (l c : Nat) (w : World) (h : Ints w a l xs) (hl : l ≤ 1048576) :
    Calls Tryz.prog 26 #[.agg #[.int .i64 f, .slice a l c, .int .i64 r]] w (TbPost w f xs l r) := by
  have hB1 := box_b w (.cells #[.int .i64 f, .slice a l c, .int .i64 r] 45)
  have hB2 := box_b (w.alloc (.cells #[.int .i64 f, .slice a l c, .int .i64 r] 45)) (.cells #[.int .i64 0, .slice none 0 0, .int .i64 0] 28)
  have hB3 := box_b ((w.alloc (.cells #[.int .i64 f, .slice a l c, .int .i64 r] 45)).alloc (.cells #[.int .i64 0, .slice none 0 0, .int .i64 0] 28)) (.cells #[.int .i64 0, .slice none 0 0, .int .i64 0] 28)
  have HB : Hid (Below w.heap.size w (((w.alloc (.cells #[.int .i64 f, .slice a l c, .int .i64 r] 45)).alloc (.cells #[.int .i64 0, .slice none 0 0, .int .i64 0] 28)).alloc (.cells #[.int .i64 0, .slice none 0 0, .int .i64 0] 28))) := Lib.hid ((hB1.trans (hB2.mono (by simp))).trans (hB3.mono (by simp; omega)))
  have x0 := ((Bx.new w [.int .i64 f, .slice a l c, .int .i64 r] 45).on hB2).on hB3
  have x1 := (Bx.new (w.alloc (.cells #[.int .i64 f, .slice a l c, .int .i64 r] 45)) [.int .i64 0, .slice none 0 0, .int .i64 0] 28).on hB3
  have x2 := Bx.new ((w.alloc (.cells #[.int .i64 f, .slice a l c, .int .i64 r] 45)).alloc (.cells #[.int .i64 0, .slice none 0 0, .int .i64 0] 28)) [.int .i64 0, .slice none 0 0, .int .i64 0] 28
  rw [World.size_alloc] at x1
  rw [World.size_alloc, World.size_alloc] at x2
  have HX := Lib.hid (And.intro x0 (And.intro x1 x2))
  have HT : Hid (∀ W, Hid (Below w.heap.size w W) → Calls Tryz.prog 53 #[.agg #[.int .i64 f, .slice a l c]] W (ToPost W f xs l)) := Lib.hid (fun W hW => toT_any f xs a l c W (h.on hW.out) hl)
  clear x0 x1 x2 hB1 hB2 hB3 h
  go_enter Tryz.func26, Tryz.ntmps26
  go_wp2_with fail
  have hS : ((((w.alloc (.cells #[.int .i64 f, .slice a l c, .int .i64 r] 45)).alloc (.cells #[.int .i64 0, .slice none 0 0, .int .i64 0] 28)).alloc (.cells #[.int .i64 0, .slice none 0 0, .int .i64 0] 28))).heap.size = w.heap.size + 1 + 1 + 1 := by simp
  obtain ⟨W0, hW0⟩ : ∃ y_, (((w.alloc (.cells #[.int .i64 f, .slice a l c, .int .i64 r] 45)).alloc (.cells #[.int .i64 0, .slice none 0 0, .int .i64 0] 28)).alloc (.cells #[.int .i64 0, .slice none 0 0, .int .i64 0] 28)) = y_ := ⟨_, rfl⟩
  rw [hW0] at HB HX hS ⊢
  clear hW0
  with_reducible refine (HT.out _ HB).mono ?_
  rintro e w4 ⟨B, rfl, hg, hk, hb⟩
  obtain ⟨x0, x1, x2⟩ := HX.out
  have y0 := x0.on hb
  have y1 := x1.on hb
  have y2 := x2.on hb
  obtain ⟨c0, c1, c2⟩ := y0.three
  obtain ⟨d0, d1, d2⟩ := y1.three
  obtain ⟨e0, e1, e2⟩ := y2.three
  have p0 := y1.free 0
  have p1 := y1.free 1
  have p2 := y1.free 2
  have q0 := y2.free 0
  have q1 := y2.free 1
  have q2 := y2.free 2
  have HK := Lib.hid hk
  have HG : Hid (w.heap.size + 1 + 1 + 1 ≤ B) := Lib.hid (by rw [← hS]; exact hg)
  have HBB := Lib.hid (HB.out.trans (hb.mono HB.out.size))
  clear hk hb x0 x1 x2 y0 y1 y2 HX HT HB hg hS
  go_wp2_with fail
  refine bodyPost_ret (v := .agg #[.int .i64 f, .slice (some ⟨B, 0, none⟩) l l, .int .i64 r]) ?_ rfl ⟨B, rfl, by have := HG.out; omega, ?_, ?_⟩
  · simp [results, Tryz.results26, go_sem, d0, d1, d2]
  · exact ((((((HK.out.same (Below.heap_setCell _ _ _ _ (by show B ≠ w.heap.size + 1 + 1; have := HG.out; omega))).same (Below.heap_setCell _ _ _ _ (by show B ≠ w.heap.size + 1 + 1; have := HG.out; omega))).same (Below.heap_setCell _ _ _ _ (by show B ≠ w.heap.size + 1 + 1; have := HG.out; omega))).same (Below.heap_setCell _ _ _ _ (by show B ≠ w.heap.size + 1; have := HG.out; omega))).same (Below.heap_setCell _ _ _ _ (by show B ≠ w.heap.size + 1; have := HG.out; omega))).same (Below.heap_setCell _ _ _ _ (by show B ≠ w.heap.size + 1; have := HG.out; omega)))
  · exact ((((((HBB.out.setCell (p := ⟨w.heap.size + 1 + 1, 0, none⟩) (by show w.heap.size ≤ w.heap.size + 1 + 1; omega) _).setCell (p := ⟨w.heap.size + 1 + 1, 1, none⟩) (by show w.heap.size ≤ w.heap.size + 1 + 1; omega) _).setCell (p := ⟨w.heap.size + 1 + 1, 2, none⟩) (by show w.heap.size ≤ w.heap.size + 1 + 1; omega) _).setCell (p := ⟨w.heap.size + 1, 0, none⟩) (by show w.heap.size ≤ w.heap.size + 1; omega) _).setCell (p := ⟨w.heap.size + 1, 1, none⟩) (by show w.heap.size ≤ w.heap.size + 1; omega) _).setCell (p := ⟨w.heap.size + 1, 2, none⟩) (by show w.heap.size ≤ w.heap.size + 1; omega) _)

set_option maxHeartbeats 1000000 in
theorem toP_any (k x n s u : Int) (w : World) : Calls Tryz.prog 27 #[.agg #[.int .i64 k, .int .i64 x, .int .i64 n, .int .i64 s, .int .i64 u]] w fun e w' => e = .returned (.agg #[.int .i64 k, .int .i64 x, .int .i64 n, .int .i64 s, .int .i64 u]) ∧ Below w.heap.size w w' := by
  have hB1 := box_b w (.cells #[.int .i64 k, .int .i64 x, .int .i64 n, .int .i64 s, .int .i64 u] 46)
  have hB2 := box_b (w.alloc (.cells #[.int .i64 k, .int .i64 x, .int .i64 n, .int .i64 s, .int .i64 u] 46)) (.cells #[.int .i64 0, .int .i64 0, .int .i64 0, .int .i64 0, .int .i64 0] 30)
  have hB3 := box_b ((w.alloc (.cells #[.int .i64 k, .int .i64 x, .int .i64 n, .int .i64 s, .int .i64 u] 46)).alloc (.cells #[.int .i64 0, .int .i64 0, .int .i64 0, .int .i64 0, .int .i64 0] 30)) (.cells #[.int .i64 0, .int .i64 0, .int .i64 0, .int .i64 0, .int .i64 0] 30)
  have HB : Hid (Below w.heap.size w (((w.alloc (.cells #[.int .i64 k, .int .i64 x, .int .i64 n, .int .i64 s, .int .i64 u] 46)).alloc (.cells #[.int .i64 0, .int .i64 0, .int .i64 0, .int .i64 0, .int .i64 0] 30)).alloc (.cells #[.int .i64 0, .int .i64 0, .int .i64 0, .int .i64 0, .int .i64 0] 30))) := Lib.hid ((hB1.trans (hB2.mono (by simp))).trans (hB3.mono (by simp; omega)))
  have x0 := ((Bx.new w [.int .i64 k, .int .i64 x, .int .i64 n, .int .i64 s, .int .i64 u] 46).on hB2).on hB3
  have x1 := (Bx.new (w.alloc (.cells #[.int .i64 k, .int .i64 x, .int .i64 n, .int .i64 s, .int .i64 u] 46)) [.int .i64 0, .int .i64 0, .int .i64 0, .int .i64 0, .int .i64 0] 30).on hB3
  have x2 := Bx.new ((w.alloc (.cells #[.int .i64 k, .int .i64 x, .int .i64 n, .int .i64 s, .int .i64 u] 46)).alloc (.cells #[.int .i64 0, .int .i64 0, .int .i64 0, .int .i64 0, .int .i64 0] 30)) [.int .i64 0, .int .i64 0, .int .i64 0, .int .i64 0, .int .i64 0] 30
  rw [World.size_alloc] at x1
  rw [World.size_alloc, World.size_alloc] at x2
  obtain ⟨c0, c1, c2, c3, c4⟩ := x0.five0
  obtain ⟨d0, d1, d2, d3, d4⟩ := x1.five0
  obtain ⟨e0, e1, e2, e3, e4⟩ := x2.five0
  have p0 := x1.free 0
  have q0 := x2.free 0
  have p1 := x1.free 1
  have q1 := x2.free 1
  have p2 := x1.free 2
  have q2 := x2.free 2
  have p3 := x1.free 3
  have q3 := x2.free 3
  have p4 := x1.free 4
  have q4 := x2.free 4
  clear x0 x1 x2 hB1 hB2 hB3
  obtain ⟨W0, hW0⟩ : ∃ y_, ((w.alloc (.cells #[.int .i64 k, .int .i64 x, .int .i64 n, .int .i64 s, .int .i64 u] 46)).alloc (.cells #[.int .i64 0, .int .i64 0, .int .i64 0, .int .i64 0, .int .i64 0] 30)).alloc (.cells #[.int .i64 0, .int .i64 0, .int .i64 0, .int .i64 0, .int .i64 0] 30) = y_ := ⟨_, rfl⟩
  rw [hW0] at HB c0 c1 c2 c3 c4 d0 d1 d2 d3 d4 e0 e1 e2 e3 e4 p0 p1 p2 p3 p4 q0 q1 q2 q3 q4
  go_enter Tryz.func27, Tryz.ntmps27
  go_wp2_with fail
  refine bodyPost_ret (v := .agg #[.int .i64 k, .int .i64 x, .int .i64 n, .int .i64 s, .int .i64 u]) ?_ rfl ⟨rfl, ?_⟩
  · simp [results, Tryz.results27, go_sem, d0, d1, d2, d3, d4]
  · exact ((((((((((HB.out.setCell (p := ⟨w.heap.size + 1 + 1, 0, none⟩) (by show w.heap.size ≤ w.heap.size + 1 + 1; omega) _).setCell (p := ⟨w.heap.size + 1 + 1, 1, none⟩) (by show w.heap.size ≤ w.heap.size + 1 + 1; omega) _).setCell (p := ⟨w.heap.size + 1 + 1, 2, none⟩) (by show w.heap.size ≤ w.heap.size + 1 + 1; omega) _).setCell (p := ⟨w.heap.size + 1 + 1, 3, none⟩) (by show w.heap.size ≤ w.heap.size + 1 + 1; omega) _).setCell (p := ⟨w.heap.size + 1 + 1, 4, none⟩) (by show w.heap.size ≤ w.heap.size + 1 + 1; omega) _).setCell (p := ⟨w.heap.size + 1, 0, none⟩) (by show w.heap.size ≤ w.heap.size + 1; omega) _).setCell (p := ⟨w.heap.size + 1, 1, none⟩) (by show w.heap.size ≤ w.heap.size + 1; omega) _).setCell (p := ⟨w.heap.size + 1, 2, none⟩) (by show w.heap.size ≤ w.heap.size + 1; omega) _).setCell (p := ⟨w.heap.size + 1, 3, none⟩) (by show w.heap.size ≤ w.heap.size + 1; omega) _).setCell (p := ⟨w.heap.size + 1, 4, none⟩) (by show w.heap.size ≤ w.heap.size + 1; omega) _)

theorem eqB_same (r f : Int) (xs : List Int) (a b : Option Addr) (l m c d : Nat) (w : World) (h : Ints w a l xs) (k : Ints w b m xs) :
    Calls Tryz.prog 28 #[.agg #[.int .i64 f, .slice a l c, .int .i64 r], .agg #[.int .i64 f, .slice b m d, .int .i64 r]] w fun e w' => e = .returned (.bool true) ∧ Below w.heap.size w w' := by
  have hB1 := box_b w (.cells #[.int .i64 f, .slice a l c, .int .i64 r] 28)
  have hB2 := box_b (w.alloc (.cells #[.int .i64 f, .slice a l c, .int .i64 r] 28)) (.cells #[.int .i64 f, .slice b m d, .int .i64 r] 28)
  have HB := Lib.hid (hB1.trans (hB2.mono (by simp)))
  have x0 := (Bx.new w [.int .i64 f, .slice a l c, .int .i64 r] 28).on hB2
  have x1 := Bx.new (w.alloc (.cells #[.int .i64 f, .slice a l c, .int .i64 r] 28)) [.int .i64 f, .slice b m d, .int .i64 r] 28
  rw [World.size_alloc] at x1
  have HX := Lib.hid (And.intro x0 x1)
  have HE := Lib.hid (eqT_same f xs a b l m c d _ (h.on HB.out) (k.on HB.out))
  clear x0 x1 hB1 hB2 h k
  go_enter Tryz.func28, Tryz.ntmps28
  go_wp2_with fail
  with_reducible refine HE.out.mono ?_
  rintro e w4 ⟨rfl, hb⟩
  have y0 := HX.out.1.on hb
  have y1 := HX.out.2.on hb
  obtain ⟨c0, c1, c2⟩ := y0.three
  obtain ⟨d0, d1, d2⟩ := y1.three
  have HBB := Lib.hid (HB.out.trans (hb.mono HB.out.size))
  clear hb HX y0 y1
  go_wp2_with fail
  go_ret
  exact ⟨rfl, HBB.out⟩

end Go.Proofs.YtnclncglmnbelaaGreat
