/- Families that a law takes, copies, compares, marks. (Written by wip/gen/fml.py.) -/
import Derived.Test.YtmnddplkmljeaaaLwb
namespace Go.Proofs.Ytmnddplkmljeaaa
open Go.ChangeShapes Go.WideShapes Go.ChangeAt Go.RowKit
set_option linter.unusedVariables false
set_option linter.unusedSimpArgs false
set_option maxRecDepth 100000

theorem szF_big (d m v l : Int) (a : Option Addr) (n c : Nat) (q : Int) (w : World) (hl : n ≤ 9223372036854775807) (n0 : 0 ≤ q) (n1 : q ≤ 1048576) (h : q < n) :
    Calls Try.prog 40 #[.agg #[.int .i64 d, .int .i64 m, .int .i64 v, .int .i64 l, .slice a n c], .int .i64 q] w fun e w' => e = .returned (.int .i64 (-1)) ∧ Below w.heap.size w w' := by
  have HC := Lib.hid (fun w => szS_big a n c q w hl n0 n1 h)
  clear h
  go_enter Try.func40, Try.ntmps40
  go_wp2_with (go_at_call 98; refine (HC.out _).mono ?_; rintro e w' ⟨rfl, rfl⟩)
  go_ret
  exact ⟨rfl, box_b _ _⟩

theorem szF_fit (d m v l : Int) (a : Option Addr) (n c : Nat) (q : Int) (w : World) (n0 : 0 ≤ q) (n1 : q ≤ 1048576) (h : (n : Int) ≤ q) :
    Calls Try.prog 40 #[.agg #[.int .i64 d, .int .i64 m, .int .i64 v, .int .i64 l, .slice a n c], .int .i64 q] w fun e w' => e = .returned (.int .i64 (q - n)) ∧ Below w.heap.size w w' := by
  have HC := Lib.hid (fun w => szS_fit a n c q w n0 n1 h)
  have hp : ¬ q - (n : Int) < 0 := by omega
  clear h
  go_enter Try.func40, Try.ntmps40
  go_wp2_with (go_at_call 98; refine (HC.out _).mono ?_; rintro e w' ⟨rfl, rfl⟩)
  go_ret
  exact ⟨rfl, box_b _ _⟩

/-- what a law has copied -/
def TfPost (d m v l : Int) (ch : List Int) (n : Nat) (w : World) (e : Ending) (w' : World) : Prop :=
  ∃ B, e = .returned (.agg #[.int .i64 d, .int .i64 m, .int .i64 v, .int .i64 l, .slice (some ⟨B, 0, none⟩) n n]) ∧ TbL w.heap.size w' (some ⟨B, 0, none⟩) n ch ∧ Below w.heap.size w w'

set_option maxHeartbeats 1000000 in
theorem toF_any (d m v l : Int) (ch : List Int) (a : Option Addr) (n c : Nat) (w : World) (h : Ints w a n ch) (hl : n ≤ 1048576) :
    Calls Try.prog 41 #[.agg #[.int .i64 d, .int .i64 m, .int .i64 v, .int .i64 l, .slice a n c]] w (TfPost d m v l ch n w) := by
  have HL := Lib.hid h.len
  have H := Lib.hid h
  clear h
  go_enter Try.func41, Try.ntmps41
  go_wp2_with fail
  have HB : Hid (Below w.heap.size w (((w.alloc (.cells #[.int .i64 d, .int .i64 m, .int .i64 v, .int .i64 l, .slice a n c] 48)).alloc (.cells #[.int .i64 0, .int .i64 0, .int .i64 0, .int .i64 0, .slice none 0 0] 26)).alloc (.cells #[.int .i64 d, .int .i64 m, .int .i64 v, .int .i64 l, .slice none 0 0] 26))) := Lib.hid (((box_b _ _).alloc (by simp) _).alloc (by simp; omega) _)
  refine (toS_any ch _ _ _ _ (H.out.on HB.out) hl).mono ?_
  rintro e w4 ⟨rfl, hk, hz, hb⟩
  have X2 : Bx (((w.alloc (.cells #[.int .i64 d, .int .i64 m, .int .i64 v, .int .i64 l, .slice a n c] 48)).alloc (.cells #[.int .i64 0, .int .i64 0, .int .i64 0, .int .i64 0, .slice none 0 0] 26)).alloc (.cells #[.int .i64 d, .int .i64 m, .int .i64 v, .int .i64 l, .slice none 0 0] 26)) (w.heap.size + 1) [.int .i64 0, .int .i64 0, .int .i64 0, .int .i64 0, .slice none 0 0] := by
    have := (Bx.new (w.alloc (.cells #[.int .i64 d, .int .i64 m, .int .i64 v, .int .i64 l, .slice a n c] 48)) [.int .i64 0, .int .i64 0, .int .i64 0, .int .i64 0, .slice none 0 0] 26).on (box_b ((w.alloc (.cells #[.int .i64 d, .int .i64 m, .int .i64 v, .int .i64 l, .slice a n c] 48)).alloc (.cells #[.int .i64 0, .int .i64 0, .int .i64 0, .int .i64 0, .slice none 0 0] 26)) (.cells #[.int .i64 d, .int .i64 m, .int .i64 v, .int .i64 l, .slice none 0 0] 26))
    rw [World.size_alloc] at this
    exact this
  have X3 : Bx (((w.alloc (.cells #[.int .i64 d, .int .i64 m, .int .i64 v, .int .i64 l, .slice a n c] 48)).alloc (.cells #[.int .i64 0, .int .i64 0, .int .i64 0, .int .i64 0, .slice none 0 0] 26)).alloc (.cells #[.int .i64 d, .int .i64 m, .int .i64 v, .int .i64 l, .slice none 0 0] 26)) (w.heap.size + 1 + 1) [.int .i64 d, .int .i64 m, .int .i64 v, .int .i64 l, .slice none 0 0] := by
    have := Bx.new ((w.alloc (.cells #[.int .i64 d, .int .i64 m, .int .i64 v, .int .i64 l, .slice a n c] 48)).alloc (.cells #[.int .i64 0, .int .i64 0, .int .i64 0, .int .i64 0, .slice none 0 0] 26)) [.int .i64 d, .int .i64 m, .int .i64 v, .int .i64 l, .slice none 0 0] 26
    rw [World.size_alloc, World.size_alloc] at this
    exact this
  have X2 := X2.on hb
  have X3 := X3.on hb
  obtain ⟨r0, r1, r2, r3, r4⟩ := X2.five
  obtain ⟨o0, o1, o2, o3, o4⟩ := X3.five
  have f0 := X2.free 0
  have f1 := X2.free 1
  have f2 := X2.free 2
  have f3 := X2.free 3
  have f4 := X2.free 4
  have g4 := X3.free 4
  have HK : Hid (Blk w4 (w.heap.size + 1 + 1 + 1) ch) := Lib.hid (by rw [World.size_alloc, World.size_alloc, World.size_alloc] at hk; exact hk)
  have HBB := Lib.hid (HB.out.trans (hb.mono (by simp; omega)))
  clear hk hz hb X2 X3 HB
  go_wp2_with fail
  refine bodyPost_ret (v := .agg #[.int .i64 d, .int .i64 m, .int .i64 v, .int .i64 l, .slice (some ⟨w.heap.size + 1 + 1 + 1, 0, none⟩) n n]) ?_ rfl ⟨w.heap.size + 1 + 1 + 1, rfl, ?_, ?_⟩
  · simp [results, Try.results41, go_sem, r0, r1, r2, r3, r4]
  · exact blk_tl ((((((HK.out.same (Below.heap_setCell _ _ _ _ (by show w.heap.size + 1 + 1 + 1 ≠ w.heap.size + 1 + 1; omega))).same (Below.heap_setCell _ _ _ _ (by show w.heap.size + 1 + 1 + 1 ≠ w.heap.size + 1; omega))).same (Below.heap_setCell _ _ _ _ (by show w.heap.size + 1 + 1 + 1 ≠ w.heap.size + 1; omega))).same (Below.heap_setCell _ _ _ _ (by show w.heap.size + 1 + 1 + 1 ≠ w.heap.size + 1; omega))).same (Below.heap_setCell _ _ _ _ (by show w.heap.size + 1 + 1 + 1 ≠ w.heap.size + 1; omega))).same (Below.heap_setCell _ _ _ _ (by show w.heap.size + 1 + 1 + 1 ≠ w.heap.size + 1; omega))) HL.out hl (by omega)
  · exact (((((HBB.out.setCell (by simp; omega) _).setCell (by simp) _).setCell (by simp) _).setCell (by simp) _).setCell (by simp) _).setCell (by simp) _

theorem eqF_same (d m v l : Int) (ch : List Int) (a b : Option Addr) (n k c q : Nat) (w : World) (h : Ints w a n ch) (g : Ints w b k ch) :
    Calls Try.prog 42 #[.agg #[.int .i64 d, .int .i64 m, .int .i64 v, .int .i64 l, .slice a n c], .agg #[.int .i64 d, .int .i64 m, .int .i64 v, .int .i64 l, .slice b k q]] w fun e w' => e = .returned (.bool true) ∧ Below w.heap.size w w' := by
  have HB : Hid (Below w.heap.size w ((w.alloc (.cells #[.int .i64 d, .int .i64 m, .int .i64 v, .int .i64 l, .slice a n c] 26)).alloc (.cells #[.int .i64 d, .int .i64 m, .int .i64 v, .int .i64 l, .slice b k q] 26))) := Lib.hid ((box_b _ _).alloc (by simp) _)
  have H := Lib.hid (h.on HB.out)
  have K := Lib.hid (g.on HB.out)
  clear h g
  have e1 : (d != d) = false := by simp
  have e2 : (m != m) = false := by simp
  have e3 : (v != v) = false := by simp
  have e4 : (l != l) = false := by simp
  go_enter Try.func42, Try.ntmps42
  go_wp2_with fail
  refine (eqS_any ch ch _ _ _ _ _ _ _ H.out K.out).mono ?_
  rintro e w4 ⟨rfl, j, rfl⟩
  have hd : decide (ch = ch) = true := by simp
  rw [hd]
  go_wp2_with fail
  go_ret
  exact ⟨rfl, below_drewN HB.out _⟩

/-- a family is marked -/
theorem markF_any (d m v l : Int) (ch : List Int) (base : Nat) (a : Option Addr) (n c : Nat) (q : Int) (w : World) (h : TbL base w a n ch) (q0 : 0 ≤ q) (q1 : q ≤ 1099510000000) :
    Calls Try.prog 43 #[.agg #[.int .i64 d, .int .i64 m, .int .i64 v, .int .i64 l, .slice a n c], .int .i64 q] w fun e w' => e = .returned (.int .i64 (q + n)) ∧ TbL base w' a n (marks q n) ∧ ButA a w w' := by
  have hb := box_b w (.cells #[.int .i64 d, .int .i64 m, .int .i64 v, .int .i64 l, .slice a n c] 26)
  have H := Lib.hid (h.on hb)
  have HB := Lib.hid hb
  have HF := Lib.hid h.far
  have l1 := h.2.1
  clear h hb
  go_enter Try.func43, Try.ntmps43
  go_wp2_with fail
  refine (markL_any ch base a n c q _ H.out q0 (by omega)).mono ?_
  rintro e w1 ⟨rfl, hm, hba⟩
  have HM := Lib.hid hm
  have HE : Hid (ButA a w w1) := Lib.hid (by
    refine ⟨hba.os.trans HB.out.os, hba.tape.trans HB.out.tape, hba.output.trans HB.out.output, Nat.le_trans HB.out.size hba.size, fun k hk h1 => ?_⟩
    have s1 := HB.out.size
    rw [hba.block k (by omega) h1, HB.out.block k hk])
  clear hm hba H
  go_wp2_with fail
  go_ret
  exact ⟨rfl, HM.out, HE.out⟩

theorem heldF_any (d m v l : Int) (a : Option Addr) (n c : Nat) (q : Int) (w : World) (h : Ints w a n (marks q n)) (hl : n ≤ 1048576) (q0 : 0 ≤ q) (q1 : q ≤ 1099510000000) :
    Calls Try.prog 44 #[.agg #[.int .i64 d, .int .i64 m, .int .i64 v, .int .i64 l, .slice a n c], .int .i64 q] w fun e w' => e = .returned (.int .i64 (q + n)) ∧ Below w.heap.size w w' := by
  have hb := box_b w (.cells #[.int .i64 d, .int .i64 m, .int .i64 v, .int .i64 l, .slice a n c] 26)
  have C1 := Lib.hid (held_any a n c q _ (h.on hb) hl q0 (by omega))
  have HB := Lib.hid hb
  have hp1 : ¬ q + (n : Int) < 0 := by omega
  clear h hb
  go_enter Try.func44, Try.ntmps44
  go_wp2_with (go_at_call 68; ((with_reducible refine C1.out.mono ?_); rintro e w' ⟨rfl, rfl⟩))
  go_ret
  exact ⟨rfl, HB.out⟩

end Go.Proofs.Ytmnddplkmljeaaa
