/- Two like families are told to be alike. (Written by wip/gen/fmj.py.) -/
import Derived.Test.YtmnddplkmljeaaaFmr
namespace Go.Proofs.Ytmnddplkmljeaaa
open Go.ChangeShapes Go.WideShapes Go.ChangeAt Go.RowKit
set_option linter.unusedVariables false
set_option linter.unusedSimpArgs false
set_option maxRecDepth 100000

theorem rbT {w W : World} {a0 a1 a2 a3 a4 b0 b1 b2 b3 b4 : Value} (h : RB w [a0, a1, a2, a3, a4] [b0, b1, b2, b3, b4] W) :
    W.cell? ⟨w.heap.size, 0, none⟩ = some a0 ∧ W.cell? ⟨w.heap.size, 1, none⟩ = some a1 ∧ W.cell? ⟨w.heap.size, 2, none⟩ = some a2 ∧ W.cell? ⟨w.heap.size, 3, none⟩ = some a3 ∧ W.cell? ⟨w.heap.size, 4, none⟩ = some a4 ∧
    W.cell? ⟨w.heap.size + 1, 0, none⟩ = some b0 ∧ W.cell? ⟨w.heap.size + 1, 1, none⟩ = some b1 ∧ W.cell? ⟨w.heap.size + 1, 2, none⟩ = some b2 ∧ W.cell? ⟨w.heap.size + 1, 3, none⟩ = some b3 ∧ W.cell? ⟨w.heap.size + 1, 4, none⟩ = some b4 := by
  obtain ⟨p0, p1, p2, p3, p4⟩ := h.f.five
  obtain ⟨r0, r1, r2, r3, r4⟩ := h.r.five
  exact ⟨p0, p1, p2, p3, p4, r0, r1, r2, r3, r4⟩

set_option maxHeartbeats 4000000 in
theorem likeF_any (d m v l : Int) (ch : List Int) (a b : Option Addr) (n k c q : Nat) (w : World) (h : Ints w a n ch) (g : Ints w b k ch) :
    Calls Try.prog 39 #[.agg #[.int .i64 d, .int .i64 m, .int .i64 v, .int .i64 l, .slice a n c], .agg #[.int .i64 d, .int .i64 m, .int .i64 v, .int .i64 l, .slice b k q]] w fun e w' => e = .returned (.bool true) ∧ Below w.heap.size w w' := by
  have HB := Lib.hid (RB.new w [.int .i64 d, .int .i64 m, .int .i64 v, .int .i64 l, .slice a n c] [.int .i64 d, .int .i64 m, .int .i64 v, .int .i64 l, .slice b k q] 26 26)
  have H := Lib.hid (h.on HB.out.low)
  have K := Lib.hid (g.on HB.out.low)
  clear h g
  go_enter Try.func39, Try.ntmps39
  go_wp2_with fail
  refine (like_any ch ch _ _ _ _ _ _ _ H.out K.out).mono ?_
  rintro e w3 ⟨rfl, j, rfl⟩
  have hd : decide (ch = ch) = true := by simp
  rw [hd]
  have HB := Lib.hid (HB.out.on (below_drewN (Below.refl _ _) j))
  go_wp2_with fail
  go_ret
  exact ⟨rfl, HB.out.low⟩

end Go.Proofs.Ytmnddplkmljeaaa
