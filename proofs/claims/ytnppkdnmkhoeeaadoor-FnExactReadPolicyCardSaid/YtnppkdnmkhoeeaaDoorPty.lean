/- Policies: the model's text of a policy. -/
import Derived.Test.YtnppkdnmkhoeeaaDoorPtx
namespace Go.Proofs.YtnppkdnmkhoeeaaDoor
open Go.ChangeShapes Go.WideShapes Go.ChangeAt Go.RowKit
set_option linter.unusedVariables false
set_option maxRecDepth 100000

theorem ints5b (w : World) (b : Nat) (hb : b = w.heap.size) (k x n s u : Int) : Ints (w.alloc (.cells #[.int .i64 k, .int .i64 x, .int .i64 n, .int .i64 s, .int .i64 u] 2)) (some ⟨b, 0, none⟩) 5 [k, x, n, s, u] := by
  subst hb; exact ints5 w k x n s u

set_option maxHeartbeats 1000000 in
theorem pt_spec (k x n s u : Int) (w : World) :
    Calls Tryd.prog 5 #[.agg #[.int .i64 k, .int .i64 x, .int .i64 n, .int .i64 s, .int .i64 u]] w fun e w' => e = .returned (.string ⟨(ptT k x n s u).toArray⟩) ∧ Below w.heap.size w w' := by
  have hb1 := box_b w (.cells #[.int .i64 k, .int .i64 x, .int .i64 n, .int .i64 s, .int .i64 u] 25)
  have hb2 := box_b (w.alloc (.cells #[.int .i64 k, .int .i64 x, .int .i64 n, .int .i64 s, .int .i64 u] 25)) (.cells #[.int .i64 k, .int .i64 x, .int .i64 n, .int .i64 s, .int .i64 u] 2)
  have HB := Lib.hid (hb1.trans (hb2.mono (by simp)))
  have hi := ints5b (w.alloc (.cells #[.int .i64 k, .int .i64 x, .int .i64 n, .int .i64 s, .int .i64 u] 25)) (w.heap.size + 1) (by simp) k x n s u
  have hw := inAll_any [k, x, n, s, u] _ 5 5 5 (-1000000000000) 1000000000000 _ hi
  have e5 : ([k, x, n, s, u].all (fun v => inB v (-1000000000000) 1000000000000) && decide (((5 : Nat) : Int) ≤ 5)) = ptB k x n s u := by
    show (ptB k x n s u && true) = _
    simp
  rw [e5] at hw
  have HW := Lib.hid hw
  have HI := Lib.hid hi
  clear hb1 hb2 e5 hw hi
  by_cases hp : ptB k x n s u = true
  · have HT : Hid (ptT k x n s u = jc [k, x, n, s, u]) := Lib.hid (by unfold ptT; rw [if_pos hp])
    have HJ := Lib.hid (joinC_any [k, x, n, s, u] _ 5 5 _ HI.out (ptB_mon hp) (by omega))
    rw [hp] at HW
    clear hp HI
    go_enter Tryd.func5, Tryd.ntmps5
    go_wp2_with fail
    refine HW.out.mono ?_
    rintro e w' ⟨rfl, rfl⟩
    go_wp2_with fail
    refine HJ.out.mono ?_
    rintro e w' ⟨rfl, hb⟩
    have HB2 := Lib.hid (HB.out.trans (hb.mono HB.out.size))
    clear hb
    go_wp2_with fail
    go_ret
    exact ⟨ret_str (by rw [HT.out]), HB2.out⟩
  · have hp2 : ptB k x n s u = false := by simpa using hp
    have HT : Hid (ptT k x n s u = []) := Lib.hid (by unfold ptT; rw [if_neg hp])
    rw [hp2] at HW
    clear hp hp2 HI
    go_enter Tryd.func5, Tryd.ntmps5
    go_wp2_with fail
    refine HW.out.mono ?_
    rintro e w' ⟨rfl, rfl⟩
    go_wp2_with fail
    go_ret
    exact ⟨ret_str (by rw [HT.out]), HB.out⟩

end Go.Proofs.YtnppkdnmkhoeeaaDoor
