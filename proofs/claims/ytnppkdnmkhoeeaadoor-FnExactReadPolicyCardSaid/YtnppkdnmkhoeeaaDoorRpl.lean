/- The exact law on ReadPolicy. -/
import Derived.Test.YtnppkdnmkhoeeaaDoorRpi
namespace Go.Proofs.YtnppkdnmkhoeeaaDoor
open Go.ChangeShapes Go.WideShapes Go.ChangeAt Go.RowKit
set_option linter.unusedVariables false
set_option maxRecDepth 100000

theorem eqP_same (b0 b1 b2 b3 b4 : Int) (w : World) : Calls Tryd.prog 10 #[.agg #[.int .i64 b0, .int .i64 b1, .int .i64 b2, .int .i64 b3, .int .i64 b4], .agg #[.int .i64 b0, .int .i64 b1, .int .i64 b2, .int .i64 b3, .int .i64 b4]] w fun e w' => e = .returned (.bool true) ∧ Below w.heap.size w w' := by
  have HB := Lib.hid ((box_b w (.cells #[.int .i64 b0, .int .i64 b1, .int .i64 b2, .int .i64 b3, .int .i64 b4] 25)).trans ((box_b _ (.cells #[.int .i64 b0, .int .i64 b1, .int .i64 b2, .int .i64 b3, .int .i64 b4] 25)).mono (by simp)))
  go_enter Tryd.func10, Tryd.ntmps10
  go_wp2_with fail
  go_ret
  exact ⟨rfl, HB.out⟩

theorem rpA_five (l : List UInt8) : ∃ b0 b1 b2 b3 b4 : Int, rpA l = #[.int .i64 b0, .int .i64 b1, .int .i64 b2, .int .i64 b3, .int .i64 b4] := by
  cases h : rpM l with
  | true => exact ⟨_, _, _, _, _, rpA_t h⟩
  | false => exact ⟨_, _, _, _, _, rpA_f h⟩

set_option maxHeartbeats 1000000 in
theorem fnExactReadPolicy_walk (s0 : ByteArray) (ws0 : s0.size ≤ maxLen) (w : World) (ht : Tab w) (hsh : w.ShapedOpen Tryd.prog) (h1 : ErrIs w "strconv.ErrSyntax") (h2 : ErrIs w "strconv.ErrRange") :
    Calls Tryd.prog 4 #[.string s0] w fun e w' => e = .returned (.bool true) ∧ Below w.heap.size w w' := by
  have HA := Lib.hid (AskT.mk ht ⟨h1, h2, hsh⟩)
  clear ht hsh h1 h2
  by_cases hbig : (1048576 : Int) < s0.size
  · unfold maxLen at ws0
    go_enter Tryd.func4, Tryd.ntmps4
    go_wp2_with fail
    go_ret
    exact ⟨rfl, Below.refl _ _⟩
  · obtain ⟨b0, b1, b2, b3, b4, hV⟩ := rpA_five s0.data.toList
    obtain ⟨O, hO⟩ : ∃ O, rpM s0.data.toList = O := ⟨_, rfl⟩
    have CS : Hid (∀ W : World, Calls Tryd.prog 8 #[.string s0] W fun e w' => e = .returned (.tuple #[.agg #[.int .i64 b0, .int .i64 b1, .int .i64 b2, .int .i64 b3, .int .i64 b4], .bool O]) ∧ Below W.heap.size W w') := Lib.hid (fun W => (rp_spec s0 W (by omega)).mono fun e w' hh => by unfold RpPost at hh; rw [hV, hO] at hh; exact hh)
    have CI : Hid (∀ W : World, Below w.heap.size w W → Calls Tryd.prog 9 #[.string s0] W fun e w' => e = .returned (.tuple #[.agg #[.int .i64 b0, .int .i64 b1, .int .i64 b2, .int .i64 b3, .int .i64 b4], .bool O]) ∧ Below W.heap.size W w') := Lib.hid (fun W hW => (rp_impl s0 W (by omega) (HA.out.step hW)).mono fun e w' hh => by unfold RpPost at hh; rw [hV, hO] at hh; exact hh)
    have HE := Lib.hid (eqP_same b0 b1 b2 b3 b4)
    clear hV hO HA
    go_enter Tryd.func4, Tryd.ntmps4
    go_wp2_with fail
    refine (CS.out _).mono ?_
    rintro e w2 ⟨rfl, hb⟩
    have HB2 := Lib.hid hb
    have HB3 := Lib.hid (hb.trans ((box_b w2 (.cells #[.int .i64 b0, .int .i64 b1, .int .i64 b2, .int .i64 b3, .int .i64 b4] 25)).mono hb.size))
    clear hb
    go_wp2_with fail
    refine (CI.out _ HB3.out).mono ?_
    rintro e w4 ⟨rfl, hb⟩
    obtain ⟨hB, c0, c1, c2, c3, c4⟩ := box5T hb
    have HB4 := Lib.hid (HB2.out.trans (hB.mono HB2.out.size))
    have HB5 := Lib.hid (HB4.out.trans ((box_b w4 (.cells #[.int .i64 b0, .int .i64 b1, .int .i64 b2, .int .i64 b3, .int .i64 b4] 25)).mono HB4.out.size))
    have hlt : w2.heap.size < w4.heap.size := block_lt c0
    clear hb hB HB2 HB3
    cases O
    all_goals
      go_wp2_with fail
      refine (HE.out _).mono ?_
      rintro e w5 ⟨rfl, hb5⟩
      have HB6 := Lib.hid (HB5.out.trans (hb5.mono HB5.out.size))
      clear hb5
      go_wp2_with fail
      go_ret
      exact ⟨rfl, HB6.out⟩

end Go.Proofs.YtnppkdnmkhoeeaaDoor
