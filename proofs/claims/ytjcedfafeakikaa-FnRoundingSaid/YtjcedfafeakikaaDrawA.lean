/- The draws of chapter 1's numbers: two integers each, out of whatever code. -/
import Derived.Test.YtjcedfafeakikaaDraw
namespace Go.Proofs.Ytjcedfafeakikaa
open Go.ChangeShapes Go.WideShapes Go.ChangeAt Go.RowKit
set_option linter.unusedVariables false

theorem ready_of {a : Option Addr} {l c : Nat} {z : List Int} {w w1 : World} (hr : IsRow .u8 w a l c z) (hs : IsSrc w.heap.size a l c w1) (hb : Below w.heap.size w w1) : Ready w.heap.size a l c z w1 :=
  ⟨hs, hr.below hb hr.apart, hr.apart⟩

def TwoPost (w : World) (e : Ending) (w' : World) : Prop := ∃ x y, e = .returned (.tuple #[.int .i64 x, .int .i64 y]) ∧ Below w.heap.size w w'
def OnePost (w : World) (e : Ending) (w' : World) : Prop := ∃ x, e = .returned (.int .i64 x) ∧ Below w.heap.size w w'

theorem drawDD (a : Option Addr) (l c : Nat) (z : List Int) (w : World) (hr : IsRow .u8 w a l c z) : Calls Try.prog 13 #[.slice a l c] w (TwoPost w) := by
  have HR := Lib.hid hr
  clear hr
  go_enter Try.func13, Try.ntmps13
  go_wp2_with (first | (go_at_call 35; refine (from_any _ _ _ z _ HR.out).mono ?_; rintro e w1 ⟨rfl, hs, hz, hb⟩; have HB := Lib.hid hb; have HS := Lib.hid (ready_of HR.out hs hb); have HO := Lib.hid (But.refl w.heap.size w1); have HZ := Lib.hid hz; clear hs hb hz) | (go_at_call 36; refine (next_r _ _ _ _ _ _ _ HS.out).mono ?_; rintro e w1 ⟨r, rfl, hd, ho, hs⟩; have HO := Lib.hid (HO.out.trans ho); have HS := Lib.hid hs; clear ho hs hd) | (go_at_call 37; refine (money_r _ _ _ _ _ _ HS.out).mono ?_; rintro e w1 ⟨r, rfl, hd, ho, hs⟩; have HO := Lib.hid (HO.out.trans ho); have HS := Lib.hid hs; clear ho hs hd) | (go_at_call 38; ((with_reducible refine (pick5 _ _ _ _ _ _ _ _ HS.out).mono ?_); rintro e w1 ⟨r, rfl, hd, ho, hs⟩; have HO := Lib.hid (HO.out.trans ho); have HS := Lib.hid hs; clear ho hs hd)))
  all_goals
    go_ret2
    exact ⟨_, _, rfl, HB.out.trans (HO.out.below (Nat.le_refl _) (by have := HZ.out; omega))⟩

theorem drawPM (a : Option Addr) (l c : Nat) (z : List Int) (w : World) (hr : IsRow .u8 w a l c z) : Calls Try.prog 18 #[.slice a l c] w (TwoPost w) := by
  have HR := Lib.hid hr
  clear hr
  go_enter Try.func18, Try.ntmps18
  go_wp2_with (first | (go_at_call 35; refine (from_any _ _ _ z _ HR.out).mono ?_; rintro e w1 ⟨rfl, hs, hz, hb⟩; have HB := Lib.hid hb; have HS := Lib.hid (ready_of HR.out hs hb); have HO := Lib.hid (But.refl w.heap.size w1); have HZ := Lib.hid hz; clear hs hb hz) | (go_at_call 36; refine (next_r _ _ _ _ _ _ _ HS.out).mono ?_; rintro e w1 ⟨r, rfl, hd, ho, hs⟩; have HO := Lib.hid (HO.out.trans ho); have HS := Lib.hid hs; clear ho hs hd) | (go_at_call 37; refine (money_r _ _ _ _ _ _ HS.out).mono ?_; rintro e w1 ⟨r, rfl, hd, ho, hs⟩; have HO := Lib.hid (HO.out.trans ho); have HS := Lib.hid hs; clear ho hs hd) | (go_at_call 38; ((with_reducible refine (pick4 _ _ _ _ _ _ _ HS.out).mono ?_); rintro e w1 ⟨r, rfl, hd, ho, hs⟩; have HO := Lib.hid (HO.out.trans ho); have HS := Lib.hid hs; clear ho hs hd)))
  all_goals
    go_ret2
    exact ⟨_, _, rfl, HB.out.trans (HO.out.below (Nat.le_refl _) (by have := HZ.out; omega))⟩

theorem drawCF (a : Option Addr) (l c : Nat) (z : List Int) (w : World) (hr : IsRow .u8 w a l c z) : Calls Try.prog 26 #[.slice a l c] w (TwoPost w) := by
  have HR := Lib.hid hr
  clear hr
  go_enter Try.func26, Try.ntmps26
  go_wp2_with (first | (go_at_call 35; refine (from_any _ _ _ z _ HR.out).mono ?_; rintro e w1 ⟨rfl, hs, hz, hb⟩; have HB := Lib.hid hb; have HS := Lib.hid (ready_of HR.out hs hb); have HO := Lib.hid (But.refl w.heap.size w1); have HZ := Lib.hid hz; clear hs hb hz) | (go_at_call 36; refine (next_r _ _ _ _ _ _ _ HS.out).mono ?_; rintro e w1 ⟨r, rfl, hd, ho, hs⟩; have HO := Lib.hid (HO.out.trans ho); have HS := Lib.hid hs; clear ho hs hd) | (go_at_call 38; ((with_reducible refine (pick4 _ _ _ _ _ _ _ HS.out).mono ?_); rintro e w1 ⟨r, rfl, hd, ho, hs⟩; have HO := Lib.hid (HO.out.trans ho); have HS := Lib.hid hs; clear ho hs hd)))
  all_goals
    go_ret2
    exact ⟨_, _, rfl, HB.out.trans (HO.out.below (Nat.le_refl _) (by have := HZ.out; omega))⟩

end Go.Proofs.Ytjcedfafeakikaa
