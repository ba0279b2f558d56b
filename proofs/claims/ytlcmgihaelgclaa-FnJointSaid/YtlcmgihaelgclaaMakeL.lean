/- The exact law on MakeTable: the program answers as its model, what it hands over is its own. -/
import Derived.Test.YtlcmgihaelgclaaMakeS
import Derived.Test.YtlcmgihaelgclaaTabL
namespace Go.Proofs.Ytlcmgihaelgclaa
open Go.ChangeShapes Go.WideShapes Go.ChangeAt Go.RowKit
set_option linter.unusedVariables false

/-- a handed-over table is marked -/
theorem markT_any (F : Int) (ys : List Int) (base : Nat) (a : Option Addr) (n c : Nat) (q : Int) (w : World) (h : TbR base w a n ys) (q0 : 0 ≤ q) (q1 : q ≤ 1099511627776) :
    Calls Try.prog 26 #[.agg #[.int .i64 F, .slice a n c], .int .i64 q] w fun e w' => e = .returned (.int .i64 (q + n)) ∧ TbR base w' a n (marks q n) ∧ ButA a w w' := by
  have hb1 := box_b w (.cells #[.int .i64 F, .slice a n c] 26)
  obtain ⟨h1, h2, ⟨rfl, rfl⟩ | ⟨g, off, rfl, hb, hg, hr⟩⟩ := h
  · have HB := Lib.hid hb1
    clear hb1
    go_enter Try.func26, Try.ntmps26
    go_wp2_with (go_at_call 63; refine (mark_nil _ _ _ _).mono ?_; rintro e w' ⟨rfl, rfl⟩)
    go_ret
    exact ⟨by simp, ⟨marks_len _ _, by omega, .inl ⟨rfl, rfl⟩⟩, below_butA HB.out⟩
  · have HM := Lib.hid (mark_row ys g off n c q (w.alloc (.cells #[.int .i64 F, .slice (some ⟨g, off, none⟩) n c] 26)) (hr.on hb1) h1 (by omega) q0 q1)
    have HB := Lib.hid hb1
    clear hb1 hr h1
    go_enter Try.func26, Try.ntmps26
    go_wp2_with fail
    refine HM.out.mono ?_
    rintro e w2 ⟨rfl, hr2, ho⟩
    have HR := Lib.hid hr2
    have HO := Lib.hid ho
    clear hr2 ho
    go_wp2_with fail
    go_ret
    refine ⟨rfl, ⟨marks_len _ _, h2, .inr ⟨g, off, rfl, hb, by rw [HO.out.size]; simp; omega, HR.out⟩⟩, ?_⟩
    refine (below_butA HB.out).trans ⟨HO.out.os, HO.out.tape, HO.out.output, by rw [HO.out.size]; exact Nat.le_refl _, fun k _ hk => HO.out.block k (fun e => hk _ rfl e.symm)⟩

theorem heldT_any (F : Int) (a : Option Addr) (n c : Nat) (q : Int) (w : World) (h : Ints w a n (marks q n)) (hn : n ≤ 4096) (q0 : 0 ≤ q) (q1 : q ≤ 1099511627776) :
    Calls Try.prog 27 #[.agg #[.int .i64 F, .slice a n c], .int .i64 q] w fun e w' => e = .returned (.int .i64 (q + n)) ∧ Below w.heap.size w w' := by
  have HM := Lib.hid (held_any a n c q (w.alloc (.cells #[.int .i64 F, .slice a n c] 26)) (h.on (box_b _ _)) (by omega) q0 q1)
  have hp : ¬ q + (n : Int) < 0 := by omega
  clear h
  go_enter Try.func27, Try.ntmps27
  go_wp2_with fail
  refine HM.out.mono ?_
  rintro e w2 ⟨rfl, rfl⟩
  go_wp2_with fail
  go_ret
  exact ⟨rfl, box_b _ _⟩

/-- what MakeTable hands over: its first age, its lives, its code -/
def mkF (f L : Int) (rs : List Int) : Int := if mkB f L rs = true then f else 0

def mkY (f L : Int) (rs : List Int) : List Int := if mkB f L rs = true then mkL L rs else []

def mkE (f L : Int) (rs : List Int) : Int := if mkB f L rs = true then 0 else 2

def TbPost (F : Int) (ys : List Int) (E : Int) (w : World) (e : Ending) (w' : World) : Prop :=
  ∃ a n c, e = .returned (.tuple #[.agg #[.int .i64 F, .slice a n c], .int .i64 E]) ∧ TbR w.heap.size w' a n ys ∧ Below w.heap.size w w'

theorem mk_tb {f L : Int} {rs : List Int} {w : World} {e : Ending} {w' : World} (h : MkPost f L rs w e w') : TbPost (mkF f L rs) (mkY f L rs) (mkE f L rs) w e w' := by
  rcases h with ⟨hm, v, rfl, g, c, rfl, hc, hg, hr, hb⟩ | ⟨hm, rfl, hb⟩
  · have hl := ((mkB_iff _ _ _).1 hm).2.2.1.1
    have hn := mkL_len rs L
    have e1 : mkY f L rs = mkL L rs := by simp [mkY, hm]
    refine ⟨some ⟨g, 0, none⟩, (mkL L rs).length, c, by simp [mkF, mkE, hm], ?_, hb⟩
    rw [e1]
    exact ⟨rfl, by omega, .inr ⟨g, 0, rfl, hg, hr.lt (by omega), hr⟩⟩
  · exact ⟨none, 0, 0, by simp [mkF, mkE, hm], ⟨by simp [mkY, hm], by omega, .inl ⟨rfl, rfl⟩⟩, hb⟩

theorem eqT_tb (F : Int) (ys : List Int) (a b : Option Addr) (n m c d : Nat) (w : World) (h : Ints w a n ys) (k : Ints w b m ys) : Calls Try.prog 25 #[.agg #[.int .i64 F, .slice a n c], .agg #[.int .i64 F, .slice b m d]] w fun e w' => e = .returned (.bool true) ∧ Below w.heap.size w w' := eqT_same F ys a b n m c d w h k

theorem box3 {w w1 : World} {x y : Value} {T : TypeId} (hb : Below w.heap.size (w.alloc (.cells #[x, y] T)) w1) : Below w.heap.size w w1 := ((Below.refl w.heap.size w).alloc (Nat.le_refl _) _).trans hb

end Go.Proofs.Ytlcmgihaelgclaa
