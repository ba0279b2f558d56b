/- The model's draws of what the columns take: a table, a rate, an age. | The model's draws of what chapter 6 takes: a table, a rate, an age, an amount or a price, a number of years. (Written by wip/gen/dran.py.) -/
import Derived.Test.YtlcmgihaelgclaaGreatTabU
import Derived.Test.YtlcmgihaelgclaaGreatIntD
namespace Go.Proofs.YtlcmgihaelgclaaGreat
open Go.ChangeShapes Go.WideShapes Go.ChangeAt Go.RowKit
set_option linter.unusedVariables false

/-- a drawn table and a rate -/
def DrawnR (B : Nat) (a : Option Addr) (l c : Nat) (z : List Int) (w : World) (e : Ending) (w' : World) : Prop :=
  ∃ F ta tn tc xs r, e = .returned (.tuple #[.agg #[.int .i64 F, .slice ta tn tc], .int .i64 r]) ∧ Ints w' ta tn xs ∧ tn ≤ tc ∧ tn ≤ 4096 ∧ -1 ≤ F ∧ F ≤ 101 ∧ (∀ x, ta = some x → w.heap.size ≤ x.block) ∧ But B w w' ∧ Ready B a l c z w'

theorem putX (w1 : World) (X : Nat) (u v : Value) (g0 : ∃ v, w1.cell? ⟨X, 0, none⟩ = some v) (g1 : ∃ v, w1.cell? ⟨X, 1, none⟩ = some v) :
    ((w1.setCell ⟨X, 0, none⟩ u).setCell ⟨X, 1, none⟩ v).cell? ⟨X, 0, none⟩ = some u ∧ ((w1.setCell ⟨X, 0, none⟩ u).setCell ⟨X, 1, none⟩ v).cell? ⟨X, 1, none⟩ = some v ∧ Only X w1 ((w1.setCell ⟨X, 0, none⟩ u).setCell ⟨X, 1, none⟩ v) := by
  obtain ⟨v0, g0⟩ := g0
  obtain ⟨v1, g1⟩ := g1
  have n1 : (⟨X, 0, none⟩ : Addr) ≠ ⟨X, 1, none⟩ := fun e => by injection e; omega
  exact ⟨by rw [far_set n1]; exact World.cell?_setCell_same' _ _ _ (by rw [g0]; rfl), World.cell?_setCell_same' _ _ _ (by rw [far_set n1.symm, g1]; rfl), ((Only.refl _ _).setCell (p := ⟨X, 0, none⟩) rfl _).setCell (p := ⟨X, 1, none⟩) rfl _⟩

def CaPost (w : World) (e : Ending) (w' : World) : Prop :=
  ∃ F ta tn tc xs r x, e = .returned (.tuple #[.agg #[.int .i64 F, .slice ta tn tc], .int .i64 r, .int .i64 x]) ∧ Ints w' ta tn xs ∧ tn ≤ tc ∧ tn ≤ 4096 ∧ Below w.heap.size w w'

theorem SvS.finCA {B X T : Nat} {a : Option Addr} {l c : Nat} {z : List Int} {F : Int} {ta : Option Addr} {tn tc : Nat} {xs : List Int} {w w1 : World} {r x : Int} (h : Hid (SvS B X T a l c z F ta tn tc xs w w1)) (hn : tn ≤ tc) (hm : tn ≤ 4096) :
    CaPost w (.returned (.tuple #[.agg #[.int .i64 F, .slice ta tn tc], .int .i64 r, .int .i64 x])) w1 :=
  ⟨F, ta, tn, tc, xs, r, x, rfl, h.out.ints, hn, hm, by rw [h.out.eX]; exact h.out.low⟩

theorem amt_r (B : Nat) (a : Option Addr) (l c : Nat) (z : List Int) (w : World) (h : Ready B a l c z w) :
    Calls Tryz.prog 34 #[.pointer (some ⟨B, 0, none⟩)] w (NumPost B a l c z Any w) := by
  have HS := Lib.hid h
  have HO := Lib.hid (But.refl B w)
  clear h
  go_enter Tryz.func34, Tryz.ntmps34
  go_wp2_with (first | (go_at_call 62; refine (next_r _ _ _ _ _ _ _ HS.out).mono ?_; rintro e w1 ⟨r, rfl, hd, ho, hs⟩; have HO := Lib.hid (HO.out.trans ho); have HS := Lib.hid hs; clear ho hs hd) | (go_at_call 63; ((with_reducible refine (pick4 B _ _ _ _ _ _ HS.out).mono ?_); rintro e w1 ⟨r, rfl, hd, ho, hs⟩; have HO := Lib.hid (HO.out.trans ho); have HS := Lib.hid hs; clear ho hs hd)) | (go_at_call 63; ((with_reducible refine (pick3 B _ _ _ _ _ HS.out).mono ?_); rintro e w1 ⟨r, rfl, hd, ho, hs⟩; have HO := Lib.hid (HO.out.trans ho); have HS := Lib.hid hs; clear ho hs hd)))
  all_goals
    go_ret
    exact ⟨_, rfl, trivial, HO.out, HS.out⟩

def LfPost (w : World) (e : Ending) (w' : World) : Prop :=
  ∃ F ta tn tc xs r v0 v1, e = .returned (.tuple #[.agg #[.int .i64 F, .slice ta tn tc], .int .i64 r, .int .i64 v0, .int .i64 v1]) ∧ Ints w' ta tn xs ∧ tn ≤ tc ∧ tn ≤ 4096 ∧ Below w.heap.size w w'

theorem SvS.finLF {B X T : Nat} {a : Option Addr} {l c : Nat} {z : List Int} {F : Int} {ta : Option Addr} {tn tc : Nat} {xs : List Int} {w w1 : World} {r v0 v1 : Int} (h : Hid (SvS B X T a l c z F ta tn tc xs w w1)) (hn : tn ≤ tc) (hm : tn ≤ 4096) :
    LfPost w (.returned (.tuple #[.agg #[.int .i64 F, .slice ta tn tc], .int .i64 r, .int .i64 v0, .int .i64 v1])) w1 :=
  ⟨F, ta, tn, tc, xs, r, v0, v1, rfl, h.out.ints, hn, hm, by rw [h.out.eX]; exact h.out.low⟩

def TaPost (w : World) (e : Ending) (w' : World) : Prop :=
  ∃ F ta tn tc xs r v0 v1 v2, e = .returned (.tuple #[.agg #[.int .i64 F, .slice ta tn tc], .int .i64 r, .int .i64 v0, .int .i64 v1, .int .i64 v2]) ∧ Ints w' ta tn xs ∧ tn ≤ tc ∧ tn ≤ 4096 ∧ Below w.heap.size w w'

theorem SvS.finTA {B X T : Nat} {a : Option Addr} {l c : Nat} {z : List Int} {F : Int} {ta : Option Addr} {tn tc : Nat} {xs : List Int} {w w1 : World} {r v0 v1 v2 : Int} (h : Hid (SvS B X T a l c z F ta tn tc xs w w1)) (hn : tn ≤ tc) (hm : tn ≤ 4096) :
    TaPost w (.returned (.tuple #[.agg #[.int .i64 F, .slice ta tn tc], .int .i64 r, .int .i64 v0, .int .i64 v1, .int .i64 v2])) w1 :=
  ⟨F, ta, tn, tc, xs, r, v0, v1, v2, rfl, h.out.ints, hn, hm, by rw [h.out.eX]; exact h.out.low⟩

end Go.Proofs.YtlcmgihaelgclaaGreat
