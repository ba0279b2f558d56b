/- Two lives: the functions of the model. (Written by wip/gen/jmm.py.) -/
import Derived.Test.YtlcmgihaelgclaaGreatJmj
import Derived.Test.YtlcmgihaelgclaaGreatTabN
import Derived.Test.YtlcmgihaelgclaaGreatExpI
import Derived.Test.YtlcmgihaelgclaaGreatMakeL
namespace Go.Proofs.YtlcmgihaelgclaaGreat
open Go.ChangeShapes Go.WideShapes Go.ChangeAt Go.RowKit
set_option linter.unusedVariables false
set_option maxRecDepth 100000

theorem k2S {w : World} {f : Int} {sa : Value} {g : Int} {sb : Value} {W : World} (h : K2 w f sa g sb W) :
    W.cell? ⟨w.heap.size, 0, none⟩ = some (.int .i64 f) ∧ W.cell? ⟨w.heap.size, 1, none⟩ = some sa ∧ W.cell? ⟨w.heap.size + 1, 0, none⟩ = some (.int .i64 g) ∧ W.cell? ⟨w.heap.size + 1, 1, none⟩ = some sb ∧ Hid (K2 w f sa g sb W) := ⟨h.t0, h.t1, h.u0, h.u1, Lib.hid h⟩

theorem K2.drew {w : World} {f : Int} {sa : Value} {g : Int} {sb : Value} {W : World} (h : K2 w f sa g sb W) : K2 w f sa g sb W.drew := ⟨cell_drew h.t0, cell_drew h.t1, cell_drew h.u0, cell_drew h.u1, h.low.drew⟩

/-- a number of lives times one of others -/
theorem lv_mul {f : Int} {xs : List Int} {g : Int} {ys : List Int} (t : LTab f xs) (u : LTab g ys) (x y : Int) : 0 ≤ lvs f xs x * lvs g ys y ∧ lvs f xs x * lvs g ys y ≤ 1000000000000 := by
  obtain ⟨a0, a1⟩ := t.lvs_bd x
  obtain ⟨b0, b1⟩ := u.lvs_bd y
  have := Int.mul_nonneg a0 b0
  have := Int.mul_le_mul a1 b1 b0 (show (0 : Int) ≤ 1000000 by omega)
  omega

/-- the chance that at least one lives, times all pairs -/
def onE (A B C D : Int) : Int := A * B - (A - C) * (B - D)

theorem on_bd (A B C D : Int) (a0 : 0 ≤ A) (a1 : A ≤ 1000000) (b0 : 0 ≤ B) (b1 : B ≤ 1000000) (c0 : 0 ≤ C) (c1 : C ≤ A) (d0 : 0 ≤ D) (d1 : D ≤ B) : (0 ≤ (A - C) * (B - D) ∧ (A - C) * (B - D) ≤ A * B) ∧ 0 ≤ A * B ∧ A * B ≤ 1000000000000 := by
  have e1 : 0 ≤ (A - C) * (B - D) := Int.mul_nonneg (by omega) (by omega)
  have e2 : (A - C) * (B - D) ≤ A * B := Int.mul_le_mul (by omega) (by omega) (by omega) a0
  have e3 := Int.mul_le_mul a1 b1 b0 (show (0 : Int) ≤ 1000000 by omega)
  omega

/-- what JointTable hands over -/
def jtF (f : Int) (xs : List Int) (x g : Int) (ys : List Int) (y : Int) : Int := if twE f xs x g ys y true = 0 then x else 0

def jtY (f : Int) (xs : List Int) (x g : Int) (ys : List Int) (y : Int) : List Int := if twE f xs x g ys y true = 0 then jtL f xs x g ys y else []

theorem K2.rb {w : World} {f : Int} {sa : Value} {g : Int} {sb : Value} (T U V : TypeId) (vs : List Value) : K2 w f sa g sb (((w.alloc (.cells #[.int .i64 f, sa] T)).alloc (.cells #[.int .i64 g, sb] U)).alloc (.cells vs.toArray V)) ∧ Bx (((w.alloc (.cells #[.int .i64 f, sa] T)).alloc (.cells #[.int .i64 g, sb] U)).alloc (.cells vs.toArray V)) (w.heap.size + 2) vs := by
  have h1 := K2.new w f sa g sb T U
  have h2 := Bx.new ((w.alloc (.cells #[.int .i64 f, sa] T)).alloc (.cells #[.int .i64 g, sb] U)) vs V
  rw [World.size_alloc, World.size_alloc] at h2
  exact ⟨h1.on (box_b _ _), h2⟩

/-- chances in lowest terms -/
def boN (f : Int) (xs : List Int) (x g : Int) (ys : List Int) (y n : Int) : Int := if twE f xs x g ys y (inB n 0 150) = 0 then lvs f xs (x + n) * lvs g ys (y + n) / gcdI (lvs f xs (x + n) * lvs g ys (y + n)) (lvs f xs x * lvs g ys y) else 0

def boD (f : Int) (xs : List Int) (x g : Int) (ys : List Int) (y n : Int) : Int := if twE f xs x g ys y (inB n 0 150) = 0 then lvs f xs x * lvs g ys y / gcdI (lvs f xs (x + n) * lvs g ys (y + n)) (lvs f xs x * lvs g ys y) else 0

def onN (f : Int) (xs : List Int) (x g : Int) (ys : List Int) (y n : Int) : Int := if twE f xs x g ys y (inB n 0 150) = 0 then onE (lvs f xs x) (lvs g ys y) (lvs f xs (x + n)) (lvs g ys (y + n)) / gcdI (onE (lvs f xs x) (lvs g ys y) (lvs f xs (x + n)) (lvs g ys (y + n))) (lvs f xs x * lvs g ys y) else 0

def onD (f : Int) (xs : List Int) (x g : Int) (ys : List Int) (y n : Int) : Int := if twE f xs x g ys y (inB n 0 150) = 0 then lvs f xs x * lvs g ys y / gcdI (onE (lvs f xs x) (lvs g ys y) (lvs f xs (x + n)) (lvs g ys (y + n))) (lvs f xs x * lvs g ys y) else 0

def IIIPost8 (u v E : Int) (w : World) (e : Ending) (w' : World) : Prop := e = .returned (.tuple #[.int .i64 u, .int .i64 v, .int .i64 E]) ∧ Below w.heap.size w w'


end Go.Proofs.YtlcmgihaelgclaaGreat
