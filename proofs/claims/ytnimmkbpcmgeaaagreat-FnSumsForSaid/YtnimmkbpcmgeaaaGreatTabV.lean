/- The model's draw of what SurvivalOf takes. -/
import Derived.Test.YtnimmkbpcmgeaaaGreatTabU
namespace Go.Proofs.YtnimmkbpcmgeaaaGreat
open Go.ChangeShapes Go.WideShapes Go.ChangeAt Go.RowKit
set_option linter.unusedVariables false

/-- in the midst of it: X the result's cells, B the source, T the table's box -/
structure SvS (B X T : Nat) (a : Option Addr) (l c : Nat) (z : List Int) (F : Int) (ta : Option Addr) (tn tc : Nat) (xs : List Int) (w w' : World) : Prop where
  ready : Ready B a l c z w'
  low : Below X w w'
  c0 : w'.cell? ⟨T, 0, none⟩ = some (.int .i64 F)
  c1 : w'.cell? ⟨T, 1, none⟩ = some (.slice ta tn tc)
  r0 : ∃ v, w'.cell? ⟨X, 0, none⟩ = some v
  r1 : ∃ v, w'.cell? ⟨X, 1, none⟩ = some v
  h0 : w'.frozen? ⟨X, 0, none⟩ = false
  h1 : w'.frozen? ⟨X, 1, none⟩ = false
  ints : Ints w' ta tn xs
  far : ∀ x, ta = some x → B < x.block
  eX : w.heap.size = X
  oB : X < B
  oT : B < T
  ap : Apart a z X

theorem SvS.call {B X T : Nat} {a : Option Addr} {l c : Nat} {z : List Int} {F : Int} {ta : Option Addr} {tn tc : Nat} {xs : List Int} {w w1 w2 : World} (h : SvS B X T a l c z F ta tn tc xs w w1) (ho : But B w1 w2) (hs : Ready B a l c z w2) : SvS B X T a l c z F ta tn tc xs w w2 := by
  have oB := h.oB
  have oT := h.oT
  obtain ⟨u0, g0⟩ := h.r0
  obtain ⟨u1, g1⟩ := h.r1
  have hX : X < w1.heap.size := block_lt g0
  exact ⟨hs, h.low.trans (ho.below (by omega) (by omega)), (ho.cell (p := ⟨T, 0, none⟩) (block_lt h.c0) (by show T ≠ B; omega)).trans h.c0, (ho.cell (p := ⟨T, 1, none⟩) (block_lt h.c1) (by show T ≠ B; omega)).trans h.c1,
    ⟨u0, (ho.cell (p := ⟨X, 0, none⟩) hX (by show X ≠ B; omega)).trans g0⟩, ⟨u1, (ho.cell (p := ⟨X, 1, none⟩) hX (by show X ≠ B; omega)).trans g1⟩, (ho.frozen (p := ⟨X, 0, none⟩) hX (by show X ≠ B; omega)).trans h.h0, (ho.frozen (p := ⟨X, 1, none⟩) hX (by show X ≠ B; omega)).trans h.h1,
    h.ints.butT ho (fun x hx => by have := h.far x hx; omega), h.far, h.eX, oB, oT, h.ap⟩

theorem SvS.alloc {B X T : Nat} {a : Option Addr} {l c : Nat} {z : List Int} {F : Int} {ta : Option Addr} {tn tc : Nat} {xs : List Int} {w w1 : World} (h : SvS B X T a l c z F ta tn tc xs w w1) (o : Obj) : SvS B X T a l c z F ta tn tc xs w (w1.alloc o) := h.call (But.alloc _) (h.ready.alloc _)

theorem SvS.drew {B X T : Nat} {a : Option Addr} {l c : Nat} {z : List Int} {F : Int} {ta : Option Addr} {tn tc : Nat} {xs : List Int} {w w1 : World} (h : SvS B X T a l c z F ta tn tc xs w w1) : SvS B X T a l c z F ta tn tc xs w w1.drew := h.call (But.refl _ _).drew h.ready.drew

/-- the result is written -/
theorem SvS.put {B X T : Nat} {a : Option Addr} {l c : Nat} {z : List Int} {F : Int} {ta : Option Addr} {tn tc : Nat} {xs : List Int} {w w1 : World} (h : SvS B X T a l c z F ta tn tc xs w w1) (u v : Value) : SvS B X T a l c z F ta tn tc xs w ((w1.setCell ⟨X, 0, none⟩ u).setCell ⟨X, 1, none⟩ v) ∧
    ((w1.setCell ⟨X, 0, none⟩ u).setCell ⟨X, 1, none⟩ v).cell? ⟨X, 0, none⟩ = some u ∧ ((w1.setCell ⟨X, 0, none⟩ u).setCell ⟨X, 1, none⟩ v).cell? ⟨X, 1, none⟩ = some v := by
  have oB := h.oB
  have oT := h.oT
  obtain ⟨u0, g0⟩ := h.r0
  obtain ⟨u1, g1⟩ := h.r1
  have n1 : (⟨X, 0, none⟩ : Addr) ≠ ⟨X, 1, none⟩ := fun e => by injection e; omega
  have e0 : ((w1.setCell ⟨X, 0, none⟩ u).setCell ⟨X, 1, none⟩ v).cell? ⟨X, 0, none⟩ = some u := by rw [far_set n1]; exact World.cell?_setCell_same' _ _ _ (by rw [g0]; rfl)
  have e1 : ((w1.setCell ⟨X, 0, none⟩ u).setCell ⟨X, 1, none⟩ v).cell? ⟨X, 1, none⟩ = some v := World.cell?_setCell_same' _ _ _ (by rw [far_set n1.symm, g1]; rfl)
  have ho : Only X w1 ((w1.setCell ⟨X, 0, none⟩ u).setCell ⟨X, 1, none⟩ v) := ((Only.refl _ _).setCell (p := ⟨X, 0, none⟩) rfl _).setCell (p := ⟨X, 1, none⟩) rfl _
  refine ⟨⟨?_, h.low.trans (ho.below (Nat.le_refl _)), (ho.cell (p := ⟨T, 0, none⟩) (by show T ≠ X; omega)).trans h.c0, (ho.cell (p := ⟨T, 1, none⟩) (by show T ≠ X; omega)).trans h.c1, ⟨_, e0⟩, ⟨_, e1⟩, ?_, ?_, h.ints.onlyT ho (fun x hx => by have := h.far x hx; omega), h.far, h.eX, oB, oT, h.ap⟩, e0, e1⟩
  · obtain ⟨⟨t, x, S⟩, r, p⟩ := h.ready
    have hne : B ≠ X := by omega
    exact ⟨⟨t, x, by rw [ho.size]; exact S.here, (ho.cell (p := ⟨B, 0, none⟩) hne).trans S.code, (ho.cell (p := ⟨B, 1, none⟩) hne).trans S.att, (ho.cell (p := ⟨B, 2, none⟩) hne).trans S.seed,
      (ho.frozen (p := ⟨B, 0, none⟩) hne).trans S.free0, (ho.frozen (p := ⟨B, 1, none⟩) hne).trans S.free1, (ho.frozen (p := ⟨B, 2, none⟩) hne).trans S.free2, S.t0, S.tl, S.x0, S.xl⟩, r.below (ho.below (Nat.le_refl X)) h.ap, p⟩
  · rw [World.frozen?_setCell, World.frozen?_setCell]; exact h.h0
  · rw [World.frozen?_setCell, World.frozen?_setCell]; exact h.h1

theorem SvS.three {B X T : Nat} {a : Option Addr} {l c : Nat} {z : List Int} {F : Int} {ta : Option Addr} {tn tc : Nat} {xs : List Int} {w w1 : World} (h : Hid (SvS B X T a l c z F ta tn tc xs w w1)) : w1.cell? ⟨T, 0, none⟩ = some (.int .i64 F) ∧ w1.cell? ⟨T, 1, none⟩ = some (.slice ta tn tc) ∧ Hid (SvS B X T a l c z F ta tn tc xs w w1) := ⟨h.out.c0, h.out.c1, h⟩

def SvPost (w : World) (e : Ending) (w' : World) : Prop :=
  ∃ F ta tn tc xs x y, e = .returned (.tuple #[.agg #[.int .i64 F, .slice ta tn tc], .int .i64 x, .int .i64 y]) ∧ Ints w' ta tn xs ∧ tn ≤ tc ∧ tn ≤ 4096 ∧ Below w.heap.size w w'

theorem SvS.fin {B X T : Nat} {a : Option Addr} {l c : Nat} {z : List Int} {F : Int} {ta : Option Addr} {tn tc : Nat} {xs : List Int} {w w1 : World} {x y : Int} (h : Hid (SvS B X T a l c z F ta tn tc xs w w1)) (hn : tn ≤ tc) (hm : tn ≤ 4096) :
    SvPost w (.returned (.tuple #[.agg #[.int .i64 F, .slice ta tn tc], .int .i64 x, .int .i64 y])) w1 :=
  ⟨F, ta, tn, tc, xs, x, y, rfl, h.out.ints, hn, hm, by rw [h.out.eX]; exact h.out.low⟩

end Go.Proofs.YtnimmkbpcmgeaaaGreat
