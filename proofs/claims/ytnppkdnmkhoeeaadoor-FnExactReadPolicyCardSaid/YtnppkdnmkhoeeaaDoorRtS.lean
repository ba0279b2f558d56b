/- ReadTable of the model: what the calls return. -/
import Derived.Test.YtnppkdnmkhoeeaaDoorSpl
import Derived.Test.YtnppkdnmkhoeeaaDoorMakeL
namespace Go.Proofs.YtnppkdnmkhoeeaaDoor
open Go.ChangeShapes Go.WideShapes Go.ChangeAt Go.RowKit
set_option linter.unusedVariables false
set_option maxRecDepth 100000

/-- what ReadTable hands over: its first age, its lives -/
def trF (l : List UInt8) : Int := if rtO l = true then rnF l else 0

def trY (l : List UInt8) : List Int := if rtO l = true then rnL l else []

def TrPost (l : List UInt8) (w : World) (e : Ending) (w' : World) : Prop :=
  ∃ a n c, e = .returned (.tuple #[.agg #[.int .i64 (trF l), .slice a n c], .bool (rtO l)]) ∧ n ≤ c ∧ TbR w.heap.size w' a n (trY l) ∧ Below w.heap.size w w'

theorem TrPost.bad {l : List UInt8} {w w' : World} (h : rtO l = false) (hb : Below w.heap.size w w') : TrPost l w (.returned (.tuple #[.agg #[.int .i64 0, .slice none 0 0], .bool false])) w' :=
  ⟨none, 0, 0, by simp [trF, h], Nat.le_refl _, ⟨by simp [trY, h], by omega, .inl ⟨rfl, rfl⟩⟩, hb⟩

theorem TrPost.good {l : List UInt8} {w w' : World} {g off n c : Nat} {F : Int} {Y : List Int} (h : rtO l = true) (hF : rnF l = F) (hY : rnL l = Y) (hn : Y.length = n) (hnc : n ≤ c) (hm : n ≤ 4096) (hg : w.heap.size ≤ g) (hl : g < w'.heap.size) (hr : RowI w' g off Y) (hb : Below w.heap.size w w') :
    TrPost l w (.returned (.tuple #[.agg #[.int .i64 F, .slice (some ⟨g, off, none⟩) n c], .bool true])) w' :=
  ⟨some ⟨g, off, none⟩, n, c, by simp [trF, h, hF], hnc, ⟨by simp [trY, h, hY, hn], hm, .inr ⟨g, off, rfl, hg, hl, by simpa [trY, h, hY] using hr⟩⟩, hb⟩

theorem RowI.drop {w : World} {g off : Nat} {x : Int} {ys : List Int} (h : RowI w g off (x :: ys)) : RowI w g (off + 1) ys :=
  ⟨fun i hi => by have := h.cell (i + 1) (by simpa using hi); rw [show off + 1 + i = off + (i + 1) by omega, this, getD_cons_succ], fun i hi => by have := h.free (i + 1) (by simpa using hi); rw [show off + 1 + i = off + (i + 1) by omega]; exact this⟩

/-- a block of two cells that had just been laid when a call was made: not frozen behind it -/
theorem box2f {w w1 : World} {x y : Value} {T : TypeId} (hb : Below (w.alloc (.cells #[x, y] T)).heap.size (w.alloc (.cells #[x, y] T)) w1) (i : Nat) (hi : i < 2) : w1.frozen? ⟨w.heap.size, i, none⟩ = false := by
  refine (hb.frozen (p := ⟨w.heap.size, i, none⟩) (by simp)).trans ?_
  match i, hi with
  | 0, _ => go_simp
  | 1, _ => go_simp

theorem keepf {w1 w2 : World} {p : Addr} (hb : Below w1.heap.size w1 w2) (hl : p.block < w1.heap.size) (h : w1.frozen? p = false) : w2.frozen? p = false := (hb.frozen hl).trans h

/-- the result's two cells are written -/
theorem TrPost.put {l : List UInt8} {w w' : World} {X : Nat} {e : Ending} {u v : Value} (h : TrPost l w e w') (hX : w.heap.size = X) (hne : ∀ F a n c o, e = .returned (.tuple #[.agg #[F, .slice a n c], o]) → ∀ x, a = some x → x.block ≠ X) :
    TrPost l w e ((w'.setCell ⟨X, 0, none⟩ u).setCell ⟨X, 1, none⟩ v) := by
  subst hX
  obtain ⟨a, n, c, rfl, hnc, ⟨h1, h2, h3⟩, hb⟩ := h
  have hn := hne _ _ _ _ _ rfl
  refine ⟨a, n, c, rfl, hnc, ⟨h1, h2, ?_⟩, (hb.setCell (p := ⟨w.heap.size, 0, none⟩) (Nat.le_refl _) _).setCell (p := ⟨w.heap.size, 1, none⟩) (Nat.le_refl _) _⟩
  rcases h3 with h3 | ⟨g, off, rfl, hg, hl, hr⟩
  · exact .inl h3
  · exact .inr ⟨g, off, rfl, hg, by simpa [World.setCell] using hl, hr.only (((Only.refl w.heap.size w').setCell (p := ⟨w.heap.size, 0, none⟩) rfl _).setCell (p := ⟨w.heap.size, 1, none⟩) rfl _) (hn _ rfl)⟩

end Go.Proofs.YtnppkdnmkhoeeaaDoor
