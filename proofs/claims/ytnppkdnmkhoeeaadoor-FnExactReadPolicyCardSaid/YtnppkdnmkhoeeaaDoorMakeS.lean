/- MakeTable of the model: what the calls return. -/
import Derived.Test.YtnppkdnmkhoeeaaDoorMakeI
import Derived.Deep.AppendLies
namespace Go.Proofs.YtnppkdnmkhoeeaaDoor
open Go.ChangeShapes Go.WideShapes Go.ChangeAt Go.RowKit
set_option linter.unusedVariables false
set_option maxRecDepth 100000

/-- the table that the model is making: its box, its list -/
structure Mkg (X : Nat) (f : Int) (w : World) (v : Value) (ys : List Int) (wr : World) : Prop where
  own : OwnI (X + 1) wr v ys
  ne : v.ownBlock ≠ some (X + 1 + 1)
  c0 : wr.cell? ⟨X + 1 + 1, 0, none⟩ = some (.int .i64 f)
  c1 : wr.cell? ⟨X + 1 + 1, 1, none⟩ = some v
  g1 : wr.frozen? ⟨X + 1 + 1, 1, none⟩ = false
  r0 : wr.cell? ⟨X, 0, none⟩ = some (.int .i64 0)
  r1 : wr.cell? ⟨X, 1, none⟩ = some (.slice none 0 0)
  h0 : wr.frozen? ⟨X, 0, none⟩ = false
  h1 : wr.frozen? ⟨X, 1, none⟩ = false
  low : Below X w wr
  size : X + 1 + 1 < wr.heap.size

/-- behind an append onto its list, and the store into its box -/
theorem Mkg.app {X : Nat} {f : Int} {w wr w5 : World} {v : Value} {g n c : Nat} {ys : List Int} {y : Int} (H : Mkg X f w v ys wr) (hX : w.heap.size = X)
    (hown : OwnI (X + 1) w5 (.slice (some ⟨g, 0, none⟩) n c) (ys ++ [y])) (hg : (wr.alloc (.cells #[.int .i64 y] 2)).grownBy w5 v.ownBlock)
    (hw : (Value.slice (some ⟨g, 0, none⟩) n c).ownBlock = v.ownBlock ∨ (Value.slice (some ⟨g, 0, none⟩) n c).ownBlock = some (wr.heap.size + 1)) :
    g ≠ X + 1 + 1 ∧ X < g ∧ w5.frozen? ⟨X + 1 + 1, 1, none⟩ = false ∧ w5.cell? ⟨X + 1 + 1, 0, none⟩ = some (.int .i64 f) ∧ w5.cell? ⟨X + 1 + 1, 1, none⟩ = some v ∧ Mkg X f w (.slice (some ⟨g, 0, none⟩) n c) (ys ++ [y]) (w5.setCell ⟨X + 1 + 1, 1, none⟩ (.slice (some ⟨g, 0, none⟩) n c)) := by
  have hz := H.size
  have hgz := hg.size
  have hbX : ∀ k, v.ownBlock = some k → X + 1 ≤ k := fun k hk => (H.own.lt k hk).1
  have hne0 : some X ≠ v.ownBlock := fun e => by have := hbX _ e.symm; omega
  have far : ∀ (b i : Nat), b < wr.heap.size → some b ≠ v.ownBlock → w5.cell? ⟨b, i, none⟩ = wr.cell? ⟨b, i, none⟩ := fun b i hb hn =>
    (hg.cell_far ⟨b, i, none⟩ (by simp; omega) hn).trans (World.cell?_alloc_lt _ _ _ hb)
  have farf : ∀ (b i : Nat), b < wr.heap.size → some b ≠ v.ownBlock → w5.frozen? ⟨b, i, none⟩ = wr.frozen? ⟨b, i, none⟩ := fun b i hb hn =>
    (hg.frozen_far ⟨b, i, none⟩ (by simp; omega) hn).trans ((Below.refl wr.heap.size wr).alloc (Nat.le_refl _) _ |>.frozen (p := ⟨b, i, none⟩) hb)
  have hgne : g ≠ X + 1 + 1 := by
    rcases hw with h | h
    · intro e; subst e; exact H.ne h.symm
    · simp [Value.ownBlock] at h; omega
  have hgX : X < g := by
    obtain ⟨_, h0 | ⟨g', cap, cur, hv, hgb, _⟩⟩ := hown
    · exact absurd h0.1 (by simp)
    · simp only [Value.slice.injEq, Option.some.injEq, Addr.mk.injEq] at hv
      obtain ⟨⟨rfl, _⟩, _⟩ := hv
      omega
  have k1 := (farf (X + 1 + 1) 1 (by omega) (Ne.symm H.ne)).trans H.g1
  have k2 := (far (X + 1 + 1) 0 (by omega) (Ne.symm H.ne)).trans H.c0
  have k3 := (far (X + 1 + 1) 1 (by omega) (Ne.symm H.ne)).trans H.c1
  refine ⟨hgne, hgX, k1, k2, k3, ?_⟩
  refine ⟨?_, ?_, ?_, ?_, ?_, ?_, ?_, ?_, ?_, ?_, ?_⟩
  · have hh := hown
    obtain ⟨h1, h0 | ⟨g', cap, cur, hv, hgb, hcell, r⟩⟩ := hown
    · exact absurd h0.1 (by simp)
    · refine ⟨h1, .inr ⟨g', cap, cur, hv, hgb, ?_, r⟩⟩
      simp only [Value.slice.injEq, Option.some.injEq, Addr.mk.injEq] at hv
      obtain ⟨⟨rfl, _⟩, _⟩ := hv
      rw [Below.heap_setCell _ _ _ _ (by show _ ≠ X + 1 + 1; omega)]
      exact hcell
  · simp [Value.ownBlock]; omega
  · rw [World.cell?_setCell_other _ _ _ _ (by simp)]; exact k2
  · exact World.cell?_setCell_same' _ _ _ (by rw [k3]; rfl)
  · rw [World.frozen?_setCell]; exact k1
  · rw [World.cell?_setCell_other _ _ _ _ (by simp)]; exact (far X 0 (by omega) hne0).trans H.r0
  · rw [World.cell?_setCell_other _ _ _ _ (by simp)]; exact (far X 1 (by omega) hne0).trans H.r1
  · rw [World.frozen?_setCell]; exact (farf X 0 (by omega) hne0).trans H.h0
  · rw [World.frozen?_setCell]; exact (farf X 1 (by omega) hne0).trans H.h1
  · exact ((H.low.alloc (by omega) _).grown hg (by simp; omega) (fun k hk => by have := hbX k hk; omega)).setCell (p := ⟨X + 1 + 1, 1, none⟩) (by show X ≤ X + 1 + 1; omega) _
  · simp [World.setCell] at hgz ⊢; omega

theorem own_shape {base : Nat} {w : World} {v : Value} {ys : List Int} (h : OwnI base w v ys) (hl : 0 < ys.length) : ∃ g n c, v = .slice (some ⟨g, 0, none⟩) n c := by
  obtain ⟨_, h0 | ⟨g, cap, cur, hv, _⟩⟩ := h
  · omega
  · exact ⟨g, _, cap, hv⟩

/-- it is handed over -/
theorem Mkg.post {X : Nat} {f L : Int} {rs : List Int} {w wr : World} {g n c : Nat} {ys : List Int} (H : Mkg X f w (.slice (some ⟨g, 0, none⟩) n c) ys wr) (hX : w.heap.size = X) (hm : mkB f L rs = true) (he : ys = mkL L rs) :
    MkPost f L rs w (.returned (.tuple #[.agg #[.int .i64 f, .slice (some ⟨g, 0, none⟩) n c], .int .i64 0])) ((wr.setCell ⟨X, 0, none⟩ (.int .i64 f)).setCell ⟨X, 1, none⟩ (.slice (some ⟨g, 0, none⟩) n c)) := by
  subst he
  have hlc : n = (mkL L rs).length ∧ (mkL L rs).length ≤ c ∧ X + 1 ≤ g := by
    obtain ⟨h1, h0 | ⟨g', cap, cur, hv, hgb, _, hn, _⟩⟩ := H.own
    · exact absurd h0.1 (by simp)
    · simp only [Value.slice.injEq, Option.some.injEq, Addr.mk.injEq] at hv
      obtain ⟨⟨rfl, _⟩, hn2, rfl⟩ := hv
      exact ⟨hn2, hn, hgb⟩
  obtain ⟨rfl, hlc⟩ := hlc
  refine .inl ⟨hm, _, rfl, g, c, rfl, hlc.1, by omega, ?_, ?_⟩
  · exact H.own.row.only (((Only.refl X wr).setCell (p := ⟨X, 0, none⟩) rfl _).setCell (p := ⟨X, 1, none⟩) rfl _) (by omega)
  · rw [hX]; exact (H.low.setCell (p := ⟨X, 0, none⟩) (Nat.le_refl _) _).setCell (p := ⟨X, 1, none⟩) (Nat.le_refl _) _

end Go.Proofs.YtnppkdnmkhoeeaaDoor
