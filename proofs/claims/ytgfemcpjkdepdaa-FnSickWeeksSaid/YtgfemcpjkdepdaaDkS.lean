/- The model's draw of a sickness table. -/
import Derived.Test.YtgfemcpjkdepdaaDrS
import Derived.Test.YtgfemcpjkdepdaaTill
import Derived.Test.YtgfemcpjkdepdaaColL
import Derived.Deep.RegionHeld3
namespace Go.Proofs.Ytgfemcpjkdepdaa
open Go.ChangeShapes Go.WideShapes Go.ChangeAt Go.RowKit
set_option linter.unusedVariables false
set_option linter.unusedSimpArgs false
set_option maxRecDepth 100000

/-- a drawn sickness table, its weeks still to come: the result's cells X, its box T, its weeks so far -/
structure DK (B X T base : Nat) (a : Option Addr) (l c : Nat) (z : List Int) (q : Int) (v : Value) (L : List Int) (w W : World) : Prop where
  ready : Ready B a l c z W
  but : But B w W
  rb : Bx W X [.int .i64 0, .slice none 0 0]
  tb : Bx W T [.int .i64 q, v]
  own : OwnI base W v L
  ne : v.ownBlock ≠ some T
  eX : w.heap.size = X
  oB : B < X
  ob : X < base
  oT : base ≤ T

theorem DK.call {B X T base : Nat} {a : Option Addr} {l c : Nat} {z : List Int} {q : Int} {v : Value} {L : List Int} {w W W' : World} (h : DK B X T base a l c z q v L w W) (ho : But B W W') (hs : Ready B a l c z W') : DK B X T base a l c z q v L w W' := by
  have oB := h.oB
  have ob := h.ob
  have oT := h.oT
  exact ⟨hs, h.but.trans ho, h.rb.same (ho.block X h.rb.lt (by omega)), h.tb.same (ho.block T h.tb.lt (by omega)), h.own.but ho (by omega), h.ne, h.eX, oB, ob, oT⟩

/-- one more number of weeks -/
theorem DK.push {B X T base : Nat} {a : Option Addr} {l c : Nat} {z : List Int} {q : Int} {v : Value} {L L2 : List Int} {w W w5 : World} {o : Obj} {g n cc : Nat} (h : DK B X T base a l c z q v L w W) (hg : (W.alloc o).grownBy w5 v.ownBlock) (hown' : OwnI base w5 (.slice (some ⟨g, 0, none⟩) n cc) L2) (hw : (Value.slice (some ⟨g, 0, none⟩) n cc).ownBlock = v.ownBlock ∨ (Value.slice (some ⟨g, 0, none⟩) n cc).ownBlock = some (W.alloc o).heap.size) :
    DK B X T base a l c z q (.slice (some ⟨g, 0, none⟩) n cc) L2 w (w5.setCell ⟨T, 1, none⟩ (.slice (some ⟨g, 0, none⟩) n cc)) := by
  have oB := h.oB
  have ob := h.ob
  have oT := h.oT
  have hTl := h.tb.lt
  have hb := app_below h.own (by omega) hg
  have hgT : g ≠ T := by
    rcases hw with e | e
    · intro e2; subst e2; exact h.ne e.symm
    · simp [Value.ownBlock] at e; omega
  have far : ∀ k, k ≠ T → (w5.setCell ⟨T, 1, none⟩ (.slice (some ⟨g, 0, none⟩) n cc)).heap[k]? = w5.heap[k]? := fun k hk => far_setCell _ _ _ _ (by show k ≠ T; exact hk)
  have hl : Below X w5 (w5.setCell ⟨T, 1, none⟩ (.slice (some ⟨g, 0, none⟩) n cc)) := (Below.refl _ _).setCell (p := ⟨T, 1, none⟩) (by show X ≤ T; omega) _
  refine ⟨(h.ready.below hb (by omega)).below hl oB, (h.but.low (hb.mono (by rw [h.eX]; omega))).low (by rw [h.eX]; exact hl), (h.rb.same (hb.block X (by omega))).same (far X (by omega)), (Bx.grown h.tb hg (Ne.symm h.ne)).set1 _, ?_, by simp [Value.ownBlock]; exact hgT, h.eX, oB, ob, oT⟩
  obtain ⟨h1, h0 | ⟨g', cap, cur, hv, hgb, hcell, rr⟩⟩ := hown'
  · exact absurd h0.1 (by simp)
  · refine ⟨h1, .inr ⟨g', cap, cur, hv, hgb, ?_, rr⟩⟩
    simp only [Value.slice.injEq, Option.some.injEq, Addr.mk.injEq] at hv
    obtain ⟨⟨rfl, _⟩, _⟩ := hv
    rw [far_setCell _ _ _ _ hgT]
    exact hcell

theorem own_shk {base : Nat} {w : World} {v : Value} {ys : List Int} (h : OwnI base w v ys) (hl : 0 < ys.length) : ∃ g n c, v = .slice (some ⟨g, 0, none⟩) n c ∧ base ≤ g ∧ n = ys.length ∧ n ≤ c := by
  obtain ⟨_, h0 | ⟨g, cap, cur, hv, hb, _, hn, _⟩⟩ := h
  · omega
  · exact ⟨g, _, cap, hv, hb, rfl, hn⟩

/-- all weeks are there -/
theorem DK.drs {B X T base : Nat} {a : Option Addr} {l c : Nat} {z : List Int} {q : Int} {g n cc : Nat} {L : List Int} {w W : World} (h : DK B X T base a l c z q (.slice (some ⟨g, 0, none⟩) n cc) L w W) (hn : n = L.length) (hl : 0 < n) (hg : base ≤ g) : DrS B X T g n cc a l c z q w W := by
  subst hn
  have ob := h.ob
  have oT := h.oT
  have hr := h.own.row
  exact ⟨h.ready, h.but, h.tb.two.1, h.tb.two.2, h.tb.free 0, h.rb.two.1, h.rb.two.2, h.rb.free 0, h.rb.free 1, ⟨L, rfl, hr⟩, h.eX, h.oB, by omega, by omega, fun e => by have := h.ne; simp [Value.ownBlock] at this; exact this e, hr.lt hl⟩

/-- a drawn sickness table: few weeks -/
def DrawnK (B : Nat) (a : Option Addr) (l c : Nat) (z : List Int) (w : World) (e : Ending) (w' : World) : Prop :=
  ∃ F ta tn tc xs, e = .returned (.agg #[.int .i64 F, .slice ta tn tc]) ∧ Ints w' ta tn xs ∧ tn ≤ tc ∧ tn ≤ 30 ∧ -1 ≤ F ∧ F ≤ 101 ∧ (∀ x, ta = some x → w.heap.size ≤ x.block ∧ x.block < w'.heap.size) ∧ But B w w' ∧ Ready B a l c z w'

theorem DrawnT.few {B : Nat} {a : Option Addr} {l c : Nat} {z : List Int} {w w' : World} {F : Int} {g n cc : Nat} (h : DrawnT B a l c z w (.returned (.agg #[.int .i64 F, .slice (some ⟨g, 0, none⟩) n cc])) w') (hn : n ≤ 30) (hg : g < w'.heap.size) : DrawnK B a l c z w (.returned (.agg #[.int .i64 F, .slice (some ⟨g, 0, none⟩) n cc])) w' := by
  obtain ⟨F', ta, tn, tc, xs, he, h1, h2, h3, h4, h5, h6, h7, h8⟩ := h
  simp only [Ending.returned.injEq, Value.agg.injEq, Array.mk.injEq, List.cons.injEq, Value.int.injEq, Value.slice.injEq, and_true, true_and] at he
  obtain ⟨rfl, rfl, rfl, rfl⟩ := he
  exact ⟨_, _, _, _, xs, rfl, h1, h2, hn, h4, h5, fun x hx => ⟨h6 x hx, by cases hx; exact hg⟩, h7, h8⟩

/-- a drawn table without weeks -/
theorem DrS.noW {B X T g n cc : Nat} {a : Option Addr} {l c : Nat} {z : List Int} {F : Int} {w W : World} (h : DrS B X T g n cc a l c z F w W) (f0 : -1 ≤ F) (f1 : F ≤ 101) :
    DrawnK B a l c z w (.returned (.agg #[.int .i64 F, .slice none 0 0])) (((W.setCell ⟨T, 1, none⟩ (.slice none 0 0)).setCell ⟨X, 0, none⟩ (.int .i64 F)).setCell ⟨X, 1, none⟩ (.slice none 0 0)) ∧
    (((W.setCell ⟨T, 1, none⟩ (.slice none 0 0)).setCell ⟨X, 0, none⟩ (.int .i64 F)).setCell ⟨X, 1, none⟩ (.slice none 0 0)).cell? ⟨X, 0, none⟩ = some (.int .i64 F) ∧
    (((W.setCell ⟨T, 1, none⟩ (.slice none 0 0)).setCell ⟨X, 0, none⟩ (.int .i64 F)).setCell ⟨X, 1, none⟩ (.slice none 0 0)).cell? ⟨X, 1, none⟩ = some (.slice none 0 0) := by
  have oB := h.oB
  have oT := h.oT
  have hb : Below X W (((W.setCell ⟨T, 1, none⟩ (.slice none 0 0)).setCell ⟨X, 0, none⟩ (.int .i64 F)).setCell ⟨X, 1, none⟩ (.slice none 0 0)) := (((Below.refl _ _).setCell (p := ⟨T, 1, none⟩) (by show X ≤ T; omega) _).setCell (p := ⟨X, 0, none⟩) (Nat.le_refl _) _).setCell (p := ⟨X, 1, none⟩) (Nat.le_refl _) _
  have n1 : (⟨X, 0, none⟩ : Addr) ≠ ⟨X, 1, none⟩ := fun e => by injection e; omega
  have nT : ∀ j, (⟨X, j, none⟩ : Addr) ≠ ⟨T, 1, none⟩ := fun j e => by injection e; omega
  have r0 : (W.setCell ⟨T, 1, none⟩ (.slice none 0 0)).cell? ⟨X, 0, none⟩ = some (.int .i64 0) := (far_set (nT 0) _).trans h.r0
  have r1 : (W.setCell ⟨T, 1, none⟩ (.slice none 0 0)).cell? ⟨X, 1, none⟩ = some (.slice none 0 0) := (far_set (nT 1) _).trans h.r1
  refine ⟨⟨F, none, 0, 0, [], rfl, ⟨rfl, by omega, .inl rfl⟩, Nat.le_refl _, by omega, f0, f1, fun x hx => (by cases hx), h.but.low (by rw [h.eX]; exact hb), h.ready.below hb oB⟩, ?_, ?_⟩
  · rw [far_set n1]; exact World.cell?_setCell_same' _ _ _ (by rw [r0]; rfl)
  · exact World.cell?_setCell_same' _ _ _ (by rw [far_set n1.symm, r1]; rfl)

end Go.Proofs.Ytgfemcpjkdepdaa
