/- Draws of tables: a drawn table in the midst of its draw; lists of a draw; is the input too great? -/
import Derived.Test.YtmnddplkmljeaaaTabC
import Derived.Test.YtmnddplkmljeaaaDrawS
namespace Go.Proofs.Ytmnddplkmljeaaa
open Go.ChangeShapes Go.WideShapes Go.ChangeAt Go.RowKit
set_option linter.unusedVariables false

def zeroT (l : Nat) : Obj := .cells ((List.replicate l (0 : Int)).map (Value.int .i64)).toArray 2

theorem make_zT (l : Nat) (n : Int) (h : n = l) (hl : l ≤ 1048576) (w : World) :
    (Instr.makeSlice 24 (.int .i64 n) (.int .i64 n)).run Try.prog w = .ok (.slice (some ⟨w.heap.size, 0, none⟩) l l) (w.alloc (zeroT l)) := by
  subst h; exact make_ints l hl w

theorem Blk.newT (w : World) (l : Nat) : Blk (w.alloc (zeroT l)) w.heap.size (List.replicate l 0) := Blk.new w (List.replicate l 0)

theorem Ints.butT {w w' : World} {a : Option Addr} {l B : Nat} {xs : List Int} (h : Ints w a l xs) (ho : But B w w') (hne : ∀ x, a = some x → x.block ≠ B) : Ints w' a l xs := by
  have hlt := h.lt
  obtain ⟨h1, h2, h3⟩ := h
  refine ⟨h1, h2, ?_⟩
  rcases h3 with h0 | ⟨b, off, rfl, hc⟩
  · exact .inl h0
  · by_cases hl : l = 0
    · exact .inl hl
    · exact .inr ⟨b, off, rfl, fun i hi => by rw [ho.cell (p := ⟨b, off + i, none⟩) (hlt ⟨b, off, none⟩ rfl (by omega)) (hne ⟨b, off, none⟩ rfl)]; exact hc i hi⟩

/-- its shape, what it reads as, and where it lies -/
theorem OwnI.intsT {base : Nat} {w : World} {v : Value} {xs : List Int} (h : OwnI base w v xs) (hm : xs.length ≤ 4096) : ∃ a c, v = .slice a xs.length c ∧ Ints w a xs.length xs ∧ ∀ x, a = some x → base ≤ x.block := by
  have hh := h
  obtain ⟨h0, ⟨rfl, hn⟩ | ⟨g, cap, cur, rfl, hg, hb, r⟩⟩ := h
  · rw [hn]
    exact ⟨none, 0, rfl, ⟨by simpa using hn, by omega, .inl rfl⟩, fun x hx => by cases hx⟩
  · refine ⟨_, cap, rfl, ⟨rfl, by omega, .inr ⟨g, 0, rfl, fun i hi => ?_⟩⟩, fun x hx => by cases hx; exact hg⟩
    rw [Nat.zero_add, hh.cellAt i (by omega)]
    simp [List.getD, hi]

theorem But.low {B : Nat} {w w1 w2 : World} (h : But B w w1) (k : Below w.heap.size w1 w2) : But B w w2 :=
  ⟨k.os.trans h.os, k.tape.trans h.tape, k.output.trans h.output, Nat.le_trans h.size k.size, fun i hi hb => (k.block i hi).trans (h.block i hi hb)⟩

theorem bigT_any (a : Option Addr) (l c : Nat) (w : World) : Calls Try.prog 15 #[.slice a l c] w fun e w' => e = .returned (.bool (decide (4096 < (l : Int)))) ∧ w = w' := by
  go_enter Try.func15, Try.ntmps15
  go_wp2
  go_ret
  exact ⟨rfl, rfl⟩

/-- a drawn table, in the midst of its draw: its box T, its lives' block g, the result's cells X -/
structure DrS (B X T g n cc : Nat) (a : Option Addr) (l c : Nat) (z : List Int) (F : Int) (w w' : World) : Prop where
  ready : Ready B a l c z w'
  but : But B w w'
  c0 : w'.cell? ⟨T, 0, none⟩ = some (.int .i64 F)
  c1 : w'.cell? ⟨T, 1, none⟩ = some (.slice (some ⟨g, 0, none⟩) n cc)
  f0 : w'.frozen? ⟨T, 0, none⟩ = false
  r0 : w'.cell? ⟨X, 0, none⟩ = some (.int .i64 0)
  r1 : w'.cell? ⟨X, 1, none⟩ = some (.slice none 0 0)
  h0 : w'.frozen? ⟨X, 0, none⟩ = false
  h1 : w'.frozen? ⟨X, 1, none⟩ = false
  row : ∃ ys : List Int, ys.length = n ∧ RowI w' g 0 ys
  eX : w.heap.size = X
  oB : B < X
  og : X < g
  oT : X < T
  ne : g ≠ T
  gl : g < w'.heap.size

theorem RowI.but {w w1 : World} {g off B : Nat} {ys : List Int} (h : RowI w g off ys) (hb : But B w w1) (hg : g < w.heap.size) (hne : g ≠ B) : RowI w1 g off ys :=
  ⟨fun i hi => (hb.cell (p := ⟨g, off + i, none⟩) hg hne).trans (h.cell i hi), fun i hi => (hb.frozen (p := ⟨g, off + i, none⟩) hg hne).trans (h.free i hi)⟩

theorem DrS.call {B X T g n cc : Nat} {a : Option Addr} {l c : Nat} {z : List Int} {F : Int} {w w1 w2 : World} (h : DrS B X T g n cc a l c z F w w1) (ho : But B w1 w2) (hs : Ready B a l c z w2) : DrS B X T g n cc a l c z F w w2 := by
  have hT : T < w1.heap.size := block_lt h.c0
  have hX : X < w1.heap.size := block_lt h.r0
  have oB := h.oB
  have oT := h.oT
  have og := h.og
  obtain ⟨ys, hl, hr⟩ := h.row
  exact ⟨hs, h.but.trans ho, (ho.cell (p := ⟨T, 0, none⟩) hT (by show T ≠ B; omega)).trans h.c0, (ho.cell (p := ⟨T, 1, none⟩) hT (by show T ≠ B; omega)).trans h.c1, (ho.frozen (p := ⟨T, 0, none⟩) hT (by show T ≠ B; omega)).trans h.f0,
    (ho.cell (p := ⟨X, 0, none⟩) hX (by show X ≠ B; omega)).trans h.r0, (ho.cell (p := ⟨X, 1, none⟩) hX (by show X ≠ B; omega)).trans h.r1, (ho.frozen (p := ⟨X, 0, none⟩) hX (by show X ≠ B; omega)).trans h.h0, (ho.frozen (p := ⟨X, 1, none⟩) hX (by show X ≠ B; omega)).trans h.h1,
    ⟨ys, hl, hr.but ho h.gl (by omega)⟩, h.eX, h.oB, h.og, h.oT, h.ne, Nat.lt_of_lt_of_le h.gl ho.size⟩

theorem DrS.alloc {B X T g n cc : Nat} {a : Option Addr} {l c : Nat} {z : List Int} {F : Int} {w w1 : World} (h : DrS B X T g n cc a l c z F w w1) (o : Obj) : DrS B X T g n cc a l c z F w (w1.alloc o) := h.call (But.alloc _) (h.ready.alloc _)

theorem DrS.drew {B X T g n cc : Nat} {a : Option Addr} {l c : Nat} {z : List Int} {F : Int} {w w1 : World} (h : DrS B X T g n cc a l c z F w w1) : DrS B X T g n cc a l c z F w w1.drew := h.call (But.refl _ _).drew h.ready.drew

theorem far_set {w : World} {p q : Addr} (h : p ≠ q) (v : Value) : (w.setCell q v).cell? p = w.cell? p := World.cell?_setCell_other _ _ _ _ (by first | exact h | exact h.symm)

theorem DrS.put {B X T g n cc : Nat} {a : Option Addr} {l c : Nat} {z : List Int} {F : Int} {w w1 : World} (h : DrS B X T g n cc a l c z F w w1) (k : Nat) (v : Int) : DrS B X T g n cc a l c z F w (w1.setCell ⟨g, k, none⟩ (.int .i64 v)) := by
  have oB := h.oB
  have oT := h.oT
  have og := h.og
  have ne := h.ne
  have hX : X < w1.heap.size := block_lt h.r0
  have hb : Below X w1 (w1.setCell ⟨g, k, none⟩ (.int .i64 v)) := (Below.refl _ _).setCell (p := ⟨g, k, none⟩) (by show X ≤ g; omega) _
  obtain ⟨ys, hl, hr⟩ := h.row
  have hr2 := hr.set k v
  rw [Nat.zero_add] at hr2
  have nT : ∀ j, (⟨T, j, none⟩ : Addr) ≠ ⟨g, k, none⟩ := fun j e => by injection e; omega
  have nX : ∀ j, (⟨X, j, none⟩ : Addr) ≠ ⟨g, k, none⟩ := fun j e => by injection e; omega
  refine ⟨h.ready.below hb oB, h.but.low (by rw [h.eX]; exact hb), (far_set (nT 0) _).trans h.c0, (far_set (nT 1) _).trans h.c1, ?_, (far_set (nX 0) _).trans h.r0, (far_set (nX 1) _).trans h.r1, ?_, ?_, ⟨_, by simpa using hl, hr2⟩, h.eX, oB, og, oT, ne, by simpa [World.setCell] using h.gl⟩
  · rw [World.frozen?_setCell]; exact h.f0
  · rw [World.frozen?_setCell]; exact h.h0
  · rw [World.frozen?_setCell]; exact h.h1

/-- its first age is overwritten -/
theorem DrS.first {B X T g n cc : Nat} {a : Option Addr} {l c : Nat} {z : List Int} {F : Int} {w w1 : World} (h : DrS B X T g n cc a l c z F w w1) (v : Int) : DrS B X T g n cc a l c z v w (w1.setCell ⟨T, 0, none⟩ (.int .i64 v)) := by
  have oB := h.oB
  have oT := h.oT
  have og := h.og
  have ne := h.ne
  have hb : Below X w1 (w1.setCell ⟨T, 0, none⟩ (.int .i64 v)) := (Below.refl _ _).setCell (p := ⟨T, 0, none⟩) (by show X ≤ T; omega) _
  have ho : Only T w1 (w1.setCell ⟨T, 0, none⟩ (.int .i64 v)) := (Only.refl _ _).setCell (p := ⟨T, 0, none⟩) rfl _
  obtain ⟨ys, hl, hr⟩ := h.row
  have nT : (⟨T, 1, none⟩ : Addr) ≠ ⟨T, 0, none⟩ := fun e => by injection e; omega
  have nX : ∀ j, (⟨X, j, none⟩ : Addr) ≠ ⟨T, 0, none⟩ := fun j e => by injection e; omega
  refine ⟨h.ready.below hb oB, h.but.low (by rw [h.eX]; exact hb), World.cell?_setCell_same' _ _ _ (by rw [h.c0]; rfl), (far_set nT _).trans h.c1, ?_, (far_set (nX 0) _).trans h.r0, (far_set (nX 1) _).trans h.r1, ?_, ?_, ⟨_, hl, hr.only ho ne⟩, h.eX, oB, og, oT, ne, by simpa [World.setCell] using h.gl⟩
  · rw [World.frozen?_setCell]; exact h.f0
  · rw [World.frozen?_setCell]; exact h.h0
  · rw [World.frozen?_setCell]; exact h.h1

def DrawnT (B : Nat) (a : Option Addr) (l c : Nat) (z : List Int) (w : World) (e : Ending) (w' : World) : Prop :=
  ∃ F ta tn tc xs, e = .returned (.agg #[.int .i64 F, .slice ta tn tc]) ∧ Ints w' ta tn xs ∧ tn ≤ tc ∧ tn ≤ 4096 ∧ -1 ≤ F ∧ F ≤ 101 ∧ (∀ x, ta = some x → w.heap.size ≤ x.block) ∧ But B w w' ∧ Ready B a l c z w'

theorem DrS.post {B X T g n cc : Nat} {a : Option Addr} {l c : Nat} {z : List Int} {F : Int} {w w1 : World} (h : DrS B X T g n cc a l c z F w w1) (hn : n ≤ cc) (hm : n ≤ 4096) (f0 : -1 ≤ F) (f1 : F ≤ 101) :
    DrawnT B a l c z w (.returned (.agg #[.int .i64 F, .slice (some ⟨g, 0, none⟩) n cc])) ((w1.setCell ⟨X, 0, none⟩ (.int .i64 F)).setCell ⟨X, 1, none⟩ (.slice (some ⟨g, 0, none⟩) n cc)) := by
  have oB := h.oB
  have og := h.og
  have ho : Only X w1 ((w1.setCell ⟨X, 0, none⟩ (.int .i64 F)).setCell ⟨X, 1, none⟩ (.slice (some ⟨g, 0, none⟩) n cc)) := ((Only.refl _ _).setCell (p := ⟨X, 0, none⟩) rfl _).setCell (p := ⟨X, 1, none⟩) rfl _
  have hb := ho.below (Nat.le_refl X)
  obtain ⟨ys, hl, hr⟩ := h.row
  exact ⟨F, _, n, cc, ys, rfl, (hr.only ho (by omega)).ints hl (by omega), hn, hm, f0, f1, fun x hx => by cases hx; rw [h.eX]; show X ≤ g; omega, h.but.low (by rw [h.eX]; exact hb), h.ready.below hb oB⟩

theorem DrS.res {B X T g n cc : Nat} {a : Option Addr} {l c : Nat} {z : List Int} {F : Int} {w w1 : World} (h : DrS B X T g n cc a l c z F w w1) (u v : Value) :
    ((w1.setCell ⟨X, 0, none⟩ u).setCell ⟨X, 1, none⟩ v).cell? ⟨X, 0, none⟩ = some u ∧ ((w1.setCell ⟨X, 0, none⟩ u).setCell ⟨X, 1, none⟩ v).cell? ⟨X, 1, none⟩ = some v := by
  have n1 : (⟨X, 0, none⟩ : Addr) ≠ ⟨X, 1, none⟩ := fun e => by injection e; omega
  constructor
  · rw [far_set n1]; exact World.cell?_setCell_same' _ _ _ (by rw [h.r0]; rfl)
  · exact World.cell?_setCell_same' _ _ _ (by rw [far_set n1.symm, h.r1]; rfl)

theorem pick4M (B M : Nat) (x1 x2 x3 x4 : Int) (T : TypeId) (w : World) {a : Option Addr} {l c : Nat} {z : List Int} (h : Ready B a l c z w) (hM : w.heap.size = M) :
    Calls Try.prog 72 #[.pointer (some ⟨B, 0, none⟩), .slice (some ⟨M, 0, none⟩) 4 4] (w.alloc (.cells #[.int .i64 x1, .int .i64 x2, .int .i64 x3, .int .i64 x4] T)) (NumPost B a l c z (· ∈ [x1, x2, x3, x4]) w) := by
  subst hM; exact pick4 B x1 x2 x3 x4 T w h

theorem mem4 {p q r s x : Int} (h : x ∈ [p, q, r, s]) : x = p ∨ x = q ∨ x = r ∨ x = s := by simpa using h

theorem mem3 {p q r x : Int} (h : x ∈ [p, q, r]) : x = p ∨ x = q ∨ x = r := by simpa using h

end Go.Proofs.Ytmnddplkmljeaaa
