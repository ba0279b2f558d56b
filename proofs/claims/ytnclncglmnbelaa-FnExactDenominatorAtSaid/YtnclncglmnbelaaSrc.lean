/- The source of drawn numbers of the model's draws: what one call of it does (a number in a range; only its own block turns). | The source of drawn numbers of the model's draws: how it begins, and one of some numbers. | The model's draws of numbers: each gives numbers in their bounds, writes into its own source alone and makes new memory. | The draws of chapter 1's numbers: two integers each, out of whatever code. -/
import Derived.Test.YtnclncglmnbelaaBase
namespace Go.Proofs.Ytnclncglmnbelaa
open Go.ChangeShapes Go.WideShapes Go.ChangeAt Go.RowKit
set_option linter.unusedVariables false

/-- a number that a draw gives -/
def Drawn (n r : Int) : Prop := (1 < n → 0 ≤ r ∧ r < n) ∧ (n ≤ 1 → r = 0)

/-- Block B holds a source over the code (a, l, c): its three cells. -/
structure Src (B : Nat) (a : Option Addr) (l c : Nat) (t x : Int) (w : World) : Prop where
  here : B < w.heap.size
  code : w.cell? ⟨B, 0, none⟩ = some (.slice a l c)
  att : w.cell? ⟨B, 1, none⟩ = some (.int .i64 t)
  seed : w.cell? ⟨B, 2, none⟩ = some (.int .i64 x)
  free0 : w.frozen? ⟨B, 0, none⟩ = false
  free1 : w.frozen? ⟨B, 1, none⟩ = false
  free2 : w.frozen? ⟨B, 2, none⟩ = false
  t0 : 0 ≤ t
  tl : t ≤ l
  x0 : 0 ≤ x
  xl : x < 2147483647

theorem Src.put2 {B l c : Nat} {a : Option Addr} {t x y : Int} {w : World} (S : Src B a l c t x w) (h0 : 0 ≤ y) (h1 : y < 2147483647) : Src B a l c t y (w.setCell ⟨B, 2, none⟩ (.int .i64 y)) where
  here := by simpa [World.setCell] using S.here
  code := by rw [World.cell?_setCell_other _ _ _ _ (by simp)]; exact S.code
  att := by rw [World.cell?_setCell_other _ _ _ _ (by simp)]; exact S.att
  seed := World.cell?_setCell_same' _ _ _ (by rw [S.seed]; rfl)
  free0 := by rw [World.frozen?_setCell]; exact S.free0
  free1 := by rw [World.frozen?_setCell]; exact S.free1
  free2 := by rw [World.frozen?_setCell]; exact S.free2
  t0 := S.t0
  tl := S.tl
  x0 := h0
  xl := h1

theorem Src.put1 {B l c : Nat} {a : Option Addr} {t x u : Int} {w : World} (S : Src B a l c t x w) (h0 : 0 ≤ u) (h1 : u ≤ l) : Src B a l c u x (w.setCell ⟨B, 1, none⟩ (.int .i64 u)) where
  here := by simpa [World.setCell] using S.here
  code := by rw [World.cell?_setCell_other _ _ _ _ (by simp)]; exact S.code
  att := World.cell?_setCell_same' _ _ _ (by rw [S.att]; rfl)
  seed := by rw [World.cell?_setCell_other _ _ _ _ (by simp)]; exact S.seed
  free0 := by rw [World.frozen?_setCell]; exact S.free0
  free1 := by rw [World.frozen?_setCell]; exact S.free1
  free2 := by rw [World.frozen?_setCell]; exact S.free2
  t0 := h0
  tl := h1
  x0 := S.x0
  xl := S.xl

theorem Src.drewN {B l c : Nat} {a : Option Addr} {t x : Int} {w : World} (S : Src B a l c t x w) (n : Nat) : Src B a l c t x (w.drewN n) :=
  ⟨S.here, S.code, S.att, S.seed, S.free0, S.free1, S.free2, S.t0, S.tl, S.x0, S.xl⟩

theorem Src.drew {B l c : Nat} {a : Option Addr} {t x : Int} {w : World} (S : Src B a l c t x w) : Src B a l c t x w.drew :=
  ⟨S.here, S.code, S.att, S.seed, S.free0, S.free1, S.free2, S.t0, S.tl, S.x0, S.xl⟩

theorem drawn_mod (v n : Int) (hn : 1 < n) : Drawn n (v % n) :=
  ⟨fun _ => ⟨Int.emod_nonneg _ (by omega), Int.emod_lt_of_pos _ (by omega)⟩, fun h => by omega⟩

def IsSrc (B : Nat) (a : Option Addr) (l c : Nat) (w : World) : Prop := ∃ t x, Src B a l c t x w

def NextPost (B : Nat) (a : Option Addr) (l c : Nat) (n : Int) (w : World) (e : Ending) (w' : World) : Prop :=
  ∃ r, e = .returned (.int .i64 r) ∧ Drawn n r ∧ Only B w w' ∧ IsSrc B a l c w'

def FromPost (a : Option Addr) (l c : Nat) (w : World) (e : Ending) (w' : World) : Prop :=
  e = .returned (.pointer (some ⟨w.heap.size, 0, none⟩)) ∧ IsSrc w.heap.size a l c w' ∧ w'.heap.size = w.heap.size + 1 ∧ Below w.heap.size w w'

theorem drawn_bd {n r : Int} (h : Drawn n r) (hn : 1 ≤ n) : 0 ≤ r ∧ r < n := by
  obtain ⟨h1, h2⟩ := h
  by_cases h : 1 < n
  · exact h1 h
  · have := h2 (by omega); omega

/-- one of the numbers zs (the draw gives the index) -/
def PickPost (B : Nat) (a : Option Addr) (l c : Nat) (zs : List Int) (w : World) (e : Ending) (w' : World) : Prop :=
  ∃ r, e = .returned (.int .i64 r) ∧ r ∈ zs ∧ Only B w w' ∧ IsSrc B a l c w'

/-- Of what was there only block B has turned. -/
structure But (B : Nat) (w w' : World) : Prop where
  os : w'.os = w.os
  tape : w'.tape = w.tape
  output : w'.output = w.output
  size : w.heap.size ≤ w'.heap.size
  block : ∀ k, k < w.heap.size → k ≠ B → w'.heap[k]? = w.heap[k]?

theorem But.refl (B : Nat) (w : World) : But B w w := ⟨rfl, rfl, rfl, Nat.le_refl _, fun _ _ _ => rfl⟩

theorem But.trans {B : Nat} {a b c : World} (h : But B a b) (k : But B b c) : But B a c :=
  ⟨k.os.trans h.os, k.tape.trans h.tape, k.output.trans h.output, Nat.le_trans h.size k.size, fun i hi hb => (k.block i (Nat.lt_of_lt_of_le hi h.size) hb).trans (h.block i hi hb)⟩

theorem Only.but {B : Nat} {w w' : World} (h : Only B w w') : But B w w' := ⟨h.os, h.tape, h.output, by rw [h.size]; exact Nat.le_refl _, fun k _ hb => h.block k hb⟩

theorem But.below {A B : Nat} {w w' : World} (h : But B w w') (hA : A ≤ B) (hs : A ≤ w.heap.size) : Below A w w' :=
  ⟨h.os, h.tape, h.output, h.size, fun k hk => h.block k (by omega) (by omega)⟩

theorem But.alloc {B : Nat} {w : World} (o : Obj) : But B w (w.alloc o) :=
  ⟨rfl, rfl, rfl, by simp, fun k hk _ => Below.heap_alloc _ _ _ hk⟩

theorem But.drew {B : Nat} {w w' : World} (h : But B w w') : But B w w'.drew := ⟨h.os, h.tape, h.output, h.size, h.block⟩

theorem But.drewN {B : Nat} {w w' : World} (h : But B w w') (n : Nat) : But B w (w'.drewN n) := ⟨h.os, h.tape, h.output, h.size, h.block⟩

theorem But.cell {B : Nat} {w w' : World} (h : But B w w') {p : Addr} (hp : p.block < w.heap.size) (hb : p.block ≠ B) : w'.cell? p = w.cell? p := World.cell?_of_block (w := w) (h.block p.block hp hb)

theorem But.frozen {B : Nat} {w w' : World} (h : But B w w') {p : Addr} (hp : p.block < w.heap.size) (hb : p.block ≠ B) : w'.frozen? p = w.frozen? p := World.frozen?_of_block (w := w) (h.block p.block hp hb)

/-- Block B holds a source, and what it reads lies below it. -/
structure Ready (B : Nat) (a : Option Addr) (l c : Nat) (z : List Int) (w : World) : Prop where
  src : IsSrc B a l c w
  row : IsRow .u8 w a l c z
  apart : Apart a z B

theorem Ready.here {B l c : Nat} {a : Option Addr} {z : List Int} {w : World} (h : Ready B a l c z w) : B < w.heap.size := by
  obtain ⟨_, _, S⟩ := h.src; exact S.here

theorem Ready.below {B C l c : Nat} {a : Option Addr} {z : List Int} {w w' : World} (h : Ready B a l c z w) (hb : Below C w w') (hC : B < C) : Ready B a l c z w' := by
  obtain ⟨⟨t, x, S⟩, r, p⟩ := h
  refine ⟨⟨t, x, ?_⟩, r.below hb (p.mono (by omega)), p⟩
  exact ⟨Nat.lt_of_lt_of_le S.here hb.size, (hb.cell (p := ⟨B, 0, none⟩) hC).trans S.code, (hb.cell (p := ⟨B, 1, none⟩) hC).trans S.att, (hb.cell (p := ⟨B, 2, none⟩) hC).trans S.seed,
    (hb.frozen (p := ⟨B, 0, none⟩) hC).trans S.free0, (hb.frozen (p := ⟨B, 1, none⟩) hC).trans S.free1, (hb.frozen (p := ⟨B, 2, none⟩) hC).trans S.free2, S.t0, S.tl, S.x0, S.xl⟩

theorem Ready.alloc {B l c : Nat} {a : Option Addr} {z : List Int} {w : World} (h : Ready B a l c z w) (o : Obj) : Ready B a l c z (w.alloc o) :=
  h.below (Below.refl w.heap.size w |>.alloc (Nat.le_refl _) o) h.here

theorem Ready.drew {B l c : Nat} {a : Option Addr} {z : List Int} {w : World} (h : Ready B a l c z w) : Ready B a l c z w.drew :=
  h.below (Below.refl w.heap.size w |>.drew) h.here

theorem Ready.drewN {B l c : Nat} {a : Option Addr} {z : List Int} {w : World} (h : Ready B a l c z w) (n : Nat) : Ready B a l c z (w.drewN n) :=
  h.below (below_drewN (Below.refl w.heap.size w) n) h.here

def NumPost (B : Nat) (a : Option Addr) (l c : Nat) (z : List Int) (p : Int → Prop) (w : World) (e : Ending) (w' : World) : Prop :=
  ∃ r, e = .returned (.int .i64 r) ∧ p r ∧ But B w w' ∧ Ready B a l c z w'

/-- a new block of integers, as 'buildSlice' lays it -/
theorem new_cells (w : World) (zs : List Int) (T : TypeId) : ∀ i, i < zs.length → (w.alloc (.cells (zs.map (Value.int .i64)).toArray T)).cell? ⟨w.heap.size, i, none⟩ = some (.int .i64 (zs.getD i 0)) := by
  intro i hi
  rw [World.cell?_alloc_at _ _ _ _ rfl]
  simp [List.getD, hi]

def Any (_ : Int) : Prop := True

theorem ready_of {a : Option Addr} {l c : Nat} {z : List Int} {w w1 : World} (hr : IsRow .u8 w a l c z) (hs : IsSrc w.heap.size a l c w1) (hb : Below w.heap.size w w1) : Ready w.heap.size a l c z w1 :=
  ⟨hs, hr.below hb hr.apart, hr.apart⟩

def TwoPost (w : World) (e : Ending) (w' : World) : Prop := ∃ x y, e = .returned (.tuple #[.int .i64 x, .int .i64 y]) ∧ Below w.heap.size w w'

def OnePost (w : World) (e : Ending) (w' : World) : Prop := ∃ x, e = .returned (.int .i64 x) ∧ Below w.heap.size w w'

end Go.Proofs.Ytnclncglmnbelaa
