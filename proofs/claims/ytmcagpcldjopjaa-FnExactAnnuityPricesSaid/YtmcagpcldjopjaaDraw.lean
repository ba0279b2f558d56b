/- The model's draws of numbers: each gives numbers in their bounds, writes into its own source alone and makes new memory. -/
import Derived.Test.YtmcagpcldjopjaaFrom
namespace Go.Proofs.Ytmcagpcldjopjaa
open Go.ChangeShapes Go.WideShapes Go.ChangeAt Go.RowKit
set_option linter.unusedVariables false

/-- Of what was there only block B has turned. -/
structure But (B : Nat) (w w' : World) : Prop where
  os : w'.os = w.os
  tape : w'.tape = w.tape
  output : w'.output = w.output
  size : w.heap.size ≤ w'.heap.size
  block : ∀ k, k < w.heap.size → k ≠ B → w'.heap[k]? = w.heap[k]?

theorem But.refl (B : Nat) (w : World) : But B w w := ⟨rfl, rfl, rfl, Nat.le_refl _, fun _ _ _ => rfl⟩

theorem But.trans {B : Nat} {a b c : World} (h : But B a b) (k : But B b c) : But B a c :=
  ⟨k.os.trans h.os, k.tape.trans h.tape, k.output.trans h.output, Nat.le_trans h.size k.size, fun i hi hb => (k.block i (Nat.lt_of_lt_of_le hi h.size) hb).trans (h.block i hi hb)⟩

theorem Only.but {B : Nat} {w w' : World} (h : Only B w w') : But B w w' := ⟨h.os, h.tape, h.output, by rw [h.size]; exact Nat.le_refl _, fun k _ hb => h.block k hb⟩

theorem But.below {A B : Nat} {w w' : World} (h : But B w w') (hA : A ≤ B) (hs : A ≤ w.heap.size) : Below A w w' :=
  ⟨h.os, h.tape, h.output, h.size, fun k hk => h.block k (by omega) (by omega)⟩

theorem But.alloc {B : Nat} {w : World} (o : Obj) : But B w (w.alloc o) :=
  ⟨rfl, rfl, rfl, by simp, fun k hk _ => Below.heap_alloc _ _ _ hk⟩

theorem But.drew {B : Nat} {w w' : World} (h : But B w w') : But B w w'.drew := ⟨h.os, h.tape, h.output, h.size, h.block⟩

theorem But.drewN {B : Nat} {w w' : World} (h : But B w w') (n : Nat) : But B w (w'.drewN n) := ⟨h.os, h.tape, h.output, h.size, h.block⟩

theorem But.cell {B : Nat} {w w' : World} (h : But B w w') {p : Addr} (hp : p.block < w.heap.size) (hb : p.block ≠ B) : w'.cell? p = w.cell? p := World.cell?_of_block (w := w) (h.block p.block hp hb)

theorem But.frozen {B : Nat} {w w' : World} (h : But B w w') {p : Addr} (hp : p.block < w.heap.size) (hb : p.block ≠ B) : w'.frozen? p = w.frozen? p := World.frozen?_of_block (w := w) (h.block p.block hp hb)

/-- Block B holds a source, and what it reads lies below it. -/
structure Ready (B : Nat) (a : Option Addr) (l c : Nat) (z : List Int) (w : World) : Prop where
  src : IsSrc B a l c w
  row : IsRow .u8 w a l c z
  apart : Apart a z B

theorem Ready.here {B l c : Nat} {a : Option Addr} {z : List Int} {w : World} (h : Ready B a l c z w) : B < w.heap.size := by
  obtain ⟨_, _, S⟩ := h.src; exact S.here

theorem Ready.below {B C l c : Nat} {a : Option Addr} {z : List Int} {w w' : World} (h : Ready B a l c z w) (hb : Below C w w') (hC : B < C) : Ready B a l c z w' := by
  obtain ⟨⟨t, x, S⟩, r, p⟩ := h
  refine ⟨⟨t, x, ?_⟩, r.below hb (p.mono (by omega)), p⟩
  exact ⟨Nat.lt_of_lt_of_le S.here hb.size, (hb.cell (p := ⟨B, 0, none⟩) hC).trans S.code, (hb.cell (p := ⟨B, 1, none⟩) hC).trans S.att, (hb.cell (p := ⟨B, 2, none⟩) hC).trans S.seed,
    (hb.frozen (p := ⟨B, 0, none⟩) hC).trans S.free0, (hb.frozen (p := ⟨B, 1, none⟩) hC).trans S.free1, (hb.frozen (p := ⟨B, 2, none⟩) hC).trans S.free2, S.t0, S.tl, S.x0, S.xl⟩

theorem Ready.alloc {B l c : Nat} {a : Option Addr} {z : List Int} {w : World} (h : Ready B a l c z w) (o : Obj) : Ready B a l c z (w.alloc o) :=
  h.below (Below.refl w.heap.size w |>.alloc (Nat.le_refl _) o) h.here

theorem Ready.drew {B l c : Nat} {a : Option Addr} {z : List Int} {w : World} (h : Ready B a l c z w) : Ready B a l c z w.drew :=
  h.below (Below.refl w.heap.size w |>.drew) h.here

theorem Ready.drewN {B l c : Nat} {a : Option Addr} {z : List Int} {w : World} (h : Ready B a l c z w) (n : Nat) : Ready B a l c z (w.drewN n) :=
  h.below (below_drewN (Below.refl w.heap.size w) n) h.here

def NumPost (B : Nat) (a : Option Addr) (l c : Nat) (z : List Int) (p : Int → Prop) (w : World) (e : Ending) (w' : World) : Prop :=
  ∃ r, e = .returned (.int .i64 r) ∧ p r ∧ But B w w' ∧ Ready B a l c z w'

theorem next_r (B : Nat) (a : Option Addr) (l c : Nat) (z : List Int) (n : Int) (w : World) (h : Ready B a l c z w) :
    Calls Try.prog 55 #[.pointer (some ⟨B, 0, none⟩), .int .i64 n] w (NumPost B a l c z (Drawn n) w) :=
  (next_any B a l c z n w h.src h.row h.apart).mono fun e w' ⟨r, he, hd, ho, hs⟩ =>
    ⟨r, he, hd, ho.but, hs, h.row.below (ho.below (Nat.le_refl B)) h.apart, h.apart⟩

theorem pick_r (B L : Nat) (a : Option Addr) (l c m : Nat) (z zs : List Int) (w : World) (h : Ready B a l c z w)
    (hL : L ≠ B) (hz : zs.length = m) (hm0 : 0 < m) (hm1 : m < 1000) (hcell : ∀ i, i < m → w.cell? ⟨L, i, none⟩ = some (.int .i64 (zs.getD i 0))) :
    Calls Try.prog 58 #[.pointer (some ⟨B, 0, none⟩), .slice (some ⟨L, 0, none⟩) m m] w (NumPost B a l c z (· ∈ zs) w) :=
  (pick_any B L a l c m z zs w h.src h.row h.apart hL hz hm0 hm1 hcell).mono fun e w' ⟨r, he, hd, ho, hs⟩ =>
    ⟨r, he, hd, ho.but, hs, h.row.below (ho.below (Nat.le_refl B)) h.apart, h.apart⟩

/-- a new block of integers, as 'buildSlice' lays it -/
theorem new_cells (w : World) (zs : List Int) (T : TypeId) : ∀ i, i < zs.length → (w.alloc (.cells (zs.map (Value.int .i64)).toArray T)).cell? ⟨w.heap.size, i, none⟩ = some (.int .i64 (zs.getD i 0)) := by
  intro i hi
  rw [World.cell?_alloc_at _ _ _ _ rfl]
  simp [List.getD, hi]

def Any (_ : Int) : Prop := True

/-- a pick out of a new row of numbers -/
theorem pick_new (B : Nat) (zs : List Int) (m : Nat) (C : Array Value) (T : TypeId) (w : World) {a : Option Addr} {l c : Nat} {z : List Int} (h : Ready B a l c z w)
    (hC : C = (zs.map (Value.int .i64)).toArray) (hz : zs.length = m) (hm0 : 0 < m) (hm1 : m < 1000) :
    Calls Try.prog 58 #[.pointer (some ⟨B, 0, none⟩), .slice (some ⟨w.heap.size, 0, none⟩) m m] (w.alloc (.cells C T)) (NumPost B a l c z (· ∈ zs) w) := by
  subst hC
  subst hz
  refine (pick_r B _ a l c _ z zs _ (h.alloc _) (by have := h.here; omega) rfl hm0 hm1 (new_cells _ _ _)).mono ?_
  rintro e w1 ⟨r, rfl, hd, ho, hs⟩
  exact ⟨r, rfl, hd, (But.alloc _).trans ho, hs⟩

theorem pick2 (B : Nat) (x1 x2 : Int) (T : TypeId) (w : World) {a : Option Addr} {l c : Nat} {z : List Int} (h : Ready B a l c z w) :
    Calls Try.prog 58 #[.pointer (some ⟨B, 0, none⟩), .slice (some ⟨w.heap.size, 0, none⟩) 2 2] (w.alloc (.cells #[.int .i64 x1, .int .i64 x2] T)) (NumPost B a l c z (· ∈ [x1, x2]) w) :=
  pick_new B [x1, x2] 2 _ T w h rfl rfl (by decide) (by decide)

theorem pick3 (B : Nat) (x1 x2 x3 : Int) (T : TypeId) (w : World) {a : Option Addr} {l c : Nat} {z : List Int} (h : Ready B a l c z w) :
    Calls Try.prog 58 #[.pointer (some ⟨B, 0, none⟩), .slice (some ⟨w.heap.size, 0, none⟩) 3 3] (w.alloc (.cells #[.int .i64 x1, .int .i64 x2, .int .i64 x3] T)) (NumPost B a l c z (· ∈ [x1, x2, x3]) w) :=
  pick_new B [x1, x2, x3] 3 _ T w h rfl rfl (by decide) (by decide)

theorem pick4 (B : Nat) (x1 x2 x3 x4 : Int) (T : TypeId) (w : World) {a : Option Addr} {l c : Nat} {z : List Int} (h : Ready B a l c z w) :
    Calls Try.prog 58 #[.pointer (some ⟨B, 0, none⟩), .slice (some ⟨w.heap.size, 0, none⟩) 4 4] (w.alloc (.cells #[.int .i64 x1, .int .i64 x2, .int .i64 x3, .int .i64 x4] T)) (NumPost B a l c z (· ∈ [x1, x2, x3, x4]) w) :=
  pick_new B [x1, x2, x3, x4] 4 _ T w h rfl rfl (by decide) (by decide)

theorem pick5 (B : Nat) (x1 x2 x3 x4 x5 : Int) (T : TypeId) (w : World) {a : Option Addr} {l c : Nat} {z : List Int} (h : Ready B a l c z w) :
    Calls Try.prog 58 #[.pointer (some ⟨B, 0, none⟩), .slice (some ⟨w.heap.size, 0, none⟩) 5 5] (w.alloc (.cells #[.int .i64 x1, .int .i64 x2, .int .i64 x3, .int .i64 x4, .int .i64 x5] T)) (NumPost B a l c z (· ∈ [x1, x2, x3, x4, x5]) w) :=
  pick_new B [x1, x2, x3, x4, x5] 5 _ T w h rfl rfl (by decide) (by decide)

end Go.Proofs.Ytmcagpcldjopjaa
