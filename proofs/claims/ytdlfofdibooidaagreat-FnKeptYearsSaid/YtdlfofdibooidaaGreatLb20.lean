/- Merged: ComL. -/
import Derived.Test.YtdlfofdibooidaaGreatLb1
import Derived.Test.YtdlfofdibooidaaGreatLb12
import Derived.Deep.RegionHeld3
import Derived.Deep.Cut
import Derived.Deep.CutRange
import Derived.Deep.CutBlock

/- What the making of a table with its columns leaves: its blocks. | The program's table with its columns. -/
namespace Go.Proofs.YtdlfofdibooidaaGreat
open Go.ChangeShapes Go.WideShapes Go.ChangeAt Go.RowKit
set_option linter.unusedVariables false
set_option maxRecDepth 100000

/-- no columns yet -/
def z604 : List Int := List.replicate 604 0

def zG : Nat → Int := fun _ => 0

theorem zero_com : Tryz.zeroCells126 = (([Value.int .i64 0, Value.slice none 0 0] : List Value) ++ z604.map (Value.int .i64)).toArray := by kernel_rfl

theorem cc_zero (f : Int) (v : Value) : ((Tryz.zeroCells126.toList.set 0 (.int .i64 f)).set 1 v) = (ccells f v zG).toList := by
  rw [zero_com]
  unfold ccells zG z604
  simp [List.map_const']

theorem ccells_one (f : Int) (a : Option Addr) (l c : Nat) (G : Nat → Int) : (ccells f (.slice a l c) G).all (·.oneCell') = true := by
  rw [Array.all_eq_true_iff_forall_mem]
  intro v hv
  simp [ccells] at hv
  rcases hv with rfl | rfl | ⟨k, _, rfl⟩ <;> rfl

theorem ccells_size (f : Int) (v : Value) (G : Nat → Int) : (ccells f v G).size = 606 := by simp [ccells]

theorem store_com (f : Int) (a : Option Addr) (l c : Nat) (w : World) : (storeCells ⟨w.heap.size, 0, none⟩ ((Tryz.zeroCells126.toList.set 0 (.int .i64 f)).set 1 (.slice a l c))).run Tryz.prog (w.alloc (.cells Tryz.zeroCells126 126)) = .ok () (w.alloc (.cells (ccells f (.slice a l c) zG) 126)) := by
  rw [cc_zero]
  exact run_storeCells_new w 126 _ _ (by rw [ccells_size]; kernel_rfl) (by rw [zero_com]; simp [ccells, z604]) (ccells_one _ _ _ _ _)

theorem cb_new (f : Int) (v : Value) (w : World) : CBX (w.alloc (.cells (ccells f v zG) 126)) w.heap.size f v zG := by
  unfold CBX
  show (w.heap.push _)[w.heap.size]? = _
  simp

/-- what the making of the columns holds at the head of its loop -/
structure CO (w : World) (f r : Int) (xs : List Int) (v : Value) (Zs : Array Value) (R L D T n : Nat) (W : World) : Prop where
  box : W.cell? ⟨w.heap.size, 0, none⟩ = some (.int .i64 f)
  lives : W.heap[L]? = some (.cells Zs 142 (0, 0))
  disc : DB W D r
  later : Q4 W T (cD r xs (n - f.toNat)) (cN r xs (n - f.toNat)) (cC r xs (n - f.toNat)) (cM r xs (n - f.toNat))
  res : ∃ G, CBX W R f v G ∧ ∀ m, n ≤ m → m ≤ 150 → G (m * 4) = cD r xs (m - f.toNat) ∧ G (m * 4 + 1) = cN r xs (m - f.toNat) ∧ G (m * 4 + 2) = cC r xs (m - f.toNat) ∧ G (m * 4 + 3) = cM r xs (m - f.toNat)
  below : Below w.heap.size w W

theorem Arr.read {Zs : Array Value} {ys : List Int} (h : Arr Zs ys) {W : World} {L : Nat} (hl : W.heap[L]? = some (.cells Zs 142 (0, 0))) (i : Nat) (hi : i < 152) (u : Int) (hu : ys.getD i 0 = u) : W.cell? ⟨L, i, none⟩ = some (.int .i64 u) := by
  have := h.get i hi
  rw [hu] at this
  simp [World.cell?, hl, this]

theorem DB.same {w w' : World} {B : Nat} {r : Int} (h : DB w B r) (hb : w'.heap[B]? = w.heap[B]?) : DB w' B r := by
  obtain ⟨d, xs, hx, h1, h2⟩ := h
  exact ⟨d, xs, hx, by unfold DBX at h1 ⊢; rw [hb, h1], h2⟩

theorem DB.lt {w : World} {B : Nat} {r : Int} (h : DB w B r) : B < w.heap.size := by
  obtain ⟨d, xs, hx, h1, h2⟩ := h
  exact h1.lt

theorem Q4.cell {W : World} {T : Nat} {a b c d : Int} (h : Q4 W T a b c d) : W.cell? ⟨T, 0, none⟩ = some (.int .i64 a) ∧ W.cell? ⟨T, 1, none⟩ = some (.int .i64 b) ∧ W.cell? ⟨T, 2, none⟩ = some (.int .i64 c) ∧ W.cell? ⟨T, 3, none⟩ = some (.int .i64 d) := by
  unfold Q4 at h
  simp [World.cell?, h]

theorem Q4.free {W : World} {T : Nat} {a b c d : Int} (h : Q4 W T a b c d) (i : Nat) : W.frozen? ⟨T, i, none⟩ = false := by
  unfold Q4 at h
  simp [World.frozen?, h]

/-- four cells written one after the other -/
def set4 (w : World) (N o : Nat) (a b c d : Int) : World := (((w.setCell ⟨N, o, none⟩ (.int .i64 a)).setCell ⟨N, o + 1, none⟩ (.int .i64 b)).setCell ⟨N, o + 2, none⟩ (.int .i64 c)).setCell ⟨N, o + 3, none⟩ (.int .i64 d)

theorem heap_setCell_far (w : World) (p : Addr) (v : Value) (k : Nat) (h : k ≠ p.block) : (w.setCell p v).heap[k]? = w.heap[k]? := by
  show (w.heap.modify p.block _)[k]? = _
  rw [Array.getElem?_modify, if_neg (fun e => h e.symm)]

theorem set4_far (w : World) (N o : Nat) (a b c d : Int) (k : Nat) (h : k ≠ N) : (set4 w N o a b c d).heap[k]? = w.heap[k]? := by
  unfold set4
  rw [heap_setCell_far _ _ _ _ h, heap_setCell_far _ _ _ _ h, heap_setCell_far _ _ _ _ h, heap_setCell_far _ _ _ _ h]

theorem set4_but (w : World) (D N o : Nat) (a b c d : Int) (wr : World) (h : But D wr w) (hn : wr.heap.size ≤ N) : But D wr (set4 w N o a b c d) :=
  ⟨h.os, h.tape, h.output, by unfold set4; simp; exact h.size, fun k hk hd => (set4_far w N o a b c d k (by omega)).trans (h.block k hk hd)⟩

theorem set4_below (w : World) (B N o : Nat) (a b c d : Int) (w0 : World) (h : Below B w0 w) (hn : B ≤ N) : Below B w0 (set4 w N o a b c d) :=
  (((h.setCell hn _).setCell hn _).setCell hn _).setCell hn _

theorem Q4.lt {W : World} {T : Nat} {a b c d : Int} (h : Q4 W T a b c d) : T < W.heap.size := by
  unfold Q4 at h
  by_cases hb : T < W.heap.size
  · exact hb
  · have : W.heap[T]? = none := by simp; omega
    rw [this] at h; cases h

theorem Q4.same {w w' : World} {T : Nat} {a b c d : Int} (h : Q4 w T a b c d) (hb : w'.heap[T]? = w.heap[T]?) : Q4 w' T a b c d := by
  unfold Q4 at h ⊢; rw [hb, h]

theorem Q4.set1 {w : World} {T : Nat} {a b c d : Int} (h : Q4 w T a b c d) (x : Int) : Q4 (w.setCell ⟨T, 0, none⟩ (.int .i64 x)) T x b c d ∧ Q4 (w.setCell ⟨T, 1, none⟩ (.int .i64 x)) T a x c d ∧ Q4 (w.setCell ⟨T, 2, none⟩ (.int .i64 x)) T a b x d ∧ Q4 (w.setCell ⟨T, 3, none⟩ (.int .i64 x)) T a b c x := by
  have hl := h.lt
  unfold Q4 at h ⊢
  rw [Array.getElem?_eq_getElem hl] at h
  have h' : w.heap[T] = .cells #[.int .i64 a, .int .i64 b, .int .i64 c, .int .i64 d] 62 (0, 0) := by simpa using h
  refine ⟨?_, ?_, ?_, ?_⟩ <;>
  · show (w.heap.modify T _)[T]? = _
    rw [Array.getElem?_modify, if_pos rfl, Array.getElem?_eq_getElem hl, h']
    simp

theorem Q4.set4 {w : World} {T : Nat} {a b c d : Int} (h : Q4 w T a b c d) (a' b' c' d' : Int) : Q4 (set4 w T 0 a' b' c' d') T a' b' c' d' := by
  unfold Go.Proofs.YtdlfofdibooidaaGreat.set4
  exact ((((h.set1 a').1.set1 b').2.1.set1 c').2.2.1.set1 d').2.2.2

theorem DB.ne {w : World} {D : Nat} {r : Int} (h : DB w D r) {N : Nat} {a b c d : Int} (hq : Q4 w N a b c d) : N ≠ D := by
  rintro rfl
  obtain ⟨e, xs, hx, h1, h2⟩ := h
  unfold DBX at h1
  unfold Q4 at hq
  rw [h1] at hq
  simp [dcells] at hq

/-- a new block of four cells, above what was there -/
structure F4 (wr w : World) (N : Nat) : Prop where
  n0 : w.cell? ⟨N, 0, none⟩ = some (.int .i64 0)
  n1 : w.cell? ⟨N, 1, none⟩ = some (.int .i64 0)
  n2 : w.cell? ⟨N, 2, none⟩ = some (.int .i64 0)
  n3 : w.cell? ⟨N, 3, none⟩ = some (.int .i64 0)
  m0 : w.frozen? ⟨N, 0, none⟩ = false
  m1 : w.frozen? ⟨N, 1, none⟩ = false
  m2 : w.frozen? ⟨N, 2, none⟩ = false
  m3 : w.frozen? ⟨N, 3, none⟩ = false
  q : Hid (Q4 w N 0 0 0 0 ∧ wr.heap.size ≤ N)

theorem F4.mk4 {wr w : World} {N : Nat} (h : Q4 w N 0 0 0 0) (hn : wr.heap.size ≤ N) : F4 wr w N :=
  ⟨h.cell.1, h.cell.2.1, h.cell.2.2.1, h.cell.2.2.2, h.free 0, h.free 1, h.free 2, h.free 3, Lib.hid ⟨h, hn⟩⟩

theorem q4_new (X : World) (a b c d : Int) : Q4 (X.alloc (.cells #[.int .i64 a, .int .i64 b, .int .i64 c, .int .i64 d] 62)) X.heap.size a b c d := heap_alloc_new _ _

theorem new4 {D : Nat} {r : Int} {wr X w' : World} {p : Prop} (hs : Hid (DB (X.alloc (.cells #[.int .i64 0, .int .i64 0, .int .i64 0, .int .i64 0] 62)) D r ∧ p)) (ho : Only D (X.alloc (.cells #[.int .i64 0, .int .i64 0, .int .i64 0, .int .i64 0] 62)) w') (hn : wr.heap.size ≤ X.heap.size) : F4 wr w' X.heap.size :=
  F4.mk4 ((q4_new X 0 0 0 0).same (ho.block _ (hs.out.1.ne (q4_new X 0 0 0 0)))) hn

theorem new4d {D : Nat} {r : Int} {wr X w' : World} {p : Prop} (hs : Hid (DB (X.alloc (.cells #[.int .i64 0, .int .i64 0, .int .i64 0, .int .i64 0] 62)).drew D r ∧ p)) (ho : Only D (X.alloc (.cells #[.int .i64 0, .int .i64 0, .int .i64 0, .int .i64 0] 62)).drew w') (hn : wr.heap.size ≤ X.heap.size) : F4 wr w' X.heap.size :=
  F4.mk4 ((q4_new X 0 0 0 0).same (ho.block _ (DB.ne (w := X.alloc (.cells #[.int .i64 0, .int .i64 0, .int .i64 0, .int .i64 0] 62)) hs.out.1 (q4_new X 0 0 0 0)))) hn

theorem old4 {D : Nat} {r : Int} {wr w w' : World} {p : Prop} {N : Nat} (hs : Hid (DB w D r ∧ p)) (ho : Only D w w') (h : Hid (Q4 w N 0 0 0 0 ∧ wr.heap.size ≤ N)) : F4 wr w' N :=
  F4.mk4 (h.out.1.same (ho.block _ (hs.out.1.ne h.out.1))) h.out.2

/-- the world in which the columns of an age are made -/
structure NW (D : Nat) (r : Int) (wr : World) (N : Nat) (A C : Int) (wx : World) : Prop where
  now : Q4 wx N A 0 C 0
  new : wr.heap.size ≤ N
  disc : DB wx D r
  but : But D wr wx

theorem nw_alloc {D : Nat} {r : Int} {wr w' : World} (A C : Int) (hdb : DB w' D r) (hb : But D wr w') : NW D r wr w'.heap.size A C (w'.alloc (.cells #[.int .i64 A, .int .i64 0, .int .i64 C, .int .i64 0] 62)) :=
  ⟨q4_new _ _ _ _ _, hb.size, hdb.same (Below.heap_alloc _ _ _ hdb.lt), hb.trans (But.alloc _)⟩

theorem nw_set {D : Nat} {r : Int} {wr w' : World} {N : Nat} (A C : Int) (hdb : DB w' D r) (hb : But D wr w') (h : Hid (Q4 w' N 0 0 0 0 ∧ wr.heap.size ≤ N)) : NW D r wr N A C (set4 w' N 0 A 0 C 0) :=
  ⟨h.out.1.set4 _ _ _ _, h.out.2, hdb.same (set4_far _ _ _ _ _ _ _ _ (fun e => hdb.ne h.out.1 e.symm)), set4_but _ _ _ _ _ _ _ _ _ hb h.out.2⟩

theorem nw_setx {D : Nat} {r : Int} {wr w' : World} {N : Nat} (A C : Int) (hs : Hid (DB ((((w'.setCell ⟨N, 0, none⟩ (.int .i64 A)).setCell ⟨N, 1, none⟩ (.int .i64 0)).setCell ⟨N, 2, none⟩ (.int .i64 C)).setCell ⟨N, 3, none⟩ (.int .i64 0)) D r ∧ But D wr ((((w'.setCell ⟨N, 0, none⟩ (.int .i64 A)).setCell ⟨N, 1, none⟩ (.int .i64 0)).setCell ⟨N, 2, none⟩ (.int .i64 C)).setCell ⟨N, 3, none⟩ (.int .i64 0)))) (h : Hid (Q4 w' N 0 0 0 0 ∧ wr.heap.size ≤ N)) : NW D r wr N A C ((((w'.setCell ⟨N, 0, none⟩ (.int .i64 A)).setCell ⟨N, 1, none⟩ (.int .i64 0)).setCell ⟨N, 2, none⟩ (.int .i64 C)).setCell ⟨N, 3, none⟩ (.int .i64 0)) := by
  have := h.out.1.set4 A 0 C 0
  unfold set4 at this
  simp only [Nat.zero_add] at this
  exact ⟨this, h.out.2, hs.out.1, hs.out.2⟩

theorem nw_allocx {D : Nat} {r : Int} {wr w w' : World} (A C : Int) (hdb : DB w' D r) (hb : Hid (DB w D r ∧ But D wr w)) (ho : Only D w w') : NW D r wr w'.heap.size A C (w'.alloc (.cells #[.int .i64 A, .int .i64 0, .int .i64 C, .int .i64 0] 62)) :=
  nw_alloc A C hdb (hb.out.2.trans ho.but)

theorem keep_call {D L m m1 : Nat} {r : Int} {x y : Value} {wr w w' : World} (h1 : w.cell? ⟨L, m, none⟩ = some x) (h2 : w.cell? ⟨L, m1, none⟩ = some y) (h3 : Hid (DB w D r ∧ But D wr w)) (hdb : DB w' D r) (ho : Only D w w') (hL : L ≠ D) :
    w'.cell? ⟨L, m, none⟩ = some x ∧ w'.cell? ⟨L, m1, none⟩ = some y ∧ Hid (DB w' D r ∧ But D wr w') :=
  ⟨(ho.cell hL).trans h1, (ho.cell hL).trans h2, Lib.hid ⟨hdb, h3.out.2.trans ho.but⟩⟩

theorem keep_alloc {D L m m1 : Nat} {r : Int} {x y : Value} {wr w : World} (h1 : w.cell? ⟨L, m, none⟩ = some x) (h2 : w.cell? ⟨L, m1, none⟩ = some y) (h3 : Hid (DB w D r ∧ But D wr w)) (o : Obj) :
    (w.alloc o).cell? ⟨L, m, none⟩ = some x ∧ (w.alloc o).cell? ⟨L, m1, none⟩ = some y ∧ Hid (DB (w.alloc o) D r ∧ But D wr (w.alloc o)) :=
  ⟨keep2 (box_b _ _) h1, keep2 (box_b _ _) h2, Lib.hid ⟨h3.out.1.same (Below.heap_alloc _ _ _ h3.out.1.lt), h3.out.2.trans (But.alloc _)⟩⟩

theorem keep_drew {D L m m1 : Nat} {r : Int} {x y : Value} {w : World} (h1 : w.cell? ⟨L, m, none⟩ = some x) (h2 : w.cell? ⟨L, m1, none⟩ = some y) (h3 : DB w D r) (o : Obj) :
    (w.alloc o).drew.cell? ⟨L, m, none⟩ = some x ∧ (w.alloc o).drew.cell? ⟨L, m1, none⟩ = some y ∧ Hid (DB (w.alloc o).drew D r ∧ But D w (w.alloc o).drew) := by
  obtain ⟨a, b, c⟩ := keep_alloc h1 h2 (Lib.hid ⟨h3, But.refl D w⟩) o
  exact ⟨a, b, Lib.hid ⟨c.out.1, c.out.2.drew⟩⟩

theorem keep_again {D L m m1 : Nat} {r : Int} {x y : Value} {wr w w' : World} (h1 : w.cell? ⟨L, m, none⟩ = some x) (h2 : w.cell? ⟨L, m1, none⟩ = some y) (h3 : Hid (DB w D r ∧ But D wr w)) (hdb : DB w' D r) (ho : Only D w w') (hL : L ≠ D) (o : Obj) :
    (w'.alloc o).cell? ⟨L, m, none⟩ = some x ∧ (w'.alloc o).cell? ⟨L, m1, none⟩ = some y ∧ Hid (DB (w'.alloc o) D r ∧ But D wr (w'.alloc o)) := by
  obtain ⟨a, b, c⟩ := keep_call h1 h2 h3 hdb ho hL
  exact keep_alloc a b c o

theorem keep_set {D L m m1 N : Nat} {r a b c d : Int} {x y : Value} {wr w : World} (h1 : w.cell? ⟨L, m, none⟩ = some x) (h2 : w.cell? ⟨L, m1, none⟩ = some y) (h3 : Hid (DB w D r ∧ But D wr w)) (q : Hid (Q4 w N 0 0 0 0 ∧ wr.heap.size ≤ N)) (hL : L < wr.heap.size) :
    ((((w.setCell ⟨N, 0, none⟩ (.int .i64 a)).setCell ⟨N, 1, none⟩ (.int .i64 b)).setCell ⟨N, 2, none⟩ (.int .i64 c)).setCell ⟨N, 3, none⟩ (.int .i64 d)).cell? ⟨L, m, none⟩ = some x ∧ ((((w.setCell ⟨N, 0, none⟩ (.int .i64 a)).setCell ⟨N, 1, none⟩ (.int .i64 b)).setCell ⟨N, 2, none⟩ (.int .i64 c)).setCell ⟨N, 3, none⟩ (.int .i64 d)).cell? ⟨L, m1, none⟩ = some y ∧ Hid (DB ((((w.setCell ⟨N, 0, none⟩ (.int .i64 a)).setCell ⟨N, 1, none⟩ (.int .i64 b)).setCell ⟨N, 2, none⟩ (.int .i64 c)).setCell ⟨N, 3, none⟩ (.int .i64 d)) D r ∧ But D wr ((((w.setCell ⟨N, 0, none⟩ (.int .i64 a)).setCell ⟨N, 1, none⟩ (.int .i64 b)).setCell ⟨N, 2, none⟩ (.int .i64 c)).setCell ⟨N, 3, none⟩ (.int .i64 d))) := by
  have e := q.out.2
  have hd := h3.out.1.same (set4_far w N 0 a b c d D (fun e => h3.out.1.ne q.out.1 e.symm))
  have hb := set4_but w D N 0 a b c d wr h3.out.2 e
  have hf := set4_far w N 0 a b c d L (by omega)
  have g1 : (set4 w N 0 a b c d).cell? ⟨L, m, none⟩ = some x := (World.cell?_of_block (w := w) (w' := set4 w N 0 a b c d) (a := ⟨L, m, none⟩) hf).trans h1
  have g2 : (set4 w N 0 a b c d).cell? ⟨L, m1, none⟩ = some y := (World.cell?_of_block (w := w) (w' := set4 w N 0 a b c d) (a := ⟨L, m1, none⟩) hf).trans h2
  unfold set4 at hd hb g1 g2
  simp only [Nat.zero_add] at hd hb g1 g2
  exact ⟨g1, g2, Lib.hid ⟨hd, hb⟩⟩

/-- four cells written one after the other, said plainly -/
abbrev s4 (w : World) (N o0 o1 o2 o3 : Nat) (a b c d : Int) : World := (((w.setCell ⟨N, o0, none⟩ (.int .i64 a)).setCell ⟨N, o1, none⟩ (.int .i64 b)).setCell ⟨N, o2, none⟩ (.int .i64 c)).setCell ⟨N, o3, none⟩ (.int .i64 d)

theorem s4_far (w : World) (N o0 o1 o2 o3 : Nat) (a b c d : Int) (k : Nat) (h : k ≠ N) : (s4 w N o0 o1 o2 o3 a b c d).heap[k]? = w.heap[k]? := by
  rw [heap_setCell_far _ _ _ _ h, heap_setCell_far _ _ _ _ h, heap_setCell_far _ _ _ _ h, heap_setCell_far _ _ _ _ h]

theorem Q4.s4 {w : World} {T : Nat} {a b c d : Int} (h : Q4 w T a b c d) (a' b' c' d' : Int) : Q4 (s4 w T 0 1 2 3 a' b' c' d') T a' b' c' d' :=
  ((((h.set1 a').1.set1 b').2.1.set1 c').2.2.1.set1 d').2.2.2

set_option maxHeartbeats 400000 in
theorem co_step {w wr wc : World} {f r : Int} {xs : List Int} {v : Value} {Zs : Array Value} {R L D T N m k : Nat} {A B C E : Int} (hc : CO w f r xs v Zs R L D T (m + 1) wr) (hn : NW D r wr N A C wc) (hk : f.toNat + k = m) (hm : m ≤ 150)
    (hA : cD r xs k = A) (hB : cN r xs k = B) (hC : cC r xs k = C) (hE : cM r xs k = E) (h1 : w.heap.size < R) (h2 : R < L) (h3 : L < D) (h4 : D < T) (h5 : T < wr.heap.size) :
    CO w f r xs v Zs R L D T m (s4 (s4 ((wc.setCell ⟨N, 1, none⟩ (.int .i64 B)).setCell ⟨N, 3, none⟩ (.int .i64 E)) R (2 + m * 4) (2 + m * 4 + 1) (2 + m * 4 + 2) (2 + m * 4 + 3) A B C E) T 0 1 2 3 A B C E) := by
  have hN := hn.new
  have hkk : m - f.toNat = k := by omega
  have far : ∀ j, j ≠ N → j ≠ R → j ≠ T → (s4 (s4 ((wc.setCell ⟨N, 1, none⟩ (.int .i64 B)).setCell ⟨N, 3, none⟩ (.int .i64 E)) R (2 + m * 4) (2 + m * 4 + 1) (2 + m * 4 + 2) (2 + m * 4 + 3) A B C E) T 0 1 2 3 A B C E).heap[j]? = wc.heap[j]? := by
    intro j j1 j2 j3
    rw [s4_far _ _ _ _ _ _ _ _ _ _ _ j3, s4_far _ _ _ _ _ _ _ _ _ _ _ j2, heap_setCell_far _ _ _ _ j1, heap_setCell_far _ _ _ _ j1]
  have old : ∀ j, j < wr.heap.size → j ≠ D → j ≠ R → j ≠ T → (s4 (s4 ((wc.setCell ⟨N, 1, none⟩ (.int .i64 B)).setCell ⟨N, 3, none⟩ (.int .i64 E)) R (2 + m * 4) (2 + m * 4 + 1) (2 + m * 4 + 2) (2 + m * 4 + 3) A B C E) T 0 1 2 3 A B C E).heap[j]? = wr.heap[j]? :=
    fun j j1 j2 j3 j4 => (far j (by omega) j3 j4).trans (hn.but.block j j1 j2)
  obtain ⟨G, hG, hGs⟩ := hc.res
  have mid : ∀ j, j < wr.heap.size → j ≠ D → ((wc.setCell ⟨N, 1, none⟩ (.int .i64 B)).setCell ⟨N, 3, none⟩ (.int .i64 E)).heap[j]? = wr.heap[j]? := by
    intro j j1 j2
    rw [heap_setCell_far _ _ _ _ (show j ≠ N by omega), heap_setCell_far _ _ _ _ (show j ≠ N by omega), hn.but.block j j1 j2]
  refine ⟨?_, ?_, ?_, ?_, ?_, ?_⟩
  · exact (World.cell?_of_block (w := wr) (a := ⟨w.heap.size, 0, none⟩) (old w.heap.size (by omega) (by omega) (by omega) (by omega))).trans hc.box
  · rw [old L (by omega) (by omega) (by omega) (by omega)]; exact hc.lives
  · exact hn.disc.same (far D (by omega) (by omega) (by omega))
  · rw [hkk, hA, hB, hC, hE]
    refine Q4.s4 (hc.later.same ?_) A B C E
    rw [s4_far _ _ _ _ _ _ _ _ _ _ _ (show T ≠ R by omega)]
    exact mid T h5 (by omega)
  · have g0 := hG.same (w' := (wc.setCell ⟨N, 1, none⟩ (.int .i64 B)).setCell ⟨N, 3, none⟩ (.int .i64 E)) (mid R (by omega) (by omega))
    have g4 := (((g0.set (m * 4) A (2 + m * 4) (by omega)).set (m * 4 + 1) B (2 + m * 4 + 1) (by omega)).set (m * 4 + 2) C (2 + m * 4 + 2) (by omega)).set (m * 4 + 3) E (2 + m * 4 + 3) (by omega)
    refine ⟨_, g4.same (s4_far _ _ _ _ _ _ _ _ _ _ _ (by omega)), ?_⟩
    intro m' h6 h7
    by_cases he : m' = m
    · subst he
      rw [hkk, hA, hB, hC, hE]
      refine ⟨?_, ?_, ?_, ?_⟩ <;> simp
    · obtain ⟨e0, e1, e2, e3⟩ := hGs m' (by omega) h7
      rw [← e0, ← e1, ← e2, ← e3]
      refine ⟨?_, ?_, ?_, ?_⟩ <;>
      · rw [if_neg (by omega), if_neg (by omega), if_neg (by omega), if_neg (by omega)]
  · have b1 : Below w.heap.size w wc := hc.below.trans (hn.but.below (by omega) (by omega))
    have b2 := (b1.setCell (p := ⟨N, 1, none⟩) (show w.heap.size ≤ N by omega) (.int .i64 B)).setCell (p := ⟨N, 3, none⟩) (show w.heap.size ≤ N by omega) (.int .i64 E)
    have b3 := (((b2.setCell (p := ⟨R, 2 + m * 4, none⟩) (show w.heap.size ≤ R by omega) (.int .i64 A)).setCell (p := ⟨R, 2 + m * 4 + 1, none⟩) (show w.heap.size ≤ R by omega) (.int .i64 B)).setCell (p := ⟨R, 2 + m * 4 + 2, none⟩) (show w.heap.size ≤ R by omega) (.int .i64 C)).setCell (p := ⟨R, 2 + m * 4 + 3, none⟩) (show w.heap.size ≤ R by omega) (.int .i64 E)
    exact (((b3.setCell (p := ⟨T, 0, none⟩) (show w.heap.size ≤ T by omega) (.int .i64 A)).setCell (p := ⟨T, 1, none⟩) (show w.heap.size ≤ T by omega) (.int .i64 B)).setCell (p := ⟨T, 2, none⟩) (show w.heap.size ≤ T by omega) (.int .i64 C)).setCell (p := ⟨T, 3, none⟩) (show w.heap.size ≤ T by omega) (.int .i64 E)

def CoPost (w : World) (f r : Int) (xs : List Int) (v : Value) (e : Ending) (W : World) : Prop :=
  ∃ R G, e = .returned (.pointer (some ⟨R, 0, none⟩)) ∧ w.heap.size ≤ R ∧ CBX W R f v G ∧ (∀ m, f.toNat ≤ m → m ≤ 150 → G (m * 4) = cD r xs (m - f.toNat) ∧ G (m * 4 + 1) = cN r xs (m - f.toNat) ∧ G (m * 4 + 2) = cC r xs (m - f.toNat) ∧ G (m * 4 + 3) = cM r xs (m - f.toNat)) ∧ Below w.heap.size w W

set_option maxHeartbeats 6000000 in
theorem co_any (r f : Int) (xs : List Int) (a : Option Addr) (l c : Nat) (w : World) (h : Ints w a l xs) (ht : LTab f xs) (r0 : 0 ≤ r) (r1 : r ≤ 200) :
    Calls Tryz.prog 67 #[.agg #[.int .i64 f, .slice a l c], .int .i64 r] w (CoPost w f r xs (.slice a l c)) := by
  have H := Lib.hid h
  have HT := Lib.hid ht
  obtain ⟨f0, f1⟩ := ht.1
  have hst := store_com f a l c (w.alloc (.cells #[.int .i64 f, .slice a l c] 26))
  rw [World.size_alloc] at hst
  have HB0 : Hid (Below w.heap.size w ((w.alloc (.cells #[.int .i64 f, .slice a l c] 26)).alloc (.cells (ccells f (.slice a l c) zG) 126))) := Lib.hid ((box_b _ _).alloc (by simp) _)
  have HR0 : Hid (CBX ((w.alloc (.cells #[.int .i64 f, .slice a l c] 26)).alloc (.cells (ccells f (.slice a l c) zG) 126)) (w.heap.size + 1) f (.slice a l c) zG) := Lib.hid (by have := cb_new f (.slice a l c) (w.alloc (.cells #[.int .i64 f, .slice a l c] 26)); rw [World.size_alloc] at this; exact this)
  have HX0 : Hid (((w.alloc (.cells #[.int .i64 f, .slice a l c] 26)).alloc (.cells (ccells f (.slice a l c) zG) 126)).cell? ⟨w.heap.size, 0, none⟩ = some (.int .i64 f)) := Lib.hid (by go_simp)
  clear h ht
  go_enter Tryz.func67, Tryz.ntmps67
  go_wp2_with fail
  obtain ⟨W1, hW1⟩ : ∃ W, (w.alloc (.cells #[.int .i64 f, .slice a l c] 26)).alloc (.cells (ccells f (.slice a l c) zG) 126) = W := ⟨_, rfl⟩
  have hs1 : w.heap.size + 2 ≤ W1.heap.size := by rw [← hW1]; simp
  rw [hW1] at HB0 HR0 HX0 ⊢
  clear hW1 hst
  with_reducible refine (byAge_r f xs _ _ _ _ (H.out.on HB0.out) HT.out).mono ?_
  rintro e w2 ⟨Zs, rfl, hz, hb⟩
  have hs2 := hb.size
  have HZ := Lib.hid hz
  have HB2 := Lib.hid (HB0.out.trans (hb.mono HB0.out.size))
  have HR2 : Hid (CBX w2 (w.heap.size + 1) f (.slice a l c) zG) := Lib.hid (HR0.out.same (hb.block _ (by omega)))
  have HX2 := Lib.hid (keep2 hb HX0.out)
  clear hz hb HB0 HR0 HX0
  have hst := store_dsc r (w2.alloc (.cells Zs 142))
  rw [World.size_alloc] at hst
  go_wp2_with (refine HZ.out.laid rfl (.tmp 6) (.tmp 15) rfl rfl rfl ?_)
  have hf := HT.out.fit
  have hco : CO w f r xs (.slice a l c) Zs (w.heap.size + 1) w2.heap.size (w2.heap.size + 1) (w2.heap.size + 1 + 1) 151 (((w2.alloc (.cells Zs 142)).alloc (.cells (dcells r 0 0 z121) 157)).alloc (.cells #[.int .i64 0, .int .i64 0, .int .i64 0, .int .i64 0] 62)) := by
    have b3 : Below w2.heap.size w2 (((w2.alloc (.cells Zs 142)).alloc (.cells (dcells r 0 0 z121) 157)).alloc (.cells #[.int .i64 0, .int .i64 0, .int .i64 0, .int .i64 0] 62)) := (((box_b _ _).alloc (by simp) _).alloc (by simp; omega) _)
    refine ⟨keep2 b3 HX2.out, ?_, ?_, ?_, ⟨zG, HR2.out.same (b3.block _ (by omega)), fun m h1 h2 => by omega⟩, HB2.out.trans (b3.mono (by omega))⟩
    · rw [Below.heap_alloc _ _ _ (by simp; omega), Below.heap_alloc _ _ _ (by simp)]
      exact heap_alloc_new _ _
    · have := db_new r (w2.alloc (.cells Zs 142))
      rw [World.size_alloc] at this
      exact this.same (Below.heap_alloc _ _ _ (by simp))
    · have := HT.out.cD_far r (151 - f.toNat) (by omega)
      have e2 := HT.out.cN_far r (151 - f.toNat) (by omega)
      have e3 := HT.out.cC_far r (151 - f.toNat) (by omega)
      have e4 := HT.out.cM_far r (151 - f.toNat) (by omega)
      rw [this, e2, e3, e4]
      unfold Q4
      have := heap_alloc_new ((w2.alloc (.cells Zs 142)).alloc (.cells (dcells r 0 0 z121) 157)) (.cells #[.int .i64 0, .int .i64 0, .int .i64 0, .int .i64 0] 62)
      rw [World.size_alloc, World.size_alloc] at this
      exact this
  have HCO := Lib.hid hco
  clear hco hst HX2 HR2
  go_loopw [9] (fun i wr => ∃ n : Nat, f.toNat ≤ n ∧ n ≤ 151 ∧ i = .int .i64 ((n : Int) - 1) ∧ Hid (CO w f r xs (.slice a l c) Zs (w.heap.size + 1) w2.heap.size (w2.heap.size + 1) (w2.heap.size + 1 + 1) n wr)) (fun i _ => (intOf i + 1).toNat)
  case atStart => exact ⟨151, by omega, by omega, by go_num, HCO⟩
  case round =>
    clear HCO
    obtain ⟨n, n0, n1, rfl, HC⟩ := hrel
    by_cases hlt : f.toNat < n
    · obtain ⟨m, rfl⟩ : ∃ m, n = m + 1 := ⟨n - 1, by omega⟩
      have ei : ((m + 1 : Nat) : Int) - 1 = (m : Int) := by omega
      rw [ei]
      obtain ⟨k, hk⟩ : ∃ k, m - f.toNat = k := ⟨_, rfl⟩
      have hge : f ≤ (m : Int) := by omega
      have hc0 := HC.out.box
      obtain ⟨u, hu⟩ : ∃ u, (byL f xs).getD m 0 = u := ⟨_, rfl⟩
      obtain ⟨v, hv⟩ : ∃ v, (byL f xs).getD (m + 1) 0 = v := ⟨_, rfl⟩
      have hx0 := HZ.out.read HC.out.lives m (by omega) u hu
      have hx1 := HZ.out.read HC.out.lives (m + 1) (by omega) v hv
      rw [byL_get _ _ _ (by omega), hk] at hu
      rw [byL_get _ _ _ (by omega), show m + 1 - f.toNat = k + 1 by omega] at hv
      have u0 := HT.out.nonneg k
      have u1 := HT.out.le k
      have v0 := HT.out.nonneg (k + 1)
      have vu := HT.out.step k
      rw [hu] at u0 u1 vu
      rw [hv] at v0 vu
      have hm0 : (0 : Int) ≤ (m : Int) := by omega
      have hm1 : (m : Int) < 152 := by omega
      have hm2 : (0 : Int) ≤ (m : Int) + 1 := by omega
      have hm3 : (m : Int) + 1 < 152 := by omega
      have q1 : IntKind.i64.wrap ((m : Int) + 1) = (m : Int) + 1 := IntWalk.i64_in _ (by omega)
      have q2 : IntKind.i64.wrap (u - v) = u - v := IntWalk.i64_in _ (by omega)
      have q3 : IntKind.i64.wrap ((m : Int) - f) = (k : Int) := by rw [IntWalk.i64_in _ (by omega)]; omega
      have q4 : IntKind.i64.wrap ((k : Int) + 1) = (k : Int) + 1 := IntWalk.i64_in _ (by omega)
      obtain ⟨A, hA⟩ : ∃ A, cD r xs k = A := ⟨_, rfl⟩
      obtain ⟨C, hC⟩ : ∃ C, cC r xs k = C := ⟨_, rfl⟩
      have C1 : Hid (∀ W, Hid (DB W (w2.heap.size + 1) r ∧ But (w2.heap.size + 1) wr W) → Calls Tryz.prog 107 #[.pointer (some ⟨w2.heap.size + 1, 0, none⟩), .int .i64 u, .int .i64 k] W (AfterPost (w2.heap.size + 1) r A W)) :=
        Lib.hid (fun W hW => by
          have := times_any (w2.heap.size + 1) r u k W hW.out.1 r0 r1 u0 u1
          rw [show (if k ≤ 120 then u * disc r k else 0) = A by
            rw [← hA, ← hu]; split
            · rfl
            · exact (HT.out.cD_far r k (by have := HT.out.short; omega)).symm] at this
          exact this)
      have C2 : Hid (∀ W, Hid (DB W (w2.heap.size + 1) r ∧ But (w2.heap.size + 1) wr W) → Calls Tryz.prog 107 #[.pointer (some ⟨w2.heap.size + 1, 0, none⟩), .int .i64 (u - v), .int .i64 ((k : Int) + 1)] W (AfterPost (w2.heap.size + 1) r C W)) :=
        Lib.hid (fun W hW => by
          have := times_any (w2.heap.size + 1) r (u - v) (k + 1) W hW.out.1 r0 r1 (by omega) (by omega)
          rw [show ((k + 1 : Nat) : Int) = (k : Int) + 1 by omega] at this
          rw [show (if k + 1 ≤ 120 then (u - v) * disc r (k + 1) else 0) = C by
            rw [← hC, ← hu, ← hv]; split
            · rfl
            · exact (HT.out.cC_far r k (by have := HT.out.short; omega)).symm] at this
          exact this)
      clear hu hv
      have hLw : w2.heap.size < wr.heap.size := by have := HC.out.disc.lt; omega
      have hLD : w2.heap.size ≠ w2.heap.size + 1 := by omega
      go_upto_region 9 with fail
      go_cut [11] from 29 to 45 (fun z wx => ∃ N : Nat, z = .pointer (some ⟨N, 0, none⟩) ∧ Hid (NW (w2.heap.size + 1) r wr N A C wx))
      case first =>
        go_region_held3 (fun W' => W'.cell? ⟨w2.heap.size, m, none⟩ = some (.int .i64 u) ∧ W'.cell? ⟨w2.heap.size, m + 1, none⟩ = some (.int .i64 v) ∧ Hid (DB W' (w2.heap.size + 1) r ∧ But (w2.heap.size + 1) wr W'))
          (first
            | (go_split_ands; exact ⟨by with_reducible assumption, by with_reducible assumption, by with_reducible assumption⟩)
            | (go_split_ands; with_reducible exact keep_set (by assumption) (by assumption) (by assumption) (by assumption) hLw)
            | (go_split_ands; with_reducible exact keep_call (by assumption) (by assumption) (by assumption) hdb ho hLD)
            | (go_split_ands; with_reducible exact keep_alloc (by assumption) (by assumption) (by assumption) _)
            | (go_split_ands; with_reducible exact keep_again (by assumption) (by assumption) (by assumption) hdb ho hLD _)
            | (go_split_ands; exact ⟨hx0, hx1, Lib.hid ⟨HC.out.disc, (But.refl _ _).drew⟩⟩)
            | (go_split_ands; with_reducible exact keep_drew hx0 hx1 HC.out.disc _))
          (first
            | (go_split_ands; go_at_call 107; ((with_reducible refine (C1.out _ (by with_reducible assumption)).mono ?_); rintro e w' ⟨rfl, hdb, ho⟩; (first | (have hF := new4d (wr := wr) (by with_reducible assumption) ho (Nat.le_refl _); obtain ⟨n0, n1, n2, n3, m0, m1, m2, m3, q⟩ := hF) | (have hF := new4 (wr := wr) (by with_reducible assumption) ho (by first | exact Nat.le_refl _ | exact Nat.le_of_eq (Hid.out HSZ).symm); obtain ⟨n0, n1, n2, n3, m0, m1, m2, m3, q⟩ := hF) | (have hF := old4 (wr := wr) (by with_reducible assumption) ho (by with_reducible assumption); obtain ⟨n0, n1, n2, n3, m0, m1, m2, m3, q⟩ := hF) | skip); have HSZ : Hid (w'.heap.size = _) := Lib.hid ho.size))
            | (go_split_ands; go_at_call 107; ((with_reducible refine (C2.out _ (by with_reducible assumption)).mono ?_); rintro e w' ⟨rfl, hdb, ho⟩; (first | (have hF := new4d (wr := wr) (by with_reducible assumption) ho (Nat.le_refl _); obtain ⟨n0, n1, n2, n3, m0, m1, m2, m3, q⟩ := hF) | (have hF := new4 (wr := wr) (by with_reducible assumption) ho (by first | exact Nat.le_refl _ | exact Nat.le_of_eq (Hid.out HSZ).symm); obtain ⟨n0, n1, n2, n3, m0, m1, m2, m3, q⟩ := hF) | (have hF := old4 (wr := wr) (by with_reducible assumption) ho (by with_reducible assumption); obtain ⟨n0, n1, n2, n3, m0, m1, m2, m3, q⟩ := hF) | skip); have HSZ : Hid (w'.heap.size = _) := Lib.hid ho.size)))
        all_goals
          go_split_ands
          go_wp2_with fail
          go_meet
          case rel =>
            first
              | exact ⟨_, rfl, Lib.hid (nw_allocx A C hdb (by with_reducible assumption) ho)⟩
              | exact ⟨_, rfl, Lib.hid (nw_setx A C (by with_reducible assumption) q)⟩
      case rest =>
        obtain ⟨N, rfl, HN⟩ := hcut
        obtain ⟨B, hB⟩ : ∃ A, cN r xs k = A := ⟨_, rfl⟩
        obtain ⟨E, hE⟩ : ∃ A, cM r xs k = A := ⟨_, rfl⟩
        obtain ⟨lB, hlB⟩ : ∃ A, cN r xs (k + 1) = A := ⟨_, rfl⟩
        obtain ⟨lE, hlE⟩ : ∃ A, cM r xs (k + 1) = A := ⟨_, rfl⟩
        have s1 := HT.out.cN_step r k
        have s2 := HT.out.cM_step r k
        rw [hB, hlB, hA] at s1
        rw [hE, hlE, hC] at s2
        have bA := HT.out.cD_bd r r0 k
        have bC := HT.out.cC_bd r r0 k
        have bB := HT.out.cN_bd r r0 (k + 1)
        have bE := HT.out.cM_bd r r0 (k + 1)
        rw [hA] at bA
        rw [hC] at bC
        rw [hlB] at bB
        rw [hlE] at bE
        have p1 : IntKind.i64.wrap (lB + A) = B := by rw [IntWalk.i64_in _ (by omega)]; exact s1.symm
        have p2 : IntKind.i64.wrap (lE + C) = E := by rw [IntWalk.i64_in _ (by omega)]; exact s2.symm
        have hnew := HN.out.new
        have hTw := HC.out.later.lt
        have htl := HC.out.later.same (w' := wc) (HN.out.but.block _ hTw (by omega))
        rw [show m + 1 - f.toNat = k + 1 by omega, hlB, hlE] at htl
        obtain ⟨G, hG, hGs⟩ := HC.out.res
        have hGc := hG.same (w' := wc) (HN.out.but.block _ (by omega) (by omega))
        obtain ⟨a0, a1, a2, a3⟩ := HN.out.now.cell
        have am1 := HN.out.now.free 1
        have am3 := HN.out.now.free 3
        obtain ⟨t0, t1, t2, t3⟩ := htl.cell
        have tm0 := htl.free 0
        have tm1 := htl.free 1
        have tm2 := htl.free 2
        have tm3 := htl.free 3
        have y0 := hGc.at (m * 4) (by omega) _ rfl (2 + m * 4) (by omega)
        have y1 := hGc.at (m * 4 + 1) (by omega) _ rfl (2 + m * 4 + 1) (by omega)
        have y2 := hGc.at (m * 4 + 2) (by omega) _ rfl (2 + m * 4 + 2) (by omega)
        have y3 := hGc.at (m * 4 + 3) (by omega) _ rfl (2 + m * 4 + 3) (by omega)
        have z0 := hGc.free (2 + m * 4)
        have z1 := hGc.free (2 + m * 4 + 1)
        have z2 := hGc.free (2 + m * 4 + 2)
        have z3 := hGc.free (2 + m * 4 + 3)
        have ne1 : N ≠ w.heap.size + 1 := by omega
        have ne2 : w.heap.size + 1 ≠ N := by omega
        have ne3 : N ≠ w2.heap.size + 1 + 1 := by omega
        have ne4 : w2.heap.size + 1 + 1 ≠ N := by omega
        have ne5 : w2.heap.size + 1 + 1 ≠ w.heap.size + 1 := by omega
        have ne6 : w.heap.size + 1 ≠ w2.heap.size + 1 + 1 := by omega
        have HST := Lib.hid (fun h1 h2 h3 => co_step HC.out HN.out (show f.toNat + k = m by omega) (by omega) hA hB hC hE h1 h2 h3 (by omega) hTw)
        clear hx0 hx1 C1 C2 u0 u1 v0 vu hG hGc hGs htl q1 q2 q3 q4 s1 s2 bA bC bB bE hA hC hB hE hlB hlE
        go_wp2_with fail
        go_roundw
        case rel => exact ⟨m, by omega, by omega, rfl, Lib.hid (HST.out (by omega) (by omega) (by omega))⟩
        case measure => simp [intOf]
    · have hc0 := HC.out.box
      have hge : ¬ f ≤ (n : Int) - 1 := by omega
      go_wp2_with fail
      go_ret
      have en : n = f.toNat := by omega
      subst en
      obtain ⟨G, hG, hGs⟩ := HC.out.res
      exact ⟨_, G, rfl, by omega, hG, hGs, HC.out.below⟩

end Go.Proofs.YtdlfofdibooidaaGreat
