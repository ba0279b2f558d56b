/- Sickness: the program's value of a benefit: the numbers of the years, summed up by a deferred function. -/
import Derived.Test.YtgfemcpjkdepdaaSicC
import Derived.Test.YtgfemcpjkdepdaaTill
import Derived.Defers
import Derived.Laws.Pointers
namespace Go.Proofs.Ytgfemcpjkdepdaa
open Go.ChangeShapes Go.WideShapes Go.ChangeAt Go.RowKit
set_option linter.unusedVariables false
set_option linter.unusedSimpArgs false
set_option maxRecDepth 100000

theorem colL_sum (F : Nat → Int) (k : Nat) : (colL F k).sum = fsum F 0 k := by
  induction k with
  | zero => rfl
  | succ k ih => rw [colL_snoc, List.sum_append, ih, fsum]; simp

theorem colL_takes (F : Nat → Int) (n k : Nat) : (colL F n).take k = colL F (min k n) := by
  unfold colL
  rw [← List.map_take, List.take_range]

theorem vdef_any (L : List Int) (H M : Nat) (a : Option Addr) (l c : Nat) (x : Value) (u : FrameMode) (w : World) (hv : w.cell? ⟨H, 0, none⟩ = some (.slice a l c)) (hi : Ints w a l L) (hlc : l ≤ c) (hs : ∀ k, 0 ≤ (L.take k).sum ∧ (L.take k).sum ≤ 1000000000000) (hm : w.cell? ⟨M, 0, none⟩ = some x) (hz : w.frozen? ⟨M, 0, none⟩ = false) :
    CallsD Try.prog 63 #[.pointer (some ⟨H, 0, none⟩), .pointer (some ⟨M, 0, none⟩)] u w fun e u' w' => u' = u ∧ (e = .returned (.tuple #[]) ∧ w' = w.setCell ⟨M, 0, none⟩ (.int .i64 L.sum)) := by
  have CT := Lib.hid (tot_any L a l c w hi hlc hs)
  clear hi hs
  go_enter_d Try.func63, Try.ntmps63
  go_wp2_with (go_at_call 40; refine (CT.out).mono ?_; rintro e w' ⟨rfl, rfl⟩)
  go_end0
  exact ⟨rfl, rfl⟩

/-- what the reckoning of a value keeps -/
structure SV (w : World) (R : Nat) (r f : Int) (xs : List Int) (v : Value) (g : Int) (ys : List Int) (b : Option Addr) (m d : Nat) (x n : Int) (W : World) : Prop where
  bx : Bx W w.heap.size [.pointer (some ⟨R, 0, none⟩), .int .i64 g, .slice b m d, .int .i64 x, .int .i64 n]
  rs : Bx W (w.heap.size + 1) [.int .i64 0]
  co : Cols W R r f xs v
  yy : Ints W b m ys
  low : Below w.heap.size w W
  sz : w.heap.size + 3 < W.heap.size

theorem SV.on {w : World} {R : Nat} {r f : Int} {xs : List Int} {v : Value} {g : Int} {ys : List Int} {b : Option Addr} {m d : Nat} {x n : Int} {W W' : World} (h : SV w R r f xs v g ys b m d x n W) (hb : Below W.heap.size W W') : SV w R r f xs v g ys b m d x n W' :=
  ⟨h.bx.on hb, h.rs.on hb, h.co.on hb, h.yy.on hb, h.low.trans (hb.mono h.low.size), Nat.lt_of_lt_of_le h.sz hb.size⟩

theorem SV.drew {w : World} {R : Nat} {r f : Int} {xs : List Int} {v : Value} {g : Int} {ys : List Int} {b : Option Addr} {m d : Nat} {x n : Int} {W : World} (h : SV w R r f xs v g ys b m d x n W) : SV w R r f xs v g ys b m d x n W.drew := h.on (Below.drew (Below.refl _ _))

/-- behind an append to the numbers -/
theorem SV.app {w : World} {R : Nat} {r f : Int} {xs : List Int} {v : Value} {g : Int} {ys : List Int} {b : Option Addr} {m d : Nat} {x n : Int} {W w5 : World} {row : Option Nat} (h : SV w R r f xs v g ys b m d x n W) (hg : W.grownBy w5 row) (hr : ∀ k, row = some k → w.heap.size + 2 ≤ k) (hR : R < w.heap.size) (hY : Ints w b m ys) : SV w R r f xs v g ys b m d x n w5 := by
  have hs := h.sz
  have far : ∀ k, k < w.heap.size + 2 → w5.heap[k]? = W.heap[k]? := fun k hk => hg.block k (by omega) (fun e => by have := hr k e.symm; omega)
  have hl := h.low.grown hg (by omega) (fun k hk => by have := hr k hk; omega)
  exact ⟨h.bx.same (far _ (by omega)), h.rs.same (far _ (by omega)), h.co.same (far _ (by omega)), hY.on hl, hl, Nat.lt_of_lt_of_le hs hg.size⟩

/-- .. and behind a store into the numbers' header -/
theorem SV.set {w : World} {R : Nat} {r f : Int} {xs : List Int} {v : Value} {g : Int} {ys : List Int} {b : Option Addr} {m d : Nat} {x n : Int} {W : World} (h : SV w R r f xs v g ys b m d x n W) (u : Value) (hR : R < w.heap.size) (hY : Ints w b m ys) : SV w R r f xs v g ys b m d x n (W.setCell ⟨w.heap.size + 3, 0, none⟩ u) := by
  have far : ∀ k, k < w.heap.size + 3 → (W.setCell ⟨w.heap.size + 3, 0, none⟩ u).heap[k]? = W.heap[k]? := fun k hk => far_setCell _ _ _ _ (by show k ≠ w.heap.size + 3; omega)
  have hl := h.low.setCell (p := ⟨w.heap.size + 3, 0, none⟩) (by show w.heap.size ≤ w.heap.size + 3; omega) u
  exact ⟨h.bx.same (far _ (by omega)), h.rs.same (far _ (by omega)), h.co.same (far _ (by omega)), hY.on hl, hl, by have := h.sz; simpa [World.setCell] using this⟩

/-- .. with the numbers so far -/
structure SG (w : World) (R : Nat) (r f : Int) (xs : List Int) (v : Value) (g : Int) (ys : List Int) (b : Option Addr) (m d : Nat) (x n : Int) (u : Value) (L : List Int) (W : World) : Prop where
  sv : SV w R r f xs v g ys b m d x n W
  hd : Bx W (w.heap.size + 3) [u]
  own : OwnI (w.heap.size + 2) W u L
  ne : u.ownBlock ≠ some (w.heap.size + 3)

theorem SG.on {w : World} {R : Nat} {r f : Int} {xs : List Int} {v : Value} {g : Int} {ys : List Int} {b : Option Addr} {m d : Nat} {x n : Int} {u : Value} {L : List Int} {W W' : World} (h : SG w R r f xs v g ys b m d x n u L W) (hb : Below W.heap.size W W') : SG w R r f xs v g ys b m d x n u L W' :=
  ⟨h.sv.on hb, h.hd.on hb, h.own.on hb, h.ne⟩

theorem Bx.one {w : World} {B : Nat} {x : Value} (h : Bx w B [x]) : w.cell? ⟨B, 0, none⟩ = some x := by
  obtain ⟨T, h⟩ := h
  simp [World.cell?, h]

theorem Bx.put1 {w : World} {B : Nat} {x : Value} (h : Bx w B [x]) (z : Value) : Bx (w.setCell ⟨B, 0, none⟩ z) B [z] := by
  have hl := h.lt
  obtain ⟨T, h⟩ := h
  rw [Array.getElem?_eq_getElem hl] at h
  have h' : w.heap[B] = .cells [x].toArray T (0, 0) := by simpa using h
  exact ⟨T, by simp [World.setCell, Array.getElem?_modify, Array.getElem?_eq_getElem hl, h']⟩

/-- .. as the reckoning begins -/
theorem SG.new {w : World} {R : Nat} {r f : Int} {xs : List Int} {v : Value} {g : Int} {ys : List Int} {b : Option Addr} {m d : Nat} {x n : Int} (T1 T2 T4 : TypeId) (hc : Cols w R r f xs v) (hy : Ints w b m ys) :
    SG w R r f xs v g ys b m d x n (.slice (some ⟨w.heap.size + 2, 0, none⟩) 0 0) [] ((((w.alloc (.cells #[.pointer (some ⟨R, 0, none⟩), .int .i64 g, .slice b m d, .int .i64 x, .int .i64 n] T1)).alloc (.cells #[.int .i64 0] T2)).alloc (.cells #[] 2)).alloc (.cells #[.slice (some ⟨w.heap.size + 2, 0, none⟩) 0 0] T4)) := by
  have p1 := Bx.new w [.pointer (some ⟨R, 0, none⟩), .int .i64 g, .slice b m d, .int .i64 x, .int .i64 n] T1
  have c1 := hc.on (box_b w (.cells #[.pointer (some ⟨R, 0, none⟩), .int .i64 g, .slice b m d, .int .i64 x, .int .i64 n] T1))
  have y1 := hy.on (box_b w (.cells #[.pointer (some ⟨R, 0, none⟩), .int .i64 g, .slice b m d, .int .i64 x, .int .i64 n] T1))
  have l1 := box_b w (.cells #[.pointer (some ⟨R, 0, none⟩), .int .i64 g, .slice b m d, .int .i64 x, .int .i64 n] T1)
  have s1 := World.size_alloc w (.cells #[.pointer (some ⟨R, 0, none⟩), .int .i64 g, .slice b m d, .int .i64 x, .int .i64 n] T1)
  generalize w.alloc (.cells #[.pointer (some ⟨R, 0, none⟩), .int .i64 g, .slice b m d, .int .i64 x, .int .i64 n] T1) = W1 at *
  have p2 := Bx.new W1 [.int .i64 0] T2
  rw [s1] at p2
  have hb1 := box_b W1 (.cells #[.int .i64 0] T2)
  have s2 := World.size_alloc W1 (.cells #[.int .i64 0] T2)
  rw [s1] at s2
  generalize W1.alloc (.cells #[.int .i64 0] T2) = W2 at *
  have o3 := ownI_new W2
  rw [s2] at o3
  have hb2 := box_b W2 (.cells #[] 2)
  have s3 := World.size_alloc W2 (.cells #[] 2)
  rw [s2] at s3
  generalize W2.alloc (.cells #[] 2) = W3 at *
  have p4 := Bx.new W3 [.slice (some ⟨w.heap.size + 2, 0, none⟩) 0 0] T4
  rw [s3] at p4
  have hb3 := box_b W3 (.cells #[.slice (some ⟨w.heap.size + 2, 0, none⟩) 0 0] T4)
  have s4 := World.size_alloc W3 (.cells #[.slice (some ⟨w.heap.size + 2, 0, none⟩) 0 0] T4)
  rw [s3] at s4
  exact ⟨⟨((p1.on hb1).on hb2).on hb3, (p2.on hb2).on hb3, ((c1.on hb1).on hb2).on hb3, ((y1.on hb1).on hb2).on hb3, ((l1.trans (hb1.mono (by omega))).trans (hb2.mono (by omega))).trans (hb3.mono (by omega)), by omega⟩, p4, o3.on hb3, by simp [Value.ownBlock]⟩

end Go.Proofs.Ytgfemcpjkdepdaa
