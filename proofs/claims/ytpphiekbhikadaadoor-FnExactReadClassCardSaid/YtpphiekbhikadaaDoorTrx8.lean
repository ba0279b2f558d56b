/- Merged: Tol, Top, Two. -/
import Derived.Test.YtpphiekbhikadaaDoorTrx2
import Derived.Test.YtpphiekbhikadaaDoorTrx7

/- Tontines: the living ones in memory, linked in the order of their numbers; who dies is unlinked. -/
namespace Go.Proofs.YtpphiekbhikadaaDoor
open Go.ChangeShapes Go.WideShapes Go.ChangeAt Go.RowKit
set_option linter.unusedVariables false

/-- all blocks but those from b to e are as they were -/
structure Zon (b e : Nat) (w w' : World) : Prop where
  os : w'.os = w.os
  tape : w'.tape = w.tape
  output : w'.output = w.output
  size : w.heap.size ≤ w'.heap.size
  block : ∀ k, k < w.heap.size → (k < b ∨ e ≤ k) → w'.heap[k]? = w.heap[k]?

theorem Zon.refl (b e : Nat) (w : World) : Zon b e w w := ⟨rfl, rfl, rfl, Nat.le_refl _, fun _ _ _ => rfl⟩

theorem Zon.trans {b e : Nat} {u v w : World} (h : Zon b e u v) (k : Zon b e v w) : Zon b e u w :=
  ⟨k.os.trans h.os, k.tape.trans h.tape, k.output.trans h.output, Nat.le_trans h.size k.size, fun i hi hb => (k.block i (Nat.lt_of_lt_of_le hi h.size) hb).trans (h.block i hi hb)⟩

theorem Zon.of {b e : Nat} {w w' : World} (h : Below w.heap.size w w') : Zon b e w w' := ⟨h.os, h.tape, h.output, h.size, fun k hk _ => h.block k hk⟩

theorem Zon.step {b e : Nat} {u v w : World} (h : Zon b e u v) (k : Below v.heap.size v w) : Zon b e u w := h.trans (Zon.of k)

theorem Zon.drew {b e : Nat} {u w : World} (h : Zon b e u w) : Zon b e u w.drew := ⟨h.os, h.tape, h.output, h.size, h.block⟩

theorem Zon.setCell {b e : Nat} {u w : World} (h : Zon b e u w) {p : Addr} (h1 : b ≤ p.block) (h2 : p.block < e) (v : Value) : Zon b e u (w.setCell p v) :=
  h.trans ⟨rfl, rfl, rfl, by simp [World.setCell], fun k _ hk => Below.heap_setCell _ _ _ _ (by omega)⟩

theorem Zon.below {b e c : Nat} {u w : World} (h : Zon b e u w) (hc : c ≤ b) (hs : c ≤ u.heap.size) : Below c u w := ⟨h.os, h.tape, h.output, h.size, fun k hk => h.block k (by omega) (.inl (by omega))⟩

theorem Zon.mono {b e d g : Nat} {u w : World} (h : Zon b e u w) (h1 : d ≤ b) (h2 : e ≤ g) : Zon d g u w := ⟨h.os, h.tape, h.output, h.size, fun k hk hd => h.block k hk (by omega)⟩

theorem Bx.setAt {w : World} {B : Nat} {vs : List Value} (h : Bx w B vs) (i : Nat) (z : Value) : Bx (w.setCell ⟨B, i, none⟩ z) B (vs.set i z) := by
  have hl := h.lt
  obtain ⟨T, h⟩ := h
  rw [Array.getElem?_eq_getElem hl] at h
  have h' : w.heap[B] = .cells vs.toArray T (0, 0) := by simpa using h
  refine ⟨T, ?_⟩
  show (w.heap.modify B _)[B]? = _
  rw [Array.getElem?_modify, if_pos rfl, Array.getElem?_eq_getElem hl, h']
  simp

theorem Bx.threeT {w : World} {B : Nat} {x y z : Value} (h : Bx w B [x, y, z]) : w.cell? ⟨B, 0, none⟩ = some x ∧ w.cell? ⟨B, 1, none⟩ = some y ∧ w.cell? ⟨B, 2, none⟩ = some z := by
  obtain ⟨T, h⟩ := h
  simp [World.cell?, h]

/-- a pointer to a linked one -/
def pO (N : Nat) : Option Nat → Value
  | none => .pointer none
  | some i => .pointer (some ⟨N + i, 0, none⟩)

/-- the block whose pointer leads to the j-th linked one -/
def bfN (H N : Nat) (L : List Nat) : Nat → Nat
  | 0 => H
  | j + 1 => N + L.getD j 0

/-- the numbers of L are linked, behind the head H -/
structure Lnk (w : World) (H N : Nat) (sh : List Int) (L : List Nat) : Prop where
  h : Bx w H [.int .i64 0, .int .i64 0, pO N L[0]?]
  n : ∀ j i : Nat, L[j]? = some i → Bx w (N + i) [.int .i64 (i : Int), .int .i64 (sh.getD i 0), pO N L[j + 1]?]
  a : L.Pairwise (· < ·)
  b : ∀ i ∈ L, i < sh.length
  hn : H < N

theorem Lnk.same {w w' : World} {H N : Nat} {sh : List Int} {L : List Nat} (h : Lnk w H N sh L) (he : ∀ k, k = H ∨ N ≤ k ∧ k < N + sh.length → w'.heap[k]? = w.heap[k]?) : Lnk w' H N sh L :=
  ⟨h.h.same (he _ (.inl rfl)), fun j i hj => (h.n j i hj).same (he _ (.inr ⟨by omega, by have := h.b i (List.mem_of_getElem? hj); omega⟩)), h.a, h.b, h.hn⟩

/-- the cell that leads to the j-th one -/
theorem Lnk.to {w : World} {H N : Nat} {sh : List Int} {L : List Nat} (h : Lnk w H N sh L) {j : Nat} (hj : j ≤ L.length) : ∃ x y, Bx w (bfN H N L j) [x, y, pO N L[j]?] := by
  cases j with
  | zero => exact ⟨_, _, h.h⟩
  | succ j =>
    have hl : j < L.length := by omega
    have := h.n j L[j] (List.getElem?_eq_getElem hl)
    exact ⟨_, _, by simpa [bfN, List.getD, hl] using this⟩

theorem Lnk.bf {w : World} {H N : Nat} {sh : List Int} {L : List Nat} (h : Lnk w H N sh L) {j : Nat} (hj : j ≤ L.length) : bfN H N L j = H ∨ N ≤ bfN H N L j ∧ bfN H N L j < N + sh.length := by
  cases j with
  | zero => exact .inl rfl
  | succ j =>
    have hl : j < L.length := by omega
    have := h.b L[j] (List.getElem_mem hl)
    have e : bfN H N L (j + 1) = N + L[j] := by simp [bfN, List.getD, hl]
    rw [e]
    exact .inr ⟨by omega, by omega⟩

theorem Lnk.zero {w : World} {H N : Nat} {sh : List Int} (h : Bx w H [.int .i64 0, .int .i64 0, .pointer none]) (hn : H < N) : Lnk w H N sh [] :=
  ⟨h, (fun j i hj => by simp at hj), List.Pairwise.nil, (fun i hi => by simp at hi), hn⟩

/-- one more, behind all others -/
theorem Lnk.add {w : World} {H N : Nat} {sh : List Int} {L : List Nat} (h : Lnk w H N sh L) {m : Nat} (hm : ∀ i ∈ L, i < m) (ms : m < sh.length) (hN : w.heap.size = N + m) (T : TypeId) :
    Lnk ((w.alloc (.cells #[.int .i64 (m : Int), .int .i64 (sh.getD m 0), .pointer none] T)).setCell ⟨bfN H N L L.length, 2, none⟩ (.pointer (some ⟨w.heap.size, 0, none⟩))) H N sh (L ++ [m]) := by
  have hb := box_b w (.cells #[.int .i64 (m : Int), .int .i64 (sh.getD m 0), .pointer none] T)
  have hnew := Bx.new w [.int .i64 (m : Int), .int .i64 (sh.getD m 0), .pointer none] T
  have hp : Value.pointer (some ⟨w.heap.size, 0, none⟩) = pO N (some m) := by rw [hN]; rfl
  have hP := List.pairwise_iff_getElem.1 h.a
  have hA : (L ++ [m]).Pairwise (· < ·) := by
    rw [List.pairwise_append]
    exact ⟨h.a, List.pairwise_singleton _ _, fun a ha b hb => by simp at hb; subst hb; exact hm a ha⟩
  have hB : ∀ i ∈ L ++ [m], i < sh.length := fun i hi => by
    rcases List.mem_append.1 hi with h1 | h1
    · exact h.b i h1
    · simp at h1; subst h1; exact ms
  have hhn := h.hn
  rw [hp]
  rcases Nat.eq_zero_or_pos L.length with h0 | h0
  · obtain rfl : L = [] := List.length_eq_zero_iff.1 h0
    refine ⟨(h.h.on hb).setAt 2 _, ?_, hA, hB, h.hn⟩
    intro j i hj
    cases j with
    | zero =>
      obtain rfl : m = i := by simpa using hj
      rw [hN] at hnew
      exact hnew.same (far_setCell _ _ _ _ (by show N + m ≠ H; omega))
    | succ j => simp at hj
  · obtain ⟨p, hpl⟩ : ∃ p, L.length = p + 1 := ⟨L.length - 1, by omega⟩
    have hl : p < L.length := by omega
    have hbf : bfN H N L L.length = N + L[p] := by rw [hpl]; simp [bfN, List.getD, hl]
    rw [hbf]
    have hlm := hm _ (List.getElem_mem hl)
    refine ⟨?_, ?_, hA, hB, h.hn⟩
    · rw [List.getElem?_append_left h0]
      exact (h.h.on hb).same (far_setCell _ _ _ _ (by show H ≠ N + L[p]; omega))
    · intro j i hj
      by_cases h1 : j < L.length
      · rw [List.getElem?_append_left h1] at hj
        have hji : L[j] = i := by rw [List.getElem?_eq_getElem h1] at hj; simpa using hj
        by_cases h2 : j = p
        · subst h2
          subst hji
          have e : (L ++ [m])[j + 1]? = some m := by rw [List.getElem?_append_right (by omega)]; simp [hpl]
          rw [e]
          exact ((h.n j _ hj).on hb).setAt 2 _
        · rw [List.getElem?_append_left (by omega)]
          refine ((h.n j _ hj).on hb).same (far_setCell _ _ _ _ ?_)
          show N + i ≠ N + L[p]
          have := hP j p h1 hl (by omega)
          omega
      · rw [List.getElem?_append_right (by omega)] at hj
        have hjl : j = L.length := by
          rcases Nat.lt_or_ge (j - L.length) 1 with h3 | h3
          · omega
          · rw [List.getElem?_eq_none (by simpa using h3)] at hj; cases hj
        subst hjl
        obtain rfl : m = i := by simpa using hj
        rw [List.getElem?_eq_none (by simp)]
        rw [hN] at hnew
        exact hnew.same (far_setCell _ _ _ _ (by show N + m ≠ N + L[p]; omega))

theorem Lnk.cut {w : World} {H N : Nat} {sh : List Int} {L : List Nat} (h : Lnk w H N sh L) {j : Nat} (hj : j < L.length) :
    Lnk (w.setCell ⟨bfN H N L j, 2, none⟩ (pO N L[j + 1]?)) H N sh (L.take j ++ L.drop (j + 1)) := by
  rw [← List.eraseIdx_eq_take_drop_succ]
  have hP := List.pairwise_iff_getElem.1 h.a
  have ne : ∀ x y i k : Nat, L[x]? = some i → L[y]? = some k → x ≠ y → N + i ≠ N + k := by
    intro x y i k hx hy hxy
    obtain ⟨hx1, rfl⟩ := List.getElem?_eq_some_iff.1 hx
    obtain ⟨hy1, rfl⟩ := List.getElem?_eq_some_iff.1 hy
    rcases Nat.lt_or_gt_of_ne hxy with e | e
    · have := hP x y hx1 hy1 e; omega
    · have := hP y x hy1 hx1 e; omega
  have hA := h.a.sublist (List.eraseIdx_sublist L j)
  have hB : ∀ i ∈ L.eraseIdx j, i < sh.length := fun i hi => h.b i ((List.eraseIdx_sublist L j).subset hi)
  cases j with
  | zero =>
    refine ⟨?_, ?_, hA, hB, h.hn⟩
    · have := h.h.setAt 2 (pO N L[0 + 1]?)
      rw [List.getElem?_eraseIdx, if_neg (by omega)]
      exact this
    · intro k i hk
      rw [List.getElem?_eraseIdx, if_neg (by omega)] at hk
      rw [List.getElem?_eraseIdx, if_neg (by omega)]
      exact (h.n (k + 1) i hk).same (far_setCell _ _ _ _ (by show N + i ≠ H; have := h.hn; omega))
  | succ j =>
    have hl : j < L.length := by omega
    have hb : bfN H N L (j + 1) = N + L[j] := by simp [bfN, List.getD, hl]
    rw [hb]
    have hjs : L[j]? = some L[j] := List.getElem?_eq_getElem hl
    refine ⟨?_, ?_, hA, hB, h.hn⟩
    · rw [List.getElem?_eraseIdx, if_pos (by omega)]
      exact h.h.same (far_setCell w ⟨N + L[j], 2, none⟩ _ H (by show H ≠ N + L[j]; have := h.hn; omega))
    · intro k i hk
      rw [List.getElem?_eraseIdx] at hk
      by_cases h1 : k < j + 1
      · rw [if_pos h1] at hk
        by_cases h2 : k = j
        · subst h2
          rw [hjs] at hk
          obtain rfl : L[k] = i := by simpa using hk
          rw [List.getElem?_eraseIdx, if_neg (by omega)]
          exact (h.n k _ hjs).setAt 2 (pO N L[k + 1 + 1]?)
        · rw [List.getElem?_eraseIdx, if_pos (by omega)]
          exact (h.n k i hk).same (far_setCell _ _ _ _ (ne k j i _ hk hjs h2))
      · rw [if_neg h1] at hk
        rw [List.getElem?_eraseIdx, if_neg (by omega)]
        exact (h.n (k + 1) i hk).same (far_setCell _ _ _ _ (ne (k + 1) j i _ hk hjs (by omega)))

/-- a tontine in memory: its members' shares are told by v; those whom D doesn't tell are linked -/
structure Tn (b : Nat) (v : Value) (sh : List Int) (T H N : Nat) (D : List Int) (ch : Int) (w : World) : Prop where
  t : Bx w T [v, .pointer (some ⟨H, 0, none⟩), .int .i64 ch]
  k : Lnk w H N sh (livL D sh.length)
  bt : b ≤ T
  bh : b ≤ H
  tn : T < N
  th : T ≠ H
  sz : N + sh.length ≤ w.heap.size

theorem Tn.same {b : Nat} {v : Value} {sh : List Int} {T H N : Nat} {D : List Int} {ch : Int} {w w' : World} (h : Tn b v sh T H N D ch w) (hs : w.heap.size ≤ w'.heap.size) (he : ∀ k, b ≤ k → k < N + sh.length → w'.heap[k]? = w.heap[k]?) : Tn b v sh T H N D ch w' :=
  ⟨h.t.same (he _ h.bt (by have := h.tn; omega)), h.k.same (fun k hk => he k (by have := h.bh; have := h.k.hn; omega) (by have := h.k.hn; omega)), h.bt, h.bh, h.tn, h.th, Nat.le_trans h.sz hs⟩

theorem Tn.on {b : Nat} {v : Value} {sh : List Int} {T H N : Nat} {D : List Int} {ch : Int} {w w' : World} (h : Tn b v sh T H N D ch w) (hb : Below w.heap.size w w') : Tn b v sh T H N D ch w' :=
  h.same hb.size fun k _ hk => hb.block k (by have := h.sz; omega)

theorem Tn.put {b : Nat} {v : Value} {sh : List Int} {T H N : Nat} {D : List Int} {ch : Int} {w : World} (h : Tn b v sh T H N D ch w) (c : Int) : Tn b v sh T H N D c (w.setCell ⟨T, 2, none⟩ (.int .i64 c)) :=
  ⟨h.t.setAt 2 _, h.k.same fun k hk => far_setCell _ _ _ _ (by have := h.tn; have := h.th; show k ≠ T; omega), h.bt, h.bh, h.tn, h.th, by simpa [World.setCell] using h.sz⟩

theorem Tn.cut {b : Nat} {v : Value} {sh : List Int} {T H N : Nat} {D : List Int} {ch : Int} {w : World} (h : Tn b v sh T H N D ch w) {j : Nat} (hj : j < (livL D sh.length).length) {m : Int} (hm : (((livL D sh.length).getD j 0 : Nat) : Int) = m) :
    Tn b v sh T H N (D ++ [m]) ch (w.setCell ⟨bfN H N (livL D sh.length) j, 2, none⟩ (pO N (livL D sh.length)[j + 1]?)) ∧ b ≤ bfN H N (livL D sh.length) j ∧ bfN H N (livL D sh.length) j < N + sh.length := by
  have h1 := h.k.cut hj
  rw [liv_cut hj, hm] at h1
  have h2 := h.k.bf (Nat.le_of_lt hj)
  have h3 := h.k.hn
  have h4 := h.bh
  have h5 := h.tn
  have h6 := h.th
  exact ⟨⟨h.t.same (far_setCell _ _ _ _ (by show T ≠ bfN H N (livL D sh.length) j; omega)), h1, h.bt, h.bh, h.tn, h.th, by simpa [World.setCell] using h.sz⟩, by omega, by omega⟩

end Go.Proofs.YtpphiekbhikadaaDoor

/- Tontines: the program's valid classes, members and histories. -/
namespace Go.Proofs.YtpphiekbhikadaaDoor
open Go.ChangeShapes Go.WideShapes Go.ChangeAt Go.RowKit
set_option linter.unusedVariables false
set_option maxRecDepth 100000

/-- behind a box of three cells -/
theorem bx3T {w w1 : World} {x y z : Value} {T : TypeId} (hb : Below (w.alloc (.cells #[x, y, z] T)).heap.size (w.alloc (.cells #[x, y, z] T)) w1) : Below w.heap.size w w1 ∧ Bx w1 w.heap.size [x, y, z] :=
  ⟨(box_b w (.cells #[x, y, z] T)).trans (hb.mono (by simp)), (Bx.new w [x, y, z] T).on hb⟩

/-- a slice of slices of integers -/
structure IntsS (w : World) (a : Option Addr) (l : Nat) (dss : List (List Int)) : Prop where
  len : dss.length = l
  max : l ≤ 4611686018427387904
  cells : l = 0 ∨ ∃ b off, a = some ⟨b, off, none⟩ ∧ ∀ i, i < l → ∃ x n c, w.cell? ⟨b, off + i, none⟩ = some (.slice x n c) ∧ Ints w x n (dss.getD i [])

theorem IntsS.on {w w' : World} {a : Option Addr} {l : Nat} {dss : List (List Int)} (h : IntsS w a l dss) (hb : Below w.heap.size w w') : IntsS w' a l dss := by
  refine ⟨h.len, h.max, ?_⟩
  rcases h.cells with h0 | ⟨b, off, rfl, hc⟩
  · exact .inl h0
  · refine .inr ⟨b, off, rfl, fun i hi => ?_⟩
    obtain ⟨x, n, c, h1, h2⟩ := hc i hi
    exact ⟨x, n, c, keep2 hb h1, h2.on hb⟩

theorem IntsS.at {w : World} {a : Option Addr} {l : Nat} {dss : List (List Int)} (h : IntsS w a l dss) {i : Nat} (hi : i < l) : ∃ b off x n c, a = some ⟨b, off, none⟩ ∧ b < w.heap.size ∧ w.cell? ⟨b, off + i, none⟩ = some (.slice x n c) ∧ Ints w x n (dss.getD i []) := by
  rcases h.cells with h0 | ⟨b, off, rfl, hc⟩
  · omega
  · obtain ⟨x, n, c, h1, h2⟩ := hc i hi
    exact ⟨b, off, x, n, c, rfl, block_lt h1, h1, h2⟩

/-- members who may be told -/
def toB (n : Nat) (ms : List Int) : Bool := decide (ms.length ≤ 120) && ms.all fun m => inB m 0 ((n : Int) - 1)

/-- a history that may be told -/
def hyB (n : Nat) (ins : List Int) (dss : List (List Int)) : Bool :=
  decide (ins.length = dss.length) && decide (ins.length ≤ 100) && (ins.all fun x => inB x 0 100000000) && dss.all fun ms => toB n ms

theorem allS_snoc {α : Type} (p : α → Bool) (z : α) (xs : List α) (k : Nat) (h : k < xs.length) : (xs.take (k + 1)).all p = ((xs.take k).all p && p (xs.getD k z)) := by
  rw [List.take_add_one, List.getElem?_eq_getElem h, Option.toList_some, List.all_append]
  simp [List.getD, h]

theorem allS_bad {α : Type} (p : α → Bool) (z : α) (xs : List α) (k : Nat) (h : k < xs.length) (hp : p (xs.getD k z) = false) : xs.all p = false := by
  rw [List.all_eq_false]
  refine ⟨xs[k], List.getElem_mem h, ?_⟩
  simp only [List.getD, List.getElem?_eq_getElem h, Option.getD_some] at hp
  simp [hp]

theorem thm_any (a : Option Addr) (l c : Nat) (v : Value) (ch n : Int) (w : World) (hl : l ≤ 4611686018427387904) :
    Calls Tryd.prog 49 #[.agg #[.slice a l c, v, .int .i64 ch], .int .i64 n] w fun e w' => e = .returned (.bool (inB n 0 ((l : Int) - 1))) ∧ Below w.heap.size w w' := by
  have q1 : IntKind.i64.wrap ((l : Int) - 1) = (l : Int) - 1 := IntWalk.i64_in _ (by omega)
  go_enter Tryd.func49, Tryd.ntmps49
  go_wp2_with (go_at_call 48; refine (within_any _ _ _ _).mono ?_; rintro e w' ⟨rfl, rfl⟩)
  go_ret
  exact ⟨rfl, box_b _ _⟩

/-- while a class is looked at -/
structure TCB (w : World) (u v : Value) (ch : Int) (W : World) : Prop where
  b : Bx W w.heap.size [u, v, .int .i64 ch]
  low : Below w.heap.size w W

theorem TCB.on {w W W' : World} {u v : Value} {ch : Int} (h : TCB w u v ch W) (hb : Below W.heap.size W W') : TCB w u v ch W' := ⟨h.b.on hb, h.low.trans (hb.mono h.low.size)⟩

theorem TCB.new (w : World) (u v : Value) (ch : Int) (T : TypeId) : TCB w u v ch (w.alloc (.cells #[u, v, .int .i64 ch] T)) := ⟨Bx.new w [u, v, .int .i64 ch] T, box_b _ _⟩

/-- while a year of a history is looked at -/
structure TY (w : World) (u v : Value) (ch : Int) (b o : Nat) (x : Option Addr) (n c : Nat) (ms : List Int) (W : World) : Prop where
  cb : TCB w u v ch W
  cell : W.cell? ⟨b, o, none⟩ = some (.slice x n c)
  i : Ints W x n ms

theorem TY.on {w W W' : World} {u v : Value} {ch : Int} {b o n c : Nat} {x : Option Addr} {ms : List Int} (h : TY w u v ch b o x n c ms W) (hb : Below W.heap.size W W') : TY w u v ch b o x n c ms W' := ⟨h.cb.on hb, keep2 hb h.cell, h.i.on hb⟩

theorem TY.drew {w W : World} {u v : Value} {ch : Int} {b o n c : Nat} {x : Option Addr} {ms : List Int} (h : TY w u v ch b o x n c ms W) : TY w u v ch b o x n c ms W.drew := h.on (Below.drew (Below.refl _ _))

theorem tyS {w W : World} {u v : Value} {ch : Int} {b o n c : Nat} {x : Option Addr} {ms : List Int} (h : TY w u v ch b o x n c ms W) :
    W.cell? ⟨w.heap.size, 0, none⟩ = some u ∧ W.cell? ⟨w.heap.size, 1, none⟩ = some v ∧ W.cell? ⟨w.heap.size, 2, none⟩ = some (.int .i64 ch) ∧ W.cell? ⟨b, o, none⟩ = some (.slice x n c) ∧ Hid (TY w u v ch b o x n c ms W) :=
  ⟨h.cb.b.threeT.1, h.cb.b.threeT.2.1, h.cb.b.threeT.2.2, h.cell, Lib.hid h⟩

theorem tcI_any (sh de : List Int) (a b : Option Addr) (l c m d : Nat) (ch : Int) (w : World) (h : Ints w a l sh) (g : Ints w b m de) :
    Calls Tryd.prog 20 #[.agg #[.slice a l c, .slice b m d, .int .i64 ch]] w fun e w' => e = .returned (.bool (tcB sh de ch)) ∧ Below w.heap.size w w' := by
  have HL := Lib.hid h.len
  have GL := Lib.hid g.len
  have H := Lib.hid h
  have G := Lib.hid g
  have hm := h.max
  have gm := g.max
  clear h g
  have HU : Hid (tcB sh de ch = (inB l 1 60 && inB ch 0 1000000000000 && sh.all (fun x => inB x 1 1000) && incB (-1) l de)) := Lib.hid (by unfold tcB; rw [HL.out])
  by_cases h1 : inB l 1 60 = true
  · by_cases h2 : inB ch 0 1000000000000 = true
    · have HU : Hid (tcB sh de ch = (sh.all (fun x => inB x 1 1000) && incB (-1) l de)) := Lib.hid (by rw [HU.out, h1, h2]; rfl)
      have HN := Lib.hid ((inB_iff _ _ _).1 h1)
      have HC0 := Lib.hid (TCB.new w (.slice a l c) (.slice b m d) ch 26)
      go_enter Tryd.func20, Tryd.ntmps20
      go_wp2_with (go_at_call 48; refine (within_any _ _ _ _).mono ?_; rintro e w' ⟨rfl, rfl⟩)
      go_loop [22] (fun i => ∃ k : Nat, k ≤ l ∧ i = .int .i64 k ∧ Hid ((sh.take k).all (fun x => inB x 1 1000) = true)) (fun i => l - (intOf i).toNat)
      case atStart => exact ⟨0, Nat.zero_le _, rfl, Lib.hid (by simp)⟩
      case round =>
        obtain ⟨k, hk, rfl, HA⟩ := hrel
        by_cases hlt : k < l
        · obtain ⟨b1, o1, rfl, hb1, hc⟩ := (H.out.on (box_b w (.cells #[.slice a l c, .slice b m d, .int .i64 ch] 26))).at (by omega)
          have hx := hc k hlt
          obtain ⟨v, hv⟩ : ∃ v, sh.getD k 0 = v := ⟨_, rfl⟩
          rw [hv] at hx
          have HV := Lib.hid hv
          clear hv hc hb1
          by_cases hin : inB v 1 1000 = true
          · go_wp2_with (go_at_call 48; refine (within_any _ _ _ _).mono ?_; rintro e w' ⟨rfl, rfl⟩)
            go_round
            case rel => exact ⟨k + 1, by omega, by go_num, Lib.hid (by rw [all_snoc _ _ _ (by rw [HL.out]; exact hlt), HA.out, HV.out, hin]; rfl)⟩
            case measure => simp [intOf]; omega
          · go_wp2_with (go_at_call 48; refine (within_any _ _ _ _).mono ?_; rintro e w' ⟨rfl, rfl⟩)
            go_ret
            exact ⟨ret_bool (by rw [HU.out, all_take _ sh k (by rw [HV.out]; simpa using hin) (by rw [HL.out]; exact hlt)]; rfl), HC0.out.low⟩
        · obtain rfl : k = l := by omega
          have HU : Hid (tcB sh de ch = incB (-1) k de) := Lib.hid (by
            have HA' := HA.out
            rw [List.take_of_length_le (by rw [HL.out]; exact Nat.le_refl _)] at HA'
            rw [HU.out, HA']; rfl)
          clear HA
          go_wp2_with fail
          go_loopw [5, 33] (fun p i wr => ∃ j : Nat, ∃ q : Int, j ≤ m ∧ i = .int .i64 j ∧ p = .int .i64 q ∧ Hid (incB (-1) k (de.take j) = true) ∧ Hid (lstI (-1) (de.take j) = q) ∧ -1 ≤ q ∧ q < k ∧ Hid (TCB w (.slice a k c) (.slice b m d) ch wr)) (fun _ i _ => m - (intOf i).toNat)
          case atStart => exact ⟨0, -1, Nat.zero_le _, rfl, rfl, Lib.hid (by simp [incB]), Lib.hid (by simp [lstI]), by omega, by have := HN.out; omega, HC0⟩
          case round =>
            obtain ⟨j, q, hj, rfl, rfl, HI, HQ, q0, q1, HC⟩ := hrel
            obtain ⟨c0, c1, c2⟩ := HC.out.b.threeT
            by_cases hlt : j < m
            · obtain ⟨b1, o1, rfl, hb1, hc⟩ := (G.out.on HC.out.low).at (by omega)
              have hx := hc j hlt
              obtain ⟨v, hv⟩ : ∃ v, de.getD j 0 = v := ⟨_, rfl⟩
              rw [hv] at hx
              have HV := Lib.hid hv
              have HS : Hid (incB (-1) k (de.take (j + 1)) = (decide (q < v) && decide (v < k))) := Lib.hid (by rw [inc_step _ _ _ _ (by rw [GL.out]; exact hlt), HI.out, HQ.out, hv, Bool.true_and])
              have HT : Hid (lstI (-1) (de.take (j + 1)) = v) := Lib.hid (by rw [lstI_take _ _ _ (by rw [GL.out]; exact hlt), hv])
              clear hv hc hb1
              by_cases hq : v ≤ q
              · have hqd : decide (v ≤ q) = true := by simpa using hq
                go_wp2_with fail
                go_ret
                exact ⟨ret_bool (by rw [HU.out, inc_bad (k := j + 1) (by rw [HS.out]; simp; omega)]), HC.out.low⟩
              · have hqd : decide (v ≤ q) = false := by simpa using hq
                by_cases hin : inB v 0 ((k : Int) - 1) = true
                · have hvk := (inB_iff _ _ _).1 hin
                  go_wp2_with (go_at_call 49; refine (thm_any _ _ _ _ _ _ _ hm).mono ?_; rintro e w1 ⟨rfl, hb⟩; have HC := Lib.hid (HC.out.on hb); clear hb)
                  go_roundw
                  case rel => exact ⟨j + 1, v, by omega, by go_num, rfl, Lib.hid (by rw [HS.out]; simp; omega), HT, by omega, by omega, HC⟩
                  case measure => simp [intOf]; omega
                · have hvk : ¬ v < k := by
                    intro hc
                    exact hin (inB_t (by omega) (by omega))
                  go_wp2_with (go_at_call 49; refine (thm_any _ _ _ _ _ _ _ hm).mono ?_; rintro e w1 ⟨rfl, hb⟩; have HC := Lib.hid (HC.out.on hb); clear hb)
                  go_ret
                  exact ⟨ret_bool (by rw [HU.out, inc_bad (k := j + 1) (by rw [HS.out]; simp [hvk])]), HC.out.low⟩
            · go_wp2_with fail
              go_ret
              obtain rfl : j = m := by omega
              have HI' := HI.out
              rw [List.take_of_length_le (by rw [GL.out]; exact Nat.le_refl _)] at HI'
              exact ⟨ret_bool (by rw [HU.out, HI']), HC.out.low⟩
    · have HU : Hid (tcB sh de ch = false) := Lib.hid (by rw [HU.out]; simp [h2])
      go_enter Tryd.func20, Tryd.ntmps20
      go_wp2_with (go_at_call 48; refine (within_any _ _ _ _).mono ?_; rintro e w' ⟨rfl, rfl⟩)
      go_ret
      exact ⟨ret_bool HU.out.symm, box_b _ _⟩
  · have HU : Hid (tcB sh de ch = false) := Lib.hid (by rw [HU.out]; simp [h1])
    go_enter Tryd.func20, Tryd.ntmps20
    go_wp2_with (go_at_call 48; refine (within_any _ _ _ _).mono ?_; rintro e w' ⟨rfl, rfl⟩)
    go_ret
    exact ⟨ret_bool HU.out.symm, box_b _ _⟩

theorem tto_any (a b : Option Addr) (l c m d : Nat) (v : Value) (ch : Int) (ms : List Int) (w : World) (hl : l ≤ 4611686018427387904) (g : Ints w b m ms) :
    Calls Tryd.prog 40 #[.agg #[.slice a l c, v, .int .i64 ch], .slice b m d] w fun e w' => e = .returned (.bool (toB l ms)) ∧ Below w.heap.size w w' := by
  have GL := Lib.hid g.len
  have G := Lib.hid g
  have gm := g.max
  clear g
  by_cases h1 : m ≤ 120
  · have HU : Hid (toB l ms = ms.all fun m => inB m 0 ((l : Int) - 1)) := Lib.hid (by unfold toB; rw [GL.out]; simp [h1])
    have h1' : decide ((m : Int) > 120) = false := by simp; omega
    have HC0 := Lib.hid (TCB.new w (.slice a l c) v ch 26)
    go_enter Tryd.func40, Tryd.ntmps40
    go_wp2_with fail
    go_loopw [12] (fun i wr => ∃ j : Nat, j ≤ m ∧ i = .int .i64 j ∧ Hid ((ms.take j).all (fun m => inB m 0 ((l : Int) - 1)) = true) ∧ Hid (TCB w (.slice a l c) v ch wr)) (fun i _ => m - (intOf i).toNat)
    case atStart => exact ⟨0, Nat.zero_le _, rfl, Lib.hid (by simp), HC0⟩
    case round =>
      obtain ⟨j, hj, rfl, HA, HC⟩ := hrel
      obtain ⟨c0, c1, c2⟩ := HC.out.b.threeT
      by_cases hlt : j < m
      · obtain ⟨b1, o1, rfl, hb1, hc⟩ := (G.out.on HC.out.low).at (by omega)
        have hx := hc j hlt
        obtain ⟨v1, hv⟩ : ∃ v, ms.getD j 0 = v := ⟨_, rfl⟩
        rw [hv] at hx
        have HV := Lib.hid hv
        clear hv hc hb1
        by_cases hin : inB v1 0 ((l : Int) - 1) = true
        · go_wp2_with (go_at_call 49; refine (thm_any _ _ _ _ _ _ _ hl).mono ?_; rintro e w1 ⟨rfl, hb⟩; have HC := Lib.hid (HC.out.on hb); clear hb)
          go_roundw
          case rel => exact ⟨j + 1, by omega, by go_num, Lib.hid (by rw [all_snoc _ _ _ (by rw [GL.out]; exact hlt), HA.out, HV.out, hin]; rfl), HC⟩
          case measure => simp [intOf]; omega
        · go_wp2_with (go_at_call 49; refine (thm_any _ _ _ _ _ _ _ hl).mono ?_; rintro e w1 ⟨rfl, hb⟩; have HC := Lib.hid (HC.out.on hb); clear hb)
          go_ret
          exact ⟨ret_bool (by rw [HU.out, all_take _ ms j (by rw [HV.out]; simpa using hin) (by rw [GL.out]; exact hlt)]), HC.out.low⟩
      · go_wp2_with fail
        go_ret
        obtain rfl : j = m := by omega
        have HA' := HA.out
        rw [List.take_of_length_le (by rw [GL.out]; exact Nat.le_refl _)] at HA'
        exact ⟨ret_bool (by rw [HU.out, HA']), HC.out.low⟩
  · have HU : Hid (toB l ms = false) := Lib.hid (by unfold toB; rw [GL.out]; simp [h1])
    have h1' : decide ((m : Int) > 120) = true := by simp; omega
    go_enter Tryd.func40, Tryd.ntmps40
    go_wp2_with fail
    go_ret
    exact ⟨ret_bool HU.out.symm, box_b _ _⟩

end Go.Proofs.YtpphiekbhikadaaDoor

/- Two lives, as numbers: the joint table, the codes, chances in lowest terms (no program in it). | Fractions of the program; boxes of two tables; the first error of two codes: what the calls return. | Two lives: the model's code, its joint table, its chances. (Written by wip/gen/jms.py.) -/
namespace Go.Proofs.YtpphiekbhikadaaDoor
open Go.ChangeShapes Go.WideShapes Go.ChangeAt Go.RowKit
set_option linter.unusedVariables false

/-- the first number of k .. k + n - 1 at which v is 0; k + n if there is none -/
def fz (v : Nat → Int) : Nat → Nat → Nat
  | 0, k => k
  | n + 1, k => if v k = 0 then k else fz v n (k + 1)

theorem fz_le (v : Nat → Int) (n k : Nat) : k ≤ fz v n k ∧ fz v n k ≤ k + n := by
  induction n generalizing k with
  | zero => simp [fz]
  | succ n ih =>
    rw [fz]
    split
    · omega
    · have := ih (k + 1); omega

theorem fz_hit (v : Nat → Int) (n k : Nat) (h : fz v n k < k + n) : v (fz v n k) = 0 := by
  induction n generalizing k with
  | zero => simp [fz] at h
  | succ n ih =>
    rw [fz] at h ⊢
    split
    · assumption
    · rename_i hp
      rw [if_neg hp] at h
      exact ih (k + 1) (by omega)

theorem fz_min (v : Nat → Int) (n k j : Nat) (h1 : k ≤ j) (h2 : j < fz v n k) : v j ≠ 0 := by
  induction n generalizing k with
  | zero => simp [fz] at h2; omega
  | succ n ih =>
    rw [fz] at h2
    split at h2
    · omega
    · rename_i hp
      by_cases hk : k = j
      · subst hk; exact hp
      · exact ih (k + 1) (by omega) h2

theorem fz_end (v : Nat → Int) (n k j : Nat) (h1 : k ≤ j) (h2 : j < k + n) (h3 : v j = 0) : fz v n k ≤ j := by
  by_cases h : j < fz v n k
  · exact absurd h3 (fz_min v n k j h1 h)
  · omega

/-- two lives that are right -/
structure Duo (f : Int) (xs : List Int) (x g : Int) (ys : List Int) (y : Int) : Prop where
  t : LTab f xs
  u : LTab g ys
  x0 : f ≤ x
  x1 : x ≤ 100
  y0 : g ≤ y
  y1 : y ≤ 150
  tx : 1 ≤ lvs f xs x
  uy : 1 ≤ lvs g ys y

/-- the numbers of the joint table -/
def jv (f : Int) (xs : List Int) (x g : Int) (ys : List Int) (y : Int) (k : Nat) : Int := lvs f xs (x + k) * lvs g ys (y + k) / lvs g ys y

/-- the index of the first one that is 0 -/
def jn8 (f : Int) (xs : List Int) (x g : Int) (ys : List Int) (y : Int) : Nat := fz (jv f xs x g ys y) 121 0

/-- the joint table's list -/
def jtL (f : Int) (xs : List Int) (x g : Int) (ys : List Int) (y : Int) : List Int := (List.range (jn8 f xs x g ys y + 1)).map (jv f xs x g ys y)

section
variable {f : Int} {xs : List Int} {x g : Int} {ys : List Int} {y : Int}

theorem Duo.jv_bd (h : Duo f xs x g ys y) (k : Nat) : 0 ≤ jv f xs x g ys y k ∧ jv f xs x g ys y k ≤ lvs f xs (x + k) := by
  have h1 := h.t.lvs_bd (x + k)
  have h2 := h.u.lvs_bd (y + k)
  have h3 := h.u.lvs_mono y (y + k) (by omega)
  have h4 := h.uy
  unfold jv
  constructor
  · exact Int.ediv_nonneg (Int.mul_nonneg h1.1 h2.1) (by omega)
  · refine Int.ediv_le_of_le_mul (by omega) ?_
    exact Int.mul_le_mul_of_nonneg_left h3 h1.1

theorem Duo.jv0 (h : Duo f xs x g ys y) : jv f xs x g ys y 0 = lvs f xs x := by
  have h4 := h.uy
  unfold jv
  rw [show x + ((0 : Nat) : Int) = x by omega, show y + ((0 : Nat) : Int) = y by omega]
  exact Int.mul_ediv_cancel _ (by omega)

theorem Duo.jv_step (h : Duo f xs x g ys y) (k : Nat) : jv f xs x g ys y (k + 1) ≤ jv f xs x g ys y k := by
  have h1 := h.t.lvs_bd (x + (k + 1 : Nat))
  have h2 := h.u.lvs_bd (y + k)
  have h3 := h.t.lvs_mono (x + k) (x + (k + 1 : Nat)) (by omega)
  have h5 := h.u.lvs_mono (y + k) (y + (k + 1 : Nat)) (by omega)
  have h4 := h.uy
  unfold jv
  refine Int.ediv_le_ediv (by omega) ?_
  exact Int.le_trans (Int.mul_le_mul_of_nonneg_left h5 h1.1) (Int.mul_le_mul_of_nonneg_right h3 h2.1)

theorem Duo.jv_t (h : Duo f xs x g ys y) (k : Nat) (hk : f + xs.length ≤ x + k + 1) : jv f xs x g ys y k = 0 := by
  unfold jv
  rw [h.t.lvs_zero (x + k) hk, Int.zero_mul, Int.zero_ediv]

theorem Duo.jv_u (h : Duo f xs x g ys y) (k : Nat) (hk : g + ys.length ≤ y + k + 1) : jv f xs x g ys y k = 0 := by
  unfold jv
  rw [h.u.lvs_zero (y + k) hk, Int.mul_zero, Int.zero_ediv]

theorem Duo.x_lt (h : Duo f xs x g ys y) : x + 1 < f + xs.length := by
  by_cases hh : x + 1 < f + xs.length
  · exact hh
  · have := h.t.lvs_zero x (by omega); have := h.tx; omega

theorem Duo.y_lt (h : Duo f xs x g ys y) : y + 1 < g + ys.length := by
  by_cases hh : y + 1 < g + ys.length
  · exact hh
  · have := h.u.lvs_zero y (by omega); have := h.uy; omega

theorem Duo.jn_t (h : Duo f xs x g ys y) : x + jn8 f xs x g ys y + 1 ≤ f + xs.length := by
  have h1 := h.x_lt
  have h2 := h.t.2.1
  have := fz_end (jv f xs x g ys y) 121 0 (f + xs.length - x - 1).toNat (by omega) (by have := h.x0; omega) (h.jv_t _ (by omega))
  unfold jn8; omega

theorem Duo.jn_u (h : Duo f xs x g ys y) : y + jn8 f xs x g ys y + 1 ≤ g + ys.length := by
  have h1 := h.y_lt
  have h2 := h.u.2.1
  have := fz_end (jv f xs x g ys y) 121 0 (g + ys.length - y - 1).toNat (by omega) (by have := h.y0; omega) (h.jv_u _ (by omega))
  unfold jn8; omega

theorem Duo.jn_le (h : Duo f xs x g ys y) : 1 ≤ jn8 f xs x g ys y ∧ jn8 f xs x g ys y ≤ 119 := by
  have h1 := h.jn_t
  have h2 := h.t.2.1
  have h3 := h.x0
  refine ⟨?_, by omega⟩
  by_cases h0 : jn8 f xs x g ys y = 0
  · have := fz_hit (jv f xs x g ys y) 121 0 (by unfold jn8 at h0; omega)
    unfold jn8 at h0
    rw [h0, h.jv0] at this
    have := h.tx
    omega
  · omega

theorem Duo.jn_hit (h : Duo f xs x g ys y) : jv f xs x g ys y (jn8 f xs x g ys y) = 0 := by
  have := h.jn_le
  exact fz_hit (jv f xs x g ys y) 121 0 (by unfold jn8 at this; omega)

theorem Duo.jn_pos (h : Duo f xs x g ys y) (k : Nat) (hk : k < jn8 f xs x g ys y) : 1 ≤ jv f xs x g ys y k := by
  have h1 := fz_min (jv f xs x g ys y) 121 0 k (by omega) hk
  have h2 := (h.jv_bd k).1
  omega

theorem Duo.jn_far (h : Duo f xs x g ys y) (k : Nat) (hk : jn8 f xs x g ys y ≤ k) : jv f xs x g ys y k = 0 := by
  induction k with
  | zero =>
    have := h.jn_hit
    rw [show jn8 f xs x g ys y = 0 by omega] at this
    exact this
  | succ k ih =>
    by_cases he : jn8 f xs x g ys y = k + 1
    · have := h.jn_hit; rw [he] at this; exact this
    · have h1 := ih (by omega)
      have h2 := h.jv_step k
      have h3 := (h.jv_bd (k + 1)).1
      omega

theorem jtL_len : (jtL f xs x g ys y).length = jn8 f xs x g ys y + 1 := by simp [jtL]

theorem jtL_get (k : Nat) (hk : k ≤ jn8 f xs x g ys y) : (jtL f xs x g ys y).getD k 0 = jv f xs x g ys y k := by
  rw [List.getD_eq_getElem?_getD, List.getElem?_eq_getElem (by rw [jtL_len]; omega)]
  simp [jtL]

theorem Duo.get (h : Duo f xs x g ys y) (k : Nat) : (jtL f xs x g ys y).getD k 0 = jv f xs x g ys y k := by
  by_cases hk : k ≤ jn8 f xs x g ys y
  · exact jtL_get k hk
  · rw [h.jn_far k (by omega)]; exact getD_far _ _ (by rw [jtL_len]; omega)

theorem Duo.ltab (h : Duo f xs x g ys y) : LTab x (jtL f xs x g ys y) := by
  have h1 := h.jn_le
  have h2 := h.jn_t
  have h3 := h.t.2.2.1
  have h4 := h.t.1
  have h5 := h.x0
  refine ⟨⟨by omega, h.x1⟩, by rw [jtL_len]; omega, by rw [jtL_len]; omega, ?_, ?_, ?_⟩
  · rw [h.get, h.jv0]; exact ⟨h.tx, (h.t.lvs_bd x).2⟩
  · rw [h.get, jtL_len]; exact h.jn_far _ (by omega)
  · intro i hi h1
    rw [h.get, h.get, jtL_len]
    rw [jtL_len] at hi
    refine ⟨?_, fun hl => h.jn_pos i (by omega)⟩
    have := h.jv_step (i - 1)
    rw [show i - 1 + 1 = i by omega] at this
    exact this

theorem Duo.jlvs (h : Duo f xs x g ys y) (k : Nat) : lvs x (jtL f xs x g ys y) (x + k) = jv f xs x g ys y k := by
  unfold lvs
  rw [show (x + (k : Int) - x).toNat = k by omega]
  exact h.get k

theorem Duo.jx (h : Duo f xs x g ys y) : lvs x (jtL f xs x g ys y) x = lvs f xs x := by
  have := h.jlvs 0
  rw [show x + ((0 : Nat) : Int) = x by omega, h.jv0] at this
  exact this

/-! ### codes -/

/-- the code of two codes -/
def feE (x c d : Int) : Int := if c = 1 ∨ d = 1 then 1 else if c = 2 ∨ d = 2 ∨ 100 < x then 2 else if c = 5 ∨ d = 5 then 5 else 0

/-- the code of two lives -/
def twE (f : Int) (xs : List Int) (x g : Int) (ys : List Int) (y : Int) (b : Bool) : Int :=
  if ¬ (ltB f xs = true ∧ ltB g ys = true) then 1 else if ¬ (inB x f 100 = true ∧ inB y g 150 = true ∧ b = true) then 2 else if lvs f xs x = 0 ∨ lvs g ys y = 0 then 5 else 0

theorem tw_iff {b : Bool} : twE f xs x g ys y b = 0 ↔ Duo f xs x g ys y ∧ b = true := by
  unfold twE
  constructor
  · intro h
    split at h
    · omega
    rename_i h1
    split at h
    · omega
    rename_i h2
    split at h
    · omega
    rename_i h3
    have h1 := Decidable.not_not.1 h1
    have h2 := Decidable.not_not.1 h2
    rw [ltB_iff, ltB_iff] at h1
    rw [inB_iff, inB_iff] at h2
    have h4 := h1.1.lvs_bd x
    have h5 := h1.2.lvs_bd y
    exact ⟨⟨h1.1, h1.2, h2.1.1, h2.1.2, h2.2.1.1, h2.2.1.2, by omega, by omega⟩, h2.2.2⟩
  · rintro ⟨h, hb⟩
    have h1 := h.tx
    have h2 := h.uy
    rw [if_neg (by rw [Decidable.not_not]; exact ⟨ltB_t h.t, ltB_t h.u⟩), if_neg (by rw [Decidable.not_not]; exact ⟨inB_t h.x0 h.x1, inB_t h.y0 h.y1, hb⟩), if_neg (by omega)]

/-! the same on truth values -/

def feB (D : Bool) (c d : Int) : Int := if c = 1 ∨ d = 1 then 1 else if c = 2 ∨ d = 2 ∨ D = false then 2 else if c = 5 ∨ d = 5 then 5 else 0

def clB (T X N P : Bool) : Int := if T = true then (if X = true ∧ N = true then (if P = true then 5 else 0) else 2) else 1

def anB (T R X B C : Bool) : Int := if T = true then (if R = true ∧ X = true ∧ B = true then (if C = true then 5 else 0) else 2) else 1

def twB (T U X D Y N P Q : Bool) : Int := if ¬ (T = true ∧ U = true) then 1 else if ¬ (X = true ∧ D = true ∧ Y = true ∧ N = true) then 2 else if P = true ∨ Q = true then 5 else 0

theorem fe_bool : ∀ T U X D Y N P Q : Bool, feB D (clB T X N P) (clB U Y N Q) = twB T U X D Y N P Q := by decide +kernel

theorem fa_bool : ∀ T U X D Y R B P Q C E : Bool, (P = true → C = true) → (Q = true → E = true) → feB D (anB T R X B C) (anB U R Y B E) = if twB T U X D Y (R && B) P Q = 0 ∧ (C = true ∨ E = true) then 5 else twB T U X D Y (R && B) P Q := by decide +kernel

theorem fe_b (x c d : Int) : feE x c d = feB (decide (x ≤ 100)) c d := by
  unfold feE feB
  simp only [decide_eq_false_iff_not, Int.not_le]

theorem cl_b (n : Int) : clE f xs x n = clB (ltB f xs) (inB x f 150) (inB n 0 150) (decide (lvs f xs x = 0)) := by
  unfold clE chE clB
  cases ltB f xs <;> cases inB x f 150 <;> cases inB n 0 150 <;> by_cases h : lvs f xs x = 0 <;> simp [h]

theorem in100 : inB x f 100 = (inB x f 150 && decide (x ≤ 100)) := by
  unfold inB
  rw [Bool.eq_iff_iff]
  simp
  omega

theorem tw_b {b : Bool} : twE f xs x g ys y b = twB (ltB f xs) (ltB g ys) (inB x f 150) (decide (x ≤ 100)) (inB y g 150) b (decide (lvs f xs x = 0)) (decide (lvs g ys y = 0)) := by
  unfold twE twB
  simp only [in100, Bool.and_eq_true, decide_eq_true_iff, and_assoc]

theorem fe_cl (n : Int) : feE x (clE f xs x n) (clE g ys y n) = twE f xs x g ys y (inB n 0 150) := by
  rw [fe_b, cl_b, cl_b, tw_b, fe_bool]

theorem an_b {r : Int} {b : Bool} : anE r f xs x b 0 = anB (ltB f xs) (rateB r) (inB x f 150) b (decide (cD r xs (x - f).toNat = 0)) := by
  unfold anE coE anB
  by_cases hx : inB x f 150 = true
  · have h2 := (inB_iff _ _ _).1 hx
    have h3 : x ≤ 150 := h2.2
    cases ltB f xs <;> cases rateB r <;> cases b <;> by_cases h : cD r xs (x - f).toNat = 0 <;> simp [h, hx, h3]
  · have hx' : inB x f 150 = false := by simpa using hx
    cases ltB f xs <;> cases rateB r <;> simp [hx']

/-- the code of two lives, a rate and an amount -/
def moE (r f : Int) (xs : List Int) (x g : Int) (ys : List Int) (y : Int) (b : Bool) : Int :=
  if twE f xs x g ys y (rateB r && b) = 0 ∧ (cD r xs (x - f).toNat = 0 ∨ cD r ys (y - g).toNat = 0) then 5 else twE f xs x g ys y (rateB r && b)

theorem fe_an {r : Int} {b : Bool} : feE x (anE r f xs x b 0) (anE r g ys y b 0) = moE r f xs x g ys y b := by
  rw [fe_b, an_b, an_b]
  unfold moE
  rw [tw_b, fa_bool _ _ _ _ _ _ _ (decide (lvs f xs x = 0)) (decide (lvs g ys y = 0))]
  · simp only [decide_eq_true_iff]
  · rw [decide_eq_true_iff, decide_eq_true_iff]
    intro h
    unfold lvs at h
    unfold cD
    rw [h, Int.zero_mul]
  · rw [decide_eq_true_iff, decide_eq_true_iff]
    intro h
    unfold lvs at h
    unfold cD
    rw [h, Int.zero_mul]

theorem rateB_iff2 {r : Int} : rateB r = true ↔ 0 ≤ r ∧ r ≤ 200 := by
  unfold rateB; first | exact inB_iff _ _ _ | simp

theorem mo_iff {r : Int} {b : Bool} : moE r f xs x g ys y b = 0 ↔ Duo f xs x g ys y ∧ (0 ≤ r ∧ r ≤ 200) ∧ b = true ∧ cD r xs (x - f).toNat ≠ 0 ∧ cD r ys (y - g).toNat ≠ 0 := by
  unfold moE
  by_cases h0 : twE f xs x g ys y (rateB r && b) = 0
  · have := tw_iff.1 h0
    rw [Bool.and_eq_true, rateB_iff2] at this
    obtain ⟨hd, hr, hb⟩ := this
    simp only [h0, true_and]
    split
    · rename_i h1
      constructor
      · intro h; omega
      · rintro ⟨_, _, _, a, b⟩; omega
    · rename_i h1
      exact ⟨fun _ => ⟨hd, hr, hb, by omega, by omega⟩, fun _ => rfl⟩
  · rw [if_neg (fun h => h0 h.1)]
    constructor
    · intro h; exact absurd h h0
    · rintro ⟨hd, hr, hb, _⟩
      exact tw_iff.2 ⟨hd, by rw [Bool.and_eq_true, rateB_iff2]; exact ⟨hr, hb⟩⟩

end

/-! ### fractions -/

theorem frac_mul (A B G : Int) (hA : 0 ≤ A) (hB : 1 ≤ B) (hG : 1 ≤ G) : A * G / gcdI (A * G) (B * G) = A / gcdI A B ∧ B * G / gcdI (A * G) (B * G) = B / gcdI A B := by
  obtain ⟨a, rfl⟩ := Int.eq_ofNat_of_zero_le hA
  obtain ⟨b, rfl⟩ := Int.eq_ofNat_of_zero_le (show 0 ≤ B by omega)
  obtain ⟨c, rfl⟩ := Int.eq_ofNat_of_zero_le (show 0 ≤ G by omega)
  have e1 : gcdI ((a : Int) * c) ((b : Int) * c) = ((Nat.gcd a b * c : Nat) : Int) := by
    unfold gcdI
    rw [← Int.natCast_mul, ← Int.natCast_mul, Int.toNat_natCast, Int.toNat_natCast, Nat.gcd_mul_right]
  have e2 : gcdI (a : Int) (b : Int) = ((Nat.gcd a b : Nat) : Int) := by unfold gcdI; simp
  rw [e1, e2, ← Int.natCast_mul, ← Int.natCast_mul, ← Int.natCast_ediv, ← Int.natCast_ediv, ← Int.natCast_ediv, ← Int.natCast_ediv]
  rw [Nat.mul_div_mul_right _ _ (by omega), Nat.mul_div_mul_right _ _ (by omega)]
  exact ⟨rfl, rfl⟩

theorem low_parts (A B : Int) (hA : 0 ≤ A) (hB : 1 ≤ B) : A / B * (B / gcdI (A % B) B) + A % B / gcdI (A % B) B = A / gcdI A B ∧ B / gcdI (A % B) B = B / gcdI A B := by
  have e : gcdI (A % B) B = gcdI A B := by
    have := gcdI_step A B hA (by omega)
    rw [← this]
    unfold gcdI
    rw [Nat.gcd_comm]
  rw [e]
  refine ⟨?_, rfl⟩
  have hg := gcdI_pos A B hA hB
  obtain ⟨G, hG⟩ : ∃ y_, gcdI A B = y_ := ⟨_, rfl⟩
  have d1 : G ∣ A := by
    rw [← hG]
    obtain ⟨a, rfl⟩ := Int.eq_ofNat_of_zero_le hA
    obtain ⟨b, rfl⟩ := Int.eq_ofNat_of_zero_le (show 0 ≤ B by omega)
    unfold gcdI
    rw [Int.toNat_natCast, Int.toNat_natCast]
    exact Int.natCast_dvd_natCast.2 (Nat.gcd_dvd_left _ _)
  have d2 : G ∣ B := by
    rw [← hG]
    obtain ⟨a, rfl⟩ := Int.eq_ofNat_of_zero_le hA
    obtain ⟨b, rfl⟩ := Int.eq_ofNat_of_zero_le (show 0 ≤ B by omega)
    unfold gcdI
    rw [Int.toNat_natCast, Int.toNat_natCast]
    exact Int.natCast_dvd_natCast.2 (Nat.gcd_dvd_right _ _)
  rw [hG] at hg ⊢
  obtain ⟨b, rfl⟩ := d2
  have h1 := Int.mul_ediv_add_emod A (G * b)
  obtain ⟨q, hq⟩ : ∃ y_, A / (G * b) = y_ := ⟨_, rfl⟩
  obtain ⟨m, hm⟩ : ∃ y_, A % (G * b) = y_ := ⟨_, rfl⟩
  rw [hq, hm] at h1 ⊢
  rw [Int.mul_ediv_cancel_left _ (show G ≠ 0 by omega)]
  have e4 : G * b * q = q * b * G := by rw [Int.mul_comm G b, Int.mul_assoc, Int.mul_comm G q, ← Int.mul_assoc, Int.mul_comm b q]
  have e3 : A = q * b * G + m := by rw [← h1, e4]
  rw [e3, Int.add_comm (q * b * G) m, Int.add_mul_ediv_right _ _ (show G ≠ 0 by omega), Int.add_comm]

set_option maxRecDepth 100000

end Go.Proofs.YtpphiekbhikadaaDoor
