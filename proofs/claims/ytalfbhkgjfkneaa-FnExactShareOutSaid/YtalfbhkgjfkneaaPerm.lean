/- Rows of integers as functions of the place; exchanges, permutations with their inverses. -/
import Derived.Test.YtalfbhkgjfkneaaMark
import Derived.BigRegion
namespace Go.Proofs.Ytalfbhkgjfkneaa
open Go.ChangeShapes Go.WideShapes Go.ChangeAt Go.RowKit
set_option linter.unusedVariables false

/-- f' is f in another order; only places a .. b - 1 have moved -/
def Prm (a b : Nat) (f f' : Nat → Nat) : Prop :=
  ∃ p q : Nat → Nat, (∀ k, q (p k) = k) ∧ (∀ k, p (q k) = k) ∧ (∀ k, (k < a ∨ b ≤ k) → p k = k) ∧ ∀ k, f' k = f (p k)

theorem Prm.refl (a b : Nat) (f : Nat → Nat) : Prm a b f f := ⟨id, id, fun _ => rfl, fun _ => rfl, fun _ _ => rfl, fun _ => rfl⟩

theorem Prm.trans {a b : Nat} {f g h : Nat → Nat} (h1 : Prm a b f g) (h2 : Prm a b g h) : Prm a b f h := by
  obtain ⟨p, q, a1, a2, a3, a4⟩ := h1
  obtain ⟨r, s, b1, b2, b3, b4⟩ := h2
  exact ⟨fun k => p (r k), fun k => s (q k), fun k => by simp only [a1, b1], fun k => by simp only [b2, a2], fun k hk => by show p (r k) = k; rw [b3 k hk, a3 k hk], fun k => by rw [b4, a4]⟩

theorem Prm.mono {a b c d : Nat} {f g : Nat → Nat} (h : Prm a b f g) (hc : c ≤ a) (hd : b ≤ d) : Prm c d f g := by
  obtain ⟨p, q, a1, a2, a3, a4⟩ := h
  exact ⟨p, q, a1, a2, fun k hk => a3 k (by omega), a4⟩

theorem Prm.out {a b : Nat} {f g : Nat → Nat} (h : Prm a b f g) (k : Nat) (hk : k < a ∨ b ≤ k) : g k = f k := by
  obtain ⟨p, q, a1, a2, a3, a4⟩ := h
  rw [a4, a3 k hk]

/-- what stands inside came from inside -/
theorem Prm.from {a b : Nat} {f g : Nat → Nat} (h : Prm a b f g) (k : Nat) (h1 : a ≤ k) (h2 : k < b) : ∃ j, a ≤ j ∧ j < b ∧ g k = f j := by
  obtain ⟨p, q, a1, a2, a3, a4⟩ := h
  by_cases hj : p k < a ∨ b ≤ p k
  · have := a3 (p k) hj
    have h3 := congrArg q this
    rw [a1, a1] at h3
    omega
  · exact ⟨p k, by omega, by omega, a4 k⟩

/-- the exchange of two places -/
def swp (f : Nat → Nat) (i j : Nat) : Nat → Nat := fun k => if k = i then f j else if k = j then f i else f k

theorem prm_swp {a b i j : Nat} (f : Nat → Nat) (h1 : a ≤ i) (h2 : i < b) (h3 : a ≤ j) (h4 : j < b) : Prm a b f (swp f i j) := by
  let t : Nat → Nat := fun k => if k = i then j else if k = j then i else k
  have ht : ∀ k, t (t k) = k := fun k => by
    simp only [t]
    by_cases e1 : k = i
    · subst e1; simp
    · by_cases e2 : k = j
      · subst e2; simp [e1]
      · simp [e1, e2]
  refine ⟨t, t, ht, ht, fun k hk => ?_, fun k => ?_⟩
  · simp only [t]; rw [if_neg (by omega), if_neg (by omega)]
  · simp only [swp, t]
    by_cases e1 : k = i
    · simp [e1]
    · by_cases e2 : k = j
      · subst e2; rw [if_neg e1, if_pos rfl, if_neg e1, if_pos rfl]
      · simp [e1, e2]

/-- Block D holds f 0 .. f (n - 1). -/
def BlkF (w : World) (D n : Nat) (f : Nat → Nat) : Prop := w.heap[D]? = some (.cells ((List.range n).map fun i => Value.int .i64 (f i : Int)).toArray 3 (0, 0))

theorem BlkF.cell {w : World} {D n : Nat} {f : Nat → Nat} (h : BlkF w D n f) (i : Nat) (hi : i < n) : w.cell? ⟨D, i, none⟩ = some (.int .i64 (f i : Int)) := by
  unfold BlkF at h
  simp [World.cell?, h, hi]

theorem BlkF.free {w : World} {D n : Nat} {f : Nat → Nat} (h : BlkF w D n f) (i : Nat) : w.frozen? ⟨D, i, none⟩ = false := by
  unfold BlkF at h
  simp [World.frozen?, h]

theorem BlkF.lt {w : World} {D n : Nat} {f : Nat → Nat} (h : BlkF w D n f) : D < w.heap.size := by
  unfold BlkF at h
  by_cases hb : D < w.heap.size
  · exact hb
  · have : w.heap[D]? = none := by simp; omega
    rw [this] at h; cases h

theorem BlkF.congr {w : World} {D n : Nat} {f g : Nat → Nat} (h : BlkF w D n f) (e : ∀ k, k < n → f k = g k) : BlkF w D n g := by
  unfold BlkF at h ⊢
  rw [h]
  congr 3
  exact List.map_congr_left fun k hk => by rw [e k (List.mem_range.1 hk)]

theorem BlkF.drewN {w : World} {D n : Nat} {f : Nat → Nat} (h : BlkF w D n f) (m : Nat) : BlkF (w.drewN m) D n f := h

theorem BlkF.set {w : World} {D n : Nat} {f : Nat → Nat} (h : BlkF w D n f) (i : Nat) (v : Nat) : BlkF (w.setCell ⟨D, i, none⟩ (.int .i64 (v : Int))) D n (fun k => if k = i then v else f k) := by
  have hl := h.lt
  unfold BlkF at h ⊢
  rw [Array.getElem?_eq_getElem hl] at h
  have h' : w.heap[D] = .cells ((List.range n).map fun i => Value.int .i64 (f i : Int)).toArray 3 (0, 0) := by simpa using h
  show (w.heap.modify D _)[D]? = _
  rw [Array.getElem?_modify, if_pos rfl, Array.getElem?_eq_getElem hl, h']
  simp only [Option.map_some, Option.some.injEq, Obj.cells.injEq, and_true]
  apply Array.ext
  · simp
  · intro k h1 h2
    simp at h1
    simp
    by_cases e : i = k
    · subst e; simp
    · have e' : ¬ k = i := fun x => e x.symm
      simp [e, e']

theorem BlkF.swap {w : World} {D n : Nat} {f : Nat → Nat} (h : BlkF w D n f) (i j : Nat) (hij : i ≠ j) : BlkF ((w.setCell ⟨D, i, none⟩ (.int .i64 (f j : Int))).setCell ⟨D, j, none⟩ (.int .i64 (f i : Int))) D n (swp f i j) := by
  refine ((h.set i (f j)).set j (f i)).congr fun k _ => ?_
  simp only [swp]
  by_cases e1 : k = j
  · subst e1; simp [Ne.symm hij]
  · simp [e1]

theorem BlkF.swap' {w : World} {D n : Nat} {f : Nat → Nat} (h : BlkF w D n f) (i j : Nat) (hij : i ≠ j) : BlkF ((w.setCell ⟨D, j, none⟩ (.int .i64 (f i : Int))).setCell ⟨D, i, none⟩ (.int .i64 (f j : Int))) D n (swp f i j) := by
  refine ((h.set j (f i)).set i (f j)).congr fun k _ => ?_
  simp only [swp]

/-- an exchange of two ranges of m places -/
def swr (f : Nat → Nat) (a b m : Nat) : Nat → Nat := fun k => if a ≤ k ∧ k < a + m then f (k - a + b) else if b ≤ k ∧ k < b + m then f (k - b + a) else f k

theorem swr_succ (f : Nat → Nat) (a b m : Nat) (h : a + m < b) : swp (swr f a b m) (a + m) (b + m) = swr f a b (m + 1) := by
  funext k
  simp only [swp, swr]
  by_cases e1 : k = a + m
  · subst e1
    rw [if_pos rfl, if_neg (by omega), if_neg (by omega), if_pos (by omega)]
    congr 1; omega
  · by_cases e2 : k = b + m
    · subst e2
      rw [if_neg (by omega), if_pos rfl, if_neg (by omega), if_neg (by omega), if_neg (by omega), if_pos (by omega)]
      congr 1; omega
    · rw [if_neg e1, if_neg e2]
      by_cases c1 : a ≤ k ∧ k < a + m
      · rw [if_pos c1, if_pos (by omega)]
      · rw [if_neg c1, if_neg (show ¬ (a ≤ k ∧ k < a + (m + 1)) by omega)]
        by_cases c2 : b ≤ k ∧ k < b + m
        · rw [if_pos c2, if_pos (by omega)]
        · rw [if_neg c2, if_neg (by omega)]

def SwrPost (D n : Nat) (g : Nat → Nat) (w : World) (e : Ending) (w' : World) : Prop := e = .returned (.tuple #[]) ∧ BlkF w' D n g ∧ Only D w w'

set_option maxHeartbeats 400000 in
theorem swr_any (D n c : Nat) (f : Nat → Nat) (a b m : Nat) (cv : Value) (w : World) (h : BlkF w D n f) (h1 : a + m ≤ b) (h2 : b + m ≤ n) (hn : n ≤ 1073741824) :
    Calls Try.prog 67 #[.slice (some ⟨D, 0, none⟩) n c, .int .i64 a, .int .i64 b, .int .i64 m, cv] w (SwrPost D n (swr f a b m) w) := by
  have H := Lib.hid h
  clear h
  go_enter Try.func67, Try.ntmps67
  go_wp2_with fail
  go_loopw [10] (fun i wr => ∃ k : Nat, k ≤ m ∧ i = .int .i64 k ∧ Hid (BlkF wr D n (swr f a b k)) ∧ Hid (Only D w wr)) (fun i _ => m - (intOf i).toNat)
  case atStart => exact ⟨0, Nat.zero_le _, rfl, Lib.hid (H.out.congr fun k _ => by simp only [swr]; rw [if_neg (by omega), if_neg (by omega)]), Lib.hid (Only.refl _ _)⟩
  case round =>
    obtain ⟨k, hk, rfl, HB, HO⟩ := hrel
    by_cases hlt : k < m
    · have c1 := HB.out.cell (a + k) (by omega)
      have c2 := HB.out.cell (b + k) (by omega)
      have f1 := HB.out.free (a + k)
      have f2 := HB.out.free (b + k)
      obtain ⟨x, hx⟩ : ∃ x, swr f a b k (a + k) = x := ⟨_, rfl⟩
      obtain ⟨y, hy⟩ : ∃ y, swr f a b k (b + k) = y := ⟨_, rfl⟩
      rw [hx] at c1
      rw [hy] at c2
      have hne : a + k ≠ b + k := by omega
      have hsw := HB.out.swap (a + k) (b + k) hne
      rw [hx, hy, swr_succ f a b k (by omega)] at hsw
      have HSW := Lib.hid hsw
      have HX := Lib.hid hx
      have HY := Lib.hid hy
      clear hx hy hsw
      go_wp2_with fail
      go_region
      all_goals
        go_wp2_with fail
        go_roundw
        case rel => exact ⟨k + 1, by omega, by go_num, Lib.hid (HSW.out.drewN 1), Lib.hid (by first | exact ((HO.out.setCell (p := ⟨D, a + k, none⟩) rfl _).setCell (p := ⟨D, b + k, none⟩) rfl _).drewN 1 | exact ((HO.out.setCell (p := ⟨D, b + k, none⟩) rfl _).setCell (p := ⟨D, a + k, none⟩) rfl _).drewN 1)⟩
        case measure => simp [intOf]; omega
    · go_wp2_with fail
      go_end0
      obtain rfl : k = m := by omega
      exact ⟨rfl, HB.out, HO.out⟩

theorem swr_i (D n c : Nat) (f : Nat → Nat) (a b m : Nat) (ia ib im : Int) (cv : Value) (w : World) (h : BlkF w D n f) (ea : ia = a) (eb : ib = b) (em : im = m) (h1 : a + m ≤ b) (h2 : b + m ≤ n) (hn : n ≤ 1073741824) :
    Calls Try.prog 67 #[.slice (some ⟨D, 0, none⟩) n c, .int .i64 ia, .int .i64 ib, .int .i64 im, cv] w (SwrPost D n (swr f a b m) w) := by
  subst ea; subst eb; subst em
  exact swr_any D n c f a b m cv w h h1 h2 hn

end Go.Proofs.Ytalfbhkgjfkneaa
