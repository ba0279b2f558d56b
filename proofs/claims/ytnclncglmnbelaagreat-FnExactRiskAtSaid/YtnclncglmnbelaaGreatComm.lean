/- The program's columns: a number times a discount, the block of a table with its columns, its columns at an age, the check of the arguments. -/
import Derived.Test.YtnclncglmnbelaaGreatCol
import Derived.Test.YtnclncglmnbelaaGreatTabE
namespace Go.Proofs.YtnclncglmnbelaaGreat
open Go.ChangeShapes Go.WideShapes Go.ChangeAt Go.RowKit
set_option linter.unusedVariables false
set_option maxRecDepth 100000

theorem termB_iff (n : Int) : termB n = true ↔ 0 ≤ n ∧ n ≤ 120 := by unfold termB; rw [inB_iff]

theorem times_any (B : Nat) (r n : Int) (k : Nat) (w : World) (h : DB w B r) (h0 : 0 ≤ r) (h1 : r ≤ 200) (n0 : 0 ≤ n) (n1 : n ≤ 1000000) :
    Calls Tryz.prog 116 #[.pointer (some ⟨B, 0, none⟩), .int .i64 n, .int .i64 k] w (AfterPost B r (if k ≤ 120 then n * disc r k else 0) w) := by
  have H := Lib.hid h
  clear h
  by_cases hk : k ≤ 120
  · have ht : termB (k : Int) = true := (termB_iff _).2 (by omega)
    rw [if_pos hk]
    obtain ⟨d0, d1⟩ := disc_bd r h0 k
    obtain ⟨p0, p1⟩ := prod_bd n (disc r k) n0 n1 d0 d1
    have HA := Lib.hid (after_any B r k w H.out h0 h1 hk)
    obtain ⟨D, hD⟩ : ∃ D, disc r k = D := ⟨_, rfl⟩
    rw [hD] at d0 d1 p0 p1 HA ⊢
    clear hD
    go_enter Tryz.func116, Tryz.ntmps116
    go_wp2_with (first | (go_at_call 126; refine (isTerm_any _ _).mono ?_; rintro e w' ⟨rfl, rfl⟩) | (go_at_call 127; refine (HA.out).mono ?_; rintro e w2 ⟨rfl, hb, ho⟩))
    go_ret
    exact ⟨rfl, hb, ho⟩
  · have ht : termB (k : Int) = false := by
      cases hc : termB (k : Int)
      · rfl
      · have := (termB_iff _).1 hc; omega
    rw [if_neg hk]
    go_enter Tryz.func116, Tryz.ntmps116
    go_wp2_with (go_at_call 126; refine (isTerm_any _ _).mono ?_; rintro e w' ⟨rfl, rfl⟩)
    go_ret
    exact ⟨rfl, H.out, Only.refl _ _⟩

/-! ### the block of a table and its columns -/

/-- its cells: the first age, the lives, the columns -/
def ccells (f : Int) (v : Value) (G : Nat → Int) : Array Value := (([Value.int .i64 f, v] : List Value) ++ (List.range 604).map fun k => Value.int .i64 (G k)).toArray

def CBX (w : World) (R : Nat) (f : Int) (v : Value) (G : Nat → Int) : Prop := w.heap[R]? = some (.cells (ccells f v G) 133 (0, 0))

theorem CBX.lt {w : World} {R : Nat} {f : Int} {v : Value} {G : Nat → Int} (h : CBX w R f v G) : R < w.heap.size := by
  unfold CBX at h
  by_cases hb : R < w.heap.size
  · exact hb
  · have : w.heap[R]? = none := by simp; omega
    rw [this] at h; cases h

theorem CBX.first {w : World} {R : Nat} {f : Int} {v : Value} {G : Nat → Int} (h : CBX w R f v G) : w.cell? ⟨R, 0, none⟩ = some (.int .i64 f) := by
  unfold CBX at h
  simp [World.cell?, h, ccells]

theorem CBX.row {w : World} {R : Nat} {f : Int} {v : Value} {G : Nat → Int} (h : CBX w R f v G) : w.cell? ⟨R, 1, none⟩ = some v := by
  unfold CBX at h
  simp [World.cell?, h, ccells]

theorem CBX.at {w : World} {R : Nat} {f : Int} {v : Value} {G : Nat → Int} (h : CBX w R f v G) (k : Nat) (hk : k < 604) (u : Int) (hu : G k = u) (i : Nat) (hi : i = k + 2) : w.cell? ⟨R, i, none⟩ = some (.int .i64 u) := by
  subst hi
  unfold CBX at h
  simp [World.cell?, h, ccells, hk, hu]

theorem CBX.free {w : World} {R : Nat} {f : Int} {v : Value} {G : Nat → Int} (h : CBX w R f v G) (i : Nat) : w.frozen? ⟨R, i, none⟩ = false := by
  unfold CBX at h
  simp [World.frozen?, h]

theorem CBX.same {w w' : World} {R : Nat} {f : Int} {v : Value} {G : Nat → Int} (h : CBX w R f v G) (hb : w'.heap[R]? = w.heap[R]?) : CBX w' R f v G := by
  unfold CBX at h ⊢; rw [hb, h]

theorem CBX.set {w : World} {R : Nat} {f : Int} {v : Value} {G : Nat → Int} (h : CBX w R f v G) (k : Nat) (u : Int) (i : Nat) (hi : i = k + 2) : CBX (w.setCell ⟨R, i, none⟩ (.int .i64 u)) R f v (fun j => if j = k then u else G j) := by
  subst hi
  have hl := h.lt
  unfold CBX at h ⊢
  rw [Array.getElem?_eq_getElem hl] at h
  have h' : w.heap[R] = .cells (ccells f v G) 133 (0, 0) := by simpa using h
  show (w.heap.modify R _)[R]? = _
  rw [Array.getElem?_modify, if_pos rfl, Array.getElem?_eq_getElem hl, h']
  have e : (ccells f v G).setIfInBounds (k + 2) (.int .i64 u) = ccells f v (fun j => if j = k then u else G j) := by
    unfold ccells
    apply Array.ext'
    simp only [Array.toList_setIfInBounds, List.cons_append, List.nil_append, List.set_cons_succ, List.cons.injEq, true_and]
    apply List.ext_getElem
    · simp
    · intro n h1 h2
      simp only [List.getElem_set, List.getElem_map, List.getElem_range]
      by_cases hn : k = n
      · subst hn; simp
      · rw [if_neg hn, if_neg (fun e => hn e.symm)]
  simp [e]

/-- the columns of four functions at an age -/
def AtG (G : Nat → Int) (m : Nat) : Value := .agg #[.int .i64 (G (m * 4)), .int .i64 (G (m * 4 + 1)), .int .i64 (G (m * 4 + 2)), .int .i64 (G (m * 4 + 3))]

theorem colat_any (R : Nat) (f : Int) (v : Value) (G : Nat → Int) (m : Nat) (w : World) (h : CBX w R f v G) (hm : m ≤ 150) :
    Calls Tryz.prog 99 #[.pointer (some ⟨R, 2, none⟩), .int .i64 m] w fun e w' => e = .returned (AtG G m) ∧ Below w.heap.size w w' := by
  have H := Lib.hid h
  have hl := h.lt
  unfold AtG
  obtain ⟨a, ha⟩ : ∃ a, G (m * 4) = a := ⟨_, rfl⟩
  obtain ⟨b, hb⟩ : ∃ a, G (m * 4 + 1) = a := ⟨_, rfl⟩
  obtain ⟨c, hc⟩ : ∃ a, G (m * 4 + 2) = a := ⟨_, rfl⟩
  obtain ⟨d, hd⟩ : ∃ a, G (m * 4 + 3) = a := ⟨_, rfl⟩
  rw [ha, hb, hc, hd]
  have y0 := h.at _ (by omega) a ha (2 + m * 4) (by omega)
  have y1 := h.at _ (by omega) b hb (2 + m * 4 + 1) (by omega)
  have y2 := h.at _ (by omega) c hc (2 + m * 4 + 2) (by omega)
  have y3 := h.at _ (by omega) d hd (2 + m * 4 + 3) (by omega)
  clear h ha hb hc hd
  go_enter Tryz.func99, Tryz.ntmps99
  go_wp2_with fail
  refine bodyPost_ret (v := .agg #[.int .i64 a, .int .i64 b, .int .i64 c, .int .i64 d]) ?_ rfl ⟨rfl, box_b _ _⟩
  simp [results, Tryz.results99, go_sem]

end Go.Proofs.YtnclncglmnbelaaGreat
