/- Merged: Pot, Comm, ColA, Rvn. -/
import Derived.Test.YtdlfofdibooidaaGreatLb7
import Derived.Test.YtdlfofdibooidaaGreatLb9
import Derived.Test.YtdlfofdibooidaaGreatLb11

/- Policies: the model: net premiums, durations, gains. (Written by wip/gen/pot.py.) -/
namespace Go.Proofs.YtdlfofdibooidaaGreat
open Go.ChangeShapes Go.WideShapes Go.ChangeAt Go.RowKit
set_option linter.unusedVariables false
set_option maxRecDepth 100000

theorem ret_3p {a b c d e f : Int} (h : a = b) (g : c = d) (k : e = f) : Ending.returned (.tuple #[.int .i64 a, .int .i64 c, .int .i64 e]) = .returned (.tuple #[.int .i64 b, .int .i64 d, .int .i64 f]) := by rw [h, g, k]

theorem snet_any (r f : Int) (xs : List Int) (a : Option Addr) (l c : Nat) (k x n s u : Int) (w : World) (h : Ints w a l xs) (hp : poB r f xs k x n s u = true) :
    Calls Tryz.prog 85 #[.agg #[.int .i64 f, .slice a l c, .int .i64 r], .agg #[.int .i64 k, .int .i64 x, .int .i64 n, .int .i64 s, .int .i64 u]] w fun e w' => e = .returned (.int .i64 (netN r f xs k x n s)) ∧ Below w.heap.size w w' := by
  have H := Lib.hid h
  clear h
  have HP := Lib.hid (BP.new w f (.slice a l c) r k x n s u 28 30)
  have hz := (poB_iff.1 hp).1
  unfold asE at hz
  have CL : Hid (∀ W, Hid (BP w f (.slice a l c) r k x n s u W) → Calls Tryz.prog 117 #[.agg #[.int .i64 f, .slice a l c], .int .i64 r, .int .i64 k, .int .i64 x, .int .i64 n, .int .i64 s] W fun e w' => e = .returned (.int .i64 (netN r f xs k x n s)) ∧ Below W.heap.size W w') :=
    Lib.hid (fun W hW => slevel_any r f xs a l c k x n s W (H.out.on hW.out.low) hz)
  obtain ⟨Z, hZ⟩ : ∃ y_, netN r f xs k x n s = y_ := ⟨_, rfl⟩
  rw [hZ] at CL ⊢
  clear hZ hz hp
  go_enter Tryz.func85, Tryz.ntmps85
  go_wp2_with fail
  obtain ⟨W1, hW1⟩ : ∃ W1, ((w.alloc (.cells #[.int .i64 f, .slice a l c, .int .i64 r] 28)).alloc (.cells #[.int .i64 k, .int .i64 x, .int .i64 n, .int .i64 s, .int .i64 u] 30)) = W1 := ⟨_, rfl⟩
  rw [hW1] at HP ⊢
  clear hW1
  with_reducible refine (CL.out _ HP).mono ?_
  rintro e w1 ⟨rfl, hb⟩
  have HP := Lib.hid (HP.out.on hb)
  clear hb
  obtain ⟨b0, b1, b2, p0, p1, p2, p3, p4, -⟩ := bpS HP.out
  go_wp2_with fail
  go_ret
  exact ⟨rfl, HP.out.low⟩

set_option maxHeartbeats 1000000 in
theorem sdur_any (r f : Int) (xs : List Int) (a : Option Addr) (l c : Nat) (k x n s u : Int) (w : World) (h : Ints w a l xs) (hp : poB r f xs k x n s u = true) :
    Calls Tryz.prog 44 #[.agg #[.int .i64 f, .slice a l c, .int .i64 r], .agg #[.int .i64 k, .int .i64 x, .int .i64 n, .int .i64 s, .int .i64 u]] w fun e w' => e = .returned (.int .i64 (durN f xs k x n)) ∧ Below w.heap.size w w' := by
  have hz := (poB_iff.1 hp).1
  unfold asE at hz
  obtain ⟨-, -, ht, -, ⟨x0, x1⟩, -⟩ := as_in hz
  obtain ⟨f0, f1⟩ := ht.1
  have hl := h.len
  have hs := ht.2.1
  have H := Lib.hid h
  clear h
  have HP := Lib.hid (BP.new w f (.slice a l c) r k x n s u 28 30)
  have CE : Hid (∀ W, Hid (BP w f (.slice a l c) r k x n s u W) → Calls Tryz.prog 73 #[.agg #[.int .i64 f, .slice a l c]] W fun e w' => e = .returned (.int .i64 (f + l - 1)) ∧ Below W.heap.size W w') :=
    Lib.hid (fun W hW => end_spec f xs a l c W (by omega) f0 (by omega))
  clear ht hz hp
  by_cases hk : k = 0
  · have HV : Hid (durN f xs k x n = f + l - 1 - x) := Lib.hid (by unfold durN; rw [if_pos hk, hl])
    obtain ⟨E, hE⟩ : ∃ y_, f + l - 1 = y_ := ⟨_, rfl⟩
    rw [hE] at HV CE
    have q1 : IntKind.i64.wrap (E - x) = E - x := IntWalk.i64_in _ (by omega)
    rw [HV.out]
    clear hE HV
    subst hk
    go_enter Tryz.func44, Tryz.ntmps44
    go_wp2_with fail
    obtain ⟨W1, hW1⟩ : ∃ W1, ((w.alloc (.cells #[.int .i64 f, .slice a l c, .int .i64 r] 28)).alloc (.cells #[.int .i64 0, .int .i64 x, .int .i64 n, .int .i64 s, .int .i64 u] 30)) = W1 := ⟨_, rfl⟩
    rw [hW1] at HP ⊢
    clear hW1
    obtain ⟨b0, b1, b2, p0, p1, p2, p3, p4, -⟩ := bpS HP.out
    go_wp2_with fail
    go_region_held3 (fun W9 => W9.cell? ⟨w.heap.size, 0, none⟩ = some (.int .i64 f) ∧ W9.cell? ⟨w.heap.size, 1, none⟩ = some (.slice a l c) ∧ W9.cell? ⟨w.heap.size, 2, none⟩ = some (.int .i64 r) ∧ W9.cell? ⟨w.heap.size + 1, 0, none⟩ = some (.int .i64 0) ∧ W9.cell? ⟨w.heap.size + 1, 1, none⟩ = some (.int .i64 x) ∧ W9.cell? ⟨w.heap.size + 1, 2, none⟩ = some (.int .i64 n) ∧ W9.cell? ⟨w.heap.size + 1, 3, none⟩ = some (.int .i64 s) ∧ W9.cell? ⟨w.heap.size + 1, 4, none⟩ = some (.int .i64 u) ∧ Hid (BP w f (.slice a l c) r 0 x n s u W9))
    (first
      | (go_split_ands; exact ⟨by with_reducible assumption, by with_reducible assumption, by with_reducible assumption, by with_reducible assumption, by with_reducible assumption, by with_reducible assumption, by with_reducible assumption, by with_reducible assumption, by with_reducible assumption⟩)
      | (go_split_ands; with_reducible exact bpS HP.out)
      | (go_split_ands; with_reducible exact bpS (BP.drew HP.out))
      | (go_split_ands; with_reducible exact bpS (BP.on (Hid.out (by with_reducible assumption)) hb))
      | fail)
        (first
          | (go_split_ands; go_at_call 73; ((with_reducible refine (CE.out _ (by with_reducible assumption)).mono ?_); rintro e w' ⟨rfl, hb⟩))
          | fail)
    all_goals
      go_split_ands
      go_wp2_with fail
      go_ret
      exact ⟨rfl, bpLow f (.slice a l c) r 0 x n s u (by with_reducible assumption)⟩
  · have HV : Hid (durN f xs k x n = n) := Lib.hid (by unfold durN; rw [if_neg hk])
    have hk2 : (k == 0) = false := by simp [hk]
    rw [HV.out]
    clear hk HV
    go_enter Tryz.func44, Tryz.ntmps44
    go_wp2_with fail
    go_ret
    exact ⟨rfl, HP.out.low⟩

def netV (r f : Int) (xs : List Int) (k x n s u : Int) : Int := if poB r f xs k x n s u = true then netN r f xs k x n s else 0

def durV (r f : Int) (xs : List Int) (k x n s u : Int) : Int := if poB r f xs k x n s u = true then durN f xs k x n else 0

def gnQV (r f : Int) (xs : List Int) (k x n s u : Int) : Int := if poB r f xs k x n s u = true then gnQ r f xs k x n s else 0

def gnRV (r f : Int) (xs : List Int) (k x n s u : Int) : Int := if poB r f xs k x n s u = true then gnR r f xs k x n s else 0

end Go.Proofs.YtdlfofdibooidaaGreat

/- The program's columns: a number times a discount, the block of a table with its columns, its columns at an age, the check of the arguments. -/
namespace Go.Proofs.YtdlfofdibooidaaGreat
open Go.ChangeShapes Go.WideShapes Go.ChangeAt Go.RowKit
set_option linter.unusedVariables false
set_option maxRecDepth 100000

theorem termB_iff (n : Int) : termB n = true ↔ 0 ≤ n ∧ n ≤ 120 := by unfold termB; rw [inB_iff]

theorem times_any (B : Nat) (r n : Int) (k : Nat) (w : World) (h : DB w B r) (h0 : 0 ≤ r) (h1 : r ≤ 200) (n0 : 0 ≤ n) (n1 : n ≤ 1000000) :
    Calls Tryz.prog 107 #[.pointer (some ⟨B, 0, none⟩), .int .i64 n, .int .i64 k] w (AfterPost B r (if k ≤ 120 then n * disc r k else 0) w) := by
  have H := Lib.hid h
  clear h
  by_cases hk : k ≤ 120
  · have ht : termB (k : Int) = true := (termB_iff _).2 (by omega)
    rw [if_pos hk]
    obtain ⟨d0, d1⟩ := disc_bd r h0 k
    obtain ⟨p0, p1⟩ := prod_bd n (disc r k) n0 n1 d0 d1
    have HA := Lib.hid (after_any B r k w H.out h0 h1 hk)
    obtain ⟨D, hD⟩ : ∃ D, disc r k = D := ⟨_, rfl⟩
    rw [hD] at d0 d1 p0 p1 HA ⊢
    clear hD
    go_enter Tryz.func107, Tryz.ntmps107
    go_wp2_with (first | (go_at_call 123; refine (isTerm_any _ _).mono ?_; rintro e w' ⟨rfl, rfl⟩) | (go_at_call 124; refine (HA.out).mono ?_; rintro e w2 ⟨rfl, hb, ho⟩))
    go_ret
    exact ⟨rfl, hb, ho⟩
  · have ht : termB (k : Int) = false := by
      cases hc : termB (k : Int)
      · rfl
      · have := (termB_iff _).1 hc; omega
    rw [if_neg hk]
    go_enter Tryz.func107, Tryz.ntmps107
    go_wp2_with (go_at_call 123; refine (isTerm_any _ _).mono ?_; rintro e w' ⟨rfl, rfl⟩)
    go_ret
    exact ⟨rfl, H.out, Only.refl _ _⟩

/-! ### the block of a table and its columns -/

/-- its cells: the first age, the lives, the columns -/
def ccells (f : Int) (v : Value) (G : Nat → Int) : Array Value := (([Value.int .i64 f, v] : List Value) ++ (List.range 604).map fun k => Value.int .i64 (G k)).toArray

def CBX (w : World) (R : Nat) (f : Int) (v : Value) (G : Nat → Int) : Prop := w.heap[R]? = some (.cells (ccells f v G) 126 (0, 0))

theorem CBX.lt {w : World} {R : Nat} {f : Int} {v : Value} {G : Nat → Int} (h : CBX w R f v G) : R < w.heap.size := by
  unfold CBX at h
  by_cases hb : R < w.heap.size
  · exact hb
  · have : w.heap[R]? = none := by simp; omega
    rw [this] at h; cases h

theorem CBX.first {w : World} {R : Nat} {f : Int} {v : Value} {G : Nat → Int} (h : CBX w R f v G) : w.cell? ⟨R, 0, none⟩ = some (.int .i64 f) := by
  unfold CBX at h
  simp [World.cell?, h, ccells]

theorem CBX.row {w : World} {R : Nat} {f : Int} {v : Value} {G : Nat → Int} (h : CBX w R f v G) : w.cell? ⟨R, 1, none⟩ = some v := by
  unfold CBX at h
  simp [World.cell?, h, ccells]

theorem CBX.at {w : World} {R : Nat} {f : Int} {v : Value} {G : Nat → Int} (h : CBX w R f v G) (k : Nat) (hk : k < 604) (u : Int) (hu : G k = u) (i : Nat) (hi : i = k + 2) : w.cell? ⟨R, i, none⟩ = some (.int .i64 u) := by
  subst hi
  unfold CBX at h
  simp [World.cell?, h, ccells, hk, hu]

theorem CBX.free {w : World} {R : Nat} {f : Int} {v : Value} {G : Nat → Int} (h : CBX w R f v G) (i : Nat) : w.frozen? ⟨R, i, none⟩ = false := by
  unfold CBX at h
  simp [World.frozen?, h]

theorem CBX.same {w w' : World} {R : Nat} {f : Int} {v : Value} {G : Nat → Int} (h : CBX w R f v G) (hb : w'.heap[R]? = w.heap[R]?) : CBX w' R f v G := by
  unfold CBX at h ⊢; rw [hb, h]

theorem CBX.set {w : World} {R : Nat} {f : Int} {v : Value} {G : Nat → Int} (h : CBX w R f v G) (k : Nat) (u : Int) (i : Nat) (hi : i = k + 2) : CBX (w.setCell ⟨R, i, none⟩ (.int .i64 u)) R f v (fun j => if j = k then u else G j) := by
  subst hi
  have hl := h.lt
  unfold CBX at h ⊢
  rw [Array.getElem?_eq_getElem hl] at h
  have h' : w.heap[R] = .cells (ccells f v G) 126 (0, 0) := by simpa using h
  show (w.heap.modify R _)[R]? = _
  rw [Array.getElem?_modify, if_pos rfl, Array.getElem?_eq_getElem hl, h']
  have e : (ccells f v G).setIfInBounds (k + 2) (.int .i64 u) = ccells f v (fun j => if j = k then u else G j) := by
    unfold ccells
    apply Array.ext'
    simp only [Array.toList_setIfInBounds, List.cons_append, List.nil_append, List.set_cons_succ, List.cons.injEq, true_and]
    apply List.ext_getElem
    · simp
    · intro n h1 h2
      simp only [List.getElem_set, List.getElem_map, List.getElem_range]
      by_cases hn : k = n
      · subst hn; simp
      · rw [if_neg hn, if_neg (fun e => hn e.symm)]
  simp [e]

/-- the columns of four functions at an age -/
def AtG (G : Nat → Int) (m : Nat) : Value := .agg #[.int .i64 (G (m * 4)), .int .i64 (G (m * 4 + 1)), .int .i64 (G (m * 4 + 2)), .int .i64 (G (m * 4 + 3))]

theorem colat_any (R : Nat) (f : Int) (v : Value) (G : Nat → Int) (m : Nat) (w : World) (h : CBX w R f v G) (hm : m ≤ 150) :
    Calls Tryz.prog 88 #[.pointer (some ⟨R, 2, none⟩), .int .i64 m] w fun e w' => e = .returned (AtG G m) ∧ Below w.heap.size w w' := by
  have H := Lib.hid h
  have hl := h.lt
  unfold AtG
  obtain ⟨a, ha⟩ : ∃ a, G (m * 4) = a := ⟨_, rfl⟩
  obtain ⟨b, hb⟩ : ∃ a, G (m * 4 + 1) = a := ⟨_, rfl⟩
  obtain ⟨c, hc⟩ : ∃ a, G (m * 4 + 2) = a := ⟨_, rfl⟩
  obtain ⟨d, hd⟩ : ∃ a, G (m * 4 + 3) = a := ⟨_, rfl⟩
  rw [ha, hb, hc, hd]
  have y0 := h.at _ (by omega) a ha (2 + m * 4) (by omega)
  have y1 := h.at _ (by omega) b hb (2 + m * 4 + 1) (by omega)
  have y2 := h.at _ (by omega) c hc (2 + m * 4 + 2) (by omega)
  have y3 := h.at _ (by omega) d hd (2 + m * 4 + 3) (by omega)
  clear h ha hb hc hd
  go_enter Tryz.func88, Tryz.ntmps88
  go_wp2_with fail
  refine bodyPost_ret (v := .agg #[.int .i64 a, .int .i64 b, .int .i64 c, .int .i64 d]) ?_ rfl ⟨rfl, box_b _ _⟩
  simp [results, Tryz.results88, go_sem]

end Go.Proofs.YtdlfofdibooidaaGreat

/- ColumnsAt of the model. -/
namespace Go.Proofs.YtdlfofdibooidaaGreat
open Go.ChangeShapes Go.WideShapes Go.ChangeAt Go.RowKit
set_option linter.unusedVariables false
set_option maxRecDepth 100000

/-- what ColumnsAt answers -/
def atV (r f : Int) (xs : List Int) (x : Int) (F : Nat → Int) : Int := if coE r f xs x = 0 then F (x - f).toNat else 0

theorem ret_at {a b c d e a' b' c' d' e' : Int} (h1 : a = a') (h2 : b = b') (h3 : c = c') (h4 : d = d') (h5 : e = e') :
    Ending.returned (.tuple #[.agg #[.int .i64 a, .int .i64 b, .int .i64 c, .int .i64 d], .int .i64 e]) = .returned (.tuple #[.agg #[.int .i64 a', .int .i64 b', .int .i64 c', .int .i64 d'], .int .i64 e']) := by
  rw [h1, h2, h3, h4, h5]

/-- a block of four cells -/
def Q4 (w : World) (B : Nat) (a b c d : Int) : Prop := w.heap[B]? = some (.cells #[.int .i64 a, .int .i64 b, .int .i64 c, .int .i64 d] 62 (0, 0))

def atPost (r f : Int) (xs : List Int) (x : Int) (w : World) (e : Ending) (w' : World) : Prop :=
  e = .returned (.tuple #[.agg #[.int .i64 (atV r f xs x (cD r xs)), .int .i64 (atV r f xs x (cN r xs)), .int .i64 (atV r f xs x (cC r xs)), .int .i64 (atV r f xs x (cM r xs))], .int .i64 (coE r f xs x)]) ∧ Below w.heap.size w w'

end Go.Proofs.YtdlfofdibooidaaGreat

/- Reserves: numbers. -/
namespace Go.Proofs.YtdlfofdibooidaaGreat
open Go.ChangeShapes Go.WideShapes Go.ChangeAt Go.RowKit
set_option linter.unusedVariables false
set_option maxRecDepth 100000

/-- the years that are left -/
def lfN (k n j : Int) : Int := if k = 0 then 0 else n - j

/-- D in the year j -/
def dvN (r f : Int) (xs : List Int) (x j : Int) : Int := cD r xs (x + j - f).toNat

/-- the code of a year -/
def rvE (r f : Int) (xs : List Int) (k x n s u j : Int) : Int :=
  if poB r f xs k x n s u = true then (if inB j 0 (durN f xs k x n - 1) = true then (if dvN r f xs x j = 0 then 5 else 0) else 2) else 1

/-- what is still to be paid out and what is still to come in -/
def ryT (r f : Int) (xs : List Int) (k x n j : Int) : Int := asT r f xs k (x + j) (lfN k n j)

def ryB (r f : Int) (xs : List Int) (k x n j : Int) : Int := asB r f xs k (x + j) (lfN k n j)

/-- the numerators of the forward and the backward reserve, and of the gain -/
def fwN (r f : Int) (xs : List Int) (k x n s j : Int) : Int := s * ryT r f xs k x n j - netN r f xs k x n s * ryB r f xs k x n j

def bwN (r f : Int) (xs : List Int) (k x n s j : Int) : Int := netN r f xs k x n s * (asB r f xs k x n - ryB r f xs k x n j) - s * (asT r f xs k x n - ryT r f xs k x n j)

def gnN (r f : Int) (xs : List Int) (k x n s : Int) : Int := netN r f xs k x n s * asB r f xs k x n - s * asT r f xs k x n

theorem rvE_iff {r f : Int} {xs : List Int} {k x n s u j : Int} : rvE r f xs k x n s u j = 0 ↔ poB r f xs k x n s u = true ∧ (0 ≤ j ∧ j ≤ durN f xs k x n - 1) ∧ dvN r f xs x j ≠ 0 := by
  unfold rvE
  rw [← inB_iff]
  split
  · split
    · split <;> simp_all
    · simp_all
  · simp_all

theorem rvE_no {r f : Int} {xs : List Int} {k x n s u j : Int} (h : poB r f xs k x n s u = false) : rvE r f xs k x n s u j = 1 := by
  unfold rvE; simp [h]

theorem rvE_out {r f : Int} {xs : List Int} {k x n s u j : Int} (h : poB r f xs k x n s u = true) (hj : inB j 0 (durN f xs k x n - 1) = false) : rvE r f xs k x n s u j = 2 := by
  unfold rvE; simp [h, hj]

theorem rvE_zero {r f : Int} {xs : List Int} {k x n s u j : Int} (h : poB r f xs k x n s u = true) (hj : inB j 0 (durN f xs k x n - 1) = true) (hd : dvN r f xs x j = 0) : rvE r f xs k x n s u j = 5 := by
  unfold rvE; simp [h, hj, hd]

/-- a valid policy and its years -/
theorem rv_in {r f : Int} {xs : List Int} {k x n s u j : Int} (hp : poB r f xs k x n s u = true) (hj : 0 ≤ j ∧ j ≤ durN f xs k x n - 1) :
    LTab f xs ∧ (0 ≤ r ∧ r ≤ 200) ∧ ((0 ≤ k ∧ k ≤ 3) ∧ (k = 0 ↔ lfN k n j = 0)) ∧ (0 ≤ lfN k n j ∧ lfN k n j ≤ 120) ∧ (f ≤ x + j ∧ x + j + lfN k n j ≤ 150 ∧ x + j ≤ 149) ∧ (f ≤ x ∧ x ≤ 150) ∧ (0 ≤ n ∧ n ≤ 120) ∧ (0 ≤ f ∧ f ≤ 100) := by
  have hz := (poB_iff.1 hp).1
  unfold asE at hz
  obtain ⟨-, ⟨hk, hkn⟩, ht, hr, hx, hn, xn, hd⟩ := as_in hz
  obtain ⟨f0, f1⟩ := ht.1
  have hs := ht.2.1
  have hs2 := ht.2.2.1
  unfold durN at hj
  unfold lfN
  by_cases h : k = 0
  · rw [if_pos h] at hj ⊢
    exact ⟨ht, hr, ⟨hk, by omega⟩, by omega, by omega, hx, hn, f0, f1⟩
  · rw [if_neg h] at hj ⊢
    exact ⟨ht, hr, ⟨hk, by omega⟩, by omega, by omega, hx, hn, f0, f1⟩

theorem dur_pos {r f : Int} {xs : List Int} {k x n s u : Int} (hp : poB r f xs k x n s u = true) : 1 ≤ durN f xs k x n ∧ durN f xs k x n ≤ 120 := by
  have hz := (poB_iff.1 hp).1
  unfold asE at hz
  obtain ⟨-, ⟨hk, hkn⟩, ht, hr, ⟨x0, x1⟩, hn, xn, hd⟩ := as_in hz
  obtain ⟨f0, f1⟩ := ht.1
  have hs := ht.2.1
  unfold durN
  by_cases h : k = 0
  · rw [if_pos h]
    have hlt : (x - f).toNat < xs.length - 1 := by
      by_cases hlt : (x - f).toNat < xs.length - 1
      · exact hlt
      · exact absurd (ht.cD_far r _ (by omega)) hd
    omega
  · rw [if_neg h]
    have : ¬ n = 0 := fun e => h (hkn.2 e)
    omega

/-- the assurance of a year has no error -/
theorem rv_as {r f : Int} {xs : List Int} {k x n s u j : Int} (hp : poB r f xs k x n s u = true) (hj : 0 ≤ j ∧ j ≤ durN f xs k x n - 1) (hd : dvN r f xs x j ≠ 0) :
    anE r f xs (x + j) (inB s 1 100000000 && fitB k (lfN k n j)) (lfN k n j) = 0 := by
  have hz := (poB_iff.1 hp).1
  unfold asE at hz
  have hB := (as_in hz).1
  obtain ⟨ht, hr, hk, hl, ⟨y0, y1, y2⟩, -, -, -⟩ := rv_in hp hj
  refine anE_iff.2 ⟨coE_iff.2 ⟨ht, hr, y0, by omega⟩, ?_, hl, by omega, hd⟩
  rw [Bool.and_eq_true]
  exact ⟨hB, fitB_iff.2 hk⟩

/-- for a kind with years only D at the beginning counts -/
theorem rv_age {r f : Int} {xs : List Int} {k x n s u j : Int} (hp : poB r f xs k x n s u = true) (hk : k ≠ 0) (hj : 0 ≤ j ∧ j ≤ durN f xs k x n - 1) : dvN r f xs x j ≠ 0 := by
  obtain ⟨-, -, h3⟩ := poB_iff.1 hp
  obtain ⟨-, -, -, -, -, ⟨x0, x1⟩, -, -⟩ := rv_in hp hj
  unfold durN at hj
  rw [if_neg hk] at hj
  have := h3 j.toNat (by omega)
  unfold dvN
  rw [show (x + j - f).toNat = (x - f).toNat + j.toNat by omega]
  exact this

/-- the numbers of a year -/
theorem rv_nums {r f : Int} {xs : List Int} {k x n s u j : Int} (hp : poB r f xs k x n s u = true) (hj : 0 ≤ j ∧ j ≤ durN f xs k x n - 1) (hd : dvN r f xs x j ≠ 0) :
    ∃ t b d t0 b0 p : Int, ryT r f xs k x n j = t ∧ ryB r f xs k x n j = b ∧ dvN r f xs x j = d ∧ asT r f xs k x n = t0 ∧ asB r f xs k x n = b0 ∧ netN r f xs k x n s = p ∧
      (0 ≤ t ∧ t ≤ d) ∧ (1 ≤ d ∧ d ≤ 1000000000000000) ∧ (d ≤ b ∧ b ≤ 152 * d) ∧ (t ≤ t0 ∧ t0 ≤ 1000000000000000) ∧ (b ≤ b0 ∧ b0 ≤ 152000000000000000) ∧ (0 ≤ p ∧ p ≤ 100000001) ∧ s * t0 ≤ p * b0 ∧ p * b0 < s * t0 + b0 ∧ 1 ≤ s ∧ s ≤ 100000000 := by
  obtain ⟨t0, d0, b0, p, e1, e2, e3, e4, t00, t01, d00, d01, b00, b01, p0, p1, g0, g1, s0, s1⟩ := po_nums hp
  obtain ⟨t, d, b, f1, f2, f3, h1, h2, h3, h4, h5, h6⟩ := as_nums (rv_as hp hj hd)
  obtain ⟨ht, ⟨r0, r1⟩, ⟨hk, hkl⟩, ⟨l0, l1⟩, ⟨y0, y1, y2⟩, ⟨x0, x1⟩, ⟨n0, n1⟩, -⟩ := rv_in hp hj
  refine ⟨t, b, d, t0, b0, p, f1, f3, f2, e1, e3, e4, ⟨h1, h2⟩, ⟨h3, h4⟩, ⟨h5, ?_⟩, ⟨?_, by omega⟩, ⟨?_, b01⟩, ⟨p0, p1⟩, g0, g1, s0, s1⟩
  · have q1 := ht.cN_le r r0 (x + j - f).toNat
    have q2 := (ht.cN_bd r r0 (x + j + lfN k n j - f).toNat).1
    rw [← f3, ← f2]
    unfold asB
    split <;> omega
  · rw [← f1, ← e1]
    have q1 := ht.cM_mono r r0 (x - f).toNat j.toNat
    rw [show (x - f).toNat + j.toNat = (x + j - f).toNat by omega] at q1
    unfold asT lfN
    by_cases h : k = 0
    · rw [if_pos h, if_pos h]; exact q1
    · rw [if_neg h, if_neg h, if_neg h, show x + j + (n - j) - f = x + n - f by omega]
      split
      · omega
      · split <;> omega
  · rw [← f3, ← e3]
    have q1 := ht.cN_mono r r0 (x - f).toNat j.toNat
    rw [show (x - f).toNat + j.toNat = (x + j - f).toNat by omega] at q1
    unfold asB lfN
    by_cases h : k = 0
    · rw [if_pos h, if_pos h]; exact q1
    · rw [if_neg h, if_neg h, if_neg h, show x + j + (n - j) - f = x + n - f by omega]
      omega

theorem bw_eq (r f : Int) (xs : List Int) (k x n s j : Int) : bwN r f xs k x n s j = fwN r f xs k x n s j + gnN r f xs k x n s := by
  unfold bwN fwN gnN
  rw [Int.mul_sub, Int.mul_sub]
  omega

/-- how great the three numerators are -/
theorem rv_bds {r f : Int} {xs : List Int} {k x n s u j : Int} (hp : poB r f xs k x n s u = true) (hj : 0 ≤ j ∧ j ≤ durN f xs k x n - 1) (hd : dvN r f xs x j ≠ 0) :
    (-(20000000000 * dvN r f xs x j) ≤ fwN r f xs k x n s j ∧ fwN r f xs k x n s j ≤ 20000000000 * dvN r f xs x j) ∧
    (0 ≤ gnN r f xs k x n s ∧ gnN r f xs k x n s ≤ 152000000000000000 * dvN r f xs x j) ∧
    (-(20000000000 * dvN r f xs x j) ≤ bwN r f xs k x n s j ∧ bwN r f xs k x n s j ≤ 152000020000000000 * dvN r f xs x j) := by
  rw [bw_eq]
  obtain ⟨t, b, d, t0, b0, p, e1, e2, e3, e4, e5, e6, ⟨h1, h2⟩, ⟨h3, h4⟩, ⟨h5, h6⟩, ⟨h7, h8⟩, ⟨h9, h10⟩, ⟨p0, p1⟩, g0, g1, s0, s1⟩ := rv_nums hp hj hd
  unfold fwN gnN
  rw [e1, e2, e3, e4, e5, e6]
  have m1 : s * t ≤ 100000000 * d := Int.le_trans (Int.mul_le_mul_of_nonneg_left h2 (by omega)) (Int.mul_le_mul_of_nonneg_right s1 (by omega))
  have m2 : p * b ≤ 100000001 * (152 * d) := Int.le_trans (Int.mul_le_mul_of_nonneg_left h6 p0) (Int.mul_le_mul_of_nonneg_right p1 (by omega))
  have m3 : 0 ≤ s * t := Int.mul_nonneg (by omega) h1
  have m4 : 0 ≤ p * b := Int.mul_nonneg p0 (by omega)
  omega

/-- what is told of a quotient -/
def qdV (e N d : Int) : Int := if e = 0 then N / d else 0

def rdV (e N d : Int) : Int := if e = 0 then N % d else 0

/-- the denominator -/
def deV (r f : Int) (xs : List Int) (k x n s u j : Int) : Int := if rvE r f xs k x n s u j = 0 then dvN r f xs x j else 0

/-- the number of the list -/
def ktN (r f : Int) (xs : List Int) (k x n s j : Int) : Int := max 0 (fwN r f xs k x n s j / dvN r f xs x j + min 1 (fwN r f xs k x n s j % dvN r f xs x j))

theorem kt_bd {r f : Int} {xs : List Int} {k x n s u j : Int} (hp : poB r f xs k x n s u = true) (hj : 0 ≤ j ∧ j ≤ durN f xs k x n - 1) (hd : dvN r f xs x j ≠ 0) :
    ∃ q m, fwN r f xs k x n s j / dvN r f xs x j = q ∧ fwN r f xs k x n s j % dvN r f xs x j = m ∧ -20000000000 ≤ q ∧ q ≤ 20000000000 ∧ 0 ≤ m ∧ m < dvN r f xs x j ∧ dvN r f xs x j ≤ 1000000000000000 ∧ ktN r f xs k x n s j = max 0 (q + min 1 m) ∧ 0 ≤ ktN r f xs k x n s j ∧ ktN r f xs k x n s j ≤ 20000000001 := by
  obtain ⟨⟨h1, h2⟩, -, -⟩ := rv_bds hp hj hd
  obtain ⟨t, b, d, t0, b0, p, e1, e2, e3, e4, e5, e6, -, ⟨h3, h4⟩, -⟩ := rv_nums hp hj hd
  unfold ktN
  rw [e3] at h1 h2 ⊢
  have q0 : -20000000000 ≤ fwN r f xs k x n s j / d := Int.le_ediv_of_mul_le (by omega) (by rw [Int.neg_mul]; omega)
  have q1 : fwN r f xs k x n s j / d ≤ 20000000000 := by
    have := Int.ediv_le_ediv (show 0 < d by omega) h2
    rwa [Int.mul_ediv_cancel _ (by omega)] at this
  have m0 := Int.emod_nonneg (fwN r f xs k x n s j) (show d ≠ 0 by omega)
  have m1 := Int.emod_lt_of_pos (fwN r f xs k x n s j) (show 0 < d by omega)
  exact ⟨_, _, rfl, rfl, q0, q1, m0, m1, h4, rfl, by omega, by omega⟩

/-- the reserves of a policy -/
def rlE (r f : Int) (xs : List Int) (k x n s u : Int) : Int := if poB r f xs k x n s u = true then (if npB r xs (x - f).toNat (durN f xs k x n).toNat = true then 0 else 5) else 1

def rlF (r f : Int) (xs : List Int) (k x n s : Int) (j : Nat) : Int := ktN r f xs k x n s j

def rlY (r f : Int) (xs : List Int) (k x n s u : Int) : List Int := if rlE r f xs k x n s u = 0 then colL (rlF r f xs k x n s) (durN f xs k x n).toNat else []

/-- what a death costs -/
def rkE (r f : Int) (xs : List Int) (k x n s u j : Int) : Int := if rvE r f xs k x n s u j = 0 then (if j < durN f xs k x n - 1 then rvE r f xs k x n s u (j + 1) else 0) else rvE r f xs k x n s u j

def rkN (r f : Int) (xs : List Int) (k x n s j : Int) : Int :=
  (if k = 3 ∨ k = 2 ∧ j = durN f xs k x n - 1 then 0 else s) - (if j < durN f xs k x n - 1 then ktN r f xs k x n s (j + 1) else 0)

def rkV (r f : Int) (xs : List Int) (k x n s u j : Int) : Int := if rkE r f xs k x n s u j = 0 then rkN r f xs k x n s j else 0

/-- the greatest of the first n numbers, and the first place where it stands -/
def gmI (F : Nat → Int) : Nat → Nat
  | 0 => 0
  | n + 1 => if F (gmI F n) < F n then n else gmI F n

def grE := rlE

def grV (r f : Int) (xs : List Int) (k x n s u : Int) : Int := if rlE r f xs k x n s u = 0 then rlF r f xs k x n s (gmI (rlF r f xs k x n s) (durN f xs k x n).toNat) else 0

def grI (r f : Int) (xs : List Int) (k x n s u : Int) : Int := if rlE r f xs k x n s u = 0 then (gmI (rlF r f xs k x n s) (durN f xs k x n).toNat : Nat) else 0

end Go.Proofs.YtdlfofdibooidaaGreat
