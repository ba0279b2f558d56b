/- Merged: Comm, ColA, Pot. -/
import Derived.Test.YtnppkdnmkhoeeaaGreatFp7
import Derived.Test.YtnppkdnmkhoeeaaGreatFp9
import Derived.Test.YtnppkdnmkhoeeaaGreatFp11

/- The program's columns: a number times a discount, the block of a table with its columns, its columns at an age, the check of the arguments. -/
namespace Go.Proofs.YtnppkdnmkhoeeaaGreat
open Go.ChangeShapes Go.WideShapes Go.ChangeAt Go.RowKit
set_option linter.unusedVariables false
set_option maxRecDepth 100000

theorem termB_iff (n : Int) : termB n = true ↔ 0 ≤ n ∧ n ≤ 120 := by unfold termB; rw [inB_iff]

theorem times_any (B : Nat) (r n : Int) (k : Nat) (w : World) (h : DB w B r) (h0 : 0 ≤ r) (h1 : r ≤ 200) (n0 : 0 ≤ n) (n1 : n ≤ 1000000) :
    Calls Tryz.prog 89 #[.pointer (some ⟨B, 0, none⟩), .int .i64 n, .int .i64 k] w (AfterPost B r (if k ≤ 120 then n * disc r k else 0) w) := by
  have H := Lib.hid h
  clear h
  by_cases hk : k ≤ 120
  · have ht : termB (k : Int) = true := (termB_iff _).2 (by omega)
    rw [if_pos hk]
    obtain ⟨d0, d1⟩ := disc_bd r h0 k
    obtain ⟨p0, p1⟩ := prod_bd n (disc r k) n0 n1 d0 d1
    have HA := Lib.hid (after_any B r k w H.out h0 h1 hk)
    obtain ⟨D, hD⟩ : ∃ D, disc r k = D := ⟨_, rfl⟩
    rw [hD] at d0 d1 p0 p1 HA ⊢
    clear hD
    go_enter Tryz.func89, Tryz.ntmps89
    go_wp2_with (first | (go_at_call 99; refine (isTerm_any _ _).mono ?_; rintro e w' ⟨rfl, rfl⟩) | (go_at_call 100; refine (HA.out).mono ?_; rintro e w2 ⟨rfl, hb, ho⟩))
    go_ret
    exact ⟨rfl, hb, ho⟩
  · have ht : termB (k : Int) = false := by
      cases hc : termB (k : Int)
      · rfl
      · have := (termB_iff _).1 hc; omega
    rw [if_neg hk]
    go_enter Tryz.func89, Tryz.ntmps89
    go_wp2_with (go_at_call 99; refine (isTerm_any _ _).mono ?_; rintro e w' ⟨rfl, rfl⟩)
    go_ret
    exact ⟨rfl, H.out, Only.refl _ _⟩

/-! ### the block of a table and its columns -/

/-- its cells: the first age, the lives, the columns -/
def ccells (f : Int) (v : Value) (G : Nat → Int) : Array Value := (([Value.int .i64 f, v] : List Value) ++ (List.range 604).map fun k => Value.int .i64 (G k)).toArray

def CBX (w : World) (R : Nat) (f : Int) (v : Value) (G : Nat → Int) : Prop := w.heap[R]? = some (.cells (ccells f v G) 101 (0, 0))

theorem CBX.lt {w : World} {R : Nat} {f : Int} {v : Value} {G : Nat → Int} (h : CBX w R f v G) : R < w.heap.size := by
  unfold CBX at h
  by_cases hb : R < w.heap.size
  · exact hb
  · have : w.heap[R]? = none := by simp; omega
    rw [this] at h; cases h

theorem CBX.first {w : World} {R : Nat} {f : Int} {v : Value} {G : Nat → Int} (h : CBX w R f v G) : w.cell? ⟨R, 0, none⟩ = some (.int .i64 f) := by
  unfold CBX at h
  simp [World.cell?, h, ccells]

theorem CBX.row {w : World} {R : Nat} {f : Int} {v : Value} {G : Nat → Int} (h : CBX w R f v G) : w.cell? ⟨R, 1, none⟩ = some v := by
  unfold CBX at h
  simp [World.cell?, h, ccells]

theorem CBX.at {w : World} {R : Nat} {f : Int} {v : Value} {G : Nat → Int} (h : CBX w R f v G) (k : Nat) (hk : k < 604) (u : Int) (hu : G k = u) (i : Nat) (hi : i = k + 2) : w.cell? ⟨R, i, none⟩ = some (.int .i64 u) := by
  subst hi
  unfold CBX at h
  simp [World.cell?, h, ccells, hk, hu]

theorem CBX.free {w : World} {R : Nat} {f : Int} {v : Value} {G : Nat → Int} (h : CBX w R f v G) (i : Nat) : w.frozen? ⟨R, i, none⟩ = false := by
  unfold CBX at h
  simp [World.frozen?, h]

theorem CBX.same {w w' : World} {R : Nat} {f : Int} {v : Value} {G : Nat → Int} (h : CBX w R f v G) (hb : w'.heap[R]? = w.heap[R]?) : CBX w' R f v G := by
  unfold CBX at h ⊢; rw [hb, h]

theorem CBX.set {w : World} {R : Nat} {f : Int} {v : Value} {G : Nat → Int} (h : CBX w R f v G) (k : Nat) (u : Int) (i : Nat) (hi : i = k + 2) : CBX (w.setCell ⟨R, i, none⟩ (.int .i64 u)) R f v (fun j => if j = k then u else G j) := by
  subst hi
  have hl := h.lt
  unfold CBX at h ⊢
  rw [Array.getElem?_eq_getElem hl] at h
  have h' : w.heap[R] = .cells (ccells f v G) 101 (0, 0) := by simpa using h
  show (w.heap.modify R _)[R]? = _
  rw [Array.getElem?_modify, if_pos rfl, Array.getElem?_eq_getElem hl, h']
  have e : (ccells f v G).setIfInBounds (k + 2) (.int .i64 u) = ccells f v (fun j => if j = k then u else G j) := by
    unfold ccells
    apply Array.ext'
    simp only [Array.toList_setIfInBounds, List.cons_append, List.nil_append, List.set_cons_succ, List.cons.injEq, true_and]
    apply List.ext_getElem
    · simp
    · intro n h1 h2
      simp only [List.getElem_set, List.getElem_map, List.getElem_range]
      by_cases hn : k = n
      · subst hn; simp
      · rw [if_neg hn, if_neg (fun e => hn e.symm)]
  simp [e]

/-- the columns of four functions at an age -/
def AtG (G : Nat → Int) (m : Nat) : Value := .agg #[.int .i64 (G (m * 4)), .int .i64 (G (m * 4 + 1)), .int .i64 (G (m * 4 + 2)), .int .i64 (G (m * 4 + 3))]

theorem colat_any (R : Nat) (f : Int) (v : Value) (G : Nat → Int) (m : Nat) (w : World) (h : CBX w R f v G) (hm : m ≤ 150) :
    Calls Tryz.prog 63 #[.pointer (some ⟨R, 2, none⟩), .int .i64 m] w fun e w' => e = .returned (AtG G m) ∧ Below w.heap.size w w' := by
  have H := Lib.hid h
  have hl := h.lt
  unfold AtG
  obtain ⟨a, ha⟩ : ∃ a, G (m * 4) = a := ⟨_, rfl⟩
  obtain ⟨b, hb⟩ : ∃ a, G (m * 4 + 1) = a := ⟨_, rfl⟩
  obtain ⟨c, hc⟩ : ∃ a, G (m * 4 + 2) = a := ⟨_, rfl⟩
  obtain ⟨d, hd⟩ : ∃ a, G (m * 4 + 3) = a := ⟨_, rfl⟩
  rw [ha, hb, hc, hd]
  have y0 := h.at _ (by omega) a ha (2 + m * 4) (by omega)
  have y1 := h.at _ (by omega) b hb (2 + m * 4 + 1) (by omega)
  have y2 := h.at _ (by omega) c hc (2 + m * 4 + 2) (by omega)
  have y3 := h.at _ (by omega) d hd (2 + m * 4 + 3) (by omega)
  clear h ha hb hc hd
  go_enter Tryz.func63, Tryz.ntmps63
  go_wp2_with fail
  refine bodyPost_ret (v := .agg #[.int .i64 a, .int .i64 b, .int .i64 c, .int .i64 d]) ?_ rfl ⟨rfl, box_b _ _⟩
  simp [results, Tryz.results63, go_sem]

end Go.Proofs.YtnppkdnmkhoeeaaGreat

/- ColumnsAt of the model. -/
namespace Go.Proofs.YtnppkdnmkhoeeaaGreat
open Go.ChangeShapes Go.WideShapes Go.ChangeAt Go.RowKit
set_option linter.unusedVariables false
set_option maxRecDepth 100000

/-- what ColumnsAt answers -/
def atV (r f : Int) (xs : List Int) (x : Int) (F : Nat → Int) : Int := if coE r f xs x = 0 then F (x - f).toNat else 0

theorem ret_at {a b c d e a' b' c' d' e' : Int} (h1 : a = a') (h2 : b = b') (h3 : c = c') (h4 : d = d') (h5 : e = e') :
    Ending.returned (.tuple #[.agg #[.int .i64 a, .int .i64 b, .int .i64 c, .int .i64 d], .int .i64 e]) = .returned (.tuple #[.agg #[.int .i64 a', .int .i64 b', .int .i64 c', .int .i64 d'], .int .i64 e']) := by
  rw [h1, h2, h3, h4, h5]

/-- a block of four cells -/
def Q4 (w : World) (B : Nat) (a b c d : Int) : Prop := w.heap[B]? = some (.cells #[.int .i64 a, .int .i64 b, .int .i64 c, .int .i64 d] 71 (0, 0))

def atPost (r f : Int) (xs : List Int) (x : Int) (w : World) (e : Ending) (w' : World) : Prop :=
  e = .returned (.tuple #[.agg #[.int .i64 (atV r f xs x (cD r xs)), .int .i64 (atV r f xs x (cN r xs)), .int .i64 (atV r f xs x (cC r xs)), .int .i64 (atV r f xs x (cM r xs))], .int .i64 (coE r f xs x)]) ∧ Below w.heap.size w w'

end Go.Proofs.YtnppkdnmkhoeeaaGreat

/- Policies: the model: net premiums, durations, gains. (Written by wip/gen/pot.py.) -/
namespace Go.Proofs.YtnppkdnmkhoeeaaGreat
open Go.ChangeShapes Go.WideShapes Go.ChangeAt Go.RowKit
set_option linter.unusedVariables false
set_option maxRecDepth 100000

theorem ret_3p {a b c d e f : Int} (h : a = b) (g : c = d) (k : e = f) : Ending.returned (.tuple #[.int .i64 a, .int .i64 c, .int .i64 e]) = .returned (.tuple #[.int .i64 b, .int .i64 d, .int .i64 f]) := by rw [h, g, k]

theorem snet_any (r f : Int) (xs : List Int) (a : Option Addr) (l c : Nat) (k x n s u : Int) (w : World) (h : Ints w a l xs) (hp : poB r f xs k x n s u = true) :
    Calls Tryz.prog 35 #[.agg #[.int .i64 f, .slice a l c, .int .i64 r], .agg #[.int .i64 k, .int .i64 x, .int .i64 n, .int .i64 s, .int .i64 u]] w fun e w' => e = .returned (.int .i64 (netN r f xs k x n s)) ∧ Below w.heap.size w w' := by
  have H := Lib.hid h
  clear h
  have HP := Lib.hid (BP.new w f (.slice a l c) r k x n s u 28 30)
  have hz := (poB_iff.1 hp).1
  unfold asE at hz
  have CL : Hid (∀ W, Hid (BP w f (.slice a l c) r k x n s u W) → Calls Tryz.prog 72 #[.agg #[.int .i64 f, .slice a l c], .int .i64 r, .int .i64 k, .int .i64 x, .int .i64 n, .int .i64 s] W fun e w' => e = .returned (.int .i64 (netN r f xs k x n s)) ∧ Below W.heap.size W w') :=
    Lib.hid (fun W hW => slevel_any r f xs a l c k x n s W (H.out.on hW.out.low) hz)
  obtain ⟨Z, hZ⟩ : ∃ y_, netN r f xs k x n s = y_ := ⟨_, rfl⟩
  rw [hZ] at CL ⊢
  clear hZ hz hp
  go_enter Tryz.func35, Tryz.ntmps35
  go_wp2_with fail
  obtain ⟨W1, hW1⟩ : ∃ W1, ((w.alloc (.cells #[.int .i64 f, .slice a l c, .int .i64 r] 28)).alloc (.cells #[.int .i64 k, .int .i64 x, .int .i64 n, .int .i64 s, .int .i64 u] 30)) = W1 := ⟨_, rfl⟩
  rw [hW1] at HP ⊢
  clear hW1
  with_reducible refine (CL.out _ HP).mono ?_
  rintro e w1 ⟨rfl, hb⟩
  have HP := Lib.hid (HP.out.on hb)
  clear hb
  obtain ⟨b0, b1, b2, p0, p1, p2, p3, p4, -⟩ := bpS HP.out
  go_wp2_with fail
  go_ret
  exact ⟨rfl, HP.out.low⟩

set_option maxHeartbeats 1000000 in
theorem sdur_any (r f : Int) (xs : List Int) (a : Option Addr) (l c : Nat) (k x n s u : Int) (w : World) (h : Ints w a l xs) (hp : poB r f xs k x n s u = true) :
    Calls Tryz.prog 41 #[.agg #[.int .i64 f, .slice a l c, .int .i64 r], .agg #[.int .i64 k, .int .i64 x, .int .i64 n, .int .i64 s, .int .i64 u]] w fun e w' => e = .returned (.int .i64 (durN f xs k x n)) ∧ Below w.heap.size w w' := by
  have hz := (poB_iff.1 hp).1
  unfold asE at hz
  obtain ⟨-, -, ht, -, ⟨x0, x1⟩, -⟩ := as_in hz
  obtain ⟨f0, f1⟩ := ht.1
  have hl := h.len
  have hs := ht.2.1
  have H := Lib.hid h
  clear h
  have HP := Lib.hid (BP.new w f (.slice a l c) r k x n s u 28 30)
  have CE : Hid (∀ W, Hid (BP w f (.slice a l c) r k x n s u W) → Calls Tryz.prog 59 #[.agg #[.int .i64 f, .slice a l c]] W fun e w' => e = .returned (.int .i64 (f + l - 1)) ∧ Below W.heap.size W w') :=
    Lib.hid (fun W hW => end_spec f xs a l c W (by omega) f0 (by omega))
  clear ht hz hp
  by_cases hk : k = 0
  · have HV : Hid (durN f xs k x n = f + l - 1 - x) := Lib.hid (by unfold durN; rw [if_pos hk, hl])
    obtain ⟨E, hE⟩ : ∃ y_, f + l - 1 = y_ := ⟨_, rfl⟩
    rw [hE] at HV CE
    have q1 : IntKind.i64.wrap (E - x) = E - x := IntWalk.i64_in _ (by omega)
    rw [HV.out]
    clear hE HV
    subst hk
    go_enter Tryz.func41, Tryz.ntmps41
    go_wp2_with fail
    obtain ⟨W1, hW1⟩ : ∃ W1, ((w.alloc (.cells #[.int .i64 f, .slice a l c, .int .i64 r] 28)).alloc (.cells #[.int .i64 0, .int .i64 x, .int .i64 n, .int .i64 s, .int .i64 u] 30)) = W1 := ⟨_, rfl⟩
    rw [hW1] at HP ⊢
    clear hW1
    obtain ⟨b0, b1, b2, p0, p1, p2, p3, p4, -⟩ := bpS HP.out
    go_wp2_with fail
    go_region_held3 (fun W9 => W9.cell? ⟨w.heap.size, 0, none⟩ = some (.int .i64 f) ∧ W9.cell? ⟨w.heap.size, 1, none⟩ = some (.slice a l c) ∧ W9.cell? ⟨w.heap.size, 2, none⟩ = some (.int .i64 r) ∧ W9.cell? ⟨w.heap.size + 1, 0, none⟩ = some (.int .i64 0) ∧ W9.cell? ⟨w.heap.size + 1, 1, none⟩ = some (.int .i64 x) ∧ W9.cell? ⟨w.heap.size + 1, 2, none⟩ = some (.int .i64 n) ∧ W9.cell? ⟨w.heap.size + 1, 3, none⟩ = some (.int .i64 s) ∧ W9.cell? ⟨w.heap.size + 1, 4, none⟩ = some (.int .i64 u) ∧ Hid (BP w f (.slice a l c) r 0 x n s u W9))
    (first
      | (go_split_ands; exact ⟨by with_reducible assumption, by with_reducible assumption, by with_reducible assumption, by with_reducible assumption, by with_reducible assumption, by with_reducible assumption, by with_reducible assumption, by with_reducible assumption, by with_reducible assumption⟩)
      | (go_split_ands; with_reducible exact bpS HP.out)
      | (go_split_ands; with_reducible exact bpS (BP.drew HP.out))
      | (go_split_ands; with_reducible exact bpS (BP.on (Hid.out (by with_reducible assumption)) hb))
      | fail)
        (first
          | (go_split_ands; go_at_call 59; ((with_reducible refine (CE.out _ (by with_reducible assumption)).mono ?_); rintro e w' ⟨rfl, hb⟩))
          | fail)
    all_goals
      go_split_ands
      go_wp2_with fail
      go_ret
      exact ⟨rfl, bpLow f (.slice a l c) r 0 x n s u (by with_reducible assumption)⟩
  · have HV : Hid (durN f xs k x n = n) := Lib.hid (by unfold durN; rw [if_neg hk])
    have hk2 : (k == 0) = false := by simp [hk]
    rw [HV.out]
    clear hk HV
    go_enter Tryz.func41, Tryz.ntmps41
    go_wp2_with fail
    go_ret
    exact ⟨rfl, HP.out.low⟩

def netV (r f : Int) (xs : List Int) (k x n s u : Int) : Int := if poB r f xs k x n s u = true then netN r f xs k x n s else 0

set_option maxHeartbeats 1000000 in
theorem snp_any (r f : Int) (xs : List Int) (a : Option Addr) (l c : Nat) (k x n s u : Int) (w : World) (h : Ints w a l xs) :
    Calls Tryz.prog 11 #[.agg #[.int .i64 f, .slice a l c, .int .i64 r], .agg #[.int .i64 k, .int .i64 x, .int .i64 n, .int .i64 s, .int .i64 u]] w (IIPost (netV r f xs k x n s u) (poE r f xs k x n s u) w) := by
  have H := Lib.hid h
  clear h
  have HP := Lib.hid (BP.new w f (.slice a l c) r k x n s u 28 30)
  unfold IIPost
  have CP : Hid (∀ W, Hid (BP w f (.slice a l c) r k x n s u W) → Calls Tryz.prog 31 #[.agg #[.int .i64 f, .slice a l c, .int .i64 r], .agg #[.int .i64 k, .int .i64 x, .int .i64 n, .int .i64 s, .int .i64 u]] W fun e w' => e = .returned (.bool (poB r f xs k x n s u)) ∧ Below W.heap.size W w') :=
    Lib.hid (fun W hW => spol_any r f xs a l c k x n s u W (H.out.on hW.out.low))
  by_cases hp : poB r f xs k x n s u = true
  · have HV : Hid (netV r f xs k x n s u = netN r f xs k x n s) := Lib.hid (by unfold netV; rw [if_pos hp])
    have CN : Hid (∀ W, Hid (BP w f (.slice a l c) r k x n s u W) → Calls Tryz.prog 35 #[.agg #[.int .i64 f, .slice a l c, .int .i64 r], .agg #[.int .i64 k, .int .i64 x, .int .i64 n, .int .i64 s, .int .i64 u]] W fun e w' => e = .returned (.int .i64 (netN r f xs k x n s)) ∧ Below W.heap.size W w') :=
    Lib.hid (fun W hW => snet_any r f xs a l c k x n s u W (H.out.on hW.out.low) hp)
    obtain ⟨Z, hZ⟩ : ∃ y_, netN r f xs k x n s = y_ := ⟨_, rfl⟩
    rw [hZ] at HV CN
    rw [HV.out, poE_yes hp]
    rw [hp] at CP
    clear hZ HV hp
    go_enter Tryz.func11, Tryz.ntmps11
    go_wp2_with fail
    obtain ⟨W1, hW1⟩ : ∃ W1, ((w.alloc (.cells #[.int .i64 f, .slice a l c, .int .i64 r] 28)).alloc (.cells #[.int .i64 k, .int .i64 x, .int .i64 n, .int .i64 s, .int .i64 u] 30)) = W1 := ⟨_, rfl⟩
    rw [hW1] at HP ⊢
    clear hW1
    with_reducible refine (CP.out _ HP).mono ?_
    rintro e w1 ⟨rfl, hb⟩
    have HP := Lib.hid (HP.out.on hb)
    clear hb
    obtain ⟨b0, b1, b2, p0, p1, p2, p3, p4, -⟩ := bpS HP.out
    go_wp2_with fail
    with_reducible refine (CN.out _ HP).mono ?_
    rintro e w2 ⟨rfl, hb⟩
    have HP := Lib.hid (HP.out.on hb)
    clear b0 b1 b2 p0 p1 p2 p3 p4 hb
    obtain ⟨b0, b1, b2, p0, p1, p2, p3, p4, -⟩ := bpS HP.out
    go_wp2_with fail
    go_ret2
    exact ⟨rfl, HP.out.low⟩
  · have hp2 : poB r f xs k x n s u = false := by simpa using hp
    have HV : Hid (netV r f xs k x n s u = 0) := Lib.hid (by unfold netV; rw [if_neg hp])
    rw [HV.out, poE_no hp2]
    rw [hp2] at CP
    clear HV hp hp2
    go_enter Tryz.func11, Tryz.ntmps11
    go_wp2_with fail
    obtain ⟨W1, hW1⟩ : ∃ W1, ((w.alloc (.cells #[.int .i64 f, .slice a l c, .int .i64 r] 28)).alloc (.cells #[.int .i64 k, .int .i64 x, .int .i64 n, .int .i64 s, .int .i64 u] 30)) = W1 := ⟨_, rfl⟩
    rw [hW1] at HP ⊢
    clear hW1
    with_reducible refine (CP.out _ HP).mono ?_
    rintro e w1 ⟨rfl, hb⟩
    have HP := Lib.hid (HP.out.on hb)
    clear hb
    obtain ⟨b0, b1, b2, p0, p1, p2, p3, p4, -⟩ := bpS HP.out
    go_wp2_with fail
    go_ret2
    exact ⟨rfl, HP.out.low⟩

def durV (r f : Int) (xs : List Int) (k x n s u : Int) : Int := if poB r f xs k x n s u = true then durN f xs k x n else 0

set_option maxHeartbeats 1000000 in
theorem sdo_any (r f : Int) (xs : List Int) (a : Option Addr) (l c : Nat) (k x n s u : Int) (w : World) (h : Ints w a l xs) :
    Calls Tryz.prog 15 #[.agg #[.int .i64 f, .slice a l c, .int .i64 r], .agg #[.int .i64 k, .int .i64 x, .int .i64 n, .int .i64 s, .int .i64 u]] w (IIPost (durV r f xs k x n s u) (poE r f xs k x n s u) w) := by
  have H := Lib.hid h
  clear h
  have HP := Lib.hid (BP.new w f (.slice a l c) r k x n s u 28 30)
  unfold IIPost
  have CP : Hid (∀ W, Hid (BP w f (.slice a l c) r k x n s u W) → Calls Tryz.prog 31 #[.agg #[.int .i64 f, .slice a l c, .int .i64 r], .agg #[.int .i64 k, .int .i64 x, .int .i64 n, .int .i64 s, .int .i64 u]] W fun e w' => e = .returned (.bool (poB r f xs k x n s u)) ∧ Below W.heap.size W w') :=
    Lib.hid (fun W hW => spol_any r f xs a l c k x n s u W (H.out.on hW.out.low))
  by_cases hp : poB r f xs k x n s u = true
  · have HV : Hid (durV r f xs k x n s u = durN f xs k x n) := Lib.hid (by unfold durV; rw [if_pos hp])
    have CN : Hid (∀ W, Hid (BP w f (.slice a l c) r k x n s u W) → Calls Tryz.prog 41 #[.agg #[.int .i64 f, .slice a l c, .int .i64 r], .agg #[.int .i64 k, .int .i64 x, .int .i64 n, .int .i64 s, .int .i64 u]] W fun e w' => e = .returned (.int .i64 (durN f xs k x n)) ∧ Below W.heap.size W w') :=
    Lib.hid (fun W hW => sdur_any r f xs a l c k x n s u W (H.out.on hW.out.low) hp)
    obtain ⟨Z, hZ⟩ : ∃ y_, durN f xs k x n = y_ := ⟨_, rfl⟩
    rw [hZ] at HV CN
    rw [HV.out, poE_yes hp]
    rw [hp] at CP
    clear hZ HV hp
    go_enter Tryz.func15, Tryz.ntmps15
    go_wp2_with fail
    obtain ⟨W1, hW1⟩ : ∃ W1, ((w.alloc (.cells #[.int .i64 f, .slice a l c, .int .i64 r] 28)).alloc (.cells #[.int .i64 k, .int .i64 x, .int .i64 n, .int .i64 s, .int .i64 u] 30)) = W1 := ⟨_, rfl⟩
    rw [hW1] at HP ⊢
    clear hW1
    with_reducible refine (CP.out _ HP).mono ?_
    rintro e w1 ⟨rfl, hb⟩
    have HP := Lib.hid (HP.out.on hb)
    clear hb
    obtain ⟨b0, b1, b2, p0, p1, p2, p3, p4, -⟩ := bpS HP.out
    go_wp2_with fail
    with_reducible refine (CN.out _ HP).mono ?_
    rintro e w2 ⟨rfl, hb⟩
    have HP := Lib.hid (HP.out.on hb)
    clear b0 b1 b2 p0 p1 p2 p3 p4 hb
    obtain ⟨b0, b1, b2, p0, p1, p2, p3, p4, -⟩ := bpS HP.out
    go_wp2_with fail
    go_ret2
    exact ⟨rfl, HP.out.low⟩
  · have hp2 : poB r f xs k x n s u = false := by simpa using hp
    have HV : Hid (durV r f xs k x n s u = 0) := Lib.hid (by unfold durV; rw [if_neg hp])
    rw [HV.out, poE_no hp2]
    rw [hp2] at CP
    clear HV hp hp2
    go_enter Tryz.func15, Tryz.ntmps15
    go_wp2_with fail
    obtain ⟨W1, hW1⟩ : ∃ W1, ((w.alloc (.cells #[.int .i64 f, .slice a l c, .int .i64 r] 28)).alloc (.cells #[.int .i64 k, .int .i64 x, .int .i64 n, .int .i64 s, .int .i64 u] 30)) = W1 := ⟨_, rfl⟩
    rw [hW1] at HP ⊢
    clear hW1
    with_reducible refine (CP.out _ HP).mono ?_
    rintro e w1 ⟨rfl, hb⟩
    have HP := Lib.hid (HP.out.on hb)
    clear hb
    obtain ⟨b0, b1, b2, p0, p1, p2, p3, p4, -⟩ := bpS HP.out
    go_wp2_with fail
    go_ret2
    exact ⟨rfl, HP.out.low⟩

def gnQV (r f : Int) (xs : List Int) (k x n s u : Int) : Int := if poB r f xs k x n s u = true then gnQ r f xs k x n s else 0

def gnRV (r f : Int) (xs : List Int) (k x n s u : Int) : Int := if poB r f xs k x n s u = true then gnR r f xs k x n s else 0

set_option maxHeartbeats 4000000 in
theorem spg_any (r f : Int) (xs : List Int) (a : Option Addr) (l c : Nat) (k x n s u : Int) (w : World) (h : Ints w a l xs) :
    Calls Tryz.prog 9 #[.agg #[.int .i64 f, .slice a l c, .int .i64 r], .agg #[.int .i64 k, .int .i64 x, .int .i64 n, .int .i64 s, .int .i64 u]] w (IIIPost (gnQV r f xs k x n s u) (gnRV r f xs k x n s u) (poE r f xs k x n s u) w) := by
  have H := Lib.hid h
  clear h
  have HP := Lib.hid (BP.new w f (.slice a l c) r k x n s u 28 30)
  unfold IIIPost
  have CP : Hid (∀ W, Hid (BP w f (.slice a l c) r k x n s u W) → Calls Tryz.prog 31 #[.agg #[.int .i64 f, .slice a l c, .int .i64 r], .agg #[.int .i64 k, .int .i64 x, .int .i64 n, .int .i64 s, .int .i64 u]] W fun e w' => e = .returned (.bool (poB r f xs k x n s u)) ∧ Below W.heap.size W w') :=
    Lib.hid (fun W hW => spol_any r f xs a l c k x n s u W (H.out.on hW.out.low))
  by_cases hp : poB r f xs k x n s u = true
  · have HV : Hid (gnQV r f xs k x n s u = gnQ r f xs k x n s ∧ gnRV r f xs k x n s u = gnR r f xs k x n s) := Lib.hid (by unfold gnQV gnRV; rw [if_pos hp, if_pos hp]; exact ⟨rfl, rfl⟩)
    have hz := (poB_iff.1 hp).1
    unfold asE at hz
    obtain ⟨-, -, ht, ⟨r0, r1⟩, ⟨x0, x1⟩, ⟨n0, n1⟩, xn, -⟩ := as_in hz
    obtain ⟨t, d, v, p, e1, e2, e3, e4, t0, t1, d0, d1, v0, v1, p0, p1, g0, g1, s0, s1⟩ := po_nums hp
    have CN : Hid (∀ W, Hid (BP w f (.slice a l c) r k x n s u W) → Calls Tryz.prog 35 #[.agg #[.int .i64 f, .slice a l c, .int .i64 r], .agg #[.int .i64 k, .int .i64 x, .int .i64 n, .int .i64 s, .int .i64 u]] W fun e w' => e = .returned (.int .i64 (netN r f xs k x n s)) ∧ Below W.heap.size W w') :=
    Lib.hid (fun W hW => snet_any r f xs a l c k x n s u W (H.out.on hW.out.low) hp)
    have CT : Hid (∀ W, Hid (BP w f (.slice a l c) r k x n s u W) → Calls Tryz.prog 33 #[.agg #[.int .i64 f, .slice a l c], .int .i64 r, .int .i64 k, .int .i64 x, .int .i64 n] W fun e w' => e = .returned (.int .i64 (asT r f xs k x n)) ∧ Below W.heap.size W w') :=
    Lib.hid (fun W hW => stop_any r f xs a l c k x n W (H.out.on hW.out.low) ht r0 r1 x0 n0 n1 xn)
    have CB : Hid (∀ W, Hid (BP w f (.slice a l c) r k x n s u W) → Calls Tryz.prog 32 #[.agg #[.int .i64 f, .slice a l c], .int .i64 r, .int .i64 k, .int .i64 x, .int .i64 n] W fun e w' => e = .returned (.int .i64 (asB r f xs k x n)) ∧ Below W.heap.size W w') :=
    Lib.hid (fun W hW => sbase_any r f xs a l c k x n W (H.out.on hW.out.low) ht r0 r1 x0 n0 n1 xn)
    have CD : Hid (∀ W, Hid (BP w f (.slice a l c) r k x n s u W) → Calls Tryz.prog 36 #[.agg #[.int .i64 f, .slice a l c], .int .i64 r, .int .i64 x] W fun e w' => e = .returned (.int .i64 (cD r xs (x - f).toNat)) ∧ Below W.heap.size W w') :=
    Lib.hid (fun W hW => sD_any r f xs a l c x W (H.out.on hW.out.low) ht r0 r1 x0 (by omega))
    unfold gnQ gnR at HV
    rw [e1, e2, e3, e4] at HV
    rw [e4] at CN
    rw [e1] at CT
    rw [e3] at CB
    rw [e2] at CD
    have hvd : v ≤ v * d := by
      have := Int.mul_le_mul_of_nonneg_left d0 (show 0 ≤ v by omega)
      rwa [Int.mul_one] at this
    have CM := Lib.hid (fun W => sminus_any p v s t d v W p0 (by omega) (by omega) (by omega) (by omega) (by omega) t0 (by omega) d0 d1 (by omega) (by omega) (by omega) (by omega))
    obtain ⟨X, hX⟩ : ∃ y_, (p * v - s * t) / d = y_ := ⟨_, rfl⟩
    obtain ⟨Y, hY⟩ : ∃ y_, (p * v - s * t) % d = y_ := ⟨_, rfl⟩
    rw [hX, hY] at CM HV
    rw [HV.out.1, HV.out.2, poE_yes hp]
    rw [hp] at CP
    clear hX hY HV hp hz ht e1 e2 e3 e4 g0 g1 hvd
    go_enter Tryz.func9, Tryz.ntmps9
    go_wp2_with fail
    obtain ⟨W1, hW1⟩ : ∃ W1, ((w.alloc (.cells #[.int .i64 f, .slice a l c, .int .i64 r] 28)).alloc (.cells #[.int .i64 k, .int .i64 x, .int .i64 n, .int .i64 s, .int .i64 u] 30)) = W1 := ⟨_, rfl⟩
    rw [hW1] at HP ⊢
    clear hW1
    with_reducible refine (CP.out _ HP).mono ?_
    rintro e w1 ⟨rfl, hb⟩
    have HP := Lib.hid (HP.out.on hb)
    clear hb
    obtain ⟨b0, b1, b2, p0, p1, p2, p3, p4, -⟩ := bpS HP.out
    go_wp2_with fail
    with_reducible refine (CB.out _ HP).mono ?_
    rintro e w2 ⟨rfl, hb⟩
    have HP := Lib.hid (HP.out.on hb)
    clear b0 b1 b2 p0 p1 p2 p3 p4 hb
    obtain ⟨b0, b1, b2, p0, p1, p2, p3, p4, -⟩ := bpS HP.out
    go_wp2_with fail
    with_reducible refine (CT.out _ HP).mono ?_
    rintro e w3 ⟨rfl, hb⟩
    have HP := Lib.hid (HP.out.on hb)
    clear b0 b1 b2 p0 p1 p2 p3 p4 hb
    obtain ⟨b0, b1, b2, p0, p1, p2, p3, p4, -⟩ := bpS HP.out
    go_wp2_with fail
    go_region_held3 (fun W9 => W9.cell? ⟨w.heap.size, 0, none⟩ = some (.int .i64 f) ∧ W9.cell? ⟨w.heap.size, 1, none⟩ = some (.slice a l c) ∧ W9.cell? ⟨w.heap.size, 2, none⟩ = some (.int .i64 r) ∧ W9.cell? ⟨w.heap.size + 1, 0, none⟩ = some (.int .i64 k) ∧ W9.cell? ⟨w.heap.size + 1, 1, none⟩ = some (.int .i64 x) ∧ W9.cell? ⟨w.heap.size + 1, 2, none⟩ = some (.int .i64 n) ∧ W9.cell? ⟨w.heap.size + 1, 3, none⟩ = some (.int .i64 s) ∧ W9.cell? ⟨w.heap.size + 1, 4, none⟩ = some (.int .i64 u) ∧ Hid (BP w f (.slice a l c) r k x n s u W9))
    (first
      | (go_split_ands; exact ⟨by with_reducible assumption, by with_reducible assumption, by with_reducible assumption, by with_reducible assumption, by with_reducible assumption, by with_reducible assumption, by with_reducible assumption, by with_reducible assumption, by with_reducible assumption⟩)
      | (go_split_ands; with_reducible exact bpS HP.out)
      | (go_split_ands; with_reducible exact bpS (BP.drew HP.out))
      | (go_split_ands; with_reducible exact bpS (BP.on (Hid.out (by with_reducible assumption)) hb))
      | fail)
        (first
          | (go_split_ands; go_at_call 35; ((with_reducible refine (CN.out _ (by with_reducible assumption)).mono ?_); rintro e w' ⟨rfl, hb⟩))
          | (go_split_ands; go_at_call 36; ((with_reducible refine (CD.out _ (by with_reducible assumption)).mono ?_); rintro e w' ⟨rfl, hb⟩))
          | (go_split_ands; go_at_call 34; ((with_reducible refine (CM.out _).mono ?_); rintro e w' ⟨rfl, rfl⟩))
          | fail)
    all_goals
      go_split_ands
      go_wp2_with fail
      go_ret3
      exact ⟨rfl, bpLow f (.slice a l c) r k x n s u (by with_reducible assumption)⟩
  · have hp2 : poB r f xs k x n s u = false := by simpa using hp
    have HV : Hid (gnQV r f xs k x n s u = 0 ∧ gnRV r f xs k x n s u = 0) := Lib.hid (by unfold gnQV gnRV; rw [if_neg hp, if_neg hp]; exact ⟨rfl, rfl⟩)
    rw [HV.out.1, HV.out.2, poE_no hp2]
    rw [hp2] at CP
    clear HV hp hp2
    go_enter Tryz.func9, Tryz.ntmps9
    go_wp2_with fail
    obtain ⟨W1, hW1⟩ : ∃ W1, ((w.alloc (.cells #[.int .i64 f, .slice a l c, .int .i64 r] 28)).alloc (.cells #[.int .i64 k, .int .i64 x, .int .i64 n, .int .i64 s, .int .i64 u] 30)) = W1 := ⟨_, rfl⟩
    rw [hW1] at HP ⊢
    clear hW1
    with_reducible refine (CP.out _ HP).mono ?_
    rintro e w1 ⟨rfl, hb⟩
    have HP := Lib.hid (HP.out.on hb)
    clear hb
    obtain ⟨b0, b1, b2, p0, p1, p2, p3, p4, -⟩ := bpS HP.out
    go_wp2_with fail
    go_ret3
    exact ⟨rfl, HP.out.low⟩

end Go.Proofs.YtnppkdnmkhoeeaaGreat
