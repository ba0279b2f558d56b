/- Merged: Pol, Bxs, Pos, Till. -/
import Derived.Test.YtdlfofdibooidaaGreatLb2
import Derived.Test.YtdlfofdibooidaaGreatLb4
import Derived.Test.YtdlfofdibooidaaGreatLb9
import Derived.Test.YtdlfofdibooidaaGreatLb10
import Derived.Deep.RegionHeld3

/- Policies: numbers. -/
namespace Go.Proofs.YtdlfofdibooidaaGreat
open Go.ChangeShapes Go.WideShapes Go.ChangeAt Go.RowKit
set_option linter.unusedVariables false
set_option maxRecDepth 100000

/-- is a policy valid for a basis? -/
def poB (r f : Int) (xs : List Int) (k x n s u : Int) : Bool := decide (asE r f xs k x n s = 0) && (inB u 0 1000 && npB r xs (x - f).toNat n.toNat)

def poE (r f : Int) (xs : List Int) (k x n s u : Int) : Int := if poB r f xs k x n s u = true then 0 else 1

theorem poB_iff {r f : Int} {xs : List Int} {k x n s u : Int} : poB r f xs k x n s u = true ↔ asE r f xs k x n s = 0 ∧ (0 ≤ u ∧ u ≤ 1000) ∧ ∀ j, j < n.toNat → cD r xs ((x - f).toNat + j) ≠ 0 := by
  unfold poB
  rw [Bool.and_eq_true, Bool.and_eq_true, decide_eq_true_iff, npB_iff, inB_iff]

theorem poE_iff {r f : Int} {xs : List Int} {k x n s u : Int} : poE r f xs k x n s u = 0 ↔ poB r f xs k x n s u = true := by
  unfold poE; split <;> simp_all

theorem poE_no {r f : Int} {xs : List Int} {k x n s u : Int} (h : poB r f xs k x n s u = false) : poE r f xs k x n s u = 1 := by
  unfold poE; simp [h]

theorem poE_yes {r f : Int} {xs : List Int} {k x n s u : Int} (h : poB r f xs k x n s u = true) : poE r f xs k x n s u = 0 := by
  unfold poE; simp [h]

/-- D does not rise: it is enough that it is not 0 at the last age -/
theorem np_last {r f : Int} {xs : List Int} (h : LTab f xs) (r0 : 0 ≤ r) {x n : Int} (x0 : f ≤ x) (n0 : 0 ≤ n) (hd : cD r xs (x - f).toNat ≠ 0) :
    npB r xs (x - f).toNat n.toNat = true ↔ cD r xs (x + max (n - 1) 0 - f).toNat ≠ 0 := by
  rw [npB_iff]
  constructor
  · intro hj
    by_cases hn : n = 0
    · subst hn
      rw [show (x + max (0 - 1) 0 - f).toNat = (x - f).toNat by omega]
      exact hd
    · have := hj (n - 1).toNat (by omega)
      rw [show (x + max (n - 1) 0 - f).toNat = (x - f).toNat + (n - 1).toNat by omega]
      exact this
  · intro hl j hj e
    have hm := h.cD_mono r r0 ((x - f).toNat + j) ((n - 1).toNat - j)
    have h0 := (h.cD_bd r r0 ((x - f).toNat + j + ((n - 1).toNat - j))).1
    rw [show (x - f).toNat + j + ((n - 1).toNat - j) = (x + max (n - 1) 0 - f).toNat by omega] at hm h0
    omega

/-- the net premium, the office premium over a net one, the duration -/
def netN (r f : Int) (xs : List Int) (k x n s : Int) : Int := upV s (asT r f xs k x n) (asB r f xs k x n)

def offN (p u : Int) : Int := p + -(-(p * u) / 1000)

def durN (f : Int) (xs : List Int) (k x n : Int) : Int := if k = 0 then f + xs.length - 1 - x else n

theorem asE_sum {r f : Int} {xs : List Int} {k x n s t : Int} (h : asE r f xs k x n s = 0) (t0 : 1 ≤ t) (t1 : t ≤ 100000000) : asE r f xs k x n t = 0 := by
  unfold asE at h ⊢
  have hb := (as_in h).1
  rw [show inB t 1 100000000 = inB s 1 100000000 by rw [hb]; exact (inB_iff _ _ _).2 ⟨t0, t1⟩]
  exact h

theorem poB_sum {r f : Int} {xs : List Int} {k x n s u t : Int} (h : poB r f xs k x n s u = true) (t0 : 1 ≤ t) (t1 : t ≤ 100000000) : poB r f xs k x n t u = true := by
  obtain ⟨h1, h2, h3⟩ := poB_iff.1 h
  exact poB_iff.2 ⟨asE_sum h1 t0 t1, h2, h3⟩

/-- the numbers of a valid policy -/
theorem po_nums {r f : Int} {xs : List Int} {k x n s u : Int} (h : poB r f xs k x n s u = true) :
    ∃ t d b p : Int, asT r f xs k x n = t ∧ cD r xs (x - f).toNat = d ∧ asB r f xs k x n = b ∧ netN r f xs k x n s = p ∧ 0 ≤ t ∧ t ≤ d ∧ 1 ≤ d ∧ d ≤ 1000000000000000 ∧ d ≤ b ∧ b ≤ 152000000000000000 ∧
      0 ≤ p ∧ p ≤ 100000001 ∧ s * t ≤ p * b ∧ p * b < s * t + b ∧ 1 ≤ s ∧ s ≤ 100000000 := by
  obtain ⟨h1, -, -⟩ := poB_iff.1 h
  unfold asE at h1
  obtain ⟨hB, -⟩ := as_in h1
  obtain ⟨s0, s1⟩ := (inB_iff _ _ _).1 hB
  obtain ⟨t, d, b, e1, e2, e3, t0, t1, d0, d1, b0, b1⟩ := as_nums h1
  have hq := quot_le s t b (by omega) (by omega) (by omega)
  obtain ⟨p0, p1⟩ := upV_bd s t b s (by omega) t0 (by omega) hq
  obtain ⟨q0, q1⟩ := upV_ceil s t b (by omega)
  refine ⟨t, d, b, _, e1, e2, e3, rfl, t0, t1, d0, d1, b0, b1, ?_⟩
  unfold netN
  rw [e1, e3]
  exact ⟨p0, by omega, q0, q1, s0, s1⟩

theorem upV_mono (s s' t b : Int) (h : s ≤ s') (t0 : 0 ≤ t) (hb : 1 ≤ b) : upV s t b ≤ upV s' t b := by
  obtain ⟨q0, q1⟩ := upV_ceil s t b hb
  obtain ⟨q2, q3⟩ := upV_ceil s' t b hb
  have e := Int.mul_le_mul_of_nonneg_right h t0
  have : upV s t b * b < (upV s' t b + 1) * b := by rw [Int.add_mul]; omega
  have := Int.lt_of_mul_lt_mul_right this (by omega)
  omega

theorem offN_mono (p p' u : Int) (h : p ≤ p') (u0 : 0 ≤ u) : offN p u ≤ offN p' u := by
  have e := Int.mul_le_mul_of_nonneg_right h u0
  unfold offN
  omega

theorem offN_bd (p u : Int) (p0 : 0 ≤ p) (p1 : p ≤ 100000001) (u0 : 0 ≤ u) (u1 : u ≤ 1000) : p ≤ offN p u ∧ offN p u ≤ 2 * p ∧ 0 ≤ p * u ∧ p * u ≤ 100000001000 := by
  have e := Int.mul_le_mul_of_nonneg_left u1 p0
  have e0 := Int.mul_nonneg p0 u0
  unfold offN
  omega

/-- the greatest number up to n at which F is at most q, or 0 -/
def grS (F : Int → Int) (q : Int) : Nat → Int
  | 0 => 0
  | n + 1 => if F ((n : Int) + 1) ≤ q then (n : Int) + 1 else grS F q n

theorem grS_eq (F : Int → Int) (q : Int) (n : Nat) (g : Int) (g0 : 0 ≤ g) (g1 : g ≤ n) (hg : g = 0 ∨ F g ≤ q) (hn : ∀ t : Int, g < t → t ≤ n → q < F t) : grS F q n = g := by
  induction n with
  | zero => unfold grS; omega
  | succ n ih =>
    unfold grS
    by_cases h : g = (n : Int) + 1
    · subst h
      rcases hg with hg | hg
      · omega
      · rw [if_pos hg]
    · rw [if_neg (by have := hn ((n : Int) + 1) (by omega) (by omega); omega)]
      exact ih (by omega) (fun t h1 h2 => hn t h1 (by omega))

/-- the greatest sum for a premium -/
def sfN (r f : Int) (xs : List Int) (k x n u q : Int) : Int := grS (fun t => offN (netN r f xs k x n t) u) q 100000000

def sfE (r f : Int) (xs : List Int) (k x n s u q : Int) : Int := if poB r f xs k x n s u = true then (if inB q 1 100000000 = true then (if sfN r f xs k x n u q = 0 then 4 else 0) else 2) else 1

def sfV (r f : Int) (xs : List Int) (k x n s u q : Int) : Int := if sfE r f xs k x n s u q = 0 then sfN r f xs k x n u q else 0

theorem off_mono {r f : Int} {xs : List Int} {k x n s u : Int} (h : poB r f xs k x n s u = true) (a b : Int) (hab : a ≤ b) : offN (netN r f xs k x n a) u ≤ offN (netN r f xs k x n b) u := by
  obtain ⟨t, d, v, p, e1, e2, e3, -, t0, t1, d0, d1, b0, b1, -⟩ := po_nums h
  refine offN_mono _ _ _ ?_ (poB_iff.1 h).2.1.1
  unfold netN
  rw [e1, e3]
  exact upV_mono a b t v hab t0 (by omega)

theorem sfN_eq {r f : Int} {xs : List Int} {k x n u q : Int} (g : Int) (g0 : 0 ≤ g) (g1 : g ≤ 100000000) (hg : g = 0 ∨ offN (netN r f xs k x n g) u ≤ q) (hn : ∀ t : Int, g < t → t ≤ 100000000 → q < offN (netN r f xs k x n t) u) : sfN r f xs k x n u q = g :=
  grS_eq _ q 100000000 g g0 g1 hg hn

/-- what the rounding of the net premium is worth -/
def gnQ (r f : Int) (xs : List Int) (k x n s : Int) : Int := (netN r f xs k x n s * asB r f xs k x n - s * asT r f xs k x n) / cD r xs (x - f).toNat

def gnR (r f : Int) (xs : List Int) (k x n s : Int) : Int := (netN r f xs k x n s * asB r f xs k x n - s * asT r f xs k x n) % cD r xs (x - f).toNat

end Go.Proofs.YtdlfofdibooidaaGreat

/- Boxes: blocks told by their values; the boxes of two tables. -/
namespace Go.Proofs.YtdlfofdibooidaaGreat
open Go.ChangeShapes Go.WideShapes Go.ChangeAt Go.RowKit
set_option linter.unusedVariables false

/-- a block of plain cells -/
def Bx (w : World) (B : Nat) (vs : List Value) : Prop := ∃ T, w.heap[B]? = some (.cells vs.toArray T (0, 0))

theorem Bx.two {w : World} {B : Nat} {x y : Value} (h : Bx w B [x, y]) : w.cell? ⟨B, 0, none⟩ = some x ∧ w.cell? ⟨B, 1, none⟩ = some y := by
  obtain ⟨T, h⟩ := h
  simp [World.cell?, h]

theorem Bx.four {w : World} {B : Nat} {x y z u : Value} (h : Bx w B [x, y, z, u]) : w.cell? ⟨B, 0, none⟩ = some x ∧ w.cell? ⟨B, 1, none⟩ = some y ∧ w.cell? ⟨B, 2, none⟩ = some z ∧ w.cell? ⟨B, 3, none⟩ = some u := by
  obtain ⟨T, h⟩ := h
  simp [World.cell?, h]

theorem Bx.free {w : World} {B : Nat} {vs : List Value} (h : Bx w B vs) (i : Nat) : w.frozen? ⟨B, i, none⟩ = false := by
  obtain ⟨T, h⟩ := h
  simp [World.frozen?, h]

theorem Bx.lt {w : World} {B : Nat} {vs : List Value} (h : Bx w B vs) : B < w.heap.size := by
  obtain ⟨T, h⟩ := h
  by_cases hb : B < w.heap.size
  · exact hb
  · have : w.heap[B]? = none := by simp; omega
    rw [this] at h; cases h

theorem Bx.same {w w' : World} {B : Nat} {vs : List Value} (h : Bx w B vs) (hb : w'.heap[B]? = w.heap[B]?) : Bx w' B vs := by
  obtain ⟨T, h⟩ := h
  exact ⟨T, by rw [hb, h]⟩

theorem Bx.on {w w' : World} {B : Nat} {vs : List Value} (h : Bx w B vs) (hb : Below w.heap.size w w') : Bx w' B vs := h.same (hb.block _ h.lt)

theorem Bx.new (w : World) (vs : List Value) (T : TypeId) : Bx (w.alloc (.cells vs.toArray T)) w.heap.size vs := ⟨T, heap_alloc_new _ _⟩

/-- the boxes of two tables -/
structure K2 (w : World) (f : Int) (sa : Value) (g : Int) (sb : Value) (W : World) : Prop where
  t0 : W.cell? ⟨w.heap.size, 0, none⟩ = some (.int .i64 f)
  t1 : W.cell? ⟨w.heap.size, 1, none⟩ = some sa
  u0 : W.cell? ⟨w.heap.size + 1, 0, none⟩ = some (.int .i64 g)
  u1 : W.cell? ⟨w.heap.size + 1, 1, none⟩ = some sb
  low : Below w.heap.size w W

theorem K2.on {w : World} {f : Int} {sa : Value} {g : Int} {sb : Value} {W W' : World} (h : K2 w f sa g sb W) (hb : Below W.heap.size W W') : K2 w f sa g sb W' :=
  ⟨keep2 hb h.t0, keep2 hb h.t1, keep2 hb h.u0, keep2 hb h.u1, h.low.trans (hb.mono h.low.size)⟩

theorem K2.new (w : World) (f : Int) (sa : Value) (g : Int) (sb : Value) (T U : TypeId) : K2 w f sa g sb ((w.alloc (.cells #[.int .i64 f, sa] T)).alloc (.cells #[.int .i64 g, sb] U)) := by
  have h1 := Bx.new w [.int .i64 f, sa] T
  have h2 := Bx.new (w.alloc (.cells #[.int .i64 f, sa] T)) [.int .i64 g, sb] U
  have h3 := h1.on (box_b (w.alloc (.cells #[.int .i64 f, sa] T)) (.cells #[.int .i64 g, sb] U))
  rw [World.size_alloc] at h2
  exact ⟨h3.two.1, h3.two.2, h2.two.1, h2.two.2, (box_b _ _).alloc (by simp) _⟩

theorem k2S {w : World} {f : Int} {sa : Value} {g : Int} {sb : Value} {W : World} (h : K2 w f sa g sb W) :
    W.cell? ⟨w.heap.size, 0, none⟩ = some (.int .i64 f) ∧ W.cell? ⟨w.heap.size, 1, none⟩ = some sa ∧ W.cell? ⟨w.heap.size + 1, 0, none⟩ = some (.int .i64 g) ∧ W.cell? ⟨w.heap.size + 1, 1, none⟩ = some sb ∧ Hid (K2 w f sa g sb W) := ⟨h.t0, h.t1, h.u0, h.u1, Lib.hid h⟩

theorem K2.drew {w : World} {f : Int} {sa : Value} {g : Int} {sb : Value} {W : World} (h : K2 w f sa g sb W) : K2 w f sa g sb W.drew := ⟨cell_drew h.t0, cell_drew h.t1, cell_drew h.u0, cell_drew h.u1, h.low.drew⟩

theorem K2.rb {w : World} {f : Int} {sa : Value} {g : Int} {sb : Value} (T U V : TypeId) (vs : List Value) : K2 w f sa g sb (((w.alloc (.cells #[.int .i64 f, sa] T)).alloc (.cells #[.int .i64 g, sb] U)).alloc (.cells vs.toArray V)) ∧ Bx (((w.alloc (.cells #[.int .i64 f, sa] T)).alloc (.cells #[.int .i64 g, sb] U)).alloc (.cells vs.toArray V)) (w.heap.size + 2) vs := by
  have h1 := K2.new w f sa g sb T U
  have h2 := Bx.new ((w.alloc (.cells #[.int .i64 f, sa] T)).alloc (.cells #[.int .i64 g, sb] U)) vs V
  rw [World.size_alloc, World.size_alloc] at h2
  exact ⟨h1.on (box_b _ _), h2⟩

end Go.Proofs.YtdlfofdibooidaaGreat

/- Policies: the model: a basis, a valid policy, net premiums, durations, gains. (Written by wip/gen/pos.py.) -/
namespace Go.Proofs.YtdlfofdibooidaaGreat
open Go.ChangeShapes Go.WideShapes Go.ChangeAt Go.RowKit
set_option linter.unusedVariables false
set_option maxRecDepth 100000

theorem bx3 {w w1 : World} {x y z : Value} {T : TypeId} (hb : Below (w.alloc (.cells #[x, y, z] T)).heap.size (w.alloc (.cells #[x, y, z] T)) w1) :
    Below w.heap.size w w1 ∧ w1.cell? ⟨w.heap.size, 0, none⟩ = some x ∧ w1.cell? ⟨w.heap.size, 1, none⟩ = some y ∧ w1.cell? ⟨w.heap.size, 2, none⟩ = some z := by
  have h1 := box_b w (.cells #[x, y, z] T)
  exact ⟨h1.trans (hb.mono (by simp)), keep2 hb (by go_simp), keep2 hb (by go_simp), keep2 hb (by go_simp)⟩

theorem Bx.five0 {w : World} {B : Nat} {x y z u v : Value} (h : Bx w B [x, y, z, u, v]) : w.cell? ⟨B, 0, none⟩ = some x ∧ w.cell? ⟨B, 1, none⟩ = some y ∧ w.cell? ⟨B, 2, none⟩ = some z ∧ w.cell? ⟨B, 3, none⟩ = some u ∧ w.cell? ⟨B, 4, none⟩ = some v := by
  obtain ⟨T, h⟩ := h
  simp [World.cell?, h]

/-- the boxes of a basis and a policy -/
structure BP (w : World) (f : Int) (v : Value) (r k x n s u : Int) (W : World) : Prop where
  b0 : W.cell? ⟨w.heap.size, 0, none⟩ = some (.int .i64 f)
  b1 : W.cell? ⟨w.heap.size, 1, none⟩ = some v
  b2 : W.cell? ⟨w.heap.size, 2, none⟩ = some (.int .i64 r)
  p0 : W.cell? ⟨w.heap.size + 1, 0, none⟩ = some (.int .i64 k)
  p1 : W.cell? ⟨w.heap.size + 1, 1, none⟩ = some (.int .i64 x)
  p2 : W.cell? ⟨w.heap.size + 1, 2, none⟩ = some (.int .i64 n)
  p3 : W.cell? ⟨w.heap.size + 1, 3, none⟩ = some (.int .i64 s)
  p4 : W.cell? ⟨w.heap.size + 1, 4, none⟩ = some (.int .i64 u)
  low : Below w.heap.size w W
  sz : w.heap.size + 2 ≤ W.heap.size

theorem BP.on {w : World} {f : Int} {v : Value} {r k x n s u : Int} {W W' : World} (h : BP w f v r k x n s u W) (hb : Below W.heap.size W W') : BP w f v r k x n s u W' :=
  ⟨keep2 hb h.b0, keep2 hb h.b1, keep2 hb h.b2, keep2 hb h.p0, keep2 hb h.p1, keep2 hb h.p2, keep2 hb h.p3, keep2 hb h.p4, h.low.trans (hb.mono h.low.size), Nat.le_trans h.sz hb.size⟩

theorem BP.drew {w : World} {f : Int} {v : Value} {r k x n s u : Int} {W : World} (h : BP w f v r k x n s u W) : BP w f v r k x n s u W.drew := h.on (Below.drew (Below.refl _ _))

theorem BP.new (w : World) (f : Int) (v : Value) (r k x n s u : Int) (T U : TypeId) : BP w f v r k x n s u ((w.alloc (.cells #[.int .i64 f, v, .int .i64 r] T)).alloc (.cells #[.int .i64 k, .int .i64 x, .int .i64 n, .int .i64 s, .int .i64 u] U)) := by
  have hb := box_b (w.alloc (.cells #[.int .i64 f, v, .int .i64 r] T)) (.cells #[.int .i64 k, .int .i64 x, .int .i64 n, .int .i64 s, .int .i64 u] U)
  obtain ⟨h0, h1, h2, h3⟩ := bx3 hb
  have h4 := Bx.new (w.alloc (.cells #[.int .i64 f, v, .int .i64 r] T)) [.int .i64 k, .int .i64 x, .int .i64 n, .int .i64 s, .int .i64 u] U
  rw [World.size_alloc] at h4
  obtain ⟨g0, g1, g2, g3, g4⟩ := h4.five0
  exact ⟨h1, h2, h3, g0, g1, g2, g3, g4, h0, by simp⟩

theorem bpS {w : World} {f : Int} {v : Value} {r k x n s u : Int} {W : World} (h : BP w f v r k x n s u W) :
    W.cell? ⟨w.heap.size, 0, none⟩ = some (.int .i64 f) ∧ W.cell? ⟨w.heap.size, 1, none⟩ = some v ∧ W.cell? ⟨w.heap.size, 2, none⟩ = some (.int .i64 r) ∧ W.cell? ⟨w.heap.size + 1, 0, none⟩ = some (.int .i64 k) ∧ W.cell? ⟨w.heap.size + 1, 1, none⟩ = some (.int .i64 x) ∧ W.cell? ⟨w.heap.size + 1, 2, none⟩ = some (.int .i64 n) ∧ W.cell? ⟨w.heap.size + 1, 3, none⟩ = some (.int .i64 s) ∧ W.cell? ⟨w.heap.size + 1, 4, none⟩ = some (.int .i64 u) ∧ Hid (BP w f v r k x n s u W) :=
  ⟨h.b0, h.b1, h.b2, h.p0, h.p1, h.p2, h.p3, h.p4, Lib.hid h⟩

theorem bpLow {w W : World} (f : Int) (v : Value) (r k x n s u : Int) (h : Hid (BP w f v r k x n s u W)) : Below w.heap.size w W := h.out.low

def baB (r f : Int) (xs : List Int) : Bool := ltB f xs && rateB r

theorem asE_ba {r f : Int} {xs : List Int} {k x n s : Int} (h : asE r f xs k x n s = 0) : baB r f xs = true := by
  unfold asE at h
  obtain ⟨hc, -⟩ := anE_iff.1 h
  unfold coE at hc
  unfold baB
  by_cases h1 : ltB f xs = true
  · by_cases h2 : rateB r = true
    · rw [h1, h2]; rfl
    · rw [if_pos h1, if_neg (by simp [h2])] at hc
      cases hc
  · rw [if_neg h1] at hc
    cases hc

theorem poB_ba {r f : Int} {xs : List Int} {k x n s u : Int} (h : baB r f xs = false) : poB r f xs k x n s u = false := by
  cases hp : poB r f xs k x n s u with
  | false => rfl
  | true =>
    have := asE_ba (poB_iff.1 hp).1
    rw [h] at this; cases this

theorem poB_u {r f : Int} {xs : List Int} {k x n s u : Int} (h : inB u 0 1000 = false) : poB r f xs k x n s u = false := by
  unfold poB; rw [h]; simp

theorem poB_e {r f : Int} {xs : List Int} {k x n s u : Int} (h : asE r f xs k x n s ≠ 0) : poB r f xs k x n s u = false := by
  unfold poB; simp [h]

theorem poB_n {r f : Int} {xs : List Int} {k x n s u : Int} (h : npB r xs (x - f).toNat n.toNat = false) : poB r f xs k x n s u = false := by
  unfold poB; rw [h]; simp

theorem sbas_any (r f : Int) (xs : List Int) (a : Option Addr) (l c : Nat) (w : World) (h : Ints w a l xs) :
    Calls Tryz.prog 78 #[.agg #[.int .i64 f, .slice a l c, .int .i64 r]] w fun e w' => e = .returned (.bool (baB r f xs)) ∧ Below w.heap.size w w' := by
  have H := Lib.hid h
  clear h
  by_cases h1 : ltB f xs = true
  · have HR : Hid (baB r f xs = rateB r) := Lib.hid (by unfold baB; rw [h1]; rfl)
    go_enter Tryz.func78, Tryz.ntmps78
    go_wp2_with (first | (go_at_call 113; refine (sRate_any _ _).mono ?_; rintro e w' ⟨rfl, rfl⟩) | (go_at_call 112; refine (isL_spec f xs _ _ _ _ (H.out.on (box_b _ _))).mono ?_; rintro e w1 ⟨rfl, hb⟩; obtain ⟨hB, hc0, hc1, hc2⟩ := bx3 hb; have HB := Lib.hid hB; clear hB hb))
    go_ret
    exact ⟨ret_bool HR.out.symm, HB.out⟩
  · have h1' : ltB f xs = false := by simpa using h1
    have HR : Hid (baB r f xs = false) := Lib.hid (by unfold baB; rw [h1']; rfl)
    clear h1
    go_enter Tryz.func78, Tryz.ntmps78
    go_wp2_with (first | (go_at_call 113; refine (sRate_any _ _).mono ?_; rintro e w' ⟨rfl, rfl⟩) | (go_at_call 112; refine (isL_spec f xs _ _ _ _ (H.out.on (box_b _ _))).mono ?_; rintro e w1 ⟨rfl, hb⟩; obtain ⟨hB, hc0, hc1, hc2⟩ := bx3 hb; have HB := Lib.hid hB; clear hB hb))
    go_ret
    exact ⟨ret_bool HR.out.symm, HB.out⟩

set_option maxHeartbeats 4000000 in
theorem spol_any (r f : Int) (xs : List Int) (a : Option Addr) (l c : Nat) (k x n s u : Int) (w : World) (h : Ints w a l xs) :
    Calls Tryz.prog 50 #[.agg #[.int .i64 f, .slice a l c, .int .i64 r], .agg #[.int .i64 k, .int .i64 x, .int .i64 n, .int .i64 s, .int .i64 u]] w fun e w' => e = .returned (.bool (poB r f xs k x n s u)) ∧ Below w.heap.size w w' := by
  have H := Lib.hid h
  clear h
  have HP := Lib.hid (BP.new w f (.slice a l c) r k x n s u 28 30)
  have CB : Hid (∀ W, Hid (BP w f (.slice a l c) r k x n s u W) → Calls Tryz.prog 78 #[.agg #[.int .i64 f, .slice a l c, .int .i64 r]] W fun e w' => e = .returned (.bool (baB r f xs)) ∧ Below W.heap.size W w') :=
    Lib.hid (fun W hW => sbas_any r f xs a l c W (H.out.on hW.out.low))
  have CE : Hid (∀ W, Hid (BP w f (.slice a l c) r k x n s u W) → Calls Tryz.prog 83 #[.agg #[.int .i64 f, .slice a l c], .int .i64 r, .int .i64 k, .int .i64 x, .int .i64 n, .bool (inB s 1 100000000)] W fun e w' => e = .returned (.int .i64 (asE r f xs k x n s)) ∧ Below W.heap.size W w') :=
    Lib.hid (fun W hW => ascode_any r f xs a l c k x n _ W (H.out.on hW.out.low))
  have CS := Lib.hid (fun W => ssum_any s W)
  obtain ⟨Z, hZ⟩ : ∃ y_, inB s 1 100000000 = y_ := ⟨_, rfl⟩
  rw [hZ] at CE CS
  clear hZ
  by_cases hba : baB r f xs = true
  · rw [hba] at CB
    by_cases hu : inB u 0 1000 = true
    · by_cases hz : asE r f xs k x n s = 0
      · rw [hz] at CE
        obtain ⟨-, -, ht, ⟨r0, r1⟩, ⟨x0, x1⟩, ⟨n0, n1⟩, xn, -⟩ := as_in hz
        obtain ⟨f0, f1⟩ := ht.1
        have CD : Hid (∀ (j : Nat) W, Hid (BP w f (.slice a l c) r k x n s u W) → (j : Int) < n → Calls Tryz.prog 43 #[.agg #[.int .i64 f, .slice a l c], .int .i64 r, .int .i64 (x + j)] W fun e w' => e = .returned (.int .i64 (cD r xs ((x - f).toNat + j))) ∧ Below W.heap.size W w') :=
          Lib.hid (fun j W hW hj => by rw [show (x - f).toNat + j = (x + j - f).toNat by omega]; exact sD_any r f xs a l c (x + j) W (H.out.on hW.out.low) ht r0 r1 (by omega) (by omega))
        have HYes := Lib.hid (fun hy : ∀ m, m < n.toNat → cD r xs ((x - f).toNat + m) ≠ 0 => poB_iff.2 ⟨hz, (inB_iff _ _ _).1 hu, hy⟩)
        have HNo := Lib.hid (fun (m : Nat) (hm : m < n.toNat) (he : cD r xs ((x - f).toNat + m) = 0) => poB_n (k := k) (s := s) (u := u) (npB_no hm he))
        clear hba hz ht
        go_enter Tryz.func50, Tryz.ntmps50
        go_wp2_with fail
        obtain ⟨W1, hW1⟩ : ∃ W1, ((w.alloc (.cells #[.int .i64 f, .slice a l c, .int .i64 r] 28)).alloc (.cells #[.int .i64 k, .int .i64 x, .int .i64 n, .int .i64 s, .int .i64 u] 30)) = W1 := ⟨_, rfl⟩
        rw [hW1] at HP ⊢
        clear hW1
        with_reducible refine (CB.out _ HP).mono ?_
        rintro e w1 ⟨rfl, hb⟩
        have HP := Lib.hid (HP.out.on hb)
        obtain ⟨b0, b1, b2, p0, p1, p2, p3, p4, -⟩ := bpS HP.out
        clear hb CB
        go_wp2_with (go_at_call 82; refine (in_any _ _ _ _).mono ?_; rintro e w' ⟨rfl, rfl⟩)
        go_region_held3 (fun W9 => W9.cell? ⟨w.heap.size, 0, none⟩ = some (.int .i64 f) ∧ W9.cell? ⟨w.heap.size, 1, none⟩ = some (.slice a l c) ∧ W9.cell? ⟨w.heap.size, 2, none⟩ = some (.int .i64 r) ∧ W9.cell? ⟨w.heap.size + 1, 0, none⟩ = some (.int .i64 k) ∧ W9.cell? ⟨w.heap.size + 1, 1, none⟩ = some (.int .i64 x) ∧ W9.cell? ⟨w.heap.size + 1, 2, none⟩ = some (.int .i64 n) ∧ W9.cell? ⟨w.heap.size + 1, 3, none⟩ = some (.int .i64 s) ∧ W9.cell? ⟨w.heap.size + 1, 4, none⟩ = some (.int .i64 u) ∧ Hid (BP w f (.slice a l c) r k x n s u W9))
          (first
            | (go_split_ands; exact ⟨by with_reducible assumption, by with_reducible assumption, by with_reducible assumption, by with_reducible assumption, by with_reducible assumption, by with_reducible assumption, by with_reducible assumption, by with_reducible assumption, by with_reducible assumption⟩)
            | (go_split_ands; with_reducible exact bpS HP.out)
            | (go_split_ands; with_reducible exact bpS (BP.drew HP.out))
            | (go_split_ands; with_reducible exact bpS (BP.on (Hid.out (by with_reducible assumption)) hb))
            | fail)
            (first
              | (go_split_ands; go_at_call 84; ((with_reducible refine (CS.out _).mono ?_); rintro e w' ⟨rfl, rfl⟩))
              | (go_split_ands; go_at_call 83; ((with_reducible refine (CE.out _ (by with_reducible assumption)).mono ?_); rintro e w' ⟨rfl, hb⟩))
              | fail)
        all_goals
          go_split_ands
          go_wp2_with fail
          go_loopw [5] (fun i wr => ∃ j : Nat, (j : Int) ≤ n ∧ i = .int .i64 j ∧ Hid (∀ m, m < j → cD r xs ((x - f).toNat + m) ≠ 0) ∧ Hid (BP w f (.slice a l c) r k x n s u wr)) (fun i _ => n.toNat - (intOf i).toNat)
          case atStart => exact ⟨0, by omega, rfl, Lib.hid (fun m hm => by omega), by with_reducible assumption⟩
          case round =>
            obtain ⟨j, hj, rfl, HJ, HP⟩ := hrel
            obtain ⟨b0, b1, b2, p0, p1, p2, p3, p4, -⟩ := bpS HP.out
            by_cases hjn : (j : Int) < n
            · have q1 : IntKind.i64.wrap (x + j) = x + j := IntWalk.i64_in _ (by omega)
              have CC := Lib.hid (fun W hW => CD.out j W hW hjn)
              by_cases hz : cD r xs ((x - f).toNat + j) = 0
              · rw [hz] at CC
                have HR := Lib.hid (HNo.out j (by omega) hz)
                clear hz
                go_wp2_with fail
                with_reducible refine (CC.out _ HP).mono ?_
                rintro e w3 ⟨rfl, hb⟩
                have HB := Lib.hid (HP.out.on hb).low
                clear hb
                go_wp2_with fail
                go_ret
                exact ⟨ret_bool HR.out.symm, HB.out⟩
              · obtain ⟨Z, hZ⟩ : ∃ y_, cD r xs ((x - f).toNat + j) = y_ := ⟨_, rfl⟩
                have HZ := Lib.hid hZ
                rw [hZ] at CC hz
                have hz2 : (Z == 0) = false := by simp [hz]
                clear hZ
                go_wp2_with fail
                with_reducible refine (CC.out _ HP).mono ?_
                rintro e w3 ⟨rfl, hb⟩
                have HP := Lib.hid (HP.out.on hb)
                clear hb
                go_wp2_with fail
                go_roundw
                case rel => exact ⟨j + 1, by omega, by go_num, Lib.hid (fun m hm => by
                  by_cases e : m = j
                  · subst e; rw [HZ.out]; exact hz
                  · exact HJ.out m (by omega)), HP⟩
                case measure => simp [intOf]; omega
            · have HR := Lib.hid (HYes.out (fun m hm => HJ.out m (by omega)))
              go_wp2_with fail
              go_ret
              exact ⟨ret_bool HR.out.symm, HP.out.low⟩
      · have HR : Hid (poB r f xs k x n s u = false) := Lib.hid (poB_e hz)
        obtain ⟨E, hE⟩ : ∃ y_, asE r f xs k x n s = y_ := ⟨_, rfl⟩
        rw [hE] at CE hz
        have hne : (E != 0) = true := by simp [hz]
        clear hE hba
        go_enter Tryz.func50, Tryz.ntmps50
        go_wp2_with fail
        obtain ⟨W1, hW1⟩ : ∃ W1, ((w.alloc (.cells #[.int .i64 f, .slice a l c, .int .i64 r] 28)).alloc (.cells #[.int .i64 k, .int .i64 x, .int .i64 n, .int .i64 s, .int .i64 u] 30)) = W1 := ⟨_, rfl⟩
        rw [hW1] at HP ⊢
        clear hW1
        with_reducible refine (CB.out _ HP).mono ?_
        rintro e w1 ⟨rfl, hb⟩
        have HP := Lib.hid (HP.out.on hb)
        obtain ⟨b0, b1, b2, p0, p1, p2, p3, p4, -⟩ := bpS HP.out
        clear hb CB
        go_wp2_with (go_at_call 82; refine (in_any _ _ _ _).mono ?_; rintro e w' ⟨rfl, rfl⟩)
        go_region_held3 (fun W9 => W9.cell? ⟨w.heap.size, 0, none⟩ = some (.int .i64 f) ∧ W9.cell? ⟨w.heap.size, 1, none⟩ = some (.slice a l c) ∧ W9.cell? ⟨w.heap.size, 2, none⟩ = some (.int .i64 r) ∧ W9.cell? ⟨w.heap.size + 1, 0, none⟩ = some (.int .i64 k) ∧ W9.cell? ⟨w.heap.size + 1, 1, none⟩ = some (.int .i64 x) ∧ W9.cell? ⟨w.heap.size + 1, 2, none⟩ = some (.int .i64 n) ∧ W9.cell? ⟨w.heap.size + 1, 3, none⟩ = some (.int .i64 s) ∧ W9.cell? ⟨w.heap.size + 1, 4, none⟩ = some (.int .i64 u) ∧ Hid (BP w f (.slice a l c) r k x n s u W9))
          (first
            | (go_split_ands; exact ⟨by with_reducible assumption, by with_reducible assumption, by with_reducible assumption, by with_reducible assumption, by with_reducible assumption, by with_reducible assumption, by with_reducible assumption, by with_reducible assumption, by with_reducible assumption⟩)
            | (go_split_ands; with_reducible exact bpS HP.out)
            | (go_split_ands; with_reducible exact bpS (BP.drew HP.out))
            | (go_split_ands; with_reducible exact bpS (BP.on (Hid.out (by with_reducible assumption)) hb))
            | fail)
            (first
              | (go_split_ands; go_at_call 84; ((with_reducible refine (CS.out _).mono ?_); rintro e w' ⟨rfl, rfl⟩))
              | (go_split_ands; go_at_call 83; ((with_reducible refine (CE.out _ (by with_reducible assumption)).mono ?_); rintro e w' ⟨rfl, hb⟩))
              | fail)
        all_goals
          go_split_ands
          go_wp2_with fail
          go_ret
          exact ⟨ret_bool HR.out.symm, bpLow f (.slice a l c) r k x n s u (by with_reducible assumption)⟩
    · have hu2 : inB u 0 1000 = false := by simpa using hu
      have HR : Hid (poB r f xs k x n s u = false) := Lib.hid (poB_u hu2)
      clear hba
      go_enter Tryz.func50, Tryz.ntmps50
      go_wp2_with fail
      obtain ⟨W1, hW1⟩ : ∃ W1, ((w.alloc (.cells #[.int .i64 f, .slice a l c, .int .i64 r] 28)).alloc (.cells #[.int .i64 k, .int .i64 x, .int .i64 n, .int .i64 s, .int .i64 u] 30)) = W1 := ⟨_, rfl⟩
      rw [hW1] at HP ⊢
      clear hW1
      with_reducible refine (CB.out _ HP).mono ?_
      rintro e w1 ⟨rfl, hb⟩
      have HP := Lib.hid (HP.out.on hb)
      obtain ⟨b0, b1, b2, p0, p1, p2, p3, p4, -⟩ := bpS HP.out
      clear hb CB
      go_wp2_with (go_at_call 82; refine (in_any _ _ _ _).mono ?_; rintro e w' ⟨rfl, rfl⟩)
      go_ret
      exact ⟨ret_bool HR.out.symm, HP.out.low⟩
  · have hba2 : baB r f xs = false := by simpa using hba
    have HR : Hid (poB r f xs k x n s u = false) := Lib.hid (poB_ba hba2)
    rw [hba2] at CB
    clear hba hba2
    go_enter Tryz.func50, Tryz.ntmps50
    go_wp2_with fail
    obtain ⟨W1, hW1⟩ : ∃ W1, ((w.alloc (.cells #[.int .i64 f, .slice a l c, .int .i64 r] 28)).alloc (.cells #[.int .i64 k, .int .i64 x, .int .i64 n, .int .i64 s, .int .i64 u] 30)) = W1 := ⟨_, rfl⟩
    rw [hW1] at HP ⊢
    clear hW1
    with_reducible refine (CB.out _ HP).mono ?_
    rintro e w1 ⟨rfl, hb⟩
    have HP := Lib.hid (HP.out.on hb)
    clear hb CB
    go_wp2_with fail
    go_ret
    exact ⟨ret_bool HR.out.symm, HP.out.low⟩

end Go.Proofs.YtdlfofdibooidaaGreat

/- A region that draws its order, whose last operation L stores into a cell that the region has loaded: a condition that holds till then; append at a step of such a region; boxes behind stores. -/
namespace Go.Proofs.YtdlfofdibooidaaGreat
open Go.ChangeShapes Go.WideShapes Go.ChangeAt Go.RowKit
set_option linter.unusedVariables false
set_option maxRecDepth 100000

/-- append at a step of a region that draws its order -/
theorem step_apj {w : World} {ops : Array Oper} {o : Oper} {a : Act} {K : Act → World → Prop} {Q : Exit → Act → World → Prop} {E : Prop} (hgd : o.guard = none) (s x : Operand)
    (ho : o.op = .call { callee := .builtin .append, args := #[s, x], argTypes := #[24, 24] })
    (base : Nat) (v : Value) (xs : List Int) (y : Int) (hs : a.eval s = v) (hown : OwnI base w v xs) (ad : Addr) (hx : a.eval x = .slice (some ad) 1 1) (hc : ∀ j u, [Value.int .i64 y][j]? = some u → w.cell? (ad.add j) = some u)
    (hlen : xs.length ≤ 4096) (hbase : base ≤ w.heap.size)
    (h : ∀ v' w', OwnI base w' v' (xs ++ [y]) → w.grownBy w' v.ownBlock → (v'.ownBlock = v.ownBlock ∨ v'.ownBlock = some w.heap.size) → K (a.put o.dst v') w') :
    if Region.wanted o (yielded ops a.tmps) = true then Oper.wp Tryz.prog o a w K Q else E := by
  obtain ⟨i0, hi, hz0, hz1, hz2⟩ := info_parts infoI
  have hm : maxLen = maxLen := rfl
  unfold maxLen at hm
  obtain ⟨v', w', hr, h2, h3, h4⟩ := run_append_own (P := Tryz.prog) w base 24 o.type 2 i0 (.int .i64 0) 1 8 Tryz.underlying24 hi hz0 hz1 hz2 rfl (by decide) v xs.length (xs.map (Value.int .i64)) hown ad 1 1 [.int .i64 y] rfl hc (by intro u hu; simp at hu; subst hu; rfl) (by unfold maxLen; omega) (by omega) hbase
  have h5 := append_where ad y hown hc hlen hbase v' w' o.type hr
  have h6 : OwnI base w' v' (xs ++ [y]) := by
    unfold OwnI
    rw [List.length_append, List.length_singleton, List.map_append]
    exact h2
  have hw : Region.wanted o (yielded ops a.tmps) = true := by simp [Region.wanted, hgd]
  rw [if_pos hw]
  unfold Oper.wp execOp
  simp only [ho, resolve, invoke, builtin, Sem.run_bind, Sem.run_pure, Result.andThen_ok, List.map_toArray, List.map_cons, List.map_nil, hs, hx, hr]
  exact h v' w' h6 h3 h5

theorem far_setCell (w : World) (p : Addr) (v : Value) (k : Nat) (h : k ≠ p.block) : (w.setCell p v).heap[k]? = w.heap[k]? := by
  show (w.heap.modify p.block _)[k]? = _
  rw [Array.getElem?_modify, if_neg (fun e => h e.symm)]

theorem Bx.set1 {w : World} {B : Nat} {x y : Value} (h : Bx w B [x, y]) (z : Value) : Bx (w.setCell ⟨B, 1, none⟩ z) B [x, z] := by
  have hl := h.lt
  obtain ⟨T, h⟩ := h
  rw [Array.getElem?_eq_getElem hl] at h
  have h' : w.heap[B] = .cells #[x, y] T (0, 0) := by simpa using h
  refine ⟨T, ?_⟩
  show (w.heap.modify B _)[B]? = _
  rw [Array.getElem?_modify, if_pos rfl, Array.getElem?_eq_getElem hl, h']
  simp

/-- behind an append: the boxes of the joint table are as they were -/
theorem Bx.grown {w w5 : World} {o : Obj} {B : Nat} {vs : List Value} {row : Option Nat} (h : Bx w B vs) (hg : (w.alloc o).grownBy w5 row) (hn : some B ≠ row) : Bx w5 B vs :=
  (h.on (box_b w o)).same (hg.block B (by have := h.lt; simp; omega) hn)

/-- in whatever order, and S behind each operation but L -/
def wpTill (Pg : Program) (md : Region.Mode) (ops : Array Oper) (Q : Exit → Act → World → Prop) (S : World → Prop) (L : Nat) : Nat → Array Bool → Act → World → Prop
  | 0, listed, a, w => Region.ready md ops listed = [] ∧ Q .normal a w
  | n + 1, listed, a, w => (Region.ready md ops listed = [] → Q .normal a w) ∧ ∀ i ∈ Region.ready md ops listed, wpOp Pg ops Q i (fun a' w' => (i ≠ L → S w') ∧ wpTill Pg md ops Q S L n (listed.setIfInBounds i true) a' w') a w

section
variable {Pg : Program} {ops : Array Oper} {Q : Exit → Act → World → Prop} {md : Region.Mode} {S : World → Prop} {L : Nat}

theorem wpTill_any : ∀ (n : Nat) (listed : Array Bool) (a : Act) (w : World), wpTill Pg md ops Q S L n listed a w → wpAny Pg md ops Q n listed a w
  | 0, _, _, _, h => h
  | n + 1, _, _, _, h => ⟨h.1, fun i hi => wpOp_mono (fun a' w' h' => wpTill_any n _ a' w' h'.2) (h.2 i hi)⟩

theorem wpTill_done {listed : Array Bool} {a : Act} {w : World} (hr : Region.ready md ops listed = []) (h : Q .normal a w) : ∀ n, wpTill Pg md ops Q S L n listed a w
  | 0 => ⟨hr, h⟩
  | _ + 1 => ⟨fun _ => h, by rw [hr]; simp⟩

theorem wpTill_start {id : Nat} {a : Act} {w : World} (hm : Pg.follows .mixedOrders = true) (hS : S w.drew)
    (h : S w.drew → wpTill Pg .any ops Q S L ops.size (Array.replicate ops.size false) a w.drew) : (Code.region id ops true).wp Pg Q a w :=
  wp_region_any hm (wpTill_any _ _ _ _ (h hS))

/-- does j wait for i, at n removes? -/
def reaches (md : Region.Mode) (ops : Array Oper) : Nat → Nat → Nat → Bool
  | 0, _, _ => false
  | n + 1, j, i => match ops[j]? with
    | some o => o.after.any fun e => Region.binds md e && (e.on == i || reaches md ops n e.on i)
    | none => false

/-- what has come up has all that it waits for behind it -/
def Closed (md : Region.Mode) (ops : Array Oper) (listed : Array Bool) : Prop := ∀ j o, ops[j]? = some o → listed.getD j false = true → ∀ e ∈ o.after, Region.binds md e = true → listed.getD e.on false = true

def closedB (md : Region.Mode) (ops : Array Oper) (listed : Array Bool) : Bool := (List.range ops.size).all fun j => !listed.getD j false || match ops[j]? with
  | some o => o.after.all fun e => !Region.binds md e || listed.getD e.on false
  | none => true

theorem closed_of {listed : Array Bool} (h : closedB md ops listed = true) : Closed md ops listed := by
  intro j o ho hj e he hb
  unfold closedB at h
  rw [List.all_eq_true] at h
  have h1 := h j (List.mem_range.2 (Array.getElem?_eq_some_iff.1 ho).1)
  rw [ho, hj] at h1
  simp only [Bool.not_true, Bool.false_or, Array.all_eq_true_iff_forall_mem] at h1
  have h2 := h1 e he
  rw [hb] at h2
  simpa using h2

theorem Closed.set {listed : Array Bool} (h : Closed md ops listed) {i : Nat} (hi : i ∈ Region.ready md ops listed) : Closed md ops (listed.setIfInBounds i true) := by
  intro j o ho hj e he hb
  by_cases hji : i = j
  · subst hji
    obtain ⟨_, o', ho', hall⟩ := mem_ready.1 hi
    rw [ho] at ho'
    cases ho'
    exact getD_set_true (hall e he hb)
  · rw [getD_set_ne false hji] at hj
    exact getD_set_true (h j o ho hj e he hb)

theorem Closed.reach {listed : Array Bool} (h : Closed md ops listed) : ∀ (n j i : Nat), (∀ o, ops[j]? = some o → ∀ e ∈ o.after, Region.binds md e = true → listed.getD e.on false = true) → reaches md ops n j i = true → listed.getD i false = true
  | 0, _, _, _, hr => by simp [reaches] at hr
  | n + 1, j, i, hd, hr => by
    unfold reaches at hr
    split at hr
    · rename_i o ho
      simp only [Array.any_eq_true, Bool.and_eq_true, Bool.or_eq_true, beq_iff_eq] at hr
      obtain ⟨k, hk, hb, he⟩ := hr
      have h1 := hd o ho _ (Array.getElem_mem hk) hb
      rcases he with he | he
      · rw [← he]; exact h1
      · exact h.reach n _ i (fun o' ho' e' he' hb' => h _ o' ho' h1 e' he' hb') he
    · cases hr

theorem waits {n i : Nat} {listed : Array Bool} (hc : Closed md ops listed) (hw : reaches md ops n L i = true) (hi : listed.getD i true = false) (hL : L ∈ Region.ready md ops listed) : False := by
  obtain ⟨_, o, ho, hall⟩ := mem_ready.1 hL
  have h1 := hc.reach n L i (fun o' ho' e he hb => by rw [ho] at ho'; cases ho'; exact hall e he hb) hw
  rcases Nat.lt_or_ge i listed.size with h' | h'
  · simp [h'] at hi h1; rw [hi] at h1; cases h1
  · simp [Array.getElem?_eq_none h'] at h1

theorem wpTill_first {i : Nat} {oi : Oper} {v : Value} (hi : ops[i]? = some oi) (hsel : ∀ (j : Nat) (o : Oper) cs b, ops[j]? = some o → o.op ≠ .select cs b)
    (hQ : ∀ c a w, Q (.panic c) (a.put oi.dst v) w → Q (.panic c) a w) {m : Nat} (hw : reaches md ops m L i = true) :
    ∀ (n : Nat) (listed : Array Bool) (a : Act) (w : World), Closed md ops listed →
      (∀ j oj, ops[j]? = some oj → j ≠ i → listed.getD j true = false → (∀ e ∈ oj.after, Region.binds md e = true → e.on ≠ i) → oi.apart ops oj = true) →
      i ∈ Region.ready md ops listed → YieldsIf Pg ops S oi v a → S w →
      wpTill Pg md ops Q S L n (listed.setIfInBounds i true) (a.put oi.dst v) w → wpTill Pg md ops Q S L (n + 1) listed a w := by
  intro n
  induction n with
  | zero =>
    intro listed a w _ _ hr hy hS H
    refine ⟨fun h => (by rw [h] at hr; cases hr), fun j hj => ?_⟩
    by_cases hji : j = i
    · subst hji; exact hy.wpOp hi hS ⟨fun _ => hS, H⟩
    · have := ready_mono hj hji
      rw [H.1] at this
      cases this
  | succ n ih =>
    intro listed a w hcl hfree hr hy hS H
    refine ⟨fun h => (by rw [h] at hr; cases hr), fun j hj => ?_⟩
    by_cases hji : j = i
    · subst hji; exact hy.wpOp hi hS ⟨fun _ => hS, H⟩
    · have hi0 := (mem_ready.1 hr).1
      have hjL : j ≠ L := fun e => by subst e; exact waits hcl hw hi0 hj
      obtain ⟨hjun, oj, hoj, hall⟩ := mem_ready.1 hj
      have hnot : ∀ e ∈ oj.after, Region.binds md e = true → e.on ≠ i := fun e he hb heq => by
        have h1 := hall e he hb
        rw [heq] at h1
        rcases Nat.lt_or_ge i listed.size with h' | h'
        · simp [h'] at hi0 h1; rw [hi0] at h1; cases h1
        · simp [Array.getElem?_eq_none h'] at h1
      have h2 := wpOp_putIf hoj (hfree j oj hoj hji hjun hnot) (fun cs b => hsel i oi cs b hi) (fun cs b => hsel j oj cs b hoj) hQ hy (H.2 j (ready_mono hj hji))
      refine wpOp_mono (fun a' w' h3 => ⟨h3.2.1, ih (listed.setIfInBounds j true) a' w' (hcl.set hj) (fun k ok hk hki hun hno => ?_) (ready_mono hr (Ne.symm hji)) h3.1 (h3.2.1 hjL) ?_⟩) h2
      · refine hfree k ok hk hki ?_ hno
        by_cases hjk : j = k
        · subst hjk; exact hjun
        · rw [getD_set_ne true hjk] at hun; exact hun
      · rw [Array.setIfInBounds_comm _ _ hji]
        exact h3.2.2

theorem wpTill_take {i : Nat} {oi : Oper} {v : Value} {n : Nat} {listed : Array Bool} {a : Act} {w : World} (hi : ops[i]? = some oi)
    (hs : Region.noSelect ops = true) (hf : Region.free md ops listed i = true) (hr : (Region.ready md ops listed).contains i = true) (hc : closedB md ops listed = true) (hw : reaches md ops 12 L i = true)
    (hQ : ∀ c a w, Q (.panic c) (a.put oi.dst v) w → Q (.panic c) a w) (hy : YieldsIf Pg ops S oi v a) (hS : S w)
    (h : wpTill Pg md ops Q S L n (listed.setIfInBounds i true) (a.put oi.dst v) w) : wpTill Pg md ops Q S L (n + 1) listed a w :=
  wpTill_first hi (Region.noSelect_spec hs) hQ hw n listed a w (closed_of hc) (Region.free_spec hi hf) (by simpa using hr) hy hS h

/-- those that may come up next -/
def AllTill (Pg : Program) (md : Region.Mode) (ops : Array Oper) (Q : Exit → Act → World → Prop) (S : World → Prop) (L n : Nat) (listed : Array Bool) (a : Act) (w : World) (rs : List Nat) : Prop :=
  ∀ i ∈ rs, wpOp Pg ops Q i (fun a' w' => (i ≠ L → S w') ∧ wpTill Pg md ops Q S L n (listed.setIfInBounds i true) a' w') a w

theorem AllTill.nil {n : Nat} {listed : Array Bool} {a : Act} {w : World} : AllTill Pg md ops Q S L n listed a w [] := fun _ h => by cases h

theorem AllTill.cons {n : Nat} {listed : Array Bool} {a : Act} {w : World} {i : Nat} {o : Oper} {rs : List Nat} (ho : ops[i]? = some o)
    (h : ∀ K' : Act → World → Prop, Shut (∀ a w, (i ≠ L → S w) → ((i ≠ L → S w) → wpTill Pg md ops Q S L n (listed.setIfInBounds i true) a w) → K' a w) → if Region.wanted o (yielded ops a.tmps) = true then Oper.wp Pg o a w K' Q else K' (a.put o.dst undef) w)
    (hs : AllTill Pg md ops Q S L n listed a w rs) : AllTill Pg md ops Q S L n listed a w (i :: rs) := fun j hj => by
  rcases List.mem_cons.1 hj with rfl | hj
  · exact wpOp_step ho (fun K' hK => h K' (fun a w hS hW => hK a w ⟨hS, hW hS⟩))
  · exact hs j hj

theorem wpTill_ready {rs : List Nat} {n : Nat} {listed : Array Bool} {a : Act} {w : World} (hr : Region.ready md ops listed = rs) (hne : rs ≠ [])
    (h : AllTill Pg md ops Q S L n listed a w rs) : wpTill Pg md ops Q S L (n + 1) listed a w :=
  ⟨fun h0 => absurd (hr ▸ h0) hne, hr ▸ h⟩

end

end Go.Proofs.YtdlfofdibooidaaGreat
