/- Merged: Poo, Lvf, Pop. -/
import Derived.Test.YtdlfofdibooidaaGreatLb13
import Derived.Test.YtdlfofdibooidaaGreatLb28
import Derived.Lib.SmallJoins

/- Policies: office premiums, the greatest sum for a premium. (Written by wip/gen/poo.py.) -/
namespace Go.Proofs.YtdlfofdibooidaaGreat
open Go.ChangeShapes Go.WideShapes Go.ChangeAt Go.RowKit
open Go.ChangeMaps (setBlock heap_setBlock_same heap_setBlock_other)
set_option linter.unusedVariables false
set_option maxRecDepth 100000

def offV (r f : Int) (xs : List Int) (k x n s u : Int) : Int := if poB r f xs k x n s u = true then offN (netN r f xs k x n s) u else 0

/-- the numbers of an office premium -/
theorem off_nums {r f : Int} {xs : List Int} {k x n s u : Int} (hp : poB r f xs k x n s u = true) : ∃ p : Int, netN r f xs k x n s = p ∧ 0 ≤ p ∧ p ≤ 100000001 ∧ 0 ≤ p * u ∧ p * u ≤ 100000001000 ∧ 0 ≤ u ∧ u ≤ 1000 ∧ p ≤ offN p u ∧ offN p u ≤ 2 * p := by
  obtain ⟨-, -, -, p, -, -, -, e4, -, -, -, -, -, -, p0, p1, -⟩ := po_nums hp
  obtain ⟨-, ⟨u0, u1⟩, -⟩ := poB_iff.1 hp
  obtain ⟨o1, o2, o3, o4⟩ := offN_bd p u p0 p1 u0 u1
  exact ⟨p, e4, p0, p1, o3, o4, u0, u1, o1, o2⟩

set_option maxHeartbeats 1000000 in
theorem soff_any (r f : Int) (xs : List Int) (a : Option Addr) (l c : Nat) (k x n s u : Int) (w : World) (h : Ints w a l xs) (hp : poB r f xs k x n s u = true) :
    Calls Tryz.prog 51 #[.agg #[.int .i64 f, .slice a l c, .int .i64 r], .agg #[.int .i64 k, .int .i64 x, .int .i64 n, .int .i64 s, .int .i64 u]] w fun e w' => e = .returned (.int .i64 (offN (netN r f xs k x n s) u)) ∧ Below w.heap.size w w' := by
  have H := Lib.hid h
  clear h
  have HP := Lib.hid (BP.new w f (.slice a l c) r k x n s u 28 30)
  have CN : Hid (∀ W, Hid (BP w f (.slice a l c) r k x n s u W) → Calls Tryz.prog 85 #[.agg #[.int .i64 f, .slice a l c, .int .i64 r], .agg #[.int .i64 k, .int .i64 x, .int .i64 n, .int .i64 s, .int .i64 u]] W fun e w' => e = .returned (.int .i64 (netN r f xs k x n s)) ∧ Below W.heap.size W w') :=
    Lib.hid (fun W hW => snet_any r f xs a l c k x n s u W (H.out.on hW.out.low) hp)
  obtain ⟨p, e4, p0, p1, o3, o4, u0, u1, o1, o2⟩ := off_nums hp
  rw [e4] at CN ⊢
  unfold offN at o1 o2 ⊢
  have CU := Lib.hid (fun W => up_any (p * u) 1000 W (by omega) (by omega) (by omega))
  obtain ⟨Y, hY⟩ : ∃ y_, -(-(p * u) / 1000) = y_ := ⟨_, rfl⟩
  rw [hY] at CU o1 o2 ⊢
  have q1 : IntKind.i64.wrap (p * u) = p * u := IntWalk.i64_in _ (by omega)
  have q2 : IntKind.i64.wrap (p + Y) = p + Y := IntWalk.i64_in _ (by omega)
  clear e4 hp hY
  go_enter Tryz.func51, Tryz.ntmps51
  go_wp2_with fail
  obtain ⟨W1, hW1⟩ : ∃ W1, ((w.alloc (.cells #[.int .i64 f, .slice a l c, .int .i64 r] 28)).alloc (.cells #[.int .i64 k, .int .i64 x, .int .i64 n, .int .i64 s, .int .i64 u] 30)) = W1 := ⟨_, rfl⟩
  rw [hW1] at HP ⊢
  clear hW1
  with_reducible refine (CN.out _ HP).mono ?_
  rintro e w1 ⟨rfl, hb⟩
  have HP := Lib.hid (HP.out.on hb)
  clear hb
  obtain ⟨b0, b1, b2, p0, p1, p2, p3, p4, -⟩ := bpS HP.out
  go_wp2_with fail
  with_reducible refine (CU.out _).mono ?_
  rintro e w' ⟨rfl, rfl⟩
  go_wp2_with fail
  go_ret
  exact ⟨rfl, HP.out.low⟩

theorem Bx.set3 {w : World} {B : Nat} {x0 x1 x2 x3 x4 : Value} (h : Bx w B [x0, x1, x2, x3, x4]) (z : Value) : Bx (w.setCell ⟨B, 3, none⟩ z) B [x0, x1, x2, z, x4] := by
  obtain ⟨T, h⟩ := h
  exact ⟨T, by rw [Joins.block_setCell h]; rfl⟩

theorem Bx.three9 {w : World} {B : Nat} {x y z : Value} (h : Bx w B [x, y, z]) : w.cell? ⟨B, 0, none⟩ = some x ∧ w.cell? ⟨B, 1, none⟩ = some y ∧ w.cell? ⟨B, 2, none⟩ = some z := by
  obtain ⟨T, h⟩ := h
  simp [World.cell?, h]

/-- while the model looks for a sum -/
structure LS (w : World) (f : Int) (v : Value) (r k x n s u : Int) (W : World) : Prop where
  b : Bx W w.heap.size [.int .i64 f, v, .int .i64 r]
  p : Bx W (w.heap.size + 1) [.int .i64 k, .int .i64 x, .int .i64 n, .int .i64 s, .int .i64 u]
  low : Below w.heap.size w W

theorem LS.on {w : World} {f : Int} {v : Value} {r k x n s u : Int} {W W' : World} (h : LS w f v r k x n s u W) (hb : Below W.heap.size W W') : LS w f v r k x n s u W' := ⟨h.b.on hb, h.p.on hb, h.low.trans (hb.mono h.low.size)⟩

theorem LS.set {w : World} {f : Int} {v : Value} {r k x n s u : Int} {W : World} (h : LS w f v r k x n s u W) (t : Int) : LS w f v r k x n t u (W.setCell ⟨w.heap.size + 1, 3, none⟩ (.int .i64 t)) :=
  ⟨h.b.same (Below.heap_setCell _ _ _ _ (by show w.heap.size ≠ w.heap.size + 1; omega)), h.p.set3 _, h.low.setCell (p := ⟨w.heap.size + 1, 3, none⟩) (by show w.heap.size ≤ w.heap.size + 1; omega) _⟩

theorem LS.new (w : World) (f : Int) (v : Value) (r k x n s u : Int) : LS w f v r k x n s u ((w.alloc (.cells #[.int .i64 f, v, .int .i64 r] 28)).alloc (.cells #[.int .i64 k, .int .i64 x, .int .i64 n, .int .i64 s, .int .i64 u] 30)) := by
  have h1 := Bx.new w [.int .i64 f, v, .int .i64 r] 28
  have hb := box_b (w.alloc (.cells #[.int .i64 f, v, .int .i64 r] 28)) (.cells #[.int .i64 k, .int .i64 x, .int .i64 n, .int .i64 s, .int .i64 u] 30)
  have h2 := Bx.new (w.alloc (.cells #[.int .i64 f, v, .int .i64 r] 28)) [.int .i64 k, .int .i64 x, .int .i64 n, .int .i64 s, .int .i64 u] 30
  rw [World.size_alloc] at h2
  exact ⟨h1.on hb, h2, (box_b _ _).trans (hb.mono (by simp))⟩

end Go.Proofs.YtdlfofdibooidaaGreat

/- Leaving: what the two laws need of the numbers. -/
namespace Go.Proofs.YtdlfofdibooidaaGreat
open Go.ChangeShapes Go.WideShapes Go.ChangeAt Go.RowKit
set_option linter.unusedVariables false
set_option maxRecDepth 100000

theorem lvV_yes {E : Int} (h : E = 0) (y : Int) : lvV E y = y := by unfold lvV; rw [if_pos h]

theorem lvV_no {E : Int} (h : E ≠ 0) (y : Int) : lvV E y = 0 := by unfold lvV; rw [if_neg h]

/-- another sum for the years that are left -/
theorem lv_as {r f : Int} {xs : List Int} {k x n s u j t : Int} (hp : poB r f xs k x n s u = true) (hj : 0 ≤ j ∧ j ≤ durN f xs k x n - 1) (hd : dvN r f xs x j ≠ 0) (t0 : 1 ≤ t) (t1 : t ≤ 100000000) :
    asE r f xs k (x + j) (lfN k n j) t = 0 :=
  asE_sum (s := s) (rv_as hp hj hd) t0 t1

/-- rounded up: at most what is enough -/
theorem upV_le {a b c q : Int} (hc : 1 ≤ c) (h : a * b ≤ q * c) : upV a b c ≤ q := by
  obtain ⟨h1, h2⟩ := upV_ceil a b c hc
  have : upV a b c * c < (q + 1) * c := by rw [Int.add_mul]; omega
  have := Int.lt_of_mul_lt_mul_right this (by omega)
  omega

theorem leave_facts {r f : Int} {xs : List Int} {k x n s u j : Int} (he : lvE r f xs k x n s u j = 0) :
    ∃ P V L O : Int, lvV (lvE r f xs k x n s u j) (puN r f xs k x n s j) = P ∧ lvV (lvE r f xs k x n s u j) (lsvN r f xs k x n s j) = V ∧ lvV (lvE r f xs k x n s u j) (ktN r f xs k x n s j - lsvN r f xs k x n s j) = L ∧ lvV (lvE r f xs k x n s u j) (lsvN r f xs k x n s j * 800 / 1000) = O ∧
      0 ≤ P ∧ P ≤ s ∧ s ≤ 100000000 ∧ 0 ≤ V ∧ V ≤ 20000000001 ∧ 0 ≤ L ∧ L ≤ 20000000001 ∧ 0 ≤ O ∧ O ≤ V ∧ 1000 * V ≤ 900 * (V + L) ∧
      (0 ≤ x + j ∧ x + j ≤ 150) ∧ (-150 ≤ n - j ∧ n - j ≤ 150) ∧ ∃ p a : Int, priV r f xs k (x + j) (lfN k n j) P = p ∧ asE r f xs k (x + j) (lfN k n j) P = a ∧ (0 < P → a = 0 ∧ p ≤ V) := by
  obtain ⟨he2, hj2⟩ := lvE_iff.1 he
  obtain ⟨hp, hj, hd⟩ := rvE_iff.1 he2
  obtain ⟨q, v, e1, e2, e3, q0, q1, v0, v1, v2⟩ := lv_nums hp hj hd
  obtain ⟨p0, p1, p2⟩ := pu_in hp hj hd
  obtain ⟨t, b, d, t0, b0, p, g1, g2, g3, g4, g5, g6, ⟨t1, t2⟩, ⟨d0, d1⟩, -, -, -, -, -, -, s0, s1⟩ := rv_nums hp hj hd
  obtain ⟨ht, hr, hk, ⟨l0, l1⟩, ⟨y0, y1, y2⟩, hx, ⟨n0, n1⟩, f0, f1⟩ := rv_in hp hj
  have hdp := dur_pos hp
  refine ⟨puN r f xs k x n s j, v, q - v, v * 800 / 1000, lvV_yes he _, by rw [lvV_yes he, e2], by rw [lvV_yes he, e1, e2], by rw [lvV_yes he, e2], p0, p1, s1, v0, v2, by omega, by omega, by omega, by omega, by omega, ⟨by omega, by omega⟩, ⟨by omega, by omega⟩, _, _, rfl, rfl, fun h0 => ?_⟩
  have ha := lv_as hp hj hd (t := puN r f xs k x n s j) (by omega) (by omega)
  refine ⟨ha, ?_⟩
  unfold priV
  rw [if_pos ha]
  rw [show asT r f xs k (x + j) (lfN k n j) = t from g1, show cD r xs (x + j - f).toNat = d from g3]
  rw [g1, e2, g3] at p2
  exact upV_le d0 p2

theorem kept_facts {r f : Int} {xs : List Int} {k x n s u j : Int} (he : lvE r f xs k x n s u j = 0) :
    ∃ m V : Int, lvV (lvE r f xs k x n s u j) (kyN r f xs k x n s j) = m ∧ lvV (lvE r f xs k x n s u j) (lsvN r f xs k x n s j) = V ∧ 0 ≤ m ∧ m ≤ 150 ∧ 0 ≤ V ∧ V ≤ 20000000001 ∧ (0 ≤ x + j ∧ x + j ≤ 150) ∧
      ∃ p a : Int, priV r f xs 1 (x + j) m s = p ∧ asE r f xs 1 (x + j) m s = a ∧ (m ≠ 0 → a = 0 ∧ p ≤ V) := by
  obtain ⟨he2, hj2⟩ := lvE_iff.1 he
  obtain ⟨hp, hj, hd⟩ := rvE_iff.1 he2
  obtain ⟨q, v, e1, e2, e3, q0, q1, v0, v1, v2⟩ := lv_nums hp hj hd
  obtain ⟨ht, hr, hk, ⟨l0, l1⟩, ⟨y0, y1, y2⟩, hx, ⟨n0, n1⟩, f0, f1⟩ := rv_in hp hj
  have hdp := dur_pos hp
  have hle := kyI_le (kyF r f xs x s j) v (durN f xs k x n - j).toNat
  refine ⟨kyN r f xs k x n s j, v, lvV_yes he _, by rw [lvV_yes he, e2], ?_, ?_, v0, v2, ⟨by omega, by omega⟩, _, _, rfl, rfl, ?_⟩
  · unfold kyN; omega
  · unfold kyN; rw [e2]; omega
  · unfold kyN
    rw [e2]
    have hok := kyI_ok (kyF r f xs x s j) v (durN f xs k x n - j).toNat
    obtain ⟨m, hm⟩ : ∃ y_, kyI (kyF r f xs x s j) v (durN f xs k x n - j).toNat = y_ := ⟨_, rfl⟩
    rw [hm] at hle hok ⊢
    intro h0
    have hm0 : m ≠ 0 := by omega
    have ha : asE r f xs 1 (x + j) m s = 0 := ky_as hp hj hd m (by omega) (by omega)
    refine ⟨ha, ?_⟩
    unfold priV
    rw [if_pos ha]
    exact hok hm0

theorem best_facts {r f : Int} {xs : List Int} {k x n s u : Int} (he : blE r f xs k x n s u = 0) :
    ∃ j y V o : Int, blK r f xs k x n s u = j ∧ blV r f xs k x n s u = y ∧ lvE r f xs k x n s u j = 0 ∧ poE r f xs k x n s u = 0 ∧ lvV (lvE r f xs k x n s u j) (lsvN r f xs k x n s j) = V ∧ offV r f xs k x n s u = o ∧ y = V - j * o ∧ 2 ≤ j ∧ j ≤ 150 ∧ 0 ≤ V ∧ V ≤ 20000000001 ∧ 0 ≤ j * o ∧ j * o ≤ 100000000000 := by
  have hp : poB r f xs k x n s u = true := by
    by_cases hp : poB r f xs k x n s u = true
    · exact hp
    · unfold blE at he; rw [if_neg hp] at he; omega
  have hdp := dur_pos hp
  have h2 : ¬ durN f xs k x n ≤ 2 := by
    intro h; rw [blE_low hp h] at he; omega
  have hn : npB r xs ((x - f).toNat + 2) (durN f xs k x n - 2).toNat = true := by
    by_cases hn : npB r xs ((x - f).toNat + 2) (durN f xs k x n - 2).toNat = true
    · exact hn
    · unfold blE at he; rw [if_pos hp, if_neg h2, if_neg hn] at he; omega
  obtain ⟨-, -, -, -, -, ⟨hx, -⟩, -⟩ := rv_in (j := 0) hp ⟨by omega, by omega⟩
  have hlt := gi_lt (blG r f xs k x n s u) (durN f xs k x n - 2).toNat (by omega)
  unfold blK blV
  rw [if_pos he, if_pos he]
  obtain ⟨i, hi⟩ : ∃ y_, gmI (blG r f xs k x n s u) (durN f xs k x n - 2).toNat = y_ := ⟨_, rfl⟩
  rw [hi] at hlt ⊢
  have hd : dvN r f xs x ((i : Int) + 2) ≠ 0 := by
    unfold dvN
    rw [show (x + ((i : Int) + 2) - f).toNat = (x - f).toNat + 2 + i by omega]
    exact npB_iff.1 hn i hlt
  have hj : 0 ≤ (i : Int) + 2 ∧ (i : Int) + 2 ≤ durN f xs k x n - 1 := ⟨by omega, by omega⟩
  obtain ⟨q, v, e1, e2, e3, q0, q1, v0, v1, v2⟩ := lv_nums hp hj hd
  have hE : lvE r f xs k x n s u ((i : Int) + 2) = 0 := lvE_iff.2 ⟨rvE_iff.2 ⟨hp, hj, hd⟩, by omega⟩
  obtain ⟨p, g4, p0, p1, -, -, u0, u1, o1, o2⟩ := off_nums hp
  refine ⟨(i : Int) + 2, _, v, offN p u, rfl, rfl, hE, poE_yes hp, by rw [lvV_yes hE, e2], by unfold offV; rw [if_pos hp, g4], ?_, by omega, by omega, v0, v2, ?_, ?_⟩
  · unfold blG; rw [e2, g4]
  · exact Int.mul_nonneg (by omega) (by omega)
  · have : ((i : Int) + 2) * offN p u ≤ 120 * 200000002 := Int.le_trans (Int.mul_le_mul_of_nonneg_left (show offN p u ≤ 200000002 by omega) (by omega)) (Int.mul_le_mul_of_nonneg_right (by omega) (by omega))
    omega

end Go.Proofs.YtdlfofdibooidaaGreat

/- Policies: the program's office premium, the greatest sum for a premium. (Written by wip/gen/pop.py.) -/
namespace Go.Proofs.YtdlfofdibooidaaGreat
open Go.ChangeShapes Go.WideShapes Go.ChangeAt Go.RowKit
open Go.ChangeMaps (setBlock heap_setBlock_same heap_setBlock_other)
set_option linter.unusedVariables false
set_option maxRecDepth 100000

/-- the box of a policy, while the tariff's map may grow -/
structure GS (w : World) (R M D : Nat) (r f : Int) (xs : List Int) (v : Value) (k x n s u : Int) (W : World) : Prop where
  tf : TF R M D r f xs v k x n u W
  box : Bx W w.heap.size [.int .i64 k, .int .i64 x, .int .i64 n, .int .i64 s, .int .i64 u]
  but : But M w W
  dl : D < w.heap.size
  rl : R < w.heap.size
  ml : M < w.heap.size

theorem GS.onM {w : World} {R M D : Nat} {r f : Int} {xs : List Int} {v : Value} {k x n s u : Int} {W W' : World} (h : GS w R M D r f xs v k x n s u W) (ht : TF R M D r f xs v k x n u W') (hb : But M W W') : GS w R M D r f xs v k x n s u W' := by
  have hm := h.ml
  exact ⟨ht, h.box.same (hb.block _ h.box.lt (by omega)), h.but.trans hb, h.dl, h.rl, hm⟩

theorem GS.set {w : World} {R M D : Nat} {r f : Int} {xs : List Int} {v : Value} {k x n s u : Int} {W : World} (h : GS w R M D r f xs v k x n s u W) (t : Int) : GS w R M D r f xs v k x n t u (W.setCell ⟨w.heap.size, 3, none⟩ (.int .i64 t)) := by
  have hd := h.dl
  have hr := h.rl
  have hm := h.ml
  have far : ∀ j, j < w.heap.size → (W.setCell ⟨w.heap.size, 3, none⟩ (.int .i64 t)).heap[j]? = W.heap[j]? := fun j hj => Below.heap_setCell _ _ _ _ (by show j ≠ w.heap.size; omega)
  obtain ⟨es, c, hmm, hk⟩ := h.tf.map
  refine ⟨⟨(World.cell?_of_block (w := W) (a := ⟨D, 0, none⟩) (far D hd)).trans h.tf.t0, (World.cell?_of_block (w := W) (a := ⟨D, 1, none⟩) (far D hd)).trans h.tf.t1, h.tf.cols.same (far R hr), es, c, (far M hm).trans hmm, hk⟩, h.box.set3 _, ?_, hd, hr, hm⟩
  exact ⟨h.but.os, h.but.tape, h.but.output, by have := h.but.size; simpa [World.setCell] using this, fun j hj hne => (far j hj).trans (h.but.block j hj hne)⟩

theorem GS.new (R M D : Nat) (r f : Int) (xs : List Int) (v : Value) (k x n s u : Int) (w : World) (h : TF R M D r f xs v k x n u w) : GS w R M D r f xs v k x n s u (w.alloc (.cells #[.int .i64 k, .int .i64 x, .int .i64 n, .int .i64 s, .int .i64 u] 30)) := by
  obtain ⟨es, c, hm, -⟩ := h.map
  exact ⟨h.on (box_b _ _), Bx.new w [.int .i64 k, .int .i64 x, .int .i64 n, .int .i64 s, .int .i64 u] 30, butM_of (box_b _ _), block_lt h.t0, h.cols.lt, mapB_lt hm⟩

set_option maxHeartbeats 1000000 in
theorem ioff_any (R M D : Nat) (r f : Int) (xs : List Int) (v : Value) (k x n s u : Int) (w : World) (h : TF R M D r f xs v k x n u w) (hp : poB r f xs k x n s u = true) :
    Calls Tryz.prog 53 #[.pointer (some ⟨D, 0, none⟩), .agg #[.int .i64 k, .int .i64 x, .int .i64 n, .int .i64 s, .int .i64 u]] w (TPost (offN (netN r f xs k x n s) u) R M D r f xs v k x n u w) := by
  have HP := Lib.hid (GS.new R M D r f xs v k x n s u w h)
  unfold TPost
  have CN : Hid (∀ W, GS w R M D r f xs v k x n s u W → Calls Tryz.prog 79 #[.pointer (some ⟨D, 0, none⟩), .agg #[.int .i64 k, .int .i64 x, .int .i64 n, .int .i64 s, .int .i64 u]] W (TPost (netN r f xs k x n s) R M D r f xs v k x n u W)) :=
    Lib.hid (fun W hW => inet_any R M D r f xs v k x n s u W hW.tf hp)
  unfold TPost at CN
  obtain ⟨p, e4, p0, p1, o3, o4, u0, u1, o1, o2⟩ := off_nums hp
  rw [e4] at CN ⊢
  unfold offN at o1 o2 ⊢
  have CU := Lib.hid (fun W => partUp_any p u 1000 W (by omega) (by omega) u0 u1 (by omega))
  rw [show -(-p * u / 1000) = -(-(p * u) / 1000) by rw [Int.neg_mul]] at CU
  obtain ⟨Y, hY⟩ : ∃ y_, -(-(p * u) / 1000) = y_ := ⟨_, rfl⟩
  rw [hY] at CU o1 o2 ⊢
  have q2 : IntKind.i64.wrap (p + Y) = p + Y := IntWalk.i64_in _ (by omega)
  clear e4 hp hY h
  go_enter Tryz.func53, Tryz.ntmps53
  go_wp2_with fail
  obtain ⟨W0, hW0⟩ : ∃ y_, (w.alloc (.cells #[.int .i64 k, .int .i64 x, .int .i64 n, .int .i64 s, .int .i64 u] 30)) = y_ := ⟨_, rfl⟩
  rw [hW0] at HP ⊢
  clear hW0
  with_reducible refine (CN.out _ HP.out).mono ?_
  rintro e w1 ⟨rfl, ht, hb⟩
  have HP := Lib.hid (HP.out.onM ht hb)
  obtain ⟨c0, c1, c2, c3, c4⟩ := HP.out.box.five0
  clear hb ht
  go_wp2_with fail
  with_reducible refine (CU.out _).mono ?_
  rintro e w' ⟨rfl, rfl⟩
  go_wp2_with fail
  go_ret
  exact ⟨rfl, HP.out.tf, HP.out.but⟩

set_option maxHeartbeats 1000000 in
theorem iop_any (r f : Int) (xs : List Int) (a : Option Addr) (l c : Nat) (k x n s u : Int) (w : World) (h : Ints w a l xs) (hlc : l ≤ c) :
    Calls Tryz.prog 28 #[.agg #[.int .i64 f, .slice a l c, .int .i64 r], .agg #[.int .i64 k, .int .i64 x, .int .i64 n, .int .i64 s, .int .i64 u]] w (IIPost (offV r f xs k x n s u) (poE r f xs k x n s u) w) := by
  have H := Lib.hid h
  clear h
  have HP := Lib.hid (BP.new w f (.slice a l c) r k x n s u 28 30)
  unfold IIPost
  by_cases hp : poB r f xs k x n s u = true
  · have HV : Hid (offV r f xs k x n s u = offN (netN r f xs k x n s) u) := Lib.hid (by unfold offV; rw [if_pos hp])
    rw [HV.out, poE_yes hp]
    have CT : Hid (∀ W, Hid (BP w f (.slice a l c) r k x n s u W) → Calls Tryz.prog 52 #[.agg #[.int .i64 f, .slice a l c, .int .i64 r], .agg #[.int .i64 k, .int .i64 x, .int .i64 n, .int .i64 s, .int .i64 u]] W (TfYes r f xs (.slice a l c) k x n u W)) := Lib.hid (fun W hW => itf_yes r f xs a l c k x n s u W (H.out.on hW.out.low) hlc hp)
    unfold TfYes at CT
    have CN : Hid (∀ R M D W, TF R M D r f xs (.slice a l c) k x n u W → Calls Tryz.prog 53 #[.pointer (some ⟨D, 0, none⟩), .agg #[.int .i64 k, .int .i64 x, .int .i64 n, .int .i64 s, .int .i64 u]] W (TPost (offN (netN r f xs k x n s) u) R M D r f xs (.slice a l c) k x n u W)) :=
      Lib.hid (fun R M D W hW => ioff_any R M D r f xs (.slice a l c) k x n s u W hW hp)
    obtain ⟨Z, hZ⟩ : ∃ y_, offN (netN r f xs k x n s) u = y_ := ⟨_, rfl⟩
    rw [hZ] at CN ⊢
    unfold TPost at CN
    clear hp hZ HV
    go_enter Tryz.func28, Tryz.ntmps28
    go_wp2_with fail
    obtain ⟨W1, hW1⟩ : ∃ W1, ((w.alloc (.cells #[.int .i64 f, .slice a l c, .int .i64 r] 28)).alloc (.cells #[.int .i64 k, .int .i64 x, .int .i64 n, .int .i64 s, .int .i64 u] 30)) = W1 := ⟨_, rfl⟩
    rw [hW1] at HP ⊢
    clear hW1
    with_reducible refine (CT.out _ HP).mono ?_
    rintro e w1 ⟨R, M, D, rfl, htf, hnew, hb⟩
    have HM : Hid (w.heap.size ≤ M) := Lib.hid (Nat.le_trans HP.out.low.size hnew)
    have HP := Lib.hid (HP.out.on hb)
    have HT := Lib.hid htf
    obtain ⟨b0, b1, b2, p0, p1, p2, p3, p4, -⟩ := bpS HP.out
    clear hb htf hnew
    go_wp2_with fail
    with_reducible refine (CN.out R M D _ HT.out).mono ?_
    rintro e w2 ⟨rfl, -, hbm⟩
    have HB := Lib.hid (HP.out.low.trans (hbm.below HM.out HP.out.low.size))
    clear hbm
    go_wp2_with fail
    go_ret2
    exact ⟨rfl, HB.out⟩
  · have hp : poB r f xs k x n s u = false := by simpa using hp
    have HV : Hid (offV r f xs k x n s u = 0) := Lib.hid (by unfold offV; rw [hp]; rfl)
    rw [poE_no hp]
    have CT : Hid (∀ W, Hid (BP w f (.slice a l c) r k x n s u W) → Calls Tryz.prog 52 #[.agg #[.int .i64 f, .slice a l c, .int .i64 r], .agg #[.int .i64 k, .int .i64 x, .int .i64 n, .int .i64 s, .int .i64 u]] W (TfNo W)) := Lib.hid (fun W hW => itf_no r f xs a l c k x n s u W (H.out.on hW.out.low) hlc hp)
    unfold TfNo at CT
    clear hp
    go_enter Tryz.func28, Tryz.ntmps28
    go_wp2_with fail
    obtain ⟨W1, hW1⟩ : ∃ W1, ((w.alloc (.cells #[.int .i64 f, .slice a l c, .int .i64 r] 28)).alloc (.cells #[.int .i64 k, .int .i64 x, .int .i64 n, .int .i64 s, .int .i64 u] 30)) = W1 := ⟨_, rfl⟩
    rw [hW1] at HP ⊢
    clear hW1
    with_reducible refine (CT.out _ HP).mono ?_
    rintro e w1 ⟨rfl, hb⟩
    have HP := Lib.hid (HP.out.on hb)
    obtain ⟨b0, b1, b2, p0, p1, p2, p3, p4, -⟩ := bpS HP.out
    clear hb
    go_wp2_with fail
    go_ret2
    exact ⟨ret_ii HV.out.symm rfl, HP.out.low⟩

/-- the sum that is found: the number and its code -/
def gsV (r f : Int) (xs : List Int) (k x n u q : Int) : Int := sfN r f xs k x n u q

def gsE (r f : Int) (xs : List Int) (k x n u q : Int) : Int := if sfN r f xs k x n u q = 0 then 4 else 0

end Go.Proofs.YtdlfofdibooidaaGreat
