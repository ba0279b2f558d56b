/- Merged: Rvw, Rve. -/
import Derived.Test.YtdlfofdibooidaaGreatLb11
import Derived.Test.YtdlfofdibooidaaGreatLb12
import Derived.Test.YtdlfofdibooidaaGreatLb23
import Derived.Test.YtdlfofdibooidaaGreatLb28
import Derived.Shelf.Spec.BitsCarry
import Derived.Laws.Bits64

/- Numbers of 128 bits: products, differences, quotients rounded down. -/
namespace Go.Proofs.YtdlfofdibooidaaGreat
open Go.ChangeShapes Go.WideShapes Go.ChangeAt Go.RowKit
set_option linter.unusedVariables false
set_option maxRecDepth 100000

theorem sub64_any (x y b : Int) (hx : 0 ≤ x) (hy : 0 ≤ y) (hy' : y < 18446744073709551616) (hb0 : 0 ≤ b) (hb : b ≤ 1) (w : World) : (callFunc 140 #[.int .u64 x, .int .u64 y, .int .u64 b]).run Tryz.prog w =
    .ok (.value (.tuple #[.int .u64 ((x - y - b) % 18446744073709551616), .int .u64 (if x < y + b then 1 else 0)])) w := by
  obtain ⟨x, rfl⟩ := Int.eq_ofNat_of_zero_le hx
  obtain ⟨y, rfl⟩ := Int.eq_ofNat_of_zero_le hy
  obtain ⟨b, rfl⟩ := Int.eq_ofNat_of_zero_le hb0
  have e1 : (((x + 18446744073709551616 - y - b) % 18446744073709551616 : Nat) : Int) = ((x : Int) - y - b) % 18446744073709551616 := by omega
  have e2 : ((if x < y + b then 1 else 0 : Nat) : Int) = if (x : Int) < y + b then 1 else 0 := by split <;> split <;> omega
  rw [← e1, ← e2]
  rw [run_callFunc_extern Tryz.func140 (by kernel_rfl) (by kernel_rfl) (by kernel_rfl) (e := sub64Entry) (by kernel_rfl), run_sub64 x y b (by omega)]
  rfl

/-- the borrow -/
def borW (x y : Int) : Int := if x < y then 1 else 0

/-- a number of 128 bits: its two words -/
def hiW (N : Int) : Int := N / 18446744073709551616 % 18446744073709551616

def loW (N : Int) : Int := N % 18446744073709551616

def wdV (N : Int) : Value := .agg #[.int .u64 (hiW N), .int .u64 (loW N)]

theorem minus_lo (A B : Int) : (loW A - loW B) % 18446744073709551616 = loW (A - B) := by unfold loW; omega

theorem minus_hi (A B : Int) : (hiW A - hiW B - borW (loW A) (loW B)) % 18446744073709551616 = hiW (A - B) := by
  unfold hiW loW borW
  split <;> omega

theorem prod_any (a b : Int) (w : World) (a0 : 0 ≤ a) (a1 : a ≤ 1000000000000000000) (b0 : 0 ≤ b) (b1 : b ≤ 1000000000000000000) :
    Calls Tryz.prog 132 #[.int .i64 a, .int .i64 b] w fun e w' => e = .returned (wdV (a * b)) ∧ Below w.heap.size w w' := by
  have hp0 : 0 ≤ a * b := Int.mul_nonneg a0 b0
  have hp1 : a * b ≤ 1000000000000000000 * 1000000000000000000 := Int.le_trans (Int.mul_le_mul_of_nonneg_right a1 b0) (Int.mul_le_mul_of_nonneg_left b1 (by omega))
  have CM : Hid (∀ W, Calls Tryz.prog 125 #[.int .u64 a, .int .u64 b] W fun e w' => e = .returned (.tuple #[.int .u64 (hiW (a * b)), .int .u64 (loW (a * b))]) ∧ w' = W) := Lib.hid (fun W => by
    obtain ⟨m, rfl⟩ : ∃ n : Nat, a = n := ⟨a.toNat, by omega⟩
    obtain ⟨n, rfl⟩ : ∃ n : Nat, b = n := ⟨b.toNat, by omega⟩
    have := Tryz.bits_Mul64 m n (by omega) (by omega) W
    rw [Int.natCast_ediv, Int.natCast_emod, Int.natCast_mul] at this
    unfold hiW loW
    rw [show (m : Int) * n / 18446744073709551616 % 18446744073709551616 = (m : Int) * n / 18446744073709551616 by omega]
    exact this)
  have hx := Bx.new w [.int .u64 0, .int .u64 0] 177
  have hb := box_b w (.cells #[.int .u64 0, .int .u64 0] 177)
  obtain ⟨H, hH⟩ : ∃ y_, hiW (a * b) = y_ := ⟨_, rfl⟩
  obtain ⟨L, hL⟩ : ∃ y_, loW (a * b) = y_ := ⟨_, rfl⟩
  unfold wdV
  rw [hH, hL] at CM
  rw [hH, hL]
  have f0 := hx.free 0
  have f1 := hx.free 1
  clear hH hL hp0 hp1 hx
  have HB := Lib.hid hb
  clear hb
  go_enter Tryz.func132, Tryz.ntmps132
  go_wp2_with (go_at_call 125; refine (CM.out _).mono ?_; rintro e w' ⟨rfl, rfl⟩)
  refine bodyPost_ret (v := .agg #[.int .u64 H, .int .u64 L]) ?_ rfl ⟨rfl, box_b _ _⟩
  simp [results, Tryz.results132, go_sem]

theorem sub64_0 (x y : Int) (hx : 0 ≤ x) (hy : 0 ≤ y) (hy' : y < 18446744073709551616) (w : World) : (callFunc 140 #[.int .u64 x, .int .u64 y, .int .u64 0]).run Tryz.prog w =
    .ok (.value (.tuple #[.int .u64 ((x - y) % 18446744073709551616), .int .u64 (borW x y)])) w := by
  unfold borW
  simpa using sub64_any x y 0 hx hy hy' (Int.le_refl 0) (by decide) w

theorem sub64_c (x y z : Int) (hx : 0 ≤ x) (hy : 0 ≤ y) (hy' : y < 18446744073709551616) (hz : z = 0 ∨ z = 1) (w : World) : (callFunc 140 #[.int .u64 x, .int .u64 y, .int .u64 z]).run Tryz.prog w =
    .ok (.value (.tuple #[.int .u64 ((x - y - z) % 18446744073709551616), .int .u64 (borW x (y + z))])) w := by
  unfold borW
  exact sub64_any x y z hx hy hy' (by omega) (by omega) w

theorem minus_any (A B : Int) (w : World) :
    Calls Tryz.prog 133 #[wdV A, wdV B] w fun e w' => e = .returned (wdV (A - B)) ∧ Below w.heap.size w w' := by
  have el := minus_lo A B
  have eh := minus_hi A B
  have a0 : 0 ≤ loW A ∧ loW A < 18446744073709551616 := by unfold loW; omega
  have b0 : 0 ≤ loW B ∧ loW B < 18446744073709551616 := by unfold loW; omega
  have a1 : 0 ≤ hiW A ∧ hiW A < 18446744073709551616 := by unfold hiW; omega
  have b1 : 0 ≤ hiW B ∧ hiW B < 18446744073709551616 := by unfold hiW; omega
  have hz : borW (loW A) (loW B) = 0 ∨ borW (loW A) (loW B) = 1 := by unfold borW; split <;> simp
  unfold wdV
  obtain ⟨LA, h1⟩ : ∃ y_, loW A = y_ := ⟨_, rfl⟩
  obtain ⟨LB, h2⟩ : ∃ y_, loW B = y_ := ⟨_, rfl⟩
  obtain ⟨HA, h3⟩ : ∃ y_, hiW A = y_ := ⟨_, rfl⟩
  obtain ⟨HB, h4⟩ : ∃ y_, hiW B = y_ := ⟨_, rfl⟩
  rw [h1, h2] at el
  rw [h1, h2, h3, h4] at eh
  rw [h1] at a0
  rw [h2] at b0
  rw [h3] at a1
  rw [h4] at b1
  rw [h1, h2] at hz
  rw [h1, h2, h3, h4]
  clear h1 h2 h3 h4
  obtain ⟨z, h5⟩ : ∃ y_, borW LA LB = y_ := ⟨_, rfl⟩
  have s1 := sub64_0 LA LB a0.1 b0.1 b0.2
  rw [h5] at s1 hz eh
  have s2 := sub64_c HA HB z a1.1 b1.1 b1.2 hz
  rw [el] at s1
  rw [eh] at s2
  clear h5 el eh a0 b0 a1 b1 hz
  obtain ⟨HD, h6⟩ : ∃ y_, hiW (A - B) = y_ := ⟨_, rfl⟩
  obtain ⟨LD, h7⟩ : ∃ y_, loW (A - B) = y_ := ⟨_, rfl⟩
  rw [h6] at s2 ⊢
  rw [h7] at s1 ⊢
  clear h6 h7
  go_enter Tryz.func133, Tryz.ntmps133
  go_wp2_with (first | simp only [s1] | simp only [s2])
  refine bodyPost_ret (v := .agg #[.int .u64 HD, .int .u64 LD]) ?_ rfl ⟨rfl, (box_b _ _).trans (((box_b _ _).trans ((box_b _ _).mono (by simp))).mono (by simp))⟩
  simp [results, Tryz.results133, go_sem]

/-- a quotient that is not negative -/
theorem over_pos (N d : Int) (w : World) (n0 : 0 ≤ N) (n1 : N ≤ 1000000000000000000 * d) (d0 : 1 ≤ d) (d1 : d ≤ 1000000000000000) :
    Calls Tryz.prog 131 #[wdV N, .int .i64 d] w fun e w' => e = .returned (.tuple #[.int .i64 (N / d), .int .i64 (N % d)]) ∧ Below w.heap.size w w' := by
  have hh : hiW N = N / 18446744073709551616 := by unfold hiW; omega
  have h0 : 0 ≤ N / 18446744073709551616 := by omega
  have h1 : N / 18446744073709551616 < d := by omega
  have CD : Hid (∀ W, Calls Tryz.prog 126 #[.int .u64 (hiW N), .int .u64 (loW N), .int .u64 d] W fun e w' => e = .returned (.tuple #[.int .u64 (N / d), .int .u64 (N % d)]) ∧ Below W.heap.size W w') := Lib.hid (fun W => by
    have := div64_any (hiW N) (loW N) d W (by omega) (by omega) (by unfold loW; omega) (by unfold loW; omega) d0 (by omega)
    rw [show hiW N * 18446744073709551616 + loW N = N by unfold hiW loW; omega] at this
    exact this)
  have q0 : 0 ≤ N / d := Int.ediv_nonneg n0 (by omega)
  have q1 : N / d ≤ 1000000000000000000 := by
    have := Int.ediv_le_ediv (show 0 < d by omega) n1
    rwa [Int.mul_ediv_cancel _ (by omega)] at this
  have m0 := Int.emod_nonneg N (show d ≠ 0 by omega)
  have m1 := Int.emod_lt_of_pos N (show 0 < d by omega)
  unfold wdV
  obtain ⟨Q, hQ⟩ : ∃ y_, N / d = y_ := ⟨_, rfl⟩
  obtain ⟨R, hR⟩ : ∃ y_, N % d = y_ := ⟨_, rfl⟩
  obtain ⟨H, hH⟩ : ∃ y_, hiW N = y_ := ⟨_, rfl⟩
  obtain ⟨L, hL⟩ : ∃ y_, loW N = y_ := ⟨_, rfl⟩
  rw [hQ, hR, hH, hL] at CD
  rw [hQ, hR, hH, hL]
  rw [hQ] at q0 q1
  rw [hR] at m0 m1
  rw [hH] at hh
  have hH1 : 0 ≤ H ∧ H < 1000000000000000 := by omega
  have w1 : IntKind.i64.wrap H = H := IntWalk.i64_in _ (by omega)
  have hn : ¬ H < 0 := by omega
  clear hQ hR hH hL hh h0 h1 n0 n1
  have hc := Bx.new w [.int .u64 H, .int .u64 L] 177
  obtain ⟨c0, c1⟩ : (w.alloc (.cells #[.int .u64 H, .int .u64 L] 177)).cell? ⟨w.heap.size, 0, none⟩ = some (.int .u64 H) ∧ (w.alloc (.cells #[.int .u64 H, .int .u64 L] 177)).cell? ⟨w.heap.size, 1, none⟩ = some (.int .u64 L) := by
    constructor <;> go_simp
  have HB := Lib.hid (box_b w (.cells #[.int .u64 H, .int .u64 L] 177))
  clear hc
  go_enter Tryz.func131, Tryz.ntmps131
  go_wp2_with (go_at_call 126; refine (CD.out _).mono ?_; rintro e w2 ⟨rfl, hb⟩; have HB2 := Lib.hid (HB.out.trans (hb.mono HB.out.size)); clear hb)
  go_ret2
  exact ⟨rfl, HB2.out⟩

theorem nat_not (H : Nat) (h : H < 18446744073709551616) : 18446744073709551615 ^^^ H = 18446744073709551615 - H := by
  have h1 : ((BitVec.allOnes 64) ^^^ (BitVec.ofNat 64 H)).toNat = 18446744073709551615 ^^^ H := by
    rw [BitVec.toNat_xor, BitVec.toNat_allOnes, BitVec.toNat_ofNat, Nat.mod_eq_of_lt (by omega)]
  rw [← h1, BitVec.allOnes_xor, BitVec.toNat_not, BitVec.toNat_ofNat, Nat.mod_eq_of_lt (by omega)]

theorem u64_not (H : Int) (h0 : 0 ≤ H) (h1 : H < 18446744073709551616) : bits .xor .u64 IntKind.u64.max H = 18446744073709551615 - H := by
  obtain ⟨n, rfl⟩ := Int.eq_ofNat_of_zero_le h0
  have e : IntKind.u64.max = ((18446744073709551615 : Nat) : Int) := rfl
  rw [e, bits_xor_u64_nat 18446744073709551615 n (by omega) (by omega), nat_not n (by omega)]
  omega

set_option maxHeartbeats 1000000 in
theorem over_any (N d : Int) (w : World) (n0 : -(1000000000000000000 * d) ≤ N) (n1 : N ≤ 1000000000000000000 * d) (d0 : 1 ≤ d) (d1 : d ≤ 1000000000000000) :
    Calls Tryz.prog 131 #[wdV N, .int .i64 d] w fun e w' => e = .returned (.tuple #[.int .i64 (N / d), .int .i64 (N % d)]) ∧ Below w.heap.size w w' := by
  by_cases hN : 0 ≤ N
  · exact over_pos N d w hN n1 d0 d1
  · have CO : Hid (∀ W, Calls Tryz.prog 131 #[wdV (-1 - N), .int .i64 d] W fun e w' => e = .returned (.tuple #[.int .i64 ((-1 - N) / d), .int .i64 ((-1 - N) % d)]) ∧ Below W.heap.size W w') := Lib.hid (fun W => over_pos (-1 - N) d W (by omega) (by omega) d0 d1)
    have q0 : 0 ≤ (-1 - N) / d := Int.ediv_nonneg (by omega) (by omega)
    have q1 : (-1 - N) / d ≤ 1000000000000000000 := by
      have := Int.ediv_le_ediv (show 0 < d by omega) (show -1 - N ≤ 1000000000000000000 * d by omega)
      rwa [Int.mul_ediv_cancel _ (by omega)] at this
    have m0 := Int.emod_nonneg (-1 - N) (show d ≠ 0 by omega)
    have m1 := Int.emod_lt_of_pos (-1 - N) (show 0 < d by omega)
    have hdm := Int.mul_ediv_add_emod (-1 - N) d
    have hu := md_uniq N d (-1 - (-1 - N) / d) (d - 1 - (-1 - N) % d) (by rw [Int.sub_mul, Int.mul_comm ((-1 - N) / d) d]; omega) (by omega) (by omega)
    rw [hu.1, hu.2]
    have hh : IntKind.i64.wrap (hiW N) = hiW N - 18446744073709551616 := by rw [IntKind.wrap_i64]; unfold hiW; omega
    have hneg : hiW N - 18446744073709551616 < 0 := by unfold hiW; omega
    have x1 : 18446744073709551615 - hiW N = hiW (-1 - N) := by unfold hiW; omega
    have x2 : 18446744073709551615 - loW N = loW (-1 - N) := by unfold loW; omega
    have y0 : 0 ≤ hiW N ∧ hiW N < 18446744073709551616 := by unfold hiW; omega
    have y1 : 0 ≤ loW N ∧ loW N < 18446744073709551616 := by unfold loW; omega
    unfold wdV at CO ⊢
    obtain ⟨Q, hQ⟩ : ∃ y_, (-1 - N) / d = y_ := ⟨_, rfl⟩
    obtain ⟨R, hR⟩ : ∃ y_, (-1 - N) % d = y_ := ⟨_, rfl⟩
    obtain ⟨H, hH⟩ : ∃ y_, hiW N = y_ := ⟨_, rfl⟩
    obtain ⟨L, hL⟩ : ∃ y_, loW N = y_ := ⟨_, rfl⟩
    obtain ⟨H2, hH2⟩ : ∃ y_, hiW (-1 - N) = y_ := ⟨_, rfl⟩
    obtain ⟨L2, hL2⟩ : ∃ y_, loW (-1 - N) = y_ := ⟨_, rfl⟩
    rw [hQ, hR, hH2, hL2] at CO
    rw [hQ, hR, hH, hL]
    rw [hQ] at q0 q1
    rw [hR] at m0 m1
    rw [hH] at hh hneg x1 y0
    rw [hL] at x2 y1
    rw [hH2] at x1
    rw [hL2] at x2
    clear hQ hR hH hL hH2 hL2 hu hdm n0 n1 hN
    obtain ⟨c0, c1⟩ : (w.alloc (.cells #[.int .u64 H, .int .u64 L] 177)).cell? ⟨w.heap.size, 0, none⟩ = some (.int .u64 H) ∧ (w.alloc (.cells #[.int .u64 H, .int .u64 L] 177)).cell? ⟨w.heap.size, 1, none⟩ = some (.int .u64 L) := by
      constructor <;> go_simp
    have HB := Lib.hid (box_b w (.cells #[.int .u64 H, .int .u64 L] 177))
    have e1 : IntKind.i64.wrap (-1 - Q) = -1 - Q := IntWalk.i64_in _ (by omega)
    have e2 : IntKind.i64.wrap (d - 1) = d - 1 := IntWalk.i64_in _ (by omega)
    have e3 : IntKind.i64.wrap (d - 1 - R) = d - 1 - R := IntWalk.i64_in _ (by omega)
    have z1 := u64_not H y0.1 y0.2
    have z2 := u64_not L y1.1 y1.2
    rw [x1] at z1
    rw [x2] at z2
    clear x1 x2 y0 y1
    go_enter Tryz.func131, Tryz.ntmps131
    go_wp2_with fail
    refine (CO.out _).mono ?_
    rintro e w2 ⟨rfl, hb⟩
    have HB2 := Lib.hid (HB.out.trans (hb.mono HB.out.size))
    clear hb
    go_wp2_with fail
    go_ret2
    exact ⟨rfl, HB2.out⟩

end Go.Proofs.YtdlfofdibooidaaGreat

/- Reserves: the program's yearOf, the numerators of the three sides, what is told. (Written by wip/gen/rve.py.) -/
namespace Go.Proofs.YtdlfofdibooidaaGreat
open Go.ChangeShapes Go.WideShapes Go.ChangeAt Go.RowKit
open Go.ChangeMaps (setBlock heap_setBlock_same heap_setBlock_other)
set_option linter.unusedVariables false
set_option maxRecDepth 100000

/-- the boxes of yearOf -/
structure YW (w : World) (f : Int) (v : Value) (r k x n s u : Int) (W : World) : Prop where
  bp : BP w f v r k x n s u W
  box : Bx W (w.heap.size + 2) [.pointer none, .nilIface, .int .i64 0, .int .i64 0, .int .i64 0, .int .i64 0, .int .i64 0, .int .i64 0, .int .i64 0, .int .i64 0]

theorem YW.on {w : World} {f : Int} {v : Value} {r k x n s u : Int} {W W' : World} (h : YW w f v r k x n s u W) (hb : Below W.heap.size W W') : YW w f v r k x n s u W' := ⟨h.bp.on hb, h.box.on hb⟩

theorem YW.new (w : World) (f : Int) (v : Value) (r k x n s u : Int) (T U : TypeId) : YW w f v r k x n s u (((w.alloc (.cells #[.int .i64 f, v, .int .i64 r] T)).alloc (.cells #[.int .i64 k, .int .i64 x, .int .i64 n, .int .i64 s, .int .i64 u] U)).alloc (.cells #[.pointer none, .nilIface, .int .i64 0, .int .i64 0, .int .i64 0, .int .i64 0, .int .i64 0, .int .i64 0, .int .i64 0, .int .i64 0] 89)) := by
  have h := Bx.new ((w.alloc (.cells #[.int .i64 f, v, .int .i64 r] T)).alloc (.cells #[.int .i64 k, .int .i64 x, .int .i64 n, .int .i64 s, .int .i64 u] U)) [.pointer none, .nilIface, .int .i64 0, .int .i64 0, .int .i64 0, .int .i64 0, .int .i64 0, .int .i64 0, .int .i64 0, .int .i64 0] 89
  rw [World.size_alloc, World.size_alloc] at h
  exact ⟨(BP.new w f v r k x n s u T U).on (box_b _ _), h⟩

/-- a course stays while the box of a year is written -/
theorem Crs.far {C R : Nat} {r f : Int} {xs : List Int} {k x n s u : Int} {v : Value} {W W' : World} {B : Nat} {vs : List Value} (h : Crs C R r f xs v k x n s u W) (hb : Bx W B (.pointer none :: vs)) (hW : ∀ j, j ≠ B → W'.heap[j]? = W.heap[j]?) : Crs C R r f xs v k x n s u W' := by
  have hB : W.cell? ⟨B, 0, none⟩ = some (.pointer none) := by
    obtain ⟨T, hb⟩ := hb
    simp [World.cell?, hb]
  have hC : W.cell? ⟨C, 0, none⟩ = some (.pointer (some ⟨R, 0, none⟩)) := by
    have h1 := h.b
    unfold crV at h1
    exact h1.c17.1
  have hR := h.cols.head.1
  refine ⟨h.b.same (hW C ?_), h.cols.same (hW R ?_)⟩
  · rintro rfl; rw [hB] at hC; cases hC
  · rintro rfl; rw [hB] at hR; cases hR

theorem sets10_far (W : World) (N : Nat) (y0 y1 y2 y3 y4 y5 y6 y7 y8 y9 : Value) (j : Nat) (h : j ≠ N) : ((((((((((W.setCell ⟨N, 0, none⟩ (y0)).setCell ⟨N, 1, none⟩ (y1)).setCell ⟨N, 2, none⟩ (y2)).setCell ⟨N, 3, none⟩ (y3)).setCell ⟨N, 4, none⟩ (y4)).setCell ⟨N, 5, none⟩ (y5)).setCell ⟨N, 6, none⟩ (y6)).setCell ⟨N, 7, none⟩ (y7)).setCell ⟨N, 8, none⟩ (y8)).setCell ⟨N, 9, none⟩ (y9)).heap[j]? = W.heap[j]? := by
  have e : ∀ (X : World) (i : Nat) (z : Value), (X.setCell ⟨N, i, none⟩ z).heap[j]? = X.heap[j]? := fun X i z => Below.heap_setCell _ _ _ _ h
  rw [e, e, e, e, e, e, e, e, e, e]

/-- a year that is found, of a course that lies somewhere -/
def YoYes (r f : Int) (xs : List Int) (v : Value) (k x n s u j : Int) (w : World) (e : Ending) (w' : World) : Prop :=
  ∃ C R, e = .returned (.tuple #[yrV C r f xs k x n j, .int .i64 0]) ∧ Crs C R r f xs v k x n s u w' ∧ Below w.heap.size w w'

/-- while a numerator is found: the course, the box of the year, the box of the result -/
structure FW (w : World) (C R : Nat) (r f : Int) (xs : List Int) (v : Value) (k x n s u : Int) (ys : List Value) (W : World) : Prop where
  crs : Crs C R r f xs v k x n s u W
  y : Bx W w.heap.size ys
  r : ∃ p q, Bx W (w.heap.size + 1) [.int .u64 p, .int .u64 q]
  low : Below w.heap.size w W
  sz : w.heap.size + 2 ≤ W.heap.size
  cl : C < w.heap.size
  rl : R < w.heap.size

theorem FW.on {w : World} {C R : Nat} {r f : Int} {xs : List Int} {v : Value} {k x n s u : Int} {ys : List Value} {W W' : World} (h : FW w C R r f xs v k x n s u ys W) (hb : Below W.heap.size W W') : FW w C R r f xs v k x n s u ys W' := by
  obtain ⟨p, q, hr⟩ := h.r
  exact ⟨h.crs.on hb, h.y.on hb, ⟨p, q, hr.on hb⟩, h.low.trans (hb.mono h.low.size), Nat.le_trans h.sz hb.size, h.cl, h.rl⟩

theorem FW.drew {w : World} {C R : Nat} {r f : Int} {xs : List Int} {v : Value} {k x n s u : Int} {ys : List Value} {W : World} (h : FW w C R r f xs v k x n s u ys W) : FW w C R r f xs v k x n s u ys W.drew := h.on (Below.drew (Below.refl _ _))

theorem FW.new {w : World} {C R : Nat} {r f : Int} {xs : List Int} {v : Value} {k x n s u : Int} (ys : List Value) (h : Crs C R r f xs v k x n s u w) : FW w C R r f xs v k x n s u ys ((w.alloc (.cells ys.toArray 89)).alloc (.cells #[.int .u64 0, .int .u64 0] 177)) := by
  have hb1 := box_b w (.cells ys.toArray 89)
  have hb2 := box_b (w.alloc (.cells ys.toArray 89)) (.cells #[.int .u64 0, .int .u64 0] 177)
  have h2 := Bx.new (w.alloc (.cells ys.toArray 89)) [.int .u64 0, .int .u64 0] 177
  rw [World.size_alloc] at h2
  exact ⟨(h.on hb1).on hb2, (Bx.new w ys 89).on hb2, ⟨0, 0, h2⟩, hb1.trans (hb2.mono (by simp)), by simp, h.b.lt, h.cols.lt⟩

theorem FW.put {w : World} {C R : Nat} {r f : Int} {xs : List Int} {v : Value} {k x n s u : Int} {ys : List Value} {W : World} (h : FW w C R r f xs v k x n s u ys W) (p q : Int) : FW w C R r f xs v k x n s u ys ((W.setCell ⟨w.heap.size + 1, 0, none⟩ (.int .u64 p)).setCell ⟨w.heap.size + 1, 1, none⟩ (.int .u64 q)) := by
  have far : ∀ j, j ≠ w.heap.size + 1 → ((W.setCell ⟨w.heap.size + 1, 0, none⟩ (.int .u64 p)).setCell ⟨w.heap.size + 1, 1, none⟩ (.int .u64 q)).heap[j]? = W.heap[j]? := fun j hj => (Below.heap_setCell _ _ _ _ hj).trans (Below.heap_setCell _ _ _ _ hj)
  have hc := h.cl
  have hr := h.rl
  obtain ⟨p0, q0, T, hB⟩ := h.r
  refine ⟨⟨h.crs.b.same (far C (by omega)), h.crs.cols.same (far R (by omega))⟩, h.y.same (far _ (by omega)), ⟨p, q, T, ?_⟩, (h.low.setCell (p := ⟨w.heap.size + 1, 0, none⟩) (by show w.heap.size ≤ w.heap.size + 1; omega) _).setCell (p := ⟨w.heap.size + 1, 1, none⟩) (by show w.heap.size ≤ w.heap.size + 1; omega) _, by have := h.sz; simpa [World.setCell] using this, hc, hr⟩
  simp [World.setCell, Array.getElem?_modify, hB]

theorem Crs.prem {C R : Nat} {r f : Int} {xs : List Int} {k x n s u : Int} {v : Value} {W : World} (h : Crs C R r f xs v k x n s u W) : W.cell? ⟨C, 4, none⟩ = some (.int .i64 s) ∧ W.cell? ⟨C, 6, none⟩ = some (.int .i64 (netN r f xs k x n s)) := by
  have hb := h.b
  unfold crV at hb
  obtain ⟨-, -, -, -, c4, -, c6, -⟩ := hb.c17
  exact ⟨c4, c6⟩

end Go.Proofs.YtdlfofdibooidaaGreat
