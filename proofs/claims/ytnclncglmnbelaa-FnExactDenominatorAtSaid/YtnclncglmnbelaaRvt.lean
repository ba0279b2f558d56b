/- Reserves: the model's three reserves and the denominator. (Written by wip/gen/rvt.py.) -/
import Derived.Test.YtnclncglmnbelaaRvs
namespace Go.Proofs.Ytnclncglmnbelaa
open Go.ChangeShapes Go.WideShapes Go.ChangeAt Go.RowKit
set_option linter.unusedVariables false
set_option maxRecDepth 100000

/-- the first year is the whole assurance -/
theorem ry_zero {r f : Int} {xs : List Int} {k x n s u : Int} (hp : poB r f xs k x n s u = true) : ryT r f xs k x n 0 = asT r f xs k x n ∧ ryB r f xs k x n 0 = asB r f xs k x n := by
  have hz := (poB_iff.1 hp).1
  unfold asE at hz
  have hkn := (as_in hz).2.1.2
  have e : lfN k n 0 = n := by
    unfold lfN
    by_cases h : k = 0
    · rw [if_pos h, hkn.1 h]
    · rw [if_neg h, Int.sub_zero]
  unfold ryT ryB
  rw [e, Int.add_zero]
  exact ⟨rfl, rfl⟩

set_option maxHeartbeats 4000000 in
theorem sde_any (r f : Int) (xs : List Int) (a : Option Addr) (l c : Nat) (k x n s u j : Int) (w : World) (h : Ints w a l xs) :
    Calls Try.prog 5 #[.agg #[.int .i64 f, .slice a l c, .int .i64 r], .agg #[.int .i64 k, .int .i64 x, .int .i64 n, .int .i64 s, .int .i64 u], .int .i64 j] w (IIPost (deV r f xs k x n s u j) (rvE r f xs k x n s u j) w) := by
  have H := Lib.hid h
  clear h
  have HP := Lib.hid (BP.new w f (.slice a l c) r k x n s u 34 36)
  unfold IIPost
  have CE : Hid (∀ W, Hid (BP w f (.slice a l c) r k x n s u W) → Calls Try.prog 11 #[.agg #[.int .i64 f, .slice a l c, .int .i64 r], .agg #[.int .i64 k, .int .i64 x, .int .i64 n, .int .i64 s, .int .i64 u], .int .i64 j] W fun e w' => e = .returned (.int .i64 (rvE r f xs k x n s u j)) ∧ Below W.heap.size W w') :=
    Lib.hid (fun W hW => rcode_any r f xs a l c k x n s u j W (H.out.on hW.out.low))
  by_cases he : rvE r f xs k x n s u j = 0
  · have HV : Hid (deV r f xs k x n s u j = dvN r f xs x j) := Lib.hid (by unfold deV; rw [if_pos he])
    rw [HV.out, he]
    rw [he] at CE
    obtain ⟨hp, hj, hd⟩ := rvE_iff.1 he
    obtain ⟨ht, ⟨r0, r1⟩, ⟨hk, hkl⟩, ⟨l0, l1⟩, ⟨y0, y1, y2⟩, ⟨x0, x1⟩, ⟨n0, n1⟩, f0, f1⟩ := rv_in hp hj
    have CD : Hid (∀ W, Hid (BP w f (.slice a l c) r k x n s u W) → Calls Try.prog 12 #[.agg #[.int .i64 f, .slice a l c], .int .i64 r, .int .i64 (x + j)] W fun e w' => e = .returned (.int .i64 (dvN r f xs x j)) ∧ Below W.heap.size W w') :=
        Lib.hid (fun W hW => sD_any r f xs a l c (x + j) W (H.out.on hW.out.low) ht r0 r1 y0 (by omega))
    have q1 : IntKind.i64.wrap (x + j) = x + j := IntWalk.i64_in _ (by omega)
    obtain ⟨D, hD⟩ : ∃ y_, dvN r f xs x j = y_ := ⟨_, rfl⟩
    rw [hD] at CD ⊢
    clear ht r0 r1 hk hkl l0 l1 y0 y1 y2 x0 x1 n0 n1 f0 f1 hD HV he hp hj hd
    go_enter Try.func5, Try.ntmps5
    go_wp2_with fail
    obtain ⟨W1, hW1⟩ : ∃ W1, ((w.alloc (.cells #[.int .i64 f, .slice a l c, .int .i64 r] 34)).alloc (.cells #[.int .i64 k, .int .i64 x, .int .i64 n, .int .i64 s, .int .i64 u] 36)) = W1 := ⟨_, rfl⟩
    rw [hW1] at HP ⊢
    clear hW1
    with_reducible refine (CE.out _ HP).mono ?_
    rintro e w1 ⟨rfl, hb⟩
    have HP := Lib.hid (HP.out.on hb)
    clear hb
    obtain ⟨b0, b1, b2, p0, p1, p2, p3, p4, -⟩ := bpS HP.out
    go_wp2_with fail
    with_reducible refine (CD.out _ HP).mono ?_
    rintro e w1 ⟨rfl, hb⟩
    have HP := Lib.hid (HP.out.on hb)
    clear b0 b1 b2 p0 p1 p2 p3 p4 hb
    obtain ⟨b0, b1, b2, p0, p1, p2, p3, p4, -⟩ := bpS HP.out
    go_wp2_with fail
    go_ret2
    exact ⟨rfl, HP.out.low⟩
  · have HV : Hid (deV r f xs k x n s u j = 0) := Lib.hid (by unfold deV; rw [if_neg he])
    rw [HV.out]
    obtain ⟨E, hE⟩ : ∃ y_, rvE r f xs k x n s u j = y_ := ⟨_, rfl⟩
    rw [hE] at CE he ⊢
    have hb2 : (E != 0) = true := by simp [he]
    clear hE HV he
    go_enter Try.func5, Try.ntmps5
    go_wp2_with fail
    obtain ⟨W1, hW1⟩ : ∃ W1, ((w.alloc (.cells #[.int .i64 f, .slice a l c, .int .i64 r] 34)).alloc (.cells #[.int .i64 k, .int .i64 x, .int .i64 n, .int .i64 s, .int .i64 u] 36)) = W1 := ⟨_, rfl⟩
    rw [hW1] at HP ⊢
    clear hW1
    with_reducible refine (CE.out _ HP).mono ?_
    rintro e w1 ⟨rfl, hb⟩
    have HP := Lib.hid (HP.out.on hb)
    clear hb
    obtain ⟨b0, b1, b2, p0, p1, p2, p3, p4, -⟩ := bpS HP.out
    go_wp2_with fail
    go_ret2
    exact ⟨rfl, HP.out.low⟩

end Go.Proofs.Ytnclncglmnbelaa
