/- Reserves: the model's side. (Written by wip/gen/rvs.py.) -/
import Derived.Test.YtnclncglmnbelaaRvn
namespace Go.Proofs.Ytnclncglmnbelaa
open Go.ChangeShapes Go.WideShapes Go.ChangeAt Go.RowKit
set_option linter.unusedVariables false
set_option maxRecDepth 100000

set_option maxHeartbeats 4000000 in
theorem rcode_any (r f : Int) (xs : List Int) (a : Option Addr) (l c : Nat) (k x n s u j : Int) (w : World) (h : Ints w a l xs) :
    Calls Try.prog 11 #[.agg #[.int .i64 f, .slice a l c, .int .i64 r], .agg #[.int .i64 k, .int .i64 x, .int .i64 n, .int .i64 s, .int .i64 u], .int .i64 j] w fun e w' => e = .returned (.int .i64 (rvE r f xs k x n s u j)) ∧ Below w.heap.size w w' := by
  have H := Lib.hid h
  clear h
  have HP := Lib.hid (BP.new w f (.slice a l c) r k x n s u 34 36)
  have CP : Hid (∀ W, Hid (BP w f (.slice a l c) r k x n s u W) → Calls Try.prog 17 #[.agg #[.int .i64 f, .slice a l c, .int .i64 r], .agg #[.int .i64 k, .int .i64 x, .int .i64 n, .int .i64 s, .int .i64 u]] W fun e w' => e = .returned (.bool (poB r f xs k x n s u)) ∧ Below W.heap.size W w') :=
    Lib.hid (fun W hW => spol_any r f xs a l c k x n s u W (H.out.on hW.out.low))
  by_cases hp : poB r f xs k x n s u = true
  · have CL : Hid (∀ W, Hid (BP w f (.slice a l c) r k x n s u W) → Calls Try.prog 19 #[.agg #[.int .i64 f, .slice a l c, .int .i64 r], .agg #[.int .i64 k, .int .i64 x, .int .i64 n, .int .i64 s, .int .i64 u]] W fun e w' => e = .returned (.int .i64 (durN f xs k x n)) ∧ Below W.heap.size W w') :=
      Lib.hid (fun W hW => sdur_any r f xs a l c k x n s u W (H.out.on hW.out.low) hp)
    have hd := dur_pos hp
    have q1 : IntKind.i64.wrap (durN f xs k x n - 1) = durN f xs k x n - 1 := IntWalk.i64_in _ (by omega)
    by_cases hi : inB j 0 (durN f xs k x n - 1) = true
    · have hj := (inB_iff _ _ _).1 hi
      obtain ⟨ht, ⟨r0, r1⟩, ⟨hk, hkl⟩, ⟨l0, l1⟩, ⟨y0, y1, y2⟩, ⟨x0, x1⟩, ⟨n0, n1⟩, f0, f1⟩ := rv_in hp hj
      have CD : Hid (∀ W, Hid (BP w f (.slice a l c) r k x n s u W) → Calls Try.prog 12 #[.agg #[.int .i64 f, .slice a l c], .int .i64 r, .int .i64 (x + j)] W fun e w' => e = .returned (.int .i64 (dvN r f xs x j)) ∧ Below W.heap.size W w') :=
        Lib.hid (fun W hW => sD_any r f xs a l c (x + j) W (H.out.on hW.out.low) ht r0 r1 y0 (by omega))
      have q2 : IntKind.i64.wrap (x + j) = x + j := IntWalk.i64_in _ (by omega)
      by_cases hz : dvN r f xs x j = 0
      · rw [rvE_zero hp hi hz]
        rw [hp] at CP
        rw [hz] at CD
        obtain ⟨E, hE⟩ : ∃ y_, durN f xs k x n = y_ := ⟨_, rfl⟩
        rw [hE] at CL q1 hi
        clear hp hz hj hd ht hE
        go_enter Try.func11, Try.ntmps11
        go_wp2_with fail
        obtain ⟨W1, hW1⟩ : ∃ W1, ((w.alloc (.cells #[.int .i64 f, .slice a l c, .int .i64 r] 34)).alloc (.cells #[.int .i64 k, .int .i64 x, .int .i64 n, .int .i64 s, .int .i64 u] 36)) = W1 := ⟨_, rfl⟩
        rw [hW1] at HP ⊢
        clear hW1
        with_reducible refine (CP.out _ HP).mono ?_
        rintro e w1 ⟨rfl, hb⟩
        have HP := Lib.hid (HP.out.on hb)
        clear hb
        obtain ⟨b0, b1, b2, p0, p1, p2, p3, p4, -⟩ := bpS HP.out
        go_wp2_with fail
        with_reducible refine (CL.out _ HP).mono ?_
        rintro e w1 ⟨rfl, hb⟩
        have HP := Lib.hid (HP.out.on hb)
        clear b0 b1 b2 p0 p1 p2 p3 p4 hb
        obtain ⟨b0, b1, b2, p0, p1, p2, p3, p4, -⟩ := bpS HP.out
        go_wp2_with (go_at_call 18; refine (in_any _ _ _ _).mono ?_; rintro e w' ⟨rfl, rfl⟩)
        with_reducible refine (CD.out _ HP).mono ?_
        rintro e w1 ⟨rfl, hb⟩
        have HP := Lib.hid (HP.out.on hb)
        clear b0 b1 b2 p0 p1 p2 p3 p4 hb
        obtain ⟨b0, b1, b2, p0, p1, p2, p3, p4, -⟩ := bpS HP.out
        go_wp2_with fail
        go_ret
        exact ⟨rfl, HP.out.low⟩
      · have HZ : Hid (rvE r f xs k x n s u j = 0) := Lib.hid (rvE_iff.2 ⟨hp, hj, hz⟩)
        rw [HZ.out]
        rw [hp] at CP
        obtain ⟨E, hE⟩ : ∃ y_, durN f xs k x n = y_ := ⟨_, rfl⟩
        rw [hE] at CL q1 hi
        obtain ⟨Z, hZ⟩ : ∃ y_, dvN r f xs x j = y_ := ⟨_, rfl⟩
        rw [hZ] at CD hz
        have hz2 : (Z == 0) = false := by simp [hz]
        clear hp hj hd ht hE hZ HZ
        go_enter Try.func11, Try.ntmps11
        go_wp2_with fail
        obtain ⟨W1, hW1⟩ : ∃ W1, ((w.alloc (.cells #[.int .i64 f, .slice a l c, .int .i64 r] 34)).alloc (.cells #[.int .i64 k, .int .i64 x, .int .i64 n, .int .i64 s, .int .i64 u] 36)) = W1 := ⟨_, rfl⟩
        rw [hW1] at HP ⊢
        clear hW1
        with_reducible refine (CP.out _ HP).mono ?_
        rintro e w1 ⟨rfl, hb⟩
        have HP := Lib.hid (HP.out.on hb)
        clear hb
        obtain ⟨b0, b1, b2, p0, p1, p2, p3, p4, -⟩ := bpS HP.out
        go_wp2_with fail
        with_reducible refine (CL.out _ HP).mono ?_
        rintro e w1 ⟨rfl, hb⟩
        have HP := Lib.hid (HP.out.on hb)
        clear b0 b1 b2 p0 p1 p2 p3 p4 hb
        obtain ⟨b0, b1, b2, p0, p1, p2, p3, p4, -⟩ := bpS HP.out
        go_wp2_with (go_at_call 18; refine (in_any _ _ _ _).mono ?_; rintro e w' ⟨rfl, rfl⟩)
        with_reducible refine (CD.out _ HP).mono ?_
        rintro e w1 ⟨rfl, hb⟩
        have HP := Lib.hid (HP.out.on hb)
        clear b0 b1 b2 p0 p1 p2 p3 p4 hb
        obtain ⟨b0, b1, b2, p0, p1, p2, p3, p4, -⟩ := bpS HP.out
        go_wp2_with fail
        go_ret
        exact ⟨rfl, HP.out.low⟩
    · have hi : inB j 0 (durN f xs k x n - 1) = false := by simpa using hi
      rw [rvE_out hp hi]
      rw [hp] at CP
      obtain ⟨E, hE⟩ : ∃ y_, durN f xs k x n = y_ := ⟨_, rfl⟩
      rw [hE] at CL q1 hi
      clear hp hd hE
      go_enter Try.func11, Try.ntmps11
      go_wp2_with fail
      obtain ⟨W1, hW1⟩ : ∃ W1, ((w.alloc (.cells #[.int .i64 f, .slice a l c, .int .i64 r] 34)).alloc (.cells #[.int .i64 k, .int .i64 x, .int .i64 n, .int .i64 s, .int .i64 u] 36)) = W1 := ⟨_, rfl⟩
      rw [hW1] at HP ⊢
      clear hW1
      with_reducible refine (CP.out _ HP).mono ?_
      rintro e w1 ⟨rfl, hb⟩
      have HP := Lib.hid (HP.out.on hb)
      clear hb
      obtain ⟨b0, b1, b2, p0, p1, p2, p3, p4, -⟩ := bpS HP.out
      go_wp2_with fail
      with_reducible refine (CL.out _ HP).mono ?_
      rintro e w1 ⟨rfl, hb⟩
      have HP := Lib.hid (HP.out.on hb)
      clear b0 b1 b2 p0 p1 p2 p3 p4 hb
      obtain ⟨b0, b1, b2, p0, p1, p2, p3, p4, -⟩ := bpS HP.out
      go_wp2_with (go_at_call 18; refine (in_any _ _ _ _).mono ?_; rintro e w' ⟨rfl, rfl⟩)
      go_ret
      exact ⟨rfl, HP.out.low⟩
  · have hp : poB r f xs k x n s u = false := by simpa using hp
    rw [rvE_no hp]
    rw [hp] at CP
    clear hp
    go_enter Try.func11, Try.ntmps11
    go_wp2_with fail
    obtain ⟨W1, hW1⟩ : ∃ W1, ((w.alloc (.cells #[.int .i64 f, .slice a l c, .int .i64 r] 34)).alloc (.cells #[.int .i64 k, .int .i64 x, .int .i64 n, .int .i64 s, .int .i64 u] 36)) = W1 := ⟨_, rfl⟩
    rw [hW1] at HP ⊢
    clear hW1
    with_reducible refine (CP.out _ HP).mono ?_
    rintro e w1 ⟨rfl, hb⟩
    have HP := Lib.hid (HP.out.on hb)
    clear hb
    obtain ⟨b0, b1, b2, p0, p1, p2, p3, p4, -⟩ := bpS HP.out
    go_wp2_with fail
    go_ret
    exact ⟨rfl, HP.out.low⟩

end Go.Proofs.Ytnclncglmnbelaa
