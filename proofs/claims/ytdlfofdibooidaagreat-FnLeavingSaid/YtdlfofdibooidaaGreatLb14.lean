/- Merged: Lvs. -/
import Derived.Test.YtdlfofdibooidaaGreatLb13

/- Leaving: the model's code, value, loan and loss. (Written by wip/gen/lvs.py.) -/
namespace Go.Proofs.YtdlfofdibooidaaGreat
open Go.ChangeShapes Go.WideShapes Go.ChangeAt Go.RowKit
set_option linter.unusedVariables false
set_option maxRecDepth 100000

set_option maxHeartbeats 4000000 in
theorem slc_any (r f : Int) (xs : List Int) (a : Option Addr) (l c : Nat) (k x n s u j : Int) (w : World) (h : Ints w a l xs) :
    Calls Tryz.prog 36 #[.agg #[.int .i64 f, .slice a l c, .int .i64 r], .agg #[.int .i64 k, .int .i64 x, .int .i64 n, .int .i64 s, .int .i64 u], .int .i64 j] w fun e w' => e = .returned (.int .i64 (lvE r f xs k x n s u j)) ∧ Below w.heap.size w w' := by
  have H := Lib.hid h
  clear h
  have HP := Lib.hid (BP.new w f (.slice a l c) r k x n s u 28 30)
  have CE : Hid (∀ W, Hid (BP w f (.slice a l c) r k x n s u W) → Calls Tryz.prog 61 #[.agg #[.int .i64 f, .slice a l c, .int .i64 r], .agg #[.int .i64 k, .int .i64 x, .int .i64 n, .int .i64 s, .int .i64 u], .int .i64 j] W fun e w' => e = .returned (.int .i64 (rvE r f xs k x n s u j)) ∧ Below W.heap.size W w') :=
    Lib.hid (fun W hW => rcode_any r f xs a l c k x n s u j W (H.out.on hW.out.low))
  by_cases he : rvE r f xs k x n s u j = 0
  · by_cases hj : j < 2
    · rw [lvE_low he hj]
      rw [he] at CE
      clear he
      go_enter Tryz.func36, Tryz.ntmps36
      go_wp2_with fail
      obtain ⟨W1, hW1⟩ : ∃ W1, ((w.alloc (.cells #[.int .i64 f, .slice a l c, .int .i64 r] 28)).alloc (.cells #[.int .i64 k, .int .i64 x, .int .i64 n, .int .i64 s, .int .i64 u] 30)) = W1 := ⟨_, rfl⟩
      rw [hW1] at HP ⊢
      clear hW1
      with_reducible refine (CE.out _ HP).mono ?_
      rintro e w1 ⟨rfl, hb⟩
      have HP := Lib.hid (HP.out.on hb)
      clear hb
      obtain ⟨b0, b1, b2, p0, p1, p2, p3, p4, -⟩ := bpS HP.out
      go_wp2_with fail
      go_ret
      exact ⟨rfl, HP.out.low⟩
    · rw [lvE_iff.2 ⟨he, by omega⟩]
      rw [he] at CE
      clear he
      go_enter Tryz.func36, Tryz.ntmps36
      go_wp2_with fail
      obtain ⟨W1, hW1⟩ : ∃ W1, ((w.alloc (.cells #[.int .i64 f, .slice a l c, .int .i64 r] 28)).alloc (.cells #[.int .i64 k, .int .i64 x, .int .i64 n, .int .i64 s, .int .i64 u] 30)) = W1 := ⟨_, rfl⟩
      rw [hW1] at HP ⊢
      clear hW1
      with_reducible refine (CE.out _ HP).mono ?_
      rintro e w1 ⟨rfl, hb⟩
      have HP := Lib.hid (HP.out.on hb)
      clear hb
      obtain ⟨b0, b1, b2, p0, p1, p2, p3, p4, -⟩ := bpS HP.out
      go_wp2_with fail
      go_ret
      exact ⟨rfl, HP.out.low⟩
  · rw [lvE_err he]
    obtain ⟨E, hE⟩ : ∃ y_, rvE r f xs k x n s u j = y_ := ⟨_, rfl⟩
    rw [hE] at CE he ⊢
    have hb2 : (E == 0) = false := by simp [he]
    clear hE he
    go_enter Tryz.func36, Tryz.ntmps36
    go_wp2_with fail
    obtain ⟨W1, hW1⟩ : ∃ W1, ((w.alloc (.cells #[.int .i64 f, .slice a l c, .int .i64 r] 28)).alloc (.cells #[.int .i64 k, .int .i64 x, .int .i64 n, .int .i64 s, .int .i64 u] 30)) = W1 := ⟨_, rfl⟩
    rw [hW1] at HP ⊢
    clear hW1
    with_reducible refine (CE.out _ HP).mono ?_
    rintro e w1 ⟨rfl, hb⟩
    have HP := Lib.hid (HP.out.on hb)
    clear hb
    obtain ⟨b0, b1, b2, p0, p1, p2, p3, p4, -⟩ := bpS HP.out
    go_wp2_with fail
    go_ret
    exact ⟨rfl, HP.out.low⟩

set_option maxHeartbeats 2000000 in
theorem slv_any (r f : Int) (xs : List Int) (a : Option Addr) (l c : Nat) (k x n s u j : Int) (w : World) (h : Ints w a l xs) (hp : poB r f xs k x n s u = true) (hj : 0 ≤ j ∧ j ≤ durN f xs k x n - 1) (hd : dvN r f xs x j ≠ 0) :
    Calls Tryz.prog 39 #[.agg #[.int .i64 f, .slice a l c, .int .i64 r], .agg #[.int .i64 k, .int .i64 x, .int .i64 n, .int .i64 s, .int .i64 u], .int .i64 j] w fun e w' => e = .returned (.int .i64 (lsvN r f xs k x n s j)) ∧ Below w.heap.size w w' := by
  have H := Lib.hid h
  clear h
  have HP := Lib.hid (BP.new w f (.slice a l c) r k x n s u 28 30)
  have CA : Hid (∀ W, Hid (BP w f (.slice a l c) r k x n s u W) → Calls Tryz.prog 40 #[.agg #[.int .i64 f, .slice a l c, .int .i64 r], .agg #[.int .i64 k, .int .i64 x, .int .i64 n, .int .i64 s, .int .i64 u], .int .i64 j] W fun e w' => e = .returned (.int .i64 (ktN r f xs k x n s j)) ∧ Below W.heap.size W w') :=
    Lib.hid (fun W hW => rat_any r f xs a l c k x n s u j W (H.out.on hW.out.low) hp hj hd)
  obtain ⟨q, v, e1, e2, e3, q0, q1, v0, v1, v2⟩ := lv_nums hp hj hd
  rw [e1] at CA
  rw [e2]
  have w1_ : IntKind.i64.wrap (q * 900) = q * 900 := IntWalk.i64_in _ (by omega)
  subst e3
  clear e1 e2 hp hj hd
  go_enter Tryz.func39, Tryz.ntmps39
  go_wp2_with fail
  obtain ⟨W1, hW1⟩ : ∃ W1, ((w.alloc (.cells #[.int .i64 f, .slice a l c, .int .i64 r] 28)).alloc (.cells #[.int .i64 k, .int .i64 x, .int .i64 n, .int .i64 s, .int .i64 u] 30)) = W1 := ⟨_, rfl⟩
  rw [hW1] at HP ⊢
  clear hW1
  with_reducible refine (CA.out _ HP).mono ?_
  rintro e w1 ⟨rfl, hb⟩
  have HP := Lib.hid (HP.out.on hb)
  clear hb
  obtain ⟨b0, b1, b2, p0, p1, p2, p3, p4, -⟩ := bpS HP.out
  go_wp2_with fail
  go_ret
  exact ⟨rfl, HP.out.low⟩

set_option maxHeartbeats 4000000 in
theorem ssv12_any (r f : Int) (xs : List Int) (a : Option Addr) (l c : Nat) (k x n s u j : Int) (w : World) (h : Ints w a l xs) :
    Calls Tryz.prog 16 #[.agg #[.int .i64 f, .slice a l c, .int .i64 r], .agg #[.int .i64 k, .int .i64 x, .int .i64 n, .int .i64 s, .int .i64 u], .int .i64 j] w (IIPost (lvV (lvE r f xs k x n s u j) (lsvN r f xs k x n s j)) (lvE r f xs k x n s u j) w) := by
  have H := Lib.hid h
  clear h
  have HP := Lib.hid (BP.new w f (.slice a l c) r k x n s u 28 30)
  unfold IIPost
  have CE : Hid (∀ W, Hid (BP w f (.slice a l c) r k x n s u W) → Calls Tryz.prog 36 #[.agg #[.int .i64 f, .slice a l c, .int .i64 r], .agg #[.int .i64 k, .int .i64 x, .int .i64 n, .int .i64 s, .int .i64 u], .int .i64 j] W fun e w' => e = .returned (.int .i64 (lvE r f xs k x n s u j)) ∧ Below W.heap.size W w') :=
    Lib.hid (fun W hW => slc_any r f xs a l c k x n s u j W (H.out.on hW.out.low))
  by_cases he : lvE r f xs k x n s u j = 0
  · have HV : Hid (lvV (lvE r f xs k x n s u j) (lsvN r f xs k x n s j) = lsvN r f xs k x n s j) := Lib.hid (by unfold lvV; rw [if_pos he])
    rw [HV.out, he]
    rw [he] at CE
    obtain ⟨he2, hj2⟩ := lvE_iff.1 he
    obtain ⟨hp, hj, hd⟩ := rvE_iff.1 he2
    have CV : Hid (∀ W, Hid (BP w f (.slice a l c) r k x n s u W) → Calls Tryz.prog 39 #[.agg #[.int .i64 f, .slice a l c, .int .i64 r], .agg #[.int .i64 k, .int .i64 x, .int .i64 n, .int .i64 s, .int .i64 u], .int .i64 j] W fun e w' => e = .returned (.int .i64 (lsvN r f xs k x n s j)) ∧ Below W.heap.size W w') :=
        Lib.hid (fun W hW => slv_any r f xs a l c k x n s u j W (H.out.on hW.out.low) hp hj hd)
    obtain ⟨V, hV⟩ : ∃ y_, lsvN r f xs k x n s j = y_ := ⟨_, rfl⟩
    rw [hV] at CV ⊢
    clear hV HV he he2 hp hj hd
    go_enter Tryz.func16, Tryz.ntmps16
    go_wp2_with fail
    obtain ⟨W1, hW1⟩ : ∃ W1, ((w.alloc (.cells #[.int .i64 f, .slice a l c, .int .i64 r] 28)).alloc (.cells #[.int .i64 k, .int .i64 x, .int .i64 n, .int .i64 s, .int .i64 u] 30)) = W1 := ⟨_, rfl⟩
    rw [hW1] at HP ⊢
    clear hW1
    with_reducible refine (CE.out _ HP).mono ?_
    rintro e w1 ⟨rfl, hb⟩
    have HP := Lib.hid (HP.out.on hb)
    clear hb
    obtain ⟨b0, b1, b2, p0, p1, p2, p3, p4, -⟩ := bpS HP.out
    go_wp2_with fail
    with_reducible refine (CV.out _ HP).mono ?_
    rintro e w1 ⟨rfl, hb⟩
    have HP := Lib.hid (HP.out.on hb)
    clear b0 b1 b2 p0 p1 p2 p3 p4 hb
    obtain ⟨b0, b1, b2, p0, p1, p2, p3, p4, -⟩ := bpS HP.out
    go_wp2_with fail
    go_ret2
    exact ⟨rfl, HP.out.low⟩
  · have HV : Hid (lvV (lvE r f xs k x n s u j) (lsvN r f xs k x n s j) = 0) := Lib.hid (by unfold lvV; rw [if_neg he])
    rw [HV.out]
    obtain ⟨E, hE⟩ : ∃ y_, lvE r f xs k x n s u j = y_ := ⟨_, rfl⟩
    rw [hE] at CE he ⊢
    have hb2 : (E != 0) = true := by simp [he]
    clear hE HV he
    go_enter Tryz.func16, Tryz.ntmps16
    go_wp2_with fail
    obtain ⟨W1, hW1⟩ : ∃ W1, ((w.alloc (.cells #[.int .i64 f, .slice a l c, .int .i64 r] 28)).alloc (.cells #[.int .i64 k, .int .i64 x, .int .i64 n, .int .i64 s, .int .i64 u] 30)) = W1 := ⟨_, rfl⟩
    rw [hW1] at HP ⊢
    clear hW1
    with_reducible refine (CE.out _ HP).mono ?_
    rintro e w1 ⟨rfl, hb⟩
    have HP := Lib.hid (HP.out.on hb)
    clear hb
    obtain ⟨b0, b1, b2, p0, p1, p2, p3, p4, -⟩ := bpS HP.out
    go_wp2_with fail
    go_ret2
    exact ⟨rfl, HP.out.low⟩

set_option maxHeartbeats 4000000 in
theorem sll_any (r f : Int) (xs : List Int) (a : Option Addr) (l c : Nat) (k x n s u j : Int) (w : World) (h : Ints w a l xs) :
    Calls Tryz.prog 20 #[.agg #[.int .i64 f, .slice a l c, .int .i64 r], .agg #[.int .i64 k, .int .i64 x, .int .i64 n, .int .i64 s, .int .i64 u], .int .i64 j] w (IIPost (lvV (lvE r f xs k x n s u j) (lsvN r f xs k x n s j * 800 / 1000)) (lvE r f xs k x n s u j) w) := by
  have H := Lib.hid h
  clear h
  have HP := Lib.hid (BP.new w f (.slice a l c) r k x n s u 28 30)
  unfold IIPost
  have CE : Hid (∀ W, Hid (BP w f (.slice a l c) r k x n s u W) → Calls Tryz.prog 36 #[.agg #[.int .i64 f, .slice a l c, .int .i64 r], .agg #[.int .i64 k, .int .i64 x, .int .i64 n, .int .i64 s, .int .i64 u], .int .i64 j] W fun e w' => e = .returned (.int .i64 (lvE r f xs k x n s u j)) ∧ Below W.heap.size W w') :=
    Lib.hid (fun W hW => slc_any r f xs a l c k x n s u j W (H.out.on hW.out.low))
  by_cases he : lvE r f xs k x n s u j = 0
  · have HV : Hid (lvV (lvE r f xs k x n s u j) (lsvN r f xs k x n s j * 800 / 1000) = lsvN r f xs k x n s j * 800 / 1000) := Lib.hid (by unfold lvV; rw [if_pos he])
    rw [HV.out, he]
    rw [he] at CE
    obtain ⟨he2, hj2⟩ := lvE_iff.1 he
    obtain ⟨hp, hj, hd⟩ := rvE_iff.1 he2
    have CV : Hid (∀ W, Hid (BP w f (.slice a l c) r k x n s u W) → Calls Tryz.prog 39 #[.agg #[.int .i64 f, .slice a l c, .int .i64 r], .agg #[.int .i64 k, .int .i64 x, .int .i64 n, .int .i64 s, .int .i64 u], .int .i64 j] W fun e w' => e = .returned (.int .i64 (lsvN r f xs k x n s j)) ∧ Below W.heap.size W w') :=
        Lib.hid (fun W hW => slv_any r f xs a l c k x n s u j W (H.out.on hW.out.low) hp hj hd)
    obtain ⟨q, V, e1, e2, e3, q0, q1, v0, v1, v2⟩ := lv_nums hp hj hd
    rw [e2] at CV ⊢
    have w1_ : IntKind.i64.wrap (V * 800) = V * 800 := IntWalk.i64_in _ (by omega)
    clear e1 e2 e3 v1 HV he he2 hp hj hd
    go_enter Tryz.func20, Tryz.ntmps20
    go_wp2_with fail
    obtain ⟨W1, hW1⟩ : ∃ W1, ((w.alloc (.cells #[.int .i64 f, .slice a l c, .int .i64 r] 28)).alloc (.cells #[.int .i64 k, .int .i64 x, .int .i64 n, .int .i64 s, .int .i64 u] 30)) = W1 := ⟨_, rfl⟩
    rw [hW1] at HP ⊢
    clear hW1
    with_reducible refine (CE.out _ HP).mono ?_
    rintro e w1 ⟨rfl, hb⟩
    have HP := Lib.hid (HP.out.on hb)
    clear hb
    obtain ⟨b0, b1, b2, p0, p1, p2, p3, p4, -⟩ := bpS HP.out
    go_wp2_with fail
    with_reducible refine (CV.out _ HP).mono ?_
    rintro e w1 ⟨rfl, hb⟩
    have HP := Lib.hid (HP.out.on hb)
    clear b0 b1 b2 p0 p1 p2 p3 p4 hb
    obtain ⟨b0, b1, b2, p0, p1, p2, p3, p4, -⟩ := bpS HP.out
    go_wp2_with fail
    go_ret2
    exact ⟨rfl, HP.out.low⟩
  · have HV : Hid (lvV (lvE r f xs k x n s u j) (lsvN r f xs k x n s j * 800 / 1000) = 0) := Lib.hid (by unfold lvV; rw [if_neg he])
    rw [HV.out]
    obtain ⟨E, hE⟩ : ∃ y_, lvE r f xs k x n s u j = y_ := ⟨_, rfl⟩
    rw [hE] at CE he ⊢
    have hb2 : (E != 0) = true := by simp [he]
    clear hE HV he
    go_enter Tryz.func20, Tryz.ntmps20
    go_wp2_with fail
    obtain ⟨W1, hW1⟩ : ∃ W1, ((w.alloc (.cells #[.int .i64 f, .slice a l c, .int .i64 r] 28)).alloc (.cells #[.int .i64 k, .int .i64 x, .int .i64 n, .int .i64 s, .int .i64 u] 30)) = W1 := ⟨_, rfl⟩
    rw [hW1] at HP ⊢
    clear hW1
    with_reducible refine (CE.out _ HP).mono ?_
    rintro e w1 ⟨rfl, hb⟩
    have HP := Lib.hid (HP.out.on hb)
    clear hb
    obtain ⟨b0, b1, b2, p0, p1, p2, p3, p4, -⟩ := bpS HP.out
    go_wp2_with fail
    go_ret2
    exact ⟨rfl, HP.out.low⟩

set_option maxHeartbeats 4000000 in
theorem sls_any (r f : Int) (xs : List Int) (a : Option Addr) (l c : Nat) (k x n s u j : Int) (w : World) (h : Ints w a l xs) :
    Calls Tryz.prog 18 #[.agg #[.int .i64 f, .slice a l c, .int .i64 r], .agg #[.int .i64 k, .int .i64 x, .int .i64 n, .int .i64 s, .int .i64 u], .int .i64 j] w (IIPost (lvV (lvE r f xs k x n s u j) (ktN r f xs k x n s j - lsvN r f xs k x n s j)) (lvE r f xs k x n s u j) w) := by
  have H := Lib.hid h
  clear h
  have HP := Lib.hid (BP.new w f (.slice a l c) r k x n s u 28 30)
  unfold IIPost
  have CE : Hid (∀ W, Hid (BP w f (.slice a l c) r k x n s u W) → Calls Tryz.prog 36 #[.agg #[.int .i64 f, .slice a l c, .int .i64 r], .agg #[.int .i64 k, .int .i64 x, .int .i64 n, .int .i64 s, .int .i64 u], .int .i64 j] W fun e w' => e = .returned (.int .i64 (lvE r f xs k x n s u j)) ∧ Below W.heap.size W w') :=
    Lib.hid (fun W hW => slc_any r f xs a l c k x n s u j W (H.out.on hW.out.low))
  by_cases he : lvE r f xs k x n s u j = 0
  · have HV : Hid (lvV (lvE r f xs k x n s u j) (ktN r f xs k x n s j - lsvN r f xs k x n s j) = ktN r f xs k x n s j - lsvN r f xs k x n s j) := Lib.hid (by unfold lvV; rw [if_pos he])
    rw [HV.out, he]
    rw [he] at CE
    obtain ⟨he2, hj2⟩ := lvE_iff.1 he
    obtain ⟨hp, hj, hd⟩ := rvE_iff.1 he2
    have CV : Hid (∀ W, Hid (BP w f (.slice a l c) r k x n s u W) → Calls Tryz.prog 39 #[.agg #[.int .i64 f, .slice a l c, .int .i64 r], .agg #[.int .i64 k, .int .i64 x, .int .i64 n, .int .i64 s, .int .i64 u], .int .i64 j] W fun e w' => e = .returned (.int .i64 (lsvN r f xs k x n s j)) ∧ Below W.heap.size W w') :=
        Lib.hid (fun W hW => slv_any r f xs a l c k x n s u j W (H.out.on hW.out.low) hp hj hd)
    have CA : Hid (∀ W, Hid (BP w f (.slice a l c) r k x n s u W) → Calls Tryz.prog 40 #[.agg #[.int .i64 f, .slice a l c, .int .i64 r], .agg #[.int .i64 k, .int .i64 x, .int .i64 n, .int .i64 s, .int .i64 u], .int .i64 j] W fun e w' => e = .returned (.int .i64 (ktN r f xs k x n s j)) ∧ Below W.heap.size W w') :=
        Lib.hid (fun W hW => rat_any r f xs a l c k x n s u j W (H.out.on hW.out.low) hp hj hd)
    obtain ⟨q, V, e1, e2, e3, q0, q1, v0, v1, v2⟩ := lv_nums hp hj hd
    rw [e2] at CV
    rw [e1] at CA
    rw [e1, e2]
    have w1_ : IntKind.i64.wrap (q - V) = q - V := IntWalk.i64_in _ (by omega)
    clear e1 e2 e3 HV he he2 hp hj hd
    go_enter Tryz.func18, Tryz.ntmps18
    go_wp2_with fail
    obtain ⟨W1, hW1⟩ : ∃ W1, ((w.alloc (.cells #[.int .i64 f, .slice a l c, .int .i64 r] 28)).alloc (.cells #[.int .i64 k, .int .i64 x, .int .i64 n, .int .i64 s, .int .i64 u] 30)) = W1 := ⟨_, rfl⟩
    rw [hW1] at HP ⊢
    clear hW1
    with_reducible refine (CE.out _ HP).mono ?_
    rintro e w1 ⟨rfl, hb⟩
    have HP := Lib.hid (HP.out.on hb)
    clear hb
    obtain ⟨b0, b1, b2, p0, p1, p2, p3, p4, -⟩ := bpS HP.out
    go_wp2_with fail
    go_region_held3 (fun W9 => W9.cell? ⟨w.heap.size, 0, none⟩ = some (.int .i64 f) ∧ W9.cell? ⟨w.heap.size, 1, none⟩ = some (.slice a l c) ∧ W9.cell? ⟨w.heap.size, 2, none⟩ = some (.int .i64 r) ∧ W9.cell? ⟨w.heap.size + 1, 0, none⟩ = some (.int .i64 k) ∧ W9.cell? ⟨w.heap.size + 1, 1, none⟩ = some (.int .i64 x) ∧ W9.cell? ⟨w.heap.size + 1, 2, none⟩ = some (.int .i64 n) ∧ W9.cell? ⟨w.heap.size + 1, 3, none⟩ = some (.int .i64 s) ∧ W9.cell? ⟨w.heap.size + 1, 4, none⟩ = some (.int .i64 u) ∧ Hid (BP w f (.slice a l c) r k x n s u W9))
      (first
        | (go_split_ands; exact ⟨by with_reducible assumption, by with_reducible assumption, by with_reducible assumption, by with_reducible assumption, by with_reducible assumption, by with_reducible assumption, by with_reducible assumption, by with_reducible assumption, by with_reducible assumption⟩)
        | (go_split_ands; with_reducible exact bpS HP.out)
        | (go_split_ands; with_reducible exact bpS (BP.drew HP.out))
        | (go_split_ands; with_reducible exact bpS (BP.on (Hid.out (by with_reducible assumption)) hb))
        | fail)
      (first
        | (go_split_ands; go_at_call 40; ((with_reducible refine (CA.out _ (by with_reducible assumption)).mono ?_); rintro e w' ⟨rfl, hb⟩))
        | (go_split_ands; go_at_call 39; ((with_reducible refine (CV.out _ (by with_reducible assumption)).mono ?_); rintro e w' ⟨rfl, hb⟩))
        | fail)
    all_goals
      go_split_ands
      go_wp2_with fail
      go_ret2
      exact ⟨rfl, bpLow f (.slice a l c) r k x n s u (by with_reducible assumption)⟩
  · have HV : Hid (lvV (lvE r f xs k x n s u j) (ktN r f xs k x n s j - lsvN r f xs k x n s j) = 0) := Lib.hid (by unfold lvV; rw [if_neg he])
    rw [HV.out]
    obtain ⟨E, hE⟩ : ∃ y_, lvE r f xs k x n s u j = y_ := ⟨_, rfl⟩
    rw [hE] at CE he ⊢
    have hb2 : (E != 0) = true := by simp [he]
    clear hE HV he
    go_enter Tryz.func18, Tryz.ntmps18
    go_wp2_with fail
    obtain ⟨W1, hW1⟩ : ∃ W1, ((w.alloc (.cells #[.int .i64 f, .slice a l c, .int .i64 r] 28)).alloc (.cells #[.int .i64 k, .int .i64 x, .int .i64 n, .int .i64 s, .int .i64 u] 30)) = W1 := ⟨_, rfl⟩
    rw [hW1] at HP ⊢
    clear hW1
    with_reducible refine (CE.out _ HP).mono ?_
    rintro e w1 ⟨rfl, hb⟩
    have HP := Lib.hid (HP.out.on hb)
    clear hb
    obtain ⟨b0, b1, b2, p0, p1, p2, p3, p4, -⟩ := bpS HP.out
    go_wp2_with fail
    go_ret2
    exact ⟨rfl, HP.out.low⟩

end Go.Proofs.YtdlfofdibooidaaGreat
