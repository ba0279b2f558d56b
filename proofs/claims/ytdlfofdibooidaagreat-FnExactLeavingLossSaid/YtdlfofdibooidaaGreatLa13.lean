/- Merged: Lvs, TabL, Poh, Pox. -/
import Derived.Test.YtdlfofdibooidaaGreatLa3
import Derived.Test.YtdlfofdibooidaaGreatLa8
import Derived.Test.YtdlfofdibooidaaGreatLa10
import Derived.Test.YtdlfofdibooidaaGreatLa12
import Derived.Deep.RegionHeld3

/- Leaving: the model's code, value, loan and loss. (Written by wip/gen/lvs.py.) -/
namespace Go.Proofs.YtdlfofdibooidaaGreat
open Go.ChangeShapes Go.WideShapes Go.ChangeAt Go.RowKit
set_option linter.unusedVariables false
set_option maxRecDepth 100000

set_option maxHeartbeats 4000000 in
theorem slc_any (r f : Int) (xs : List Int) (a : Option Addr) (l c : Nat) (k x n s u j : Int) (w : World) (h : Ints w a l xs) :
    Calls Tryz.prog 36 #[.agg #[.int .i64 f, .slice a l c, .int .i64 r], .agg #[.int .i64 k, .int .i64 x, .int .i64 n, .int .i64 s, .int .i64 u], .int .i64 j] w fun e w' => e = .returned (.int .i64 (lvE r f xs k x n s u j)) ∧ Below w.heap.size w w' := by
  have H := Lib.hid h
  clear h
  have HP := Lib.hid (BP.new w f (.slice a l c) r k x n s u 28 30)
  have CE : Hid (∀ W, Hid (BP w f (.slice a l c) r k x n s u W) → Calls Tryz.prog 61 #[.agg #[.int .i64 f, .slice a l c, .int .i64 r], .agg #[.int .i64 k, .int .i64 x, .int .i64 n, .int .i64 s, .int .i64 u], .int .i64 j] W fun e w' => e = .returned (.int .i64 (rvE r f xs k x n s u j)) ∧ Below W.heap.size W w') :=
    Lib.hid (fun W hW => rcode_any r f xs a l c k x n s u j W (H.out.on hW.out.low))
  by_cases he : rvE r f xs k x n s u j = 0
  · by_cases hj : j < 2
    · rw [lvE_low he hj]
      rw [he] at CE
      clear he
      go_enter Tryz.func36, Tryz.ntmps36
      go_wp2_with fail
      obtain ⟨W1, hW1⟩ : ∃ W1, ((w.alloc (.cells #[.int .i64 f, .slice a l c, .int .i64 r] 28)).alloc (.cells #[.int .i64 k, .int .i64 x, .int .i64 n, .int .i64 s, .int .i64 u] 30)) = W1 := ⟨_, rfl⟩
      rw [hW1] at HP ⊢
      clear hW1
      with_reducible refine (CE.out _ HP).mono ?_
      rintro e w1 ⟨rfl, hb⟩
      have HP := Lib.hid (HP.out.on hb)
      clear hb
      obtain ⟨b0, b1, b2, p0, p1, p2, p3, p4, -⟩ := bpS HP.out
      go_wp2_with fail
      go_ret
      exact ⟨rfl, HP.out.low⟩
    · rw [lvE_iff.2 ⟨he, by omega⟩]
      rw [he] at CE
      clear he
      go_enter Tryz.func36, Tryz.ntmps36
      go_wp2_with fail
      obtain ⟨W1, hW1⟩ : ∃ W1, ((w.alloc (.cells #[.int .i64 f, .slice a l c, .int .i64 r] 28)).alloc (.cells #[.int .i64 k, .int .i64 x, .int .i64 n, .int .i64 s, .int .i64 u] 30)) = W1 := ⟨_, rfl⟩
      rw [hW1] at HP ⊢
      clear hW1
      with_reducible refine (CE.out _ HP).mono ?_
      rintro e w1 ⟨rfl, hb⟩
      have HP := Lib.hid (HP.out.on hb)
      clear hb
      obtain ⟨b0, b1, b2, p0, p1, p2, p3, p4, -⟩ := bpS HP.out
      go_wp2_with fail
      go_ret
      exact ⟨rfl, HP.out.low⟩
  · rw [lvE_err he]
    obtain ⟨E, hE⟩ : ∃ y_, rvE r f xs k x n s u j = y_ := ⟨_, rfl⟩
    rw [hE] at CE he ⊢
    have hb2 : (E == 0) = false := by simp [he]
    clear hE he
    go_enter Tryz.func36, Tryz.ntmps36
    go_wp2_with fail
    obtain ⟨W1, hW1⟩ : ∃ W1, ((w.alloc (.cells #[.int .i64 f, .slice a l c, .int .i64 r] 28)).alloc (.cells #[.int .i64 k, .int .i64 x, .int .i64 n, .int .i64 s, .int .i64 u] 30)) = W1 := ⟨_, rfl⟩
    rw [hW1] at HP ⊢
    clear hW1
    with_reducible refine (CE.out _ HP).mono ?_
    rintro e w1 ⟨rfl, hb⟩
    have HP := Lib.hid (HP.out.on hb)
    clear hb
    obtain ⟨b0, b1, b2, p0, p1, p2, p3, p4, -⟩ := bpS HP.out
    go_wp2_with fail
    go_ret
    exact ⟨rfl, HP.out.low⟩

set_option maxHeartbeats 2000000 in
theorem slv_any (r f : Int) (xs : List Int) (a : Option Addr) (l c : Nat) (k x n s u j : Int) (w : World) (h : Ints w a l xs) (hp : poB r f xs k x n s u = true) (hj : 0 ≤ j ∧ j ≤ durN f xs k x n - 1) (hd : dvN r f xs x j ≠ 0) :
    Calls Tryz.prog 39 #[.agg #[.int .i64 f, .slice a l c, .int .i64 r], .agg #[.int .i64 k, .int .i64 x, .int .i64 n, .int .i64 s, .int .i64 u], .int .i64 j] w fun e w' => e = .returned (.int .i64 (lsvN r f xs k x n s j)) ∧ Below w.heap.size w w' := by
  have H := Lib.hid h
  clear h
  have HP := Lib.hid (BP.new w f (.slice a l c) r k x n s u 28 30)
  have CA : Hid (∀ W, Hid (BP w f (.slice a l c) r k x n s u W) → Calls Tryz.prog 40 #[.agg #[.int .i64 f, .slice a l c, .int .i64 r], .agg #[.int .i64 k, .int .i64 x, .int .i64 n, .int .i64 s, .int .i64 u], .int .i64 j] W fun e w' => e = .returned (.int .i64 (ktN r f xs k x n s j)) ∧ Below W.heap.size W w') :=
    Lib.hid (fun W hW => rat_any r f xs a l c k x n s u j W (H.out.on hW.out.low) hp hj hd)
  obtain ⟨q, v, e1, e2, e3, q0, q1, v0, v1, v2⟩ := lv_nums hp hj hd
  rw [e1] at CA
  rw [e2]
  have w1_ : IntKind.i64.wrap (q * 900) = q * 900 := IntWalk.i64_in _ (by omega)
  subst e3
  clear e1 e2 hp hj hd
  go_enter Tryz.func39, Tryz.ntmps39
  go_wp2_with fail
  obtain ⟨W1, hW1⟩ : ∃ W1, ((w.alloc (.cells #[.int .i64 f, .slice a l c, .int .i64 r] 28)).alloc (.cells #[.int .i64 k, .int .i64 x, .int .i64 n, .int .i64 s, .int .i64 u] 30)) = W1 := ⟨_, rfl⟩
  rw [hW1] at HP ⊢
  clear hW1
  with_reducible refine (CA.out _ HP).mono ?_
  rintro e w1 ⟨rfl, hb⟩
  have HP := Lib.hid (HP.out.on hb)
  clear hb
  obtain ⟨b0, b1, b2, p0, p1, p2, p3, p4, -⟩ := bpS HP.out
  go_wp2_with fail
  go_ret
  exact ⟨rfl, HP.out.low⟩

set_option maxHeartbeats 4000000 in
theorem ssv12_any (r f : Int) (xs : List Int) (a : Option Addr) (l c : Nat) (k x n s u j : Int) (w : World) (h : Ints w a l xs) :
    Calls Tryz.prog 16 #[.agg #[.int .i64 f, .slice a l c, .int .i64 r], .agg #[.int .i64 k, .int .i64 x, .int .i64 n, .int .i64 s, .int .i64 u], .int .i64 j] w (IIPost (lvV (lvE r f xs k x n s u j) (lsvN r f xs k x n s j)) (lvE r f xs k x n s u j) w) := by
  have H := Lib.hid h
  clear h
  have HP := Lib.hid (BP.new w f (.slice a l c) r k x n s u 28 30)
  unfold IIPost
  have CE : Hid (∀ W, Hid (BP w f (.slice a l c) r k x n s u W) → Calls Tryz.prog 36 #[.agg #[.int .i64 f, .slice a l c, .int .i64 r], .agg #[.int .i64 k, .int .i64 x, .int .i64 n, .int .i64 s, .int .i64 u], .int .i64 j] W fun e w' => e = .returned (.int .i64 (lvE r f xs k x n s u j)) ∧ Below W.heap.size W w') :=
    Lib.hid (fun W hW => slc_any r f xs a l c k x n s u j W (H.out.on hW.out.low))
  by_cases he : lvE r f xs k x n s u j = 0
  · have HV : Hid (lvV (lvE r f xs k x n s u j) (lsvN r f xs k x n s j) = lsvN r f xs k x n s j) := Lib.hid (by unfold lvV; rw [if_pos he])
    rw [HV.out, he]
    rw [he] at CE
    obtain ⟨he2, hj2⟩ := lvE_iff.1 he
    obtain ⟨hp, hj, hd⟩ := rvE_iff.1 he2
    have CV : Hid (∀ W, Hid (BP w f (.slice a l c) r k x n s u W) → Calls Tryz.prog 39 #[.agg #[.int .i64 f, .slice a l c, .int .i64 r], .agg #[.int .i64 k, .int .i64 x, .int .i64 n, .int .i64 s, .int .i64 u], .int .i64 j] W fun e w' => e = .returned (.int .i64 (lsvN r f xs k x n s j)) ∧ Below W.heap.size W w') :=
        Lib.hid (fun W hW => slv_any r f xs a l c k x n s u j W (H.out.on hW.out.low) hp hj hd)
    obtain ⟨V, hV⟩ : ∃ y_, lsvN r f xs k x n s j = y_ := ⟨_, rfl⟩
    rw [hV] at CV ⊢
    clear hV HV he he2 hp hj hd
    go_enter Tryz.func16, Tryz.ntmps16
    go_wp2_with fail
    obtain ⟨W1, hW1⟩ : ∃ W1, ((w.alloc (.cells #[.int .i64 f, .slice a l c, .int .i64 r] 28)).alloc (.cells #[.int .i64 k, .int .i64 x, .int .i64 n, .int .i64 s, .int .i64 u] 30)) = W1 := ⟨_, rfl⟩
    rw [hW1] at HP ⊢
    clear hW1
    with_reducible refine (CE.out _ HP).mono ?_
    rintro e w1 ⟨rfl, hb⟩
    have HP := Lib.hid (HP.out.on hb)
    clear hb
    obtain ⟨b0, b1, b2, p0, p1, p2, p3, p4, -⟩ := bpS HP.out
    go_wp2_with fail
    with_reducible refine (CV.out _ HP).mono ?_
    rintro e w1 ⟨rfl, hb⟩
    have HP := Lib.hid (HP.out.on hb)
    clear b0 b1 b2 p0 p1 p2 p3 p4 hb
    obtain ⟨b0, b1, b2, p0, p1, p2, p3, p4, -⟩ := bpS HP.out
    go_wp2_with fail
    go_ret2
    exact ⟨rfl, HP.out.low⟩
  · have HV : Hid (lvV (lvE r f xs k x n s u j) (lsvN r f xs k x n s j) = 0) := Lib.hid (by unfold lvV; rw [if_neg he])
    rw [HV.out]
    obtain ⟨E, hE⟩ : ∃ y_, lvE r f xs k x n s u j = y_ := ⟨_, rfl⟩
    rw [hE] at CE he ⊢
    have hb2 : (E != 0) = true := by simp [he]
    clear hE HV he
    go_enter Tryz.func16, Tryz.ntmps16
    go_wp2_with fail
    obtain ⟨W1, hW1⟩ : ∃ W1, ((w.alloc (.cells #[.int .i64 f, .slice a l c, .int .i64 r] 28)).alloc (.cells #[.int .i64 k, .int .i64 x, .int .i64 n, .int .i64 s, .int .i64 u] 30)) = W1 := ⟨_, rfl⟩
    rw [hW1] at HP ⊢
    clear hW1
    with_reducible refine (CE.out _ HP).mono ?_
    rintro e w1 ⟨rfl, hb⟩
    have HP := Lib.hid (HP.out.on hb)
    clear hb
    obtain ⟨b0, b1, b2, p0, p1, p2, p3, p4, -⟩ := bpS HP.out
    go_wp2_with fail
    go_ret2
    exact ⟨rfl, HP.out.low⟩

set_option maxHeartbeats 4000000 in
theorem sll_any (r f : Int) (xs : List Int) (a : Option Addr) (l c : Nat) (k x n s u j : Int) (w : World) (h : Ints w a l xs) :
    Calls Tryz.prog 20 #[.agg #[.int .i64 f, .slice a l c, .int .i64 r], .agg #[.int .i64 k, .int .i64 x, .int .i64 n, .int .i64 s, .int .i64 u], .int .i64 j] w (IIPost (lvV (lvE r f xs k x n s u j) (lsvN r f xs k x n s j * 800 / 1000)) (lvE r f xs k x n s u j) w) := by
  have H := Lib.hid h
  clear h
  have HP := Lib.hid (BP.new w f (.slice a l c) r k x n s u 28 30)
  unfold IIPost
  have CE : Hid (∀ W, Hid (BP w f (.slice a l c) r k x n s u W) → Calls Tryz.prog 36 #[.agg #[.int .i64 f, .slice a l c, .int .i64 r], .agg #[.int .i64 k, .int .i64 x, .int .i64 n, .int .i64 s, .int .i64 u], .int .i64 j] W fun e w' => e = .returned (.int .i64 (lvE r f xs k x n s u j)) ∧ Below W.heap.size W w') :=
    Lib.hid (fun W hW => slc_any r f xs a l c k x n s u j W (H.out.on hW.out.low))
  by_cases he : lvE r f xs k x n s u j = 0
  · have HV : Hid (lvV (lvE r f xs k x n s u j) (lsvN r f xs k x n s j * 800 / 1000) = lsvN r f xs k x n s j * 800 / 1000) := Lib.hid (by unfold lvV; rw [if_pos he])
    rw [HV.out, he]
    rw [he] at CE
    obtain ⟨he2, hj2⟩ := lvE_iff.1 he
    obtain ⟨hp, hj, hd⟩ := rvE_iff.1 he2
    have CV : Hid (∀ W, Hid (BP w f (.slice a l c) r k x n s u W) → Calls Tryz.prog 39 #[.agg #[.int .i64 f, .slice a l c, .int .i64 r], .agg #[.int .i64 k, .int .i64 x, .int .i64 n, .int .i64 s, .int .i64 u], .int .i64 j] W fun e w' => e = .returned (.int .i64 (lsvN r f xs k x n s j)) ∧ Below W.heap.size W w') :=
        Lib.hid (fun W hW => slv_any r f xs a l c k x n s u j W (H.out.on hW.out.low) hp hj hd)
    obtain ⟨q, V, e1, e2, e3, q0, q1, v0, v1, v2⟩ := lv_nums hp hj hd
    rw [e2] at CV ⊢
    have w1_ : IntKind.i64.wrap (V * 800) = V * 800 := IntWalk.i64_in _ (by omega)
    clear e1 e2 e3 v1 HV he he2 hp hj hd
    go_enter Tryz.func20, Tryz.ntmps20
    go_wp2_with fail
    obtain ⟨W1, hW1⟩ : ∃ W1, ((w.alloc (.cells #[.int .i64 f, .slice a l c, .int .i64 r] 28)).alloc (.cells #[.int .i64 k, .int .i64 x, .int .i64 n, .int .i64 s, .int .i64 u] 30)) = W1 := ⟨_, rfl⟩
    rw [hW1] at HP ⊢
    clear hW1
    with_reducible refine (CE.out _ HP).mono ?_
    rintro e w1 ⟨rfl, hb⟩
    have HP := Lib.hid (HP.out.on hb)
    clear hb
    obtain ⟨b0, b1, b2, p0, p1, p2, p3, p4, -⟩ := bpS HP.out
    go_wp2_with fail
    with_reducible refine (CV.out _ HP).mono ?_
    rintro e w1 ⟨rfl, hb⟩
    have HP := Lib.hid (HP.out.on hb)
    clear b0 b1 b2 p0 p1 p2 p3 p4 hb
    obtain ⟨b0, b1, b2, p0, p1, p2, p3, p4, -⟩ := bpS HP.out
    go_wp2_with fail
    go_ret2
    exact ⟨rfl, HP.out.low⟩
  · have HV : Hid (lvV (lvE r f xs k x n s u j) (lsvN r f xs k x n s j * 800 / 1000) = 0) := Lib.hid (by unfold lvV; rw [if_neg he])
    rw [HV.out]
    obtain ⟨E, hE⟩ : ∃ y_, lvE r f xs k x n s u j = y_ := ⟨_, rfl⟩
    rw [hE] at CE he ⊢
    have hb2 : (E != 0) = true := by simp [he]
    clear hE HV he
    go_enter Tryz.func20, Tryz.ntmps20
    go_wp2_with fail
    obtain ⟨W1, hW1⟩ : ∃ W1, ((w.alloc (.cells #[.int .i64 f, .slice a l c, .int .i64 r] 28)).alloc (.cells #[.int .i64 k, .int .i64 x, .int .i64 n, .int .i64 s, .int .i64 u] 30)) = W1 := ⟨_, rfl⟩
    rw [hW1] at HP ⊢
    clear hW1
    with_reducible refine (CE.out _ HP).mono ?_
    rintro e w1 ⟨rfl, hb⟩
    have HP := Lib.hid (HP.out.on hb)
    clear hb
    obtain ⟨b0, b1, b2, p0, p1, p2, p3, p4, -⟩ := bpS HP.out
    go_wp2_with fail
    go_ret2
    exact ⟨rfl, HP.out.low⟩

set_option maxHeartbeats 4000000 in
theorem sls_any (r f : Int) (xs : List Int) (a : Option Addr) (l c : Nat) (k x n s u j : Int) (w : World) (h : Ints w a l xs) :
    Calls Tryz.prog 18 #[.agg #[.int .i64 f, .slice a l c, .int .i64 r], .agg #[.int .i64 k, .int .i64 x, .int .i64 n, .int .i64 s, .int .i64 u], .int .i64 j] w (IIPost (lvV (lvE r f xs k x n s u j) (ktN r f xs k x n s j - lsvN r f xs k x n s j)) (lvE r f xs k x n s u j) w) := by
  have H := Lib.hid h
  clear h
  have HP := Lib.hid (BP.new w f (.slice a l c) r k x n s u 28 30)
  unfold IIPost
  have CE : Hid (∀ W, Hid (BP w f (.slice a l c) r k x n s u W) → Calls Tryz.prog 36 #[.agg #[.int .i64 f, .slice a l c, .int .i64 r], .agg #[.int .i64 k, .int .i64 x, .int .i64 n, .int .i64 s, .int .i64 u], .int .i64 j] W fun e w' => e = .returned (.int .i64 (lvE r f xs k x n s u j)) ∧ Below W.heap.size W w') :=
    Lib.hid (fun W hW => slc_any r f xs a l c k x n s u j W (H.out.on hW.out.low))
  by_cases he : lvE r f xs k x n s u j = 0
  · have HV : Hid (lvV (lvE r f xs k x n s u j) (ktN r f xs k x n s j - lsvN r f xs k x n s j) = ktN r f xs k x n s j - lsvN r f xs k x n s j) := Lib.hid (by unfold lvV; rw [if_pos he])
    rw [HV.out, he]
    rw [he] at CE
    obtain ⟨he2, hj2⟩ := lvE_iff.1 he
    obtain ⟨hp, hj, hd⟩ := rvE_iff.1 he2
    have CV : Hid (∀ W, Hid (BP w f (.slice a l c) r k x n s u W) → Calls Tryz.prog 39 #[.agg #[.int .i64 f, .slice a l c, .int .i64 r], .agg #[.int .i64 k, .int .i64 x, .int .i64 n, .int .i64 s, .int .i64 u], .int .i64 j] W fun e w' => e = .returned (.int .i64 (lsvN r f xs k x n s j)) ∧ Below W.heap.size W w') :=
        Lib.hid (fun W hW => slv_any r f xs a l c k x n s u j W (H.out.on hW.out.low) hp hj hd)
    have CA : Hid (∀ W, Hid (BP w f (.slice a l c) r k x n s u W) → Calls Tryz.prog 40 #[.agg #[.int .i64 f, .slice a l c, .int .i64 r], .agg #[.int .i64 k, .int .i64 x, .int .i64 n, .int .i64 s, .int .i64 u], .int .i64 j] W fun e w' => e = .returned (.int .i64 (ktN r f xs k x n s j)) ∧ Below W.heap.size W w') :=
        Lib.hid (fun W hW => rat_any r f xs a l c k x n s u j W (H.out.on hW.out.low) hp hj hd)
    obtain ⟨q, V, e1, e2, e3, q0, q1, v0, v1, v2⟩ := lv_nums hp hj hd
    rw [e2] at CV
    rw [e1] at CA
    rw [e1, e2]
    have w1_ : IntKind.i64.wrap (q - V) = q - V := IntWalk.i64_in _ (by omega)
    clear e1 e2 e3 HV he he2 hp hj hd
    go_enter Tryz.func18, Tryz.ntmps18
    go_wp2_with fail
    obtain ⟨W1, hW1⟩ : ∃ W1, ((w.alloc (.cells #[.int .i64 f, .slice a l c, .int .i64 r] 28)).alloc (.cells #[.int .i64 k, .int .i64 x, .int .i64 n, .int .i64 s, .int .i64 u] 30)) = W1 := ⟨_, rfl⟩
    rw [hW1] at HP ⊢
    clear hW1
    with_reducible refine (CE.out _ HP).mono ?_
    rintro e w1 ⟨rfl, hb⟩
    have HP := Lib.hid (HP.out.on hb)
    clear hb
    obtain ⟨b0, b1, b2, p0, p1, p2, p3, p4, -⟩ := bpS HP.out
    go_wp2_with fail
    go_region_held3 (fun W9 => W9.cell? ⟨w.heap.size, 0, none⟩ = some (.int .i64 f) ∧ W9.cell? ⟨w.heap.size, 1, none⟩ = some (.slice a l c) ∧ W9.cell? ⟨w.heap.size, 2, none⟩ = some (.int .i64 r) ∧ W9.cell? ⟨w.heap.size + 1, 0, none⟩ = some (.int .i64 k) ∧ W9.cell? ⟨w.heap.size + 1, 1, none⟩ = some (.int .i64 x) ∧ W9.cell? ⟨w.heap.size + 1, 2, none⟩ = some (.int .i64 n) ∧ W9.cell? ⟨w.heap.size + 1, 3, none⟩ = some (.int .i64 s) ∧ W9.cell? ⟨w.heap.size + 1, 4, none⟩ = some (.int .i64 u) ∧ Hid (BP w f (.slice a l c) r k x n s u W9))
      (first
        | (go_split_ands; exact ⟨by with_reducible assumption, by with_reducible assumption, by with_reducible assumption, by with_reducible assumption, by with_reducible assumption, by with_reducible assumption, by with_reducible assumption, by with_reducible assumption, by with_reducible assumption⟩)
        | (go_split_ands; with_reducible exact bpS HP.out)
        | (go_split_ands; with_reducible exact bpS (BP.drew HP.out))
        | (go_split_ands; with_reducible exact bpS (BP.on (Hid.out (by with_reducible assumption)) hb))
        | fail)
      (first
        | (go_split_ands; go_at_call 40; ((with_reducible refine (CA.out _ (by with_reducible assumption)).mono ?_); rintro e w' ⟨rfl, hb⟩))
        | (go_split_ands; go_at_call 39; ((with_reducible refine (CV.out _ (by with_reducible assumption)).mono ?_); rintro e w' ⟨rfl, hb⟩))
        | fail)
    all_goals
      go_split_ands
      go_wp2_with fail
      go_ret2
      exact ⟨rfl, bpLow f (.slice a l c) r k x n s u (by with_reducible assumption)⟩
  · have HV : Hid (lvV (lvE r f xs k x n s u j) (ktN r f xs k x n s j - lsvN r f xs k x n s j) = 0) := Lib.hid (by unfold lvV; rw [if_neg he])
    rw [HV.out]
    obtain ⟨E, hE⟩ : ∃ y_, lvE r f xs k x n s u j = y_ := ⟨_, rfl⟩
    rw [hE] at CE he ⊢
    have hb2 : (E != 0) = true := by simp [he]
    clear hE HV he
    go_enter Tryz.func18, Tryz.ntmps18
    go_wp2_with fail
    obtain ⟨W1, hW1⟩ : ∃ W1, ((w.alloc (.cells #[.int .i64 f, .slice a l c, .int .i64 r] 28)).alloc (.cells #[.int .i64 k, .int .i64 x, .int .i64 n, .int .i64 s, .int .i64 u] 30)) = W1 := ⟨_, rfl⟩
    rw [hW1] at HP ⊢
    clear hW1
    with_reducible refine (CE.out _ HP).mono ?_
    rintro e w1 ⟨rfl, hb⟩
    have HP := Lib.hid (HP.out.on hb)
    clear hb
    obtain ⟨b0, b1, b2, p0, p1, p2, p3, p4, -⟩ := bpS HP.out
    go_wp2_with fail
    go_ret2
    exact ⟨rfl, HP.out.low⟩

end Go.Proofs.YtdlfofdibooidaaGreat

/- Life tables that a law takes, makes and compares; the exact laws on IsLifeTable, LivesAt, DeathsAt and SurvivalOf. -/
namespace Go.Proofs.YtdlfofdibooidaaGreat
open Go.ChangeShapes Go.WideShapes Go.ChangeAt Go.RowKit
set_option linter.unusedVariables false

theorem szS_big (a : Option Addr) (l c : Nat) (n : Int) (w : World) (hl : l ≤ 9223372036854775807) (n0 : 0 ≤ n) (n1 : n ≤ 1048576) (hlt : n < (l : Int)) :
    Calls Tryz.prog 91 #[.slice a l c, .int .i64 n] w fun e w' => e = .returned (.int .i64 (-1)) ∧ w = w' := by
  have h2 : n - (l : Int) < 0 := by omega
  go_enter Tryz.func91, Tryz.ntmps91
  go_wp2_with fail
  go_ret
  exact ⟨rfl, rfl⟩

theorem szS_fit (a : Option Addr) (l c : Nat) (n : Int) (w : World) (n0 : 0 ≤ n) (n1 : n ≤ 1048576) (hlt : (l : Int) ≤ n) :
    Calls Tryz.prog 91 #[.slice a l c, .int .i64 n] w fun e w' => e = .returned (.int .i64 (n - l)) ∧ w = w' := by
  have h2 : ¬ n - (l : Int) < 0 := by omega
  go_enter Tryz.func91, Tryz.ntmps91
  go_wp2_with fail
  go_ret
  exact ⟨rfl, rfl⟩

theorem szT_big (f : Int) (a : Option Addr) (l c : Nat) (w : World) (hl : l ≤ 9223372036854775807) (h : (1048576 : Int) < l) :
    Calls Tryz.prog 54 #[.agg #[.int .i64 f, .slice a l c], .int .i64 1048576] w fun e w' => e = .returned (.int .i64 (-1)) ∧ Below w.heap.size w w' := by
  have hc := fun w => szS_big a l c 1048576 w hl (by omega) (by omega) h
  have HC := Lib.hid hc
  clear hc
  go_enter Tryz.func54, Tryz.ntmps54
  go_wp2_with (go_at_call 91; refine (HC.out _).mono ?_; rintro e w' ⟨rfl, rfl⟩)
  go_ret
  exact ⟨rfl, box_b _ _⟩

theorem szT_fit (f : Int) (a : Option Addr) (l c : Nat) (w : World) (h : (l : Int) ≤ 1048576) :
    Calls Tryz.prog 54 #[.agg #[.int .i64 f, .slice a l c], .int .i64 1048576] w fun e w' => e = .returned (.int .i64 (1048576 - l)) ∧ Below w.heap.size w w' := by
  have hc := fun w => szS_fit a l c 1048576 w (by omega) (by omega) h
  have HC := Lib.hid hc
  clear hc
  go_enter Tryz.func54, Tryz.ntmps54
  go_wp2_with (go_at_call 91; refine (HC.out _).mono ?_; rintro e w' ⟨rfl, rfl⟩)
  go_ret
  exact ⟨rfl, box_b _ _⟩

theorem szT_big2 (f : Int) (a : Option Addr) (l c : Nat) (n : Int) (w : World) (hl : l ≤ 9223372036854775807) (n0 : 0 ≤ n) (n1 : n ≤ 1048576) (h : n < l) :
    Calls Tryz.prog 54 #[.agg #[.int .i64 f, .slice a l c], .int .i64 n] w fun e w' => e = .returned (.int .i64 (-1)) ∧ Below w.heap.size w w' := by
  have HC := Lib.hid (fun w => szS_big a l c n w hl n0 n1 h)
  clear h
  go_enter Tryz.func54, Tryz.ntmps54
  go_wp2_with (go_at_call 91; refine (HC.out _).mono ?_; rintro e w' ⟨rfl, rfl⟩)
  go_ret
  exact ⟨rfl, box_b _ _⟩

theorem szT_fit2 (f : Int) (a : Option Addr) (l c : Nat) (n : Int) (w : World) (n0 : 0 ≤ n) (n1 : n ≤ 1048576) (h : (l : Int) ≤ n) :
    Calls Tryz.prog 54 #[.agg #[.int .i64 f, .slice a l c], .int .i64 n] w fun e w' => e = .returned (.int .i64 (n - l)) ∧ Below w.heap.size w w' := by
  have HC := Lib.hid (fun w => szS_fit a l c n w n0 n1 h)
  have hp : ¬ n - (l : Int) < 0 := by omega
  clear h
  go_enter Tryz.func54, Tryz.ntmps54
  go_wp2_with (go_at_call 91; refine (HC.out _).mono ?_; rintro e w' ⟨rfl, rfl⟩)
  go_ret
  exact ⟨rfl, box_b _ _⟩

/-- a table that a law has copied: in a block of its own -/
def ToPost (w : World) (f : Int) (xs : List Int) (l : Nat) (e : Ending) (w' : World) : Prop := ∃ B, e = .returned (.agg #[.int .i64 f, .slice (some ⟨B, 0, none⟩) l l]) ∧ w.heap.size ≤ B ∧ Blk w' B xs ∧ Below w.heap.size w w'

theorem toT_any (f : Int) (xs : List Int) (a : Option Addr) (l c : Nat) (w : World) (h : Ints w a l xs) (hl : l ≤ 1048576) :
    Calls Tryz.prog 55 #[.agg #[.int .i64 f, .slice a l c]] w (ToPost w f xs l) := by
  have HL := Lib.hid h.len
  have H := Lib.hid h
  clear h
  go_enter Tryz.func55, Tryz.ntmps55
  go_wp2_with fail
  have HB : Hid (Below w.heap.size w (((w.alloc (.cells #[.int .i64 f, .slice a l c] 41)).alloc (.cells #[.int .i64 0, .slice none 0 0] 26)).alloc (.cells #[.int .i64 f, .slice none 0 0] 26))) := Lib.hid (((box_b _ _).alloc (by simp) _).alloc (by simp; omega) _)
  refine (toS_any xs _ _ _ _ (H.out.on HB.out) hl).mono ?_
  rintro e w4 ⟨rfl, hk, hz, hb⟩
  have hc20 : w4.cell? ⟨w.heap.size + 1 + 1, 0, none⟩ = some (.int .i64 f) := (hb.cell (p := ⟨w.heap.size + 1 + 1, 0, none⟩) (by simp)).trans (by go_simp)
  have hc21 : w4.cell? ⟨w.heap.size + 1 + 1, 1, none⟩ = some (.slice none 0 0) := (hb.cell (p := ⟨w.heap.size + 1 + 1, 1, none⟩) (by simp)).trans (by go_simp)
  have hf21 : w4.frozen? ⟨w.heap.size + 1 + 1, 1, none⟩ = false := (hb.frozen (p := ⟨w.heap.size + 1 + 1, 1, none⟩) (by simp)).trans (by go_simp)
  have hc10 : w4.cell? ⟨w.heap.size + 1, 0, none⟩ = some (.int .i64 0) := (hb.cell (p := ⟨w.heap.size + 1, 0, none⟩) (by simp)).trans (by go_simp)
  have hc11 : w4.cell? ⟨w.heap.size + 1, 1, none⟩ = some (.slice none 0 0) := (hb.cell (p := ⟨w.heap.size + 1, 1, none⟩) (by simp)).trans (by go_simp)
  have hf10 : w4.frozen? ⟨w.heap.size + 1, 0, none⟩ = false := (hb.frozen (p := ⟨w.heap.size + 1, 0, none⟩) (by simp)).trans (by go_simp)
  have hf11 : w4.frozen? ⟨w.heap.size + 1, 1, none⟩ = false := (hb.frozen (p := ⟨w.heap.size + 1, 1, none⟩) (by simp)).trans (by go_simp)
  have HK : Hid (Blk w4 (w.heap.size + 1 + 1 + 1) xs) := Lib.hid (by rw [World.size_alloc, World.size_alloc, World.size_alloc] at hk; exact hk)
  have HBB := Lib.hid (HB.out.trans (hb.mono (by simp; omega)))
  clear hk hz hb
  go_wp2_with fail
  refine bodyPost_ret (v := .agg #[.int .i64 f, .slice (some ⟨w.heap.size + 1 + 1 + 1, 0, none⟩) l l]) ?_ rfl ⟨w.heap.size + 1 + 1 + 1, rfl, by omega, ?_, ?_⟩
  · simp [results, Tryz.results55, go_sem, hc10, hc11]
  · exact ((HK.out.same (Below.heap_setCell _ _ _ _ (by show w.heap.size + 1 + 1 + 1 ≠ w.heap.size + 1 + 1; omega))).same (Below.heap_setCell _ _ _ _ (by show w.heap.size + 1 + 1 + 1 ≠ w.heap.size + 1; omega))).same (Below.heap_setCell _ _ _ _ (by show w.heap.size + 1 + 1 + 1 ≠ w.heap.size + 1; omega))
  · exact ((HBB.out.setCell (by simp; omega) _).setCell (by simp) _).setCell (by simp) _

theorem eqT_any (f g : Int) (xs ys : List Int) (a b : Option Addr) (l m c d : Nat) (w : World) (h : Ints w a l xs) (k : Ints w b m ys) :
    Calls Tryz.prog 56 #[.agg #[.int .i64 f, .slice a l c], .agg #[.int .i64 g, .slice b m d]] w fun e w' => e = .returned (.bool (decide (f = g ∧ xs = ys))) ∧ Below w.heap.size w w' := by
  have HB : Hid (Below w.heap.size w ((w.alloc (.cells #[.int .i64 f, .slice a l c] 26)).alloc (.cells #[.int .i64 g, .slice b m d] 26))) := Lib.hid ((box_b _ _).alloc (by simp) _)
  have H := Lib.hid (h.on HB.out)
  have K := Lib.hid (k.on HB.out)
  clear h k
  by_cases hfg : f = g
  · subst hfg
    go_enter Tryz.func56, Tryz.ntmps56
    go_wp2_with fail
    refine (eqS_any xs ys _ _ _ _ _ _ _ H.out K.out).mono ?_
    rintro e w4 ⟨rfl, n, rfl⟩
    by_cases hxy : xs = ys
    · have hd : decide (xs = ys) = true := by simpa using hxy
      have HD : Hid (decide (f = f ∧ xs = ys) = true) := Lib.hid (by simpa using hxy)
      clear hxy
      rw [hd]
      go_wp2_with fail
      go_ret
      exact ⟨ret_bool HD.out.symm, below_drewN HB.out _⟩
    · have hd : decide (xs = ys) = false := by simpa using hxy
      have HD : Hid (decide (f = f ∧ xs = ys) = false) := Lib.hid (by simpa using hxy)
      clear hxy
      rw [hd]
      go_wp2_with fail
      go_ret
      exact ⟨ret_bool HD.out.symm, below_drewN HB.out _⟩
  · have hne : (f != g) = true := by simpa using hfg
    have HD : Hid (decide (f = g ∧ xs = ys) = false) := Lib.hid (by simp [hfg])
    clear hfg
    go_enter Tryz.func56, Tryz.ntmps56
    go_wp2_with fail
    go_ret
    exact ⟨ret_bool HD.out.symm, HB.out⟩

theorem eqT_same (f : Int) (xs : List Int) (a b : Option Addr) (l m c d : Nat) (w : World) (h : Ints w a l xs) (k : Ints w b m xs) :
    Calls Tryz.prog 56 #[.agg #[.int .i64 f, .slice a l c], .agg #[.int .i64 f, .slice b m d]] w fun e w' => e = .returned (.bool true) ∧ Below w.heap.size w w' := by
  have := eqT_any f f xs xs a b l m c d w h k
  simpa using this

end Go.Proofs.YtdlfofdibooidaaGreat

/- Policies: a basis and a policy that a law counts, copies and compares. (Written by wip/gen/poh.py.) -/
namespace Go.Proofs.YtdlfofdibooidaaGreat
open Go.ChangeShapes Go.WideShapes Go.ChangeAt Go.RowKit
set_option linter.unusedVariables false
set_option maxRecDepth 100000

theorem szB_big (r f : Int) (a : Option Addr) (l c : Nat) (w : World) (hl : l ≤ 9223372036854775807) (h : (1048576 : Int) < l) :
    Calls Tryz.prog 29 #[.agg #[.int .i64 f, .slice a l c, .int .i64 r], .int .i64 1048576] w fun e w' => e = .returned (.int .i64 (-1)) ∧ Below w.heap.size w w' := by
  have HC := Lib.hid (fun W => szT_big f a l c W hl h)
  clear h
  go_enter Tryz.func29, Tryz.ntmps29
  go_wp2_with fail
  refine (HC.out _).mono ?_
  rintro e w1 ⟨rfl, hb⟩
  obtain ⟨hB, hc0, hc1, hc2⟩ := bx3 hb
  have HB := Lib.hid hB
  clear hb hB
  go_wp2_with fail
  go_ret
  exact ⟨rfl, HB.out⟩

theorem szB_fit (r f : Int) (a : Option Addr) (l c : Nat) (w : World) (h : (l : Int) ≤ 1048576) :
    Calls Tryz.prog 29 #[.agg #[.int .i64 f, .slice a l c, .int .i64 r], .int .i64 1048576] w fun e w' => e = .returned (.int .i64 (1048576 - l)) ∧ Below w.heap.size w w' := by
  have HC := Lib.hid (fun W => szT_fit f a l c W h)
  have hp : ¬ 1048576 - (l : Int) < 0 := by omega
  clear h
  go_enter Tryz.func29, Tryz.ntmps29
  go_wp2_with fail
  refine (HC.out _).mono ?_
  rintro e w1 ⟨rfl, hb⟩
  obtain ⟨hB, hc0, hc1, hc2⟩ := bx3 hb
  have HB := Lib.hid hB
  clear hb hB
  go_wp2_with fail
  go_ret
  exact ⟨rfl, HB.out⟩

/-- a basis that a law has copied: its lives in a block of their own -/
def TbPost (w : World) (f : Int) (xs : List Int) (l : Nat) (r : Int) (e : Ending) (w' : World) : Prop := ∃ B, e = .returned (.agg #[.int .i64 f, .slice (some ⟨B, 0, none⟩) l l, .int .i64 r]) ∧ w.heap.size ≤ B ∧ Blk w' B xs ∧ Below w.heap.size w w'

theorem Bx.three {w : World} {B : Nat} {x y z : Value} (h : Bx w B [x, y, z]) : w.cell? ⟨B, 0, none⟩ = some x ∧ w.cell? ⟨B, 1, none⟩ = some y ∧ w.cell? ⟨B, 2, none⟩ = some z := by
  obtain ⟨T, h⟩ := h
  simp [World.cell?, h]

set_option maxHeartbeats 1000000 in
theorem toB_any (r f : Int) (xs : List Int) (a : Option Addr) (l c : Nat) (w : World) (h : Ints w a l xs) (hl : l ≤ 1048576) :
    Calls Tryz.prog 30 #[.agg #[.int .i64 f, .slice a l c, .int .i64 r]] w (TbPost w f xs l r) := by
  have hB1 := box_b w (.cells #[.int .i64 f, .slice a l c, .int .i64 r] 43)
  have hB2 := box_b (w.alloc (.cells #[.int .i64 f, .slice a l c, .int .i64 r] 43)) (.cells #[.int .i64 0, .slice none 0 0, .int .i64 0] 28)
  have hB3 := box_b ((w.alloc (.cells #[.int .i64 f, .slice a l c, .int .i64 r] 43)).alloc (.cells #[.int .i64 0, .slice none 0 0, .int .i64 0] 28)) (.cells #[.int .i64 0, .slice none 0 0, .int .i64 0] 28)
  have HB : Hid (Below w.heap.size w (((w.alloc (.cells #[.int .i64 f, .slice a l c, .int .i64 r] 43)).alloc (.cells #[.int .i64 0, .slice none 0 0, .int .i64 0] 28)).alloc (.cells #[.int .i64 0, .slice none 0 0, .int .i64 0] 28))) := Lib.hid ((hB1.trans (hB2.mono (by simp))).trans (hB3.mono (by simp; omega)))
  have x0 := ((Bx.new w [.int .i64 f, .slice a l c, .int .i64 r] 43).on hB2).on hB3
  have x1 := (Bx.new (w.alloc (.cells #[.int .i64 f, .slice a l c, .int .i64 r] 43)) [.int .i64 0, .slice none 0 0, .int .i64 0] 28).on hB3
  have x2 := Bx.new ((w.alloc (.cells #[.int .i64 f, .slice a l c, .int .i64 r] 43)).alloc (.cells #[.int .i64 0, .slice none 0 0, .int .i64 0] 28)) [.int .i64 0, .slice none 0 0, .int .i64 0] 28
  rw [World.size_alloc] at x1
  rw [World.size_alloc, World.size_alloc] at x2
  have HX := Lib.hid (And.intro x0 (And.intro x1 x2))
  have HT : Hid (∀ W, Hid (Below w.heap.size w W) → Calls Tryz.prog 55 #[.agg #[.int .i64 f, .slice a l c]] W (ToPost W f xs l)) := Lib.hid (fun W hW => toT_any f xs a l c W (h.on hW.out) hl)
  clear x0 x1 x2 hB1 hB2 hB3 h
  go_enter Tryz.func30, Tryz.ntmps30
  go_wp2_with fail
  have hS : ((((w.alloc (.cells #[.int .i64 f, .slice a l c, .int .i64 r] 43)).alloc (.cells #[.int .i64 0, .slice none 0 0, .int .i64 0] 28)).alloc (.cells #[.int .i64 0, .slice none 0 0, .int .i64 0] 28))).heap.size = w.heap.size + 1 + 1 + 1 := by simp
  obtain ⟨W0, hW0⟩ : ∃ y_, (((w.alloc (.cells #[.int .i64 f, .slice a l c, .int .i64 r] 43)).alloc (.cells #[.int .i64 0, .slice none 0 0, .int .i64 0] 28)).alloc (.cells #[.int .i64 0, .slice none 0 0, .int .i64 0] 28)) = y_ := ⟨_, rfl⟩
  rw [hW0] at HB HX hS ⊢
  clear hW0
  with_reducible refine (HT.out _ HB).mono ?_
  rintro e w4 ⟨B, rfl, hg, hk, hb⟩
  obtain ⟨x0, x1, x2⟩ := HX.out
  have y0 := x0.on hb
  have y1 := x1.on hb
  have y2 := x2.on hb
  obtain ⟨c0, c1, c2⟩ := y0.three
  obtain ⟨d0, d1, d2⟩ := y1.three
  obtain ⟨e0, e1, e2⟩ := y2.three
  have p0 := y1.free 0
  have p1 := y1.free 1
  have p2 := y1.free 2
  have q0 := y2.free 0
  have q1 := y2.free 1
  have q2 := y2.free 2
  have HK := Lib.hid hk
  have HG : Hid (w.heap.size + 1 + 1 + 1 ≤ B) := Lib.hid (by rw [← hS]; exact hg)
  have HBB := Lib.hid (HB.out.trans (hb.mono HB.out.size))
  clear hk hb x0 x1 x2 y0 y1 y2 HX HT HB hg hS
  go_wp2_with fail
  refine bodyPost_ret (v := .agg #[.int .i64 f, .slice (some ⟨B, 0, none⟩) l l, .int .i64 r]) ?_ rfl ⟨B, rfl, by have := HG.out; omega, ?_, ?_⟩
  · simp [results, Tryz.results30, go_sem, d0, d1, d2]
  · exact ((((((HK.out.same (Below.heap_setCell _ _ _ _ (by show B ≠ w.heap.size + 1 + 1; have := HG.out; omega))).same (Below.heap_setCell _ _ _ _ (by show B ≠ w.heap.size + 1 + 1; have := HG.out; omega))).same (Below.heap_setCell _ _ _ _ (by show B ≠ w.heap.size + 1 + 1; have := HG.out; omega))).same (Below.heap_setCell _ _ _ _ (by show B ≠ w.heap.size + 1; have := HG.out; omega))).same (Below.heap_setCell _ _ _ _ (by show B ≠ w.heap.size + 1; have := HG.out; omega))).same (Below.heap_setCell _ _ _ _ (by show B ≠ w.heap.size + 1; have := HG.out; omega)))
  · exact ((((((HBB.out.setCell (p := ⟨w.heap.size + 1 + 1, 0, none⟩) (by show w.heap.size ≤ w.heap.size + 1 + 1; omega) _).setCell (p := ⟨w.heap.size + 1 + 1, 1, none⟩) (by show w.heap.size ≤ w.heap.size + 1 + 1; omega) _).setCell (p := ⟨w.heap.size + 1 + 1, 2, none⟩) (by show w.heap.size ≤ w.heap.size + 1 + 1; omega) _).setCell (p := ⟨w.heap.size + 1, 0, none⟩) (by show w.heap.size ≤ w.heap.size + 1; omega) _).setCell (p := ⟨w.heap.size + 1, 1, none⟩) (by show w.heap.size ≤ w.heap.size + 1; omega) _).setCell (p := ⟨w.heap.size + 1, 2, none⟩) (by show w.heap.size ≤ w.heap.size + 1; omega) _)

set_option maxHeartbeats 1000000 in
theorem toP_any (k x n s u : Int) (w : World) : Calls Tryz.prog 31 #[.agg #[.int .i64 k, .int .i64 x, .int .i64 n, .int .i64 s, .int .i64 u]] w fun e w' => e = .returned (.agg #[.int .i64 k, .int .i64 x, .int .i64 n, .int .i64 s, .int .i64 u]) ∧ Below w.heap.size w w' := by
  have hB1 := box_b w (.cells #[.int .i64 k, .int .i64 x, .int .i64 n, .int .i64 s, .int .i64 u] 44)
  have hB2 := box_b (w.alloc (.cells #[.int .i64 k, .int .i64 x, .int .i64 n, .int .i64 s, .int .i64 u] 44)) (.cells #[.int .i64 0, .int .i64 0, .int .i64 0, .int .i64 0, .int .i64 0] 30)
  have hB3 := box_b ((w.alloc (.cells #[.int .i64 k, .int .i64 x, .int .i64 n, .int .i64 s, .int .i64 u] 44)).alloc (.cells #[.int .i64 0, .int .i64 0, .int .i64 0, .int .i64 0, .int .i64 0] 30)) (.cells #[.int .i64 0, .int .i64 0, .int .i64 0, .int .i64 0, .int .i64 0] 30)
  have HB : Hid (Below w.heap.size w (((w.alloc (.cells #[.int .i64 k, .int .i64 x, .int .i64 n, .int .i64 s, .int .i64 u] 44)).alloc (.cells #[.int .i64 0, .int .i64 0, .int .i64 0, .int .i64 0, .int .i64 0] 30)).alloc (.cells #[.int .i64 0, .int .i64 0, .int .i64 0, .int .i64 0, .int .i64 0] 30))) := Lib.hid ((hB1.trans (hB2.mono (by simp))).trans (hB3.mono (by simp; omega)))
  have x0 := ((Bx.new w [.int .i64 k, .int .i64 x, .int .i64 n, .int .i64 s, .int .i64 u] 44).on hB2).on hB3
  have x1 := (Bx.new (w.alloc (.cells #[.int .i64 k, .int .i64 x, .int .i64 n, .int .i64 s, .int .i64 u] 44)) [.int .i64 0, .int .i64 0, .int .i64 0, .int .i64 0, .int .i64 0] 30).on hB3
  have x2 := Bx.new ((w.alloc (.cells #[.int .i64 k, .int .i64 x, .int .i64 n, .int .i64 s, .int .i64 u] 44)).alloc (.cells #[.int .i64 0, .int .i64 0, .int .i64 0, .int .i64 0, .int .i64 0] 30)) [.int .i64 0, .int .i64 0, .int .i64 0, .int .i64 0, .int .i64 0] 30
  rw [World.size_alloc] at x1
  rw [World.size_alloc, World.size_alloc] at x2
  obtain ⟨c0, c1, c2, c3, c4⟩ := x0.five0
  obtain ⟨d0, d1, d2, d3, d4⟩ := x1.five0
  obtain ⟨e0, e1, e2, e3, e4⟩ := x2.five0
  have p0 := x1.free 0
  have q0 := x2.free 0
  have p1 := x1.free 1
  have q1 := x2.free 1
  have p2 := x1.free 2
  have q2 := x2.free 2
  have p3 := x1.free 3
  have q3 := x2.free 3
  have p4 := x1.free 4
  have q4 := x2.free 4
  clear x0 x1 x2 hB1 hB2 hB3
  obtain ⟨W0, hW0⟩ : ∃ y_, ((w.alloc (.cells #[.int .i64 k, .int .i64 x, .int .i64 n, .int .i64 s, .int .i64 u] 44)).alloc (.cells #[.int .i64 0, .int .i64 0, .int .i64 0, .int .i64 0, .int .i64 0] 30)).alloc (.cells #[.int .i64 0, .int .i64 0, .int .i64 0, .int .i64 0, .int .i64 0] 30) = y_ := ⟨_, rfl⟩
  rw [hW0] at HB c0 c1 c2 c3 c4 d0 d1 d2 d3 d4 e0 e1 e2 e3 e4 p0 p1 p2 p3 p4 q0 q1 q2 q3 q4
  go_enter Tryz.func31, Tryz.ntmps31
  go_wp2_with fail
  refine bodyPost_ret (v := .agg #[.int .i64 k, .int .i64 x, .int .i64 n, .int .i64 s, .int .i64 u]) ?_ rfl ⟨rfl, ?_⟩
  · simp [results, Tryz.results31, go_sem, d0, d1, d2, d3, d4]
  · exact ((((((((((HB.out.setCell (p := ⟨w.heap.size + 1 + 1, 0, none⟩) (by show w.heap.size ≤ w.heap.size + 1 + 1; omega) _).setCell (p := ⟨w.heap.size + 1 + 1, 1, none⟩) (by show w.heap.size ≤ w.heap.size + 1 + 1; omega) _).setCell (p := ⟨w.heap.size + 1 + 1, 2, none⟩) (by show w.heap.size ≤ w.heap.size + 1 + 1; omega) _).setCell (p := ⟨w.heap.size + 1 + 1, 3, none⟩) (by show w.heap.size ≤ w.heap.size + 1 + 1; omega) _).setCell (p := ⟨w.heap.size + 1 + 1, 4, none⟩) (by show w.heap.size ≤ w.heap.size + 1 + 1; omega) _).setCell (p := ⟨w.heap.size + 1, 0, none⟩) (by show w.heap.size ≤ w.heap.size + 1; omega) _).setCell (p := ⟨w.heap.size + 1, 1, none⟩) (by show w.heap.size ≤ w.heap.size + 1; omega) _).setCell (p := ⟨w.heap.size + 1, 2, none⟩) (by show w.heap.size ≤ w.heap.size + 1; omega) _).setCell (p := ⟨w.heap.size + 1, 3, none⟩) (by show w.heap.size ≤ w.heap.size + 1; omega) _).setCell (p := ⟨w.heap.size + 1, 4, none⟩) (by show w.heap.size ≤ w.heap.size + 1; omega) _)

theorem eqB_same (r f : Int) (xs : List Int) (a b : Option Addr) (l m c d : Nat) (w : World) (h : Ints w a l xs) (k : Ints w b m xs) :
    Calls Tryz.prog 32 #[.agg #[.int .i64 f, .slice a l c, .int .i64 r], .agg #[.int .i64 f, .slice b m d, .int .i64 r]] w fun e w' => e = .returned (.bool true) ∧ Below w.heap.size w w' := by
  have hB1 := box_b w (.cells #[.int .i64 f, .slice a l c, .int .i64 r] 28)
  have hB2 := box_b (w.alloc (.cells #[.int .i64 f, .slice a l c, .int .i64 r] 28)) (.cells #[.int .i64 f, .slice b m d, .int .i64 r] 28)
  have HB := Lib.hid (hB1.trans (hB2.mono (by simp)))
  have x0 := (Bx.new w [.int .i64 f, .slice a l c, .int .i64 r] 28).on hB2
  have x1 := Bx.new (w.alloc (.cells #[.int .i64 f, .slice a l c, .int .i64 r] 28)) [.int .i64 f, .slice b m d, .int .i64 r] 28
  rw [World.size_alloc] at x1
  have HX := Lib.hid (And.intro x0 x1)
  have HE := Lib.hid (eqT_same f xs a b l m c d _ (h.on HB.out) (k.on HB.out))
  clear x0 x1 hB1 hB2 h k
  go_enter Tryz.func32, Tryz.ntmps32
  go_wp2_with fail
  with_reducible refine HE.out.mono ?_
  rintro e w4 ⟨rfl, hb⟩
  have y0 := HX.out.1.on hb
  have y1 := HX.out.2.on hb
  obtain ⟨c0, c1, c2⟩ := y0.three
  obtain ⟨d0, d1, d2⟩ := y1.three
  have HBB := Lib.hid (HB.out.trans (hb.mono HB.out.size))
  clear hb HX y0 y1
  go_wp2_with fail
  go_ret
  exact ⟨rfl, HBB.out⟩

end Go.Proofs.YtdlfofdibooidaaGreat

/- Policies: the boxes of a law on a basis and a policy. (Written by wip/gen/poy.py.) -/
namespace Go.Proofs.YtdlfofdibooidaaGreat
open Go.ChangeShapes Go.WideShapes Go.ChangeAt Go.RowKit
set_option linter.unusedVariables false
set_option maxRecDepth 100000

/-- the boxes of a law, and the copy with which the program is called -/
structure LX (w : World) (f : Int) (v : Value) (r k x n s u : Int) (X B l : Nat) (xs : List Int) (W : World) : Prop where
  bp : BP w f v r k x n s u W
  x : Bx W X [.int .i64 f, .slice (some ⟨B, 0, none⟩) l l, .int .i64 r]
  b : Blk W B xs

theorem LX.on {w : World} {f : Int} {v : Value} {r k x n s u : Int} {X B l : Nat} {xs : List Int} {W W' : World} (h : LX w f v r k x n s u X B l xs W) (hb : Below W.heap.size W W') : LX w f v r k x n s u X B l xs W' := ⟨h.bp.on hb, h.x.on hb, h.b.step hb⟩

theorem LX.drew {w : World} {f : Int} {v : Value} {r k x n s u : Int} {X B l : Nat} {xs : List Int} {W : World} (h : LX w f v r k x n s u X B l xs W) : LX w f v r k x n s u X B l xs W.drew := h.on (Below.drew (Below.refl _ _))

theorem lxP {w : World} {f : Int} {v : Value} {r k x n s u : Int} {X B l : Nat} {xs : List Int} {W : World} (h : LX w f v r k x n s u X B l xs W) :
    W.cell? ⟨X, 0, none⟩ = some (.int .i64 f) ∧ W.cell? ⟨X, 1, none⟩ = some (.slice (some ⟨B, 0, none⟩) l l) ∧ W.cell? ⟨X, 2, none⟩ = some (.int .i64 r) ∧ W.cell? ⟨w.heap.size + 1, 0, none⟩ = some (.int .i64 k) ∧ W.cell? ⟨w.heap.size + 1, 1, none⟩ = some (.int .i64 x) ∧ W.cell? ⟨w.heap.size + 1, 2, none⟩ = some (.int .i64 n) ∧ W.cell? ⟨w.heap.size + 1, 3, none⟩ = some (.int .i64 s) ∧ W.cell? ⟨w.heap.size + 1, 4, none⟩ = some (.int .i64 u) ∧ Hid (LX w f v r k x n s u X B l xs W) := by
  obtain ⟨c0, c1, c2⟩ := h.x.three
  exact ⟨c0, c1, c2, h.bp.p0, h.bp.p1, h.bp.p2, h.bp.p3, h.bp.p4, Lib.hid h⟩

theorem lxB {w : World} {f : Int} {v : Value} {r k x n s u : Int} {X B l : Nat} {xs : List Int} {W : World} (h : LX w f v r k x n s u X B l xs W) :
    W.cell? ⟨X, 0, none⟩ = some (.int .i64 f) ∧ W.cell? ⟨X, 1, none⟩ = some (.slice (some ⟨B, 0, none⟩) l l) ∧ W.cell? ⟨X, 2, none⟩ = some (.int .i64 r) ∧ W.cell? ⟨w.heap.size, 0, none⟩ = some (.int .i64 f) ∧ W.cell? ⟨w.heap.size, 1, none⟩ = some (v) ∧ W.cell? ⟨w.heap.size, 2, none⟩ = some (.int .i64 r) ∧ Hid (LX w f v r k x n s u X B l xs W) := by
  obtain ⟨c0, c1, c2⟩ := h.x.three
  exact ⟨c0, c1, c2, h.bp.b0, h.bp.b1, h.bp.b2, Lib.hid h⟩

end Go.Proofs.YtdlfofdibooidaaGreat
