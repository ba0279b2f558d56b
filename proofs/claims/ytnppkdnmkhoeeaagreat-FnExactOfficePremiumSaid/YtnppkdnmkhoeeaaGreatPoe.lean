/- Policies: the program's IsPolicy, NetPremium, DurationOf, PremiumGain. (Written by wip/gen/poe.py.) -/
import Derived.Test.YtnppkdnmkhoeeaaGreatPof
import Derived.Test.YtnppkdnmkhoeeaaGreatPot
namespace Go.Proofs.YtnppkdnmkhoeeaaGreat
open Go.ChangeShapes Go.WideShapes Go.ChangeAt Go.RowKit
set_option linter.unusedVariables false
set_option maxRecDepth 100000

theorem ipol_any (r f : Int) (xs : List Int) (a : Option Addr) (l c : Nat) (k x n s u : Int) (w : World) (h : Ints w a l xs) (hlc : l ≤ c) :
    Calls Tryz.prog 17 #[.agg #[.int .i64 f, .slice a l c, .int .i64 r], .agg #[.int .i64 k, .int .i64 x, .int .i64 n, .int .i64 s, .int .i64 u]] w fun e w' => e = .returned (.bool (poB r f xs k x n s u)) ∧ Below w.heap.size w w' := by
  have H := Lib.hid h
  clear h
  have HP := Lib.hid (BP.new w f (.slice a l c) r k x n s u 28 30)
  by_cases hp : poB r f xs k x n s u = true
  · rw [hp]
    have CT : Hid (∀ W, Hid (BP w f (.slice a l c) r k x n s u W) → Calls Tryz.prog 29 #[.agg #[.int .i64 f, .slice a l c, .int .i64 r], .agg #[.int .i64 k, .int .i64 x, .int .i64 n, .int .i64 s, .int .i64 u]] W (TfYes r f xs (.slice a l c) k x n u W)) := Lib.hid (fun W hW => itf_yes r f xs a l c k x n s u W (H.out.on hW.out.low) hlc hp)
    unfold TfYes at CT
    clear hp
    go_enter Tryz.func17, Tryz.ntmps17
    go_wp2_with fail
    obtain ⟨W1, hW1⟩ : ∃ W1, ((w.alloc (.cells #[.int .i64 f, .slice a l c, .int .i64 r] 28)).alloc (.cells #[.int .i64 k, .int .i64 x, .int .i64 n, .int .i64 s, .int .i64 u] 30)) = W1 := ⟨_, rfl⟩
    rw [hW1] at HP ⊢
    clear hW1
    with_reducible refine (CT.out _ HP).mono ?_
    rintro e w1 ⟨R, M, D, rfl, htf, hnew, hb⟩
    have HM : Hid (w.heap.size ≤ M) := Lib.hid (Nat.le_trans HP.out.low.size hnew)
    have HP := Lib.hid (HP.out.on hb)
    have HT := Lib.hid htf
    obtain ⟨b0, b1, b2, p0, p1, p2, p3, p4, -⟩ := bpS HP.out
    clear hb htf hnew
    go_wp2_with fail
    go_ret
    exact ⟨rfl, HP.out.low⟩
  · have hp : poB r f xs k x n s u = false := by simpa using hp
    rw [hp]
    have CT : Hid (∀ W, Hid (BP w f (.slice a l c) r k x n s u W) → Calls Tryz.prog 29 #[.agg #[.int .i64 f, .slice a l c, .int .i64 r], .agg #[.int .i64 k, .int .i64 x, .int .i64 n, .int .i64 s, .int .i64 u]] W (TfNo W)) := Lib.hid (fun W hW => itf_no r f xs a l c k x n s u W (H.out.on hW.out.low) hlc hp)
    unfold TfNo at CT
    clear hp
    go_enter Tryz.func17, Tryz.ntmps17
    go_wp2_with fail
    obtain ⟨W1, hW1⟩ : ∃ W1, ((w.alloc (.cells #[.int .i64 f, .slice a l c, .int .i64 r] 28)).alloc (.cells #[.int .i64 k, .int .i64 x, .int .i64 n, .int .i64 s, .int .i64 u] 30)) = W1 := ⟨_, rfl⟩
    rw [hW1] at HP ⊢
    clear hW1
    with_reducible refine (CT.out _ HP).mono ?_
    rintro e w1 ⟨rfl, hb⟩
    have HP := Lib.hid (HP.out.on hb)
    obtain ⟨b0, b1, b2, p0, p1, p2, p3, p4, -⟩ := bpS HP.out
    clear hb
    go_wp2_with fail
    go_ret
    exact ⟨rfl, HP.out.low⟩

set_option maxHeartbeats 1000000 in
theorem inp_any (r f : Int) (xs : List Int) (a : Option Addr) (l c : Nat) (k x n s u : Int) (w : World) (h : Ints w a l xs) (hlc : l ≤ c) :
    Calls Tryz.prog 10 #[.agg #[.int .i64 f, .slice a l c, .int .i64 r], .agg #[.int .i64 k, .int .i64 x, .int .i64 n, .int .i64 s, .int .i64 u]] w (IIPost (netV r f xs k x n s u) (poE r f xs k x n s u) w) := by
  have H := Lib.hid h
  clear h
  have HP := Lib.hid (BP.new w f (.slice a l c) r k x n s u 28 30)
  unfold IIPost
  by_cases hp : poB r f xs k x n s u = true
  · have HV : Hid (netV r f xs k x n s u = netN r f xs k x n s) := Lib.hid (by unfold netV; rw [if_pos hp])
    rw [HV.out, poE_yes hp]
    have CT : Hid (∀ W, Hid (BP w f (.slice a l c) r k x n s u W) → Calls Tryz.prog 29 #[.agg #[.int .i64 f, .slice a l c, .int .i64 r], .agg #[.int .i64 k, .int .i64 x, .int .i64 n, .int .i64 s, .int .i64 u]] W (TfYes r f xs (.slice a l c) k x n u W)) := Lib.hid (fun W hW => itf_yes r f xs a l c k x n s u W (H.out.on hW.out.low) hlc hp)
    unfold TfYes at CT
    have CN : Hid (∀ R M D W, TF R M D r f xs (.slice a l c) k x n u W → Calls Tryz.prog 37 #[.pointer (some ⟨D, 0, none⟩), .agg #[.int .i64 k, .int .i64 x, .int .i64 n, .int .i64 s, .int .i64 u]] W (TPost (netN r f xs k x n s) R M D r f xs (.slice a l c) k x n u W)) :=
      Lib.hid (fun R M D W hW => inet_any R M D r f xs (.slice a l c) k x n s u W hW hp)
    obtain ⟨Z, hZ⟩ : ∃ y_, netN r f xs k x n s = y_ := ⟨_, rfl⟩
    rw [hZ] at CN ⊢
    unfold TPost at CN
    clear hp hZ HV
    go_enter Tryz.func10, Tryz.ntmps10
    go_wp2_with fail
    obtain ⟨W1, hW1⟩ : ∃ W1, ((w.alloc (.cells #[.int .i64 f, .slice a l c, .int .i64 r] 28)).alloc (.cells #[.int .i64 k, .int .i64 x, .int .i64 n, .int .i64 s, .int .i64 u] 30)) = W1 := ⟨_, rfl⟩
    rw [hW1] at HP ⊢
    clear hW1
    with_reducible refine (CT.out _ HP).mono ?_
    rintro e w1 ⟨R, M, D, rfl, htf, hnew, hb⟩
    have HM : Hid (w.heap.size ≤ M) := Lib.hid (Nat.le_trans HP.out.low.size hnew)
    have HP := Lib.hid (HP.out.on hb)
    have HT := Lib.hid htf
    obtain ⟨b0, b1, b2, p0, p1, p2, p3, p4, -⟩ := bpS HP.out
    clear hb htf hnew
    go_wp2_with fail
    with_reducible refine (CN.out R M D _ HT.out).mono ?_
    rintro e w2 ⟨rfl, -, hbm⟩
    have HB := Lib.hid (HP.out.low.trans (hbm.below HM.out HP.out.low.size))
    clear hbm
    go_wp2_with fail
    go_ret2
    exact ⟨rfl, HB.out⟩
  · have hp : poB r f xs k x n s u = false := by simpa using hp
    have HV : Hid (netV r f xs k x n s u = 0) := Lib.hid (by unfold netV; rw [hp]; rfl)
    rw [poE_no hp]
    have CT : Hid (∀ W, Hid (BP w f (.slice a l c) r k x n s u W) → Calls Tryz.prog 29 #[.agg #[.int .i64 f, .slice a l c, .int .i64 r], .agg #[.int .i64 k, .int .i64 x, .int .i64 n, .int .i64 s, .int .i64 u]] W (TfNo W)) := Lib.hid (fun W hW => itf_no r f xs a l c k x n s u W (H.out.on hW.out.low) hlc hp)
    unfold TfNo at CT
    clear hp
    go_enter Tryz.func10, Tryz.ntmps10
    go_wp2_with fail
    obtain ⟨W1, hW1⟩ : ∃ W1, ((w.alloc (.cells #[.int .i64 f, .slice a l c, .int .i64 r] 28)).alloc (.cells #[.int .i64 k, .int .i64 x, .int .i64 n, .int .i64 s, .int .i64 u] 30)) = W1 := ⟨_, rfl⟩
    rw [hW1] at HP ⊢
    clear hW1
    with_reducible refine (CT.out _ HP).mono ?_
    rintro e w1 ⟨rfl, hb⟩
    have HP := Lib.hid (HP.out.on hb)
    obtain ⟨b0, b1, b2, p0, p1, p2, p3, p4, -⟩ := bpS HP.out
    clear hb
    go_wp2_with fail
    go_ret2
    exact ⟨ret_ii HV.out.symm rfl, HP.out.low⟩

set_option maxHeartbeats 1000000 in
theorem ido_any (r f : Int) (xs : List Int) (a : Option Addr) (l c : Nat) (k x n s u : Int) (w : World) (h : Ints w a l xs) (hlc : l ≤ c) :
    Calls Tryz.prog 14 #[.agg #[.int .i64 f, .slice a l c, .int .i64 r], .agg #[.int .i64 k, .int .i64 x, .int .i64 n, .int .i64 s, .int .i64 u]] w (IIPost (durV r f xs k x n s u) (poE r f xs k x n s u) w) := by
  have hl := h.len
  have H := Lib.hid h
  clear h
  have HP := Lib.hid (BP.new w f (.slice a l c) r k x n s u 28 30)
  unfold IIPost
  by_cases hp : poB r f xs k x n s u = true
  · have HV : Hid (durV r f xs k x n s u = durN f xs k x n) := Lib.hid (by unfold durV; rw [if_pos hp])
    rw [HV.out, poE_yes hp]
    have CT : Hid (∀ W, Hid (BP w f (.slice a l c) r k x n s u W) → Calls Tryz.prog 29 #[.agg #[.int .i64 f, .slice a l c, .int .i64 r], .agg #[.int .i64 k, .int .i64 x, .int .i64 n, .int .i64 s, .int .i64 u]] W (TfYes r f xs (.slice a l c) k x n u W)) := Lib.hid (fun W hW => itf_yes r f xs a l c k x n s u W (H.out.on hW.out.low) hlc hp)
    unfold TfYes at CT
    have CN : Hid (∀ R M D W, TF R M D r f xs (.slice a l c) k x n u W → Calls Tryz.prog 40 #[.pointer (some ⟨D, 0, none⟩), .agg #[.int .i64 k, .int .i64 x, .int .i64 n, .int .i64 s, .int .i64 u]] W fun e w' => e = .returned (.int .i64 (durN f xs k x n)) ∧ Below W.heap.size W w') :=
      Lib.hid (fun R M D W hW => idur_any R M D r f xs a l c k x n s u W hW hp hl)
    obtain ⟨Z, hZ⟩ : ∃ y_, durN f xs k x n = y_ := ⟨_, rfl⟩
    rw [hZ] at CN ⊢
    clear hp hZ HV hl
    go_enter Tryz.func14, Tryz.ntmps14
    go_wp2_with fail
    obtain ⟨W1, hW1⟩ : ∃ W1, ((w.alloc (.cells #[.int .i64 f, .slice a l c, .int .i64 r] 28)).alloc (.cells #[.int .i64 k, .int .i64 x, .int .i64 n, .int .i64 s, .int .i64 u] 30)) = W1 := ⟨_, rfl⟩
    rw [hW1] at HP ⊢
    clear hW1
    with_reducible refine (CT.out _ HP).mono ?_
    rintro e w1 ⟨R, M, D, rfl, htf, hnew, hb⟩
    have HM : Hid (w.heap.size ≤ M) := Lib.hid (Nat.le_trans HP.out.low.size hnew)
    have HP := Lib.hid (HP.out.on hb)
    have HT := Lib.hid htf
    obtain ⟨b0, b1, b2, p0, p1, p2, p3, p4, -⟩ := bpS HP.out
    clear hb htf hnew
    go_wp2_with fail
    with_reducible refine (CN.out R M D _ HT.out).mono ?_
    rintro e w2 ⟨rfl, hb⟩
    have HB := Lib.hid (HP.out.on hb).low
    clear hb
    go_wp2_with fail
    go_ret2
    exact ⟨rfl, HB.out⟩
  · have hp : poB r f xs k x n s u = false := by simpa using hp
    have HV : Hid (durV r f xs k x n s u = 0) := Lib.hid (by unfold durV; rw [hp]; rfl)
    rw [poE_no hp]
    have CT : Hid (∀ W, Hid (BP w f (.slice a l c) r k x n s u W) → Calls Tryz.prog 29 #[.agg #[.int .i64 f, .slice a l c, .int .i64 r], .agg #[.int .i64 k, .int .i64 x, .int .i64 n, .int .i64 s, .int .i64 u]] W (TfNo W)) := Lib.hid (fun W hW => itf_no r f xs a l c k x n s u W (H.out.on hW.out.low) hlc hp)
    unfold TfNo at CT
    clear hp
    go_enter Tryz.func14, Tryz.ntmps14
    go_wp2_with fail
    obtain ⟨W1, hW1⟩ : ∃ W1, ((w.alloc (.cells #[.int .i64 f, .slice a l c, .int .i64 r] 28)).alloc (.cells #[.int .i64 k, .int .i64 x, .int .i64 n, .int .i64 s, .int .i64 u] 30)) = W1 := ⟨_, rfl⟩
    rw [hW1] at HP ⊢
    clear hW1
    with_reducible refine (CT.out _ HP).mono ?_
    rintro e w1 ⟨rfl, hb⟩
    have HP := Lib.hid (HP.out.on hb)
    obtain ⟨b0, b1, b2, p0, p1, p2, p3, p4, -⟩ := bpS HP.out
    clear hb
    go_wp2_with fail
    go_ret2
    exact ⟨ret_ii HV.out.symm rfl, HP.out.low⟩

set_option maxHeartbeats 1000000 in
theorem ipg_any (r f : Int) (xs : List Int) (a : Option Addr) (l c : Nat) (k x n s u : Int) (w : World) (h : Ints w a l xs) (hlc : l ≤ c) :
    Calls Tryz.prog 8 #[.agg #[.int .i64 f, .slice a l c, .int .i64 r], .agg #[.int .i64 k, .int .i64 x, .int .i64 n, .int .i64 s, .int .i64 u]] w (IIIPost (gnQV r f xs k x n s u) (gnRV r f xs k x n s u) (poE r f xs k x n s u) w) := by
  have H := Lib.hid h
  clear h
  have HP := Lib.hid (BP.new w f (.slice a l c) r k x n s u 28 30)
  unfold IIIPost
  by_cases hp : poB r f xs k x n s u = true
  · have HV : Hid (gnQV r f xs k x n s u = gnQ r f xs k x n s ∧ gnRV r f xs k x n s u = gnR r f xs k x n s) := Lib.hid (by unfold gnQV gnRV; rw [if_pos hp, if_pos hp]; exact ⟨rfl, rfl⟩)
    rw [poE_yes hp]
    have CT : Hid (∀ W, Hid (BP w f (.slice a l c) r k x n s u W) → Calls Tryz.prog 29 #[.agg #[.int .i64 f, .slice a l c, .int .i64 r], .agg #[.int .i64 k, .int .i64 x, .int .i64 n, .int .i64 s, .int .i64 u]] W (TfYes r f xs (.slice a l c) k x n u W)) := Lib.hid (fun W hW => itf_yes r f xs a l c k x n s u W (H.out.on hW.out.low) hlc hp)
    unfold TfYes at CT
    have CN : Hid (∀ R M D W, TF R M D r f xs (.slice a l c) k x n u W → Calls Tryz.prog 30 #[.pointer (some ⟨D, 0, none⟩), .agg #[.int .i64 k, .int .i64 x, .int .i64 n, .int .i64 s, .int .i64 u]] W (GPost (netN r f xs k x n s * asB r f xs k x n - s * asT r f xs k x n) (cD r xs (x - f).toNat) R M D r f xs (.slice a l c) k x n u W)) :=
      Lib.hid (fun R M D W hW => igain_any R M D r f xs (.slice a l c) k x n s u W hW hp)
    unfold gnQ gnR at HV
    obtain ⟨t, d, b, p, e1, e2, e3, e4, -, -, d0, d1, -, b1, -, -, g0, g1, -, -⟩ := po_nums hp
    rw [e1, e2, e3, e4] at HV CN
    obtain ⟨A, hA⟩ : ∃ y_, p * b - s * t = y_ := ⟨_, rfl⟩
    rw [hA] at HV CN
    have a0 : 0 ≤ A := by omega
    have a1 : A ≤ 152000000000000000 := by omega
    have r1 : A.tdiv d = A / d := Int.tdiv_eq_ediv_of_nonneg a0
    have r2 : A.tmod d = A % d := Int.tmod_eq_emod_of_nonneg a0
    have r3 : IntKind.i64.wrap (A / d) = A / d := IntWalk.i64_in _ (by
      have := Int.ediv_nonneg a0 (show 0 ≤ d by omega)
      have := Int.ediv_le_self d a0
      omega)
    have hdz : ¬ d = 0 := by omega
    have r4 : IntKind.i64.wrap (A % d) = A % d := IntWalk.i64_in _ (by
      have := Int.emod_nonneg A hdz
      have := Int.emod_lt_of_pos A (show 0 < d by omega)
      omega)
    have HVV := Lib.hid (show A / d = gnQV r f xs k x n s u ∧ A % d = gnRV r f xs k x n s u from ⟨HV.out.1.symm, HV.out.2.symm⟩)
    unfold GPost at CN
    clear hp hA HV e1 e2 e3 e4 g0 g1 b1
    go_enter Tryz.func8, Tryz.ntmps8
    go_wp2_with fail
    obtain ⟨W1, hW1⟩ : ∃ W1, ((w.alloc (.cells #[.int .i64 f, .slice a l c, .int .i64 r] 28)).alloc (.cells #[.int .i64 k, .int .i64 x, .int .i64 n, .int .i64 s, .int .i64 u] 30)) = W1 := ⟨_, rfl⟩
    rw [hW1] at HP ⊢
    clear hW1
    with_reducible refine (CT.out _ HP).mono ?_
    rintro e w1 ⟨R, M, D, rfl, htf, hnew, hb⟩
    have HM : Hid (w.heap.size ≤ M) := Lib.hid (Nat.le_trans HP.out.low.size hnew)
    have HP := Lib.hid (HP.out.on hb)
    have HT := Lib.hid htf
    obtain ⟨b0, b1, b2, p0, p1, p2, p3, p4, -⟩ := bpS HP.out
    clear hb htf hnew
    go_wp2_with fail
    with_reducible refine (CN.out R M D _ HT.out).mono ?_
    rintro e w2 ⟨rfl, -, hbm⟩
    have HB := Lib.hid (HP.out.low.trans (hbm.below HM.out HP.out.low.size))
    clear hbm b0 b1 b2 p0 p1 p2 p3 p4
    go_wp2_with fail
    go_region
    go_wp2_with fail
    go_ret3
    exact ⟨ret_3p HVV.out.1 HVV.out.2 rfl, HB.out.drew⟩
  · have hp : poB r f xs k x n s u = false := by simpa using hp
    have HV : Hid (gnQV r f xs k x n s u = 0 ∧ gnRV r f xs k x n s u = 0) := Lib.hid (by unfold gnQV gnRV; rw [hp]; exact ⟨rfl, rfl⟩)
    rw [poE_no hp]
    have CT : Hid (∀ W, Hid (BP w f (.slice a l c) r k x n s u W) → Calls Tryz.prog 29 #[.agg #[.int .i64 f, .slice a l c, .int .i64 r], .agg #[.int .i64 k, .int .i64 x, .int .i64 n, .int .i64 s, .int .i64 u]] W (TfNo W)) := Lib.hid (fun W hW => itf_no r f xs a l c k x n s u W (H.out.on hW.out.low) hlc hp)
    unfold TfNo at CT
    clear hp
    go_enter Tryz.func8, Tryz.ntmps8
    go_wp2_with fail
    obtain ⟨W1, hW1⟩ : ∃ W1, ((w.alloc (.cells #[.int .i64 f, .slice a l c, .int .i64 r] 28)).alloc (.cells #[.int .i64 k, .int .i64 x, .int .i64 n, .int .i64 s, .int .i64 u] 30)) = W1 := ⟨_, rfl⟩
    rw [hW1] at HP ⊢
    clear hW1
    with_reducible refine (CT.out _ HP).mono ?_
    rintro e w1 ⟨rfl, hb⟩
    have HP := Lib.hid (HP.out.on hb)
    obtain ⟨b0, b1, b2, p0, p1, p2, p3, p4, -⟩ := bpS HP.out
    clear hb
    go_wp2_with fail
    go_ret3
    exact ⟨ret_3p HV.out.1.symm HV.out.2.symm rfl, HP.out.low⟩

end Go.Proofs.YtnppkdnmkhoeeaaGreat
