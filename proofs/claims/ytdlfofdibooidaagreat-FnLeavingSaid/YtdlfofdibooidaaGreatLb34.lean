/- Merged: Lvt. -/
import Derived.Test.YtdlfofdibooidaaGreatLb14
import Derived.Test.YtdlfofdibooidaaGreatLb33
import Derived.BigQuiet

/- Leaving: the model's paid-up sum, kept years and best leaving. (Written by wip/gen/lvt.py.) -/
namespace Go.Proofs.YtdlfofdibooidaaGreat
open Go.ChangeShapes Go.WideShapes Go.ChangeAt Go.RowKit
set_option linter.unusedVariables false
set_option maxRecDepth 100000

set_option maxHeartbeats 4000000 in
theorem spu_any (r f : Int) (xs : List Int) (a : Option Addr) (l c : Nat) (k x n s u j : Int) (w : World) (h : Ints w a l xs) :
    Calls Tryz.prog 14 #[.agg #[.int .i64 f, .slice a l c, .int .i64 r], .agg #[.int .i64 k, .int .i64 x, .int .i64 n, .int .i64 s, .int .i64 u], .int .i64 j] w (IIPost (lvV (lvE r f xs k x n s u j) (puN r f xs k x n s j)) (lvE r f xs k x n s u j) w) := by
  have H := Lib.hid h
  clear h
  have HP := Lib.hid (BP.new w f (.slice a l c) r k x n s u 28 30)
  unfold IIPost
  have CE : Hid (∀ W, Hid (BP w f (.slice a l c) r k x n s u W) → Calls Tryz.prog 36 #[.agg #[.int .i64 f, .slice a l c, .int .i64 r], .agg #[.int .i64 k, .int .i64 x, .int .i64 n, .int .i64 s, .int .i64 u], .int .i64 j] W fun e w' => e = .returned (.int .i64 (lvE r f xs k x n s u j)) ∧ Below W.heap.size W w') :=
    Lib.hid (fun W hW => slc_any r f xs a l c k x n s u j W (H.out.on hW.out.low))
  by_cases he : lvE r f xs k x n s u j = 0
  · have HV : Hid (lvV (lvE r f xs k x n s u j) (puN r f xs k x n s j) = puN r f xs k x n s j) := Lib.hid (by unfold lvV; rw [if_pos he])
    rw [HV.out, he]
    rw [he] at CE
    obtain ⟨he2, hj2⟩ := lvE_iff.1 he
    obtain ⟨hp, hj, hd⟩ := rvE_iff.1 he2
    have CV : Hid (∀ W, Hid (BP w f (.slice a l c) r k x n s u W) → Calls Tryz.prog 39 #[.agg #[.int .i64 f, .slice a l c, .int .i64 r], .agg #[.int .i64 k, .int .i64 x, .int .i64 n, .int .i64 s, .int .i64 u], .int .i64 j] W fun e w' => e = .returned (.int .i64 (lsvN r f xs k x n s j)) ∧ Below W.heap.size W w') :=
        Lib.hid (fun W hW => slv_any r f xs a l c k x n s u j W (H.out.on hW.out.low) hp hj hd)
    have CP : Hid (∀ W, Hid (BP w f (.slice a l c) r k x n s u W) → Calls Tryz.prog 37 #[.agg #[.int .i64 f, .slice a l c, .int .i64 r], .agg #[.int .i64 k, .int .i64 x, .int .i64 n, .int .i64 s, .int .i64 u], .int .i64 j] W fun e w' => e = .returned (.tuple #[.int .i64 (ryT r f xs k x n j), .int .i64 (ryB r f xs k x n j), .int .i64 (dvN r f xs x j)]) ∧ Below W.heap.size W w') :=
        Lib.hid (fun W hW => rparts_any r f xs a l c k x n s u j W (H.out.on hW.out.low) hp hj)
    by_cases ht : ryT r f xs k x n j = 0
    · have HU : Hid (puN r f xs k x n s j = 0) := Lib.hid (by unfold puN; rw [if_pos ht])
      rw [HU.out]
      rw [ht] at CP
      obtain ⟨B_, hB⟩ : ∃ y_, ryB r f xs k x n j = y_ := ⟨_, rfl⟩
      obtain ⟨D_, hD⟩ : ∃ y_, dvN r f xs x j = y_ := ⟨_, rfl⟩
      rw [hB, hD] at CP
      clear hB hD HU CV HV he he2 hp hj hd ht
      go_enter Tryz.func14, Tryz.ntmps14
      go_wp2_with fail
      obtain ⟨W1, hW1⟩ : ∃ W1, ((w.alloc (.cells #[.int .i64 f, .slice a l c, .int .i64 r] 28)).alloc (.cells #[.int .i64 k, .int .i64 x, .int .i64 n, .int .i64 s, .int .i64 u] 30)) = W1 := ⟨_, rfl⟩
      rw [hW1] at HP ⊢
      clear hW1
      with_reducible refine (CE.out _ HP).mono ?_
      rintro e w1 ⟨rfl, hb⟩
      have HP := Lib.hid (HP.out.on hb)
      clear hb
      obtain ⟨b0, b1, b2, p0, p1, p2, p3, p4, -⟩ := bpS HP.out
      go_wp2_with fail
      with_reducible refine (CP.out _ HP).mono ?_
      rintro e w1 ⟨rfl, hb⟩
      have HP := Lib.hid (HP.out.on hb)
      clear b0 b1 b2 p0 p1 p2 p3 p4 hb
      obtain ⟨b0, b1, b2, p0, p1, p2, p3, p4, -⟩ := bpS HP.out
      go_wp2_with fail
      go_ret2
      exact ⟨rfl, HP.out.low⟩
    · have HU : Hid (puN r f xs k x n s j = lsvN r f xs k x n s j * dvN r f xs x j / ryT r f xs k x n j) := Lib.hid (by unfold puN; rw [if_neg ht])
      rw [HU.out]
      obtain ⟨q, v, e1, e2, e3, q0, q1, v0, v1, v2⟩ := lv_nums hp hj hd
      obtain ⟨t, b, d, t0, b0, p, g1, g2, g3, g4, g5, g6, ⟨t1, t2⟩, ⟨d0, d1⟩, -, -, -, -, -, -, s0, s1⟩ := rv_nums hp hj hd
      obtain ⟨p2, p3⟩ := pu_bd hp hj hd ht
      rw [e2, g3, g1] at p2 p3 ⊢
      rw [g1] at ht
      rw [g1, g2, g3] at CP
      rw [e2] at CV
      have hlim : v * d / t ≤ 1000000000000000000 := by omega
      obtain ⟨h1, h2⟩ := md_small v d t hlim
      have CD := Lib.hid (fun W => sdiv_any v d t W v0 (by omega) (by omega) (by omega) (by omega) (by omega))
      rw [h1, h2] at CD
      obtain ⟨Q, hQ⟩ : ∃ y_, v * d / t = y_ := ⟨_, rfl⟩
      obtain ⟨Rr, hR⟩ : ∃ y_, v * d % t = y_ := ⟨_, rfl⟩
      rw [hQ, hR] at CD
      rw [hQ] at p2 p3 ⊢
      have htt : (t == 0) = false := by simp [ht]
      clear hQ hR h1 h2 hlim HU e1 e2 e3 q0 q1 v0 v1 v2 g1 g2 g3 g4 g5 g6 t1 t2 d0 d1 HV he he2 hp hj hd ht
      go_enter Tryz.func14, Tryz.ntmps14
      go_wp2_with fail
      obtain ⟨W1, hW1⟩ : ∃ W1, ((w.alloc (.cells #[.int .i64 f, .slice a l c, .int .i64 r] 28)).alloc (.cells #[.int .i64 k, .int .i64 x, .int .i64 n, .int .i64 s, .int .i64 u] 30)) = W1 := ⟨_, rfl⟩
      rw [hW1] at HP ⊢
      clear hW1
      with_reducible refine (CE.out _ HP).mono ?_
      rintro e w1 ⟨rfl, hb⟩
      have HP := Lib.hid (HP.out.on hb)
      clear hb
      obtain ⟨b0, b1, b2, p0, p1, p2, p3, p4, -⟩ := bpS HP.out
      go_wp2_with fail
      with_reducible refine (CP.out _ HP).mono ?_
      rintro e w1 ⟨rfl, hb⟩
      have HP := Lib.hid (HP.out.on hb)
      clear b0 b1 b2 p0 p1 p2 p3 p4 hb
      obtain ⟨b0, b1, b2, p0, p1, p2, p3, p4, -⟩ := bpS HP.out
      go_wp2_with fail
      with_reducible refine (CV.out _ HP).mono ?_
      rintro e w1 ⟨rfl, hb⟩
      have HP := Lib.hid (HP.out.on hb)
      clear b0 b1 b2 p0 p1 p2 p3 p4 hb
      obtain ⟨b0, b1, b2, p0, p1, p2, p3, p4, -⟩ := bpS HP.out
      go_wp2_with fail
      with_reducible refine (CD.out _).mono ?_
      rintro e w' ⟨rfl, rfl⟩
      go_wp2_with fail
      all_goals
        go_ret2
        exact ⟨ret_ii (by omega) rfl, HP.out.low⟩
  · have HV : Hid (lvV (lvE r f xs k x n s u j) (puN r f xs k x n s j) = 0) := Lib.hid (by unfold lvV; rw [if_neg he])
    rw [HV.out]
    obtain ⟨E, hE⟩ : ∃ y_, lvE r f xs k x n s u j = y_ := ⟨_, rfl⟩
    rw [hE] at CE he ⊢
    have hb2 : (E != 0) = true := by simp [he]
    clear hE HV he
    go_enter Tryz.func14, Tryz.ntmps14
    go_wp2_with fail
    obtain ⟨W1, hW1⟩ : ∃ W1, ((w.alloc (.cells #[.int .i64 f, .slice a l c, .int .i64 r] 28)).alloc (.cells #[.int .i64 k, .int .i64 x, .int .i64 n, .int .i64 s, .int .i64 u] 30)) = W1 := ⟨_, rfl⟩
    rw [hW1] at HP ⊢
    clear hW1
    with_reducible refine (CE.out _ HP).mono ?_
    rintro e w1 ⟨rfl, hb⟩
    have HP := Lib.hid (HP.out.on hb)
    clear hb
    obtain ⟨b0, b1, b2, p0, p1, p2, p3, p4, -⟩ := bpS HP.out
    go_wp2_with fail
    go_ret2
    exact ⟨rfl, HP.out.low⟩

set_option maxHeartbeats 4000000 in
theorem sky_any (r f : Int) (xs : List Int) (a : Option Addr) (l c : Nat) (k x n s u j : Int) (w : World) (h : Ints w a l xs) :
    Calls Tryz.prog 24 #[.agg #[.int .i64 f, .slice a l c, .int .i64 r], .agg #[.int .i64 k, .int .i64 x, .int .i64 n, .int .i64 s, .int .i64 u], .int .i64 j] w (IIPost (lvV (lvE r f xs k x n s u j) (kyN r f xs k x n s j)) (lvE r f xs k x n s u j) w) := by
  have H := Lib.hid h
  clear h
  have HP := Lib.hid (BP.new w f (.slice a l c) r k x n s u 28 30)
  unfold IIPost
  have CE : Hid (∀ W, Hid (BP w f (.slice a l c) r k x n s u W) → Calls Tryz.prog 36 #[.agg #[.int .i64 f, .slice a l c, .int .i64 r], .agg #[.int .i64 k, .int .i64 x, .int .i64 n, .int .i64 s, .int .i64 u], .int .i64 j] W fun e w' => e = .returned (.int .i64 (lvE r f xs k x n s u j)) ∧ Below W.heap.size W w') :=
    Lib.hid (fun W hW => slc_any r f xs a l c k x n s u j W (H.out.on hW.out.low))
  by_cases he : lvE r f xs k x n s u j = 0
  · have HV : Hid (lvV (lvE r f xs k x n s u j) (kyN r f xs k x n s j) = kyN r f xs k x n s j) := Lib.hid (by unfold lvV; rw [if_pos he])
    rw [HV.out, he]
    rw [he] at CE
    obtain ⟨he2, hj2⟩ := lvE_iff.1 he
    obtain ⟨hp, hj, hd⟩ := rvE_iff.1 he2
    have CV : Hid (∀ W, Hid (BP w f (.slice a l c) r k x n s u W) → Calls Tryz.prog 39 #[.agg #[.int .i64 f, .slice a l c, .int .i64 r], .agg #[.int .i64 k, .int .i64 x, .int .i64 n, .int .i64 s, .int .i64 u], .int .i64 j] W fun e w' => e = .returned (.int .i64 (lsvN r f xs k x n s j)) ∧ Below W.heap.size W w') :=
        Lib.hid (fun W hW => slv_any r f xs a l c k x n s u j W (H.out.on hW.out.low) hp hj hd)
    have hdp := dur_pos hp
    obtain ⟨ht, ⟨r0, r1⟩, ⟨hk, hkl⟩, ⟨l0, l1⟩, ⟨y0, y1, y2⟩, ⟨x0, x1⟩, ⟨n0, n1⟩, f0, f1⟩ := rv_in hp hj
    have CD : Hid (∀ W, Hid (BP w f (.slice a l c) r k x n s u W) → Calls Tryz.prog 43 #[.agg #[.int .i64 f, .slice a l c], .int .i64 r, .int .i64 (x + j)] W fun e w' => e = .returned (.int .i64 (dvN r f xs x j)) ∧ Below W.heap.size W w') :=
        Lib.hid (fun W hW => sD_any r f xs a l c (x + j) W (H.out.on hW.out.low) ht r0 r1 y0 (by omega))
    have CL : Hid (∀ W, Hid (BP w f (.slice a l c) r k x n s u W) → Calls Tryz.prog 44 #[.agg #[.int .i64 f, .slice a l c, .int .i64 r], .agg #[.int .i64 k, .int .i64 x, .int .i64 n, .int .i64 s, .int .i64 u]] W fun e w' => e = .returned (.int .i64 (durN f xs k x n)) ∧ Below W.heap.size W w') :=
        Lib.hid (fun W hW => sdur_any r f xs a l c k x n s u W (H.out.on hW.out.low) hp)
    obtain ⟨M, hM⟩ : ∃ m : Nat, (durN f xs k x n - j).toNat = m := ⟨_, rfl⟩
    have hMj : (M : Int) = durN f xs k x n - j := by omega
    have HT : Hid (∀ i : Nat, 1 ≤ i → i ≤ M → ∃ t p : Int, kyF r f xs x s j i = p ∧ 0 ≤ p ∧ p ≤ 100000001 ∧ Hid (∀ W, Hid (BP w f (.slice a l c) r k x n s u W) → Calls Tryz.prog 46 #[.agg #[.int .i64 f, .slice a l c], .int .i64 r, .int .i64 1, .int .i64 (x + j), .int .i64 (i : Int)] W fun e w' => e = .returned (.int .i64 t) ∧ Below W.heap.size W w') ∧ Hid (∀ W, Calls Tryz.prog 45 #[.int .i64 s, .int .i64 t, .int .i64 (dvN r f xs x j)] W fun e w' => e = .returned (.int .i64 p) ∧ W = w')) := Lib.hid (fun i h1 h2 => by
      obtain ⟨t, d, e1, e2, t0, t1, d0, d1, s0, s1, e3, p0, p1, hq⟩ := ky_bd hp hj hd i h1 (by omega)
      obtain ⟨-, -, -, -, -, ⟨n0, n1⟩, xn, -⟩ := as_in (ky_as hp hj hd i h1 (by omega))
      refine ⟨t, upV s t d, e3, p0, p1, Lib.hid (fun W hW => ?_), Lib.hid (fun W => ?_)⟩
      · rw [← e1]
        exact stop_any r f xs a l c 1 (x + j) i W (H.out.on hW.out.low) ht r0 r1 y0 n0 n1 xn
      · rw [e2]
        exact sup_any s t d W (by omega) (by omega) t0 (by omega) (by omega) (by omega) (by omega))
    have HU : Hid (kyN r f xs k x n s j = (kyI (kyF r f xs x s j) (lsvN r f xs k x n s j) M : Nat)) := Lib.hid (by unfold kyN; rw [hM])
    obtain ⟨q, v, e1, e2, e3, q0, q1, v0, v1, v2⟩ := lv_nums hp hj hd
    have q1_ : IntKind.i64.wrap (x + j) = x + j := IntWalk.i64_in _ (by omega)
    have q2_ : IntKind.i64.wrap (durN f xs k x n - j) = M := by rw [IntWalk.i64_in _ (by omega)]; omega
    have hM9 : M ≤ 120 := by omega
    rw [e2] at CV HU
    obtain ⟨D, hD⟩ : ∃ y_, dvN r f xs x j = y_ := ⟨_, rfl⟩
    obtain ⟨E, hE⟩ : ∃ y_, durN f xs k x n = y_ := ⟨_, rfl⟩
    obtain ⟨F, hF⟩ : ∃ y_, kyF r f xs x s j = y_ := ⟨_, rfl⟩
    obtain ⟨Y, hY⟩ : ∃ y_, kyN r f xs k x n s j = y_ := ⟨_, rfl⟩
    rw [hD] at CD HT
    rw [hE] at CL q2_
    rw [hF] at HT HU
    rw [hY] at HU ⊢
    clear hD hE hF hY hM hMj e1 e2 e3 q0 q1 v0 v1 v2 HV he he2 hp hj hd hdp ht r0 r1 hk hkl l0 l1 y0 y1 y2 x0 x1 n0 n1 f0 f1
    go_enter Tryz.func24, Tryz.ntmps24
    go_wp2_with fail
    obtain ⟨W1, hW1⟩ : ∃ W1, ((w.alloc (.cells #[.int .i64 f, .slice a l c, .int .i64 r] 28)).alloc (.cells #[.int .i64 k, .int .i64 x, .int .i64 n, .int .i64 s, .int .i64 u] 30)) = W1 := ⟨_, rfl⟩
    rw [hW1] at HP ⊢
    clear hW1
    with_reducible refine (CE.out _ HP).mono ?_
    rintro e w1 ⟨rfl, hb⟩
    have HP := Lib.hid (HP.out.on hb)
    clear hb
    obtain ⟨b0, b1, b2, p0, p1, p2, p3, p4, -⟩ := bpS HP.out
    go_wp2_with fail
    go_region_held3 (fun W9 => W9.cell? ⟨w.heap.size, 0, none⟩ = some (.int .i64 f) ∧ W9.cell? ⟨w.heap.size, 1, none⟩ = some (.slice a l c) ∧ W9.cell? ⟨w.heap.size, 2, none⟩ = some (.int .i64 r) ∧ W9.cell? ⟨w.heap.size + 1, 0, none⟩ = some (.int .i64 k) ∧ W9.cell? ⟨w.heap.size + 1, 1, none⟩ = some (.int .i64 x) ∧ W9.cell? ⟨w.heap.size + 1, 2, none⟩ = some (.int .i64 n) ∧ W9.cell? ⟨w.heap.size + 1, 3, none⟩ = some (.int .i64 s) ∧ W9.cell? ⟨w.heap.size + 1, 4, none⟩ = some (.int .i64 u) ∧ Hid (BP w f (.slice a l c) r k x n s u W9))
      (first
        | (go_split_ands; exact ⟨by with_reducible assumption, by with_reducible assumption, by with_reducible assumption, by with_reducible assumption, by with_reducible assumption, by with_reducible assumption, by with_reducible assumption, by with_reducible assumption, by with_reducible assumption⟩)
        | (go_split_ands; with_reducible exact bpS HP.out)
        | (go_split_ands; with_reducible exact bpS (BP.drew HP.out))
        | (go_split_ands; with_reducible exact bpS (BP.on (Hid.out (by with_reducible assumption)) hb))
        | fail)
      (first
        | (go_split_ands; go_at_call 39; ((with_reducible refine (CV.out _ (by with_reducible assumption)).mono ?_); rintro e w' ⟨rfl, hb⟩))
        | (go_split_ands; go_at_call 43; ((with_reducible refine (CD.out _ (by with_reducible assumption)).mono ?_); rintro e w' ⟨rfl, hb⟩))
        | fail)
    all_goals
      go_split_ands
      have HQ : Hid (BP w f (.slice a l c) r k x n s u w') := by with_reducible assumption
      clear HP b0 b1 b2 p0 p1 p2 p3 p4
      have HP := HQ
      clear HQ
      obtain ⟨b0, b1, b2, p0, p1, p2, p3, p4, -⟩ := bpS HP.out
      go_wp2_with fail
      with_reducible refine (CL.out _ HP).mono ?_
      rintro e w2 ⟨rfl, hb⟩
      have HP := Lib.hid (HP.out.on hb)
      clear b0 b1 b2 p0 p1 p2 p3 p4 hb
      go_wp2_with fail
      go_loopw [11] (fun i wr => ∃ m : Nat, m ≤ M ∧ i = .int .i64 (m : Int) ∧ Hid (BP w f (.slice a l c) r k x n s u wr) ∧ Hid (kyI F v M = kyI F v m)) (fun i _ => (intOf i).toNat)
      case atStart => exact ⟨M, Nat.le_refl _, rfl, HP, Lib.hid rfl⟩
      case round =>
        clear HP
        obtain ⟨m, hm, rfl, HP, HK⟩ := hrel
        obtain ⟨b0, b1, b2, p0, p1, p2, p3, p4, -⟩ := bpS HP.out
        by_cases h0 : m = 0
        · have hd : decide ((0 : Int) < (m : Int)) = false := by simp [h0]
          have HM0 : Hid ((kyI F v m : Nat) = (m : Int)) := Lib.hid (by rw [h0]; rfl)
          go_wp2_with fail
          go_quiet (fail)
          go_wp2_with fail
          go_ret2
          exact ⟨ret_ii (by rw [HU.out, HK.out, HM0.out]; (try omega)) rfl, HP.out.low.trans ((below_drewN (Below.refl _ _) _).mono HP.out.low.size)⟩
        · obtain ⟨i, rfl⟩ : ∃ i, m = i + 1 := ⟨m - 1, by omega⟩
          obtain ⟨t, p, e1, p00, p11, CT, CU⟩ := HT.out (i + 1) (by omega) (by omega)
          have HY := Lib.hid (kyI_yes (F := F) (V := v) (m := i))
          have HN := Lib.hid (kyI_no (F := F) (V := v) (m := i))
          rw [e1] at HY HN
          have hcast : ((i + 1 : Nat) : Int) = (i : Int) + 1 := by omega
          rw [hcast] at CT
          clear e1 hcast
          by_cases hle : p ≤ v
          · go_wp2_with fail
            go_region_held3 (fun W9 => W9.cell? ⟨w.heap.size, 0, none⟩ = some (.int .i64 f) ∧ W9.cell? ⟨w.heap.size, 1, none⟩ = some (.slice a l c) ∧ W9.cell? ⟨w.heap.size, 2, none⟩ = some (.int .i64 r) ∧ W9.cell? ⟨w.heap.size + 1, 0, none⟩ = some (.int .i64 k) ∧ W9.cell? ⟨w.heap.size + 1, 1, none⟩ = some (.int .i64 x) ∧ W9.cell? ⟨w.heap.size + 1, 2, none⟩ = some (.int .i64 n) ∧ W9.cell? ⟨w.heap.size + 1, 3, none⟩ = some (.int .i64 s) ∧ W9.cell? ⟨w.heap.size + 1, 4, none⟩ = some (.int .i64 u) ∧ Hid (BP w f (.slice a l c) r k x n s u W9))
              (first
                | (go_split_ands; exact ⟨by with_reducible assumption, by with_reducible assumption, by with_reducible assumption, by with_reducible assumption, by with_reducible assumption, by with_reducible assumption, by with_reducible assumption, by with_reducible assumption, by with_reducible assumption⟩)
                | (go_split_ands; with_reducible exact bpS HP.out)
                | (go_split_ands; with_reducible exact bpS (BP.drew HP.out))
                | (go_split_ands; with_reducible exact bpS (BP.on (Hid.out (by with_reducible assumption)) hb))
                | fail)
              (first
                | (go_split_ands; go_at_call 46; ((with_reducible refine (CT.out _ (by with_reducible assumption)).mono ?_); rintro e w' ⟨rfl, hb⟩))
                | (go_split_ands; go_at_call 45; ((with_reducible refine (CU.out _).mono ?_); rintro e w' ⟨rfl, rfl⟩))
                | fail)
            all_goals
              go_split_ands
              go_wp2_with fail
              go_ret2
              exact ⟨ret_ii (by rw [HU.out, HK.out, HY.out hle]; (try omega)) rfl, bpLow f (.slice a l c) r k x n s u (by with_reducible assumption)⟩
          · go_wp2_with fail
            go_region_held3 (fun W9 => W9.cell? ⟨w.heap.size, 0, none⟩ = some (.int .i64 f) ∧ W9.cell? ⟨w.heap.size, 1, none⟩ = some (.slice a l c) ∧ W9.cell? ⟨w.heap.size, 2, none⟩ = some (.int .i64 r) ∧ W9.cell? ⟨w.heap.size + 1, 0, none⟩ = some (.int .i64 k) ∧ W9.cell? ⟨w.heap.size + 1, 1, none⟩ = some (.int .i64 x) ∧ W9.cell? ⟨w.heap.size + 1, 2, none⟩ = some (.int .i64 n) ∧ W9.cell? ⟨w.heap.size + 1, 3, none⟩ = some (.int .i64 s) ∧ W9.cell? ⟨w.heap.size + 1, 4, none⟩ = some (.int .i64 u) ∧ Hid (BP w f (.slice a l c) r k x n s u W9))
              (first
                | (go_split_ands; exact ⟨by with_reducible assumption, by with_reducible assumption, by with_reducible assumption, by with_reducible assumption, by with_reducible assumption, by with_reducible assumption, by with_reducible assumption, by with_reducible assumption, by with_reducible assumption⟩)
                | (go_split_ands; with_reducible exact bpS HP.out)
                | (go_split_ands; with_reducible exact bpS (BP.drew HP.out))
                | (go_split_ands; with_reducible exact bpS (BP.on (Hid.out (by with_reducible assumption)) hb))
                | fail)
              (first
                | (go_split_ands; go_at_call 46; ((with_reducible refine (CT.out _ (by with_reducible assumption)).mono ?_); rintro e w' ⟨rfl, hb⟩))
                | (go_split_ands; go_at_call 45; ((with_reducible refine (CU.out _).mono ?_); rintro e w' ⟨rfl, rfl⟩))
                | fail)
            all_goals
              go_split_ands
              have HQ : Hid (BP w f (.slice a l c) r k x n s u w') := by with_reducible assumption
              go_wp2_with fail
              go_roundw
              case rel => exact ⟨i, by omega, by go_num, HQ, Lib.hid (by rw [HK.out, HN.out hle])⟩
              case measure => simp [intOf] <;> omega
  · have HV : Hid (lvV (lvE r f xs k x n s u j) (kyN r f xs k x n s j) = 0) := Lib.hid (by unfold lvV; rw [if_neg he])
    rw [HV.out]
    obtain ⟨E, hE⟩ : ∃ y_, lvE r f xs k x n s u j = y_ := ⟨_, rfl⟩
    rw [hE] at CE he ⊢
    have hb2 : (E != 0) = true := by simp [he]
    clear hE HV he
    go_enter Tryz.func24, Tryz.ntmps24
    go_wp2_with fail
    obtain ⟨W1, hW1⟩ : ∃ W1, ((w.alloc (.cells #[.int .i64 f, .slice a l c, .int .i64 r] 28)).alloc (.cells #[.int .i64 k, .int .i64 x, .int .i64 n, .int .i64 s, .int .i64 u] 30)) = W1 := ⟨_, rfl⟩
    rw [hW1] at HP ⊢
    clear hW1
    with_reducible refine (CE.out _ HP).mono ?_
    rintro e w1 ⟨rfl, hb⟩
    have HP := Lib.hid (HP.out.on hb)
    clear hb
    obtain ⟨b0, b1, b2, p0, p1, p2, p3, p4, -⟩ := bpS HP.out
    go_wp2_with fail
    go_ret2
    exact ⟨rfl, HP.out.low⟩

set_option maxHeartbeats 8000000 in
theorem sbl_any (r f : Int) (xs : List Int) (a : Option Addr) (l c : Nat) (k x n s u : Int) (w : World) (h : Ints w a l xs) :
    Calls Tryz.prog 27 #[.agg #[.int .i64 f, .slice a l c, .int .i64 r], .agg #[.int .i64 k, .int .i64 x, .int .i64 n, .int .i64 s, .int .i64 u]] w (IIIPost (blK r f xs k x n s u) (blV r f xs k x n s u) (blE r f xs k x n s u) w) := by
  have H := Lib.hid h
  clear h
  have HP := Lib.hid (BP.new w f (.slice a l c) r k x n s u 28 30)
  unfold IIIPost
  have CP : Hid (∀ W, Hid (BP w f (.slice a l c) r k x n s u W) → Calls Tryz.prog 50 #[.agg #[.int .i64 f, .slice a l c, .int .i64 r], .agg #[.int .i64 k, .int .i64 x, .int .i64 n, .int .i64 s, .int .i64 u]] W fun e w' => e = .returned (.bool (poB r f xs k x n s u)) ∧ Below W.heap.size W w') :=
    Lib.hid (fun W hW => spol_any r f xs a l c k x n s u W (H.out.on hW.out.low))
  by_cases hp : poB r f xs k x n s u = true
  · rw [hp] at CP
    have CL : Hid (∀ W, Hid (BP w f (.slice a l c) r k x n s u W) → Calls Tryz.prog 44 #[.agg #[.int .i64 f, .slice a l c, .int .i64 r], .agg #[.int .i64 k, .int .i64 x, .int .i64 n, .int .i64 s, .int .i64 u]] W fun e w' => e = .returned (.int .i64 (durN f xs k x n)) ∧ Below W.heap.size W w') :=
    Lib.hid (fun W hW => sdur_any r f xs a l c k x n s u W (H.out.on hW.out.low) hp)
    have hdp := dur_pos hp
    obtain ⟨m, hm⟩ : ∃ m : Nat, (durN f xs k x n - 2).toNat = m := ⟨_, rfl⟩
    have hmE : (m : Int) = durN f xs k x n - 2 ∨ (m = 0 ∧ durN f xs k x n ≤ 2) := by omega
    obtain ⟨ht0, ⟨r0, r1⟩, -, -, -, ⟨hx0, hx1⟩, -, hf0, hf1⟩ := rv_in (j := 0) hp ⟨by omega, by omega⟩
    have CD : Hid (∀ (i : Nat) W, i < m → Hid (BP w f (.slice a l c) r k x n s u W) → Calls Tryz.prog 43 #[.agg #[.int .i64 f, .slice a l c], .int .i64 r, .int .i64 (x + ((i : Int) + 2))] W fun e w' => e = .returned (.int .i64 (cD r xs ((x - f).toNat + 2 + i))) ∧ Below W.heap.size W w') :=
      Lib.hid (fun i W hi hW => by
        obtain ⟨-, -, -, -, ⟨y0, y1, y2⟩, -, -, -⟩ := rv_in (j := (i : Int) + 2) hp ⟨by omega, by omega⟩
        rw [show (x - f).toNat + 2 + i = (x + ((i : Int) + 2) - f).toNat by omega]
        exact sD_any r f xs a l c (x + ((i : Int) + 2)) W (H.out.on hW.out.low) ht0 r0 r1 y0 (by omega))
    have hdd : ∀ i : Nat, cD r xs ((x - f).toNat + 2 + i) ≠ 0 → dvN r f xs x ((i : Int) + 2) ≠ 0 := fun i h => by
      unfold dvN
      rw [show (x + ((i : Int) + 2) - f).toNat = (x - f).toNat + 2 + i by omega]
      exact h
    have CV : Hid (∀ (i : Nat) W, i < m → cD r xs ((x - f).toNat + 2 + i) ≠ 0 → Hid (BP w f (.slice a l c) r k x n s u W) → Calls Tryz.prog 39 #[.agg #[.int .i64 f, .slice a l c, .int .i64 r], .agg #[.int .i64 k, .int .i64 x, .int .i64 n, .int .i64 s, .int .i64 u], .int .i64 ((i : Int) + 2)] W fun e w' => e = .returned (.int .i64 (lsvN r f xs k x n s ((i : Int) + 2))) ∧ Below W.heap.size W w') :=
      Lib.hid (fun i W hi hz hW => slv_any r f xs a l c k x n s u ((i : Int) + 2) W (H.out.on hW.out.low) hp ⟨by omega, by omega⟩ (hdd i hz))
    have CO : Hid (∀ W, Hid (BP w f (.slice a l c) r k x n s u W) → Calls Tryz.prog 51 #[.agg #[.int .i64 f, .slice a l c, .int .i64 r], .agg #[.int .i64 k, .int .i64 x, .int .i64 n, .int .i64 s, .int .i64 u]] W fun e w' => e = .returned (.int .i64 (offN (netN r f xs k x n s) u)) ∧ Below W.heap.size W w') :=
    Lib.hid (fun W hW => soff_any r f xs a l c k x n s u W (H.out.on hW.out.low) hp)
    have HG : Hid (∀ i : Nat, i < m → cD r xs ((x - f).toNat + 2 + i) ≠ 0 → ∃ v g : Int, lsvN r f xs k x n s ((i : Int) + 2) = v ∧ 0 ≤ v ∧ v ≤ 20000000001 ∧ blG r f xs k x n s u i = g ∧ g = v - ((i : Int) + 2) * offN (netN r f xs k x n s) u) := Lib.hid (fun i hi hz => by
      obtain ⟨q, v, e1, e2, e3, q0, q1, v0, v1, v2⟩ := lv_nums hp (j := (i : Int) + 2) ⟨by omega, by omega⟩ (hdd i hz)
      exact ⟨v, _, e2, v0, v2, rfl, by unfold blG; rw [e2]⟩)
    obtain ⟨pp, g4, p0_, p1_, -, -, u0, u1, o1, o2⟩ := off_nums hp
    rw [← g4] at o1 o2 p0_ p1_
    have o0 : 0 ≤ offN (netN r f xs k x n s) u := by omega
    have o9 : offN (netN r f xs k x n s) u ≤ 200000002 := by omega
    have HEE : Hid (blE r f xs k x n s u = if durN f xs k x n ≤ 2 then 4 else if npB r xs ((x - f).toNat + 2) m = true then 0 else 5) := Lib.hid (by unfold blE; rw [if_pos hp, hm])
    have HKV : Hid ((blE r f xs k x n s u = 0 → blK r f xs k x n s u = bmK (blG r f xs k x n s u) m ∧ blV r f xs k x n s u = bmV (blG r f xs k x n s u) m) ∧ (blE r f xs k x n s u ≠ 0 → blK r f xs k x n s u = 0 ∧ blV r f xs k x n s u = 0)) := Lib.hid (bl_kv hp hm)
    have q9_ : ∀ i : Nat, i < m → 0 ≤ ((i : Int) + 2) * offN (netN r f xs k x n s) u ∧ ((i : Int) + 2) * offN (netN r f xs k x n s) u ≤ 24000000240 := fun i hi => ⟨Int.mul_nonneg (by omega) o0, by
      have : ((i : Int) + 2) * offN (netN r f xs k x n s) u ≤ 120 * 200000002 := Int.le_trans (Int.mul_le_mul_of_nonneg_left o9 (by omega)) (Int.mul_le_mul_of_nonneg_right (by omega) (by omega))
      omega⟩
    have HQ9 := Lib.hid q9_
    obtain ⟨E, hE⟩ : ∃ y_, durN f xs k x n = y_ := ⟨_, rfl⟩
    obtain ⟨O, hO⟩ : ∃ y_, offN (netN r f xs k x n s) u = y_ := ⟨_, rfl⟩
    obtain ⟨GG, hG⟩ : ∃ y_, blG r f xs k x n s u = y_ := ⟨_, rfl⟩
    obtain ⟨KK, hKK⟩ : ∃ y_, blK r f xs k x n s u = y_ := ⟨_, rfl⟩
    obtain ⟨VV, hVV⟩ : ∃ y_, blV r f xs k x n s u = y_ := ⟨_, rfl⟩
    obtain ⟨EE, hEE⟩ : ∃ y_, blE r f xs k x n s u = y_ := ⟨_, rfl⟩
    obtain ⟨K, hK⟩ : ∃ y_, (x - f).toNat + 2 = y_ := ⟨_, rfl⟩
    rw [hE] at CL HEE hmE
    rw [hO] at CO HG HQ9
    rw [hG] at HG HKV
    rw [hKK, hVV, hEE] at HKV
    rw [hEE] at HEE
    rw [hK] at CD CV HG HEE
    rw [hKK, hVV, hEE]
    have hE9 : E ≤ 120 := by omega
    clear hE hO hG hKK hVV hEE hK hm hdp hp q9_ o0 o9 o1 o2 g4 p0_ p1_ hdd ht0
    go_enter Tryz.func27, Tryz.ntmps27
    go_wp2_with fail
    obtain ⟨W1, hW1⟩ : ∃ W1, ((w.alloc (.cells #[.int .i64 f, .slice a l c, .int .i64 r] 28)).alloc (.cells #[.int .i64 k, .int .i64 x, .int .i64 n, .int .i64 s, .int .i64 u] 30)) = W1 := ⟨_, rfl⟩
    rw [hW1] at HP ⊢
    clear hW1
    with_reducible refine (CP.out _ HP).mono ?_
    rintro e w1 ⟨rfl, hb⟩
    have HP := Lib.hid (HP.out.on hb)
    clear hb
    obtain ⟨b0, b1, b2, p0, p1, p2, p3, p4, -⟩ := bpS HP.out
    go_wp2_with fail
    clear b0 b1 b2 p0 p1 p2 p3 p4
    go_loopw [7, 8, 9, 10] (fun p q b i wr => ∃ (t : Nat) (fb : Bool), t ≤ m ∧ i = .int .i64 ((t : Int) + 2) ∧ p = .int .i64 (bmK GG t) ∧ q = .int .i64 (bmV GG t) ∧ b = .bool fb ∧ Hid (fb = true ↔ t ≠ 0) ∧ Hid (BP w f (.slice a l c) r k x n s u wr) ∧ Hid (∀ k, k < t → cD r xs (K + k) ≠ 0)) (fun _ _ _ i _ => (E - intOf i).toNat)
    case atStart => exact ⟨0, false, by omega, rfl, rfl, rfl, rfl, Lib.hid (by simp), HP, Lib.hid (fun k hk => by omega)⟩
    case round =>
      clear HP
      obtain ⟨t, fb, hj, rfl, rfl, rfl, rfl, HF, HP, HZ⟩ := hrel
      obtain ⟨b0, b1, b2, p0, p1, p2, p3, p4, -⟩ := bpS HP.out
      by_cases hlt : (t : Int) + 2 < E
      · have htm : t < m := by omega
        have HLT : Hid (t < m) := Lib.hid htm
        have q1 : IntKind.i64.wrap (x + ((t : Int) + 2)) = x + ((t : Int) + 2) := IntWalk.i64_in _ (by omega)
        have CC := Lib.hid (CD.out t · HLT.out)
        by_cases hz : cD r xs (K + t) = 0
        · have HE5 : Hid (EE = 5) := Lib.hid (by rw [HEE.out, if_neg (by omega), npB_no HLT.out hz]; simp)
          rw [hz] at CC
          clear hz
          go_wp2_with fail
          with_reducible refine (CL.out _ HP).mono ?_
          rintro e w1 ⟨rfl, hb⟩
          have HP := Lib.hid (HP.out.on hb)
          clear b0 b1 b2 p0 p1 p2 p3 p4 hb
          obtain ⟨b0, b1, b2, p0, p1, p2, p3, p4, -⟩ := bpS HP.out
          go_wp2_with fail
          with_reducible refine (CC.out _ HP).mono ?_
          rintro e w1 ⟨rfl, hb⟩
          have HP := Lib.hid (HP.out.on hb)
          clear b0 b1 b2 p0 p1 p2 p3 p4 hb
          obtain ⟨b0, b1, b2, p0, p1, p2, p3, p4, -⟩ := bpS HP.out
          go_wp2_with fail
          go_ret3
          exact ⟨ret_3p ((HKV.out.2 (by rw [HE5.out]; omega)).1.symm) ((HKV.out.2 (by rw [HE5.out]; omega)).2.symm) HE5.out.symm, HP.out.low⟩
        · have CT := Lib.hid (CV.out t · HLT.out hz)
          have HZ2 : Hid (∀ k, k < t + 1 → cD r xs (K + k) ≠ 0) := Lib.hid (fun k hk => by
            by_cases e : k = t
            · subst e; exact hz
            · exact HZ.out k (by omega))
          obtain ⟨v, g, e1, v0, v1, eg, eg2⟩ := HG.out t HLT.out hz
          obtain ⟨z0, z1⟩ := HQ9.out t HLT.out
          rw [e1] at CT
          obtain ⟨D, hD⟩ : ∃ y_, cD r xs (K + t) = y_ := ⟨_, rfl⟩
          rw [hD] at CC hz
          have hz2 : (D == 0) = false := by simp [hz]
          have HUP := Lib.hid (bm_up GG t)
          have HSM := Lib.hid (bm_same GG t)
          rw [eg] at HUP HSM
          subst eg2
          obtain ⟨Z, hZ⟩ : ∃ y_, ((t : Int) + 2) * O = y_ := ⟨_, rfl⟩
          rw [hZ] at z0 z1 HUP HSM
          have q3 : IntKind.i64.wrap (((t : Int) + 2) * O) = Z := by rw [hZ]; exact IntWalk.i64_in _ (by omega)
          have q4 : IntKind.i64.wrap (v - Z) = v - Z := IntWalk.i64_in _ (by omega)
          have q5 : IntKind.i64.wrap ((t : Int) + 2 + 1) = (t : Int) + 2 + 1 := IntWalk.i64_in _ (by omega)
          obtain ⟨BK, hBK⟩ : ∃ y_, bmK GG t = y_ := ⟨_, rfl⟩
          obtain ⟨BV, hBV⟩ : ∃ y_, bmV GG t = y_ := ⟨_, rfl⟩
          rw [hBK, hBV] at HSM
          rw [hBV] at HUP
          rw [hBK, hBV]
          clear hZ hD hz e1 eg HZ hBK hBV
          have HREL : Hid (∀ wr (i : Int) (p q : Int), i = (t : Int) + 2 + 1 → p = bmK GG (t + 1) → q = bmV GG (t + 1) → Hid (BP w f (.slice a l c) r k x n s u wr) → ∃ (t' : Nat) (fb' : Bool), t' ≤ m ∧ Value.int .i64 i = .int .i64 ((t' : Int) + 2) ∧ Value.int .i64 p = .int .i64 (bmK GG t') ∧ Value.int .i64 q = .int .i64 (bmV GG t') ∧ Value.bool true = .bool fb' ∧ Hid (fb' = true ↔ t' ≠ 0) ∧ Hid (BP w f (.slice a l c) r k x n s u wr) ∧ Hid (∀ k, k < t' → cD r xs (K + k) ≠ 0)) :=
            Lib.hid (fun wr i p q h1 h2 h3 h4 => ⟨t + 1, true, HLT.out, by rw [h1]; exact congrArg (Value.int .i64) (by omega), by rw [h2], by rw [h3], rfl, Lib.hid (by simp), h4, HZ2⟩)
          go_wp2_with fail
          with_reducible refine (CL.out _ HP).mono ?_
          rintro e w1 ⟨rfl, hb⟩
          have HP := Lib.hid (HP.out.on hb)
          clear b0 b1 b2 p0 p1 p2 p3 p4 hb
          obtain ⟨b0, b1, b2, p0, p1, p2, p3, p4, -⟩ := bpS HP.out
          go_wp2_with fail
          with_reducible refine (CC.out _ HP).mono ?_
          rintro e w1 ⟨rfl, hb⟩
          have HP := Lib.hid (HP.out.on hb)
          clear b0 b1 b2 p0 p1 p2 p3 p4 hb
          obtain ⟨b0, b1, b2, p0, p1, p2, p3, p4, -⟩ := bpS HP.out
          go_wp2_with fail
          go_region_held3 (fun W9 => W9.cell? ⟨w.heap.size, 0, none⟩ = some (.int .i64 f) ∧ W9.cell? ⟨w.heap.size, 1, none⟩ = some (.slice a l c) ∧ W9.cell? ⟨w.heap.size, 2, none⟩ = some (.int .i64 r) ∧ W9.cell? ⟨w.heap.size + 1, 0, none⟩ = some (.int .i64 k) ∧ W9.cell? ⟨w.heap.size + 1, 1, none⟩ = some (.int .i64 x) ∧ W9.cell? ⟨w.heap.size + 1, 2, none⟩ = some (.int .i64 n) ∧ W9.cell? ⟨w.heap.size + 1, 3, none⟩ = some (.int .i64 s) ∧ W9.cell? ⟨w.heap.size + 1, 4, none⟩ = some (.int .i64 u) ∧ Hid (BP w f (.slice a l c) r k x n s u W9))
            (first
              | (go_split_ands; exact ⟨by with_reducible assumption, by with_reducible assumption, by with_reducible assumption, by with_reducible assumption, by with_reducible assumption, by with_reducible assumption, by with_reducible assumption, by with_reducible assumption, by with_reducible assumption⟩)
              | (go_split_ands; with_reducible exact bpS HP.out)
              | (go_split_ands; with_reducible exact bpS (BP.drew HP.out))
              | (go_split_ands; with_reducible exact bpS (BP.on (Hid.out (by with_reducible assumption)) hb))
              | fail)
            (first
              | (go_split_ands; go_at_call 39; ((with_reducible refine (CT.out _ (by with_reducible assumption)).mono ?_); rintro e w' ⟨rfl, hb⟩))
              | (go_split_ands; go_at_call 51; ((with_reducible refine (CO.out _ (by with_reducible assumption)).mono ?_); rintro e w' ⟨rfl, hb⟩))
              | fail)
          all_goals
            go_split_ands
            have HQ : Hid (BP w f (.slice a l c) r k x n s u w') := by with_reducible assumption
            by_cases hf : fb = true
            · subst hf
              have h0 : t ≠ 0 := HF.out.1 rfl
              by_cases hgt : BV < v - Z
              · go_wp2_with fail
                go_roundw
                case rel => exact HREL.out _ _ _ _ (by omega) (HUP.out (.inr (by omega))).1.symm (HUP.out (.inr (by omega))).2.symm HQ
                case measure => simp [intOf] <;> omega
              · go_wp2_with fail
                go_roundw
                case rel => exact HREL.out _ _ _ _ (by omega) (HSM.out h0 (by omega)).1.symm (HSM.out h0 (by omega)).2.symm HQ
                case measure => simp [intOf] <;> omega
            · have hf : fb = false := by simpa using hf
              subst hf
              have h0 : t = 0 := by
                by_cases h0 : t = 0
                · exact h0
                · exact absurd (HF.out.2 h0) (by simp)
              go_wp2_with fail
              go_roundw
              case rel => exact HREL.out _ _ _ _ (by omega) (HUP.out (.inl h0)).1.symm (HUP.out (.inl h0)).2.symm HQ
              case measure => simp [intOf] <;> omega
      · have htm : t = m := by omega
        subst htm
        by_cases hf : fb = true
        · subst hf
          have h0 : t ≠ 0 := HF.out.1 rfl
          have HE0 : Hid (EE = 0) := Lib.hid (by rw [HEE.out, if_neg (by omega), npB_yes HZ.out]; simp)
          obtain ⟨BK, hBK⟩ : ∃ y_, bmK GG t = y_ := ⟨_, rfl⟩
          obtain ⟨BV, hBV⟩ : ∃ y_, bmV GG t = y_ := ⟨_, rfl⟩
          rw [hBK, hBV] at HKV ⊢
          clear hBK hBV
          go_wp2_with fail
          with_reducible refine (CL.out _ HP).mono ?_
          rintro e w1 ⟨rfl, hb⟩
          have HP := Lib.hid (HP.out.on hb)
          clear b0 b1 b2 p0 p1 p2 p3 p4 hb
          obtain ⟨b0, b1, b2, p0, p1, p2, p3, p4, -⟩ := bpS HP.out
          go_wp2_with fail
          go_ret3
          exact ⟨ret_3p (HKV.out.1 HE0.out).1.symm (HKV.out.1 HE0.out).2.symm HE0.out.symm, HP.out.low⟩
        · have hf : fb = false := by simpa using hf
          subst hf
          have h0 : t = 0 := by
            by_cases h0 : t = 0
            · exact h0
            · exact absurd (HF.out.2 h0) (by simp)
          have HE4 : Hid (EE = 4) := Lib.hid (by rw [HEE.out, if_pos (by omega)])
          obtain ⟨BK, hBK⟩ : ∃ y_, bmK GG t = y_ := ⟨_, rfl⟩
          obtain ⟨BV, hBV⟩ : ∃ y_, bmV GG t = y_ := ⟨_, rfl⟩
          rw [hBK, hBV] at HKV ⊢
          clear hBK hBV
          go_wp2_with fail
          with_reducible refine (CL.out _ HP).mono ?_
          rintro e w1 ⟨rfl, hb⟩
          have HP := Lib.hid (HP.out.on hb)
          clear b0 b1 b2 p0 p1 p2 p3 p4 hb
          obtain ⟨b0, b1, b2, p0, p1, p2, p3, p4, -⟩ := bpS HP.out
          go_wp2_with fail
          go_ret3
          exact ⟨ret_3p ((HKV.out.2 (by rw [HE4.out]; omega)).1.symm) ((HKV.out.2 (by rw [HE4.out]; omega)).2.symm) HE4.out.symm, HP.out.low⟩
  · have hp : poB r f xs k x n s u = false := by simpa using hp
    have HE : Hid (blE r f xs k x n s u = 1 ∧ blK r f xs k x n s u = 0 ∧ blV r f xs k x n s u = 0) := Lib.hid (by
      have h1 := blE_no hp
      unfold blK blV
      rw [h1]
      exact ⟨rfl, rfl, rfl⟩)
    rw [HE.out.1, HE.out.2.1, HE.out.2.2]
    rw [hp] at CP
    clear hp HE
    go_enter Tryz.func27, Tryz.ntmps27
    go_wp2_with fail
    obtain ⟨W1, hW1⟩ : ∃ W1, ((w.alloc (.cells #[.int .i64 f, .slice a l c, .int .i64 r] 28)).alloc (.cells #[.int .i64 k, .int .i64 x, .int .i64 n, .int .i64 s, .int .i64 u] 30)) = W1 := ⟨_, rfl⟩
    rw [hW1] at HP ⊢
    clear hW1
    with_reducible refine (CP.out _ HP).mono ?_
    rintro e w1 ⟨rfl, hb⟩
    have HP := Lib.hid (HP.out.on hb)
    clear hb
    obtain ⟨b0, b1, b2, p0, p1, p2, p3, p4, -⟩ := bpS HP.out
    go_wp2_with fail
    go_ret3
    exact ⟨rfl, HP.out.low⟩

end Go.Proofs.YtdlfofdibooidaaGreat
