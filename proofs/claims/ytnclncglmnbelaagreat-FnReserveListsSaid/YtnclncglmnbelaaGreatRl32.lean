/- Merged: Rvi, Rvk. -/
import Derived.Test.YtnclncglmnbelaaGreatRl10
import Derived.Test.YtnclncglmnbelaaGreatRl14
import Derived.Test.YtnclncglmnbelaaGreatRl31

/- Reserves: the program's kept reserves and their list. (Written by wip/gen/rvh.py.) | Reserves: the program's list of reserves, risks, the greatest reserve. (Written by wip/gen/rvi.py.) -/
namespace Go.Proofs.YtnclncglmnbelaaGreat
open Go.ChangeShapes Go.WideShapes Go.ChangeAt Go.RowKit
open Go.ChangeMaps (setBlock heap_setBlock_same heap_setBlock_other)
set_option linter.unusedVariables false
set_option maxRecDepth 100000

set_option maxHeartbeats 4000000 in
theorem ike_no (C R : Nat) (r f : Int) (xs : List Int) (v : Value) (k x n s u j : Int) (w : World) (h : Crs C R r f xs v k x n s u w) (hp : poB r f xs k x n s u = true) (hj : 0 ≤ j ∧ j ≤ durN f xs k x n - 1) (hd : dvN r f xs x j = 0) :
    Calls Tryz.prog 71 #[.pointer (some ⟨C, 0, none⟩), .int .i64 j] w fun e w' => e = .returned (.tuple #[.int .i64 0, .int .i64 5]) ∧ Below w.heap.size w w' := by
  have hi := (inB_iff j 0 (durN f xs k x n - 1)).2 hj
  have CI := iin_zero C R r f xs v k x n s u j w h hp hi hd
  have CS := Lib.hid (fun F W => itold_no 5 F W (by omega))
  unfold YrPost yrZ at CI
  unfold yrZ at CS
  clear h hp hj hd hi
  go_enter Tryz.func71, Tryz.ntmps71
  go_wp2_with fail
  with_reducible refine CI.mono ?_
  rintro e w1 ⟨rfl, hb⟩
  have HL := Lib.hid (hb.trans ((box_b w1 (.cells #[.pointer none, .nilIface, .int .i64 0, .int .i64 0, .int .i64 0, .int .i64 0, .int .i64 0, .int .i64 0, .int .i64 0, .int .i64 0] 74)).mono hb.size))
  clear hb CI
  go_wp2_with fail
  with_reducible refine (CS.out _ _).mono ?_
  rintro e w2 ⟨rfl, hb⟩
  have HL2 := Lib.hid (HL.out.trans (hb.mono HL.out.size))
  clear hb
  go_wp2_with fail
  go_ret2
  exact ⟨rfl, HL2.out⟩

set_option maxHeartbeats 4000000 in
theorem ike_yes (C R : Nat) (r f : Int) (xs : List Int) (v : Value) (k x n s u j : Int) (w : World) (h : Crs C R r f xs v k x n s u w) (hp : poB r f xs k x n s u = true) (hj : 0 ≤ j ∧ j ≤ durN f xs k x n - 1) (hd : dvN r f xs x j ≠ 0) :
    Calls Tryz.prog 71 #[.pointer (some ⟨C, 0, none⟩), .int .i64 j] w fun e w' => e = .returned (.tuple #[.int .i64 (ktN r f xs k x n s j), .int .i64 0]) ∧ Below w.heap.size w w' := by
  have hi := (inB_iff j 0 (durN f xs k x n - 1)).2 hj
  have CI := iin_yes C R r f xs v k x n s u j w h hp hi hd
  have CS : Hid (∀ W, Crs C R r f xs v k x n s u W → Calls Tryz.prog 49 #[yrV C r f xs k x n j, .func (.func 50) #[yrV C r f xs k x n j] #[], .int .i64 0] W fun e w' => e = .returned (.tuple #[.int .i64 (fwN r f xs k x n s j / dvN r f xs x j), .int .i64 (fwN r f xs k x n s j % dvN r f xs x j), .int .i64 0]) ∧ Below W.heap.size W w') :=
    Lib.hid (fun W hW => itold_f C R r f xs v k x n s u j W hW hp hj hd)
  obtain ⟨q, m, e1, e2, q0, q1, m0, m1, m2, e3, -⟩ := kt_bd hp hj hd
  rw [e1, e2] at CS
  rw [e3]
  unfold YrPost yrV at CI
  unfold yrV at CS
  have HCB : Hid (∀ (W : World), Below w.heap.size w W → Crs C R r f xs v k x n s u W) := Lib.hid (fun W h2 => h.on h2)
  clear e1 e2 e3 m1 m2 hp hj hd hi h
  obtain ⟨g0, hg0⟩ : ∃ y_, cD r xs (x + j - f).toNat = y_ := ⟨_, rfl⟩
  obtain ⟨g1, hg1⟩ : ∃ y_, cN r xs (x + j - f).toNat = y_ := ⟨_, rfl⟩
  obtain ⟨g2, hg2⟩ : ∃ y_, cC r xs (x + j - f).toNat = y_ := ⟨_, rfl⟩
  obtain ⟨g3, hg3⟩ : ∃ y_, cM r xs (x + j - f).toNat = y_ := ⟨_, rfl⟩
  rw [hg0, hg1, hg2, hg3] at CI CS
  clear hg0 hg1 hg2 hg3
  obtain ⟨g4, hg0⟩ : ∃ y_, cD r xs (x + j + lfN k n j - f).toNat = y_ := ⟨_, rfl⟩
  obtain ⟨g5, hg1⟩ : ∃ y_, cN r xs (x + j + lfN k n j - f).toNat = y_ := ⟨_, rfl⟩
  obtain ⟨g6, hg2⟩ : ∃ y_, cC r xs (x + j + lfN k n j - f).toNat = y_ := ⟨_, rfl⟩
  obtain ⟨g7, hg3⟩ : ∃ y_, cM r xs (x + j + lfN k n j - f).toNat = y_ := ⟨_, rfl⟩
  rw [hg0, hg1, hg2, hg3] at CI CS
  clear hg0 hg1 hg2 hg3
  obtain ⟨T, hT⟩ : ∃ y_, kT k = y_ := ⟨_, rfl⟩
  rw [hT] at CI CS
  clear hT
  have w1_ : IntKind.i64.wrap (q + 1) = q + 1 := IntWalk.i64_in _ (by omega)
  by_cases hm : 0 < m
  · have hr : max 0 (q + min 1 m) = max (q + 1) 0 := by omega
    rw [hr]
    go_enter Tryz.func71, Tryz.ntmps71
    go_wp2_with fail
    with_reducible refine CI.mono ?_
    rintro e w1 ⟨rfl, hb⟩
    have HL := Lib.hid (hb.trans ((box_b w1 (.cells #[.pointer (some ⟨C, 0, none⟩), .iface T (.agg #[]), .int .i64 g0, .int .i64 g1, .int .i64 g2, .int .i64 g3, .int .i64 g4, .int .i64 g5, .int .i64 g6, .int .i64 g7] 74)).mono hb.size))
    clear hb CI
    go_wp2_with fail
    with_reducible refine (CS.out _ (HCB.out _ HL.out)).mono ?_
    rintro e w2 ⟨rfl, hb⟩
    have HL2 := Lib.hid (HL.out.trans (hb.mono HL.out.size))
    clear hb
    go_wp2_with fail
    all_goals
      go_ret2
      exact ⟨ret_ii (by omega) rfl, HL2.out⟩
  · have hr : max 0 (q + min 1 m) = max q 0 := by omega
    rw [hr]
    go_enter Tryz.func71, Tryz.ntmps71
    go_wp2_with fail
    with_reducible refine CI.mono ?_
    rintro e w1 ⟨rfl, hb⟩
    have HL := Lib.hid (hb.trans ((box_b w1 (.cells #[.pointer (some ⟨C, 0, none⟩), .iface T (.agg #[]), .int .i64 g0, .int .i64 g1, .int .i64 g2, .int .i64 g3, .int .i64 g4, .int .i64 g5, .int .i64 g6, .int .i64 g7] 74)).mono hb.size))
    clear hb CI
    go_wp2_with fail
    with_reducible refine (CS.out _ (HCB.out _ HL.out)).mono ?_
    rintro e w2 ⟨rfl, hb⟩
    have HL2 := Lib.hid (HL.out.trans (hb.mono HL.out.size))
    clear hb
    go_wp2_with fail
    all_goals
      go_ret2
      exact ⟨ret_ii (by omega) rfl, HL2.out⟩

theorem dv_nat (r : Int) {f : Int} (xs : List Int) {x : Int} (h : f ≤ x) (j : Nat) : dvN r f xs x j = cD r xs ((x - f).toNat + j) := by
  unfold dvN
  rw [show (x + (j : Int) - f).toNat = (x - f).toNat + j by omega]

set_option maxHeartbeats 8000000 in
theorem ili_any (C R : Nat) (r f : Int) (xs : List Int) (v : Value) (k x n s u : Int) (w : World) (h : Crs C R r f xs v k x n s u w) (hp : poB r f xs k x n s u = true) :
    Calls Tryz.prog 40 #[.pointer (some ⟨C, 0, none⟩)] w (LsPost (rlY r f xs k x n s u) (rlE r f xs k x n s u) w) := by
  have hdp := dur_pos hp
  have hx : f ≤ x := (rv_in (j := 0) hp ⟨by omega, by omega⟩).2.2.2.2.2.1.1
  obtain ⟨m, hm⟩ : ∃ m : Nat, durN f xs k x n = m := ⟨(durN f xs k x n).toNat, by omega⟩
  have CN : Hid (∀ (j : Nat) W, j < m → cD r xs ((x - f).toNat + j) = 0 → Hid (Below w.heap.size w W) → Calls Tryz.prog 71 #[.pointer (some ⟨C, 0, none⟩), .int .i64 j] W fun e w' => e = .returned (.tuple #[.int .i64 0, .int .i64 5]) ∧ Below W.heap.size W w') :=
    Lib.hid (fun j W hj hd hW => ike_no C R r f xs v k x n s u j W (h.on hW.out) hp ⟨by omega, by omega⟩ (by rw [dv_nat r xs hx]; exact hd))
  have CY : Hid (∀ (j : Nat) W, j < m → cD r xs ((x - f).toNat + j) ≠ 0 → Hid (Below w.heap.size w W) → Calls Tryz.prog 71 #[.pointer (some ⟨C, 0, none⟩), .int .i64 j] W fun e w' => e = .returned (.tuple #[.int .i64 (rlF r f xs k x n s j), .int .i64 0]) ∧ Below W.heap.size W w') :=
    Lib.hid (fun j W hj hd hW => ike_yes C R r f xs v k x n s u j W (h.on hW.out) hp ⟨by omega, by omega⟩ (by rw [dv_nat r xs hx]; exact hd))
  have HY : Hid (rlY r f xs k x n s u = if rlE r f xs k x n s u = 0 then colL (rlF r f xs k x n s) m else []) := Lib.hid (by unfold rlY; rw [hm, Int.toNat_natCast])
  have HEE : Hid (rlE r f xs k x n s u = if npB r xs (x - f).toNat m = true then 0 else 5) := Lib.hid (by unfold rlE; rw [if_pos hp, hm, Int.toNat_natCast])
  have c16 := (h.on (box_b w (.cells #[] 2))).dur
  rw [hm] at c16
  have hm1 : m ≤ 120 := by omega
  obtain ⟨Y, hY⟩ : ∃ y_, rlY r f xs k x n s u = y_ := ⟨_, rfl⟩
  obtain ⟨EE, hEE⟩ : ∃ y_, rlE r f xs k x n s u = y_ := ⟨_, rfl⟩
  obtain ⟨F, hF⟩ : ∃ y_, rlF r f xs k x n s = y_ := ⟨_, rfl⟩
  obtain ⟨K, hK⟩ : ∃ y_, (x - f).toNat = y_ := ⟨_, rfl⟩
  rw [hY, hEE, hF] at HY
  rw [hEE, hK] at HEE
  rw [hK] at CN
  rw [hK, hF] at CY
  rw [hY, hEE]
  have hown := ownI_new w
  have HW0 : Hid (Below w.heap.size w (w.alloc (.cells #[] 2))) := Lib.hid (box_b _ _)
  clear hY hEE hF hK hm hdp hx hp h
  go_enter Tryz.func40, Tryz.ntmps40
  go_wp2_with fail
  go_loopw [4, 13] (fun v i wr => ∃ j : Nat, j ≤ m ∧ i = .int .i64 j ∧ OwnI w.heap.size wr v (colL F j) ∧ Hid (Below w.heap.size w wr) ∧ Hid (∀ k, k < j → cD r xs (K + k) ≠ 0)) (fun _ i _ => m - (intOf i).toNat)
  case atStart => exact ⟨0, by omega, rfl, hown, HW0, Lib.hid (fun k hk => by omega)⟩
  case round =>
    clear hown HW0 c16
    obtain ⟨j, hj, rfl, hown, HW, HZ⟩ := hrel
    have hwr := HW.out.size
    by_cases hlt : (j : Int) < m
    · have HLT : Hid (j < m) := Lib.hid (by omega)
      by_cases hz : cD r xs (K + j) = 0
      · have HE5 : Hid (EE = 5) := Lib.hid (by rw [HEE.out, npB_no HLT.out hz]; simp)
        have HY5 : Hid (Y = []) := Lib.hid (by rw [HY.out, HE5.out]; rfl)
        have CP := Lib.hid (CN.out j _ HLT.out hz HW)
        clear hz
        go_wp2_with fail
        with_reducible refine CP.out.mono ?_
        rintro e w6 ⟨rfl, hb⟩
        have HW6 := Lib.hid (HW.out.trans (hb.mono HW.out.size))
        clear hb
        go_wp2_with fail
        go_ret2
        exact ls_nil HW6.out HE5.out HY5.out
      · have CP := Lib.hid (CY.out j _ HLT.out hz HW)
        have HZ2 : Hid (∀ k, k < j + 1 → cD r xs (K + k) ≠ 0) := Lib.hid (fun k hk => by
          by_cases e : k = j
          · subst e; exact hz
          · exact HZ.out k (by omega))
        obtain ⟨U, hU⟩ : ∃ y_, F j = y_ := ⟨_, rfl⟩
        have HYY : Hid (colL F (j + 1) = colL F j ++ [U]) := Lib.hid (by rw [colL_snoc, hU])
        have HL1 : Hid ((colL F j).length ≤ 4096) := Lib.hid (by rw [colL_len]; omega)
        rw [hU] at CP
        obtain ⟨zs, hzs⟩ : ∃ zs, colL F j = zs := ⟨_, rfl⟩
        rw [hzs] at hown HYY HL1
        clear hzs hU hz HZ
        go_wp2_with fail
        with_reducible refine CP.out.mono ?_
        rintro e w6 ⟨rfl, hb⟩
        have HW6 := Lib.hid (HW.out.trans (hb.mono HW.out.size))
        have hown := hown.on hb
        have hw6 := HW6.out.size
        clear hb HW CP hwr
        go_wp2_with (at_builtin; refine wpList_app rfl _ _ rfl w.heap.size _ zs U rfl (hown.same (fun k hk hl => Below.heap_alloc _ _ _ hl)) ⟨w6.heap.size, 0, none⟩ rfl (one_newC w6 U) HL1.out (by simp; omega) ?_)
        intro v' w8 hown' hgrow hw
        have hb := app_below hown hw6 hgrow
        have HW8 := Lib.hid (HW6.out.trans hb)
        rw [← HYY.out] at hown'
        clear hgrow hown hw hb HW6
        go_wp2_with fail
        go_roundw
        case rel => exact ⟨j + 1, by omega, by go_num, hown', HW8, HZ2⟩
        case measure => simp [intOf]; omega
    · go_wp2_with fail
      go_ret2
      have ej : j = m := by omega
      have HE0 : EE = 0 := by rw [HEE.out, npB_yes (by rw [← ej]; exact HZ.out)]; simp
      exact ls_cond hown (by rw [colL_len]; omega) HW.out (Nat.le_refl _) HE0 (by rw [HY.out, HE0, ej]; rfl)

theorem Crs.kind {C R : Nat} {r f : Int} {xs : List Int} {k x n s u : Int} {v : Value} {W : World} (h : Crs C R r f xs v k x n s u W) : W.cell? ⟨C, 1, none⟩ = some (.int .i64 k) ∧ W.cell? ⟨C, 4, none⟩ = some (.int .i64 s) := by
  have hb := h.b
  unfold crV at hb
  obtain ⟨-, c1, -, -, c4, -⟩ := hb.c17
  exact ⟨c1, c4⟩

theorem iad_any (C R : Nat) (r f : Int) (xs : List Int) (v : Value) (k x n s u : Int) (w : World) (h : Crs C R r f xs v k x n s u w) :
    Calls Tryz.prog 79 #[.pointer (some ⟨C, 0, none⟩)] w fun e w' => e = .returned (.int .i64 (if k = 3 then 0 else s)) ∧ w = w' := by
  obtain ⟨c1, c4⟩ := h.kind
  clear h
  by_cases hk : k = 3
  · rw [if_pos hk]
    subst hk
    go_enter Tryz.func79, Tryz.ntmps79
    go_wp2_with fail
    go_ret
    exact ⟨rfl, rfl⟩
  · rw [if_neg hk]
    have hk2 : (k == 3) = false := by simp [hk]
    clear hk
    go_enter Tryz.func79, Tryz.ntmps79
    go_wp2_with fail
    go_ret
    exact ⟨rfl, rfl⟩

theorem ilr_any (C R : Nat) (r f : Int) (xs : List Int) (v : Value) (k x n s u : Int) (w : World) (h : Crs C R r f xs v k x n s u w) :
    Calls Tryz.prog 78 #[.pointer (some ⟨C, 0, none⟩)] w fun e w' => e = .returned (.int .i64 (if k = 3 ∨ k = 2 then 0 else s)) ∧ w = w' := by
  obtain ⟨c1, c4⟩ := h.kind
  have CD := iad_any C R r f xs v k x n s u w h
  clear h
  by_cases hk : k = 2
  · rw [if_pos (Or.inr hk)]
    subst hk
    clear CD
    go_enter Tryz.func78, Tryz.ntmps78
    go_wp2_with fail
    go_ret
    exact ⟨rfl, rfl⟩
  · have e : (if k = 3 ∨ k = 2 then 0 else s) = (if k = 3 then 0 else s) := by
      by_cases h3 : k = 3
      · simp [h3]
      · simp [h3, hk]
    rw [e]
    obtain ⟨Z, hZ⟩ : ∃ y_, (if k = 3 then 0 else s) = y_ := ⟨_, rfl⟩
    rw [hZ] at CD ⊢
    have hk2 : (k == 2) = false := by simp [hk]
    clear hk e hZ
    go_enter Tryz.func78, Tryz.ntmps78
    go_wp2_with fail
    refine CD.mono ?_
    rintro e w1 ⟨rfl, rfl⟩
    go_wp2_with fail
    go_ret
    exact ⟨rfl, rfl⟩

set_option maxHeartbeats 4000000 in
theorem iri_any (C R : Nat) (r f : Int) (xs : List Int) (v : Value) (k x n s u j : Int) (w : World) (h : Crs C R r f xs v k x n s u w) (he : rvE r f xs k x n s u j = 0) :
    Calls Tryz.prog 47 #[.pointer (some ⟨C, 0, none⟩), .int .i64 j] w (IIPost (rkV r f xs k x n s u j) (rkE r f xs k x n s u j) w) := by
  obtain ⟨hp, hj, hd⟩ := rvE_iff.1 he
  have hdp := dur_pos hp
  have c16 := h.dur
  have q1 : IntKind.i64.wrap (durN f xs k x n - 1) = durN f xs k x n - 1 := IntWalk.i64_in _ (by omega)
  have q2 : IntKind.i64.wrap (j + 1) = j + 1 := IntWalk.i64_in _ (by omega)
  unfold IIPost
  by_cases hl : j = durN f xs k x n - 1
  · obtain ⟨e1, e2⟩ := rk_lastS he hl
    rw [e1, e2]
    have CL := ilr_any C R r f xs v k x n s u w h
    obtain ⟨Z, hZ⟩ : ∃ y_, (if k = 3 ∨ k = 2 then 0 else s) = y_ := ⟨_, rfl⟩
    rw [hZ] at CL ⊢
    obtain ⟨E, hE⟩ : ∃ y_, durN f xs k x n = y_ := ⟨_, rfl⟩
    rw [hE] at q1 hl c16
    subst hl
    clear hZ hE e1 e2 he hp hj hd hdp h q2
    go_enter Tryz.func47, Tryz.ntmps47
    go_wp2_with fail
    refine CL.mono ?_
    rintro e w1 ⟨rfl, rfl⟩
    go_wp2_with fail
    go_ret2
    exact ⟨rfl, Below.refl _ _⟩
  · have hlt : j < durN f xs k x n - 1 := by omega
    have hne : (j == durN f xs k x n - 1) = false := by simp [hl]
    obtain ⟨m1, m2⟩ := rk_moreS he hlt
    by_cases hz : dvN r f xs x (j + 1) = 0
    · obtain ⟨e1, e2⟩ := m1 hz
      rw [e1, e2]
      have CK := ike_no C R r f xs v k x n s u (j + 1) w h hp ⟨by omega, by omega⟩ hz
      obtain ⟨E, hE⟩ : ∃ y_, durN f xs k x n = y_ := ⟨_, rfl⟩
      rw [hE] at q1 hne c16
      clear hE e1 e2 m1 m2 he hp hj hd hdp h hl hlt hz
      go_enter Tryz.func47, Tryz.ntmps47
      go_wp2_with fail
      refine CK.mono ?_
      rintro e w1 ⟨rfl, hb⟩
      have HB := Lib.hid hb
      clear hb
      go_wp2_with fail
      go_ret2
      exact ⟨rfl, HB.out⟩
    · obtain ⟨e1, e2⟩ := m2 hz
      rw [e1, e2]
      have CK := ike_yes C R r f xs v k x n s u (j + 1) w h hp ⟨by omega, by omega⟩ hz
      have CD : Hid (∀ W, Hid (Below w.heap.size w W) → Calls Tryz.prog 79 #[.pointer (some ⟨C, 0, none⟩)] W fun e w' => e = .returned (.int .i64 (if k = 3 then 0 else s)) ∧ W = w') := Lib.hid (fun W hW => iad_any C R r f xs v k x n s u W (h.on hW.out))
      obtain ⟨-, -, -, -, -, -, -, -, -, -, k0, k1⟩ := kt_bd hp ⟨by omega, by omega⟩ hz
      obtain ⟨-, -, -, -, -, -, -, -, -, -, -, -, -, -, -, -, -, -, -, -, s0, s1⟩ := rv_nums hp hj hd
      obtain ⟨Z, hZ⟩ : ∃ y_, (if k = 3 then 0 else s) = y_ := ⟨_, rfl⟩
      have hZ1 : 0 ≤ Z ∧ Z ≤ 100000000 := by rw [← hZ]; split <;> omega
      rw [hZ] at CD ⊢
      obtain ⟨T, hT⟩ : ∃ y_, ktN r f xs k x n s (j + 1) = y_ := ⟨_, rfl⟩
      rw [hT] at CK k0 k1 ⊢
      have q3 : IntKind.i64.wrap (Z - T) = Z - T := IntWalk.i64_in _ (by omega)
      obtain ⟨E, hE⟩ : ∃ y_, durN f xs k x n = y_ := ⟨_, rfl⟩
      rw [hE] at q1 hne c16
      clear hE hZ hT e1 e2 m1 m2 he hp hj hd hdp h hl hlt hz s0 s1 k0 k1
      go_enter Tryz.func47, Tryz.ntmps47
      go_wp2_with fail
      refine CK.mono ?_
      rintro e w1 ⟨rfl, hb⟩
      have HB := Lib.hid hb
      clear hb
      go_wp2_with fail
      with_reducible refine (CD.out _ HB).mono ?_
      rintro e w2 ⟨rfl, rfl⟩
      go_wp2_with fail
      go_ret2
      exact ⟨rfl, HB.out⟩

set_option maxHeartbeats 4000000 in
theorem ira_any (r f : Int) (xs : List Int) (a : Option Addr) (l c : Nat) (k x n s u j : Int) (w : World) (h : Ints w a l xs) (hlc : l ≤ c) :
    Calls Tryz.prog 17 #[.agg #[.int .i64 f, .slice a l c, .int .i64 r], .agg #[.int .i64 k, .int .i64 x, .int .i64 n, .int .i64 s, .int .i64 u], .int .i64 j] w (IIPost (rkV r f xs k x n s u j) (rkE r f xs k x n s u j) w) := by
  have H := Lib.hid h
  clear h
  have HP := Lib.hid (BP.new w f (.slice a l c) r k x n s u 28 30)
  unfold IIPost
  by_cases he : rvE r f xs k x n s u j = 0
  · 
    have CT : Hid (∀ W, Hid (BP w f (.slice a l c) r k x n s u W) → Calls Tryz.prog 46 #[.agg #[.int .i64 f, .slice a l c, .int .i64 r], .agg #[.int .i64 k, .int .i64 x, .int .i64 n, .int .i64 s, .int .i64 u], .int .i64 j] W (YoYes r f xs (.slice a l c) k x n s u j W)) := Lib.hid (fun W hW => iyo_yes r f xs a l c k x n s u j W (H.out.on hW.out.low) hlc he)
    unfold YoYes at CT
    have CS : Hid (∀ C R W, Crs C R r f xs (.slice a l c) k x n s u W → Calls Tryz.prog 47 #[.pointer (some ⟨C, 0, none⟩), .int .i64 j] W (IIPost (rkV r f xs k x n s u j) (rkE r f xs k x n s u j) W)) :=
      Lib.hid (fun C R W hW => iri_any C R r f xs (.slice a l c) k x n s u j W hW he)
    unfold IIPost at CS
    unfold yrV at CT
    obtain ⟨X, hX⟩ : ∃ y_, rkV r f xs k x n s u j = y_ := ⟨_, rfl⟩
    obtain ⟨Y, hY⟩ : ∃ y_, rkE r f xs k x n s u j = y_ := ⟨_, rfl⟩
    rw [hX, hY] at CS ⊢
    have HCB : Hid (∀ C R (W W' : World), Crs C R r f xs (.slice a l c) k x n s u W → Below W.heap.size W W' → Crs C R r f xs (.slice a l c) k x n s u W') := Lib.hid (fun C R W W' h1 h2 => h1.on h2)
    clear hX hY he
    obtain ⟨g0, hg0⟩ : ∃ y_, cD r xs (x + j - f).toNat = y_ := ⟨_, rfl⟩
    obtain ⟨g1, hg1⟩ : ∃ y_, cN r xs (x + j - f).toNat = y_ := ⟨_, rfl⟩
    obtain ⟨g2, hg2⟩ : ∃ y_, cC r xs (x + j - f).toNat = y_ := ⟨_, rfl⟩
    obtain ⟨g3, hg3⟩ : ∃ y_, cM r xs (x + j - f).toNat = y_ := ⟨_, rfl⟩
    rw [hg0, hg1, hg2, hg3] at CT
    clear hg0 hg1 hg2 hg3
    obtain ⟨g4, hg0⟩ : ∃ y_, cD r xs (x + j + lfN k n j - f).toNat = y_ := ⟨_, rfl⟩
    obtain ⟨g5, hg1⟩ : ∃ y_, cN r xs (x + j + lfN k n j - f).toNat = y_ := ⟨_, rfl⟩
    obtain ⟨g6, hg2⟩ : ∃ y_, cC r xs (x + j + lfN k n j - f).toNat = y_ := ⟨_, rfl⟩
    obtain ⟨g7, hg3⟩ : ∃ y_, cM r xs (x + j + lfN k n j - f).toNat = y_ := ⟨_, rfl⟩
    rw [hg0, hg1, hg2, hg3] at CT
    clear hg0 hg1 hg2 hg3
    obtain ⟨T, hT⟩ : ∃ y_, kT k = y_ := ⟨_, rfl⟩
    rw [hT] at CT
    clear hT
    go_enter Tryz.func17, Tryz.ntmps17
    go_wp2_with fail
    obtain ⟨W1, hW1⟩ : ∃ W1, ((w.alloc (.cells #[.int .i64 f, .slice a l c, .int .i64 r] 28)).alloc (.cells #[.int .i64 k, .int .i64 x, .int .i64 n, .int .i64 s, .int .i64 u] 30)) = W1 := ⟨_, rfl⟩
    rw [hW1] at HP ⊢
    clear hW1
    with_reducible refine (CT.out _ HP).mono ?_
    rintro e w1 ⟨C, R, rfl, hcr, hb⟩
    have HP := Lib.hid (HP.out.on hb)
    have HCR := Lib.hid (HCB.out _ _ _ _ hcr (box_b w1 (.cells #[.pointer (some ⟨C, 0, none⟩), .iface T (.agg #[]), .int .i64 g0, .int .i64 g1, .int .i64 g2, .int .i64 g3, .int .i64 g4, .int .i64 g5, .int .i64 g6, .int .i64 g7] 74)))
    have HL := Lib.hid (HP.out.low.trans ((box_b w1 (.cells #[.pointer (some ⟨C, 0, none⟩), .iface T (.agg #[]), .int .i64 g0, .int .i64 g1, .int .i64 g2, .int .i64 g3, .int .i64 g4, .int .i64 g5, .int .i64 g6, .int .i64 g7] 74)).mono HP.out.low.size))
    clear hb hcr CT
    go_wp2_with fail
    with_reducible refine (CS.out C R _ HCR.out).mono ?_
    rintro e w2 ⟨rfl, hb⟩
    have HL2 := Lib.hid (HL.out.trans (hb.mono HL.out.size))
    clear hb
    go_wp2_with fail
    go_ret2
    exact ⟨rfl, HL2.out⟩
  · have HV : Hid (rkV r f xs k x n s u j = 0 ∧ rkE r f xs k x n s u j = rvE r f xs k x n s u j) := Lib.hid (by
      have e : rkE r f xs k x n s u j = rvE r f xs k x n s u j := by unfold rkE; rw [if_neg he]
      exact ⟨by unfold rkV; rw [e, if_neg he], e⟩)
    rw [HV.out.1, HV.out.2]
    have CT : Hid (∀ W, Hid (BP w f (.slice a l c) r k x n s u W) → Calls Tryz.prog 46 #[.agg #[.int .i64 f, .slice a l c, .int .i64 r], .agg #[.int .i64 k, .int .i64 x, .int .i64 n, .int .i64 s, .int .i64 u], .int .i64 j] W (YrPost yrZ (rvE r f xs k x n s u j) W)) := Lib.hid (fun W hW => iyo_no r f xs a l c k x n s u j W (H.out.on hW.out.low) hlc he)
    unfold YrPost yrZ at CT
    obtain ⟨E, hE⟩ : ∃ y_, rvE r f xs k x n s u j = y_ := ⟨_, rfl⟩
    rw [hE] at CT he ⊢
    have hb2 : (E != 0) = true := by simp [he]
    clear hE HV he
    go_enter Tryz.func17, Tryz.ntmps17
    go_wp2_with fail
    obtain ⟨W1, hW1⟩ : ∃ W1, ((w.alloc (.cells #[.int .i64 f, .slice a l c, .int .i64 r] 28)).alloc (.cells #[.int .i64 k, .int .i64 x, .int .i64 n, .int .i64 s, .int .i64 u] 30)) = W1 := ⟨_, rfl⟩
    rw [hW1] at HP ⊢
    clear hW1
    with_reducible refine (CT.out _ HP).mono ?_
    rintro e w1 ⟨rfl, hb⟩
    have HP := Lib.hid (HP.out.on hb)
    have HL := Lib.hid (HP.out.low.trans ((box_b w1 (.cells #[.pointer none, .nilIface, .int .i64 0, .int .i64 0, .int .i64 0, .int .i64 0, .int .i64 0, .int .i64 0, .int .i64 0, .int .i64 0] 74)).mono HP.out.low.size))
    clear hb CT
    go_wp2_with fail
    go_ret2
    exact ⟨rfl, HL.out⟩

set_option maxHeartbeats 4000000 in
theorem irl_any (r f : Int) (xs : List Int) (a : Option Addr) (l c : Nat) (k x n s u : Int) (w : World) (h : Ints w a l xs) (hlc : l ≤ c) :
    Calls Tryz.prog 12 #[.agg #[.int .i64 f, .slice a l c, .int .i64 r], .agg #[.int .i64 k, .int .i64 x, .int .i64 n, .int .i64 s, .int .i64 u]] w (LsPost (rlY r f xs k x n s u) (rlE r f xs k x n s u) w) := by
  have H := Lib.hid h
  clear h
  have HP := Lib.hid (BP.new w f (.slice a l c) r k x n s u 28 30)
  by_cases hp : poB r f xs k x n s u = true
  · have CT : Hid (∀ W, Hid (BP w f (.slice a l c) r k x n s u W) → Calls Tryz.prog 39 #[.agg #[.int .i64 f, .slice a l c, .int .i64 r], .agg #[.int .i64 k, .int .i64 x, .int .i64 n, .int .i64 s, .int .i64 u]] W (CoYes r f xs (.slice a l c) k x n s u W)) := Lib.hid (fun W hW => ico_yes r f xs a l c k x n s u W (H.out.on hW.out.low) hlc hp)
    unfold CoYes at CT
    have CS : Hid (∀ C R W, Crs C R r f xs (.slice a l c) k x n s u W → Calls Tryz.prog 40 #[.pointer (some ⟨C, 0, none⟩)] W (LsPost (rlY r f xs k x n s u) (rlE r f xs k x n s u) W)) :=
      Lib.hid (fun C R W hW => ili_any C R r f xs (.slice a l c) k x n s u W hW hp)
    obtain ⟨Y, hY⟩ : ∃ y_, rlY r f xs k x n s u = y_ := ⟨_, rfl⟩
    obtain ⟨E, hE⟩ : ∃ y_, rlE r f xs k x n s u = y_ := ⟨_, rfl⟩
    rw [hY, hE] at CS ⊢
    unfold LsPost at CS
    clear hY hE hp
    go_enter Tryz.func12, Tryz.ntmps12
    go_wp2_with fail
    obtain ⟨W1, hW1⟩ : ∃ W1, ((w.alloc (.cells #[.int .i64 f, .slice a l c, .int .i64 r] 28)).alloc (.cells #[.int .i64 k, .int .i64 x, .int .i64 n, .int .i64 s, .int .i64 u] 30)) = W1 := ⟨_, rfl⟩
    rw [hW1] at HP ⊢
    clear hW1
    with_reducible refine (CT.out _ HP).mono ?_
    rintro e w1 ⟨C, R, rfl, hcr, hb⟩
    have HP := Lib.hid (HP.out.on hb)
    obtain ⟨b0, b1, b2, p0, p1, p2, p3, p4, -⟩ := bpS HP.out
    clear hb CT
    have HCR := Lib.hid hcr
    clear hcr
    go_wp2_with fail
    with_reducible refine (CS.out C R _ HCR.out).mono ?_
    rintro e w2 ⟨A, N, M, rfl, ht, hb⟩
    have HL2 := Lib.hid (HP.out.low.trans (hb.mono HP.out.low.size))
    have HT := Lib.hid (ht.mono HP.out.low.size)
    clear hb ht
    go_wp2_with fail
    go_ret2
    exact ⟨A, N, M, rfl, HT.out, HL2.out⟩
  · have hp : poB r f xs k x n s u = false := by simpa using hp
    have HE : Hid (rlE r f xs k x n s u = 1) := Lib.hid (by unfold rlE; simp [hp])
    have HY : Hid (rlY r f xs k x n s u = []) := Lib.hid (by unfold rlY; rw [HE.out]; rfl)
    have CT : Hid (∀ W, Hid (BP w f (.slice a l c) r k x n s u W) → Calls Tryz.prog 39 #[.agg #[.int .i64 f, .slice a l c, .int .i64 r], .agg #[.int .i64 k, .int .i64 x, .int .i64 n, .int .i64 s, .int .i64 u]] W (TfNo W)) := Lib.hid (fun W hW => ico_no r f xs a l c k x n s u W (H.out.on hW.out.low) hlc hp)
    unfold TfNo at CT
    clear hp
    go_enter Tryz.func12, Tryz.ntmps12
    go_wp2_with fail
    obtain ⟨W1, hW1⟩ : ∃ W1, ((w.alloc (.cells #[.int .i64 f, .slice a l c, .int .i64 r] 28)).alloc (.cells #[.int .i64 k, .int .i64 x, .int .i64 n, .int .i64 s, .int .i64 u] 30)) = W1 := ⟨_, rfl⟩
    rw [hW1] at HP ⊢
    clear hW1
    with_reducible refine (CT.out _ HP).mono ?_
    rintro e w1 ⟨rfl, hb⟩
    have HP := Lib.hid (HP.out.on hb)
    obtain ⟨b0, b1, b2, p0, p1, p2, p3, p4, -⟩ := bpS HP.out
    clear hb CT
    go_wp2_with fail
    go_ret2
    exact ls_nil HP.out.low HE.out HY.out

end Go.Proofs.YtnclncglmnbelaaGreat

/- Reserves: the greatest one. (Written by wip/gen/rvk.py.) -/
namespace Go.Proofs.YtnclncglmnbelaaGreat
open Go.ChangeShapes Go.WideShapes Go.ChangeAt Go.RowKit
set_option linter.unusedVariables false
set_option maxRecDepth 100000

theorem gmI_lt (F : Nat → Int) (n : Nat) (h : 1 ≤ n) : gmI F n < n := by
  induction n with
  | zero => omega
  | succ n ih =>
    unfold gmI
    by_cases hn : n = 0
    · subst hn
      rw [if_neg (by unfold gmI; omega)]
      unfold gmI
      omega
    · have := ih (by omega)
      split <;> omega

/-- the greatest number so far; nothing is 0 -/
def gmV (F : Nat → Int) (n : Nat) : Int := if n = 0 then 0 else F (gmI F n)

theorem gmV_step (F : Nat → Int) (hF : ∀ j, 0 ≤ F j) (j : Nat) :
    (gmV F j < F j → gmV F (j + 1) = F j ∧ gmI F (j + 1) = j) ∧ (¬ gmV F j < F j → gmV F (j + 1) = gmV F j ∧ gmI F (j + 1) = gmI F j) := by
  have h0 := hF j
  unfold gmV
  rw [if_neg (show ¬ j + 1 = 0 by omega)]
  by_cases hj : j = 0
  · subst hj
    have e : gmI F (0 + 1) = 0 := by
      show (if F (gmI F 0) < F 0 then 0 else gmI F 0) = 0
      split <;> rfl
    have e0 : gmI F 0 = 0 := rfl
    rw [if_pos rfl, e, e0]
    exact ⟨fun _ => ⟨rfl, rfl⟩, fun h => ⟨by omega, rfl⟩⟩
  · rw [if_neg hj]
    constructor
    · intro h
      have e : gmI F (j + 1) = j := by
        show (if F (gmI F j) < F j then j else gmI F j) = j
        rw [if_pos h]
      rw [e]
      exact ⟨rfl, rfl⟩
    · intro h
      have e : gmI F (j + 1) = gmI F j := by
        show (if F (gmI F j) < F j then j else gmI F j) = _
        rw [if_neg h]
      rw [e]
      exact ⟨rfl, rfl⟩

theorem gm_most (F : Nat → Int) (n : Nat) : ∀ j, j < n → F j ≤ F (gmI F n) := by
  induction n with
  | zero => intro j h; omega
  | succ n ih =>
    intro j hj
    show F j ≤ F (if F (gmI F n) < F n then n else gmI F n)
    by_cases hjn : j = n
    · subst hjn
      split <;> omega
    · have := ih j (by omega)
      split <;> omega

/-- what a list of reserves without an error is -/
theorem rl_ok {r f : Int} {xs : List Int} {k x n s u : Int} (h : rlE r f xs k x n s u = 0) :
    ∃ m : Nat, (durN f xs k x n).toNat = m ∧ durN f xs k x n = m ∧ 1 ≤ m ∧ m ≤ 120 ∧ poB r f xs k x n s u = true ∧ rlY r f xs k x n s u = colL (rlF r f xs k x n s) m ∧ (∀ j : Nat, j < m → rvE r f xs k x n s u j = 0) ∧ (∀ j, 0 ≤ rlF r f xs k x n s j) ∧ (∀ j, j < m → rlF r f xs k x n s j ≤ 20000000001) := by
  have hp : poB r f xs k x n s u = true := by
    by_cases hp : poB r f xs k x n s u = true
    · exact hp
    · unfold rlE at h; rw [if_neg hp] at h; omega
  have hd := dur_pos hp
  have hx : f ≤ x := (rv_in (j := 0) hp ⟨by omega, by omega⟩).2.2.2.2.2.1.1
  have hn : npB r xs (x - f).toNat (durN f xs k x n).toNat = true := by
    by_cases hn : npB r xs (x - f).toNat (durN f xs k x n).toNat = true
    · exact hn
    · unfold rlE at h; rw [if_pos hp, if_neg hn] at h; omega
  have hv : ∀ j : Nat, j < (durN f xs k x n).toNat → rvE r f xs k x n s u j = 0 := fun j hj =>
    rvE_iff.2 ⟨hp, ⟨by omega, by omega⟩, by rw [dv_natS r xs hx]; exact npB_iff.1 hn j hj⟩
  refine ⟨(durN f xs k x n).toNat, rfl, by omega, by omega, by omega, hp, by unfold rlY; rw [if_pos h], hv, fun j => by unfold rlF ktN; omega, fun j hj => ?_⟩
  obtain ⟨-, hj2, hd2⟩ := rvE_iff.1 (hv j hj)
  obtain ⟨-, -, -, -, -, -, -, -, -, -, -, k1⟩ := kt_bd hp hj2 hd2
  exact k1

set_option maxHeartbeats 4000000 in
theorem igr_any (r f : Int) (xs : List Int) (a : Option Addr) (l c : Nat) (k x n s u : Int) (w : World) (h : Ints w a l xs) (hlc : l ≤ c) :
    Calls Tryz.prog 14 #[.agg #[.int .i64 f, .slice a l c, .int .i64 r], .agg #[.int .i64 k, .int .i64 x, .int .i64 n, .int .i64 s, .int .i64 u]] w (IIIPost (grV r f xs k x n s u) (grI r f xs k x n s u) (rlE r f xs k x n s u) w) := by
  have H := Lib.hid h
  clear h
  have HP := Lib.hid (BP.new w f (.slice a l c) r k x n s u 28 30)
  unfold IIIPost
  have CR : Hid (∀ W, Hid (BP w f (.slice a l c) r k x n s u W) → Calls Tryz.prog 12 #[.agg #[.int .i64 f, .slice a l c, .int .i64 r], .agg #[.int .i64 k, .int .i64 x, .int .i64 n, .int .i64 s, .int .i64 u]] W (LsPost (rlY r f xs k x n s u) (rlE r f xs k x n s u) W)) := Lib.hid (fun W hW => irl_any r f xs a l c k x n s u W (H.out.on hW.out.low) hlc)
  by_cases he : rlE r f xs k x n s u = 0
  · obtain ⟨m, hm, hmd, hm0, hm1, hp, hY, -, hF0, hF1⟩ := rl_ok he
    have HV : Hid (grV r f xs k x n s u = gmV (rlF r f xs k x n s) m ∧ grI r f xs k x n s u = (gmI (rlF r f xs k x n s) m : Nat)) := Lib.hid (by
      unfold grV grI gmV
      rw [if_pos he, if_pos he, hm, if_neg (by omega)]
      exact ⟨rfl, rfl⟩)
    rw [HV.out.1, HV.out.2, he]
    rw [he, hY] at CR
    unfold LsPost at CR
    obtain ⟨F, hF⟩ : ∃ y_, rlF r f xs k x n s = y_ := ⟨_, rfl⟩
    rw [hF] at CR hF0 hF1 ⊢
    have HS := Lib.hid (gmV_step F hF0)
    have HL := Lib.hid (gmI_lt F)
    have HG : Hid (∀ j, j < m → (colL F m).getD j 0 = F j) := Lib.hid (fun j hj => colL_get F m j hj)
    have HC : Hid (∀ j, j < m → 0 ≤ F j ∧ F j ≤ 20000000001) := Lib.hid (fun j hj => ⟨hF0 j, hF1 j hj⟩)
    clear HV hF hF0 hF1 hY hp hm hmd he
    go_enter Tryz.func14, Tryz.ntmps14
    go_wp2_with fail
    obtain ⟨W1, hW1⟩ : ∃ W1, ((w.alloc (.cells #[.int .i64 f, .slice a l c, .int .i64 r] 28)).alloc (.cells #[.int .i64 k, .int .i64 x, .int .i64 n, .int .i64 s, .int .i64 u] 30)) = W1 := ⟨_, rfl⟩
    rw [hW1] at HP ⊢
    clear hW1
    with_reducible refine (CR.out _ HP).mono ?_
    rintro e w1 ⟨A, N, M, rfl, ht, hb⟩
    have HP := Lib.hid (HP.out.on hb)
    have hi := ht.ints
    have hN : N = m := by rw [← hi.len, colL_len]
    subst hN
    obtain ⟨g, off, rfl, hg, hc⟩ := hi.at (by omega)
    have HCL : Hid (∀ j, j < N → w1.cell? ⟨g, off + j, none⟩ = some (.int .i64 (F j))) := Lib.hid (fun j hj => by rw [← HG.out j hj]; exact hc j hj)
    clear hb ht hi hc CR HG
    go_wp2_with fail
    go_loop [9, 10, 24] (fun p q i => ∃ j : Nat, j ≤ N ∧ i = .int .i64 j ∧ p = .int .i64 (gmV F j) ∧ q = .int .i64 (gmI F j : Nat)) (fun _ _ i => N - (intOf i).toNat)
    case atStart => exact ⟨0, by omega, rfl, rfl, rfl⟩
    case round =>
      obtain ⟨j, hj, rfl, rfl, rfl⟩ := hrel
      by_cases hlt : j < N
      · have hx := HCL.out j hlt
        obtain ⟨s1, s2⟩ := HS.out j
        obtain ⟨X, hX⟩ : ∃ y_, F j = y_ := ⟨_, rfl⟩
        obtain ⟨G, hG⟩ : ∃ y_, gmV F j = y_ := ⟨_, rfl⟩
        obtain ⟨I, hI⟩ : ∃ y_, gmI F j = y_ := ⟨_, rfl⟩
        rw [hX] at hx s1 s2
        rw [hG] at s1 s2 ⊢
        rw [hI] at s2 ⊢
        have S1 := Lib.hid s1
        have S2 := Lib.hid s2
        clear s1 s2 hX hG hI
        by_cases hgt : G < X
        · go_wp2_with fail
          go_round
          case rel => exact ⟨j + 1, by omega, by go_num, by rw [(S1.out hgt).1], by rw [(S1.out hgt).2]⟩
          case measure => simp [intOf]; omega
        · go_wp2_with fail
          go_round
          case rel => exact ⟨j + 1, by omega, by go_num, by rw [(S2.out (by omega)).1], by rw [(S2.out (by omega)).2]⟩
          case measure => simp [intOf]; omega
      · obtain rfl : j = N := by omega
        go_wp2_with fail
        go_ret3
        exact ⟨rfl, HP.out.low⟩
  · have HV : Hid (grV r f xs k x n s u = 0 ∧ grI r f xs k x n s u = 0) := Lib.hid (by unfold grV grI; rw [if_neg he, if_neg he]; exact ⟨rfl, rfl⟩)
    rw [HV.out.1, HV.out.2]
    unfold LsPost at CR
    obtain ⟨Y, hY⟩ : ∃ y_, rlY r f xs k x n s u = y_ := ⟨_, rfl⟩
    obtain ⟨E, hE⟩ : ∃ y_, rlE r f xs k x n s u = y_ := ⟨_, rfl⟩
    rw [hY, hE] at CR
    rw [hE] at he ⊢
    have hb2 : (E != 0) = true := by simp [he]
    clear hE HV he hY
    go_enter Tryz.func14, Tryz.ntmps14
    go_wp2_with fail
    obtain ⟨W1, hW1⟩ : ∃ W1, ((w.alloc (.cells #[.int .i64 f, .slice a l c, .int .i64 r] 28)).alloc (.cells #[.int .i64 k, .int .i64 x, .int .i64 n, .int .i64 s, .int .i64 u] 30)) = W1 := ⟨_, rfl⟩
    rw [hW1] at HP ⊢
    clear hW1
    with_reducible refine (CR.out _ HP).mono ?_
    rintro e w1 ⟨A, N, M, rfl, ht, hb⟩
    have HP := Lib.hid (HP.out.on hb)
    clear hb ht
    go_wp2_with fail
    go_ret3
    exact ⟨rfl, HP.out.low⟩

set_option maxHeartbeats 4000000 in
theorem sgr_any (r f : Int) (xs : List Int) (a : Option Addr) (l c : Nat) (k x n s u : Int) (w : World) (h : Ints w a l xs) :
    Calls Tryz.prog 15 #[.agg #[.int .i64 f, .slice a l c, .int .i64 r], .agg #[.int .i64 k, .int .i64 x, .int .i64 n, .int .i64 s, .int .i64 u]] w (IIIPost (grV r f xs k x n s u) (grI r f xs k x n s u) (rlE r f xs k x n s u) w) := by
  have H := Lib.hid h
  clear h
  have HP := Lib.hid (BP.new w f (.slice a l c) r k x n s u 28 30)
  unfold IIIPost
  have CR : Hid (∀ W, Hid (BP w f (.slice a l c) r k x n s u W) → Calls Tryz.prog 13 #[.agg #[.int .i64 f, .slice a l c, .int .i64 r], .agg #[.int .i64 k, .int .i64 x, .int .i64 n, .int .i64 s, .int .i64 u]] W (LsPost (rlY r f xs k x n s u) (rlE r f xs k x n s u) W)) := Lib.hid (fun W hW => srl_any r f xs a l c k x n s u W (H.out.on hW.out.low))
  by_cases he : rlE r f xs k x n s u = 0
  · obtain ⟨m, hm, hmd, hm0, hm1, hp, hY, -, hF0, hF1⟩ := rl_ok he
    have HV : Hid (grV r f xs k x n s u = rlF r f xs k x n s (gmI (rlF r f xs k x n s) m) ∧ grI r f xs k x n s u = (gmI (rlF r f xs k x n s) m : Nat)) := Lib.hid (by
      unfold grV grI
      rw [if_pos he, if_pos he, hm]
      exact ⟨rfl, rfl⟩)
    rw [HV.out.1, HV.out.2, he]
    rw [he, hY] at CR
    unfold LsPost at CR
    obtain ⟨F, hF⟩ : ∃ y_, rlF r f xs k x n s = y_ := ⟨_, rfl⟩
    rw [hF] at CR hF0 hF1 ⊢
    have HS := Lib.hid (gmV_step F hF0)
    have HL := Lib.hid (gmI_lt F)
    have HG : Hid (∀ j, j < m → (colL F m).getD j 0 = F j) := Lib.hid (fun j hj => colL_get F m j hj)
    have HC : Hid (∀ j, j < m → 0 ≤ F j ∧ F j ≤ 20000000001) := Lib.hid (fun j hj => ⟨hF0 j, hF1 j hj⟩)
    clear HV hF hF0 hF1 hY hp hm hmd he
    go_enter Tryz.func15, Tryz.ntmps15
    go_wp2_with fail
    obtain ⟨W1, hW1⟩ : ∃ W1, ((w.alloc (.cells #[.int .i64 f, .slice a l c, .int .i64 r] 28)).alloc (.cells #[.int .i64 k, .int .i64 x, .int .i64 n, .int .i64 s, .int .i64 u] 30)) = W1 := ⟨_, rfl⟩
    rw [hW1] at HP ⊢
    clear hW1
    with_reducible refine (CR.out _ HP).mono ?_
    rintro e w1 ⟨A, N, M, rfl, ht, hb⟩
    have HP := Lib.hid (HP.out.on hb)
    have hi := ht.ints
    have hN : N = m := by rw [← hi.len, colL_len]
    subst hN
    obtain ⟨g, off, rfl, hg, hc⟩ := hi.at (by omega)
    have HCL : Hid (∀ W, Below w1.heap.size w1 W → ∀ j, j < N → W.cell? ⟨g, off + j, none⟩ = some (.int .i64 (F j))) := Lib.hid (fun W hW j hj => by rw [← HG.out j hj]; exact keep2 hW (hc j hj))
    clear hb ht hi hc CR HG
    go_wp2_with fail
    go_loopw [9, 10] (fun p i wr => ∃ j : Nat, j ≤ N ∧ i = .int .i64 j ∧ p = .int .i64 (gmI F j : Nat) ∧ Hid (Below w1.heap.size w1 wr)) (fun _ i _ => N - (intOf i).toNat)
    case atStart => exact ⟨0, by omega, rfl, rfl, Lib.hid (Below.refl _ _)⟩
    case round =>
      obtain ⟨j, hj, rfl, rfl, HW⟩ := hrel
      by_cases hlt : j < N
      · have hil : gmI F j < N := by
          by_cases h0 : j = 0
          · subst h0; show 0 < N; omega
          · have := HL.out j (by omega); omega
        have hx := HCL.out _ HW.out j hlt
        have hy := HCL.out _ HW.out _ hil
        have hgs := hg
        have hsz := HW.out.size
        have hst : gmI F (j + 1) = if F (gmI F j) < F j then j else gmI F j := rfl
        obtain ⟨I, hI⟩ : ∃ y_, gmI F j = y_ := ⟨_, rfl⟩
        rw [hI] at hil hy hst ⊢
        obtain ⟨X, hX⟩ : ∃ y_, F j = y_ := ⟨_, rfl⟩
        obtain ⟨Y, hY⟩ : ∃ y_, F I = y_ := ⟨_, rfl⟩
        rw [hX] at hx hst
        rw [hY] at hy hst
        have HST := Lib.hid hst
        clear hst hI hX hY
        have hgw : g < wr.heap.size := by omega
        by_cases hgt : Y < X
        · go_wp2_with fail
          go_region
          go_wp2_with fail
          go_roundw
          case rel => exact ⟨j + 1, by omega, by go_num, by rw [HST.out, if_pos hgt], Lib.hid HW.out.drew⟩
          case measure => simp [intOf]; omega
        · go_wp2_with fail
          go_region
          go_wp2_with fail
          go_roundw
          case rel => exact ⟨j + 1, by omega, by go_num, by rw [HST.out, if_neg (by omega)], Lib.hid HW.out.drew⟩
          case measure => simp [intOf]; omega
      · obtain rfl : j = N := by omega
        have hil : gmI F j < j := HL.out j (by omega)
        have hy := HCL.out _ HW.out _ hil
        obtain ⟨I, hI⟩ : ∃ y_, gmI F j = y_ := ⟨_, rfl⟩
        rw [hI] at hil hy ⊢
        obtain ⟨Y, hY⟩ : ∃ y_, F I = y_ := ⟨_, rfl⟩
        rw [hY] at hy
        have HI := Lib.hid hI
        have HYY := Lib.hid hY
        clear hI hY
        go_wp2_with fail
        go_ret3
        exact ⟨ret_3p (by rw [HI.out, HYY.out]) (by rw [HI.out]) rfl, HP.out.low.trans (HW.out.mono HP.out.low.size)⟩
  · have HV : Hid (grV r f xs k x n s u = 0 ∧ grI r f xs k x n s u = 0) := Lib.hid (by unfold grV grI; rw [if_neg he, if_neg he]; exact ⟨rfl, rfl⟩)
    rw [HV.out.1, HV.out.2]
    unfold LsPost at CR
    obtain ⟨Y, hY⟩ : ∃ y_, rlY r f xs k x n s u = y_ := ⟨_, rfl⟩
    obtain ⟨E, hE⟩ : ∃ y_, rlE r f xs k x n s u = y_ := ⟨_, rfl⟩
    rw [hY, hE] at CR
    rw [hE] at he ⊢
    have hb2 : (E != 0) = true := by simp [he]
    clear hE HV he hY
    go_enter Tryz.func15, Tryz.ntmps15
    go_wp2_with fail
    obtain ⟨W1, hW1⟩ : ∃ W1, ((w.alloc (.cells #[.int .i64 f, .slice a l c, .int .i64 r] 28)).alloc (.cells #[.int .i64 k, .int .i64 x, .int .i64 n, .int .i64 s, .int .i64 u] 30)) = W1 := ⟨_, rfl⟩
    rw [hW1] at HP ⊢
    clear hW1
    with_reducible refine (CR.out _ HP).mono ?_
    rintro e w1 ⟨A, N, M, rfl, ht, hb⟩
    have HP := Lib.hid (HP.out.on hb)
    clear hb ht
    go_wp2_with fail
    go_ret3
    exact ⟨rfl, HP.out.low⟩

end Go.Proofs.YtnclncglmnbelaaGreat
