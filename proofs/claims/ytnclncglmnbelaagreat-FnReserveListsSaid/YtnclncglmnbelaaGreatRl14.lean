/- Merged: Rvj. -/
import Derived.Test.YtnclncglmnbelaaGreatRl10
import Derived.Test.YtnclncglmnbelaaGreatRl12
import Derived.Test.YtnclncglmnbelaaGreatRl13

/- Reserves: what a death costs: the model's cases. | Reserves: the model's list of reserves, and risks. (Written by wip/gen/rvj.py.) -/
namespace Go.Proofs.YtnclncglmnbelaaGreat
open Go.ChangeShapes Go.WideShapes Go.ChangeAt Go.RowKit
set_option linter.unusedVariables false
set_option maxRecDepth 100000

theorem rk_lastS {r f : Int} {xs : List Int} {k x n s u : Int} {j : Int} (he : rvE r f xs k x n s u j = 0) (hj : j = durN f xs k x n - 1) : rkE r f xs k x n s u j = 0 ∧ rkV r f xs k x n s u j = (if k = 3 ∨ k = 2 then 0 else s) := by
  have e : rkE r f xs k x n s u j = 0 := by
    unfold rkE
    rw [if_pos he, if_neg (by omega)]
  refine ⟨e, ?_⟩
  unfold rkV rkN
  rw [if_pos e, if_neg (c := j < _) (by omega), Int.sub_zero]
  by_cases h3 : k = 3
  · simp [h3]
  · by_cases h2 : k = 2
    · simp [h2, hj]
    · simp [h2, h3]

theorem rk_moreS {r f : Int} {xs : List Int} {k x n s u : Int} {j : Int} (he : rvE r f xs k x n s u j = 0) (hj : j < durN f xs k x n - 1) :
    (dvN r f xs x (j + 1) = 0 → rkE r f xs k x n s u j = 5 ∧ rkV r f xs k x n s u j = 0) ∧
    (dvN r f xs x (j + 1) ≠ 0 → rkE r f xs k x n s u j = 0 ∧ rkV r f xs k x n s u j = (if k = 3 then 0 else s) - ktN r f xs k x n s (j + 1)) := by
  obtain ⟨hp, hj0, hd⟩ := rvE_iff.1 he
  have hi : inB (j + 1) 0 (durN f xs k x n - 1) = true := (inB_iff _ _ _).2 ⟨by omega, by omega⟩
  constructor
  · intro hz
    have e : rkE r f xs k x n s u j = 5 := by
      unfold rkE
      rw [if_pos he, if_pos hj]
      exact rvE_zero hp hi hz
    exact ⟨e, by unfold rkV; rw [e]; rfl⟩
  · intro hz
    have e : rkE r f xs k x n s u j = 0 := by
      unfold rkE
      rw [if_pos he, if_pos hj]
      exact rvE_iff.2 ⟨hp, (inB_iff _ _ _).1 hi, hz⟩
    refine ⟨e, ?_⟩
    unfold rkV rkN
    rw [if_pos e, if_pos hj]
    by_cases h3 : k = 3
    · simp [h3]
    · rw [if_neg h3, if_neg (c := k = 3 ∨ _) (by omega)]

theorem dv_natS (r : Int) {f : Int} (xs : List Int) {x : Int} (h : f ≤ x) (j : Nat) : dvN r f xs x j = cD r xs ((x - f).toNat + j) := by
  unfold dvN
  rw [show (x + (j : Int) - f).toNat = (x - f).toNat + j by omega]

theorem BP.onB {w : World} {f : Int} {v : Value} {r k x n s u : Int} {W W' : World} {base : Nat} (h : BP w f v r k x n s u W) (hb : Below base W W') (hs : w.heap.size + 2 ≤ base) : BP w f v r k x n s u W' := by
  have e : ∀ (i j : Nat) (y : Value), i < base → W.cell? ⟨i, j, none⟩ = some y → W'.cell? ⟨i, j, none⟩ = some y := fun i j y hi hy => (World.cell?_of_block (w := W) (a := ⟨i, j, none⟩) (hb.block i hi)).trans hy
  exact ⟨e _ _ _ (by omega) h.b0, e _ _ _ (by omega) h.b1, e _ _ _ (by omega) h.b2, e _ _ _ (by omega) h.p0, e _ _ _ (by omega) h.p1, e _ _ _ (by omega) h.p2, e _ _ _ (by omega) h.p3, e _ _ _ (by omega) h.p4, h.low.trans (hb.mono (by omega)), Nat.le_trans h.sz hb.size⟩

set_option maxHeartbeats 8000000 in
theorem srl_any (r f : Int) (xs : List Int) (a : Option Addr) (l c : Nat) (k x n s u : Int) (w : World) (h : Ints w a l xs) :
    Calls Tryz.prog 13 #[.agg #[.int .i64 f, .slice a l c, .int .i64 r], .agg #[.int .i64 k, .int .i64 x, .int .i64 n, .int .i64 s, .int .i64 u]] w (LsPost (rlY r f xs k x n s u) (rlE r f xs k x n s u) w) := by
  have H := Lib.hid h
  clear h
  have HP := Lib.hid (BP.new w f (.slice a l c) r k x n s u 28 30)
  have CP : Hid (∀ W, Hid (BP w f (.slice a l c) r k x n s u W) → Calls Tryz.prog 41 #[.agg #[.int .i64 f, .slice a l c, .int .i64 r], .agg #[.int .i64 k, .int .i64 x, .int .i64 n, .int .i64 s, .int .i64 u]] W fun e w' => e = .returned (.bool (poB r f xs k x n s u)) ∧ Below W.heap.size W w') :=
    Lib.hid (fun W hW => spol_any r f xs a l c k x n s u W (H.out.on hW.out.low))
  by_cases hp : poB r f xs k x n s u = true
  · rw [hp] at CP
    have CL : Hid (∀ W, Hid (BP w f (.slice a l c) r k x n s u W) → Calls Tryz.prog 42 #[.agg #[.int .i64 f, .slice a l c, .int .i64 r], .agg #[.int .i64 k, .int .i64 x, .int .i64 n, .int .i64 s, .int .i64 u]] W fun e w' => e = .returned (.int .i64 (durN f xs k x n)) ∧ Below W.heap.size W w') :=
        Lib.hid (fun W hW => sdur_any r f xs a l c k x n s u W (H.out.on hW.out.low) hp)
    have hdp := dur_pos hp
    have hx : f ≤ x := (rv_in (j := 0) hp ⟨by omega, by omega⟩).2.2.2.2.2.1.1
    have hf0 : 0 ≤ f := (rv_in (j := 0) hp ⟨by omega, by omega⟩).2.2.2.2.2.2.2.1
    have hx1 : x ≤ 150 := (rv_in (j := 0) hp ⟨by omega, by omega⟩).2.2.2.2.2.1.2
    obtain ⟨m, hm⟩ : ∃ m : Nat, durN f xs k x n = m := ⟨(durN f xs k x n).toNat, by omega⟩
    have CD : Hid (∀ (j : Nat) W, j < m → Hid (BP w f (.slice a l c) r k x n s u W) → Calls Tryz.prog 43 #[.agg #[.int .i64 f, .slice a l c], .int .i64 r, .int .i64 (x + j)] W fun e w' => e = .returned (.int .i64 (cD r xs ((x - f).toNat + j))) ∧ Below W.heap.size W w') :=
      Lib.hid (fun j W hj hW => by
        obtain ⟨ht, ⟨r0, r1⟩, -, -, ⟨y0, y1, y2⟩, -, -, -⟩ := rv_in (j := j) hp ⟨by omega, by omega⟩
        rw [show (x - f).toNat + j = (x + (j : Int) - f).toNat by omega]
        exact sD_any r f xs a l c (x + j) W (H.out.on hW.out.low) ht r0 r1 y0 (by omega))
    have CK : Hid (∀ (j : Nat) W, j < m → cD r xs ((x - f).toNat + j) ≠ 0 → Hid (BP w f (.slice a l c) r k x n s u W) → Calls Tryz.prog 44 #[.agg #[.int .i64 f, .slice a l c, .int .i64 r], .agg #[.int .i64 k, .int .i64 x, .int .i64 n, .int .i64 s, .int .i64 u], .int .i64 j] W fun e w' => e = .returned (.int .i64 (rlF r f xs k x n s j)) ∧ Below W.heap.size W w') :=
      Lib.hid (fun j W hj hd hW => rat_any r f xs a l c k x n s u j W (H.out.on hW.out.low) hp ⟨by omega, by omega⟩ (by rw [dv_natS r xs hx]; exact hd))
    have HY : Hid (rlY r f xs k x n s u = if rlE r f xs k x n s u = 0 then colL (rlF r f xs k x n s) m else []) := Lib.hid (by unfold rlY; rw [hm, Int.toNat_natCast])
    have HEE : Hid (rlE r f xs k x n s u = if npB r xs (x - f).toNat m = true then 0 else 5) := Lib.hid (by unfold rlE; rw [if_pos hp, hm, Int.toNat_natCast])
    rw [hm] at CL
    have hm1 : m ≤ 120 := by omega
    obtain ⟨Y, hY⟩ : ∃ y_, rlY r f xs k x n s u = y_ := ⟨_, rfl⟩
    obtain ⟨EE, hEE⟩ : ∃ y_, rlE r f xs k x n s u = y_ := ⟨_, rfl⟩
    obtain ⟨F, hF⟩ : ∃ y_, rlF r f xs k x n s = y_ := ⟨_, rfl⟩
    obtain ⟨K, hK⟩ : ∃ y_, (x - f).toNat = y_ := ⟨_, rfl⟩
    rw [hY, hEE, hF] at HY
    rw [hEE, hK] at HEE
    rw [hK] at CD
    rw [hK, hF] at CK
    rw [hY, hEE]
    clear hY hEE hF hK hm hdp hp
    go_enter Tryz.func13, Tryz.ntmps13
    go_wp2_with fail
    obtain ⟨W1, hW1⟩ : ∃ W1, ((w.alloc (.cells #[.int .i64 f, .slice a l c, .int .i64 r] 28)).alloc (.cells #[.int .i64 k, .int .i64 x, .int .i64 n, .int .i64 s, .int .i64 u] 30)) = W1 := ⟨_, rfl⟩
    rw [hW1] at HP ⊢
    clear hW1
    with_reducible refine (CP.out _ HP).mono ?_
    rintro e w1 ⟨rfl, hb⟩
    have HP := Lib.hid (HP.out.on hb)
    have hown := ownI_new w1
    have HP0 := Lib.hid (HP.out.on (box_b w1 (.cells #[] 2)))
    have hs0 : w1.heap.size ≤ (w1.alloc (.cells #[] 2)).heap.size := by simp
    clear hb CP
    obtain ⟨b0, b1, b2, p0, p1, p2, p3, p4, -⟩ := bpS HP.out
    go_wp2_with fail
    clear b0 b1 b2 p0 p1 p2 p3 p4
    go_loopw [6, 7] (fun v i wr => ∃ j : Nat, j ≤ m ∧ i = .int .i64 j ∧ OwnI w1.heap.size wr v (colL F j) ∧ Hid (BP w f (.slice a l c) r k x n s u wr) ∧ w1.heap.size ≤ wr.heap.size ∧ Hid (∀ k, k < j → cD r xs (K + k) ≠ 0)) (fun _ i _ => m - (intOf i).toNat)
    case atStart => exact ⟨0, by omega, rfl, hown, HP0, hs0, Lib.hid (fun k hk => by omega)⟩
    case round =>
      have HB1 := Lib.hid HP.out.sz
      clear hown HP0 hs0 HP
      obtain ⟨j, hj, rfl, hown, HP, hwr, HZ⟩ := hrel
      obtain ⟨b0, b1, b2, p0, p1, p2, p3, p4, -⟩ := bpS HP.out
      by_cases hlt : (j : Int) < m
      · have HLT : Hid (j < m) := Lib.hid (by omega)
        have q1 : IntKind.i64.wrap (x + (j : Int)) = x + j := IntWalk.i64_in _ (by omega)
        have CC := Lib.hid (CD.out j · HLT.out)
        by_cases hz : cD r xs (K + j) = 0
        · have HE5 : Hid (EE = 5) := Lib.hid (by rw [HEE.out, npB_no HLT.out hz]; simp)
          have HY5 : Hid (Y = []) := Lib.hid (by rw [HY.out, HE5.out]; rfl)
          rw [hz] at CC
          clear hz
          go_wp2_with fail
          with_reducible refine (CL.out _ HP).mono ?_
          rintro e w1 ⟨rfl, hb⟩
          have HP := Lib.hid (HP.out.on hb)
          clear b0 b1 b2 p0 p1 p2 p3 p4 hb
          obtain ⟨b0, b1, b2, p0, p1, p2, p3, p4, -⟩ := bpS HP.out
          go_wp2_with fail
          with_reducible refine (CC.out _ HP).mono ?_
          rintro e w1 ⟨rfl, hb⟩
          have HP := Lib.hid (HP.out.on hb)
          clear b0 b1 b2 p0 p1 p2 p3 p4 hb
          obtain ⟨b0, b1, b2, p0, p1, p2, p3, p4, -⟩ := bpS HP.out
          go_wp2_with fail
          go_ret2
          exact ls_nil HP.out.low HE5.out HY5.out
        · have CT := Lib.hid (CK.out j · HLT.out hz)
          have HZ2 : Hid (∀ k, k < j + 1 → cD r xs (K + k) ≠ 0) := Lib.hid (fun k hk => by
            by_cases e : k = j
            · subst e; exact hz
            · exact HZ.out k (by omega))
          obtain ⟨D, hD⟩ : ∃ y_, cD r xs (K + j) = y_ := ⟨_, rfl⟩
          rw [hD] at CC hz
          have hz2 : (D == 0) = false := by simp [hz]
          obtain ⟨U, hU⟩ : ∃ y_, F j = y_ := ⟨_, rfl⟩
          have HYY : Hid (colL F (j + 1) = colL F j ++ [U]) := Lib.hid (by rw [colL_snoc, hU])
          have HL1 : Hid ((colL F j).length ≤ 4096) := Lib.hid (by rw [colL_len]; omega)
          rw [hU] at CT
          obtain ⟨zs, hzs⟩ : ∃ zs, colL F j = zs := ⟨_, rfl⟩
          rw [hzs] at hown HYY HL1
          clear hzs hU hz hD HZ
          go_wp2_with fail
          with_reducible refine (CL.out _ HP).mono ?_
          rintro e w2 ⟨rfl, hb⟩
          have HP := Lib.hid (HP.out.on hb)
          have hown := hown.on hb
          have hw2 := Nat.le_trans hwr hb.size
          clear b0 b1 b2 p0 p1 p2 p3 p4 hb
          obtain ⟨b0, b1, b2, p0, p1, p2, p3, p4, -⟩ := bpS HP.out
          go_wp2_with fail
          with_reducible refine (CC.out _ HP).mono ?_
          rintro e w3 ⟨rfl, hb⟩
          have HP := Lib.hid (HP.out.on hb)
          have hown := hown.on hb
          have hw3 := Nat.le_trans hw2 hb.size
          clear b0 b1 b2 p0 p1 p2 p3 p4 hb
          obtain ⟨b0, b1, b2, p0, p1, p2, p3, p4, -⟩ := bpS HP.out
          go_wp2_with fail
          with_reducible refine (CT.out _ HP).mono ?_
          rintro e w6 ⟨rfl, hb⟩
          have HP := Lib.hid (HP.out.on hb)
          have hown := hown.on hb
          have hw6 := Nat.le_trans hw3 hb.size
          clear b0 b1 b2 p0 p1 p2 p3 p4 hb hw2 hw3 hwr
          obtain ⟨b0, b1, b2, p0, p1, p2, p3, p4, -⟩ := bpS HP.out
          go_wp2_with (at_builtin; refine wpList_app rfl _ _ rfl w1.heap.size _ zs U rfl (hown.same (fun k hk hl => Below.heap_alloc _ _ _ hl)) ⟨w6.heap.size, 0, none⟩ rfl (one_newC w6 U) HL1.out (by simp; omega) ?_)
          intro v' w8 hown' hgrow hw
          have hb := app_below hown hw6 hgrow
          have HP := Lib.hid (HP.out.onB hb HB1.out)
          have hw8 := Nat.le_trans hw6 hb.size
          rw [← HYY.out] at hown'
          clear hgrow hown hw hb
          go_wp2_with fail
          go_roundw
          case rel => exact ⟨j + 1, by omega, by go_num, hown', HP, hw8, HZ2⟩
          case measure => simp [intOf]; omega
      · go_wp2_with fail
        with_reducible refine (CL.out _ HP).mono ?_
        rintro e w2 ⟨rfl, hb⟩
        have HP := Lib.hid (HP.out.on hb)
        have hown := hown.on hb
        clear b0 b1 b2 p0 p1 p2 p3 p4 hb
        go_wp2_with fail
        go_ret2
        have ej : j = m := by omega
        have HE0 : EE = 0 := by rw [HEE.out, npB_yes (by rw [← ej]; exact HZ.out)]; simp
        exact ls_cond hown (by rw [colL_len]; omega) HP.out.low (by have := HB1.out; omega) HE0 (by rw [HY.out, HE0, ej]; rfl)
  · have hp : poB r f xs k x n s u = false := by simpa using hp
    have HE : Hid (rlE r f xs k x n s u = 1) := Lib.hid (by unfold rlE; simp [hp])
    have HY : Hid (rlY r f xs k x n s u = []) := Lib.hid (by unfold rlY; rw [HE.out]; rfl)
    rw [hp] at CP
    clear hp
    go_enter Tryz.func13, Tryz.ntmps13
    go_wp2_with fail
    obtain ⟨W1, hW1⟩ : ∃ W1, ((w.alloc (.cells #[.int .i64 f, .slice a l c, .int .i64 r] 28)).alloc (.cells #[.int .i64 k, .int .i64 x, .int .i64 n, .int .i64 s, .int .i64 u] 30)) = W1 := ⟨_, rfl⟩
    rw [hW1] at HP ⊢
    clear hW1
    with_reducible refine (CP.out _ HP).mono ?_
    rintro e w1 ⟨rfl, hb⟩
    have HP := Lib.hid (HP.out.on hb)
    clear hb
    obtain ⟨b0, b1, b2, p0, p1, p2, p3, p4, -⟩ := bpS HP.out
    go_wp2_with fail
    go_ret2
    exact ls_nil HP.out.low HE.out HY.out

theorem send_some (f : Int) (a : Option Addr) (l c : Nat) (w : World) (hl : l ≤ 9223372036854775807) :
    Calls Tryz.prog 66 #[.agg #[.int .i64 f, .slice a l c]] w fun e w' => (∃ Z : Int, e = .returned (.int .i64 Z)) ∧ Below w.heap.size w w' := by
  have q1 : IntKind.i64.wrap (l : Int) = l := IntWalk.i64_in _ (by omega)
  go_enter Tryz.func66, Tryz.ntmps66
  go_wp2_with fail
  go_ret
  exact ⟨⟨_, rfl⟩, box_b _ _⟩

set_option maxHeartbeats 1000000 in
theorem sdur_some (r f : Int) (xs : List Int) (a : Option Addr) (l c : Nat) (k x n s u : Int) (w : World) (h : Ints w a l xs) :
    Calls Tryz.prog 42 #[.agg #[.int .i64 f, .slice a l c, .int .i64 r], .agg #[.int .i64 k, .int .i64 x, .int .i64 n, .int .i64 s, .int .i64 u]] w fun e w' => (∃ Z : Int, e = .returned (.int .i64 Z)) ∧ Below w.heap.size w w' := by
  have hl : l ≤ 9223372036854775807 := by have := h.max; omega
  have HP := Lib.hid (BP.new w f (.slice a l c) r k x n s u 28 30)
  have CE := Lib.hid (fun W => send_some f a l c W hl)
  clear h hl
  by_cases hk : k = 0
  · subst hk
    go_enter Tryz.func42, Tryz.ntmps42
    go_wp2_with fail
    obtain ⟨W1, hW1⟩ : ∃ W1, ((w.alloc (.cells #[.int .i64 f, .slice a l c, .int .i64 r] 28)).alloc (.cells #[.int .i64 0, .int .i64 x, .int .i64 n, .int .i64 s, .int .i64 u] 30)) = W1 := ⟨_, rfl⟩
    rw [hW1] at HP ⊢
    clear hW1
    obtain ⟨b0, b1, b2, p0, p1, p2, p3, p4, -⟩ := bpS HP.out
    go_wp2_with fail
    go_region_held3 (fun W9 => W9.cell? ⟨w.heap.size, 0, none⟩ = some (.int .i64 f) ∧ W9.cell? ⟨w.heap.size, 1, none⟩ = some (.slice a l c) ∧ W9.cell? ⟨w.heap.size, 2, none⟩ = some (.int .i64 r) ∧ W9.cell? ⟨w.heap.size + 1, 0, none⟩ = some (.int .i64 0) ∧ W9.cell? ⟨w.heap.size + 1, 1, none⟩ = some (.int .i64 x) ∧ W9.cell? ⟨w.heap.size + 1, 2, none⟩ = some (.int .i64 n) ∧ W9.cell? ⟨w.heap.size + 1, 3, none⟩ = some (.int .i64 s) ∧ W9.cell? ⟨w.heap.size + 1, 4, none⟩ = some (.int .i64 u) ∧ Hid (BP w f (.slice a l c) r 0 x n s u W9))
    (first
      | (go_split_ands; exact ⟨by with_reducible assumption, by with_reducible assumption, by with_reducible assumption, by with_reducible assumption, by with_reducible assumption, by with_reducible assumption, by with_reducible assumption, by with_reducible assumption, by with_reducible assumption⟩)
      | (go_split_ands; with_reducible exact bpS HP.out)
      | (go_split_ands; with_reducible exact bpS (BP.drew HP.out))
      | (go_split_ands; with_reducible exact bpS (BP.on (Hid.out (by with_reducible assumption)) hb))
      | fail)
        (first
          | (go_split_ands; go_at_call 66; ((with_reducible refine (CE.out _).mono ?_); rintro e w' ⟨⟨Z, rfl⟩, hb⟩))
          | fail)
    all_goals
      go_split_ands
      go_wp2_with fail
      go_ret
      exact ⟨⟨_, rfl⟩, bpLow f (.slice a l c) r 0 x n s u (by with_reducible assumption)⟩
  · have hk2 : (k == 0) = false := by simp [hk]
    clear hk
    go_enter Tryz.func42, Tryz.ntmps42
    go_wp2_with fail
    go_ret
    exact ⟨⟨_, rfl⟩, HP.out.low⟩

set_option maxHeartbeats 4000000 in
theorem sri_any (r f : Int) (xs : List Int) (a : Option Addr) (l c : Nat) (k x n s u j : Int) (w : World) (h : Ints w a l xs) :
    Calls Tryz.prog 18 #[.agg #[.int .i64 f, .slice a l c, .int .i64 r], .agg #[.int .i64 k, .int .i64 x, .int .i64 n, .int .i64 s, .int .i64 u], .int .i64 j] w (IIPost (rkV r f xs k x n s u j) (rkE r f xs k x n s u j) w) := by
  have H := Lib.hid h
  clear h
  have HP := Lib.hid (BP.new w f (.slice a l c) r k x n s u 28 30)
  unfold IIPost
  have CE : Hid (∀ W, Hid (BP w f (.slice a l c) r k x n s u W) → Calls Tryz.prog 48 #[.agg #[.int .i64 f, .slice a l c, .int .i64 r], .agg #[.int .i64 k, .int .i64 x, .int .i64 n, .int .i64 s, .int .i64 u], .int .i64 j] W fun e w' => e = .returned (.int .i64 (rvE r f xs k x n s u j)) ∧ Below W.heap.size W w') :=
    Lib.hid (fun W hW => rcode_any r f xs a l c k x n s u j W (H.out.on hW.out.low))
  by_cases he : rvE r f xs k x n s u j = 0
  · obtain ⟨hp, hj, hd⟩ := rvE_iff.1 he
    have CL : Hid (∀ W, Hid (BP w f (.slice a l c) r k x n s u W) → Calls Tryz.prog 42 #[.agg #[.int .i64 f, .slice a l c, .int .i64 r], .agg #[.int .i64 k, .int .i64 x, .int .i64 n, .int .i64 s, .int .i64 u]] W fun e w' => e = .returned (.int .i64 (durN f xs k x n)) ∧ Below W.heap.size W w') :=
        Lib.hid (fun W hW => sdur_any r f xs a l c k x n s u W (H.out.on hW.out.low) hp)
    have hdp := dur_pos hp
    have q1 : IntKind.i64.wrap (durN f xs k x n - 1) = durN f xs k x n - 1 := IntWalk.i64_in _ (by omega)
    have q2 : IntKind.i64.wrap (j + 1) = j + 1 := IntWalk.i64_in _ (by omega)
    have q6 : IntKind.i64.wrap s = s := IntWalk.i64_in _ (by
      obtain ⟨-, -, -, -, -, -, -, -, -, -, -, -, -, -, -, -, -, -, -, -, s0, s1⟩ := rv_nums hp hj hd
      omega)
    rw [he] at CE
    by_cases hl : j = durN f xs k x n - 1
    · obtain ⟨e1, e2⟩ := rk_lastS he hl
      rw [e1, e2]
      obtain ⟨E, hE⟩ : ∃ y_, durN f xs k x n = y_ := ⟨_, rfl⟩
      rw [hE] at q1 hl CL
      subst hl
      clear hE e1 e2 he hp hj hd hdp q2
      by_cases h3 : k = 3
      · subst h3
        go_enter Tryz.func18, Tryz.ntmps18
        go_wp2_with fail
        obtain ⟨W1, hW1⟩ : ∃ W1, ((w.alloc (.cells #[.int .i64 f, .slice a l c, .int .i64 r] 28)).alloc (.cells #[.int .i64 3, .int .i64 x, .int .i64 n, .int .i64 s, .int .i64 u] 30)) = W1 := ⟨_, rfl⟩
        rw [hW1] at HP ⊢
        clear hW1
        with_reducible refine (CE.out _ HP).mono ?_
        rintro e w1 ⟨rfl, hb⟩
        have HP := Lib.hid (HP.out.on hb)
        clear hb
        obtain ⟨b0, b1, b2, p0, p1, p2, p3, p4, -⟩ := bpS HP.out
        go_wp2_with fail
        with_reducible refine (CL.out _ HP).mono ?_
        rintro e w1 ⟨rfl, hb⟩
        have HP := Lib.hid (HP.out.on hb)
        clear b0 b1 b2 p0 p1 p2 p3 p4 hb
        obtain ⟨b0, b1, b2, p0, p1, p2, p3, p4, -⟩ := bpS HP.out
        go_wp2_with fail
        go_ret2
        exact ⟨rfl, HP.out.low⟩
      · have hk3 : (k == 3) = false := by simp [h3]
        by_cases h2 : k = 2
        · subst h2
          clear hk3
          go_enter Tryz.func18, Tryz.ntmps18
          go_wp2_with fail
          obtain ⟨W1, hW1⟩ : ∃ W1, ((w.alloc (.cells #[.int .i64 f, .slice a l c, .int .i64 r] 28)).alloc (.cells #[.int .i64 2, .int .i64 x, .int .i64 n, .int .i64 s, .int .i64 u] 30)) = W1 := ⟨_, rfl⟩
          rw [hW1] at HP ⊢
          clear hW1
          with_reducible refine (CE.out _ HP).mono ?_
          rintro e w1 ⟨rfl, hb⟩
          have HP := Lib.hid (HP.out.on hb)
          clear hb
          obtain ⟨b0, b1, b2, p0, p1, p2, p3, p4, -⟩ := bpS HP.out
          go_wp2_with fail
          with_reducible refine (CL.out _ HP).mono ?_
          rintro e w1 ⟨rfl, hb⟩
          have HP := Lib.hid (HP.out.on hb)
          clear b0 b1 b2 p0 p1 p2 p3 p4 hb
          obtain ⟨b0, b1, b2, p0, p1, p2, p3, p4, -⟩ := bpS HP.out
          go_wp2_with fail
          go_ret2
          exact ⟨rfl, HP.out.low⟩
        · have hk2 : (k == 2) = false := by simp [h2]
          rw [if_neg (show ¬ (k = 3 ∨ k = 2) by omega)]
          clear h2 h3
          go_enter Tryz.func18, Tryz.ntmps18
          go_wp2_with fail
          obtain ⟨W1, hW1⟩ : ∃ W1, ((w.alloc (.cells #[.int .i64 f, .slice a l c, .int .i64 r] 28)).alloc (.cells #[.int .i64 k, .int .i64 x, .int .i64 n, .int .i64 s, .int .i64 u] 30)) = W1 := ⟨_, rfl⟩
          rw [hW1] at HP ⊢
          clear hW1
          with_reducible refine (CE.out _ HP).mono ?_
          rintro e w1 ⟨rfl, hb⟩
          have HP := Lib.hid (HP.out.on hb)
          clear hb
          obtain ⟨b0, b1, b2, p0, p1, p2, p3, p4, -⟩ := bpS HP.out
          go_wp2_with fail
          with_reducible refine (CL.out _ HP).mono ?_
          rintro e w1 ⟨rfl, hb⟩
          have HP := Lib.hid (HP.out.on hb)
          clear b0 b1 b2 p0 p1 p2 p3 p4 hb
          obtain ⟨b0, b1, b2, p0, p1, p2, p3, p4, -⟩ := bpS HP.out
          go_wp2_with fail
          go_ret2
          exact ⟨rfl, HP.out.low⟩
    · have hlt : j < durN f xs k x n - 1 := by omega
      obtain ⟨m1, m2⟩ := rk_moreS he hlt
      have CE2 : Hid (∀ W, Hid (BP w f (.slice a l c) r k x n s u W) → Calls Tryz.prog 48 #[.agg #[.int .i64 f, .slice a l c, .int .i64 r], .agg #[.int .i64 k, .int .i64 x, .int .i64 n, .int .i64 s, .int .i64 u], .int .i64 (j + 1)] W fun e w' => e = .returned (.int .i64 (rvE r f xs k x n s u (j + 1))) ∧ Below W.heap.size W w') :=
          Lib.hid (fun W hW => rcode_any r f xs a l c k x n s u (j + 1) W (H.out.on hW.out.low))
      by_cases hz : dvN r f xs x (j + 1) = 0
      · obtain ⟨e1, e2⟩ := m1 hz
        have h5 := rvE_zero hp ((inB_iff (j + 1) 0 (durN f xs k x n - 1)).2 ⟨by omega, by omega⟩) hz
        rw [e1, e2]
        rw [h5] at CE2
        obtain ⟨E, hE⟩ : ∃ y_, durN f xs k x n = y_ := ⟨_, rfl⟩
        rw [hE] at q1 hlt CL
        clear hE e1 e2 m1 m2 he hp hj hd hdp hl hz h5
        go_enter Tryz.func18, Tryz.ntmps18
        go_wp2_with fail
        obtain ⟨W1, hW1⟩ : ∃ W1, ((w.alloc (.cells #[.int .i64 f, .slice a l c, .int .i64 r] 28)).alloc (.cells #[.int .i64 k, .int .i64 x, .int .i64 n, .int .i64 s, .int .i64 u] 30)) = W1 := ⟨_, rfl⟩
        rw [hW1] at HP ⊢
        clear hW1
        with_reducible refine (CE.out _ HP).mono ?_
        rintro e w1 ⟨rfl, hb⟩
        have HP := Lib.hid (HP.out.on hb)
        clear hb
        obtain ⟨b0, b1, b2, p0, p1, p2, p3, p4, -⟩ := bpS HP.out
        go_wp2_with fail
        with_reducible refine (CL.out _ HP).mono ?_
        rintro e w1 ⟨rfl, hb⟩
        have HP := Lib.hid (HP.out.on hb)
        clear b0 b1 b2 p0 p1 p2 p3 p4 hb
        obtain ⟨b0, b1, b2, p0, p1, p2, p3, p4, -⟩ := bpS HP.out
        go_wp2_with fail
        with_reducible refine (CE2.out _ HP).mono ?_
        rintro e w1 ⟨rfl, hb⟩
        have HP := Lib.hid (HP.out.on hb)
        clear b0 b1 b2 p0 p1 p2 p3 p4 hb
        obtain ⟨b0, b1, b2, p0, p1, p2, p3, p4, -⟩ := bpS HP.out
        go_wp2_with fail
        go_ret2
        exact ⟨rfl, HP.out.low⟩
      · obtain ⟨e1, e2⟩ := m2 hz
        have h5 : rvE r f xs k x n s u (j + 1) = 0 := rvE_iff.2 ⟨hp, ⟨by omega, by omega⟩, hz⟩
        rw [e1, e2]
        rw [h5] at CE2
        have CK : Hid (∀ W, Hid (BP w f (.slice a l c) r k x n s u W) → Calls Tryz.prog 44 #[.agg #[.int .i64 f, .slice a l c, .int .i64 r], .agg #[.int .i64 k, .int .i64 x, .int .i64 n, .int .i64 s, .int .i64 u], .int .i64 (j + 1)] W fun e w' => e = .returned (.int .i64 (ktN r f xs k x n s (j + 1))) ∧ Below W.heap.size W w') :=
            Lib.hid (fun W hW => rat_any r f xs a l c k x n s u (j + 1) W (H.out.on hW.out.low) hp ⟨by omega, by omega⟩ hz)
        obtain ⟨-, -, -, -, -, -, -, -, -, -, k0, k1⟩ := kt_bd hp ⟨by omega, by omega⟩ hz
        obtain ⟨-, -, -, -, -, -, -, -, -, -, -, -, -, -, -, -, -, -, -, -, s0, s1⟩ := rv_nums hp hj hd
        obtain ⟨T, hT⟩ : ∃ y_, ktN r f xs k x n s (j + 1) = y_ := ⟨_, rfl⟩
        rw [hT] at CK k0 k1 ⊢
        have q3 : IntKind.i64.wrap (s - T) = s - T := IntWalk.i64_in _ (by omega)
        have q4 : IntKind.i64.wrap (-T) = -T := IntWalk.i64_in _ (by omega)
        have hne : (j == durN f xs k x n - 1) = false := by simp [hl]
        obtain ⟨E, hE⟩ : ∃ y_, durN f xs k x n = y_ := ⟨_, rfl⟩
        rw [hE] at q1 hlt CL hne
        clear hE hT e1 e2 m1 m2 he hp hj hd hdp hl hz h5
        by_cases h3 : k = 3
        · subst h3
          rw [if_pos rfl, Int.zero_sub]
          go_enter Tryz.func18, Tryz.ntmps18
          go_wp2_with fail
          obtain ⟨W1, hW1⟩ : ∃ W1, ((w.alloc (.cells #[.int .i64 f, .slice a l c, .int .i64 r] 28)).alloc (.cells #[.int .i64 3, .int .i64 x, .int .i64 n, .int .i64 s, .int .i64 u] 30)) = W1 := ⟨_, rfl⟩
          rw [hW1] at HP ⊢
          clear hW1
          with_reducible refine (CE.out _ HP).mono ?_
          rintro e w1 ⟨rfl, hb⟩
          have HP := Lib.hid (HP.out.on hb)
          clear hb
          obtain ⟨b0, b1, b2, p0, p1, p2, p3, p4, -⟩ := bpS HP.out
          go_wp2_with fail
          with_reducible refine (CL.out _ HP).mono ?_
          rintro e w1 ⟨rfl, hb⟩
          have HP := Lib.hid (HP.out.on hb)
          clear b0 b1 b2 p0 p1 p2 p3 p4 hb
          obtain ⟨b0, b1, b2, p0, p1, p2, p3, p4, -⟩ := bpS HP.out
          go_wp2_with fail
          with_reducible refine (CE2.out _ HP).mono ?_
          rintro e w1 ⟨rfl, hb⟩
          have HP := Lib.hid (HP.out.on hb)
          clear b0 b1 b2 p0 p1 p2 p3 p4 hb
          obtain ⟨b0, b1, b2, p0, p1, p2, p3, p4, -⟩ := bpS HP.out
          go_wp2_with fail
          with_reducible refine (CK.out _ HP).mono ?_
          rintro e w1 ⟨rfl, hb⟩
          have HP := Lib.hid (HP.out.on hb)
          clear b0 b1 b2 p0 p1 p2 p3 p4 hb
          obtain ⟨b0, b1, b2, p0, p1, p2, p3, p4, -⟩ := bpS HP.out
          go_wp2_with fail
          go_ret2
          exact ⟨rfl, HP.out.low⟩
        · have hk3 : (k == 3) = false := by simp [h3]
          rw [if_neg h3]
          by_cases h2 : k = 2
          · subst h2
            clear hk3
            go_enter Tryz.func18, Tryz.ntmps18
            go_wp2_with fail
            obtain ⟨W1, hW1⟩ : ∃ W1, ((w.alloc (.cells #[.int .i64 f, .slice a l c, .int .i64 r] 28)).alloc (.cells #[.int .i64 2, .int .i64 x, .int .i64 n, .int .i64 s, .int .i64 u] 30)) = W1 := ⟨_, rfl⟩
            rw [hW1] at HP ⊢
            clear hW1
            with_reducible refine (CE.out _ HP).mono ?_
            rintro e w1 ⟨rfl, hb⟩
            have HP := Lib.hid (HP.out.on hb)
            clear hb
            obtain ⟨b0, b1, b2, p0, p1, p2, p3, p4, -⟩ := bpS HP.out
            go_wp2_with fail
            with_reducible refine (CL.out _ HP).mono ?_
            rintro e w1 ⟨rfl, hb⟩
            have HP := Lib.hid (HP.out.on hb)
            clear b0 b1 b2 p0 p1 p2 p3 p4 hb
            obtain ⟨b0, b1, b2, p0, p1, p2, p3, p4, -⟩ := bpS HP.out
            go_wp2_with fail
            with_reducible refine (CE2.out _ HP).mono ?_
            rintro e w1 ⟨rfl, hb⟩
            have HP := Lib.hid (HP.out.on hb)
            clear b0 b1 b2 p0 p1 p2 p3 p4 hb
            obtain ⟨b0, b1, b2, p0, p1, p2, p3, p4, -⟩ := bpS HP.out
            go_wp2_with fail
            with_reducible refine (CK.out _ HP).mono ?_
            rintro e w1 ⟨rfl, hb⟩
            have HP := Lib.hid (HP.out.on hb)
            clear b0 b1 b2 p0 p1 p2 p3 p4 hb
            obtain ⟨b0, b1, b2, p0, p1, p2, p3, p4, -⟩ := bpS HP.out
            go_wp2_with fail
            go_ret2
            exact ⟨rfl, HP.out.low⟩
          · have hk2 : (k == 2) = false := by simp [h2]
            clear h2 h3
            go_enter Tryz.func18, Tryz.ntmps18
            go_wp2_with fail
            obtain ⟨W1, hW1⟩ : ∃ W1, ((w.alloc (.cells #[.int .i64 f, .slice a l c, .int .i64 r] 28)).alloc (.cells #[.int .i64 k, .int .i64 x, .int .i64 n, .int .i64 s, .int .i64 u] 30)) = W1 := ⟨_, rfl⟩
            rw [hW1] at HP ⊢
            clear hW1
            with_reducible refine (CE.out _ HP).mono ?_
            rintro e w1 ⟨rfl, hb⟩
            have HP := Lib.hid (HP.out.on hb)
            clear hb
            obtain ⟨b0, b1, b2, p0, p1, p2, p3, p4, -⟩ := bpS HP.out
            go_wp2_with fail
            with_reducible refine (CL.out _ HP).mono ?_
            rintro e w1 ⟨rfl, hb⟩
            have HP := Lib.hid (HP.out.on hb)
            clear b0 b1 b2 p0 p1 p2 p3 p4 hb
            obtain ⟨b0, b1, b2, p0, p1, p2, p3, p4, -⟩ := bpS HP.out
            go_wp2_with fail
            with_reducible refine (CE2.out _ HP).mono ?_
            rintro e w1 ⟨rfl, hb⟩
            have HP := Lib.hid (HP.out.on hb)
            clear b0 b1 b2 p0 p1 p2 p3 p4 hb
            obtain ⟨b0, b1, b2, p0, p1, p2, p3, p4, -⟩ := bpS HP.out
            go_wp2_with fail
            with_reducible refine (CK.out _ HP).mono ?_
            rintro e w1 ⟨rfl, hb⟩
            have HP := Lib.hid (HP.out.on hb)
            clear b0 b1 b2 p0 p1 p2 p3 p4 hb
            obtain ⟨b0, b1, b2, p0, p1, p2, p3, p4, -⟩ := bpS HP.out
            go_wp2_with fail
            go_ret2
            exact ⟨rfl, HP.out.low⟩
  · have HV : Hid (rkV r f xs k x n s u j = 0 ∧ rkE r f xs k x n s u j = rvE r f xs k x n s u j) := Lib.hid (by
      have e : rkE r f xs k x n s u j = rvE r f xs k x n s u j := by unfold rkE; rw [if_neg he]
      exact ⟨by unfold rkV; rw [e, if_neg he], e⟩)
    rw [HV.out.1, HV.out.2]
    have CL : Hid (∀ W, Hid (BP w f (.slice a l c) r k x n s u W) → Calls Tryz.prog 42 #[.agg #[.int .i64 f, .slice a l c, .int .i64 r], .agg #[.int .i64 k, .int .i64 x, .int .i64 n, .int .i64 s, .int .i64 u]] W fun e w' => (∃ Z : Int, e = .returned (.int .i64 Z)) ∧ Below W.heap.size W w') := Lib.hid (fun W hW => sdur_some r f xs a l c k x n s u W (H.out.on hW.out.low))
    obtain ⟨E, hE⟩ : ∃ y_, rvE r f xs k x n s u j = y_ := ⟨_, rfl⟩
    rw [hE] at CE he ⊢
    have hb1 : (E == 0) = false := by simp [he]
    have hb2 : (E != 0) = true := by simp [he]
    clear hE HV he
    go_enter Tryz.func18, Tryz.ntmps18
    go_wp2_with fail
    obtain ⟨W1, hW1⟩ : ∃ W1, ((w.alloc (.cells #[.int .i64 f, .slice a l c, .int .i64 r] 28)).alloc (.cells #[.int .i64 k, .int .i64 x, .int .i64 n, .int .i64 s, .int .i64 u] 30)) = W1 := ⟨_, rfl⟩
    rw [hW1] at HP ⊢
    clear hW1
    with_reducible refine (CE.out _ HP).mono ?_
    rintro e w1 ⟨rfl, hb⟩
    have HP := Lib.hid (HP.out.on hb)
    clear hb
    obtain ⟨b0, b1, b2, p0, p1, p2, p3, p4, -⟩ := bpS HP.out
    go_wp2_with fail
    with_reducible refine (CL.out _ HP).mono ?_
    rintro e w2 ⟨⟨Z, rfl⟩, hb⟩
    have HP := Lib.hid (HP.out.on hb)
    clear b0 b1 b2 p0 p1 p2 p3 p4 hb
    go_wp2_with fail
    go_ret2
    exact ⟨rfl, HP.out.low⟩

end Go.Proofs.YtnclncglmnbelaaGreat
