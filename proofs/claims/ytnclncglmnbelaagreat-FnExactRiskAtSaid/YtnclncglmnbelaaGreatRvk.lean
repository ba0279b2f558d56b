/- Reserves: the greatest one. (Written by wip/gen/rvk.py.) -/
import Derived.Test.YtnclncglmnbelaaGreatRvi
import Derived.Test.YtnclncglmnbelaaGreatRvj
namespace Go.Proofs.YtnclncglmnbelaaGreat
open Go.ChangeShapes Go.WideShapes Go.ChangeAt Go.RowKit
set_option linter.unusedVariables false
set_option maxRecDepth 100000

theorem gmI_lt (F : Nat → Int) (n : Nat) (h : 1 ≤ n) : gmI F n < n := by
  induction n with
  | zero => omega
  | succ n ih =>
    unfold gmI
    by_cases hn : n = 0
    · subst hn
      rw [if_neg (by unfold gmI; omega)]
      unfold gmI
      omega
    · have := ih (by omega)
      split <;> omega

/-- the greatest number so far; nothing is 0 -/
def gmV (F : Nat → Int) (n : Nat) : Int := if n = 0 then 0 else F (gmI F n)

theorem gmV_step (F : Nat → Int) (hF : ∀ j, 0 ≤ F j) (j : Nat) :
    (gmV F j < F j → gmV F (j + 1) = F j ∧ gmI F (j + 1) = j) ∧ (¬ gmV F j < F j → gmV F (j + 1) = gmV F j ∧ gmI F (j + 1) = gmI F j) := by
  have h0 := hF j
  unfold gmV
  rw [if_neg (show ¬ j + 1 = 0 by omega)]
  by_cases hj : j = 0
  · subst hj
    have e : gmI F (0 + 1) = 0 := by
      show (if F (gmI F 0) < F 0 then 0 else gmI F 0) = 0
      split <;> rfl
    have e0 : gmI F 0 = 0 := rfl
    rw [if_pos rfl, e, e0]
    exact ⟨fun _ => ⟨rfl, rfl⟩, fun h => ⟨by omega, rfl⟩⟩
  · rw [if_neg hj]
    constructor
    · intro h
      have e : gmI F (j + 1) = j := by
        show (if F (gmI F j) < F j then j else gmI F j) = j
        rw [if_pos h]
      rw [e]
      exact ⟨rfl, rfl⟩
    · intro h
      have e : gmI F (j + 1) = gmI F j := by
        show (if F (gmI F j) < F j then j else gmI F j) = _
        rw [if_neg h]
      rw [e]
      exact ⟨rfl, rfl⟩

theorem gm_most (F : Nat → Int) (n : Nat) : ∀ j, j < n → F j ≤ F (gmI F n) := by
  induction n with
  | zero => intro j h; omega
  | succ n ih =>
    intro j hj
    show F j ≤ F (if F (gmI F n) < F n then n else gmI F n)
    by_cases hjn : j = n
    · subst hjn
      split <;> omega
    · have := ih j (by omega)
      split <;> omega

/-- what a list of reserves without an error is -/
theorem rl_ok {r f : Int} {xs : List Int} {k x n s u : Int} (h : rlE r f xs k x n s u = 0) :
    ∃ m : Nat, (durN f xs k x n).toNat = m ∧ durN f xs k x n = m ∧ 1 ≤ m ∧ m ≤ 120 ∧ poB r f xs k x n s u = true ∧ rlY r f xs k x n s u = colL (rlF r f xs k x n s) m ∧ (∀ j : Nat, j < m → rvE r f xs k x n s u j = 0) ∧ (∀ j, 0 ≤ rlF r f xs k x n s j) ∧ (∀ j, j < m → rlF r f xs k x n s j ≤ 20000000001) := by
  have hp : poB r f xs k x n s u = true := by
    by_cases hp : poB r f xs k x n s u = true
    · exact hp
    · unfold rlE at h; rw [if_neg hp] at h; omega
  have hd := dur_pos hp
  have hx : f ≤ x := (rv_in (j := 0) hp ⟨by omega, by omega⟩).2.2.2.2.2.1.1
  have hn : npB r xs (x - f).toNat (durN f xs k x n).toNat = true := by
    by_cases hn : npB r xs (x - f).toNat (durN f xs k x n).toNat = true
    · exact hn
    · unfold rlE at h; rw [if_pos hp, if_neg hn] at h; omega
  have hv : ∀ j : Nat, j < (durN f xs k x n).toNat → rvE r f xs k x n s u j = 0 := fun j hj =>
    rvE_iff.2 ⟨hp, ⟨by omega, by omega⟩, by rw [dv_natS r xs hx]; exact npB_iff.1 hn j hj⟩
  refine ⟨(durN f xs k x n).toNat, rfl, by omega, by omega, by omega, hp, by unfold rlY; rw [if_pos h], hv, fun j => by unfold rlF ktN; omega, fun j hj => ?_⟩
  obtain ⟨-, hj2, hd2⟩ := rvE_iff.1 (hv j hj)
  obtain ⟨-, -, -, -, -, -, -, -, -, -, -, k1⟩ := kt_bd hp hj2 hd2
  exact k1

set_option maxHeartbeats 4000000 in
theorem igr_any (r f : Int) (xs : List Int) (a : Option Addr) (l c : Nat) (k x n s u : Int) (w : World) (h : Ints w a l xs) (hlc : l ≤ c) :
    Calls Tryz.prog 14 #[.agg #[.int .i64 f, .slice a l c, .int .i64 r], .agg #[.int .i64 k, .int .i64 x, .int .i64 n, .int .i64 s, .int .i64 u]] w (IIIPost (grV r f xs k x n s u) (grI r f xs k x n s u) (rlE r f xs k x n s u) w) := by
  have H := Lib.hid h
  clear h
  have HP := Lib.hid (BP.new w f (.slice a l c) r k x n s u 28 30)
  unfold IIIPost
  have CR : Hid (∀ W, Hid (BP w f (.slice a l c) r k x n s u W) → Calls Tryz.prog 12 #[.agg #[.int .i64 f, .slice a l c, .int .i64 r], .agg #[.int .i64 k, .int .i64 x, .int .i64 n, .int .i64 s, .int .i64 u]] W (LsPost (rlY r f xs k x n s u) (rlE r f xs k x n s u) W)) := Lib.hid (fun W hW => irl_any r f xs a l c k x n s u W (H.out.on hW.out.low) hlc)
  by_cases he : rlE r f xs k x n s u = 0
  · obtain ⟨m, hm, hmd, hm0, hm1, hp, hY, -, hF0, hF1⟩ := rl_ok he
    have HV : Hid (grV r f xs k x n s u = gmV (rlF r f xs k x n s) m ∧ grI r f xs k x n s u = (gmI (rlF r f xs k x n s) m : Nat)) := Lib.hid (by
      unfold grV grI gmV
      rw [if_pos he, if_pos he, hm, if_neg (by omega)]
      exact ⟨rfl, rfl⟩)
    rw [HV.out.1, HV.out.2, he]
    rw [he, hY] at CR
    unfold LsPost at CR
    obtain ⟨F, hF⟩ : ∃ y_, rlF r f xs k x n s = y_ := ⟨_, rfl⟩
    rw [hF] at CR hF0 hF1 ⊢
    have HS := Lib.hid (gmV_step F hF0)
    have HL := Lib.hid (gmI_lt F)
    have HG : Hid (∀ j, j < m → (colL F m).getD j 0 = F j) := Lib.hid (fun j hj => colL_get F m j hj)
    have HC : Hid (∀ j, j < m → 0 ≤ F j ∧ F j ≤ 20000000001) := Lib.hid (fun j hj => ⟨hF0 j, hF1 j hj⟩)
    clear HV hF hF0 hF1 hY hp hm hmd he
    go_enter Tryz.func14, Tryz.ntmps14
    go_wp2_with fail
    obtain ⟨W1, hW1⟩ : ∃ W1, ((w.alloc (.cells #[.int .i64 f, .slice a l c, .int .i64 r] 28)).alloc (.cells #[.int .i64 k, .int .i64 x, .int .i64 n, .int .i64 s, .int .i64 u] 30)) = W1 := ⟨_, rfl⟩
    rw [hW1] at HP ⊢
    clear hW1
    with_reducible refine (CR.out _ HP).mono ?_
    rintro e w1 ⟨A, N, M, rfl, ht, hb⟩
    have HP := Lib.hid (HP.out.on hb)
    have hi := ht.ints
    have hN : N = m := by rw [← hi.len, colL_len]
    subst hN
    obtain ⟨g, off, rfl, hg, hc⟩ := hi.at (by omega)
    have HCL : Hid (∀ j, j < N → w1.cell? ⟨g, off + j, none⟩ = some (.int .i64 (F j))) := Lib.hid (fun j hj => by rw [← HG.out j hj]; exact hc j hj)
    clear hb ht hi hc CR HG
    go_wp2_with fail
    go_loop [9, 10, 24] (fun p q i => ∃ j : Nat, j ≤ N ∧ i = .int .i64 j ∧ p = .int .i64 (gmV F j) ∧ q = .int .i64 (gmI F j : Nat)) (fun _ _ i => N - (intOf i).toNat)
    case atStart => exact ⟨0, by omega, rfl, rfl, rfl⟩
    case round =>
      obtain ⟨j, hj, rfl, rfl, rfl⟩ := hrel
      by_cases hlt : j < N
      · have hx := HCL.out j hlt
        obtain ⟨s1, s2⟩ := HS.out j
        obtain ⟨X, hX⟩ : ∃ y_, F j = y_ := ⟨_, rfl⟩
        obtain ⟨G, hG⟩ : ∃ y_, gmV F j = y_ := ⟨_, rfl⟩
        obtain ⟨I, hI⟩ : ∃ y_, gmI F j = y_ := ⟨_, rfl⟩
        rw [hX] at hx s1 s2
        rw [hG] at s1 s2 ⊢
        rw [hI] at s2 ⊢
        have S1 := Lib.hid s1
        have S2 := Lib.hid s2
        clear s1 s2 hX hG hI
        by_cases hgt : G < X
        · go_wp2_with fail
          go_round
          case rel => exact ⟨j + 1, by omega, by go_num, by rw [(S1.out hgt).1], by rw [(S1.out hgt).2]⟩
          case measure => simp [intOf]; omega
        · go_wp2_with fail
          go_round
          case rel => exact ⟨j + 1, by omega, by go_num, by rw [(S2.out (by omega)).1], by rw [(S2.out (by omega)).2]⟩
          case measure => simp [intOf]; omega
      · obtain rfl : j = N := by omega
        go_wp2_with fail
        go_ret3
        exact ⟨rfl, HP.out.low⟩
  · have HV : Hid (grV r f xs k x n s u = 0 ∧ grI r f xs k x n s u = 0) := Lib.hid (by unfold grV grI; rw [if_neg he, if_neg he]; exact ⟨rfl, rfl⟩)
    rw [HV.out.1, HV.out.2]
    unfold LsPost at CR
    obtain ⟨Y, hY⟩ : ∃ y_, rlY r f xs k x n s u = y_ := ⟨_, rfl⟩
    obtain ⟨E, hE⟩ : ∃ y_, rlE r f xs k x n s u = y_ := ⟨_, rfl⟩
    rw [hY, hE] at CR
    rw [hE] at he ⊢
    have hb2 : (E != 0) = true := by simp [he]
    clear hE HV he hY
    go_enter Tryz.func14, Tryz.ntmps14
    go_wp2_with fail
    obtain ⟨W1, hW1⟩ : ∃ W1, ((w.alloc (.cells #[.int .i64 f, .slice a l c, .int .i64 r] 28)).alloc (.cells #[.int .i64 k, .int .i64 x, .int .i64 n, .int .i64 s, .int .i64 u] 30)) = W1 := ⟨_, rfl⟩
    rw [hW1] at HP ⊢
    clear hW1
    with_reducible refine (CR.out _ HP).mono ?_
    rintro e w1 ⟨A, N, M, rfl, ht, hb⟩
    have HP := Lib.hid (HP.out.on hb)
    clear hb ht
    go_wp2_with fail
    go_ret3
    exact ⟨rfl, HP.out.low⟩

set_option maxHeartbeats 4000000 in
theorem sgr_any (r f : Int) (xs : List Int) (a : Option Addr) (l c : Nat) (k x n s u : Int) (w : World) (h : Ints w a l xs) :
    Calls Tryz.prog 15 #[.agg #[.int .i64 f, .slice a l c, .int .i64 r], .agg #[.int .i64 k, .int .i64 x, .int .i64 n, .int .i64 s, .int .i64 u]] w (IIIPost (grV r f xs k x n s u) (grI r f xs k x n s u) (rlE r f xs k x n s u) w) := by
  have H := Lib.hid h
  clear h
  have HP := Lib.hid (BP.new w f (.slice a l c) r k x n s u 28 30)
  unfold IIIPost
  have CR : Hid (∀ W, Hid (BP w f (.slice a l c) r k x n s u W) → Calls Tryz.prog 13 #[.agg #[.int .i64 f, .slice a l c, .int .i64 r], .agg #[.int .i64 k, .int .i64 x, .int .i64 n, .int .i64 s, .int .i64 u]] W (LsPost (rlY r f xs k x n s u) (rlE r f xs k x n s u) W)) := Lib.hid (fun W hW => srl_any r f xs a l c k x n s u W (H.out.on hW.out.low))
  by_cases he : rlE r f xs k x n s u = 0
  · obtain ⟨m, hm, hmd, hm0, hm1, hp, hY, -, hF0, hF1⟩ := rl_ok he
    have HV : Hid (grV r f xs k x n s u = rlF r f xs k x n s (gmI (rlF r f xs k x n s) m) ∧ grI r f xs k x n s u = (gmI (rlF r f xs k x n s) m : Nat)) := Lib.hid (by
      unfold grV grI
      rw [if_pos he, if_pos he, hm]
      exact ⟨rfl, rfl⟩)
    rw [HV.out.1, HV.out.2, he]
    rw [he, hY] at CR
    unfold LsPost at CR
    obtain ⟨F, hF⟩ : ∃ y_, rlF r f xs k x n s = y_ := ⟨_, rfl⟩
    rw [hF] at CR hF0 hF1 ⊢
    have HS := Lib.hid (gmV_step F hF0)
    have HL := Lib.hid (gmI_lt F)
    have HG : Hid (∀ j, j < m → (colL F m).getD j 0 = F j) := Lib.hid (fun j hj => colL_get F m j hj)
    have HC : Hid (∀ j, j < m → 0 ≤ F j ∧ F j ≤ 20000000001) := Lib.hid (fun j hj => ⟨hF0 j, hF1 j hj⟩)
    clear HV hF hF0 hF1 hY hp hm hmd he
    go_enter Tryz.func15, Tryz.ntmps15
    go_wp2_with fail
    obtain ⟨W1, hW1⟩ : ∃ W1, ((w.alloc (.cells #[.int .i64 f, .slice a l c, .int .i64 r] 28)).alloc (.cells #[.int .i64 k, .int .i64 x, .int .i64 n, .int .i64 s, .int .i64 u] 30)) = W1 := ⟨_, rfl⟩
    rw [hW1] at HP ⊢
    clear hW1
    with_reducible refine (CR.out _ HP).mono ?_
    rintro e w1 ⟨A, N, M, rfl, ht, hb⟩
    have HP := Lib.hid (HP.out.on hb)
    have hi := ht.ints
    have hN : N = m := by rw [← hi.len, colL_len]
    subst hN
    obtain ⟨g, off, rfl, hg, hc⟩ := hi.at (by omega)
    have HCL : Hid (∀ W, Below w1.heap.size w1 W → ∀ j, j < N → W.cell? ⟨g, off + j, none⟩ = some (.int .i64 (F j))) := Lib.hid (fun W hW j hj => by rw [← HG.out j hj]; exact keep2 hW (hc j hj))
    clear hb ht hi hc CR HG
    go_wp2_with fail
    go_loopw [9, 10] (fun p i wr => ∃ j : Nat, j ≤ N ∧ i = .int .i64 j ∧ p = .int .i64 (gmI F j : Nat) ∧ Hid (Below w1.heap.size w1 wr)) (fun _ i _ => N - (intOf i).toNat)
    case atStart => exact ⟨0, by omega, rfl, rfl, Lib.hid (Below.refl _ _)⟩
    case round =>
      obtain ⟨j, hj, rfl, rfl, HW⟩ := hrel
      by_cases hlt : j < N
      · have hil : gmI F j < N := by
          by_cases h0 : j = 0
          · subst h0; show 0 < N; omega
          · have := HL.out j (by omega); omega
        have hx := HCL.out _ HW.out j hlt
        have hy := HCL.out _ HW.out _ hil
        have hgs := hg
        have hsz := HW.out.size
        have hst : gmI F (j + 1) = if F (gmI F j) < F j then j else gmI F j := rfl
        obtain ⟨I, hI⟩ : ∃ y_, gmI F j = y_ := ⟨_, rfl⟩
        rw [hI] at hil hy hst ⊢
        obtain ⟨X, hX⟩ : ∃ y_, F j = y_ := ⟨_, rfl⟩
        obtain ⟨Y, hY⟩ : ∃ y_, F I = y_ := ⟨_, rfl⟩
        rw [hX] at hx hst
        rw [hY] at hy hst
        have HST := Lib.hid hst
        clear hst hI hX hY
        have hgw : g < wr.heap.size := by omega
        by_cases hgt : Y < X
        · go_wp2_with fail
          go_region
          go_wp2_with fail
          go_roundw
          case rel => exact ⟨j + 1, by omega, by go_num, by rw [HST.out, if_pos hgt], Lib.hid HW.out.drew⟩
          case measure => simp [intOf]; omega
        · go_wp2_with fail
          go_region
          go_wp2_with fail
          go_roundw
          case rel => exact ⟨j + 1, by omega, by go_num, by rw [HST.out, if_neg (by omega)], Lib.hid HW.out.drew⟩
          case measure => simp [intOf]; omega
      · obtain rfl : j = N := by omega
        have hil : gmI F j < j := HL.out j (by omega)
        have hy := HCL.out _ HW.out _ hil
        obtain ⟨I, hI⟩ : ∃ y_, gmI F j = y_ := ⟨_, rfl⟩
        rw [hI] at hil hy ⊢
        obtain ⟨Y, hY⟩ : ∃ y_, F I = y_ := ⟨_, rfl⟩
        rw [hY] at hy
        have HI := Lib.hid hI
        have HYY := Lib.hid hY
        clear hI hY
        go_wp2_with fail
        go_ret3
        exact ⟨ret_3p (by rw [HI.out, HYY.out]) (by rw [HI.out]) rfl, HP.out.low.trans (HW.out.mono HP.out.low.size)⟩
  · have HV : Hid (grV r f xs k x n s u = 0 ∧ grI r f xs k x n s u = 0) := Lib.hid (by unfold grV grI; rw [if_neg he, if_neg he]; exact ⟨rfl, rfl⟩)
    rw [HV.out.1, HV.out.2]
    unfold LsPost at CR
    obtain ⟨Y, hY⟩ : ∃ y_, rlY r f xs k x n s u = y_ := ⟨_, rfl⟩
    obtain ⟨E, hE⟩ : ∃ y_, rlE r f xs k x n s u = y_ := ⟨_, rfl⟩
    rw [hY, hE] at CR
    rw [hE] at he ⊢
    have hb2 : (E != 0) = true := by simp [he]
    clear hE HV he hY
    go_enter Tryz.func15, Tryz.ntmps15
    go_wp2_with fail
    obtain ⟨W1, hW1⟩ : ∃ W1, ((w.alloc (.cells #[.int .i64 f, .slice a l c, .int .i64 r] 28)).alloc (.cells #[.int .i64 k, .int .i64 x, .int .i64 n, .int .i64 s, .int .i64 u] 30)) = W1 := ⟨_, rfl⟩
    rw [hW1] at HP ⊢
    clear hW1
    with_reducible refine (CR.out _ HP).mono ?_
    rintro e w1 ⟨A, N, M, rfl, ht, hb⟩
    have HP := Lib.hid (HP.out.on hb)
    clear hb ht
    go_wp2_with fail
    go_ret3
    exact ⟨rfl, HP.out.low⟩

end Go.Proofs.YtnclncglmnbelaaGreat
