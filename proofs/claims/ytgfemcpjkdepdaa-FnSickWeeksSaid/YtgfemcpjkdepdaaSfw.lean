/- The law on the weeks of members and the worst age. -/
import Derived.Test.YtgfemcpjkdepdaaSicQ
import Derived.Test.YtgfemcpjkdepdaaDkE
import Derived.Test.YtgfemcpjkdepdaaTb1
import Derived.Deep.RegionHeld3
namespace Go.Proofs.Ytgfemcpjkdepdaa
open Go.ChangeShapes Go.WideShapes Go.ChangeAt Go.RowKit
set_option linter.unusedVariables false
set_option linter.unusedSimpArgs false
set_option maxRecDepth 100000

theorem wk_best {G : Int} {ys : List Int} (hs : STab G ys) (y : Int) : wk G ys (G + bestN ys ys.length) = ys.getD (bestN ys ys.length) 0 ∧ wk G ys y ≤ ys.getD (bestN ys ys.length) 0 := by
  have hl := hs.2.1.1
  have hb := bestN_lt ys ys.length (by omega)
  refine ⟨?_, ?_⟩
  · unfold wk
    rw [if_pos ((inB_iff _ _ _).2 (by omega))]
    congr 1; omega
  · unfold wk
    split
    · next h =>
      have := (inB_iff _ _ _).1 h
      exact bestN_ge ys ys.length _ (by omega)
    · exact (hs.get _).1

theorem sick_best {G : Int} {ys : List Int} {y : Int} (h : weE G ys y = 0) (hl : ys.length ≤ 30) : weE G ys (woV G ys) = 0 ∧ weV G ys y ≤ weV G ys (woV G ys) := by
  obtain ⟨hs, y0, y1⟩ := weE_iff.1 h
  have he : siE G ys = 0 := siE_iff.2 hs
  have hx : woV G ys = G + bestN ys ys.length := by unfold woV; rw [if_pos he]
  have hb := bestN_lt ys ys.length (by have := hs.2.1.1; omega)
  have hg := hs.1
  have h2 : weE G ys (woV G ys) = 0 := weE_iff.2 ⟨hs, by omega, by omega⟩
  obtain ⟨h3, h4⟩ := wk_best hs y
  refine ⟨h2, ?_⟩
  unfold weV
  rw [if_pos h, if_pos h2, hx, h3]
  exact h4

theorem sick_sum {F : Int} {xs zs : List Int} (h : swE F xs zs = 0) : (∀ k, k < zs.length → weE F xs (zs.getD k 0) = 0 ∧ weV F xs (zs.getD k 0) = wk F xs (zs.getD k 0)) ∧ zs.length ≤ 130 ∧ STab F xs ∧ 0 ≤ swS F xs zs ∧ swS F xs zs ≤ 1000 * swV F xs zs ∧ 1000 * (swV F xs zs - 1) < swS F xs zs ∧ 0 ≤ swV F xs zs ∧ swV F xs zs ≤ 1000000 := by
  obtain ⟨hs, hl, hz⟩ := swE_iff.1 h
  refine ⟨fun k hk => ?_, hl, hs, ?_⟩
  · have := hz (zs.getD k 0) (by rw [List.getD_eq_getElem?_getD, List.getElem?_eq_getElem hk]; exact List.getElem_mem hk)
    have he : weE F xs (zs.getD k 0) = 0 := weE_iff.2 ⟨hs, this⟩
    exact ⟨he, by unfold weV; rw [if_pos he]⟩
  · have hb := hs.sw_bd zs
    unfold swV
    rw [if_pos h]
    omega

set_option maxHeartbeats 8000000 in
theorem fnSickWeeks_walk (a0 : Option Addr) (len0 cap0 : Nat) (z0 : List Int) (w : World) (w0 : IsRow .u8 w a0 len0 cap0 z0) :
    Calls Try.prog 3 #[.slice a0 len0 cap0] w fun e w' => e = .returned (.bool true) ∧ Below w.heap.size w w' := by
  by_cases hbig : (4096 : Int) < len0
  · go_enter Try.func3, Try.ntmps3
    go_wp2_with (go_at_call 10; refine (bigT_any _ _ _ _).mono ?_; rintro e w' ⟨rfl, rfl⟩)
    go_ret
    exact ⟨rfl, Below.refl _ _⟩
  have HR := Lib.hid w0
  clear w0
  go_enter Try.func3, Try.ntmps3
  go_wp2_with (go_at_call 10; refine (bigT_any _ _ _ _).mono ?_; rintro e w' ⟨rfl, rfl⟩)
  refine (drawSW _ _ _ _ _ HR.out).mono ?_
  rintro e w1 ⟨F, ta, tn, tc, xs, za, zn, zc, zs, rfl, hI, htc, hZ, hzc, hzn, hb⟩
  have H1 : Hid (T1 w1.heap.size F ta tn tc xs w (w1.alloc (.cells #[.int .i64 F, .slice ta tn tc] 26))) := Lib.hid (T1.new hb hI)
  have HZ := Lib.hid (hZ.on (box_b w1 (.cells #[.int .i64 F, .slice ta tn tc] 26)))
  have HZL := Lib.hid hZ.len
  clear hI hZ hb
  go_wp2_with fail
  obtain ⟨T, hT⟩ : ∃ T, w1.heap.size = T := ⟨_, rfl⟩
  rw [hT] at H1
  (try rw [hT])
  generalize (w1.alloc (.cells #[.int .i64 F, .slice ta tn tc] 26)) = w2 at H1 HZ ⊢
  clear hT
  obtain ⟨t0, t1⟩ := H1.out.bt.two
  have hSM := Lib.hid (fun e => sick_sum (F := F) (xs := xs) (zs := zs) e)
  have IW := Lib.hid (fun W (h1 : Ints W ta tn xs) (h2 : Ints W za zn zs) => isw_any F xs ta tn tc zs za zn zc W h1 h2 htc hzc)
  have SW := Lib.hid (fun W (h1 : Ints W ta tn xs) (h2 : Ints W za zn zs) => ssw_any F xs ta tn tc zs za zn zc W h1 h2)
  unfold IIPost at IW SW
  obtain ⟨A, hA⟩ : ∃ y_, swV F xs zs = y_ := ⟨_, rfl⟩
  obtain ⟨E, hE⟩ : ∃ y_, swE F xs zs = y_ := ⟨_, rfl⟩
  rw [hA, hE] at IW SW hSM
  clear hA hE
  go_wp2_with fail
  refine (IW.out _ H1.out.ii HZ.out).mono ?_
  rintro e w3 ⟨rfl, hb⟩
  have H1 := Lib.hid (H1.out.on hb)
  have HZ := Lib.hid (HZ.out.on hb)
  clear hb t0 t1 IW
  obtain ⟨t0, t1⟩ := H1.out.bt.two
  go_wp2_with fail
  refine (SW.out _ H1.out.ii HZ.out).mono ?_
  rintro e w4 ⟨rfl, hb⟩
  have H1 := Lib.hid (H1.out.on hb)
  have HZ := Lib.hid (HZ.out.on hb)
  clear hb t0 t1 SW
  go_wp2_with fail
  refine (drawWX _ _ _ _ _ (HR.out.below H1.out.low HR.out.apart)).mono ?_
  rintro e w5 ⟨G, ua, un, uc, ys, y, rfl, hI, huc, hun, hb⟩
  have hl := H1.out.low.trans (hb.mono H1.out.low.size)
  have H2 : Hid (T1 w5.heap.size G ua un uc ys w (w5.alloc (.cells #[.int .i64 G, .slice ua un uc] 26))) := Lib.hid (T1.new hl hI)
  have hbx := hb.trans ((box_b w5 (.cells #[.int .i64 G, .slice ua un uc] 26)).mono hb.size)
  have H1 := Lib.hid (H1.out.on hbx)
  have HZ := Lib.hid (HZ.out.on hbx)
  have hyl := hI.len
  have hBST := Lib.hid (fun e => sick_best (G := G) (ys := ys) (y := y) e (by omega))
  have hSI := Lib.hid (fun (e : weE G ys y = 0) => siE_iff.2 (weE_iff.1 e).1)
  clear hI hb hl hbx hyl
  go_wp2_with fail
  obtain ⟨U, hU⟩ : ∃ U, w5.heap.size = U := ⟨_, rfl⟩
  rw [hU] at H2
  (try rw [hU])
  generalize (w5.alloc (.cells #[.int .i64 G, .slice ua un uc] 26)) = w6 at H1 H2 HZ ⊢
  clear hU
  obtain ⟨u0, u1⟩ := H2.out.bt.two
  have IA := Lib.hid (fun W (h1 : Ints W ua un ys) => iwe_any G ys ua un uc y W h1 huc)
  have SA := Lib.hid (fun W (h1 : Ints W ua un ys) => swe_any G ys ua un uc y W h1)
  have IO := Lib.hid (fun W (h1 : Ints W ua un ys) => iwo_any G ys ua un uc W h1 huc)
  have SO := Lib.hid (fun W (h1 : Ints W ua un ys) => swo_any G ys ua un uc W h1)
  have IB := Lib.hid (fun W (h1 : Ints W ua un ys) => iwe_any G ys ua un uc (woV G ys) W h1 huc)
  unfold IIPost at IA SA IO SO IB
  obtain ⟨V, hV⟩ : ∃ y_, weV G ys y = y_ := ⟨_, rfl⟩
  obtain ⟨EV, hEV⟩ : ∃ y_, weE G ys y = y_ := ⟨_, rfl⟩
  obtain ⟨X, hX⟩ : ∃ y_, woV G ys = y_ := ⟨_, rfl⟩
  obtain ⟨EX, hEX⟩ : ∃ y_, siE G ys = y_ := ⟨_, rfl⟩
  rw [hX] at IB hBST
  obtain ⟨M, hM⟩ : ∃ y_, weV G ys X = y_ := ⟨_, rfl⟩
  obtain ⟨EM, hEM⟩ : ∃ y_, weE G ys X = y_ := ⟨_, rfl⟩
  rw [hV, hEV] at IA SA
  rw [hX, hEX] at IO SO
  rw [hM, hEM] at IB
  rw [hV, hM, hEM, hEV] at hBST
  clear hV hX hEX hM hEM
  go_wp2_with fail
  refine (IA.out _ H2.out.ii).mono ?_
  rintro e w7 ⟨rfl, hb⟩
  have H1 := Lib.hid (H1.out.on hb)
  have HZ := Lib.hid (HZ.out.on hb)
  have H2 := Lib.hid (H2.out.on hb)
  clear hb u0 u1 IA
  obtain ⟨u0, u1⟩ := H2.out.bt.two
  go_wp2_with fail
  refine (SA.out _ H2.out.ii).mono ?_
  rintro e w8 ⟨rfl, hb⟩
  have H1 := Lib.hid (H1.out.on hb)
  have HZ := Lib.hid (HZ.out.on hb)
  have H2 := Lib.hid (H2.out.on hb)
  clear hb u0 u1 SA
  obtain ⟨u0, u1⟩ := H2.out.bt.two
  go_wp2_with fail
  refine (IO.out _ H2.out.ii).mono ?_
  rintro e w9 ⟨rfl, hb⟩
  have H1 := Lib.hid (H1.out.on hb)
  have HZ := Lib.hid (HZ.out.on hb)
  have H2 := Lib.hid (H2.out.on hb)
  clear hb u0 u1 IO
  obtain ⟨u0, u1⟩ := H2.out.bt.two
  go_wp2_with fail
  refine (SO.out _ H2.out.ii).mono ?_
  rintro e w10 ⟨rfl, hb⟩
  have H1 := Lib.hid (H1.out.on hb)
  have HZ := Lib.hid (HZ.out.on hb)
  have H2 := Lib.hid (H2.out.on hb)
  clear hb u0 u1 SO
  obtain ⟨u0, u1⟩ := H2.out.bt.two
  obtain ⟨t0, t1⟩ := H1.out.bt.two
  -- the rest, from any world that keeps the first table and its list
  have REST : Hid (E = 0 → (∀ k : Nat, k < zn → ∀ W, Hid (T1 T F ta tn tc xs w W) → Calls Try.prog 15 #[.agg #[.int .i64 F, .slice ta tn tc], .int .i64 (zs.getD k 0)] W fun e w' => e = .returned (.tuple #[.int .i64 (wk F xs (zs.getD k 0)), .int .i64 0]) ∧ Below W.heap.size W w')) := Lib.hid (fun he k hk W hW => by
    have h1 := (hSM.out he).1 k (by rw [HZL.out]; exact hk)
    have := iwe_any F xs ta tn tc (zs.getD k 0) W hW.out.ii htc
    unfold IIPost at this
    rw [h1.1, h1.2] at this
    exact this)
  by_cases hEV0 : EV = 0
  · subst hEV0
    obtain ⟨hM0, hVM⟩ := hBST.out rfl
    subst hM0
    have hgt : ¬ M < V := by omega
    clear hBST hSI hEV
    go_wp2_with fail
    refine (IB.out _ H2.out.ii).mono ?_
    rintro e w11 ⟨rfl, hb⟩
    have H1 := Lib.hid (H1.out.on hb)
    have HZ := Lib.hid (HZ.out.on hb)
    clear hb u0 u1 IB H2 t0 t1
    obtain ⟨t0, t1⟩ := H1.out.bt.two
    by_cases hE0 : E = 0
    · subst hE0
      obtain ⟨-, hz130, hst, s0, s1, s2, v0, v1⟩ := hSM.out rfl
      have CW := Lib.hid (REST.out rfl)
      have HST := Lib.hid hst
      rw [HZL.out] at hz130
      obtain ⟨S, hS⟩ : ∃ y_, swS F xs zs = y_ := ⟨_, rfl⟩
      rw [hS] at s0 s1 s2
      have HSS := Lib.hid hS
      clear hSM REST hst hS
      go_wp2_with fail
      go_loopw [21, 22] (fun v i wr => ∃ j : Nat, j ≤ zn ∧ i = .int .i64 j ∧ v = .int .i64 (swS F xs (zs.take j)) ∧ Hid (T1 T F ta tn tc xs w wr) ∧ Hid (Ints wr za zn zs)) (fun _ i _ => zn - (intOf i).toNat)
      case atStart => exact ⟨0, Nat.zero_le _, rfl, rfl, H1, HZ⟩
      case round =>
        clear t0 t1 H1 HZ
        obtain ⟨j, hj, rfl, rfl, H1, HZ⟩ := hrel
        obtain ⟨t0, t1⟩ := H1.out.bt.two
        have hsb := HST.out.sw_bd (zs.take j)
        have htl : (zs.take j).length ≤ j := List.length_take_le _ _
        by_cases hlt : j < zn
        · obtain ⟨bb, off, rfl, hb, hc⟩ := HZ.out.at (by omega)
          have hx := hc j hlt
          have hst := swS_take F xs zs j (by rw [HZL.out]; exact hlt)
          have hwb := HST.out.wk_bd (zs.getD j 0)
          have C1 := Lib.hid (CW.out j hlt)
          obtain ⟨Z, hZ⟩ : ∃ y_, zs.getD j 0 = y_ := ⟨_, rfl⟩
          rw [hZ] at hx hst hwb C1
          obtain ⟨Q, hQ⟩ : ∃ y_, swS F xs (zs.take j) = y_ := ⟨_, rfl⟩
          rw [hQ] at hsb hst ⊢
          obtain ⟨K, hK⟩ : ∃ y_, wk F xs Z = y_ := ⟨_, rfl⟩
          rw [hK] at hst hwb C1
          have HQ := Lib.hid hst
          clear hZ hQ hK hst hc
          have r1 : IntKind.i64.wrap (Q + K) = Q + K := IntWalk.i64_in _ (by omega)
          have hlt2 : (j : Int) < zn := by omega
          go_wp2_with fail
          go_region_held3 (fun w' => w'.cell? ⟨T, 0, none⟩ = some (.int .i64 F) ∧ w'.cell? ⟨T, 1, none⟩ = some (.slice ta tn tc) ∧ w'.cell? ⟨bb, off + j, none⟩ = some (.int .i64 Z) ∧ Hid (T1 T F ta tn tc xs w w') ∧ Hid (Ints w' (some ⟨bb, off, none⟩) zn zs))
            (first
              | (go_split_ands; exact ⟨by with_reducible assumption, by with_reducible assumption, by with_reducible assumption, by with_reducible assumption, by with_reducible assumption⟩)
              | (go_split_ands; exact ⟨cell_drew (by with_reducible assumption), cell_drew (by with_reducible assumption), cell_drew (by with_reducible assumption), Lib.hid (T1.on (Hid.out (by with_reducible assumption)) (Below.drew (Below.refl _ _))), Lib.hid (Ints.on (Hid.out (by with_reducible assumption)) (Below.drew (Below.refl _ _)))⟩)
              | (go_split_ands; exact ⟨keep2 hb (by with_reducible assumption), keep2 hb (by with_reducible assumption), keep2 hb (by with_reducible assumption), Lib.hid (T1.on (Hid.out (by with_reducible assumption)) hb), Lib.hid (Ints.on (Hid.out (by with_reducible assumption)) hb)⟩)
              | fail)
            (first
              | (go_split_ands; go_at_call 15; ((with_reducible refine (C1.out _ (by with_reducible assumption)).mono ?_); rintro e w' ⟨rfl, hb⟩))
              | fail)
          all_goals
            go_split_ands
            have H1 : Hid (T1 T F ta tn tc xs w _) := (by with_reducible assumption)
            have HZ : Hid (Ints _ (some ⟨bb, off, none⟩) zn zs) := (by with_reducible assumption)
            go_wp2_with fail
            go_roundw
            case rel => exact ⟨j + 1, by omega, by go_num, by rw [HQ.out], H1, HZ⟩
            case measure => simp [intOf]; omega
        · obtain rfl : j = zn := by omega
          have hA : zs.take j = zs := List.take_of_length_le (by rw [HZL.out]; exact Nat.le_refl _)
          rw [hA, HSS.out]
          have r1 : IntKind.i64.wrap (1000 * A) = 1000 * A := IntWalk.i64_in _ (by omega)
          have r2 : IntKind.i64.wrap (A - 1) = A - 1 := IntWalk.i64_in _ (by omega)
          have r3 : IntKind.i64.wrap (1000 * (A - 1)) = 1000 * (A - 1) := IntWalk.i64_in _ (by omega)
          clear hsb htl hA
          go_wp2_with fail
          go_ret
          exact ⟨rfl, H1.out.low⟩
    · have hne2 : (E != 0) = true := by simp [hE0]
      clear hSM REST hE0
      go_wp2_with fail
      go_ret
      exact ⟨rfl, H1.out.low⟩
  · have hne : (EV == 0) = false := by simp [hEV0]
    clear hBST hSI hEV hEV0 IB H2 u0 u1
    by_cases hE0 : E = 0
    · subst hE0
      obtain ⟨-, hz130, hst, s0, s1, s2, v0, v1⟩ := hSM.out rfl
      have CW := Lib.hid (REST.out rfl)
      have HST := Lib.hid hst
      rw [HZL.out] at hz130
      obtain ⟨S, hS⟩ : ∃ y_, swS F xs zs = y_ := ⟨_, rfl⟩
      rw [hS] at s0 s1 s2
      have HSS := Lib.hid hS
      clear hSM REST hst hS
      go_wp2_with fail
      go_loopw [21, 22] (fun v i wr => ∃ j : Nat, j ≤ zn ∧ i = .int .i64 j ∧ v = .int .i64 (swS F xs (zs.take j)) ∧ Hid (T1 T F ta tn tc xs w wr) ∧ Hid (Ints wr za zn zs)) (fun _ i _ => zn - (intOf i).toNat)
      case atStart => exact ⟨0, Nat.zero_le _, rfl, rfl, H1, HZ⟩
      case round =>
        clear t0 t1 H1 HZ
        obtain ⟨j, hj, rfl, rfl, H1, HZ⟩ := hrel
        obtain ⟨t0, t1⟩ := H1.out.bt.two
        have hsb := HST.out.sw_bd (zs.take j)
        have htl : (zs.take j).length ≤ j := List.length_take_le _ _
        by_cases hlt : j < zn
        · obtain ⟨bb, off, rfl, hb, hc⟩ := HZ.out.at (by omega)
          have hx := hc j hlt
          have hst := swS_take F xs zs j (by rw [HZL.out]; exact hlt)
          have hwb := HST.out.wk_bd (zs.getD j 0)
          have C1 := Lib.hid (CW.out j hlt)
          obtain ⟨Z, hZ⟩ : ∃ y_, zs.getD j 0 = y_ := ⟨_, rfl⟩
          rw [hZ] at hx hst hwb C1
          obtain ⟨Q, hQ⟩ : ∃ y_, swS F xs (zs.take j) = y_ := ⟨_, rfl⟩
          rw [hQ] at hsb hst ⊢
          obtain ⟨K, hK⟩ : ∃ y_, wk F xs Z = y_ := ⟨_, rfl⟩
          rw [hK] at hst hwb C1
          have HQ := Lib.hid hst
          clear hZ hQ hK hst hc
          have r1 : IntKind.i64.wrap (Q + K) = Q + K := IntWalk.i64_in _ (by omega)
          have hlt2 : (j : Int) < zn := by omega
          go_wp2_with fail
          go_region_held3 (fun w' => w'.cell? ⟨T, 0, none⟩ = some (.int .i64 F) ∧ w'.cell? ⟨T, 1, none⟩ = some (.slice ta tn tc) ∧ w'.cell? ⟨bb, off + j, none⟩ = some (.int .i64 Z) ∧ Hid (T1 T F ta tn tc xs w w') ∧ Hid (Ints w' (some ⟨bb, off, none⟩) zn zs))
            (first
              | (go_split_ands; exact ⟨by with_reducible assumption, by with_reducible assumption, by with_reducible assumption, by with_reducible assumption, by with_reducible assumption⟩)
              | (go_split_ands; exact ⟨cell_drew (by with_reducible assumption), cell_drew (by with_reducible assumption), cell_drew (by with_reducible assumption), Lib.hid (T1.on (Hid.out (by with_reducible assumption)) (Below.drew (Below.refl _ _))), Lib.hid (Ints.on (Hid.out (by with_reducible assumption)) (Below.drew (Below.refl _ _)))⟩)
              | (go_split_ands; exact ⟨keep2 hb (by with_reducible assumption), keep2 hb (by with_reducible assumption), keep2 hb (by with_reducible assumption), Lib.hid (T1.on (Hid.out (by with_reducible assumption)) hb), Lib.hid (Ints.on (Hid.out (by with_reducible assumption)) hb)⟩)
              | fail)
            (first
              | (go_split_ands; go_at_call 15; ((with_reducible refine (C1.out _ (by with_reducible assumption)).mono ?_); rintro e w' ⟨rfl, hb⟩))
              | fail)
          all_goals
            go_split_ands
            have H1 : Hid (T1 T F ta tn tc xs w _) := (by with_reducible assumption)
            have HZ : Hid (Ints _ (some ⟨bb, off, none⟩) zn zs) := (by with_reducible assumption)
            go_wp2_with fail
            go_roundw
            case rel => exact ⟨j + 1, by omega, by go_num, by rw [HQ.out], H1, HZ⟩
            case measure => simp [intOf]; omega
        · obtain rfl : j = zn := by omega
          have hA : zs.take j = zs := List.take_of_length_le (by rw [HZL.out]; exact Nat.le_refl _)
          rw [hA, HSS.out]
          have r1 : IntKind.i64.wrap (1000 * A) = 1000 * A := IntWalk.i64_in _ (by omega)
          have r2 : IntKind.i64.wrap (A - 1) = A - 1 := IntWalk.i64_in _ (by omega)
          have r3 : IntKind.i64.wrap (1000 * (A - 1)) = 1000 * (A - 1) := IntWalk.i64_in _ (by omega)
          clear hsb htl hA
          go_wp2_with fail
          go_ret
          exact ⟨rfl, H1.out.low⟩
    · have hne2 : (E != 0) = true := by simp [hE0]
      clear hSM REST hE0
      go_wp2_with fail
      go_ret
      exact ⟨rfl, H1.out.low⟩

end Go.Proofs.Ytgfemcpjkdepdaa
