/- slices.symMerge at []int: what a call does. -/
import Derived.Test.YtalfbhkgjfkneaaSymB
import Derived.Deep.Cut
import Derived.Deep.CutRange
import Derived.Deep.CutBlock
namespace Go.Proofs.Ytalfbhkgjfkneaa
open Go.ChangeShapes Go.WideShapes Go.ChangeAt Go.RowKit
set_option linter.unusedVariables false

def RelM (key : Nat → Int) (f : Nat → Nat) (nn lo hi : Nat) (w : World) (x y : Value) (wr : World) : Prop :=
  ∃ s t : Nat, x = .int .i64 s ∧ y = .int .i64 t ∧ lo ≤ s ∧ s ≤ t ∧ t ≤ hi ∧ Hid (∀ c, lo ≤ c → c < s → key (f (nn - 1 - c)) ≤ key (f c)) ∧ Hid (∀ c, t ≤ c → c < hi → key (f c) < key (f (nn - 1 - c))) ∧ Hid (∃ m, wr = w.drewN m)

theorem rot_i (D n c : Nat) (f : Nat → Nat) (a m b : Nat) (ia im ib : Int) (cv : Value) (w : World) (ea : ia = a) (em : im = m) (eb : ib = b) (h : BlkF w D n f) (h1 : a < m) (h2 : m < b) (h3 : b ≤ n) (hn : n ≤ 1073741824) :
    Calls Try.prog 66 #[.slice (some ⟨D, 0, none⟩) n c, .int .i64 ia, .int .i64 im, .int .i64 ib, cv] w (SwrPost D n (rotF f a m b) w) := by
  subst ea; subst em; subst eb
  exact rot_any D n c f a m b cv w h h1 h2 h3 hn

def SymHyp (key : Nat → Int) (C R D n c ck N : Nat) : Prop :=
  ∀ (f : Nat → Nat) (a m b : Nat) (ia im ib : Int) (w : World), b - a < N → ia = a → im = m → ib = b → BlkF w D n f → Env C R n ck key w → (∀ k, k < n → f k < n) → Srt key a m f → Srt key m b f → Crs key a m b f → a < m → m < b → b ≤ n →
    Calls Try.prog 65 #[.slice (some ⟨D, 0, none⟩) n c, .int .i64 ia, .int .i64 im, .int .i64 ib, CV C] w (SrtPost key D n a b f w)

theorem sym_end {key : Nat → Int} {a q b : Nat} {f g1 g2 g3 : Nat → Nat} (hp : Prm a b f g1) (p2 : Prm a q g1 g2) (s2 : Srt key a q g2) (p3 : Prm q b g2 g3) (s3 : Srt key q b g3)
    (hl : ∀ i j, a ≤ i → i < q → q ≤ j → j < b → Lt key (g1 i) (g1 j)) (h1 : a ≤ q) (h2 : q ≤ b) : Prm a b f g3 ∧ Srt key a b g3 :=
  ⟨hp.trans ((p2.mono (Nat.le_refl _) h2).trans (p3.mono h1 (Nat.le_refl _))), srt_join (srt_out s2 p3 (.inl (Nat.le_refl _))) s3 (lt_keep p2 p3 hl)⟩

set_option maxRecDepth 100000 in
set_option maxHeartbeats 2000000 in
theorem sym_c (key : Nat → Int) (C R D n c ck : Nat) (f : Nat → Nat) (a m b q : Nat) (w : World) (hq : ((a : Int) + (b : Int)) / 2 = (q : Int)) (h : BlkF w D n f) (he : Env C R n ck key w) (hv : ∀ k, k < n → f k < n)
    (hl : Srt key a m f) (hr : Srt key m b f) (hc : Crs key a m b f) (h1 : a + 1 < m) (h0 : m + 1 < b) (h2 : b ≤ n) (hn : n ≤ 1073741824) (hC : C ≠ D) (hR : R ≠ D) (ih : SymHyp key C R D n c ck (b - a)) :
    Calls Try.prog 65 #[.slice (some ⟨D, 0, none⟩) n c, .int .i64 a, .int .i64 m, .int .i64 b, CV C] w (SrtPost key D n a b f w) := by
  have H := Lib.hid h
  have HE := Lib.hid he
  have HV := Lib.hid hv
  have HL := Lib.hid hl
  have HR := Lib.hid hr
  have HC := Lib.hid hc
  have IH := Lib.hid ih
  clear h he hv hl hr hc ih
  have hq1 : a + b ≤ q + q + 1 := by omega
  have hq2 : q + q ≤ a + b := by omega
  go_enter Try.func65, Try.ntmps65
  go_upto_if 140 with fail
  clear hq
  generalize ((m : Int) - (a : Int) == 1) = bc
  generalize ((b : Int) - (m : Int) == 1) = bd
  go_cut [20, 21] from 138 to 146 (fun x y wx => ∃ lo hi : Nat, x = .int .i64 lo ∧ y = .int .i64 hi ∧ Hid (a ≤ lo ∧ lo ≤ hi ∧ hi ≤ m ∧ hi ≤ q ∧ q + m ≤ b + lo ∧ (lo = a ∨ q + m = b + lo) ∧ (hi = m ∨ q + m = m + hi)) ∧ wx = w)
  case first =>
    by_cases hm : q < m
    · go_wp2_with fail
      go_meet
      case rel => exact ⟨q + m - b, q, by go_num, rfl, Lib.hid (by omega), rfl⟩
    · go_wp2_with fail
      go_meet
      case rel => exact ⟨a, m, rfl, rfl, Lib.hid (by omega), rfl⟩
  case rest =>
    obtain ⟨lo, hi, rfl, rfl, HF, hww⟩ := hcut
    have hww' := hww.symm
    subst hww'
    clear hww
    obtain ⟨F1, F2, F3, F4, F5, F6, F7⟩ := HF.out
    clear F6 F7
    obtain ⟨pp, hpp⟩ : ∃ pp : Nat, pp = q + m - 1 := ⟨_, rfl⟩
    have hpi : (q : Int) + (m : Int) - 1 = (pp : Int) := by omega
    have HPP := Lib.hid hpp
    clear hpp
    go_wp2_with fail
    clear hpi
    go_loopw [20, 21] (fun x y wr => RelM key f (q + m) lo hi w x y wr) (fun x y _ => (intOf y - intOf x).toNat)
    case atStart => exact ⟨lo, hi, rfl, rfl, by omega, by omega, by omega, Lib.hid (fun k h3 h4 => by omega), Lib.hid (fun k h3 h4 => by omega), Lib.hid ⟨0, rfl⟩⟩
    case round =>
      obtain ⟨s, t, rfl, rfl, hs1, hst, ht1, HI, HJ, HW⟩ := hrel
      by_cases hlt : s < t
      · have hh1 : s ≤ (s + t) / 2 := by omega
        have hh2 : (s + t) / 2 < t := by omega
        obtain ⟨z, hz⟩ : ∃ z : Nat, (s + t) / 2 = z := ⟨_, rfl⟩
        have hzi : ((s : Int) + (t : Int)) / 2 = (z : Int) := by omega
        rw [hz] at hh1 hh2
        clear hz
        obtain ⟨pz, hpz⟩ : ∃ pz : Nat, pz = q + m - 1 - z := ⟨_, rfl⟩
        have hpp := HPP.out
        have hpzi : (pp : Int) - (z : Int) = (pz : Int) := by omega
        have hpz1 : m ≤ pz := by omega
        have hpz2 : pz < b := by omega
        have HPZ := Lib.hid hpz
        clear hpz hpp
        have HBr : Hid (BlkF wr D n f) := Lib.hid (by obtain ⟨mm, rfl⟩ := HW.out; exact H.out.drewN mm)
        have HEr : Hid (Env C R n ck key wr) := Lib.hid (by obtain ⟨mm, rfl⟩ := HW.out; exact HE.out.drewN mm)
        have c1 := HBr.out.cell pz (by omega)
        have c2 := HBr.out.cell z (by omega)
        have v1 := HV.out pz (by omega)
        have v2 := HV.out z (by omega)
        obtain ⟨x, hx⟩ : ∃ x, f pz = x := ⟨_, rfl⟩
        obtain ⟨y, hy⟩ : ∃ y, f z = y := ⟨_, rfl⟩
        rw [hx] at c1 v1
        rw [hy] at c2 v2
        have HX := Lib.hid hx
        have HY := Lib.hid hy
        clear hx hy
        by_cases hk : key y < key x
        · have hneg : cmpI (key y) (key x) < 0 := cmp_neg.2 hk
          have HJ2 : Hid (∀ k, z ≤ k → k < hi → key (f k) < key (f (q + m - 1 - k))) := Lib.hid fun k h3 h4 => by
            have e0 := HPZ.out
            have e1 := srt_key HL.out (show a ≤ z by omega) h3 (show k < m by omega)
            have e2 := srt_key HR.out (show m ≤ q + m - 1 - k by omega) (show q + m - 1 - k ≤ pz by omega) hpz2
            rw [HY.out] at e1
            rw [HX.out] at e2
            omega
          clear hk
          go_wp2_with fail
          go_quiet ((go_at_call 58; exact Calls.quiet_of (clos_any C R n ck key x y _ (HEr.out.drewN _) v1 v2 hn)))
          go_wp2_with fail
          all_goals first | (exfalso; rename_i hh; rw [show decide (cmpI (key y) (key x) < 0) = true from decide_eq_true hneg] at hh; exact Bool.noConfusion hh) | skip
          go_roundw
          case rel => exact ⟨s, z, rfl, by go_num, by omega, by omega, by omega, HI, HJ2, Lib.hid (by obtain ⟨mm, rfl⟩ := HW.out; exact ⟨_, World.drewN_drewN _ _ _⟩)⟩
          case measure => simp [intOf]; omega
        · have hneg : ¬ cmpI (key y) (key x) < 0 := fun e => hk (cmp_neg.1 e)
          have HI2 : Hid (∀ k, lo ≤ k → k < z + 1 → key (f (q + m - 1 - k)) ≤ key (f k)) := Lib.hid fun k h3 h4 => by
            have e0 := HPZ.out
            have e1 := srt_key HL.out (show a ≤ k by omega) (show k ≤ z by omega) (show z < m by omega)
            have e2 := srt_key HR.out hpz1 (show pz ≤ q + m - 1 - k by omega) (show q + m - 1 - k < b by omega)
            rw [HY.out] at e1
            rw [HX.out] at e2
            omega
          clear hk
          go_wp2_with fail
          go_quiet ((go_at_call 58; exact Calls.quiet_of (clos_any C R n ck key x y _ (HEr.out.drewN _) v1 v2 hn)))
          go_wp2_with fail
          all_goals first | (exfalso; rename_i hh; rw [show decide (cmpI (key y) (key x) < 0) = false from decide_eq_false (Int.not_lt.2 hneg)] at hh; exact Bool.noConfusion hh) | skip
          go_roundw
          case rel => exact ⟨z + 1, t, by go_num, rfl, by omega, by omega, by omega, HI2, HJ, Lib.hid (by obtain ⟨mm, rfl⟩ := HW.out; exact ⟨_, World.drewN_drewN _ _ _⟩)⟩
          case measure => simp [intOf]; omega
      · obtain rfl : s = t := by omega
        obtain ⟨mm, rfl⟩ := HW.out
        obtain ⟨e, hee⟩ : ∃ e : Nat, e = q + m - s := ⟨_, rfl⟩
        have heq : e + s = q + m := by omega
        have e1 : m ≤ e := by omega
        have e2 : e ≤ b := by omega
        have hsm : s ≤ m := by omega
        have hsq : s ≤ q := by omega
        have hsa : a ≤ s := by omega
        have haq : a ≤ q := by omega
        have hqb : q ≤ b := by omega
        have hd : q + m = s + e := by omega
        have HFF := HF.out
        have hpar : Parts key a s m e b f := by
          rw [hee]
          exact parts_of (lo := lo) (hi := hi) (by omega) (by omega) HL.out HR.out HC.out hs1 ht1 F3 F1 (by omega) (by omega) HFF.2.2.2.2.2.1 HFF.2.2.2.2.2.2 (fun c h3 h4 => by have := HI.out c h3 h4; omega) HJ.out
        clear HFF hee HJ HI HF hlt
        obtain ⟨g1, hg1⟩ : ∃ g, g = rotF f s m e := ⟨_, rfl⟩
        have SL1 : Hid (Srt key a s g1) := Lib.hid (by rw [hg1]; exact rot_l1 (b := b) hsm HL.out)
        have SL2 : Hid (Srt key s q g1) := Lib.hid (by rw [hg1]; exact rot_r1 e1 e2 hd HR.out)
        have CL : Hid (Crs key a s q g1) := Lib.hid (by rw [hg1]; exact rot_c1 hsm e1 e2 hd HC.out)
        have SR1 : Hid (Srt key q e g1) := Lib.hid (by rw [hg1]; exact rot_l2 hsa hsm e1 hd HL.out)
        have SR2 : Hid (Srt key e b g1) := Lib.hid (by rw [hg1]; exact rot_r2 hsm e1 HR.out)
        have CR : Hid (Crs key q e b g1) := Lib.hid (by rw [hg1]; exact rot_c2 hsa hsm e1 hd HC.out)
        have LT : Hid (∀ i j, a ≤ i → i < q → q ≤ j → j < b → Lt key (g1 i) (g1 j)) := Lib.hid (by rw [hg1]; exact split_lt hsa hsm e1 e2 hd HL.out HR.out hpar)
        have P1 : Hid (Prm a b f g1) := Lib.hid (by rw [hg1]; exact (prm_rot f s m e hsm e1).mono hsa e2)
        have HV1 : Hid (∀ k, k < n → g1 k < n) := Lib.hid (P1.out.vals h2 HV.out)
        have HG1 := Lib.hid hg1
        have HEQ := Lib.hid heq
        clear hg1 hpar heq hd
        obtain ⟨wo, hwo⟩ : ∃ wo : World, wo = w.drewN mm := ⟨_, rfl⟩
        have HB0 : Hid (BlkF wo D n f) := Lib.hid (by rw [hwo]; exact H.out.drewN mm)
        have HO0 : Hid (Only D w wo) := Lib.hid (by rw [hwo]; exact (Only.refl _ _).drewN mm)
        rw [← hwo]
        clear hwo
        go_upto_region 39 with fail
        go_cut [185] from 175 to 185 (fun v wx => ∃ bb : Bool, v = .bool bb ∧ Hid (bb = true ↔ s < m ∧ s < q) ∧ wx = wo)
        case first =>
          have heq := HEQ.out
          by_cases k1 : s < m
          · by_cases k2 : s < q
            · go_wp2_with fail
              go_meet
              case rel => exact ⟨true, by first | rfl | exact congrArg Value.bool (decide_eq_true (by omega)), Lib.hid ⟨fun _ => ⟨k1, k2⟩, fun _ => rfl⟩, rfl⟩
            · go_wp2_with fail
              go_meet
              case rel => exact ⟨false, by first | rfl | exact congrArg Value.bool (decide_eq_false (by omega)), Lib.hid ⟨fun h => Bool.noConfusion h, fun h => by omega⟩, rfl⟩
          · go_wp2_with fail
            go_meet
            case rel => exact ⟨false, by first | rfl | exact congrArg Value.bool (decide_eq_false (by omega)), Lib.hid ⟨fun h => Bool.noConfusion h, fun h => by omega⟩, rfl⟩
        case rest =>
          obtain ⟨bb, rfl, HBB, hww⟩ := hcut
          have hww' := hww.symm
          subst hww'
          clear hww
          go_upto_if 185 with fail
          go_cut [] from 186 to 191 (fun wx => Hid (BlkF wx D n g1) ∧ Hid (Only D w wx))
          case first =>
            cases bb
            · go_wp2_with fail
              go_meet
              case rel => exact ⟨Lib.hid (by
                have k := HBB.out
                simp at k
                rw [HG1.out]
                have heq := HEQ.out
                by_cases k1 : s < m
                · obtain rfl : m = e := by have := k k1; omega
                  rw [rot_id_r]; exact HB0.out
                · obtain rfl : s = m := by omega
                  rw [rot_id_l]; exact HB0.out), HO0⟩
            · have k := HBB.out.1 rfl
              obtain ⟨k1, k2⟩ := k
              go_wp2_with fail
              refine (rot_i D n c f s m e _ _ _ _ wo rfl rfl (by have := HEQ.out; omega) HB0.out k1 (by have := HEQ.out; omega) (by omega) hn).mono ?_
              rintro x w1 ⟨rfl, hb, ho⟩
              have HB1 : Hid (BlkF w1 D n g1) := Lib.hid (by rw [HG1.out]; exact hb)
              have HO1 := Lib.hid (HO0.out.trans ho)
              clear hb ho
              go_wp2_with fail
              go_meet
              case rel => exact ⟨HB1, HO1⟩
          case rest =>
            obtain ⟨HB1, HO1⟩ := hcut
            obtain ⟨w1, hw1⟩ : ∃ x : World, x = wc := ⟨_, rfl⟩
            subst hw1
            clear HB0 HO0 HBB
            go_upto_region 41 with fail
            go_cut [199] from 192 to 199 (fun v wx => ∃ bb : Bool, v = .bool bb ∧ Hid (bb = true ↔ a < s ∧ s < q) ∧ wx = w1)
            case first =>
              by_cases k1 : a < s
              · by_cases k2 : s < q
                · go_wp2_with fail
                  go_meet
                  case rel => exact ⟨true, by first | rfl | exact congrArg Value.bool (decide_eq_true (by omega)), Lib.hid ⟨fun _ => ⟨k1, k2⟩, fun _ => rfl⟩, rfl⟩
                · go_wp2_with fail
                  go_meet
                  case rel => exact ⟨false, by first | rfl | exact congrArg Value.bool (decide_eq_false (by omega)), Lib.hid ⟨fun h => Bool.noConfusion h, fun h => by omega⟩, rfl⟩
              · go_wp2_with fail
                go_meet
                case rel => exact ⟨false, by first | rfl | exact congrArg Value.bool (decide_eq_false (by omega)), Lib.hid ⟨fun h => Bool.noConfusion h, fun h => by omega⟩, rfl⟩
            case rest =>
              obtain ⟨bb, rfl, HBB, hww⟩ := hcut
              have hww' := hww.symm
              subst hww'
              clear hww
              go_upto_if 199 with fail
              go_cut [] from 200 to 205 (fun wx => ∃ g2, Hid (BlkF wx D n g2) ∧ Hid (Prm a q g1 g2) ∧ Hid (Srt key a q g2) ∧ Hid (Only D w wx))
              case first =>
                cases bb
                · go_wp2_with fail
                  go_meet
                  case rel => exact ⟨g1, HB1, Lib.hid (Prm.refl _ _ _), Lib.hid (by
                    have k := HBB.out
                    simp at k
                    by_cases k1 : a < s
                    · obtain rfl : s = q := by have := k k1; omega
                      exact SL1.out
                    · obtain rfl : a = s := by omega
                      exact SL2.out), HO1⟩
                · have k := HBB.out.1 rfl
                  obtain ⟨k1, k2⟩ := k
                  go_wp2_with fail
                  refine (IH.out g1 a s q _ _ _ w1 (by omega) rfl rfl rfl HB1.out (HE.out.only HO1.out hC hR) HV1.out SL1.out SL2.out CL.out k1 k2 (by omega)).mono ?_
                  rintro x w2 ⟨rfl, g2, hb, hp, hs, ho⟩
                  have HB2 := Lib.hid hb
                  have HP2 := Lib.hid hp
                  have HS2 := Lib.hid hs
                  have HO2 := Lib.hid (HO1.out.trans ho)
                  clear hb hp hs ho
                  go_wp2_with fail
                  go_meet
                  case rel => exact ⟨g2, HB2, HP2, HS2, HO2⟩
              case rest =>
                obtain ⟨g2, HB2, HP2, HS2, HO2⟩ := hcut
                obtain ⟨w2, hw2⟩ : ∃ x : World, x = wc := ⟨_, rfl⟩
                subst hw2
                clear HB1 HO1 HBB
                go_upto_region 43 with fail
                go_cut [213] from 206 to 213 (fun v wx => ∃ bb : Bool, v = .bool bb ∧ Hid (bb = true ↔ q < e ∧ e < b) ∧ wx = w2)
                case first =>
                  have heq := HEQ.out
                  by_cases k1 : q < e
                  · by_cases k2 : e < b
                    · go_wp2_with fail
                      go_meet
                      case rel => exact ⟨true, by first | rfl | exact congrArg Value.bool (decide_eq_true (by omega)), Lib.hid ⟨fun _ => ⟨k1, k2⟩, fun _ => rfl⟩, rfl⟩
                    · go_wp2_with fail
                      go_meet
                      case rel => exact ⟨false, by first | rfl | exact congrArg Value.bool (decide_eq_false (by omega)), Lib.hid ⟨fun h => Bool.noConfusion h, fun h => by omega⟩, rfl⟩
                  · go_wp2_with fail
                    go_meet
                    case rel => exact ⟨false, by first | rfl | exact congrArg Value.bool (decide_eq_false (by omega)), Lib.hid ⟨fun h => Bool.noConfusion h, fun h => by omega⟩, rfl⟩
                case rest =>
                  obtain ⟨bb, rfl, HBB, hww⟩ := hcut
                  have hww' := hww.symm
                  subst hww'
                  clear hww
                  have TR1 : Hid (Srt key q e g2) := Lib.hid (srt_out SR1.out HP2.out (.inr (Nat.le_refl _)))
                  have TR2 : Hid (Srt key e b g2) := Lib.hid (srt_out SR2.out HP2.out (.inr (by have := HEQ.out; omega)))
                  have TC : Hid (Crs key q e b g2) := Lib.hid (crs_out CR.out HP2.out (.inr (Nat.le_refl _)))
                  have HV2 : Hid (∀ k, k < n → g2 k < n) := Lib.hid (HP2.out.vals (by omega) HV1.out)
                  cases bb
                  · have HS3 : Hid (Srt key q b g2) := Lib.hid (by
                      have k := HBB.out
                      simp at k
                      have heq := HEQ.out
                      by_cases k1 : q < e
                      · obtain rfl : e = b := by have := k k1; omega
                        exact TR1.out
                      · obtain rfl : q = e := by omega
                        exact TR2.out)
                    go_wp2_with fail
                    go_end0
                    have hh := sym_end P1.out HP2.out HS2.out (Prm.refl _ _ _) HS3.out LT.out haq hqb
                    exact ⟨rfl, g2, HB2.out, hh.1, hh.2, HO2.out⟩
                  · have k := HBB.out.1 rfl
                    obtain ⟨k1, k2⟩ := k
                    go_wp2_with fail
                    refine (IH.out g2 q e b _ _ _ w2 (by omega) rfl (by have := HEQ.out; omega) rfl HB2.out (HE.out.only HO2.out hC hR) HV2.out TR1.out TR2.out TC.out k1 k2 (by omega)).mono ?_
                    rintro x w3 ⟨rfl, g3, hb, hp, hs, ho⟩
                    have HB3 := Lib.hid hb
                    have HP3 := Lib.hid hp
                    have HS3 := Lib.hid hs
                    have HO3 := Lib.hid (HO2.out.trans ho)
                    clear hb hp hs ho
                    go_wp2_with fail
                    go_end0
                    have hh := sym_end P1.out HP2.out HS2.out HP3.out HS3.out LT.out haq hqb
                    exact ⟨rfl, g3, HB3.out, hh.1, hh.2, HO3.out⟩

end Go.Proofs.Ytalfbhkgjfkneaa
