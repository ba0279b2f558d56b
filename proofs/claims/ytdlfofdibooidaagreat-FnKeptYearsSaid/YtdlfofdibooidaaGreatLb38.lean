/- Merged: Fky, Lvb. -/
import Derived.Test.YtdlfofdibooidaaGreatLb14
import Derived.Test.YtdlfofdibooidaaGreatLb19
import Derived.Test.YtdlfofdibooidaaGreatLb33
import Derived.Test.YtdlfofdibooidaaGreatLb34
import Derived.Test.YtdlfofdibooidaaGreatLb35
import Derived.Test.YtdlfofdibooidaaGreatLb36
import Derived.Test.YtdlfofdibooidaaGreatLb37

/- The law on kept years: their price is at most the surrender value, and leaving is best when it is told. (Written by wip/gen/flv.py.) -/
namespace Go.Proofs.YtdlfofdibooidaaGreat
open Go.ChangeShapes Go.WideShapes Go.ChangeAt Go.RowKit
set_option linter.unusedVariables false

set_option maxRecDepth 2000000 in
set_option maxHeartbeats 16000000 in
theorem fnKeptYears_walk (a0 : Option Addr) (len0 cap0 : Nat) (z0 : List Int) (w : World) (w0 : IsRow .u8 w a0 len0 cap0 z0) :
    Calls Tryz.prog 4 #[.slice a0 len0 cap0] w fun e w' => e = .returned (.bool true) ∧ Below w.heap.size w w' := by
  by_cases hbig : 4096 < (len0 : Int)
  · go_enter Tryz.func4, Tryz.ntmps4
    go_wp2_with (go_at_call 11; refine (big2_any _ _ _ _).mono ?_; rintro e w' ⟨rfl, rfl⟩)
    go_ret
    exact ⟨rfl, Below.refl _ _⟩
  · have HW0 := Lib.hid w0
    have HB := Lib.hid (Below.refl w.heap.size w)
    clear w0
    go_enter Tryz.func4, Tryz.ntmps4
    go_wp2_with (go_at_call 11; refine (big2_any _ _ _ _).mono ?_; rintro e w' ⟨rfl, rfl⟩)
    refine (drawKY a0 len0 cap0 z0 _ (HW0.out.below HB.out HW0.out.apart)).mono ?_
    rintro e w1 ⟨F1, ta1, tn1, tc1, xs1, r1, k1, x1, n1, s1, u1, j1, rfl, hI, htc, -, hb⟩
    have hbx := (box_b w1 (.cells #[.int .i64 F1, .slice ta1 tn1 tc1, .int .i64 r1] 28)).trans ((box_b (w1.alloc (.cells #[.int .i64 F1, .slice ta1 tn1 tc1, .int .i64 r1] 28)) (.cells #[.int .i64 k1, .int .i64 x1, .int .i64 n1, .int .i64 s1, .int .i64 u1] 30)).mono (by simp))
    have HQ1 : Hid (LB w w1.heap.size (w1.heap.size + 1) F1 ta1 tn1 tc1 xs1 r1 k1 x1 n1 s1 u1 ((w1.alloc (.cells #[.int .i64 F1, .slice ta1 tn1 tc1, .int .i64 r1] 28)).alloc (.cells #[.int .i64 k1, .int .i64 x1, .int .i64 n1, .int .i64 s1, .int .i64 u1] 30))) := Lib.hid (LB.new _ _ _ _ _ _ _ _ _ _ _ hI htc (HB.out.trans (hb.mono HB.out.size)))
    have HB := Lib.hid HQ1.out.low
    clear hb hbx hI htc
    go_wp2_with fail
    obtain ⟨V1, hV⟩ : ∃ y_, (w1.alloc (.cells #[.int .i64 F1, .slice ta1 tn1 tc1, .int .i64 r1] 28)).alloc (.cells #[.int .i64 k1, .int .i64 x1, .int .i64 n1, .int .i64 s1, .int .i64 u1] 30) = y_ := ⟨_, rfl⟩
    obtain ⟨X1, hX⟩ : ∃ y_, w1.heap.size = y_ := ⟨_, rfl⟩
    obtain ⟨Y1, hY⟩ : ∃ y_, X1 + 1 = y_ := ⟨_, rfl⟩
    rw [hV, hX, hY] at HQ1
    rw [hV] at HB 
    (try rw [hV])
    (try rw [hX])
    (try rw [hY])
    clear hV hX hY
    have IKY : Hid (∀ W, LB w X1 Y1 F1 ta1 tn1 tc1 xs1 r1 k1 x1 n1 s1 u1 W → Calls Tryz.prog 23 #[.agg #[.int .i64 F1, .slice ta1 tn1 tc1, .int .i64 r1], .agg #[.int .i64 k1, .int .i64 x1, .int .i64 n1, .int .i64 s1, .int .i64 u1], .int .i64 j1] W (IIPost (lvV (lvE r1 F1 xs1 k1 x1 n1 s1 u1 j1) (kyN r1 F1 xs1 k1 x1 n1 s1 j1)) (lvE r1 F1 xs1 k1 x1 n1 s1 u1 j1) W)) := Lib.hid (fun W hW => iky_any r1 F1 xs1 ta1 tn1 tc1 k1 x1 n1 s1 u1 j1 W hW.ints hW.le)
    have SKY : Hid (∀ W, LB w X1 Y1 F1 ta1 tn1 tc1 xs1 r1 k1 x1 n1 s1 u1 W → Calls Tryz.prog 24 #[.agg #[.int .i64 F1, .slice ta1 tn1 tc1, .int .i64 r1], .agg #[.int .i64 k1, .int .i64 x1, .int .i64 n1, .int .i64 s1, .int .i64 u1], .int .i64 j1] W (IIPost (lvV (lvE r1 F1 xs1 k1 x1 n1 s1 u1 j1) (kyN r1 F1 xs1 k1 x1 n1 s1 j1)) (lvE r1 F1 xs1 k1 x1 n1 s1 u1 j1) W)) := Lib.hid (fun W hW => sky_any r1 F1 xs1 ta1 tn1 tc1 k1 x1 n1 s1 u1 j1 W hW.ints)
    have ISV : Hid (∀ W, LB w X1 Y1 F1 ta1 tn1 tc1 xs1 r1 k1 x1 n1 s1 u1 W → Calls Tryz.prog 15 #[.agg #[.int .i64 F1, .slice ta1 tn1 tc1, .int .i64 r1], .agg #[.int .i64 k1, .int .i64 x1, .int .i64 n1, .int .i64 s1, .int .i64 u1], .int .i64 j1] W (IIPost (lvV (lvE r1 F1 xs1 k1 x1 n1 s1 u1 j1) (lsvN r1 F1 xs1 k1 x1 n1 s1 j1)) (lvE r1 F1 xs1 k1 x1 n1 s1 u1 j1) W)) := Lib.hid (fun W hW => isv12_any r1 F1 xs1 ta1 tn1 tc1 k1 x1 n1 s1 u1 j1 W hW.ints hW.le)
    by_cases he : lvE r1 F1 xs1 k1 x1 n1 s1 u1 j1 = 0
    · obtain ⟨m, V, eM, eV, m0, m1, v0, v1, ⟨y0, y1⟩, p, a, ep, ea, hpa⟩ := kept_facts he
      rw [eM] at IKY SKY
      rw [eV] at ISV
      rw [he] at IKY SKY ISV
      have IAP : Hid (∀ W, LB w X1 Y1 F1 ta1 tn1 tc1 xs1 r1 k1 x1 n1 s1 u1 W → Calls Tryz.prog 21 #[.agg #[.int .i64 F1, .slice ta1 tn1 tc1], .int .i64 r1, .int .i64 1, .int .i64 (x1 + j1), .int .i64 m, .int .i64 s1] W (IIPost p a W)) := Lib.hid (fun W hW => by rw [← ep, ← ea]; exact ipri_any r1 F1 xs1 ta1 tn1 tc1 1 (x1 + j1) m s1 W hW.ints hW.le)
      unfold IIPost at IKY SKY ISV IAP
      have q1_ : IntKind.i64.wrap (x1 + j1) = x1 + j1 := IntWalk.i64_in _ (by omega)
      clear eM eV ep ea he
      by_cases hm : m = 0
      · subst hm
        obtain ⟨ca1, cb1, cc1, da1, db1, dc1, dd1, de1⟩ := lbC HQ1.out
        with_reducible refine (IKY.out _ HQ1.out).mono ?_
        rintro e v1 ⟨rfl, hb⟩
        have HQ1 := Lib.hid (HQ1.out.on hb)
        have HB := Lib.hid (HB.out.trans (hb.mono HB.out.size))
        clear hb ca1 cb1 cc1 da1 db1 dc1 dd1 de1
        obtain ⟨ca1, cb1, cc1, da1, db1, dc1, dd1, de1⟩ := lbC HQ1.out
        go_wp2_with fail
        with_reducible refine (SKY.out _ HQ1.out).mono ?_
        rintro e v2 ⟨rfl, hb⟩
        have HQ1 := Lib.hid (HQ1.out.on hb)
        have HB := Lib.hid (HB.out.trans (hb.mono HB.out.size))
        clear hb ca1 cb1 cc1 da1 db1 dc1 dd1 de1
        go_wp2_with fail
        refine (drawBL a0 len0 cap0 z0 _ (HW0.out.below HB.out HW0.out.apart)).mono ?_
        rintro e w2 ⟨F2, ta2, tn2, tc2, xs2, r2, k2, x2, n2, s2, u2, rfl, hI, htc, -, hb⟩
        have hbx := (box_b w2 (.cells #[.int .i64 F2, .slice ta2 tn2 tc2, .int .i64 r2] 28)).trans ((box_b (w2.alloc (.cells #[.int .i64 F2, .slice ta2 tn2 tc2, .int .i64 r2] 28)) (.cells #[.int .i64 k2, .int .i64 x2, .int .i64 n2, .int .i64 s2, .int .i64 u2] 30)).mono (by simp))
        have HQ2 : Hid (LB w w2.heap.size (w2.heap.size + 1) F2 ta2 tn2 tc2 xs2 r2 k2 x2 n2 s2 u2 ((w2.alloc (.cells #[.int .i64 F2, .slice ta2 tn2 tc2, .int .i64 r2] 28)).alloc (.cells #[.int .i64 k2, .int .i64 x2, .int .i64 n2, .int .i64 s2, .int .i64 u2] 30))) := Lib.hid (LB.new _ _ _ _ _ _ _ _ _ _ _ hI htc (HB.out.trans (hb.mono HB.out.size)))
        have HB := Lib.hid HQ2.out.low
        have HQ1 := Lib.hid ((HQ1.out.on hb).on hbx)
        clear hb hbx hI htc
        go_wp2_with fail
        obtain ⟨V2, hV⟩ : ∃ y_, (w2.alloc (.cells #[.int .i64 F2, .slice ta2 tn2 tc2, .int .i64 r2] 28)).alloc (.cells #[.int .i64 k2, .int .i64 x2, .int .i64 n2, .int .i64 s2, .int .i64 u2] 30) = y_ := ⟨_, rfl⟩
        obtain ⟨X2, hX⟩ : ∃ y_, w2.heap.size = y_ := ⟨_, rfl⟩
        obtain ⟨Y2, hY⟩ : ∃ y_, X2 + 1 = y_ := ⟨_, rfl⟩
        rw [hV, hX, hY] at HQ2
        rw [hV] at HB HQ1
        (try rw [hV])
        (try rw [hX])
        (try rw [hY])
        clear hV hX hY
        have IBL : Hid (∀ W, LB w X2 Y2 F2 ta2 tn2 tc2 xs2 r2 k2 x2 n2 s2 u2 W → Calls Tryz.prog 26 #[.agg #[.int .i64 F2, .slice ta2 tn2 tc2, .int .i64 r2], .agg #[.int .i64 k2, .int .i64 x2, .int .i64 n2, .int .i64 s2, .int .i64 u2]] W (IIIPost (blK r2 F2 xs2 k2 x2 n2 s2 u2) (blV r2 F2 xs2 k2 x2 n2 s2 u2) (blE r2 F2 xs2 k2 x2 n2 s2 u2) W)) := Lib.hid (fun W hW => ibl_any r2 F2 xs2 ta2 tn2 tc2 k2 x2 n2 s2 u2 W hW.ints hW.le)
        have SBL : Hid (∀ W, LB w X2 Y2 F2 ta2 tn2 tc2 xs2 r2 k2 x2 n2 s2 u2 W → Calls Tryz.prog 27 #[.agg #[.int .i64 F2, .slice ta2 tn2 tc2, .int .i64 r2], .agg #[.int .i64 k2, .int .i64 x2, .int .i64 n2, .int .i64 s2, .int .i64 u2]] W (IIIPost (blK r2 F2 xs2 k2 x2 n2 s2 u2) (blV r2 F2 xs2 k2 x2 n2 s2 u2) (blE r2 F2 xs2 k2 x2 n2 s2 u2) W)) := Lib.hid (fun W hW => sbl_any r2 F2 xs2 ta2 tn2 tc2 k2 x2 n2 s2 u2 W hW.ints)
        by_cases hb0 : blE r2 F2 xs2 k2 x2 n2 s2 u2 = 0
        · obtain ⟨jj, yy, vv, oo, eK, eV2, eE2, ePo, eSv, eO, hyy, j0, j9, vv0, vv1, jo0, jo1⟩ := best_facts hb0
          have ISB : Hid (∀ W, LB w X2 Y2 F2 ta2 tn2 tc2 xs2 r2 k2 x2 n2 s2 u2 W → Calls Tryz.prog 15 #[.agg #[.int .i64 F2, .slice ta2 tn2 tc2, .int .i64 r2], .agg #[.int .i64 k2, .int .i64 x2, .int .i64 n2, .int .i64 s2, .int .i64 u2], .int .i64 jj] W (IIPost vv 0 W)) := Lib.hid (fun W hW => by rw [← eSv, ← eE2]; exact isv12_any r2 F2 xs2 ta2 tn2 tc2 k2 x2 n2 s2 u2 jj W hW.ints hW.le)
          have IOP : Hid (∀ W, LB w X2 Y2 F2 ta2 tn2 tc2 xs2 r2 k2 x2 n2 s2 u2 W → Calls Tryz.prog 28 #[.agg #[.int .i64 F2, .slice ta2 tn2 tc2, .int .i64 r2], .agg #[.int .i64 k2, .int .i64 x2, .int .i64 n2, .int .i64 s2, .int .i64 u2]] W (IIPost oo 0 W)) := Lib.hid (fun W hW => by rw [← eO, ← ePo]; exact iop_any r2 F2 xs2 ta2 tn2 tc2 k2 x2 n2 s2 u2 W hW.ints hW.le)
          rw [eK, eV2, hb0] at IBL SBL
          subst hyy
          have r1_ : IntKind.i64.wrap (jj * oo) = jj * oo := IntWalk.i64_in _ (by omega)
          have r2_ : IntKind.i64.wrap (vv - jj * oo) = vv - jj * oo := IntWalk.i64_in _ (by omega)
          unfold IIIPost at IBL SBL
          unfold IIPost at ISB IOP
          clear eK eV2 eE2 ePo eSv eO hb0
          obtain ⟨ca2, cb2, cc2, da2, db2, dc2, dd2, de2⟩ := lbC HQ2.out
          with_reducible refine (IBL.out _ HQ2.out).mono ?_
          rintro e u1_ ⟨rfl, hb⟩
          have HQ1 := Lib.hid (HQ1.out.on hb)
          have HQ2 := Lib.hid (HQ2.out.on hb)
          have HB := Lib.hid (HB.out.trans (hb.mono HB.out.size))
          clear hb ca2 cb2 cc2 da2 db2 dc2 dd2 de2
          obtain ⟨ca2, cb2, cc2, da2, db2, dc2, dd2, de2⟩ := lbC HQ2.out
          go_wp2_with fail
          with_reducible refine (SBL.out _ HQ2.out).mono ?_
          rintro e u2_ ⟨rfl, hb⟩
          have HQ1 := Lib.hid (HQ1.out.on hb)
          have HQ2 := Lib.hid (HQ2.out.on hb)
          have HB := Lib.hid (HB.out.trans (hb.mono HB.out.size))
          clear hb ca2 cb2 cc2 da2 db2 dc2 dd2 de2
          obtain ⟨ca2, cb2, cc2, da2, db2, dc2, dd2, de2⟩ := lbC HQ2.out
          go_wp2_with fail
          with_reducible refine (ISB.out _ HQ2.out).mono ?_
          rintro e u3_ ⟨rfl, hb⟩
          have HQ1 := Lib.hid (HQ1.out.on hb)
          have HQ2 := Lib.hid (HQ2.out.on hb)
          have HB := Lib.hid (HB.out.trans (hb.mono HB.out.size))
          clear hb ca2 cb2 cc2 da2 db2 dc2 dd2 de2
          obtain ⟨ca2, cb2, cc2, da2, db2, dc2, dd2, de2⟩ := lbC HQ2.out
          go_wp2_with fail
          with_reducible refine (IOP.out _ HQ2.out).mono ?_
          rintro e u4_ ⟨rfl, hb⟩
          have HQ1 := Lib.hid (HQ1.out.on hb)
          have HQ2 := Lib.hid (HQ2.out.on hb)
          have HB := Lib.hid (HB.out.trans (hb.mono HB.out.size))
          clear hb ca2 cb2 cc2 da2 db2 dc2 dd2 de2
          go_wp2_with fail
          go_ret
          exact ⟨rfl, HB.out⟩
        · obtain ⟨K2, hK2⟩ : ∃ y_, blK r2 F2 xs2 k2 x2 n2 s2 u2 = y_ := ⟨_, rfl⟩
          obtain ⟨B2, hB2⟩ : ∃ y_, blV r2 F2 xs2 k2 x2 n2 s2 u2 = y_ := ⟨_, rfl⟩
          obtain ⟨E2, hE2⟩ : ∃ y_, blE r2 F2 xs2 k2 x2 n2 s2 u2 = y_ := ⟨_, rfl⟩
          rw [hK2, hB2, hE2] at IBL SBL
          rw [hE2] at hb0
          have hb3 : (E2 == 0) = false := by simp [hb0]
          unfold IIIPost at IBL SBL
          clear hK2 hB2 hE2
          obtain ⟨ca2, cb2, cc2, da2, db2, dc2, dd2, de2⟩ := lbC HQ2.out
          with_reducible refine (IBL.out _ HQ2.out).mono ?_
          rintro e u1_ ⟨rfl, hb⟩
          have HQ1 := Lib.hid (HQ1.out.on hb)
          have HQ2 := Lib.hid (HQ2.out.on hb)
          have HB := Lib.hid (HB.out.trans (hb.mono HB.out.size))
          clear hb ca2 cb2 cc2 da2 db2 dc2 dd2 de2
          obtain ⟨ca2, cb2, cc2, da2, db2, dc2, dd2, de2⟩ := lbC HQ2.out
          go_wp2_with fail
          with_reducible refine (SBL.out _ HQ2.out).mono ?_
          rintro e u2_ ⟨rfl, hb⟩
          have HQ1 := Lib.hid (HQ1.out.on hb)
          have HQ2 := Lib.hid (HQ2.out.on hb)
          have HB := Lib.hid (HB.out.trans (hb.mono HB.out.size))
          clear hb ca2 cb2 cc2 da2 db2 dc2 dd2 de2
          go_wp2_with fail
          go_ret
          exact ⟨rfl, HB.out⟩
      · obtain ⟨rfl, hpv⟩ := hpa hm
        have hm2 : (m == 0) = false := by simp [hm]
        obtain ⟨ca1, cb1, cc1, da1, db1, dc1, dd1, de1⟩ := lbC HQ1.out
        with_reducible refine (IKY.out _ HQ1.out).mono ?_
        rintro e v1 ⟨rfl, hb⟩
        have HQ1 := Lib.hid (HQ1.out.on hb)
        have HB := Lib.hid (HB.out.trans (hb.mono HB.out.size))
        clear hb ca1 cb1 cc1 da1 db1 dc1 dd1 de1
        obtain ⟨ca1, cb1, cc1, da1, db1, dc1, dd1, de1⟩ := lbC HQ1.out
        go_wp2_with fail
        with_reducible refine (SKY.out _ HQ1.out).mono ?_
        rintro e v2 ⟨rfl, hb⟩
        have HQ1 := Lib.hid (HQ1.out.on hb)
        have HB := Lib.hid (HB.out.trans (hb.mono HB.out.size))
        clear hb ca1 cb1 cc1 da1 db1 dc1 dd1 de1
        go_wp2_with fail
        refine (drawBL a0 len0 cap0 z0 _ (HW0.out.below HB.out HW0.out.apart)).mono ?_
        rintro e w2 ⟨F2, ta2, tn2, tc2, xs2, r2, k2, x2, n2, s2, u2, rfl, hI, htc, -, hb⟩
        have hbx := (box_b w2 (.cells #[.int .i64 F2, .slice ta2 tn2 tc2, .int .i64 r2] 28)).trans ((box_b (w2.alloc (.cells #[.int .i64 F2, .slice ta2 tn2 tc2, .int .i64 r2] 28)) (.cells #[.int .i64 k2, .int .i64 x2, .int .i64 n2, .int .i64 s2, .int .i64 u2] 30)).mono (by simp))
        have HQ2 : Hid (LB w w2.heap.size (w2.heap.size + 1) F2 ta2 tn2 tc2 xs2 r2 k2 x2 n2 s2 u2 ((w2.alloc (.cells #[.int .i64 F2, .slice ta2 tn2 tc2, .int .i64 r2] 28)).alloc (.cells #[.int .i64 k2, .int .i64 x2, .int .i64 n2, .int .i64 s2, .int .i64 u2] 30))) := Lib.hid (LB.new _ _ _ _ _ _ _ _ _ _ _ hI htc (HB.out.trans (hb.mono HB.out.size)))
        have HB := Lib.hid HQ2.out.low
        have HQ1 := Lib.hid ((HQ1.out.on hb).on hbx)
        clear hb hbx hI htc
        go_wp2_with fail
        obtain ⟨V2, hV⟩ : ∃ y_, (w2.alloc (.cells #[.int .i64 F2, .slice ta2 tn2 tc2, .int .i64 r2] 28)).alloc (.cells #[.int .i64 k2, .int .i64 x2, .int .i64 n2, .int .i64 s2, .int .i64 u2] 30) = y_ := ⟨_, rfl⟩
        obtain ⟨X2, hX⟩ : ∃ y_, w2.heap.size = y_ := ⟨_, rfl⟩
        obtain ⟨Y2, hY⟩ : ∃ y_, X2 + 1 = y_ := ⟨_, rfl⟩
        rw [hV, hX, hY] at HQ2
        rw [hV] at HB HQ1
        (try rw [hV])
        (try rw [hX])
        (try rw [hY])
        clear hV hX hY
        have IBL : Hid (∀ W, LB w X2 Y2 F2 ta2 tn2 tc2 xs2 r2 k2 x2 n2 s2 u2 W → Calls Tryz.prog 26 #[.agg #[.int .i64 F2, .slice ta2 tn2 tc2, .int .i64 r2], .agg #[.int .i64 k2, .int .i64 x2, .int .i64 n2, .int .i64 s2, .int .i64 u2]] W (IIIPost (blK r2 F2 xs2 k2 x2 n2 s2 u2) (blV r2 F2 xs2 k2 x2 n2 s2 u2) (blE r2 F2 xs2 k2 x2 n2 s2 u2) W)) := Lib.hid (fun W hW => ibl_any r2 F2 xs2 ta2 tn2 tc2 k2 x2 n2 s2 u2 W hW.ints hW.le)
        have SBL : Hid (∀ W, LB w X2 Y2 F2 ta2 tn2 tc2 xs2 r2 k2 x2 n2 s2 u2 W → Calls Tryz.prog 27 #[.agg #[.int .i64 F2, .slice ta2 tn2 tc2, .int .i64 r2], .agg #[.int .i64 k2, .int .i64 x2, .int .i64 n2, .int .i64 s2, .int .i64 u2]] W (IIIPost (blK r2 F2 xs2 k2 x2 n2 s2 u2) (blV r2 F2 xs2 k2 x2 n2 s2 u2) (blE r2 F2 xs2 k2 x2 n2 s2 u2) W)) := Lib.hid (fun W hW => sbl_any r2 F2 xs2 ta2 tn2 tc2 k2 x2 n2 s2 u2 W hW.ints)
        by_cases hb0 : blE r2 F2 xs2 k2 x2 n2 s2 u2 = 0
        · obtain ⟨jj, yy, vv, oo, eK, eV2, eE2, ePo, eSv, eO, hyy, j0, j9, vv0, vv1, jo0, jo1⟩ := best_facts hb0
          have ISB : Hid (∀ W, LB w X2 Y2 F2 ta2 tn2 tc2 xs2 r2 k2 x2 n2 s2 u2 W → Calls Tryz.prog 15 #[.agg #[.int .i64 F2, .slice ta2 tn2 tc2, .int .i64 r2], .agg #[.int .i64 k2, .int .i64 x2, .int .i64 n2, .int .i64 s2, .int .i64 u2], .int .i64 jj] W (IIPost vv 0 W)) := Lib.hid (fun W hW => by rw [← eSv, ← eE2]; exact isv12_any r2 F2 xs2 ta2 tn2 tc2 k2 x2 n2 s2 u2 jj W hW.ints hW.le)
          have IOP : Hid (∀ W, LB w X2 Y2 F2 ta2 tn2 tc2 xs2 r2 k2 x2 n2 s2 u2 W → Calls Tryz.prog 28 #[.agg #[.int .i64 F2, .slice ta2 tn2 tc2, .int .i64 r2], .agg #[.int .i64 k2, .int .i64 x2, .int .i64 n2, .int .i64 s2, .int .i64 u2]] W (IIPost oo 0 W)) := Lib.hid (fun W hW => by rw [← eO, ← ePo]; exact iop_any r2 F2 xs2 ta2 tn2 tc2 k2 x2 n2 s2 u2 W hW.ints hW.le)
          rw [eK, eV2, hb0] at IBL SBL
          subst hyy
          have r1_ : IntKind.i64.wrap (jj * oo) = jj * oo := IntWalk.i64_in _ (by omega)
          have r2_ : IntKind.i64.wrap (vv - jj * oo) = vv - jj * oo := IntWalk.i64_in _ (by omega)
          unfold IIIPost at IBL SBL
          unfold IIPost at ISB IOP
          clear eK eV2 eE2 ePo eSv eO hb0
          obtain ⟨ca2, cb2, cc2, da2, db2, dc2, dd2, de2⟩ := lbC HQ2.out
          with_reducible refine (IBL.out _ HQ2.out).mono ?_
          rintro e u1_ ⟨rfl, hb⟩
          have HQ1 := Lib.hid (HQ1.out.on hb)
          have HQ2 := Lib.hid (HQ2.out.on hb)
          have HB := Lib.hid (HB.out.trans (hb.mono HB.out.size))
          clear hb ca2 cb2 cc2 da2 db2 dc2 dd2 de2
          obtain ⟨ca2, cb2, cc2, da2, db2, dc2, dd2, de2⟩ := lbC HQ2.out
          go_wp2_with fail
          with_reducible refine (SBL.out _ HQ2.out).mono ?_
          rintro e u2_ ⟨rfl, hb⟩
          have HQ1 := Lib.hid (HQ1.out.on hb)
          have HQ2 := Lib.hid (HQ2.out.on hb)
          have HB := Lib.hid (HB.out.trans (hb.mono HB.out.size))
          clear hb ca2 cb2 cc2 da2 db2 dc2 dd2 de2
          obtain ⟨ca2, cb2, cc2, da2, db2, dc2, dd2, de2⟩ := lbC HQ2.out
          go_wp2_with fail
          with_reducible refine (ISB.out _ HQ2.out).mono ?_
          rintro e u3_ ⟨rfl, hb⟩
          have HQ1 := Lib.hid (HQ1.out.on hb)
          have HQ2 := Lib.hid (HQ2.out.on hb)
          have HB := Lib.hid (HB.out.trans (hb.mono HB.out.size))
          clear hb ca2 cb2 cc2 da2 db2 dc2 dd2 de2
          obtain ⟨ca2, cb2, cc2, da2, db2, dc2, dd2, de2⟩ := lbC HQ2.out
          go_wp2_with fail
          with_reducible refine (IOP.out _ HQ2.out).mono ?_
          rintro e u4_ ⟨rfl, hb⟩
          have HQ1 := Lib.hid (HQ1.out.on hb)
          have HQ2 := Lib.hid (HQ2.out.on hb)
          have HB := Lib.hid (HB.out.trans (hb.mono HB.out.size))
          clear hb ca2 cb2 cc2 da2 db2 dc2 dd2 de2
          obtain ⟨ca1, cb1, cc1, da1, db1, dc1, dd1, de1⟩ := lbC HQ1.out
          go_wp2_with fail
          with_reducible refine (ISV.out _ HQ1.out).mono ?_
          rintro e z1 ⟨rfl, hb⟩
          have HQ1 := Lib.hid (HQ1.out.on hb)
          have HB := Lib.hid (HB.out.trans (hb.mono HB.out.size))
          clear hb ca1 cb1 cc1 da1 db1 dc1 dd1 de1
          obtain ⟨ca1, cb1, cc1, da1, db1, dc1, dd1, de1⟩ := lbC HQ1.out
          go_wp2_with fail
          with_reducible refine (IAP.out _ HQ1.out).mono ?_
          rintro e z2 ⟨rfl, hb⟩
          have HQ1 := Lib.hid (HQ1.out.on hb)
          have HB := Lib.hid (HB.out.trans (hb.mono HB.out.size))
          clear hb ca1 cb1 cc1 da1 db1 dc1 dd1 de1
          go_wp2_with fail
          go_ret
          exact ⟨rfl, HB.out⟩
        · obtain ⟨K2, hK2⟩ : ∃ y_, blK r2 F2 xs2 k2 x2 n2 s2 u2 = y_ := ⟨_, rfl⟩
          obtain ⟨B2, hB2⟩ : ∃ y_, blV r2 F2 xs2 k2 x2 n2 s2 u2 = y_ := ⟨_, rfl⟩
          obtain ⟨E2, hE2⟩ : ∃ y_, blE r2 F2 xs2 k2 x2 n2 s2 u2 = y_ := ⟨_, rfl⟩
          rw [hK2, hB2, hE2] at IBL SBL
          rw [hE2] at hb0
          have hb3 : (E2 == 0) = false := by simp [hb0]
          unfold IIIPost at IBL SBL
          clear hK2 hB2 hE2
          obtain ⟨ca2, cb2, cc2, da2, db2, dc2, dd2, de2⟩ := lbC HQ2.out
          with_reducible refine (IBL.out _ HQ2.out).mono ?_
          rintro e u1_ ⟨rfl, hb⟩
          have HQ1 := Lib.hid (HQ1.out.on hb)
          have HQ2 := Lib.hid (HQ2.out.on hb)
          have HB := Lib.hid (HB.out.trans (hb.mono HB.out.size))
          clear hb ca2 cb2 cc2 da2 db2 dc2 dd2 de2
          obtain ⟨ca2, cb2, cc2, da2, db2, dc2, dd2, de2⟩ := lbC HQ2.out
          go_wp2_with fail
          with_reducible refine (SBL.out _ HQ2.out).mono ?_
          rintro e u2_ ⟨rfl, hb⟩
          have HQ1 := Lib.hid (HQ1.out.on hb)
          have HQ2 := Lib.hid (HQ2.out.on hb)
          have HB := Lib.hid (HB.out.trans (hb.mono HB.out.size))
          clear hb ca2 cb2 cc2 da2 db2 dc2 dd2 de2
          obtain ⟨ca1, cb1, cc1, da1, db1, dc1, dd1, de1⟩ := lbC HQ1.out
          go_wp2_with fail
          with_reducible refine (ISV.out _ HQ1.out).mono ?_
          rintro e z1 ⟨rfl, hb⟩
          have HQ1 := Lib.hid (HQ1.out.on hb)
          have HB := Lib.hid (HB.out.trans (hb.mono HB.out.size))
          clear hb ca1 cb1 cc1 da1 db1 dc1 dd1 de1
          obtain ⟨ca1, cb1, cc1, da1, db1, dc1, dd1, de1⟩ := lbC HQ1.out
          go_wp2_with fail
          with_reducible refine (IAP.out _ HQ1.out).mono ?_
          rintro e z2 ⟨rfl, hb⟩
          have HQ1 := Lib.hid (HQ1.out.on hb)
          have HB := Lib.hid (HB.out.trans (hb.mono HB.out.size))
          clear hb ca1 cb1 cc1 da1 db1 dc1 dd1 de1
          go_wp2_with fail
          go_ret
          exact ⟨rfl, HB.out⟩
    · rw [lvV_no he] at IKY SKY
      obtain ⟨E, hE⟩ : ∃ y_, lvE r1 F1 xs1 k1 x1 n1 s1 u1 j1 = y_ := ⟨_, rfl⟩
      rw [hE] at he IKY SKY
      unfold IIPost at IKY SKY
      have hb2 : (E != 0) = true := by simp [he]
      clear hE ISV
      obtain ⟨ca1, cb1, cc1, da1, db1, dc1, dd1, de1⟩ := lbC HQ1.out
      with_reducible refine (IKY.out _ HQ1.out).mono ?_
      rintro e v1 ⟨rfl, hb⟩
      have HQ1 := Lib.hid (HQ1.out.on hb)
      have HB := Lib.hid (HB.out.trans (hb.mono HB.out.size))
      clear hb ca1 cb1 cc1 da1 db1 dc1 dd1 de1
      obtain ⟨ca1, cb1, cc1, da1, db1, dc1, dd1, de1⟩ := lbC HQ1.out
      go_wp2_with fail
      with_reducible refine (SKY.out _ HQ1.out).mono ?_
      rintro e v2 ⟨rfl, hb⟩
      have HQ1 := Lib.hid (HQ1.out.on hb)
      have HB := Lib.hid (HB.out.trans (hb.mono HB.out.size))
      clear hb ca1 cb1 cc1 da1 db1 dc1 dd1 de1
      go_wp2_with fail
      refine (drawBL a0 len0 cap0 z0 _ (HW0.out.below HB.out HW0.out.apart)).mono ?_
      rintro e w2 ⟨F2, ta2, tn2, tc2, xs2, r2, k2, x2, n2, s2, u2, rfl, hI, htc, -, hb⟩
      have hbx := (box_b w2 (.cells #[.int .i64 F2, .slice ta2 tn2 tc2, .int .i64 r2] 28)).trans ((box_b (w2.alloc (.cells #[.int .i64 F2, .slice ta2 tn2 tc2, .int .i64 r2] 28)) (.cells #[.int .i64 k2, .int .i64 x2, .int .i64 n2, .int .i64 s2, .int .i64 u2] 30)).mono (by simp))
      have HQ2 : Hid (LB w w2.heap.size (w2.heap.size + 1) F2 ta2 tn2 tc2 xs2 r2 k2 x2 n2 s2 u2 ((w2.alloc (.cells #[.int .i64 F2, .slice ta2 tn2 tc2, .int .i64 r2] 28)).alloc (.cells #[.int .i64 k2, .int .i64 x2, .int .i64 n2, .int .i64 s2, .int .i64 u2] 30))) := Lib.hid (LB.new _ _ _ _ _ _ _ _ _ _ _ hI htc (HB.out.trans (hb.mono HB.out.size)))
      have HB := Lib.hid HQ2.out.low
      have HQ1 := Lib.hid ((HQ1.out.on hb).on hbx)
      clear hb hbx hI htc
      go_wp2_with fail
      obtain ⟨V2, hV⟩ : ∃ y_, (w2.alloc (.cells #[.int .i64 F2, .slice ta2 tn2 tc2, .int .i64 r2] 28)).alloc (.cells #[.int .i64 k2, .int .i64 x2, .int .i64 n2, .int .i64 s2, .int .i64 u2] 30) = y_ := ⟨_, rfl⟩
      obtain ⟨X2, hX⟩ : ∃ y_, w2.heap.size = y_ := ⟨_, rfl⟩
      obtain ⟨Y2, hY⟩ : ∃ y_, X2 + 1 = y_ := ⟨_, rfl⟩
      rw [hV, hX, hY] at HQ2
      rw [hV] at HB HQ1
      (try rw [hV])
      (try rw [hX])
      (try rw [hY])
      clear hV hX hY
      have IBL : Hid (∀ W, LB w X2 Y2 F2 ta2 tn2 tc2 xs2 r2 k2 x2 n2 s2 u2 W → Calls Tryz.prog 26 #[.agg #[.int .i64 F2, .slice ta2 tn2 tc2, .int .i64 r2], .agg #[.int .i64 k2, .int .i64 x2, .int .i64 n2, .int .i64 s2, .int .i64 u2]] W (IIIPost (blK r2 F2 xs2 k2 x2 n2 s2 u2) (blV r2 F2 xs2 k2 x2 n2 s2 u2) (blE r2 F2 xs2 k2 x2 n2 s2 u2) W)) := Lib.hid (fun W hW => ibl_any r2 F2 xs2 ta2 tn2 tc2 k2 x2 n2 s2 u2 W hW.ints hW.le)
      have SBL : Hid (∀ W, LB w X2 Y2 F2 ta2 tn2 tc2 xs2 r2 k2 x2 n2 s2 u2 W → Calls Tryz.prog 27 #[.agg #[.int .i64 F2, .slice ta2 tn2 tc2, .int .i64 r2], .agg #[.int .i64 k2, .int .i64 x2, .int .i64 n2, .int .i64 s2, .int .i64 u2]] W (IIIPost (blK r2 F2 xs2 k2 x2 n2 s2 u2) (blV r2 F2 xs2 k2 x2 n2 s2 u2) (blE r2 F2 xs2 k2 x2 n2 s2 u2) W)) := Lib.hid (fun W hW => sbl_any r2 F2 xs2 ta2 tn2 tc2 k2 x2 n2 s2 u2 W hW.ints)
      by_cases hb0 : blE r2 F2 xs2 k2 x2 n2 s2 u2 = 0
      · obtain ⟨jj, yy, vv, oo, eK, eV2, eE2, ePo, eSv, eO, hyy, j0, j9, vv0, vv1, jo0, jo1⟩ := best_facts hb0
        have ISB : Hid (∀ W, LB w X2 Y2 F2 ta2 tn2 tc2 xs2 r2 k2 x2 n2 s2 u2 W → Calls Tryz.prog 15 #[.agg #[.int .i64 F2, .slice ta2 tn2 tc2, .int .i64 r2], .agg #[.int .i64 k2, .int .i64 x2, .int .i64 n2, .int .i64 s2, .int .i64 u2], .int .i64 jj] W (IIPost vv 0 W)) := Lib.hid (fun W hW => by rw [← eSv, ← eE2]; exact isv12_any r2 F2 xs2 ta2 tn2 tc2 k2 x2 n2 s2 u2 jj W hW.ints hW.le)
        have IOP : Hid (∀ W, LB w X2 Y2 F2 ta2 tn2 tc2 xs2 r2 k2 x2 n2 s2 u2 W → Calls Tryz.prog 28 #[.agg #[.int .i64 F2, .slice ta2 tn2 tc2, .int .i64 r2], .agg #[.int .i64 k2, .int .i64 x2, .int .i64 n2, .int .i64 s2, .int .i64 u2]] W (IIPost oo 0 W)) := Lib.hid (fun W hW => by rw [← eO, ← ePo]; exact iop_any r2 F2 xs2 ta2 tn2 tc2 k2 x2 n2 s2 u2 W hW.ints hW.le)
        rw [eK, eV2, hb0] at IBL SBL
        subst hyy
        have r1_ : IntKind.i64.wrap (jj * oo) = jj * oo := IntWalk.i64_in _ (by omega)
        have r2_ : IntKind.i64.wrap (vv - jj * oo) = vv - jj * oo := IntWalk.i64_in _ (by omega)
        unfold IIIPost at IBL SBL
        unfold IIPost at ISB IOP
        clear eK eV2 eE2 ePo eSv eO hb0
        obtain ⟨ca2, cb2, cc2, da2, db2, dc2, dd2, de2⟩ := lbC HQ2.out
        with_reducible refine (IBL.out _ HQ2.out).mono ?_
        rintro e u1_ ⟨rfl, hb⟩
        have HQ1 := Lib.hid (HQ1.out.on hb)
        have HQ2 := Lib.hid (HQ2.out.on hb)
        have HB := Lib.hid (HB.out.trans (hb.mono HB.out.size))
        clear hb ca2 cb2 cc2 da2 db2 dc2 dd2 de2
        obtain ⟨ca2, cb2, cc2, da2, db2, dc2, dd2, de2⟩ := lbC HQ2.out
        go_wp2_with fail
        with_reducible refine (SBL.out _ HQ2.out).mono ?_
        rintro e u2_ ⟨rfl, hb⟩
        have HQ1 := Lib.hid (HQ1.out.on hb)
        have HQ2 := Lib.hid (HQ2.out.on hb)
        have HB := Lib.hid (HB.out.trans (hb.mono HB.out.size))
        clear hb ca2 cb2 cc2 da2 db2 dc2 dd2 de2
        obtain ⟨ca2, cb2, cc2, da2, db2, dc2, dd2, de2⟩ := lbC HQ2.out
        go_wp2_with fail
        with_reducible refine (ISB.out _ HQ2.out).mono ?_
        rintro e u3_ ⟨rfl, hb⟩
        have HQ1 := Lib.hid (HQ1.out.on hb)
        have HQ2 := Lib.hid (HQ2.out.on hb)
        have HB := Lib.hid (HB.out.trans (hb.mono HB.out.size))
        clear hb ca2 cb2 cc2 da2 db2 dc2 dd2 de2
        obtain ⟨ca2, cb2, cc2, da2, db2, dc2, dd2, de2⟩ := lbC HQ2.out
        go_wp2_with fail
        with_reducible refine (IOP.out _ HQ2.out).mono ?_
        rintro e u4_ ⟨rfl, hb⟩
        have HQ1 := Lib.hid (HQ1.out.on hb)
        have HQ2 := Lib.hid (HQ2.out.on hb)
        have HB := Lib.hid (HB.out.trans (hb.mono HB.out.size))
        clear hb ca2 cb2 cc2 da2 db2 dc2 dd2 de2
        go_wp2_with fail
        go_ret
        exact ⟨rfl, HB.out⟩
      · obtain ⟨K2, hK2⟩ : ∃ y_, blK r2 F2 xs2 k2 x2 n2 s2 u2 = y_ := ⟨_, rfl⟩
        obtain ⟨B2, hB2⟩ : ∃ y_, blV r2 F2 xs2 k2 x2 n2 s2 u2 = y_ := ⟨_, rfl⟩
        obtain ⟨E2, hE2⟩ : ∃ y_, blE r2 F2 xs2 k2 x2 n2 s2 u2 = y_ := ⟨_, rfl⟩
        rw [hK2, hB2, hE2] at IBL SBL
        rw [hE2] at hb0
        have hb3 : (E2 == 0) = false := by simp [hb0]
        unfold IIIPost at IBL SBL
        clear hK2 hB2 hE2
        obtain ⟨ca2, cb2, cc2, da2, db2, dc2, dd2, de2⟩ := lbC HQ2.out
        with_reducible refine (IBL.out _ HQ2.out).mono ?_
        rintro e u1_ ⟨rfl, hb⟩
        have HQ1 := Lib.hid (HQ1.out.on hb)
        have HQ2 := Lib.hid (HQ2.out.on hb)
        have HB := Lib.hid (HB.out.trans (hb.mono HB.out.size))
        clear hb ca2 cb2 cc2 da2 db2 dc2 dd2 de2
        obtain ⟨ca2, cb2, cc2, da2, db2, dc2, dd2, de2⟩ := lbC HQ2.out
        go_wp2_with fail
        with_reducible refine (SBL.out _ HQ2.out).mono ?_
        rintro e u2_ ⟨rfl, hb⟩
        have HQ1 := Lib.hid (HQ1.out.on hb)
        have HQ2 := Lib.hid (HQ2.out.on hb)
        have HB := Lib.hid (HB.out.trans (hb.mono HB.out.size))
        clear hb ca2 cb2 cc2 da2 db2 dc2 dd2 de2
        go_wp2_with fail
        go_ret
        exact ⟨rfl, HB.out⟩

end Go.Proofs.YtdlfofdibooidaaGreat

/- Leaving: the two laws together. -/
namespace Go.Proofs.YtdlfofdibooidaaGreat

end Go.Proofs.YtdlfofdibooidaaGreat
