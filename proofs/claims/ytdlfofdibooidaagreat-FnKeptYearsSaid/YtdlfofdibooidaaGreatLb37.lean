/- Merged: Flv. -/
import Derived.Test.YtdlfofdibooidaaGreatLb14
import Derived.Test.YtdlfofdibooidaaGreatLb19
import Derived.Test.YtdlfofdibooidaaGreatLb33
import Derived.Test.YtdlfofdibooidaaGreatLb34
import Derived.Test.YtdlfofdibooidaaGreatLb35
import Derived.Test.YtdlfofdibooidaaGreatLb36

/- The law on leaving: a surrender value is never more than the reserve, and a paid-up sum is paid for by it. (Written by wip/gen/flv.py.) -/
namespace Go.Proofs.YtdlfofdibooidaaGreat
open Go.ChangeShapes Go.WideShapes Go.ChangeAt Go.RowKit
set_option linter.unusedVariables false

set_option maxRecDepth 2000000 in
set_option maxHeartbeats 16000000 in
theorem fnLeaving_walk (a0 : Option Addr) (len0 cap0 : Nat) (z0 : List Int) (w : World) (w0 : IsRow .u8 w a0 len0 cap0 z0) :
    Calls Tryz.prog 3 #[.slice a0 len0 cap0] w fun e w' => e = .returned (.bool true) ∧ Below w.heap.size w w' := by
  by_cases hbig : 4096 < (len0 : Int)
  · go_enter Tryz.func3, Tryz.ntmps3
    go_wp2_with (go_at_call 11; refine (big2_any _ _ _ _).mono ?_; rintro e w' ⟨rfl, rfl⟩)
    go_ret
    exact ⟨rfl, Below.refl _ _⟩
  · have HW0 := Lib.hid w0
    have HB := Lib.hid (Below.refl w.heap.size w)
    clear w0
    go_enter Tryz.func3, Tryz.ntmps3
    go_wp2_with (go_at_call 11; refine (big2_any _ _ _ _).mono ?_; rintro e w' ⟨rfl, rfl⟩)
    refine (drawPU a0 len0 cap0 z0 _ (HW0.out.below HB.out HW0.out.apart)).mono ?_
    rintro e w1 ⟨F1, ta1, tn1, tc1, xs1, r1, k1, x1, n1, s1, u1, j1, rfl, hI, htc, -, hb⟩
    have hbx := (box_b w1 (.cells #[.int .i64 F1, .slice ta1 tn1 tc1, .int .i64 r1] 28)).trans ((box_b (w1.alloc (.cells #[.int .i64 F1, .slice ta1 tn1 tc1, .int .i64 r1] 28)) (.cells #[.int .i64 k1, .int .i64 x1, .int .i64 n1, .int .i64 s1, .int .i64 u1] 30)).mono (by simp))
    have HQ1 : Hid (LB w w1.heap.size (w1.heap.size + 1) F1 ta1 tn1 tc1 xs1 r1 k1 x1 n1 s1 u1 ((w1.alloc (.cells #[.int .i64 F1, .slice ta1 tn1 tc1, .int .i64 r1] 28)).alloc (.cells #[.int .i64 k1, .int .i64 x1, .int .i64 n1, .int .i64 s1, .int .i64 u1] 30))) := Lib.hid (LB.new _ _ _ _ _ _ _ _ _ _ _ hI htc (HB.out.trans (hb.mono HB.out.size)))
    have HB := Lib.hid HQ1.out.low
    clear hb hbx hI htc
    go_wp2_with fail
    obtain ⟨V1, hV⟩ : ∃ y_, (w1.alloc (.cells #[.int .i64 F1, .slice ta1 tn1 tc1, .int .i64 r1] 28)).alloc (.cells #[.int .i64 k1, .int .i64 x1, .int .i64 n1, .int .i64 s1, .int .i64 u1] 30) = y_ := ⟨_, rfl⟩
    obtain ⟨X1, hX⟩ : ∃ y_, w1.heap.size = y_ := ⟨_, rfl⟩
    obtain ⟨Y1, hY⟩ : ∃ y_, X1 + 1 = y_ := ⟨_, rfl⟩
    rw [hV, hX, hY] at HQ1
    rw [hV] at HB 
    (try rw [hV])
    (try rw [hX])
    (try rw [hY])
    clear hV hX hY
    have IPU : Hid (∀ W, LB w X1 Y1 F1 ta1 tn1 tc1 xs1 r1 k1 x1 n1 s1 u1 W → Calls Tryz.prog 13 #[.agg #[.int .i64 F1, .slice ta1 tn1 tc1, .int .i64 r1], .agg #[.int .i64 k1, .int .i64 x1, .int .i64 n1, .int .i64 s1, .int .i64 u1], .int .i64 j1] W (IIPost (lvV (lvE r1 F1 xs1 k1 x1 n1 s1 u1 j1) (puN r1 F1 xs1 k1 x1 n1 s1 j1)) (lvE r1 F1 xs1 k1 x1 n1 s1 u1 j1) W)) := Lib.hid (fun W hW => ipu_any r1 F1 xs1 ta1 tn1 tc1 k1 x1 n1 s1 u1 j1 W hW.ints hW.le)
    have SPU : Hid (∀ W, LB w X1 Y1 F1 ta1 tn1 tc1 xs1 r1 k1 x1 n1 s1 u1 W → Calls Tryz.prog 14 #[.agg #[.int .i64 F1, .slice ta1 tn1 tc1, .int .i64 r1], .agg #[.int .i64 k1, .int .i64 x1, .int .i64 n1, .int .i64 s1, .int .i64 u1], .int .i64 j1] W (IIPost (lvV (lvE r1 F1 xs1 k1 x1 n1 s1 u1 j1) (puN r1 F1 xs1 k1 x1 n1 s1 j1)) (lvE r1 F1 xs1 k1 x1 n1 s1 u1 j1) W)) := Lib.hid (fun W hW => spu_any r1 F1 xs1 ta1 tn1 tc1 k1 x1 n1 s1 u1 j1 W hW.ints)
    have ISV : Hid (∀ W, LB w X1 Y1 F1 ta1 tn1 tc1 xs1 r1 k1 x1 n1 s1 u1 W → Calls Tryz.prog 15 #[.agg #[.int .i64 F1, .slice ta1 tn1 tc1, .int .i64 r1], .agg #[.int .i64 k1, .int .i64 x1, .int .i64 n1, .int .i64 s1, .int .i64 u1], .int .i64 j1] W (IIPost (lvV (lvE r1 F1 xs1 k1 x1 n1 s1 u1 j1) (lsvN r1 F1 xs1 k1 x1 n1 s1 j1)) (lvE r1 F1 xs1 k1 x1 n1 s1 u1 j1) W)) := Lib.hid (fun W hW => isv12_any r1 F1 xs1 ta1 tn1 tc1 k1 x1 n1 s1 u1 j1 W hW.ints hW.le)
    have SSV : Hid (∀ W, LB w X1 Y1 F1 ta1 tn1 tc1 xs1 r1 k1 x1 n1 s1 u1 W → Calls Tryz.prog 16 #[.agg #[.int .i64 F1, .slice ta1 tn1 tc1, .int .i64 r1], .agg #[.int .i64 k1, .int .i64 x1, .int .i64 n1, .int .i64 s1, .int .i64 u1], .int .i64 j1] W (IIPost (lvV (lvE r1 F1 xs1 k1 x1 n1 s1 u1 j1) (lsvN r1 F1 xs1 k1 x1 n1 s1 j1)) (lvE r1 F1 xs1 k1 x1 n1 s1 u1 j1) W)) := Lib.hid (fun W hW => ssv12_any r1 F1 xs1 ta1 tn1 tc1 k1 x1 n1 s1 u1 j1 W hW.ints)
    have ILS : Hid (∀ W, LB w X1 Y1 F1 ta1 tn1 tc1 xs1 r1 k1 x1 n1 s1 u1 W → Calls Tryz.prog 17 #[.agg #[.int .i64 F1, .slice ta1 tn1 tc1, .int .i64 r1], .agg #[.int .i64 k1, .int .i64 x1, .int .i64 n1, .int .i64 s1, .int .i64 u1], .int .i64 j1] W (IIPost (lvV (lvE r1 F1 xs1 k1 x1 n1 s1 u1 j1) (ktN r1 F1 xs1 k1 x1 n1 s1 j1 - lsvN r1 F1 xs1 k1 x1 n1 s1 j1)) (lvE r1 F1 xs1 k1 x1 n1 s1 u1 j1) W)) := Lib.hid (fun W hW => ils_any r1 F1 xs1 ta1 tn1 tc1 k1 x1 n1 s1 u1 j1 W hW.ints hW.le)
    have SLS : Hid (∀ W, LB w X1 Y1 F1 ta1 tn1 tc1 xs1 r1 k1 x1 n1 s1 u1 W → Calls Tryz.prog 18 #[.agg #[.int .i64 F1, .slice ta1 tn1 tc1, .int .i64 r1], .agg #[.int .i64 k1, .int .i64 x1, .int .i64 n1, .int .i64 s1, .int .i64 u1], .int .i64 j1] W (IIPost (lvV (lvE r1 F1 xs1 k1 x1 n1 s1 u1 j1) (ktN r1 F1 xs1 k1 x1 n1 s1 j1 - lsvN r1 F1 xs1 k1 x1 n1 s1 j1)) (lvE r1 F1 xs1 k1 x1 n1 s1 u1 j1) W)) := Lib.hid (fun W hW => sls_any r1 F1 xs1 ta1 tn1 tc1 k1 x1 n1 s1 u1 j1 W hW.ints)
    have ILL : Hid (∀ W, LB w X1 Y1 F1 ta1 tn1 tc1 xs1 r1 k1 x1 n1 s1 u1 W → Calls Tryz.prog 19 #[.agg #[.int .i64 F1, .slice ta1 tn1 tc1, .int .i64 r1], .agg #[.int .i64 k1, .int .i64 x1, .int .i64 n1, .int .i64 s1, .int .i64 u1], .int .i64 j1] W (IIPost (lvV (lvE r1 F1 xs1 k1 x1 n1 s1 u1 j1) (lsvN r1 F1 xs1 k1 x1 n1 s1 j1 * 800 / 1000)) (lvE r1 F1 xs1 k1 x1 n1 s1 u1 j1) W)) := Lib.hid (fun W hW => ill_any r1 F1 xs1 ta1 tn1 tc1 k1 x1 n1 s1 u1 j1 W hW.ints hW.le)
    have SLL : Hid (∀ W, LB w X1 Y1 F1 ta1 tn1 tc1 xs1 r1 k1 x1 n1 s1 u1 W → Calls Tryz.prog 20 #[.agg #[.int .i64 F1, .slice ta1 tn1 tc1, .int .i64 r1], .agg #[.int .i64 k1, .int .i64 x1, .int .i64 n1, .int .i64 s1, .int .i64 u1], .int .i64 j1] W (IIPost (lvV (lvE r1 F1 xs1 k1 x1 n1 s1 u1 j1) (lsvN r1 F1 xs1 k1 x1 n1 s1 j1 * 800 / 1000)) (lvE r1 F1 xs1 k1 x1 n1 s1 u1 j1) W)) := Lib.hid (fun W hW => sll_any r1 F1 xs1 ta1 tn1 tc1 k1 x1 n1 s1 u1 j1 W hW.ints)
    by_cases he : lvE r1 F1 xs1 k1 x1 n1 s1 u1 j1 = 0
    · obtain ⟨P, V, L, O, eP, eV, eL, eO, p0, p1, s1_, v0, v1, l0, l1, o0, o1, vl, ⟨y0, y1⟩, ⟨n0, n1_⟩, p, a, ep, ea, hpa⟩ := leave_facts he
      rw [eP] at IPU SPU
      rw [eV] at ISV SSV
      rw [eL] at ILS SLS
      rw [eO] at ILL SLL
      rw [he] at IPU SPU ISV SSV ILS SLS ILL SLL
      have IAP : Hid (∀ W, LB w X1 Y1 F1 ta1 tn1 tc1 xs1 r1 k1 x1 n1 s1 u1 W → Calls Tryz.prog 21 #[.agg #[.int .i64 F1, .slice ta1 tn1 tc1], .int .i64 r1, .int .i64 k1, .int .i64 (x1 + j1), .int .i64 (lfN k1 n1 j1), .int .i64 P] W (IIPost p a W)) := Lib.hid (fun W hW => by rw [← ep, ← ea]; exact ipri_any r1 F1 xs1 ta1 tn1 tc1 k1 (x1 + j1) (lfN k1 n1 j1) P W hW.ints hW.le)
      unfold IIPost at IPU SPU ISV SSV ILS SLS ILL SLL IAP
      have HLF : Hid (lfN k1 n1 j1 = if k1 = 0 then 0 else n1 - j1) := Lib.hid rfl
      have q1_ : IntKind.i64.wrap (x1 + j1) = x1 + j1 := IntWalk.i64_in _ (by omega)
      have q2_ : IntKind.i64.wrap (n1 - j1) = n1 - j1 := IntWalk.i64_in _ (by omega)
      have q3_ : IntKind.i64.wrap (1000 * V) = 1000 * V := IntWalk.i64_in _ (by omega)
      have q4_ : IntKind.i64.wrap (V + L) = V + L := IntWalk.i64_in _ (by omega)
      have q5_ : IntKind.i64.wrap (900 * (V + L)) = 900 * (V + L) := IntWalk.i64_in _ (by omega)
      have HPA := Lib.hid hpa
      clear eP eV eL eO ep ea hpa he
      by_cases hP : 0 < P
      · obtain ⟨rfl, hpv⟩ := HPA.out hP
        by_cases hk : k1 = 0
        · have hl := HLF.out
          rw [if_pos hk] at hl
          rw [hl] at IAP
          subst hk
          clear hl
          obtain ⟨ca1, cb1, cc1, da1, db1, dc1, dd1, de1⟩ := lbC HQ1.out
          with_reducible refine (IPU.out _ HQ1.out).mono ?_
          rintro e v0 ⟨rfl, hb⟩
          have HQ1 := Lib.hid (HQ1.out.on hb)
          have HB := Lib.hid (HB.out.trans (hb.mono HB.out.size))
          clear hb ca1 cb1 cc1 da1 db1 dc1 dd1 de1
          obtain ⟨ca1, cb1, cc1, da1, db1, dc1, dd1, de1⟩ := lbC HQ1.out
          go_wp2_with fail
          with_reducible refine (SPU.out _ HQ1.out).mono ?_
          rintro e v1 ⟨rfl, hb⟩
          have HQ1 := Lib.hid (HQ1.out.on hb)
          have HB := Lib.hid (HB.out.trans (hb.mono HB.out.size))
          clear hb ca1 cb1 cc1 da1 db1 dc1 dd1 de1
          obtain ⟨ca1, cb1, cc1, da1, db1, dc1, dd1, de1⟩ := lbC HQ1.out
          go_wp2_with fail
          with_reducible refine (ISV.out _ HQ1.out).mono ?_
          rintro e v2 ⟨rfl, hb⟩
          have HQ1 := Lib.hid (HQ1.out.on hb)
          have HB := Lib.hid (HB.out.trans (hb.mono HB.out.size))
          clear hb ca1 cb1 cc1 da1 db1 dc1 dd1 de1
          obtain ⟨ca1, cb1, cc1, da1, db1, dc1, dd1, de1⟩ := lbC HQ1.out
          go_wp2_with fail
          with_reducible refine (SSV.out _ HQ1.out).mono ?_
          rintro e v3 ⟨rfl, hb⟩
          have HQ1 := Lib.hid (HQ1.out.on hb)
          have HB := Lib.hid (HB.out.trans (hb.mono HB.out.size))
          clear hb ca1 cb1 cc1 da1 db1 dc1 dd1 de1
          obtain ⟨ca1, cb1, cc1, da1, db1, dc1, dd1, de1⟩ := lbC HQ1.out
          go_wp2_with fail
          with_reducible refine (ILS.out _ HQ1.out).mono ?_
          rintro e v4 ⟨rfl, hb⟩
          have HQ1 := Lib.hid (HQ1.out.on hb)
          have HB := Lib.hid (HB.out.trans (hb.mono HB.out.size))
          clear hb ca1 cb1 cc1 da1 db1 dc1 dd1 de1
          obtain ⟨ca1, cb1, cc1, da1, db1, dc1, dd1, de1⟩ := lbC HQ1.out
          go_wp2_with fail
          with_reducible refine (SLS.out _ HQ1.out).mono ?_
          rintro e v5 ⟨rfl, hb⟩
          have HQ1 := Lib.hid (HQ1.out.on hb)
          have HB := Lib.hid (HB.out.trans (hb.mono HB.out.size))
          clear hb ca1 cb1 cc1 da1 db1 dc1 dd1 de1
          obtain ⟨ca1, cb1, cc1, da1, db1, dc1, dd1, de1⟩ := lbC HQ1.out
          go_wp2_with fail
          with_reducible refine (ILL.out _ HQ1.out).mono ?_
          rintro e v6 ⟨rfl, hb⟩
          have HQ1 := Lib.hid (HQ1.out.on hb)
          have HB := Lib.hid (HB.out.trans (hb.mono HB.out.size))
          clear hb ca1 cb1 cc1 da1 db1 dc1 dd1 de1
          obtain ⟨ca1, cb1, cc1, da1, db1, dc1, dd1, de1⟩ := lbC HQ1.out
          go_wp2_with fail
          with_reducible refine (SLL.out _ HQ1.out).mono ?_
          rintro e v7 ⟨rfl, hb⟩
          have HQ1 := Lib.hid (HQ1.out.on hb)
          have HB := Lib.hid (HB.out.trans (hb.mono HB.out.size))
          clear hb ca1 cb1 cc1 da1 db1 dc1 dd1 de1
          obtain ⟨ca1, cb1, cc1, da1, db1, dc1, dd1, de1⟩ := lbC HQ1.out
          go_wp2_with fail
          with_reducible refine (IAP.out _ HQ1.out).mono ?_
          rintro e v9 ⟨rfl, hb⟩
          have HQ1 := Lib.hid (HQ1.out.on hb)
          have HB := Lib.hid (HB.out.trans (hb.mono HB.out.size))
          clear hb ca1 cb1 cc1 da1 db1 dc1 dd1 de1
          obtain ⟨ca1, cb1, cc1, da1, db1, dc1, dd1, de1⟩ := lbC HQ1.out
          go_wp2_with fail
          go_ret
          exact ⟨rfl, HB.out⟩
          
        · have hl := HLF.out
          rw [if_neg hk] at hl
          rw [hl] at IAP
          clear hl
          obtain ⟨ca1, cb1, cc1, da1, db1, dc1, dd1, de1⟩ := lbC HQ1.out
          with_reducible refine (IPU.out _ HQ1.out).mono ?_
          rintro e v0 ⟨rfl, hb⟩
          have HQ1 := Lib.hid (HQ1.out.on hb)
          have HB := Lib.hid (HB.out.trans (hb.mono HB.out.size))
          clear hb ca1 cb1 cc1 da1 db1 dc1 dd1 de1
          obtain ⟨ca1, cb1, cc1, da1, db1, dc1, dd1, de1⟩ := lbC HQ1.out
          go_wp2_with fail
          with_reducible refine (SPU.out _ HQ1.out).mono ?_
          rintro e v1 ⟨rfl, hb⟩
          have HQ1 := Lib.hid (HQ1.out.on hb)
          have HB := Lib.hid (HB.out.trans (hb.mono HB.out.size))
          clear hb ca1 cb1 cc1 da1 db1 dc1 dd1 de1
          obtain ⟨ca1, cb1, cc1, da1, db1, dc1, dd1, de1⟩ := lbC HQ1.out
          go_wp2_with fail
          with_reducible refine (ISV.out _ HQ1.out).mono ?_
          rintro e v2 ⟨rfl, hb⟩
          have HQ1 := Lib.hid (HQ1.out.on hb)
          have HB := Lib.hid (HB.out.trans (hb.mono HB.out.size))
          clear hb ca1 cb1 cc1 da1 db1 dc1 dd1 de1
          obtain ⟨ca1, cb1, cc1, da1, db1, dc1, dd1, de1⟩ := lbC HQ1.out
          go_wp2_with fail
          with_reducible refine (SSV.out _ HQ1.out).mono ?_
          rintro e v3 ⟨rfl, hb⟩
          have HQ1 := Lib.hid (HQ1.out.on hb)
          have HB := Lib.hid (HB.out.trans (hb.mono HB.out.size))
          clear hb ca1 cb1 cc1 da1 db1 dc1 dd1 de1
          obtain ⟨ca1, cb1, cc1, da1, db1, dc1, dd1, de1⟩ := lbC HQ1.out
          go_wp2_with fail
          with_reducible refine (ILS.out _ HQ1.out).mono ?_
          rintro e v4 ⟨rfl, hb⟩
          have HQ1 := Lib.hid (HQ1.out.on hb)
          have HB := Lib.hid (HB.out.trans (hb.mono HB.out.size))
          clear hb ca1 cb1 cc1 da1 db1 dc1 dd1 de1
          obtain ⟨ca1, cb1, cc1, da1, db1, dc1, dd1, de1⟩ := lbC HQ1.out
          go_wp2_with fail
          with_reducible refine (SLS.out _ HQ1.out).mono ?_
          rintro e v5 ⟨rfl, hb⟩
          have HQ1 := Lib.hid (HQ1.out.on hb)
          have HB := Lib.hid (HB.out.trans (hb.mono HB.out.size))
          clear hb ca1 cb1 cc1 da1 db1 dc1 dd1 de1
          obtain ⟨ca1, cb1, cc1, da1, db1, dc1, dd1, de1⟩ := lbC HQ1.out
          go_wp2_with fail
          with_reducible refine (ILL.out _ HQ1.out).mono ?_
          rintro e v6 ⟨rfl, hb⟩
          have HQ1 := Lib.hid (HQ1.out.on hb)
          have HB := Lib.hid (HB.out.trans (hb.mono HB.out.size))
          clear hb ca1 cb1 cc1 da1 db1 dc1 dd1 de1
          obtain ⟨ca1, cb1, cc1, da1, db1, dc1, dd1, de1⟩ := lbC HQ1.out
          go_wp2_with fail
          with_reducible refine (SLL.out _ HQ1.out).mono ?_
          rintro e v7 ⟨rfl, hb⟩
          have HQ1 := Lib.hid (HQ1.out.on hb)
          have HB := Lib.hid (HB.out.trans (hb.mono HB.out.size))
          clear hb ca1 cb1 cc1 da1 db1 dc1 dd1 de1
          obtain ⟨ca1, cb1, cc1, da1, db1, dc1, dd1, de1⟩ := lbC HQ1.out
          go_wp2_with fail
          with_reducible refine (IAP.out _ HQ1.out).mono ?_
          rintro e v9 ⟨rfl, hb⟩
          have HQ1 := Lib.hid (HQ1.out.on hb)
          have HB := Lib.hid (HB.out.trans (hb.mono HB.out.size))
          clear hb ca1 cb1 cc1 da1 db1 dc1 dd1 de1
          obtain ⟨ca1, cb1, cc1, da1, db1, dc1, dd1, de1⟩ := lbC HQ1.out
          go_wp2_with fail
          go_ret
          exact ⟨rfl, HB.out⟩
          
      · by_cases hk : k1 = 0
        · subst hk
          obtain ⟨ca1, cb1, cc1, da1, db1, dc1, dd1, de1⟩ := lbC HQ1.out
          with_reducible refine (IPU.out _ HQ1.out).mono ?_
          rintro e v0 ⟨rfl, hb⟩
          have HQ1 := Lib.hid (HQ1.out.on hb)
          have HB := Lib.hid (HB.out.trans (hb.mono HB.out.size))
          clear hb ca1 cb1 cc1 da1 db1 dc1 dd1 de1
          obtain ⟨ca1, cb1, cc1, da1, db1, dc1, dd1, de1⟩ := lbC HQ1.out
          go_wp2_with fail
          with_reducible refine (SPU.out _ HQ1.out).mono ?_
          rintro e v1 ⟨rfl, hb⟩
          have HQ1 := Lib.hid (HQ1.out.on hb)
          have HB := Lib.hid (HB.out.trans (hb.mono HB.out.size))
          clear hb ca1 cb1 cc1 da1 db1 dc1 dd1 de1
          obtain ⟨ca1, cb1, cc1, da1, db1, dc1, dd1, de1⟩ := lbC HQ1.out
          go_wp2_with fail
          with_reducible refine (ISV.out _ HQ1.out).mono ?_
          rintro e v2 ⟨rfl, hb⟩
          have HQ1 := Lib.hid (HQ1.out.on hb)
          have HB := Lib.hid (HB.out.trans (hb.mono HB.out.size))
          clear hb ca1 cb1 cc1 da1 db1 dc1 dd1 de1
          obtain ⟨ca1, cb1, cc1, da1, db1, dc1, dd1, de1⟩ := lbC HQ1.out
          go_wp2_with fail
          with_reducible refine (SSV.out _ HQ1.out).mono ?_
          rintro e v3 ⟨rfl, hb⟩
          have HQ1 := Lib.hid (HQ1.out.on hb)
          have HB := Lib.hid (HB.out.trans (hb.mono HB.out.size))
          clear hb ca1 cb1 cc1 da1 db1 dc1 dd1 de1
          obtain ⟨ca1, cb1, cc1, da1, db1, dc1, dd1, de1⟩ := lbC HQ1.out
          go_wp2_with fail
          with_reducible refine (ILS.out _ HQ1.out).mono ?_
          rintro e v4 ⟨rfl, hb⟩
          have HQ1 := Lib.hid (HQ1.out.on hb)
          have HB := Lib.hid (HB.out.trans (hb.mono HB.out.size))
          clear hb ca1 cb1 cc1 da1 db1 dc1 dd1 de1
          obtain ⟨ca1, cb1, cc1, da1, db1, dc1, dd1, de1⟩ := lbC HQ1.out
          go_wp2_with fail
          with_reducible refine (SLS.out _ HQ1.out).mono ?_
          rintro e v5 ⟨rfl, hb⟩
          have HQ1 := Lib.hid (HQ1.out.on hb)
          have HB := Lib.hid (HB.out.trans (hb.mono HB.out.size))
          clear hb ca1 cb1 cc1 da1 db1 dc1 dd1 de1
          obtain ⟨ca1, cb1, cc1, da1, db1, dc1, dd1, de1⟩ := lbC HQ1.out
          go_wp2_with fail
          with_reducible refine (ILL.out _ HQ1.out).mono ?_
          rintro e v6 ⟨rfl, hb⟩
          have HQ1 := Lib.hid (HQ1.out.on hb)
          have HB := Lib.hid (HB.out.trans (hb.mono HB.out.size))
          clear hb ca1 cb1 cc1 da1 db1 dc1 dd1 de1
          obtain ⟨ca1, cb1, cc1, da1, db1, dc1, dd1, de1⟩ := lbC HQ1.out
          go_wp2_with fail
          with_reducible refine (SLL.out _ HQ1.out).mono ?_
          rintro e v7 ⟨rfl, hb⟩
          have HQ1 := Lib.hid (HQ1.out.on hb)
          have HB := Lib.hid (HB.out.trans (hb.mono HB.out.size))
          clear hb ca1 cb1 cc1 da1 db1 dc1 dd1 de1
          obtain ⟨ca1, cb1, cc1, da1, db1, dc1, dd1, de1⟩ := lbC HQ1.out
          go_wp2_with fail
          go_ret
          exact ⟨rfl, HB.out⟩
          
        · obtain ⟨ca1, cb1, cc1, da1, db1, dc1, dd1, de1⟩ := lbC HQ1.out
          with_reducible refine (IPU.out _ HQ1.out).mono ?_
          rintro e v0 ⟨rfl, hb⟩
          have HQ1 := Lib.hid (HQ1.out.on hb)
          have HB := Lib.hid (HB.out.trans (hb.mono HB.out.size))
          clear hb ca1 cb1 cc1 da1 db1 dc1 dd1 de1
          obtain ⟨ca1, cb1, cc1, da1, db1, dc1, dd1, de1⟩ := lbC HQ1.out
          go_wp2_with fail
          with_reducible refine (SPU.out _ HQ1.out).mono ?_
          rintro e v1 ⟨rfl, hb⟩
          have HQ1 := Lib.hid (HQ1.out.on hb)
          have HB := Lib.hid (HB.out.trans (hb.mono HB.out.size))
          clear hb ca1 cb1 cc1 da1 db1 dc1 dd1 de1
          obtain ⟨ca1, cb1, cc1, da1, db1, dc1, dd1, de1⟩ := lbC HQ1.out
          go_wp2_with fail
          with_reducible refine (ISV.out _ HQ1.out).mono ?_
          rintro e v2 ⟨rfl, hb⟩
          have HQ1 := Lib.hid (HQ1.out.on hb)
          have HB := Lib.hid (HB.out.trans (hb.mono HB.out.size))
          clear hb ca1 cb1 cc1 da1 db1 dc1 dd1 de1
          obtain ⟨ca1, cb1, cc1, da1, db1, dc1, dd1, de1⟩ := lbC HQ1.out
          go_wp2_with fail
          with_reducible refine (SSV.out _ HQ1.out).mono ?_
          rintro e v3 ⟨rfl, hb⟩
          have HQ1 := Lib.hid (HQ1.out.on hb)
          have HB := Lib.hid (HB.out.trans (hb.mono HB.out.size))
          clear hb ca1 cb1 cc1 da1 db1 dc1 dd1 de1
          obtain ⟨ca1, cb1, cc1, da1, db1, dc1, dd1, de1⟩ := lbC HQ1.out
          go_wp2_with fail
          with_reducible refine (ILS.out _ HQ1.out).mono ?_
          rintro e v4 ⟨rfl, hb⟩
          have HQ1 := Lib.hid (HQ1.out.on hb)
          have HB := Lib.hid (HB.out.trans (hb.mono HB.out.size))
          clear hb ca1 cb1 cc1 da1 db1 dc1 dd1 de1
          obtain ⟨ca1, cb1, cc1, da1, db1, dc1, dd1, de1⟩ := lbC HQ1.out
          go_wp2_with fail
          with_reducible refine (SLS.out _ HQ1.out).mono ?_
          rintro e v5 ⟨rfl, hb⟩
          have HQ1 := Lib.hid (HQ1.out.on hb)
          have HB := Lib.hid (HB.out.trans (hb.mono HB.out.size))
          clear hb ca1 cb1 cc1 da1 db1 dc1 dd1 de1
          obtain ⟨ca1, cb1, cc1, da1, db1, dc1, dd1, de1⟩ := lbC HQ1.out
          go_wp2_with fail
          with_reducible refine (ILL.out _ HQ1.out).mono ?_
          rintro e v6 ⟨rfl, hb⟩
          have HQ1 := Lib.hid (HQ1.out.on hb)
          have HB := Lib.hid (HB.out.trans (hb.mono HB.out.size))
          clear hb ca1 cb1 cc1 da1 db1 dc1 dd1 de1
          obtain ⟨ca1, cb1, cc1, da1, db1, dc1, dd1, de1⟩ := lbC HQ1.out
          go_wp2_with fail
          with_reducible refine (SLL.out _ HQ1.out).mono ?_
          rintro e v7 ⟨rfl, hb⟩
          have HQ1 := Lib.hid (HQ1.out.on hb)
          have HB := Lib.hid (HB.out.trans (hb.mono HB.out.size))
          clear hb ca1 cb1 cc1 da1 db1 dc1 dd1 de1
          obtain ⟨ca1, cb1, cc1, da1, db1, dc1, dd1, de1⟩ := lbC HQ1.out
          go_wp2_with fail
          go_ret
          exact ⟨rfl, HB.out⟩
    · rw [lvV_no he] at IPU SPU
      rw [lvV_no he] at ISV SSV
      rw [lvV_no he] at ILS SLS
      rw [lvV_no he] at ILL SLL
      obtain ⟨E, hE⟩ : ∃ y_, lvE r1 F1 xs1 k1 x1 n1 s1 u1 j1 = y_ := ⟨_, rfl⟩
      rw [hE] at he IPU SPU ISV SSV ILS SLS ILL SLL
      unfold IIPost at IPU SPU ISV SSV ILS SLS ILL SLL
      have hb2 : (E != 0) = true := by simp [he]
      clear hE
      obtain ⟨ca1, cb1, cc1, da1, db1, dc1, dd1, de1⟩ := lbC HQ1.out
      with_reducible refine (IPU.out _ HQ1.out).mono ?_
      rintro e v0 ⟨rfl, hb⟩
      have HQ1 := Lib.hid (HQ1.out.on hb)
      have HB := Lib.hid (HB.out.trans (hb.mono HB.out.size))
      clear hb ca1 cb1 cc1 da1 db1 dc1 dd1 de1
      obtain ⟨ca1, cb1, cc1, da1, db1, dc1, dd1, de1⟩ := lbC HQ1.out
      go_wp2_with fail
      with_reducible refine (SPU.out _ HQ1.out).mono ?_
      rintro e v1 ⟨rfl, hb⟩
      have HQ1 := Lib.hid (HQ1.out.on hb)
      have HB := Lib.hid (HB.out.trans (hb.mono HB.out.size))
      clear hb ca1 cb1 cc1 da1 db1 dc1 dd1 de1
      obtain ⟨ca1, cb1, cc1, da1, db1, dc1, dd1, de1⟩ := lbC HQ1.out
      go_wp2_with fail
      with_reducible refine (ISV.out _ HQ1.out).mono ?_
      rintro e v2 ⟨rfl, hb⟩
      have HQ1 := Lib.hid (HQ1.out.on hb)
      have HB := Lib.hid (HB.out.trans (hb.mono HB.out.size))
      clear hb ca1 cb1 cc1 da1 db1 dc1 dd1 de1
      obtain ⟨ca1, cb1, cc1, da1, db1, dc1, dd1, de1⟩ := lbC HQ1.out
      go_wp2_with fail
      with_reducible refine (SSV.out _ HQ1.out).mono ?_
      rintro e v3 ⟨rfl, hb⟩
      have HQ1 := Lib.hid (HQ1.out.on hb)
      have HB := Lib.hid (HB.out.trans (hb.mono HB.out.size))
      clear hb ca1 cb1 cc1 da1 db1 dc1 dd1 de1
      obtain ⟨ca1, cb1, cc1, da1, db1, dc1, dd1, de1⟩ := lbC HQ1.out
      go_wp2_with fail
      with_reducible refine (ILS.out _ HQ1.out).mono ?_
      rintro e v4 ⟨rfl, hb⟩
      have HQ1 := Lib.hid (HQ1.out.on hb)
      have HB := Lib.hid (HB.out.trans (hb.mono HB.out.size))
      clear hb ca1 cb1 cc1 da1 db1 dc1 dd1 de1
      obtain ⟨ca1, cb1, cc1, da1, db1, dc1, dd1, de1⟩ := lbC HQ1.out
      go_wp2_with fail
      with_reducible refine (SLS.out _ HQ1.out).mono ?_
      rintro e v5 ⟨rfl, hb⟩
      have HQ1 := Lib.hid (HQ1.out.on hb)
      have HB := Lib.hid (HB.out.trans (hb.mono HB.out.size))
      clear hb ca1 cb1 cc1 da1 db1 dc1 dd1 de1
      obtain ⟨ca1, cb1, cc1, da1, db1, dc1, dd1, de1⟩ := lbC HQ1.out
      go_wp2_with fail
      with_reducible refine (ILL.out _ HQ1.out).mono ?_
      rintro e v6 ⟨rfl, hb⟩
      have HQ1 := Lib.hid (HQ1.out.on hb)
      have HB := Lib.hid (HB.out.trans (hb.mono HB.out.size))
      clear hb ca1 cb1 cc1 da1 db1 dc1 dd1 de1
      obtain ⟨ca1, cb1, cc1, da1, db1, dc1, dd1, de1⟩ := lbC HQ1.out
      go_wp2_with fail
      with_reducible refine (SLL.out _ HQ1.out).mono ?_
      rintro e v7 ⟨rfl, hb⟩
      have HQ1 := Lib.hid (HQ1.out.on hb)
      have HB := Lib.hid (HB.out.trans (hb.mono HB.out.size))
      clear hb ca1 cb1 cc1 da1 db1 dc1 dd1 de1
      go_wp2_with fail
      go_ret
      exact ⟨rfl, HB.out⟩

end Go.Proofs.YtdlfofdibooidaaGreat
