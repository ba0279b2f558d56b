/- Merged: Frl. -/
import Derived.Test.YtnclncglmnbelaaGreatRl19
import Derived.Test.YtnclncglmnbelaaGreatRl32
import Derived.Test.YtnclncglmnbelaaGreatRl33

/- The law on lists of reserves: each is the forward reserve, rounded up and at least 0; risks are what they leave. (Written by wip/gen/frl.py.) -/
namespace Go.Proofs.YtnclncglmnbelaaGreat
open Go.ChangeShapes Go.WideShapes Go.ChangeAt Go.RowKit
set_option linter.unusedVariables false

/-- what the law keeps of a basis and a policy -/
structure LB (w : World) (X Y : Nat) (F : Int) (ta : Option Addr) (tn tc : Nat) (xs : List Int) (r k x n s u : Int) (W : World) : Prop where
  b : Bx W X [.int .i64 F, .slice ta tn tc, .int .i64 r]
  p : Bx W Y [.int .i64 k, .int .i64 x, .int .i64 n, .int .i64 s, .int .i64 u]
  ints : Ints W ta tn xs
  low : Below w.heap.size w W
  le : tn ≤ tc

theorem LB.on {w : World} {X Y : Nat} {F : Int} {ta : Option Addr} {tn tc : Nat} {xs : List Int} {r k x n s u : Int} {W W' : World} (h : LB w X Y F ta tn tc xs r k x n s u W) (hb : Below W.heap.size W W') : LB w X Y F ta tn tc xs r k x n s u W' := ⟨h.b.on hb, h.p.on hb, h.ints.on hb, h.low.trans (hb.mono h.low.size), h.le⟩

theorem LB.new {w w1 : World} (F : Int) (ta : Option Addr) (tn tc : Nat) (xs : List Int) (r k x n s u : Int) (hI : Ints w1 ta tn xs) (hl : tn ≤ tc) (hb : Below w.heap.size w w1) : LB w w1.heap.size (w1.heap.size + 1) F ta tn tc xs r k x n s u ((w1.alloc (.cells #[.int .i64 F, .slice ta tn tc, .int .i64 r] 28)).alloc (.cells #[.int .i64 k, .int .i64 x, .int .i64 n, .int .i64 s, .int .i64 u] 30)) := by
  have q1 := box_b w1 (.cells #[.int .i64 F, .slice ta tn tc, .int .i64 r] 28)
  have q2 := box_b (w1.alloc (.cells #[.int .i64 F, .slice ta tn tc, .int .i64 r] 28)) (.cells #[.int .i64 k, .int .i64 x, .int .i64 n, .int .i64 s, .int .i64 u] 30)
  have y := Bx.new (w1.alloc (.cells #[.int .i64 F, .slice ta tn tc, .int .i64 r] 28)) [.int .i64 k, .int .i64 x, .int .i64 n, .int .i64 s, .int .i64 u] 30
  rw [World.size_alloc] at y
  exact ⟨(Bx.new w1 [.int .i64 F, .slice ta tn tc, .int .i64 r] 28).on q2, y, (hI.on q1).on q2, (hb.trans (q1.mono hb.size)).trans (q2.mono (by have := hb.size; simp; omega)), hl⟩

theorem lbC {w : World} {X Y : Nat} {F : Int} {ta : Option Addr} {tn tc : Nat} {xs : List Int} {r k x n s u : Int} {W : World} (h : LB w X Y F ta tn tc xs r k x n s u W) :
    W.cell? ⟨X, 0, none⟩ = some (.int .i64 F) ∧ W.cell? ⟨X, 1, none⟩ = some (.slice ta tn tc) ∧ W.cell? ⟨X, 2, none⟩ = some (.int .i64 r) ∧ W.cell? ⟨Y, 0, none⟩ = some (.int .i64 k) ∧ W.cell? ⟨Y, 1, none⟩ = some (.int .i64 x) ∧ W.cell? ⟨Y, 2, none⟩ = some (.int .i64 n) ∧ W.cell? ⟨Y, 3, none⟩ = some (.int .i64 s) ∧ W.cell? ⟨Y, 4, none⟩ = some (.int .i64 u) := by
  obtain ⟨c0, c1, c2⟩ := h.b.three0
  obtain ⟨d0, d1, d2, d3, d4⟩ := h.p.five9
  exact ⟨c0, c1, c2, d0, d1, d2, d3, d4⟩

set_option maxRecDepth 2000000 in
set_option maxHeartbeats 16000000 in
theorem fnReserveLists_walk (a0 : Option Addr) (len0 cap0 : Nat) (z0 : List Int) (w : World) (w0 : IsRow .u8 w a0 len0 cap0 z0) :
    Calls Tryz.prog 3 #[.slice a0 len0 cap0] w fun e w' => e = .returned (.bool true) ∧ Below w.heap.size w w' := by
  by_cases hbig : 4096 < (len0 : Int)
  · go_enter Tryz.func3, Tryz.ntmps3
    go_wp2_with (go_at_call 10; refine (big2_any _ _ _ _).mono ?_; rintro e w' ⟨rfl, rfl⟩)
    go_ret
    exact ⟨rfl, Below.refl _ _⟩
  · have HW0 := Lib.hid w0
    have HB := Lib.hid (Below.refl w.heap.size w)
    clear w0
    go_enter Tryz.func3, Tryz.ntmps3
    go_wp2_with (go_at_call 10; refine (big2_any _ _ _ _).mono ?_; rintro e w' ⟨rfl, rfl⟩)
    refine (drawRL a0 len0 cap0 z0 _ (HW0.out.below HB.out HW0.out.apart)).mono ?_
    rintro e w1 ⟨F1, ta1, tn1, tc1, xs1, r1, k1, x1, n1, s1, u1, rfl, hI, htc, -, hb⟩
    have hbx := (box_b w1 (.cells #[.int .i64 F1, .slice ta1 tn1 tc1, .int .i64 r1] 28)).trans ((box_b (w1.alloc (.cells #[.int .i64 F1, .slice ta1 tn1 tc1, .int .i64 r1] 28)) (.cells #[.int .i64 k1, .int .i64 x1, .int .i64 n1, .int .i64 s1, .int .i64 u1] 30)).mono (by simp))
    have HQ1 : Hid (LB w w1.heap.size (w1.heap.size + 1) F1 ta1 tn1 tc1 xs1 r1 k1 x1 n1 s1 u1 ((w1.alloc (.cells #[.int .i64 F1, .slice ta1 tn1 tc1, .int .i64 r1] 28)).alloc (.cells #[.int .i64 k1, .int .i64 x1, .int .i64 n1, .int .i64 s1, .int .i64 u1] 30))) := Lib.hid (LB.new _ _ _ _ _ _ _ _ _ _ _ hI htc (HB.out.trans (hb.mono HB.out.size)))
    have HB := Lib.hid HQ1.out.low
    clear hb hbx hI htc
    go_wp2_with fail
    obtain ⟨V1, hV⟩ : ∃ y_, (w1.alloc (.cells #[.int .i64 F1, .slice ta1 tn1 tc1, .int .i64 r1] 28)).alloc (.cells #[.int .i64 k1, .int .i64 x1, .int .i64 n1, .int .i64 s1, .int .i64 u1] 30) = y_ := ⟨_, rfl⟩
    obtain ⟨X1, hX⟩ : ∃ y_, w1.heap.size = y_ := ⟨_, rfl⟩
    obtain ⟨Y1, hY⟩ : ∃ y_, X1 + 1 = y_ := ⟨_, rfl⟩
    rw [hV, hX, hY] at HQ1
    rw [hV] at HB
    (try rw [hV])
    (try rw [hX])
    (try rw [hY])
    clear hV hX hY
    have IR : Hid (∀ W, LB w X1 Y1 F1 ta1 tn1 tc1 xs1 r1 k1 x1 n1 s1 u1 W → Calls Tryz.prog 12 #[.agg #[.int .i64 F1, .slice ta1 tn1 tc1, .int .i64 r1], .agg #[.int .i64 k1, .int .i64 x1, .int .i64 n1, .int .i64 s1, .int .i64 u1]] W (LsPost (rlY r1 F1 xs1 k1 x1 n1 s1 u1) (rlE r1 F1 xs1 k1 x1 n1 s1 u1) W)) := Lib.hid (fun W hW => irl_any r1 F1 xs1 ta1 tn1 tc1 k1 x1 n1 s1 u1 W hW.ints hW.le)
    have SR : Hid (∀ W, LB w X1 Y1 F1 ta1 tn1 tc1 xs1 r1 k1 x1 n1 s1 u1 W → Calls Tryz.prog 13 #[.agg #[.int .i64 F1, .slice ta1 tn1 tc1, .int .i64 r1], .agg #[.int .i64 k1, .int .i64 x1, .int .i64 n1, .int .i64 s1, .int .i64 u1]] W (LsPost (rlY r1 F1 xs1 k1 x1 n1 s1 u1) (rlE r1 F1 xs1 k1 x1 n1 s1 u1) W)) := Lib.hid (fun W hW => srl_any r1 F1 xs1 ta1 tn1 tc1 k1 x1 n1 s1 u1 W hW.ints)
    have IG : Hid (∀ W, LB w X1 Y1 F1 ta1 tn1 tc1 xs1 r1 k1 x1 n1 s1 u1 W → Calls Tryz.prog 14 #[.agg #[.int .i64 F1, .slice ta1 tn1 tc1, .int .i64 r1], .agg #[.int .i64 k1, .int .i64 x1, .int .i64 n1, .int .i64 s1, .int .i64 u1]] W (IIIPost (grV r1 F1 xs1 k1 x1 n1 s1 u1) (grI r1 F1 xs1 k1 x1 n1 s1 u1) (rlE r1 F1 xs1 k1 x1 n1 s1 u1) W)) := Lib.hid (fun W hW => igr_any r1 F1 xs1 ta1 tn1 tc1 k1 x1 n1 s1 u1 W hW.ints hW.le)
    have SG : Hid (∀ W, LB w X1 Y1 F1 ta1 tn1 tc1 xs1 r1 k1 x1 n1 s1 u1 W → Calls Tryz.prog 15 #[.agg #[.int .i64 F1, .slice ta1 tn1 tc1, .int .i64 r1], .agg #[.int .i64 k1, .int .i64 x1, .int .i64 n1, .int .i64 s1, .int .i64 u1]] W (IIIPost (grV r1 F1 xs1 k1 x1 n1 s1 u1) (grI r1 F1 xs1 k1 x1 n1 s1 u1) (rlE r1 F1 xs1 k1 x1 n1 s1 u1) W)) := Lib.hid (fun W hW => sgr_any r1 F1 xs1 ta1 tn1 tc1 k1 x1 n1 s1 u1 W hW.ints)
    unfold LsPost at IR SR
    unfold IIIPost at IG SG
    obtain ⟨ca1, cb1, cc1, da1, db1, dc1, dd1, de1⟩ := lbC HQ1.out
    by_cases he : rlE r1 F1 xs1 k1 x1 n1 s1 u1 = 0
    · have HOK := Lib.hid (rl_ok he)
      have HGR : Hid (grV r1 F1 xs1 k1 x1 n1 s1 u1 = rlF r1 F1 xs1 k1 x1 n1 s1 (gmI (rlF r1 F1 xs1 k1 x1 n1 s1) (durN F1 xs1 k1 x1 n1).toNat) ∧ grI r1 F1 xs1 k1 x1 n1 s1 u1 = (gmI (rlF r1 F1 xs1 k1 x1 n1 s1) (durN F1 xs1 k1 x1 n1).toNat : Nat)) := Lib.hid (by unfold grV grI; rw [if_pos he, if_pos he]; exact ⟨rfl, rfl⟩)
      rw [he] at IR SR IG SG
      obtain ⟨Y, hYY⟩ : ∃ y_, rlY r1 F1 xs1 k1 x1 n1 s1 u1 = y_ := ⟨_, rfl⟩
      obtain ⟨GV, hGV⟩ : ∃ y_, grV r1 F1 xs1 k1 x1 n1 s1 u1 = y_ := ⟨_, rfl⟩
      obtain ⟨GI, hGI⟩ : ∃ y_, grI r1 F1 xs1 k1 x1 n1 s1 u1 = y_ := ⟨_, rfl⟩
      rw [hYY] at IR SR HOK
      rw [hGV, hGI] at IG SG HGR
      have IF : Hid (∀ (j : Nat) W, LB w X1 Y1 F1 ta1 tn1 tc1 xs1 r1 k1 x1 n1 s1 u1 W → Calls Tryz.prog 23 #[.agg #[.int .i64 F1, .slice ta1 tn1 tc1, .int .i64 r1], .agg #[.int .i64 k1, .int .i64 x1, .int .i64 n1, .int .i64 s1, .int .i64 u1], .int .i64 j] W (IIIPost (qdV (rvE r1 F1 xs1 k1 x1 n1 s1 u1 j) (fwN r1 F1 xs1 k1 x1 n1 s1 j) (dvN r1 F1 xs1 x1 j)) (rdV (rvE r1 F1 xs1 k1 x1 n1 s1 u1 j) (fwN r1 F1 xs1 k1 x1 n1 s1 j) (dvN r1 F1 xs1 x1 j)) (rvE r1 F1 xs1 k1 x1 n1 s1 u1 j) W)) := Lib.hid (fun j W hW => ifr_any r1 F1 xs1 ta1 tn1 tc1 k1 x1 n1 s1 u1 j W hW.ints hW.le)
      clear hYY hGV hGI he
      with_reducible refine (IR.out _ HQ1.out).mono ?_
      rintro e v1 ⟨ga, gn, gc, rfl, hT, hb⟩
      have HQ1 := Lib.hid (HQ1.out.on hb)
      have HB := Lib.hid (HB.out.trans (hb.mono HB.out.size))
      have HG := Lib.hid hT.ints
      clear hT
      clear hb ca1 cb1 cc1 da1 db1 dc1 dd1 de1
      obtain ⟨ca1, cb1, cc1, da1, db1, dc1, dd1, de1⟩ := lbC HQ1.out
      go_wp2_with fail
      with_reducible refine (SR.out _ HQ1.out).mono ?_
      rintro e v2 ⟨ma, mn, mc, rfl, hT, hb⟩
      have HQ1 := Lib.hid (HQ1.out.on hb)
      have HG := Lib.hid (HG.out.step hb)
      have HB := Lib.hid (HB.out.trans (hb.mono HB.out.size))
      have HM := Lib.hid hT.ints
      clear hT
      clear hb ca1 cb1 cc1 da1 db1 dc1 dd1 de1
      obtain ⟨ca1, cb1, cc1, da1, db1, dc1, dd1, de1⟩ := lbC HQ1.out
      go_wp2_with fail
      with_reducible refine (IG.out _ HQ1.out).mono ?_
      rintro e v3 ⟨rfl, hb⟩
      have HQ1 := Lib.hid (HQ1.out.on hb)
      have HG := Lib.hid (HG.out.step hb)
      have HM := Lib.hid (HM.out.step hb)
      have HB := Lib.hid (HB.out.trans (hb.mono HB.out.size))
      clear hb ca1 cb1 cc1 da1 db1 dc1 dd1 de1
      obtain ⟨ca1, cb1, cc1, da1, db1, dc1, dd1, de1⟩ := lbC HQ1.out
      go_wp2_with fail
      with_reducible refine (SG.out _ HQ1.out).mono ?_
      rintro e v4 ⟨rfl, hb⟩
      have HQ1 := Lib.hid (HQ1.out.on hb)
      have HG := Lib.hid (HG.out.step hb)
      have HM := Lib.hid (HM.out.step hb)
      have HB := Lib.hid (HB.out.trans (hb.mono HB.out.size))
      clear hb ca1 cb1 cc1 da1 db1 dc1 dd1 de1
      go_wp2_with fail
      refine (drawRK a0 len0 cap0 z0 _ (HW0.out.below HB.out HW0.out.apart)).mono ?_
      rintro e w2 ⟨F2, ta2, tn2, tc2, xs2, r2, k2, x2, n2, s2, u2, j2, rfl, hI, htc, -, hb⟩
      have hbx := (box_b w2 (.cells #[.int .i64 F2, .slice ta2 tn2 tc2, .int .i64 r2] 28)).trans ((box_b (w2.alloc (.cells #[.int .i64 F2, .slice ta2 tn2 tc2, .int .i64 r2] 28)) (.cells #[.int .i64 k2, .int .i64 x2, .int .i64 n2, .int .i64 s2, .int .i64 u2] 30)).mono (by simp))
      have HQ2 : Hid (LB w w2.heap.size (w2.heap.size + 1) F2 ta2 tn2 tc2 xs2 r2 k2 x2 n2 s2 u2 ((w2.alloc (.cells #[.int .i64 F2, .slice ta2 tn2 tc2, .int .i64 r2] 28)).alloc (.cells #[.int .i64 k2, .int .i64 x2, .int .i64 n2, .int .i64 s2, .int .i64 u2] 30))) := Lib.hid (LB.new _ _ _ _ _ _ _ _ _ _ _ hI htc (HB.out.trans (hb.mono HB.out.size)))
      have HB := Lib.hid HQ2.out.low
      have HQ1 := Lib.hid ((HQ1.out.on hb).on hbx)
      have HG := Lib.hid ((HG.out.step hb).step hbx)
      have HM := Lib.hid ((HM.out.step hb).step hbx)
      clear hb hbx hI htc
      go_wp2_with fail
      obtain ⟨V2, hV⟩ : ∃ y_, (w2.alloc (.cells #[.int .i64 F2, .slice ta2 tn2 tc2, .int .i64 r2] 28)).alloc (.cells #[.int .i64 k2, .int .i64 x2, .int .i64 n2, .int .i64 s2, .int .i64 u2] 30) = y_ := ⟨_, rfl⟩
      obtain ⟨X2, hX⟩ : ∃ y_, w2.heap.size = y_ := ⟨_, rfl⟩
      obtain ⟨Y2, hY⟩ : ∃ y_, X2 + 1 = y_ := ⟨_, rfl⟩
      rw [hV, hX, hY] at HQ2
      rw [hV] at HB HG HM HQ1
      (try rw [hV])
      (try rw [hX])
      (try rw [hY])
      clear hV hX hY
      have IK : Hid (∀ W, LB w X2 Y2 F2 ta2 tn2 tc2 xs2 r2 k2 x2 n2 s2 u2 W → Calls Tryz.prog 17 #[.agg #[.int .i64 F2, .slice ta2 tn2 tc2, .int .i64 r2], .agg #[.int .i64 k2, .int .i64 x2, .int .i64 n2, .int .i64 s2, .int .i64 u2], .int .i64 j2] W (IIPost (rkV r2 F2 xs2 k2 x2 n2 s2 u2 j2) (rkE r2 F2 xs2 k2 x2 n2 s2 u2 j2) W)) := Lib.hid (fun W hW => ira_any r2 F2 xs2 ta2 tn2 tc2 k2 x2 n2 s2 u2 j2 W hW.ints hW.le)
      have SK : Hid (∀ W, LB w X2 Y2 F2 ta2 tn2 tc2 xs2 r2 k2 x2 n2 s2 u2 W → Calls Tryz.prog 18 #[.agg #[.int .i64 F2, .slice ta2 tn2 tc2, .int .i64 r2], .agg #[.int .i64 k2, .int .i64 x2, .int .i64 n2, .int .i64 s2, .int .i64 u2], .int .i64 j2] W (IIPost (rkV r2 F2 xs2 k2 x2 n2 s2 u2 j2) (rkE r2 F2 xs2 k2 x2 n2 s2 u2 j2) W)) := Lib.hid (fun W hW => sri_any r2 F2 xs2 ta2 tn2 tc2 k2 x2 n2 s2 u2 j2 W hW.ints)
      obtain ⟨R1, hR1⟩ : ∃ y_, rkV r2 F2 xs2 k2 x2 n2 s2 u2 j2 = y_ := ⟨_, rfl⟩
      obtain ⟨R2, hR2⟩ : ∃ y_, rkE r2 F2 xs2 k2 x2 n2 s2 u2 j2 = y_ := ⟨_, rfl⟩
      rw [hR1, hR2] at IK SK
      unfold IIPost at IK SK
      clear hR1 hR2
      obtain ⟨ca2, cb2, cc2, da2, db2, dc2, dd2, de2⟩ := lbC HQ2.out
      go_wp2_with fail
      with_reducible refine (IK.out _ HQ2.out).mono ?_
      rintro e v5 ⟨rfl, hb⟩
      have HQ1 := Lib.hid (HQ1.out.on hb)
      have HQ2 := Lib.hid (HQ2.out.on hb)
      have HG := Lib.hid (HG.out.step hb)
      have HM := Lib.hid (HM.out.step hb)
      have HB := Lib.hid (HB.out.trans (hb.mono HB.out.size))
      clear hb ca2 cb2 cc2 da2 db2 dc2 dd2 de2
      obtain ⟨ca2, cb2, cc2, da2, db2, dc2, dd2, de2⟩ := lbC HQ2.out
      go_wp2_with fail
      with_reducible refine (SK.out _ HQ2.out).mono ?_
      rintro e v6 ⟨rfl, hb⟩
      have HQ1 := Lib.hid (HQ1.out.on hb)
      have HQ2 := Lib.hid (HQ2.out.on hb)
      have HG := Lib.hid (HG.out.step hb)
      have HM := Lib.hid (HM.out.step hb)
      have HB := Lib.hid (HB.out.trans (hb.mono HB.out.size))
      clear hb ca2 cb2 cc2 da2 db2 dc2 dd2 de2
      go_wp2_with fail
      refine (drawDA a0 len0 cap0 z0 _ (HW0.out.below HB.out HW0.out.apart)).mono ?_
      rintro e w3 ⟨F3, ta3, tn3, tc3, xs3, r3, k3, x3, n3, s3, u3, j3, rfl, hI, htc, -, hb⟩
      have hbx := (box_b w3 (.cells #[.int .i64 F3, .slice ta3 tn3 tc3, .int .i64 r3] 28)).trans ((box_b (w3.alloc (.cells #[.int .i64 F3, .slice ta3 tn3 tc3, .int .i64 r3] 28)) (.cells #[.int .i64 k3, .int .i64 x3, .int .i64 n3, .int .i64 s3, .int .i64 u3] 30)).mono (by simp))
      have HQ3 : Hid (LB w w3.heap.size (w3.heap.size + 1) F3 ta3 tn3 tc3 xs3 r3 k3 x3 n3 s3 u3 ((w3.alloc (.cells #[.int .i64 F3, .slice ta3 tn3 tc3, .int .i64 r3] 28)).alloc (.cells #[.int .i64 k3, .int .i64 x3, .int .i64 n3, .int .i64 s3, .int .i64 u3] 30))) := Lib.hid (LB.new _ _ _ _ _ _ _ _ _ _ _ hI htc (HB.out.trans (hb.mono HB.out.size)))
      have HB := Lib.hid HQ3.out.low
      have HQ1 := Lib.hid ((HQ1.out.on hb).on hbx)
      have HQ2 := Lib.hid ((HQ2.out.on hb).on hbx)
      have HG := Lib.hid ((HG.out.step hb).step hbx)
      have HM := Lib.hid ((HM.out.step hb).step hbx)
      clear hb hbx hI htc
      go_wp2_with fail
      obtain ⟨V3, hV⟩ : ∃ y_, (w3.alloc (.cells #[.int .i64 F3, .slice ta3 tn3 tc3, .int .i64 r3] 28)).alloc (.cells #[.int .i64 k3, .int .i64 x3, .int .i64 n3, .int .i64 s3, .int .i64 u3] 30) = y_ := ⟨_, rfl⟩
      obtain ⟨X3, hX⟩ : ∃ y_, w3.heap.size = y_ := ⟨_, rfl⟩
      obtain ⟨Y3, hY⟩ : ∃ y_, X3 + 1 = y_ := ⟨_, rfl⟩
      rw [hV, hX, hY] at HQ3
      rw [hV] at HB HG HM HQ1 HQ2
      (try rw [hV])
      (try rw [hX])
      (try rw [hY])
      clear hV hX hY
      have ID : Hid (∀ W, LB w X3 Y3 F3 ta3 tn3 tc3 xs3 r3 k3 x3 n3 s3 u3 W → Calls Tryz.prog 20 #[.agg #[.int .i64 F3, .slice ta3 tn3 tc3, .int .i64 r3], .agg #[.int .i64 k3, .int .i64 x3, .int .i64 n3, .int .i64 s3, .int .i64 u3], .int .i64 j3] W (IIPost (deV r3 F3 xs3 k3 x3 n3 s3 u3 j3) (rvE r3 F3 xs3 k3 x3 n3 s3 u3 j3) W)) := Lib.hid (fun W hW => ide_any r3 F3 xs3 ta3 tn3 tc3 k3 x3 n3 s3 u3 j3 W hW.ints hW.le)
      have SD : Hid (∀ W, LB w X3 Y3 F3 ta3 tn3 tc3 xs3 r3 k3 x3 n3 s3 u3 W → Calls Tryz.prog 21 #[.agg #[.int .i64 F3, .slice ta3 tn3 tc3, .int .i64 r3], .agg #[.int .i64 k3, .int .i64 x3, .int .i64 n3, .int .i64 s3, .int .i64 u3], .int .i64 j3] W (IIPost (deV r3 F3 xs3 k3 x3 n3 s3 u3 j3) (rvE r3 F3 xs3 k3 x3 n3 s3 u3 j3) W)) := Lib.hid (fun W hW => sde_any r3 F3 xs3 ta3 tn3 tc3 k3 x3 n3 s3 u3 j3 W hW.ints)
      obtain ⟨R3, hR3⟩ : ∃ y_, deV r3 F3 xs3 k3 x3 n3 s3 u3 j3 = y_ := ⟨_, rfl⟩
      obtain ⟨R4, hR4⟩ : ∃ y_, rvE r3 F3 xs3 k3 x3 n3 s3 u3 j3 = y_ := ⟨_, rfl⟩
      rw [hR3, hR4] at ID SD
      unfold IIPost at ID SD
      clear hR3 hR4
      obtain ⟨ca3, cb3, cc3, da3, db3, dc3, dd3, de3⟩ := lbC HQ3.out
      go_wp2_with fail
      with_reducible refine (ID.out _ HQ3.out).mono ?_
      rintro e v7 ⟨rfl, hb⟩
      have HQ1 := Lib.hid (HQ1.out.on hb)
      have HQ2 := Lib.hid (HQ2.out.on hb)
      have HQ3 := Lib.hid (HQ3.out.on hb)
      have HG := Lib.hid (HG.out.step hb)
      have HM := Lib.hid (HM.out.step hb)
      have HB := Lib.hid (HB.out.trans (hb.mono HB.out.size))
      clear hb ca3 cb3 cc3 da3 db3 dc3 dd3 de3
      obtain ⟨ca3, cb3, cc3, da3, db3, dc3, dd3, de3⟩ := lbC HQ3.out
      go_wp2_with fail
      with_reducible refine (SD.out _ HQ3.out).mono ?_
      rintro e v8 ⟨rfl, hb⟩
      have HQ1 := Lib.hid (HQ1.out.on hb)
      have HQ2 := Lib.hid (HQ2.out.on hb)
      have HQ3 := Lib.hid (HQ3.out.on hb)
      have HG := Lib.hid (HG.out.step hb)
      have HM := Lib.hid (HM.out.step hb)
      have HB := Lib.hid (HB.out.trans (hb.mono HB.out.size))
      clear hb ca3 cb3 cc3 da3 db3 dc3 dd3 de3
      go_wp2_with fail
      refine (like_any Y Y _ _ _ _ _ _ _ HG.out HM.out).mono ?_
      rintro e v9 ⟨rfl, n9, rfl⟩
      have hb := below_drewN (Below.refl v8.heap.size v8) n9
      have HQ1 := Lib.hid (HQ1.out.on hb)
      have HG := Lib.hid (HG.out.step hb)
      have HM := Lib.hid (HM.out.step hb)
      have HB := Lib.hid (HB.out.trans (hb.mono HB.out.size))
      obtain ⟨v9, hv9⟩ : ∃ y_, y_ = v8.drewN n9 := ⟨_, rfl⟩
      rw [← hv9] at HB HG HM HQ1 ⊢
      clear hv9 hb
      go_wp2_with fail
      obtain ⟨m, hm, hmd, hm0, hm1, hp, hYc, hv, hF0, hF1⟩ := HOK.out
      rw [hm] at HGR
      have hl1 := HG.out.len
      rw [hYc, colL_len] at hl1
      subst hl1
      rw [hYc] at HG HM
      have HFJ : Hid (∀ j : Nat, j < m → ∃ q mm, fwN r1 F1 xs1 k1 x1 n1 s1 j / dvN r1 F1 xs1 x1 j = q ∧ fwN r1 F1 xs1 k1 x1 n1 s1 j % dvN r1 F1 xs1 x1 j = mm ∧ -20000000000 ≤ q ∧ q ≤ 20000000000 ∧ 0 ≤ mm ∧ mm ≤ 1000000000000000 ∧ rlF r1 F1 xs1 k1 x1 n1 s1 j = max 0 (q + min 1 mm)) := Lib.hid (fun j hj => by
        obtain ⟨hp1, hj1, hd1⟩ := rvE_iff.1 (hv j hj)
        obtain ⟨q, mm, e1, e2, q0, q1, m0, m1, m2, e3, -⟩ := kt_bd hp1 hj1 hd1
        exact ⟨q, mm, e1, e2, q0, q1, m0, by omega, e3⟩)
      have HIF : Hid (∀ (j : Nat) W, j < m → LB w X1 Y1 F1 ta1 tn1 tc1 xs1 r1 k1 x1 n1 s1 u1 W → Calls Tryz.prog 23 #[.agg #[.int .i64 F1, .slice ta1 tn1 tc1, .int .i64 r1], .agg #[.int .i64 k1, .int .i64 x1, .int .i64 n1, .int .i64 s1, .int .i64 u1], .int .i64 j] W fun e w' => e = .returned (.tuple #[.int .i64 (fwN r1 F1 xs1 k1 x1 n1 s1 j / dvN r1 F1 xs1 x1 j), .int .i64 (fwN r1 F1 xs1 k1 x1 n1 s1 j % dvN r1 F1 xs1 x1 j), .int .i64 0]) ∧ Below W.heap.size W w') := Lib.hid (fun j W hj hW => by
        have hz := hv j hj
        have := IF.out j W hW
        unfold IIIPost qdV rdV at this
        rw [if_pos hz, if_pos hz, hz] at this
        exact this)
      obtain ⟨F, hF⟩ : ∃ y_, rlF r1 F1 xs1 k1 x1 n1 s1 = y_ := ⟨_, rfl⟩
      rw [hF] at HG HM HFJ HGR
      have HMOST : Hid (∀ j, j < m → F j ≤ GV) := Lib.hid (fun j hj => by rw [HGR.out.1]; exact gm_most F m j hj)
      have HLT : Hid (gmI F m < m) := Lib.hid (gmI_lt F m hm0)
      obtain ⟨g, off, rfl, hg, -⟩ := HG.out.at (by omega)
      have HK : Hid (LB w X1 Y1 F1 ta1 tn1 tc1 xs1 r1 k1 x1 n1 s1 u1 v9 ∧ Ints v9 (some ⟨g, off, none⟩) m (colL F m) ∧ Ints v9 ma mn (colL F m) ∧ Below w.heap.size w v9) := Lib.hid ⟨HQ1.out, HG.out, HM.out, HB.out⟩
      clear hF hF0 hF1 hYc hv hm hmd hp HG HM HB HQ1 hg HOK IF
      go_loopw [29] (fun i wr => ∃ j : Nat, j ≤ m ∧ i = .int .i64 j ∧ Hid (LB w X1 Y1 F1 ta1 tn1 tc1 xs1 r1 k1 x1 n1 s1 u1 wr ∧ Ints wr (some ⟨g, off, none⟩) m (colL F m) ∧ Ints wr ma mn (colL F m) ∧ Below w.heap.size w wr)) (fun i _ => m - (intOf i).toNat)
      case atStart => exact ⟨0, by omega, rfl, HK⟩
      case round =>
        clear HK
        obtain ⟨j, hj, rfl, HK⟩ := hrel
        by_cases hlt : j < m
        · have HQ1 := Lib.hid HK.out.1
          obtain ⟨ca1, cb1, cc1, da1, db1, dc1, dd1, de1⟩ := lbC HQ1.out
          have CF := Lib.hid (fun W hW => HIF.out j W hlt hW)
          obtain ⟨q, mm, e1, e2, q0, q1, m0, m1, e3⟩ := HFJ.out j hlt
          rw [e1, e2] at CF
          have hmo := HMOST.out j hlt
          have HFU : Hid ((colL F m).getD j 0 = F j) := Lib.hid (colL_get F m j hlt)
          obtain ⟨U, hU⟩ : ∃ y_, F j = y_ := ⟨_, rfl⟩
          rw [hU] at e3 hmo HFU
          clear hU e1 e2
          go_wp2_with fail
          with_reducible refine (CF.out _ HQ1.out).mono ?_
          rintro e y1 ⟨rfl, hb⟩
          have HK : Hid (LB w X1 Y1 F1 ta1 tn1 tc1 xs1 r1 k1 x1 n1 s1 u1 y1 ∧ Ints y1 (some ⟨g, off, none⟩) m (colL F m) ∧ Ints y1 ma mn (colL F m) ∧ Below w.heap.size w y1) := Lib.hid ⟨HK.out.1.on hb, HK.out.2.1.step hb, HK.out.2.2.1.step hb, HK.out.2.2.2.trans (hb.mono HK.out.2.2.2.size)⟩
          clear hb ca1 cb1 cc1 da1 db1 dc1 dd1 de1 HQ1 CF
          obtain ⟨b_, o_, he_, hg, hc⟩ := HK.out.2.1.at (by omega)
          cases he_
          have hx := hc j hlt
          rw [HFU.out] at hx
          clear hc HFU
          have r1_ : IntKind.i64.wrap (q + min 1 mm) = q + min 1 mm := IntWalk.i64_in _ (by omega)
          subst e3
          have hng : ¬ GV < max 0 (q + min 1 mm) := by omega
          go_wp2_with fail
          all_goals
            go_roundw
            case rel => exact ⟨j + 1, by omega, by go_num, HK⟩
            case measure => simp [intOf]; omega
        · obtain ⟨b_, o_, rfl, hg, hc⟩ := HK.out.2.2.1.at (by have := HK.out.2.2.1.len; rw [colL_len] at this; omega)
          have hl2 := HK.out.2.2.1.len
          rw [colL_len] at hl2
          subst hl2
          have hx := hc _ HLT.out
          rw [colL_get F m _ HLT.out, ← HGR.out.1] at hx
          have hgi := HGR.out.2
          have hil := HLT.out
          obtain ⟨I, hI⟩ : ∃ y_, gmI F m = y_ := ⟨_, rfl⟩
          rw [hI] at hx hgi hil
          subst hgi
          clear hc
          go_wp2_with fail
          go_ret
          exact ⟨rfl, HK.out.2.2.2⟩
      
    · obtain ⟨E, hE⟩ : ∃ y_, rlE r1 F1 xs1 k1 x1 n1 s1 u1 = y_ := ⟨_, rfl⟩
      obtain ⟨Y, hYY⟩ : ∃ y_, rlY r1 F1 xs1 k1 x1 n1 s1 u1 = y_ := ⟨_, rfl⟩
      obtain ⟨GV, hGV⟩ : ∃ y_, grV r1 F1 xs1 k1 x1 n1 s1 u1 = y_ := ⟨_, rfl⟩
      obtain ⟨GI, hGI⟩ : ∃ y_, grI r1 F1 xs1 k1 x1 n1 s1 u1 = y_ := ⟨_, rfl⟩
      rw [hYY, hE] at IR SR
      rw [hGV, hGI, hE] at IG SG
      rw [hE] at he
      have hEb : (E != 0) = true := by simp [he]
      clear hE hYY hGV hGI he
      with_reducible refine (IR.out _ HQ1.out).mono ?_
      rintro e v1 ⟨ga, gn, gc, rfl, hT, hb⟩
      have HQ1 := Lib.hid (HQ1.out.on hb)
      have HB := Lib.hid (HB.out.trans (hb.mono HB.out.size))
      have HG := Lib.hid hT.ints
      clear hT
      clear hb ca1 cb1 cc1 da1 db1 dc1 dd1 de1
      obtain ⟨ca1, cb1, cc1, da1, db1, dc1, dd1, de1⟩ := lbC HQ1.out
      go_wp2_with fail
      with_reducible refine (SR.out _ HQ1.out).mono ?_
      rintro e v2 ⟨ma, mn, mc, rfl, hT, hb⟩
      have HQ1 := Lib.hid (HQ1.out.on hb)
      have HG := Lib.hid (HG.out.step hb)
      have HB := Lib.hid (HB.out.trans (hb.mono HB.out.size))
      have HM := Lib.hid hT.ints
      clear hT
      clear hb ca1 cb1 cc1 da1 db1 dc1 dd1 de1
      obtain ⟨ca1, cb1, cc1, da1, db1, dc1, dd1, de1⟩ := lbC HQ1.out
      go_wp2_with fail
      with_reducible refine (IG.out _ HQ1.out).mono ?_
      rintro e v3 ⟨rfl, hb⟩
      have HQ1 := Lib.hid (HQ1.out.on hb)
      have HG := Lib.hid (HG.out.step hb)
      have HM := Lib.hid (HM.out.step hb)
      have HB := Lib.hid (HB.out.trans (hb.mono HB.out.size))
      clear hb ca1 cb1 cc1 da1 db1 dc1 dd1 de1
      obtain ⟨ca1, cb1, cc1, da1, db1, dc1, dd1, de1⟩ := lbC HQ1.out
      go_wp2_with fail
      with_reducible refine (SG.out _ HQ1.out).mono ?_
      rintro e v4 ⟨rfl, hb⟩
      have HQ1 := Lib.hid (HQ1.out.on hb)
      have HG := Lib.hid (HG.out.step hb)
      have HM := Lib.hid (HM.out.step hb)
      have HB := Lib.hid (HB.out.trans (hb.mono HB.out.size))
      clear hb ca1 cb1 cc1 da1 db1 dc1 dd1 de1
      go_wp2_with fail
      refine (drawRK a0 len0 cap0 z0 _ (HW0.out.below HB.out HW0.out.apart)).mono ?_
      rintro e w2 ⟨F2, ta2, tn2, tc2, xs2, r2, k2, x2, n2, s2, u2, j2, rfl, hI, htc, -, hb⟩
      have hbx := (box_b w2 (.cells #[.int .i64 F2, .slice ta2 tn2 tc2, .int .i64 r2] 28)).trans ((box_b (w2.alloc (.cells #[.int .i64 F2, .slice ta2 tn2 tc2, .int .i64 r2] 28)) (.cells #[.int .i64 k2, .int .i64 x2, .int .i64 n2, .int .i64 s2, .int .i64 u2] 30)).mono (by simp))
      have HQ2 : Hid (LB w w2.heap.size (w2.heap.size + 1) F2 ta2 tn2 tc2 xs2 r2 k2 x2 n2 s2 u2 ((w2.alloc (.cells #[.int .i64 F2, .slice ta2 tn2 tc2, .int .i64 r2] 28)).alloc (.cells #[.int .i64 k2, .int .i64 x2, .int .i64 n2, .int .i64 s2, .int .i64 u2] 30))) := Lib.hid (LB.new _ _ _ _ _ _ _ _ _ _ _ hI htc (HB.out.trans (hb.mono HB.out.size)))
      have HB := Lib.hid HQ2.out.low
      have HQ1 := Lib.hid ((HQ1.out.on hb).on hbx)
      have HG := Lib.hid ((HG.out.step hb).step hbx)
      have HM := Lib.hid ((HM.out.step hb).step hbx)
      clear hb hbx hI htc
      go_wp2_with fail
      obtain ⟨V2, hV⟩ : ∃ y_, (w2.alloc (.cells #[.int .i64 F2, .slice ta2 tn2 tc2, .int .i64 r2] 28)).alloc (.cells #[.int .i64 k2, .int .i64 x2, .int .i64 n2, .int .i64 s2, .int .i64 u2] 30) = y_ := ⟨_, rfl⟩
      obtain ⟨X2, hX⟩ : ∃ y_, w2.heap.size = y_ := ⟨_, rfl⟩
      obtain ⟨Y2, hY⟩ : ∃ y_, X2 + 1 = y_ := ⟨_, rfl⟩
      rw [hV, hX, hY] at HQ2
      rw [hV] at HB HG HM HQ1
      (try rw [hV])
      (try rw [hX])
      (try rw [hY])
      clear hV hX hY
      have IK : Hid (∀ W, LB w X2 Y2 F2 ta2 tn2 tc2 xs2 r2 k2 x2 n2 s2 u2 W → Calls Tryz.prog 17 #[.agg #[.int .i64 F2, .slice ta2 tn2 tc2, .int .i64 r2], .agg #[.int .i64 k2, .int .i64 x2, .int .i64 n2, .int .i64 s2, .int .i64 u2], .int .i64 j2] W (IIPost (rkV r2 F2 xs2 k2 x2 n2 s2 u2 j2) (rkE r2 F2 xs2 k2 x2 n2 s2 u2 j2) W)) := Lib.hid (fun W hW => ira_any r2 F2 xs2 ta2 tn2 tc2 k2 x2 n2 s2 u2 j2 W hW.ints hW.le)
      have SK : Hid (∀ W, LB w X2 Y2 F2 ta2 tn2 tc2 xs2 r2 k2 x2 n2 s2 u2 W → Calls Tryz.prog 18 #[.agg #[.int .i64 F2, .slice ta2 tn2 tc2, .int .i64 r2], .agg #[.int .i64 k2, .int .i64 x2, .int .i64 n2, .int .i64 s2, .int .i64 u2], .int .i64 j2] W (IIPost (rkV r2 F2 xs2 k2 x2 n2 s2 u2 j2) (rkE r2 F2 xs2 k2 x2 n2 s2 u2 j2) W)) := Lib.hid (fun W hW => sri_any r2 F2 xs2 ta2 tn2 tc2 k2 x2 n2 s2 u2 j2 W hW.ints)
      obtain ⟨R1, hR1⟩ : ∃ y_, rkV r2 F2 xs2 k2 x2 n2 s2 u2 j2 = y_ := ⟨_, rfl⟩
      obtain ⟨R2, hR2⟩ : ∃ y_, rkE r2 F2 xs2 k2 x2 n2 s2 u2 j2 = y_ := ⟨_, rfl⟩
      rw [hR1, hR2] at IK SK
      unfold IIPost at IK SK
      clear hR1 hR2
      obtain ⟨ca2, cb2, cc2, da2, db2, dc2, dd2, de2⟩ := lbC HQ2.out
      go_wp2_with fail
      with_reducible refine (IK.out _ HQ2.out).mono ?_
      rintro e v5 ⟨rfl, hb⟩
      have HQ1 := Lib.hid (HQ1.out.on hb)
      have HQ2 := Lib.hid (HQ2.out.on hb)
      have HG := Lib.hid (HG.out.step hb)
      have HM := Lib.hid (HM.out.step hb)
      have HB := Lib.hid (HB.out.trans (hb.mono HB.out.size))
      clear hb ca2 cb2 cc2 da2 db2 dc2 dd2 de2
      obtain ⟨ca2, cb2, cc2, da2, db2, dc2, dd2, de2⟩ := lbC HQ2.out
      go_wp2_with fail
      with_reducible refine (SK.out _ HQ2.out).mono ?_
      rintro e v6 ⟨rfl, hb⟩
      have HQ1 := Lib.hid (HQ1.out.on hb)
      have HQ2 := Lib.hid (HQ2.out.on hb)
      have HG := Lib.hid (HG.out.step hb)
      have HM := Lib.hid (HM.out.step hb)
      have HB := Lib.hid (HB.out.trans (hb.mono HB.out.size))
      clear hb ca2 cb2 cc2 da2 db2 dc2 dd2 de2
      go_wp2_with fail
      refine (drawDA a0 len0 cap0 z0 _ (HW0.out.below HB.out HW0.out.apart)).mono ?_
      rintro e w3 ⟨F3, ta3, tn3, tc3, xs3, r3, k3, x3, n3, s3, u3, j3, rfl, hI, htc, -, hb⟩
      have hbx := (box_b w3 (.cells #[.int .i64 F3, .slice ta3 tn3 tc3, .int .i64 r3] 28)).trans ((box_b (w3.alloc (.cells #[.int .i64 F3, .slice ta3 tn3 tc3, .int .i64 r3] 28)) (.cells #[.int .i64 k3, .int .i64 x3, .int .i64 n3, .int .i64 s3, .int .i64 u3] 30)).mono (by simp))
      have HQ3 : Hid (LB w w3.heap.size (w3.heap.size + 1) F3 ta3 tn3 tc3 xs3 r3 k3 x3 n3 s3 u3 ((w3.alloc (.cells #[.int .i64 F3, .slice ta3 tn3 tc3, .int .i64 r3] 28)).alloc (.cells #[.int .i64 k3, .int .i64 x3, .int .i64 n3, .int .i64 s3, .int .i64 u3] 30))) := Lib.hid (LB.new _ _ _ _ _ _ _ _ _ _ _ hI htc (HB.out.trans (hb.mono HB.out.size)))
      have HB := Lib.hid HQ3.out.low
      have HQ1 := Lib.hid ((HQ1.out.on hb).on hbx)
      have HQ2 := Lib.hid ((HQ2.out.on hb).on hbx)
      have HG := Lib.hid ((HG.out.step hb).step hbx)
      have HM := Lib.hid ((HM.out.step hb).step hbx)
      clear hb hbx hI htc
      go_wp2_with fail
      obtain ⟨V3, hV⟩ : ∃ y_, (w3.alloc (.cells #[.int .i64 F3, .slice ta3 tn3 tc3, .int .i64 r3] 28)).alloc (.cells #[.int .i64 k3, .int .i64 x3, .int .i64 n3, .int .i64 s3, .int .i64 u3] 30) = y_ := ⟨_, rfl⟩
      obtain ⟨X3, hX⟩ : ∃ y_, w3.heap.size = y_ := ⟨_, rfl⟩
      obtain ⟨Y3, hY⟩ : ∃ y_, X3 + 1 = y_ := ⟨_, rfl⟩
      rw [hV, hX, hY] at HQ3
      rw [hV] at HB HG HM HQ1 HQ2
      (try rw [hV])
      (try rw [hX])
      (try rw [hY])
      clear hV hX hY
      have ID : Hid (∀ W, LB w X3 Y3 F3 ta3 tn3 tc3 xs3 r3 k3 x3 n3 s3 u3 W → Calls Tryz.prog 20 #[.agg #[.int .i64 F3, .slice ta3 tn3 tc3, .int .i64 r3], .agg #[.int .i64 k3, .int .i64 x3, .int .i64 n3, .int .i64 s3, .int .i64 u3], .int .i64 j3] W (IIPost (deV r3 F3 xs3 k3 x3 n3 s3 u3 j3) (rvE r3 F3 xs3 k3 x3 n3 s3 u3 j3) W)) := Lib.hid (fun W hW => ide_any r3 F3 xs3 ta3 tn3 tc3 k3 x3 n3 s3 u3 j3 W hW.ints hW.le)
      have SD : Hid (∀ W, LB w X3 Y3 F3 ta3 tn3 tc3 xs3 r3 k3 x3 n3 s3 u3 W → Calls Tryz.prog 21 #[.agg #[.int .i64 F3, .slice ta3 tn3 tc3, .int .i64 r3], .agg #[.int .i64 k3, .int .i64 x3, .int .i64 n3, .int .i64 s3, .int .i64 u3], .int .i64 j3] W (IIPost (deV r3 F3 xs3 k3 x3 n3 s3 u3 j3) (rvE r3 F3 xs3 k3 x3 n3 s3 u3 j3) W)) := Lib.hid (fun W hW => sde_any r3 F3 xs3 ta3 tn3 tc3 k3 x3 n3 s3 u3 j3 W hW.ints)
      obtain ⟨R3, hR3⟩ : ∃ y_, deV r3 F3 xs3 k3 x3 n3 s3 u3 j3 = y_ := ⟨_, rfl⟩
      obtain ⟨R4, hR4⟩ : ∃ y_, rvE r3 F3 xs3 k3 x3 n3 s3 u3 j3 = y_ := ⟨_, rfl⟩
      rw [hR3, hR4] at ID SD
      unfold IIPost at ID SD
      clear hR3 hR4
      obtain ⟨ca3, cb3, cc3, da3, db3, dc3, dd3, de3⟩ := lbC HQ3.out
      go_wp2_with fail
      with_reducible refine (ID.out _ HQ3.out).mono ?_
      rintro e v7 ⟨rfl, hb⟩
      have HQ1 := Lib.hid (HQ1.out.on hb)
      have HQ2 := Lib.hid (HQ2.out.on hb)
      have HQ3 := Lib.hid (HQ3.out.on hb)
      have HG := Lib.hid (HG.out.step hb)
      have HM := Lib.hid (HM.out.step hb)
      have HB := Lib.hid (HB.out.trans (hb.mono HB.out.size))
      clear hb ca3 cb3 cc3 da3 db3 dc3 dd3 de3
      obtain ⟨ca3, cb3, cc3, da3, db3, dc3, dd3, de3⟩ := lbC HQ3.out
      go_wp2_with fail
      with_reducible refine (SD.out _ HQ3.out).mono ?_
      rintro e v8 ⟨rfl, hb⟩
      have HQ1 := Lib.hid (HQ1.out.on hb)
      have HQ2 := Lib.hid (HQ2.out.on hb)
      have HQ3 := Lib.hid (HQ3.out.on hb)
      have HG := Lib.hid (HG.out.step hb)
      have HM := Lib.hid (HM.out.step hb)
      have HB := Lib.hid (HB.out.trans (hb.mono HB.out.size))
      clear hb ca3 cb3 cc3 da3 db3 dc3 dd3 de3
      go_wp2_with fail
      refine (like_any Y Y _ _ _ _ _ _ _ HG.out HM.out).mono ?_
      rintro e v9 ⟨rfl, n9, rfl⟩
      have hb := below_drewN (Below.refl v8.heap.size v8) n9
      have HQ1 := Lib.hid (HQ1.out.on hb)
      have HG := Lib.hid (HG.out.step hb)
      have HM := Lib.hid (HM.out.step hb)
      have HB := Lib.hid (HB.out.trans (hb.mono HB.out.size))
      obtain ⟨v9, hv9⟩ : ∃ y_, y_ = v8.drewN n9 := ⟨_, rfl⟩
      rw [← hv9] at HB HG HM HQ1 ⊢
      clear hv9 hb
      go_wp2_with fail
      go_ret
      exact ⟨rfl, HB.out⟩
      

end Go.Proofs.YtnclncglmnbelaaGreat
