/- Annuities: the program's LifeAnnuity, TermAnnuity, LateAnnuity, SureAnnuity, AmountFor. (Written by wip/gen/annr.py.) -/
import Derived.Test.YtmcagpcldjopjaaAnnQ
namespace Go.Proofs.Ytmcagpcldjopjaa
open Go.ChangeShapes Go.WideShapes Go.ChangeAt Go.RowKit
set_option linter.unusedVariables false
set_option maxRecDepth 100000

theorem ilife_any (r f : Int) (xs : List Int) (a : Option Addr) (l c : Nat) (x b : Int) (w : World) (h : Ints w a l xs) (hlc : l ≤ c) :
    Calls Try.prog 27 #[.agg #[.int .i64 f, .slice a l c], .int .i64 r, .int .i64 x, .int .i64 b] w (IIPost (lifeV r f xs x b) (anE r f xs x (inB b 1 1000000) 0) w) := by
  have H := Lib.hid h
  have C : Hid (∀ W, Hid (Below w.heap.size w W) → Calls Try.prog 59 #[.int .i64 0, .agg #[.int .i64 f, .slice a l c], .int .i64 r, .int .i64 x, .int .i64 b, .int .i64 0] W (IIPost (lifeV r f xs x b) (anE r f xs x (inB b 1 1000000) 0) W)) :=
    Lib.hid (fun W hW => by
      have := pa_any 0 r f (by omega) xs a l c x b 0 W (H.out.on hW.out) hlc
      rw [show paV r f xs x b 0 0 = lifeV r f xs x b by unfold paV lifeV numU; simp] at this
      exact this)
  clear h
  obtain ⟨Z, hZ⟩ : ∃ y_, lifeV r f xs x b = y_ := ⟨_, rfl⟩
  obtain ⟨E, hE⟩ : ∃ y_, anE r f xs x (inB b 1 1000000) 0 = y_ := ⟨_, rfl⟩
  rw [hZ, hE] at C ⊢
  unfold IIPost at C ⊢
  clear hZ hE
  go_enter Try.func27, Try.ntmps27
  go_wp2_with fail
  with_reducible refine (C.out _ (Lib.hid (box_b _ _))).mono ?_
  rintro e w1 ⟨rfl, hb⟩
  obtain ⟨hB, hc0, hc1⟩ := box2 hb
  have HB := Lib.hid hB
  clear hB hb
  go_wp2_with fail
  go_ret2
  exact ⟨rfl, HB.out⟩

theorem iterm_any (r f : Int) (xs : List Int) (a : Option Addr) (l c : Nat) (x b n : Int) (w : World) (h : Ints w a l xs) (hlc : l ≤ c) :
    Calls Try.prog 21 #[.agg #[.int .i64 f, .slice a l c], .int .i64 r, .int .i64 x, .int .i64 b, .int .i64 n] w (IIPost (termV r f xs x b n) (anE r f xs x (inB b 1 1000000) n) w) := by
  have H := Lib.hid h
  have C : Hid (∀ W, Hid (Below w.heap.size w W) → Calls Try.prog 59 #[.int .i64 1, .agg #[.int .i64 f, .slice a l c], .int .i64 r, .int .i64 x, .int .i64 b, .int .i64 n] W (IIPost (termV r f xs x b n) (anE r f xs x (inB b 1 1000000) n) W)) :=
    Lib.hid (fun W hW => by
      have := pa_any 1 r f (by omega) xs a l c x b n W (H.out.on hW.out) hlc
      rw [show paV r f xs x b n 1 = termV r f xs x b n by unfold paV termV numU; simp] at this
      exact this)
  clear h
  obtain ⟨Z, hZ⟩ : ∃ y_, termV r f xs x b n = y_ := ⟨_, rfl⟩
  obtain ⟨E, hE⟩ : ∃ y_, anE r f xs x (inB b 1 1000000) n = y_ := ⟨_, rfl⟩
  rw [hZ, hE] at C ⊢
  unfold IIPost at C ⊢
  clear hZ hE
  go_enter Try.func21, Try.ntmps21
  go_wp2_with fail
  with_reducible refine (C.out _ (Lib.hid (box_b _ _))).mono ?_
  rintro e w1 ⟨rfl, hb⟩
  obtain ⟨hB, hc0, hc1⟩ := box2 hb
  have HB := Lib.hid hB
  clear hB hb
  go_wp2_with fail
  go_ret2
  exact ⟨rfl, HB.out⟩

theorem ilate_any (r f : Int) (xs : List Int) (a : Option Addr) (l c : Nat) (x b n : Int) (w : World) (h : Ints w a l xs) (hlc : l ≤ c) :
    Calls Try.prog 23 #[.agg #[.int .i64 f, .slice a l c], .int .i64 r, .int .i64 x, .int .i64 b, .int .i64 n] w (IIPost (lateV r f xs x b n) (anE r f xs x (inB b 1 1000000) n) w) := by
  have H := Lib.hid h
  have C : Hid (∀ W, Hid (Below w.heap.size w W) → Calls Try.prog 59 #[.int .i64 2, .agg #[.int .i64 f, .slice a l c], .int .i64 r, .int .i64 x, .int .i64 b, .int .i64 n] W (IIPost (lateV r f xs x b n) (anE r f xs x (inB b 1 1000000) n) W)) :=
    Lib.hid (fun W hW => by
      have := pa_any 2 r f (by omega) xs a l c x b n W (H.out.on hW.out) hlc
      rw [show paV r f xs x b n 2 = lateV r f xs x b n by unfold paV lateV numU; simp] at this
      exact this)
  clear h
  obtain ⟨Z, hZ⟩ : ∃ y_, lateV r f xs x b n = y_ := ⟨_, rfl⟩
  obtain ⟨E, hE⟩ : ∃ y_, anE r f xs x (inB b 1 1000000) n = y_ := ⟨_, rfl⟩
  rw [hZ, hE] at C ⊢
  unfold IIPost at C ⊢
  clear hZ hE
  go_enter Try.func23, Try.ntmps23
  go_wp2_with fail
  with_reducible refine (C.out _ (Lib.hid (box_b _ _))).mono ?_
  rintro e w1 ⟨rfl, hb⟩
  obtain ⟨hB, hc0, hc1⟩ := box2 hb
  have HB := Lib.hid hB
  clear hB hb
  go_wp2_with fail
  go_ret2
  exact ⟨rfl, HB.out⟩

theorem isure_any (r f : Int) (xs : List Int) (a : Option Addr) (l c : Nat) (x b n : Int) (w : World) (h : Ints w a l xs) (hlc : l ≤ c) :
    Calls Try.prog 25 #[.agg #[.int .i64 f, .slice a l c], .int .i64 r, .int .i64 x, .int .i64 b, .int .i64 n] w (IIPost (sureV r f xs x b n) (anE r f xs x (inB b 1 1000000) n) w) := by
  have H := Lib.hid h
  have C : Hid (∀ W, Hid (Below w.heap.size w W) → Calls Try.prog 23 #[.agg #[.int .i64 f, .slice a l c], .int .i64 r, .int .i64 x, .int .i64 b, .int .i64 n] W (IIPost (lateV r f xs x b n) (anE r f xs x (inB b 1 1000000) n) W)) :=
    Lib.hid (fun W hW => ilate_any r f xs a l c x b n W (H.out.on hW.out) hlc)
  clear h
  by_cases hz : anE r f xs x (inB b 1 1000000) n = 0
  · have HV : Hid (sureV r f xs x b n = upV b (dsum r 0 n.toNat) 1000000000 + lateV r f xs x b n) := Lib.hid (by unfold sureV lateV; rw [if_pos hz, if_pos hz])
    have HL : Hid (lateV r f xs x b n = upV b (cN r xs (x + n - f).toNat) (cD r xs (x - f).toNat)) := Lib.hid (by unfold lateV; rw [if_pos hz])
    obtain ⟨hc, hb, ⟨n0, n1⟩, xn, hd⟩ := anE_iff.1 hz
    obtain ⟨ht, ⟨r0, r1⟩, x0, x1⟩ := coE_iff.1 hc
    obtain ⟨f0, f1⟩ := ht.1
    obtain ⟨b0, b1⟩ := (inB_iff _ _ _).1 hb
    obtain ⟨l0, l1⟩ := ht.late r r0 x n x0 n0
    obtain ⟨q1, q2, q3, q4⟩ := ht.quot r r0 (x - f).toNat (cN r xs (x + n - f).toNat) b l0 l1 hd (by omega) b1
    obtain ⟨u0, u1⟩ := upV_bd b (cN r xs (x + n - f).toNat) (cD r xs (x - f).toNat) 152000000 (by omega) l0 q2 q4
    rw [← HL.out] at u0 u1
    obtain ⟨d0, d1, d2⟩ := sure_q r b n r0 n0 n1 (by omega) b1
    obtain ⟨v0, v1⟩ := upV_bd b (dsum r 0 n.toNat) 1000000000 120000000 (by omega) d0 (by omega) d2
    have CA : Hid (∀ W, Calls Try.prog 66 #[.int .i64 r, .int .i64 n] W fun e w' => e = .returned (.tuple #[.int .i64 (dsum r 0 n.toNat), .int .i64 0]) ∧ Below W.heap.size W w') := Lib.hid (fun W => by
      have := ca_impl r n W
      have hrt : rtB r n = true := (rtB_iff r n).2 ⟨⟨r0, r1⟩, n0, n1⟩
      unfold caV rtE at this
      rw [hrt, if_pos rfl, if_pos rfl] at this
      exact this)
    have CU := Lib.hid (fun W => tu_any b (dsum r 0 n.toNat) 1000000000 W (by omega) (by omega) d0 (by omega) (by omega) (by omega) (by omega))
    rw [hz] at C ⊢
    obtain ⟨U, hU⟩ : ∃ y_, upV b (dsum r 0 n.toNat) 1000000000 = y_ := ⟨_, rfl⟩
    rw [hU] at CU HV v0 v1
    obtain ⟨S, hS⟩ : ∃ y_, dsum r 0 n.toNat = y_ := ⟨_, rfl⟩
    rw [hS] at CU CA
    obtain ⟨L, hL⟩ : ∃ y_, lateV r f xs x b n = y_ := ⟨_, rfl⟩
    rw [hL] at C HV u0 u1
    have q5 : IntKind.i64.wrap (U + L) = U + L := IntWalk.i64_in _ (by omega)
    unfold IIPost at C ⊢
    clear hU hS hL hz hc hb hd ht l0 l1 q1 q2 q3 q4 d0 d1 d2 HL
    go_enter Try.func25, Try.ntmps25
    go_wp2_with fail
    with_reducible refine (C.out _ (Lib.hid (box_b _ _))).mono ?_
    rintro e w1 ⟨rfl, hb⟩
    obtain ⟨hB, hc0, hc1⟩ := box2 hb
    have HB := Lib.hid hB
    clear hB hb
    go_wp2_with fail
    with_reducible refine (CA.out _).mono ?_
    rintro e w2 ⟨rfl, hb⟩
    have HB2 := Lib.hid (HB.out.trans (hb.mono HB.out.size))
    clear hb
    go_wp2_with fail
    with_reducible refine (CU.out _).mono ?_
    rintro e w3 ⟨rfl, hb⟩
    have HB3 := Lib.hid (HB2.out.trans (hb.mono HB2.out.size))
    clear hb
    go_wp2_with fail
    go_ret2
    exact ⟨ret_ii HV.out.symm rfl, HB3.out⟩
  · have HV : Hid (sureV r f xs x b n = 0) := Lib.hid (by unfold sureV; rw [if_neg hz])
    obtain ⟨E, hE⟩ : ∃ y_, anE r f xs x (inB b 1 1000000) n = y_ := ⟨_, rfl⟩
    rw [hE] at C hz ⊢
    have hne : (E != 0) = true := by simp [hz]
    unfold IIPost at C ⊢
    clear hE hz
    go_enter Try.func25, Try.ntmps25
    go_wp2_with fail
    with_reducible refine (C.out _ (Lib.hid (box_b _ _))).mono ?_
    rintro e w1 ⟨rfl, hb⟩
    obtain ⟨hB, hc0, hc1⟩ := box2 hb
    have HB := Lib.hid hB
    clear hB hb
    go_wp2_with fail
    go_ret2
    exact ⟨ret_ii HV.out.symm rfl, HB.out⟩

set_option maxHeartbeats 1000000 in
theorem iamtf_any (r f : Int) (xs : List Int) (a : Option Addr) (l c : Nat) (x b : Int) (w : World) (h : Ints w a l xs) (hlc : l ≤ c) :
    Calls Try.prog 29 #[.agg #[.int .i64 f, .slice a l c], .int .i64 r, .int .i64 x, .int .i64 b] w (IIPost (amtV r f xs x b) (anE r f xs x (inB b 1 1000000000) 0) w) := by
  have H := Lib.hid h
  have CO : Hid (∀ W, Hid (Below w.heap.size w W) → Calls Try.prog 69 #[.agg #[.int .i64 f, .slice a l c], .int .i64 r, .int .i64 x] W fun e w' => e = .returned (.int .i64 (coE r f xs x)) ∧ Below W.heap.size W w') :=
    Lib.hid (fun W hW => icheck_any r f xs a l c x W (H.out.on hW.out) hlc)
  clear h
  unfold IIPost
  by_cases hz : coE r f xs x = 0
  case neg =>
    have HV : Hid (amtV r f xs x b = 0 ∧ anE r f xs x (inB b 1 1000000000) 0 = coE r f xs x) := Lib.hid (by
      have e : anE r f xs x (inB b 1 1000000000) 0 = coE r f xs x := by unfold anE; rw [if_neg hz]
      unfold amtV; rw [e, if_neg hz]; exact ⟨rfl, rfl⟩)
    obtain ⟨E, hE⟩ : ∃ y_, coE r f xs x = y_ := ⟨_, rfl⟩
    rw [hE] at CO hz HV
    have hne : (E != 0) = true := by simp [hz]
    clear hE hz
    go_enter Try.func29, Try.ntmps29
    go_wp2_with fail
    with_reducible refine (CO.out _ (Lib.hid (box_b _ _))).mono ?_
    rintro e w1 ⟨rfl, hb⟩
    obtain ⟨hB, hc0, hc1⟩ := box2 hb
    have HB := Lib.hid hB
    clear hB hb
    go_wp2_with fail
    go_ret2
    exact ⟨ret_ii HV.out.1.symm HV.out.2.symm, HB.out⟩
  obtain ⟨ht, ⟨r0, r1⟩, x0, x1⟩ := coE_iff.1 hz
  obtain ⟨f0, f1⟩ := ht.1
  rw [hz] at CO
  have HT := Lib.hid ht
  by_cases hb1 : inB b 1 1000000000 = true
  case neg =>
    have hb2 : inB b 1 1000000000 = false := by simpa using hb1
    have HV : Hid (amtV r f xs x b = 0 ∧ anE r f xs x (inB b 1 1000000000) 0 = 2) := Lib.hid (by
      have e : anE r f xs x (inB b 1 1000000000) 0 = 2 := by unfold anE; rw [if_pos hz, if_neg (fun h => hb1 h.1)]
      unfold amtV; rw [e, if_neg (by omega)]; exact ⟨rfl, rfl⟩)
    clear hz ht hb1
    go_enter Try.func29, Try.ntmps29
    go_wp2_with fail
    with_reducible refine (CO.out _ (Lib.hid (box_b _ _))).mono ?_
    rintro e w1 ⟨rfl, hb⟩
    obtain ⟨hB, hc0, hc1⟩ := box2 hb
    have HB := Lib.hid hB
    clear hB hb
    go_wp2_with (go_at_call 70; refine (within_any _ _ _ _).mono ?_; rintro e w' ⟨rfl, rfl⟩)
    go_ret2
    exact ⟨ret_ii HV.out.1.symm HV.out.2.symm, HB.out⟩
  obtain ⟨b0, b1⟩ := (inB_iff _ _ _).1 hb1
  have CT : Hid (∀ R (W : World), Cols W R r f xs (.slice a l c) → Calls Try.prog 72 #[.pointer (some ⟨R, 2, none⟩), .int .i64 x] W fun e w' => e = .returned (.agg #[.int .i64 (cD r xs (x - f).toNat), .int .i64 (cN r xs (x - f).toNat), .int .i64 (cC r xs (x - f).toNat), .int .i64 (cM r xs (x - f).toNat)]) ∧ Below W.heap.size W w') :=
    Lib.hid (fun R W hW => at_cols r f xs _ R x W hW f0 x0 x1)
  have HE : Hid (anE r f xs x (inB b 1 1000000000) 0 = if cD r xs (x - f).toNat = 0 then 5 else 0) := Lib.hid (by unfold anE; rw [if_pos hz, if_pos ⟨hb1, by omega, by omega⟩])
  have HV : Hid (amtV r f xs x b = if anE r f xs x (inB b 1 1000000000) 0 = 0 then b * cD r xs (x - f).toNat / cN r xs (x - f).toNat else 0) := Lib.hid rfl
  obtain ⟨e0, e1⟩ := ht.cD_bd r r0 (x - f).toNat
  have e2 := ht.cN_bd r r0 (x - f).toNat
  have e3 := ht.cN_ge r r0 (x - f).toNat
  obtain ⟨A, hA⟩ : ∃ A, cD r xs (x - f).toNat = A := ⟨_, rfl⟩
  obtain ⟨B, hB⟩ : ∃ A, cN r xs (x - f).toNat = A := ⟨_, rfl⟩
  obtain ⟨C3, hC⟩ : ∃ A, cC r xs (x - f).toNat = A := ⟨_, rfl⟩
  obtain ⟨D3, hD⟩ : ∃ A, cM r xs (x - f).toNat = A := ⟨_, rfl⟩
  rw [hA] at HE HV CT e0 e1 e3
  rw [hB] at HV CT e2 e3
  rw [hC, hD] at CT
  obtain ⟨E, hE⟩ : ∃ y_, anE r f xs x (inB b 1 1000000000) 0 = y_ := ⟨_, rfl⟩
  rw [hE] at HE HV ⊢
  clear hA hB hC hD hE hz ht b0 b1
  by_cases hd : A = 0
  · subst hd
    have HV2 : Hid (amtV r f xs x b = 0 ∧ E = 5) := Lib.hid (by
      have e := HE.out
      rw [if_pos rfl] at e
      have := HV.out
      rw [e, if_neg (by omega)] at this
      exact ⟨this, e⟩)
    clear HV HE
    go_enter Try.func29, Try.ntmps29
    go_wp2_with fail
    with_reducible refine (CO.out _ (Lib.hid (box_b _ _))).mono ?_
    rintro e w1 ⟨rfl, hb⟩
    obtain ⟨hB, hc0, hc1⟩ := box2 hb
    have HB := Lib.hid hB
    clear hB hb
    go_wp2_with (go_at_call 70; refine (within_any _ _ _ _).mono ?_; rintro e w' ⟨rfl, rfl⟩)
    with_reducible refine (co_any r f xs a l c _ (H.out.on HB.out) HT.out r0 r1).mono ?_
    rintro e w2 ⟨R, G, rfl, hR, hG, hGs, hb⟩
    have HB2 := Lib.hid (HB.out.trans (hb.mono HB.out.size))
    have HAT := Lib.hid (CT.out R w2 ⟨G, hG, hGs⟩)
    clear hG hGs hb hc0 hc1 HB hR
    go_wp2_with fail
    with_reducible refine HAT.out.mono ?_
    rintro e w3 ⟨rfl, hb⟩
    have HB3 := Lib.hid ((HB2.out.trans (hb.mono HB2.out.size)).alloc (by have := hb.size; have := HB2.out.size; omega) (.cells #[.int .i64 0, .int .i64 B, .int .i64 C3, .int .i64 D3] 77))
    obtain ⟨y0, y1, y2, y3⟩ := (q4_new w3 0 B C3 D3).cell
    clear hb HAT HB2 CT
    go_wp2_with fail
    go_ret2
    exact ⟨ret_ii HV2.out.1.symm HV2.out.2.symm, HB3.out⟩
  · have hd2 : (A == 0) = false := by simp [hd]
    obtain ⟨b0, b1⟩ := (inB_iff _ _ _).1 hb1
    have hq : b * A / B ≤ 1000000000 := by
      have h1 : b * A ≤ b * B := Int.mul_le_mul_of_nonneg_left e3 (by omega)
      have h2 : b * A / B ≤ b * B / B := Int.ediv_le_ediv (by omega) h1
      rw [Int.mul_ediv_cancel _ (by omega)] at h2
      omega
    have HV2 : Hid (amtV r f xs x b = b * A / B ∧ E = 0) := Lib.hid (by
      have e := HE.out
      rw [if_neg hd] at e
      have := HV.out
      rw [e, if_pos rfl] at this
      exact ⟨this, e⟩)
    have CU := Lib.hid (fun W => md_impl b A B W)
    have hin : mvIn b A B = true := (mvIn_iff b A B).2 ⟨⟨by omega, by omega⟩, ⟨by omega, by omega⟩, by omega, by omega⟩
    obtain ⟨g0, g1, g2⟩ := md_in hin (by omega)
    rw [g0, g1, g2] at CU
    obtain ⟨Q, hQ⟩ : ∃ y_, b * A / B = y_ := ⟨_, rfl⟩
    obtain ⟨Z, hZ⟩ : ∃ y_, b * A % B = y_ := ⟨_, rfl⟩
    rw [hQ] at CU HV2
    rw [hZ] at CU
    clear hQ hZ hq g0 g1 g2 hin HV HE hd e0 e1 e2 e3
    go_enter Try.func29, Try.ntmps29
    go_wp2_with fail
    with_reducible refine (CO.out _ (Lib.hid (box_b _ _))).mono ?_
    rintro e w1 ⟨rfl, hb⟩
    obtain ⟨hB, hc0, hc1⟩ := box2 hb
    have HB := Lib.hid hB
    clear hB hb
    go_wp2_with (go_at_call 70; refine (within_any _ _ _ _).mono ?_; rintro e w' ⟨rfl, rfl⟩)
    with_reducible refine (co_any r f xs a l c _ (H.out.on HB.out) HT.out r0 r1).mono ?_
    rintro e w2 ⟨R, G, rfl, hR, hG, hGs, hb⟩
    have HB2 := Lib.hid (HB.out.trans (hb.mono HB.out.size))
    have HAT := Lib.hid (CT.out R w2 ⟨G, hG, hGs⟩)
    clear hG hGs hb hc0 hc1 HB hR
    go_wp2_with fail
    with_reducible refine HAT.out.mono ?_
    rintro e w3 ⟨rfl, hb⟩
    have HB3 := Lib.hid ((HB2.out.trans (hb.mono HB2.out.size)).alloc (by have := hb.size; have := HB2.out.size; omega) (.cells #[.int .i64 A, .int .i64 B, .int .i64 C3, .int .i64 D3] 77))
    obtain ⟨y0, y1, y2, y3⟩ := (q4_new w3 A B C3 D3).cell
    clear hb HAT HB2 CT
    go_wp2_with fail
    with_reducible refine (CU.out _).mono ?_
    rintro e w4 ⟨rfl, hb⟩
    have HB4 := Lib.hid (HB3.out.trans (hb.mono HB3.out.size))
    clear hb
    go_wp2_with fail
    go_ret2
    exact ⟨ret_ii HV2.out.1.symm HV2.out.2.symm, HB4.out⟩

end Go.Proofs.Ytmcagpcldjopjaa
