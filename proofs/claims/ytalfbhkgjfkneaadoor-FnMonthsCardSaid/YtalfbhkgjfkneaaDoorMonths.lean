/- The law of chapter 2 on months and their texts, over whatever the draws give. -/
import Derived.Test.YtalfbhkgjfkneaaDoorRdMonS
import Derived.Test.YtalfbhkgjfkneaaDoorAges
import Derived.Test.YtalfbhkgjfkneaaDoorDamage
namespace Go.Proofs.YtalfbhkgjfkneaaDoor
open Go.ChangeShapes Go.WideShapes Go.ChangeAt Go.RowKit
set_option linter.unusedVariables false

theorem But.of_below {B : Nat} {w w' : World} (h : Below w.heap.size w w') : But B w w' := ⟨h.os, h.tape, h.output, h.size, fun k hk _ => h.block k hk⟩

theorem drawMO (a : Option Addr) (l c : Nat) (z : List Int) (w : World) (hr : IsRow .u8 w a l c z) : Calls Tryd.prog 6 #[.slice a l c] w (TwoPost w) := by
  have HR := Lib.hid hr
  clear hr
  go_enter Tryd.func6, Tryd.ntmps6
  go_wp2_with (first | (go_at_call 17; refine (from_any _ _ _ z _ HR.out).mono ?_; rintro e w1 ⟨rfl, hs, hz, hb⟩; have HB := Lib.hid hb; have HS := Lib.hid (ready_of HR.out hs hb); have HO := Lib.hid (But.refl w.heap.size w1); have HZ := Lib.hid hz; clear hs hb hz) | (go_at_call 18; refine (next_r _ _ _ _ _ _ _ HS.out).mono ?_; rintro e w1 ⟨r, rfl, hd, ho, hs⟩; have HO := Lib.hid (HO.out.trans ho); have HS := Lib.hid hs; clear ho hs hd) | (go_at_call 19; ((with_reducible refine (pick4 _ _ _ _ _ _ _ HS.out).mono ?_); rintro e w1 ⟨r, rfl, hd, ho, hs⟩; have HO := Lib.hid (HO.out.trans ho); have HS := Lib.hid hs; clear ho hs hd)))
  all_goals
    go_ret2
    exact ⟨_, _, rfl, HB.out.trans (HO.out.below (Nat.le_refl _) (by have := HZ.out; omega))⟩

theorem drawYO (a : Option Addr) (l c : Nat) (z : List Int) (w : World) (hr : IsRow .u8 w a l c z) : Calls Tryd.prog 9 #[.slice a l c] w (OnePost w) := by
  have HR := Lib.hid hr
  clear hr
  go_enter Tryd.func9, Tryd.ntmps9
  go_wp2_with (first | (go_at_call 17; refine (from_any _ _ _ z _ HR.out).mono ?_; rintro e w1 ⟨rfl, hs, hz, hb⟩; have HB := Lib.hid hb; have HS := Lib.hid (ready_of HR.out hs hb); have HO := Lib.hid (But.refl w.heap.size w1); have HZ := Lib.hid hz; clear hs hb hz) | (go_at_call 22; refine (mon_r _ _ _ _ _ _ HS.out).mono ?_; rintro e w1 ⟨r, rfl, hd, ho, hs⟩; have HO := Lib.hid (HO.out.trans ho); have HS := Lib.hid hs; clear ho hs hd))
  go_ret
  exact ⟨_, rfl, HB.out.trans (HO.out.below (Nat.le_refl _) (by have := HZ.out; omega))⟩

theorem mtT_len (n : Int) : (mtT n).length ≤ 7 := by
  unfold mtT
  split
  · simp [mtI]
  · simp

def TextPost2 (w : World) (e : Ending) (w' : World) : Prop := ∃ s : ByteArray, e = .returned (.string s) ∧ s.size ≤ 100 ∧ Below w.heap.size w w'

theorem drawRdM (a : Option Addr) (l c : Nat) (z : List Int) (w : World) (hr : IsRow .u8 w a l c z) : Calls Tryd.prog 14 #[.slice a l c] w (TextPost2 w) := by
  have HR := Lib.hid hr
  clear hr
  go_enter Tryd.func14, Tryd.ntmps14
  go_wp2_with (first | (go_at_call 17; refine (from_any _ _ _ z _ HR.out).mono ?_; rintro e w1 ⟨rfl, hs, hz, hb⟩; have HB := Lib.hid hb; have HS := Lib.hid (ready_of HR.out hs hb); have HO := Lib.hid (But.refl w.heap.size w1); have HZ := Lib.hid hz; clear hs hb hz) | (go_at_call 22; refine (mon_r _ _ _ _ _ _ HS.out).mono ?_; rintro e w1 ⟨r, rfl, hd, ho, hs⟩; have HO := Lib.hid (HO.out.trans ho); have HS := Lib.hid hs; clear ho hs hd))
  refine (mt2_spec _ _).mono ?_
  rintro e w2 ⟨rfl, hb⟩
  have hlen := mtT_len r
  have HO := Lib.hid (HO.out.trans (But.of_below hb))
  have HS := Lib.hid (HS.out.below hb HS.out.here)
  clear hb
  obtain ⟨M, hM⟩ : ∃ M, mtT r = M := ⟨_, rfl⟩
  rw [hM] at hlen ⊢
  clear hM
  have hsz : (⟨M.toArray⟩ : ByteArray).size ≤ 65 := by show M.toArray.size ≤ _; simp; omega
  have HL := Lib.hid hsz
  clear hsz hlen
  go_wp2_with fail
  refine (next_r _ _ _ _ _ _ _ HS.out).mono ?_
  rintro e w3 ⟨q, rfl, hd, ho, hs⟩
  have HO := Lib.hid (HO.out.trans ho)
  have HS := Lib.hid hs
  clear hd ho hs
  by_cases hq : q = 0
  · subst hq
    go_wp2_with fail
    refine (damage_any _ _ _ _ _ _ _ HS.out (by have := HL.out; omega)).mono ?_
    rintro e w4 ⟨s, rfl, hs, ho, hr⟩
    have HO := Lib.hid (HO.out.trans ho)
    have HQ := Lib.hid hs
    clear ho hr hs
    go_wp2_with fail
    go_ret
    exact ⟨s, rfl, by have := HQ.out; have := HL.out; omega, HB.out.trans (HO.out.below (Nat.le_refl _) (by have := HZ.out; omega))⟩
  · have hqb : (q == 0) = false := by simpa using hq
    go_wp2_with fail
    go_ret
    exact ⟨_, rfl, by have := HL.out; omega, HB.out.trans (HO.out.below (Nat.le_refl _) (by have := HZ.out; omega))⟩

theorem mo_split (y m : Int) : (moE y m = 0 ∧ yoE (moV y m) = 0 ∧ yoY (moV y m) = y ∧ yoM (moV y m) = m) ∨ (moE y m != 0) = true := by
  by_cases h : moB y m = true
  · left
    have hm := mo_mth h
    have e : moV y m = 12 * y + m - 1 := by simp [moV, h]
    unfold moB at h
    rw [Bool.and_eq_true, inB_iff, inB_iff] at h
    rw [e]
    refine ⟨by unfold moE; rw [if_pos]; unfold moB; rw [Bool.and_eq_true, inB_iff, inB_iff]; exact h, by simp [yoE, hm], ?_, ?_⟩
    · simp [yoY, hm]; omega
    · simp [yoM, hm]; omega
  · right; simp [moE, h]

theorem yo_split (k : Int) : (yoE k = 0 ∧ rdmO (mtT k) = true ∧ rdmV (mtT k) = k ∧ moE (yoY k) (yoM k) = 0 ∧ moV (yoY k) (yoM k) = k) ∨ ((yoE k == 0) = false ∧ rdmO (mtT k) = false) := by
  by_cases h : mthB k = true
  · left
    have hr : rdm (mtT k) = some k := (rdm_iff _ _).2 ⟨h, rfl⟩
    obtain ⟨k1, k2⟩ := (mthB_iff k).1 h
    have hb : moB (k / 12) (k % 12 + 1) = true := by unfold moB; rw [Bool.and_eq_true, inB_iff, inB_iff]; omega
    have e1 : yoY k = k / 12 := by simp [yoY, h]
    have e2 : yoM k = k % 12 + 1 := by simp [yoM, h]
    rw [e1, e2]
    refine ⟨by simp [yoE, h], by simp [rdmO, hr], by simp [rdmV, hr], by simp [moE, hb], ?_⟩
    simp [moV, hb]; omega
  · right
    have e : mtT k = [] := by simp [mtT, h]
    have hr : rdm [] = none := by
      cases hh : rdm [] with
      | none => rfl
      | some m =>
        obtain ⟨g1, g2⟩ := (rdm_iff _ _).1 hh
        obtain ⟨m1, m2⟩ := (mthB_iff m).1 g1
        obtain ⟨u, rfl⟩ := Int.eq_ofNat_of_zero_le m1
        rw [mtT_dch u (by omega)] at g2
        cases g2
    rw [e]
    exact ⟨by simp [yoE, h], by simp [rdmO, hr]⟩

theorem rd_split (s : ByteArray) : (∃ y, rdmV s.data.toList = y ∧ rdmO s.data.toList = true ∧ (mtT y == s.toList) = true) ∨ (rdmO s.data.toList = false) := by
  rw [toList_eq]
  cases hr : rdm s.data.toList with
  | some y =>
    left
    obtain ⟨h1, h2⟩ := (rdm_iff _ _).1 hr
    exact ⟨y, by simp [rdmV, hr], by simp [rdmO, hr], by simp [h2]⟩
  | none => right; simp [rdmO, hr]

theorem rd_at (l : List UInt8) (w : World) (h : l.length ≤ 7) (ha : AskE w) : Calls Tryd.prog 13 #[.string ⟨l.toArray⟩] w (RdPost l w) := by
  have := rd_impl ⟨l.toArray⟩ w (by show l.toArray.size ≤ _; simp; omega) ha
  simpa using this

set_option maxRecDepth 100000 in
set_option maxHeartbeats 4000000 in
theorem fnMonths_walk (a0 : Option Addr) (len0 cap0 : Nat) (z0 : List Int) (w : World) (w0 : IsRow .u8 w a0 len0 cap0 z0) (hsh : w.ShapedOpen Tryd.prog) (h1 : ErrIs w "strconv.ErrSyntax") (h2 : ErrIs w "strconv.ErrRange") :
    Calls Tryd.prog 3 #[.slice a0 len0 cap0] w fun e w' => e = .returned (.bool true) ∧ Below w.heap.size w w' := by
  have HA := Lib.hid (AskE.mk h1 h2 hsh)
  clear h1 h2 hsh
  by_cases hbig : (4096 : Int) < len0
  · go_enter Tryd.func3, Tryd.ntmps3
    go_wp2_with (go_at_call 5; refine (big2_any _ _ _ _).mono ?_; rintro e w' ⟨rfl, rfl⟩)
    go_ret
    exact ⟨rfl, Below.refl _ _⟩
  · have HR := Lib.hid w0
    clear w0
    go_enter Tryd.func3, Tryd.ntmps3
    go_wp2_with (go_at_call 5; refine (big2_any _ _ _ _).mono ?_; rintro e w' ⟨rfl, rfl⟩)
    refine (drawMO _ _ _ _ _ HR.out).mono ?_
    rintro e w1 ⟨y, m, rfl, hb⟩
    have HB := Lib.hid hb; have HR1 := Lib.hid (HR.out.below hb HR.out.apart); have HA1 := Lib.hid (HA.out.step hb)
    clear hb
    go_wp2_with (first | (go_at_call 7; refine (mo_impl _ _ _).mono ?_; rintro e w' ⟨rfl, rfl⟩) | (go_at_call 8; refine (mo_spec _ _ _).mono ?_; rintro e w' ⟨rfl, rfl⟩))
    refine (drawYO _ _ _ _ _ HR1.out).mono ?_
    rintro e w2 ⟨k, rfl, hb⟩
    have HR2 := Lib.hid (HR1.out.below hb HR1.out.apart); have HA2 := Lib.hid (HA1.out.step hb); have HB := Lib.hid (HB.out.trans (hb.mono HB.out.size))
    clear hb
    have hlen := mtT_len k
    go_wp2_with (first | (go_at_call 10; refine (yo_impl _ _).mono ?_; rintro e w' ⟨rfl, rfl⟩) | (go_at_call 11; refine (yo_spec _ _).mono ?_; rintro e w' ⟨rfl, rfl⟩))
    refine (mt2_impl _ _).mono ?_
    rintro e w3 ⟨rfl, hb⟩
    have HR3 := Lib.hid (HR2.out.below hb HR2.out.apart); have HA3 := Lib.hid (HA2.out.step hb); have HB := Lib.hid (HB.out.trans (hb.mono HB.out.size))
    clear hb
    go_wp2_with fail
    refine (rd_at _ _ hlen HA3.out).mono ?_
    rintro e w4 ⟨rfl, hb⟩
    have HR4 := Lib.hid (HR3.out.below hb HR3.out.apart); have HA4 := Lib.hid (HA3.out.step hb); have HB := Lib.hid (HB.out.trans (hb.mono HB.out.size))
    clear hb
    go_wp2_with fail
    refine (drawRdM _ _ _ _ _ HR4.out).mono ?_
    rintro e w5 ⟨s, rfl, hs, hb⟩
    have HA5 := Lib.hid (HA4.out.step hb); have HB := Lib.hid (HB.out.trans (hb.mono HB.out.size))
    clear hb
    go_wp2_with fail
    refine (rd_impl _ _ (by omega) HA5.out).mono ?_
    rintro e w6 ⟨rfl, hb⟩
    have HB := Lib.hid (HB.out.trans (hb.mono HB.out.size))
    clear hb
    go_wp2_with fail
    refine (rd_spec _ _ (by omega)).mono ?_
    rintro e w7 ⟨rfl, hb⟩
    have HB := Lib.hid (HB.out.trans (hb.mono HB.out.size))
    clear hb
    go_wp2_with fail
    refine (mt2_spec _ _).mono ?_
    rintro e w8 ⟨rfl, hb⟩
    have HB := Lib.hid (HB.out.trans (hb.mono HB.out.size))
    clear hb
    rcases yo_split k with ⟨k1, k2, k3, k4, k5⟩ | ⟨k1, k2⟩
    all_goals
      rcases rd_split s with ⟨v, v1, v2, v3⟩ | v2
    all_goals
      rcases mo_split y m with ⟨m1, m2, m3, m4⟩ | m1
    all_goals
      go_wp2_with (first | (go_at_call 7; refine (mo_impl _ _ _).mono ?_; rintro e w' ⟨rfl, rfl⟩) | (go_at_call 10; refine (yo_impl _ _).mono ?_; rintro e w' ⟨rfl, rfl⟩) | (go_at_call 12; refine (mt2_impl _ _).mono ?_; rintro e w9 ⟨rfl, hb⟩; have HB := Lib.hid (HB.out.trans (hb.mono HB.out.size)); clear hb))
      go_ret
      exact ⟨rfl, HB.out⟩

end Go.Proofs.YtalfbhkgjfkneaaDoor
