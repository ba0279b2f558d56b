/- The law of chapter 1 on money's texts and sums, over whatever the draws give. -/
import Derived.Test.YtjcedfafeakikaaDoorDamage
import Derived.Test.YtjcedfafeakikaaDoorReadL
import Derived.Test.YtjcedfafeakikaaDoorSum
namespace Go.Proofs.YtjcedfafeakikaaDoor
open Go.ChangeShapes Go.WideShapes Go.ChangeAt Go.RowKit
set_option linter.unusedVariables false

theorem Below.but {B : Nat} {w w' : World} (h : Below w.heap.size w w') : But B w w' := ⟨h.os, h.tape, h.output, h.size, fun k hk _ => h.block k hk⟩

theorem drawMT (a : Option Addr) (l c : Nat) (z : List Int) (w : World) (hr : IsRow .u8 w a l c z) : Calls Tryd.prog 7 #[.slice a l c] w (OnePost w) := by
  have HR := Lib.hid hr
  clear hr
  go_enter Tryd.func7, Tryd.ntmps7
  go_wp2_with (first | (go_at_call 17; refine (from_any _ _ _ z _ HR.out).mono ?_; rintro e w1 ⟨rfl, hs, hz, hb⟩; have HB := Lib.hid hb; have HS := Lib.hid (ready_of HR.out hs hb); have HO := Lib.hid (But.refl w.heap.size w1); have HZ := Lib.hid hz; clear hs hb hz) | (go_at_call 16; refine (money_r _ _ _ _ _ _ HS.out).mono ?_; rintro e w1 ⟨r, rfl, hd, ho, hs⟩; have HO := Lib.hid (HO.out.trans ho); have HS := Lib.hid hs; clear ho hs hd))
  go_ret
  exact ⟨_, rfl, HB.out.trans (HO.out.below (Nat.le_refl _) (by have := HZ.out; omega))⟩

theorem mtx_len (n : Int) : (mtx n).length ≤ 65 := by
  unfold mtx
  split
  · next h =>
    have hb := (monB_iff n).1 h
    unfold txt
    split
    · have := posT_len n.natAbs (by omega); simp; omega
    · have := posT_len n.toNat (by omega); omega
  · simp

def TextPost (w : World) (e : Ending) (w' : World) : Prop := ∃ s : ByteArray, e = .returned (.string s) ∧ s.size ≤ 100 ∧ Below w.heap.size w w'

theorem drawRM (a : Option Addr) (l c : Nat) (z : List Int) (w : World) (hr : IsRow .u8 w a l c z) : Calls Tryd.prog 10 #[.slice a l c] w (TextPost w) := by
  have HR := Lib.hid hr
  clear hr
  go_enter Tryd.func10, Tryd.ntmps10
  go_wp2_with (first | (go_at_call 17; refine (from_any _ _ _ z _ HR.out).mono ?_; rintro e w1 ⟨rfl, hs, hz, hb⟩; have HB := Lib.hid hb; have HS := Lib.hid (ready_of HR.out hs hb); have HO := Lib.hid (But.refl w.heap.size w1); have HZ := Lib.hid hz; clear hs hb hz) | (go_at_call 16; refine (money_r _ _ _ _ _ _ HS.out).mono ?_; rintro e w1 ⟨r, rfl, hd, ho, hs⟩; have HO := Lib.hid (HO.out.trans ho); have HS := Lib.hid hs; clear ho hs hd))
  refine (mt_spec _ _).mono ?_
  rintro e w2 ⟨rfl, hb⟩
  have hlen := mtx_len r
  have HO := Lib.hid (HO.out.trans (Below.but hb))
  have HS := Lib.hid (HS.out.below hb HS.out.here)
  clear hb
  obtain ⟨M, hM⟩ : ∃ M, mtx r = M := ⟨_, rfl⟩
  rw [hM] at hlen ⊢
  clear hM
  have hsz : (⟨M.toArray⟩ : ByteArray).size ≤ 65 := by show M.toArray.size ≤ _; simpa using hlen
  have HL := Lib.hid hsz
  clear hsz hlen
  go_wp2_with fail
  refine (next_r _ _ _ _ _ _ _ HS.out).mono ?_
  rintro e w3 ⟨q, rfl, hd, ho, hs⟩
  have HO := Lib.hid (HO.out.trans ho)
  have HS := Lib.hid hs
  clear hd ho hs
  by_cases hq : q = 0
  · subst hq
    go_wp2_with fail
    refine (damage_any _ _ _ _ _ _ _ HS.out (by have := HL.out; omega)).mono ?_
    rintro e w4 ⟨s, rfl, hs, ho, hr⟩
    have HO := Lib.hid (HO.out.trans ho)
    have HQ := Lib.hid hs
    clear ho hr hs
    go_wp2_with fail
    go_ret
    exact ⟨s, rfl, by have := HQ.out; have := HL.out; omega, HB.out.trans (HO.out.below (Nat.le_refl _) (by have := HZ.out; omega))⟩
  · have hqb : (q == 0) = false := by simpa using hq
    go_wp2_with fail
    go_ret
    exact ⟨_, rfl, by have := HL.out; omega, HB.out.trans (HO.out.below (Nat.le_refl _) (by have := HZ.out; omega))⟩

/-- what a drawn amount's text gives back -/
theorem back_split (n : Int) : (monB n = true ∧ rdV (mtx n) = n ∧ rdB (mtx n) = true ∧ (mtx n).isEmpty = false) ∨ (rdV (mtx n) = 0 ∧ rdB (mtx n) = false ∧ (mtx n).isEmpty = true) := by
  by_cases h : monB n = true
  · left
    have e : mtx n = txt n := by simp [mtx, h]
    have hr : rd (txt n) = some n := (rd_iff _ _).2 ⟨h, rfl⟩
    rw [e]
    exact ⟨h, by simp [rdV, hr], by simp [rdB, hr], by have := txt_ne n; cases ht : txt n with
      | nil => exact absurd ht this
      | cons _ _ => rfl⟩
  · right
    have e : mtx n = [] := by simp [mtx, h]
    have hr : rd [] = none := by
      cases hh : rd [] with
      | none => rfl
      | some m => exact absurd ((rd_iff _ _).1 hh).2 (txt_ne m)
    rw [e]
    exact ⟨by simp [rdV, hr], by simp [rdB, hr], rfl⟩

theorem text_split (s : ByteArray) : (∃ y, rdV s.data.toList = y ∧ rdB s.data.toList = true ∧ (mtx y == s.toList) = true) ∨ (rdB s.data.toList = false) := by
  rw [toList_eq]
  cases hr : rd s.data.toList with
  | some y =>
    left
    obtain ⟨h1, h2⟩ := (rd_iff _ _).1 hr
    exact ⟨y, by simp [rdV, hr], by simp [rdB, hr], by simp [mtx, h1, h2]⟩
  | none => right; simp [rdB, hr]

theorem soB_rev (xs : List Int) : soB xs.reverse = soB xs := by simp [soB]

theorem soV_rev (xs : List Int) : soV xs.reverse = soV xs := by simp [soV, soB_rev]

theorem soE_rev (xs : List Int) : soE xs.reverse = soE xs := by simp [soE, soB_rev]

end Go.Proofs.YtjcedfafeakikaaDoor
