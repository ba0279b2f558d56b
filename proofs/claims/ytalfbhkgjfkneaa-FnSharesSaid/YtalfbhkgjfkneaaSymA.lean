/- slices.symMerge at []int where the left run is one element: what a call does. -/
import Derived.Test.YtalfbhkgjfkneaaSymM
namespace Go.Proofs.Ytalfbhkgjfkneaa
open Go.ChangeShapes Go.WideShapes Go.ChangeAt Go.RowKit
set_option linter.unusedVariables false

theorem rot_next (f : Nat → Nat) (a k : Nat) (h : a ≤ k) : swp (rotF f a (a + 1) (k + 1)) k (k + 1) = rotF f a (a + 1) (k + 1 + 1) := by
  funext p
  simp only [swp, rotF]
  repeat' split
  all_goals first | rfl | (exfalso; omega) | (congr 1; omega)

def RelA (key : Nat → Int) (f : Nat → Nat) (a b : Nat) (w : World) (x y : Value) (wr : World) : Prop :=
  ∃ i j : Nat, x = .int .i64 i ∧ y = .int .i64 j ∧ a + 1 ≤ i ∧ i ≤ j ∧ j ≤ b ∧ Hid (∀ k, a + 1 ≤ k → k < i → key (f a) < key (f k)) ∧ Hid (∀ k, j ≤ k → k < b → key (f k) ≤ key (f a)) ∧ Hid (∃ m, wr = w.drewN m)

set_option maxRecDepth 100000 in
set_option maxHeartbeats 1000000 in
theorem sym_a (key : Nat → Int) (C R D n c ck : Nat) (f : Nat → Nat) (a b : Nat) (im : Int) (w : World) (m1 : im ≤ (a : Int) + 1) (m2 : (a : Int) + 1 ≤ im) (h : BlkF w D n f) (he : Env C R n ck key w) (hv : ∀ k, k < n → f k < n)
    (hr : Srt key (a + 1) b f) (hc : Crs key a (a + 1) b f) (h1 : a + 1 < b) (h2 : b ≤ n) (hn : n ≤ 1073741824) (hC : C ≠ D) (hR : R ≠ D) :
    Calls Try.prog 65 #[.slice (some ⟨D, 0, none⟩) n c, .int .i64 a, .int .i64 im, .int .i64 b, CV C] w (SrtPost key D n a b f w) := by
  have H := Lib.hid h
  have HE := Lib.hid he
  have HV := Lib.hid hv
  have HR := Lib.hid hr
  have HC := Lib.hid hc
  clear h he hv hr hc
  go_enter Try.func65, Try.ntmps65
  go_wp2_with fail
  generalize (im - (a : Int) == 1) = bb
  go_loopw [10, 11] (fun x y wr => RelA key f a b w x y wr) (fun x y _ => (intOf y - intOf x).toNat)
  case atStart => exact ⟨a + 1, b, by congr 1; omega, rfl, by omega, by omega, by omega, Lib.hid (fun k h3 h4 => by omega), Lib.hid (fun k h3 h4 => by omega), Lib.hid ⟨0, rfl⟩⟩
  case round =>
    obtain ⟨i, j, rfl, rfl, hi1, hij, hjb, HI, HJ, HW⟩ := hrel
    by_cases hlt : i < j
    · have hh1 : i ≤ (i + j) / 2 := by omega
      have hh2 : (i + j) / 2 < j := by omega
      obtain ⟨q, hq⟩ : ∃ q : Nat, (i + j) / 2 = q := ⟨_, rfl⟩
      have hqi : ((i : Int) + (j : Int)) / 2 = (q : Int) := by omega
      rw [hq] at hh1 hh2
      clear hq
      have HBr : Hid (BlkF wr D n f) := Lib.hid (by obtain ⟨mm, rfl⟩ := HW.out; exact H.out.drewN mm)
      have HEr : Hid (Env C R n ck key wr) := Lib.hid (by obtain ⟨mm, rfl⟩ := HW.out; exact HE.out.drewN mm)
      have c1 := HBr.out.cell q (by omega)
      have c2 := HBr.out.cell a (by omega)
      have v1 := HV.out (q) (by omega)
      have v2 := HV.out a (by omega)
      obtain ⟨x, hx⟩ : ∃ x, f (q) = x := ⟨_, rfl⟩
      obtain ⟨y, hy⟩ : ∃ y, f a = y := ⟨_, rfl⟩
      rw [hx] at c1 v1
      rw [hy] at c2 v2
      have HX := Lib.hid hx
      have HY := Lib.hid hy
      clear hx hy
      by_cases hk : key y < key x
      · have hneg : cmpI (key y) (key x) < 0 := cmp_neg.2 hk
        have HI2 : Hid (∀ k, a + 1 ≤ k → k < q + 1 → key (f a) < key (f k)) := Lib.hid fun k h3 h4 => by
          have := srt_key HR.out h3 (show k ≤ q by omega) (by omega)
          rw [HX.out] at this
          rw [HY.out]; omega
        clear hk
        go_wp2_with fail
        go_quiet ((go_at_call 58; exact Calls.quiet_of (clos_any C R n ck key x y _ (HEr.out.drewN _) v1 v2 hn)))
        go_wp2_with fail
        go_roundw
        case rel => exact ⟨q + 1, j, by go_num, rfl, by omega, by omega, by omega, HI2, HJ, Lib.hid (by obtain ⟨mm, rfl⟩ := HW.out; exact ⟨_, World.drewN_drewN _ _ _⟩)⟩
        case measure => simp [intOf]; omega
      · have hneg : ¬ cmpI (key y) (key x) < 0 := fun e => hk (cmp_neg.1 e)
        have HJ2 : Hid (∀ k, q ≤ k → k < b → key (f k) ≤ key (f a)) := Lib.hid fun k h3 h4 => by
          have := srt_key HR.out (show a + 1 ≤ q by omega) h3 h4
          rw [HX.out] at this
          rw [HY.out]; omega
        clear hk
        go_wp2_with fail
        go_quiet ((go_at_call 58; exact Calls.quiet_of (clos_any C R n ck key x y _ (HEr.out.drewN _) v1 v2 hn)))
        go_wp2_with fail
        go_roundw
        case rel => exact ⟨i, q, rfl, by go_num, by omega, by omega, by omega, HI, HJ2, Lib.hid (by obtain ⟨mm, rfl⟩ := HW.out; exact ⟨_, World.drewN_drewN _ _ _⟩)⟩
        case measure => simp [intOf]; omega
    · obtain rfl : i = j := by omega
      obtain ⟨mm, rfl⟩ := HW.out
      have HS : Hid (Srt key a b (rotF f a (a + 1) i)) := Lib.hid (rot_sorted (Nat.le_refl _) (by omega) hi1 hjb (fun p q h3 h4 h5 => by omega) HR.out
        ⟨fun p q h3 h4 h5 h6 => by omega, fun p q h3 h4 h5 h6 => by
          obtain rfl : p = a := by omega
          exact .inl (HI.out q h5 h6)⟩
        (fun p q h3 h4 h5 h6 => by omega) (fun p q h3 h4 h5 h6 => by
          obtain rfl : p = a := by omega
          have h7 := HJ.out q h5 h6
          by_cases e : key (f p) = key (f q)
          · exact .inr ⟨e, HC.out p q (Nat.le_refl _) (by omega) (by omega) h6 e⟩
          · exact .inl (by omega)))
      have HP : Hid (Prm a b f (rotF f a (a + 1) i)) := Lib.hid ((prm_rot f a (a + 1) i (by omega) hi1).mono (Nat.le_refl _) hjb)
      clear hlt
      obtain ⟨wo, hwo⟩ : ∃ wo : World, wo = w.drewN mm := ⟨_, rfl⟩
      have HB0 : Hid (BlkF wo D n f) := Lib.hid (by rw [hwo]; exact H.out.drewN mm)
      have HO0 : Hid (Only D w wo) := Lib.hid (by rw [hwo]; exact (Only.refl _ _).drewN mm)
      rw [← hwo]
      clear hwo
      go_wp2_with fail
      go_loopw [13] (fun x wr => ∃ k : Nat, x = .int .i64 k ∧ a ≤ k ∧ k + 1 ≤ i ∧ Hid (BlkF wr D n (rotF f a (a + 1) (k + 1))) ∧ Hid (Only D w wr)) (fun x _ => i - (intOf x).toNat)
      case atStart => exact ⟨a, rfl, Nat.le_refl _, hi1, Lib.hid (by rw [rot_id_r]; exact HB0.out), HO0⟩
      case round =>
        obtain ⟨k, rfl, hk1, hk2, HB, HO⟩ := hrel
        by_cases hlt : k + 1 < i
        · have c1 := HB.out.cell k (by omega)
          have c2 := HB.out.cell (k + 1) (by omega)
          have f1 := HB.out.free k
          have f2 := HB.out.free (k + 1)
          have hsw := HB.out.swap k (k + 1) (by omega)
          rw [rot_next f a k hk1] at hsw
          obtain ⟨x, hx⟩ : ∃ x, rotF f a (a + 1) (k + 1) k = x := ⟨_, rfl⟩
          obtain ⟨y, hy⟩ : ∃ y, rotF f a (a + 1) (k + 1) (k + 1) = y := ⟨_, rfl⟩
          rw [hx] at c1
          rw [hy] at c2
          rw [hx, hy] at hsw
          have HSW := Lib.hid hsw
          clear hsw hx hy
          go_wp2_with fail
          go_region
          go_wp2_with fail
          go_roundw
          case rel => exact ⟨k + 1, by go_num, by omega, by omega, Lib.hid (by first | exact HSW.out.drewN _ | exact HSW.out), Lib.hid (by first | exact ((HO.out.setCell (p := ⟨D, k, none⟩) rfl _).setCell (p := ⟨D, k + 1, none⟩) rfl _).drewN _ | exact ((HO.out.drewN _).setCell (p := ⟨D, k, none⟩) rfl _).setCell (p := ⟨D, k + 1, none⟩) rfl _)⟩
          case measure => simp [intOf]; omega
        · obtain rfl : k + 1 = i := by omega
          go_wp2_with fail
          go_end0
          exact ⟨rfl, _, HB.out, HP.out, HS.out, HO.out⟩

end Go.Proofs.Ytalfbhkgjfkneaa
