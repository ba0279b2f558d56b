/- slices.symMerge at []int where the right run is one element: what a call does. -/
import Derived.Test.YtalfbhkgjfkneaaSymA
namespace Go.Proofs.Ytalfbhkgjfkneaa
open Go.ChangeShapes Go.WideShapes Go.ChangeAt Go.RowKit
set_option linter.unusedVariables false

theorem rot_one (f : Nat → Nat) (m : Nat) : rotF f m m (m + 1) = f := rot_id_l f m (m + 1)

theorem rot_back (f : Nat → Nat) (m k : Nat) (h : k + 1 ≤ m) : swp (rotF f (k + 1) m (m + 1)) (k + 1) k = rotF f k m (m + 1) := by
  funext p
  simp only [swp, rotF]
  repeat' split
  all_goals first | rfl | (exfalso; omega) | (congr 1; omega)

def RelB (key : Nat → Int) (f : Nat → Nat) (a m : Nat) (w : World) (x y : Value) (wr : World) : Prop :=
  ∃ i j : Nat, x = .int .i64 i ∧ y = .int .i64 j ∧ a ≤ i ∧ i ≤ j ∧ j ≤ m ∧ Hid (∀ k, a ≤ k → k < i → key (f m) ≤ key (f k)) ∧ Hid (∀ k, j ≤ k → k < m → key (f k) < key (f m)) ∧ Hid (∃ m, wr = w.drewN m)

set_option maxRecDepth 100000 in
set_option maxHeartbeats 1000000 in
theorem sym_b (key : Nat → Int) (C R D n c ck : Nat) (f : Nat → Nat) (a m : Nat) (ib : Int) (w : World) (m1 : ib ≤ (m : Int) + 1) (m2 : (m : Int) + 1 ≤ ib) (h : BlkF w D n f) (he : Env C R n ck key w) (hv : ∀ k, k < n → f k < n)
    (hl : Srt key a m f) (hc : Crs key a m (m + 1) f) (h1 : a + 1 < m) (h2 : m + 1 ≤ n) (hn : n ≤ 1073741824) (hC : C ≠ D) (hR : R ≠ D) :
    Calls Try.prog 65 #[.slice (some ⟨D, 0, none⟩) n c, .int .i64 a, .int .i64 m, .int .i64 ib, CV C] w (SrtPost key D n a (m + 1) f w) := by
  have H := Lib.hid h
  have HE := Lib.hid he
  have HV := Lib.hid hv
  have HL := Lib.hid hl
  have HC := Lib.hid hc
  clear h he hv hl hc
  go_enter Try.func65, Try.ntmps65
  go_wp2_with fail
  try generalize (ib - (m : Int) == 1) = bb
  try generalize ((m : Int) - (a : Int) == 1) = bc
  go_loopw [14, 15] (fun x y wr => RelB key f a m w x y wr) (fun x y _ => (intOf y - intOf x).toNat)
  case atStart => exact ⟨a, m, rfl, rfl, by omega, by omega, by omega, Lib.hid (fun k h3 h4 => by omega), Lib.hid (fun k h3 h4 => by omega), Lib.hid ⟨0, rfl⟩⟩
  case round =>
    obtain ⟨i, j, rfl, rfl, hi1, hij, hjb, HI, HJ, HW⟩ := hrel
    by_cases hlt : i < j
    · have hh1 : i ≤ (i + j) / 2 := by omega
      have hh2 : (i + j) / 2 < j := by omega
      obtain ⟨q, hq⟩ : ∃ q : Nat, (i + j) / 2 = q := ⟨_, rfl⟩
      have hqi : ((i : Int) + (j : Int)) / 2 = (q : Int) := by omega
      rw [hq] at hh1 hh2
      clear hq
      have HBr : Hid (BlkF wr D n f) := Lib.hid (by obtain ⟨mm, rfl⟩ := HW.out; exact H.out.drewN mm)
      have HEr : Hid (Env C R n ck key wr) := Lib.hid (by obtain ⟨mm, rfl⟩ := HW.out; exact HE.out.drewN mm)
      have c1 := HBr.out.cell m (by omega)
      have c2 := HBr.out.cell q (by omega)
      have v1 := HV.out m (by omega)
      have v2 := HV.out q (by omega)
      obtain ⟨x, hx⟩ : ∃ x, f m = x := ⟨_, rfl⟩
      obtain ⟨y, hy⟩ : ∃ y, f q = y := ⟨_, rfl⟩
      rw [hx] at c1 v1
      rw [hy] at c2 v2
      have HX := Lib.hid hx
      have HY := Lib.hid hy
      clear hx hy
      by_cases hk : key y < key x
      · have hneg : cmpI (key y) (key x) < 0 := cmp_neg.2 hk
        have HJ2 : Hid (∀ k, q ≤ k → k < m → key (f k) < key (f m)) := Lib.hid fun k h3 h4 => by
          have := srt_key HL.out (show a ≤ q by omega) h3 h4
          rw [HY.out] at this
          rw [HX.out]; omega
        clear hk
        go_wp2_with fail
        go_quiet ((go_at_call 58; exact Calls.quiet_of (clos_any C R n ck key x y _ (HEr.out.drewN _) v1 v2 hn)))
        go_wp2_with fail
        go_roundw
        case rel => exact ⟨i, q, rfl, by go_num, by omega, by omega, by omega, HI, HJ2, Lib.hid (by obtain ⟨mm, rfl⟩ := HW.out; exact ⟨_, World.drewN_drewN _ _ _⟩)⟩
        case measure => simp [intOf]; omega
      · have hneg : ¬ cmpI (key y) (key x) < 0 := fun e => hk (cmp_neg.1 e)
        have HI2 : Hid (∀ k, a ≤ k → k < q + 1 → key (f m) ≤ key (f k)) := Lib.hid fun k h3 h4 => by
          have := srt_key HL.out h3 (show k ≤ q by omega) (by omega)
          rw [HY.out] at this
          rw [HX.out]; omega
        clear hk
        go_wp2_with fail
        go_quiet ((go_at_call 58; exact Calls.quiet_of (clos_any C R n ck key x y _ (HEr.out.drewN _) v1 v2 hn)))
        go_wp2_with fail
        all_goals first | (exfalso; rename_i hh; rw [show decide (cmpI (key y) (key x) < 0) = false from decide_eq_false (Int.not_lt.2 hneg)] at hh; exact Bool.noConfusion hh) | skip
        go_roundw
        case rel => exact ⟨q + 1, j, by go_num, rfl, by omega, by omega, by omega, HI2, HJ, Lib.hid (by obtain ⟨mm, rfl⟩ := HW.out; exact ⟨_, World.drewN_drewN _ _ _⟩)⟩
        case measure => simp [intOf]; omega
    · obtain rfl : i = j := by omega
      obtain ⟨mm, rfl⟩ := HW.out
      have HS : Hid (Srt key a (m + 1) (rotF f i m (m + 1))) := Lib.hid (rot_sorted hi1 hjb (by omega) (Nat.le_refl _) HL.out (fun p q h3 h4 h5 => by omega)
        ⟨fun p q h3 h4 h5 h6 => by omega, fun p q h3 h4 h5 h6 => by
          obtain rfl : q = m := by omega
          exact .inl (HJ.out p h3 h4)⟩
        (fun p q h3 h4 h5 h6 => by
          obtain rfl : q = m := by omega
          have h7 := HI.out p h3 h4
          by_cases e : key (f p) = key (f q)
          · exact .inr ⟨e, HC.out p q h3 (by omega) (Nat.le_refl _) h6 e⟩
          · exact .inl (by omega)) (fun p q h3 h4 h5 h6 => by omega))
      have HP : Hid (Prm a (m + 1) f (rotF f i m (m + 1))) := Lib.hid ((prm_rot f i m (m + 1) hjb (by omega)).mono hi1 (Nat.le_refl _))
      clear hlt
      obtain ⟨wo, hwo⟩ : ∃ wo : World, wo = w.drewN mm := ⟨_, rfl⟩
      have HB0 : Hid (BlkF wo D n f) := Lib.hid (by rw [hwo]; exact H.out.drewN mm)
      have HO0 : Hid (Only D w wo) := Lib.hid (by rw [hwo]; exact (Only.refl _ _).drewN mm)
      rw [← hwo]
      clear hwo
      go_wp2_with fail
      go_loopw [17] (fun x wr => ∃ k : Nat, x = .int .i64 k ∧ i ≤ k ∧ k ≤ m ∧ Hid (BlkF wr D n (rotF f k m (m + 1))) ∧ Hid (Only D w wr)) (fun x _ => (intOf x).toNat - i)
      case atStart => exact ⟨m, rfl, hjb, Nat.le_refl _, Lib.hid (by rw [rot_one]; exact HB0.out), HO0⟩
      case round =>
        obtain ⟨k, rfl, hk1, hk2, HB, HO⟩ := hrel
        by_cases hlt : i < k
        · obtain ⟨k, rfl⟩ : ∃ k', k = k' + 1 := ⟨k - 1, by omega⟩
          have c1 := HB.out.cell (k + 1) (by omega)
          have c2 := HB.out.cell k (by omega)
          have f1 := HB.out.free (k + 1)
          have f2 := HB.out.free k
          have hsw := HB.out.swap (k + 1) k (by omega)
          rw [rot_back f m k hk2] at hsw
          obtain ⟨x, hx⟩ : ∃ x, rotF f (k + 1) m (m + 1) (k + 1) = x := ⟨_, rfl⟩
          obtain ⟨y, hy⟩ : ∃ y, rotF f (k + 1) m (m + 1) k = y := ⟨_, rfl⟩
          rw [hx] at c1
          rw [hy] at c2
          rw [hx, hy] at hsw
          have HSW := Lib.hid hsw
          clear hsw hx hy
          go_wp2_with fail
          go_region
          go_wp2_with fail
          go_roundw
          case rel => exact ⟨k, by go_num, by omega, by omega, Lib.hid (by first | exact HSW.out.drewN _ | exact HSW.out), Lib.hid (by first | exact ((HO.out.setCell (p := ⟨D, k + 1, none⟩) rfl _).setCell (p := ⟨D, k, none⟩) rfl _).drewN _ | exact ((HO.out.drewN _).setCell (p := ⟨D, k + 1, none⟩) rfl _).setCell (p := ⟨D, k, none⟩) rfl _)⟩
          case measure => simp [intOf]; omega
        · obtain rfl : i = k := by omega
          go_wp2_with fail
          go_end0
          exact ⟨rfl, _, HB.out, HP.out, HS.out, HO.out⟩

end Go.Proofs.Ytalfbhkgjfkneaa
