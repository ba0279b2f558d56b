/- slices.insertionSort at []int with giveCents' comparison: what a call does. -/
import Derived.Test.YtalfbhkgjfkneaaCmp
namespace Go.Proofs.Ytalfbhkgjfkneaa
open Go.ChangeShapes Go.WideShapes Go.ChangeAt Go.RowKit
set_option linter.unusedVariables false

/-- of equal keys the lesser number stands first -/
def Asc (key : Nat → Int) (a b : Nat) (f : Nat → Nat) : Prop := ∀ i j, a ≤ i → i < j → j < b → key (f i) = key (f j) → f i < f j

/-- the inner loop of the insertion: what came from i stands at j -/
structure Ins (key : Nat → Int) (f : Nat → Nat) (a i j : Nat) (h : Nat → Nat) : Prop where
  prm : Prm a (i + 1) f h
  at_ : h j = f i
  others : ∀ p, a ≤ p → p < i + 1 → p ≠ j → ∃ q, a ≤ q ∧ q < i ∧ h p = f q
  srt : ∀ p q, a ≤ p → p < q → q < i + 1 → p ≠ j → q ≠ j → Lt key (h p) (h q)
  low : ∀ q, j < q → q < i + 1 → Lt key (h j) (h q)

theorem ins_start {key : Nat → Int} {f g : Nat → Nat} {a i : Nat} (hai : a ≤ i) (hp : Prm a i f g) (hs : Srt key a i g) : Ins key f a i i g where
  prm := hp.mono (Nat.le_refl _) (by omega)
  at_ := hp.out i (by omega)
  others := fun p h1 h2 h3 => hp.from p h1 (by omega)
  srt := fun p q h1 h2 h3 h4 h5 => hs p q h1 h2 (by omega)
  low := fun q h1 h2 => by omega

theorem swp_i (f : Nat → Nat) (i j : Nat) : swp f i j i = f j := by simp [swp]

theorem swp_j (f : Nat → Nat) (i j : Nat) : swp f i j j = f i := by
  simp only [swp]; by_cases h : j = i
  · subst h; simp
  · simp [h]

theorem swp_o (f : Nat → Nat) (i j k : Nat) (h1 : k ≠ i) (h2 : k ≠ j) : swp f i j k = f k := by simp [swp, h1, h2]

theorem ins_step {key : Nat → Int} {f h : Nat → Nat} {a i j : Nat} (H : Ins key f a i (j + 1) h) (h1 : a ≤ j) (h2 : j + 1 ≤ i) (hc : key (h j) < key (h (j + 1))) : Ins key f a i j (swp h (j + 1) j) where
  prm := H.prm.trans (prm_swp h (by omega) (by omega) h1 (by omega))
  at_ := by rw [swp_j]; exact H.at_
  others := fun p h3 h4 h5 => by
    by_cases e : p = j + 1
    · subst e; rw [swp_i]; exact H.others j h1 (by omega) (by omega)
    · rw [swp_o _ _ _ _ e h5]; exact H.others p h3 h4 e
  srt := fun p q h3 h4 h5 h6 h7 => by
    by_cases e1 : p = j + 1
    · subst e1
      rw [swp_i, swp_o _ _ _ q (by omega) (by omega)]
      exact H.srt j q h1 (by omega) h5 (by omega) (by omega)
    · by_cases e2 : q = j + 1
      · subst e2
        rw [swp_i, swp_o _ _ _ p e1 h6]
        exact H.srt p j h3 (by omega) (by omega) e1 (by omega)
      · rw [swp_o _ _ _ p e1 h6, swp_o _ _ _ q e2 h7]
        exact H.srt p q h3 h4 h5 e1 e2
  low := fun q h3 h4 => by
    rw [swp_j]
    by_cases e : q = j + 1
    · subst e; rw [swp_i]; exact .inl hc
    · rw [swp_o _ _ _ q e (by omega)]; exact H.low q (by omega) h4

theorem ins_step' {key : Nat → Int} {f h : Nat → Nat} {a i j : Nat} (H : Ins key f a i j h) (h1 : a < j) (h2 : j ≤ i) (hc : key (h (j - 1)) < key (h j)) : Ins key f a i (j - 1) (swp h j (j - 1)) := by
  obtain ⟨k, rfl⟩ : ∃ k, j = k + 1 := ⟨j - 1, by omega⟩
  exact ins_step H (by omega) h2 hc

theorem ins_end {key : Nat → Int} {f h : Nat → Nat} {a i j : Nat} (H : Ins key f a i j h) (h1 : a ≤ j) (h2 : j ≤ i) (ha : Asc key a (i + 1) f)
    (hc : j = a ∨ ∃ k, j = k + 1 ∧ ¬ key (h k) < key (h j)) : Srt key a (i + 1) h := by
  have hx : ∀ p, a ≤ p → p < j → Lt key (h p) (h j) := by
    rcases hc with rfl | ⟨k, rfl, hk⟩
    · intro p h3 h4; omega
    · have hkk : a ≤ k → Lt key (h k) (h (k + 1)) := fun hak => by
        by_cases e : key (h k) = key (h (k + 1))
        · obtain ⟨q, q1, q2, q3⟩ := H.others k hak (by omega) (by omega)
          refine .inr ⟨e, ?_⟩
          rw [q3, H.at_] at e ⊢
          exact ha q i q1 q2 (by omega) e
        · exact .inl (by omega)
      intro p h3 h4
      by_cases e : p = k
      · subst e; exact hkk h3
      · exact (H.srt p k h3 (by omega) (by omega) (by omega) (by omega)).trans (hkk (by omega))
  intro p q h3 h4 h5
  by_cases e1 : p = j
  · subst e1; exact H.low q h4 h5
  · by_cases e2 : q = j
    · subst e2; exact hx p h3 h4
    · exact H.srt p q h3 h4 h5 e1 e2

theorem Prm.vals {a b n : Nat} {f g : Nat → Nat} (h : Prm a b f g) (hb : b ≤ n) (hv : ∀ k, k < n → f k < n) : ∀ k, k < n → g k < n := by
  intro k hk
  by_cases hi : k < a ∨ b ≤ k
  · rw [h.out k hi]; exact hv k hk
  · obtain ⟨j, h1, h2, h3⟩ := h.from k (by omega) (by omega)
    rw [h3]; exact hv j (by omega)

def SrtPost (key : Nat → Int) (D n a b : Nat) (f : Nat → Nat) (w : World) (e : Ending) (w' : World) : Prop :=
  e = .returned (.tuple #[]) ∧ ∃ g, BlkF w' D n g ∧ Prm a b f g ∧ Srt key a b g ∧ Only D w w'

set_option maxHeartbeats 1000000 in
theorem ins_any (key : Nat → Int) (C R D n c ck : Nat) (f : Nat → Nat) (a b : Nat) (w : World) (h : BlkF w D n f) (he : Env C R n ck key w) (hv : ∀ k, k < n → f k < n) (ha : Asc key a b f)
    (h1 : a ≤ b) (h2 : b ≤ n) (hn : n ≤ 1073741824) (hC : C ≠ D) (hR : R ≠ D) :
    Calls Try.prog 64 #[.slice (some ⟨D, 0, none⟩) n c, .int .i64 a, .int .i64 b, CV C] w (SrtPost key D n a b f w) := by
  have H := Lib.hid h
  have HE := Lib.hid he
  have HV := Lib.hid hv
  have HA := Lib.hid ha
  clear h he hv ha
  go_enter Try.func64, Try.ntmps64
  go_wp2_with fail
  go_loopw [8, 9] (fun x y wr => ∃ i : Nat, ∃ g, x = .int .i64 i ∧ a + 1 ≤ i ∧ (i ≤ b ∨ (i = a + 1 ∧ Hid (g = f))) ∧ Hid (BlkF wr D n g) ∧ Hid (Prm a i f g ∧ Srt key a i g) ∧ Hid (Only D w wr)) (fun x _ _ => b - (intOf x).toNat)
  case atStart => exact ⟨a + 1, f, by go_num, by omega, .inr ⟨rfl, Lib.hid rfl⟩, H, Lib.hid ⟨Prm.refl _ _ _, fun i j h3 h4 h5 => by omega⟩, Lib.hid (Only.refl _ _)⟩
  case round =>
    obtain ⟨i, g, rfl, hi1, hi2, HB, HG, HO⟩ := hrel
    by_cases hib : i < b
    · obtain ⟨wo, rfl⟩ : ∃ wo : World, wo = wr := ⟨_, rfl⟩
      go_wp2_with fail
      go_loopw [9] (fun y wr => ∃ j : Nat, ∃ h, y = .int .i64 j ∧ a ≤ j ∧ j ≤ i ∧ Hid (BlkF wr D n h) ∧ Hid (Ins key f a i j h) ∧ Hid (Only D w wr)) (fun y _ => (intOf y).toNat)
      case atStart => exact ⟨i, g, rfl, by omega, Nat.le_refl _, HB, Lib.hid (ins_start (by omega) HG.out.1 HG.out.2), HO⟩
      case round =>
        obtain ⟨j, h, rfl, hj1, hj2, HB, HI, HO⟩ := hrel
        have hend : (j = a ∨ ∃ k, j = k + 1 ∧ ¬ key (h k) < key (h j)) → Prm a (i + 1) f h ∧ Srt key a (i + 1) h := fun hc =>
          ⟨HI.out.prm, ins_end HI.out hj1 hj2 (fun p q h3 h4 h5 => HA.out p q h3 h4 (by omega)) hc⟩
        have HEnd := Lib.hid hend
        clear hend
        by_cases hja : a < j
        · have c1 := HB.out.cell j (by omega)
          have c2 := HB.out.cell (j - 1) (by omega)
          have f1 := HB.out.free j
          have f2 := HB.out.free (j - 1)
          have hvals := HI.out.prm.vals (by omega) HV.out
          have v1 := hvals j (by omega)
          have v2 := hvals (j - 1) (by omega)
          clear hvals
          have hsw := HB.out.swap j (j - 1) (by omega)
          obtain ⟨x, hx⟩ : ∃ x, h j = x := ⟨_, rfl⟩
          obtain ⟨y, hy⟩ : ∃ y, h (j - 1) = y := ⟨_, rfl⟩
          rw [hx] at c1 v1
          rw [hy] at c2 v2
          rw [hx, hy] at hsw
          have HSW := Lib.hid hsw
          have HX := Lib.hid hx
          have HY := Lib.hid hy
          clear hsw hx hy
          have HEr := Lib.hid (HE.out.only HO.out hC hR)
          have q1 : IntKind.i64.wrap ((j : Int) - 1) = (j : Int) - 1 := IntWalk.i64_in _ (by omega)
          have q2 : ((j : Int) - 1).toNat = j - 1 := by omega
          by_cases hc : key y < key x
          · have hr : cmpI (key y) (key x) < 0 := cmp_neg.2 hc
            have HC := Lib.hid hc
            clear hc
            go_wp2_with fail
            go_quiet ((go_at_call 58; exact Calls.quiet_of (clos_any C R n ck key x y _ (HEr.out.drewN _) v1 v2 hn)))
            go_wp2_with fail
            go_region
            go_wp2_with fail
            go_roundw
            case rel => exact ⟨j - 1, _, by go_num, by omega, by omega, Lib.hid (by first | exact HSW.out.drewN _ | exact HSW.out), Lib.hid (ins_step' HI.out hja hj2 (by rw [HX.out, HY.out]; exact HC.out)), Lib.hid (by first | exact ((HO.out.setCell (p := ⟨D, j, none⟩) rfl _).setCell (p := ⟨D, j - 1, none⟩) rfl _).drewN _ | exact ((HO.out.drewN _).setCell (p := ⟨D, j, none⟩) rfl _).setCell (p := ⟨D, j - 1, none⟩) rfl _)⟩
            case measure => simp [intOf]; omega
          · have hr : ¬ cmpI (key y) (key x) < 0 := fun e => hc (cmp_neg.1 e)
            have HG2 := Lib.hid (HEnd.out (.inr ⟨j - 1, by omega, by rw [HX.out, HY.out]; exact hc⟩))
            clear hc
            go_wp2_with fail
            go_quiet ((go_at_call 58; exact Calls.quiet_of (clos_any C R n ck key x y _ (HEr.out.drewN _) v1 v2 hn)))
            go_wp2_with fail
            go_roundw
            case rel => exact ⟨i + 1, h, by go_num, by omega, .inl (by omega), Lib.hid (HB.out.drewN _), HG2, Lib.hid (HO.out.drewN _)⟩
            case measure => simp [intOf]; omega
        · have HG2 := Lib.hid (HEnd.out (.inl (by omega)))
          have hjf : decide (a < j) = false := by simp; omega
          go_wp2_with fail
          go_quiet (fail)
          go_wp2_with fail
          go_roundw
          case rel => exact ⟨i + 1, h, by go_num, by omega, .inl (by omega), Lib.hid (HB.out.drewN _), HG2, Lib.hid (HO.out.drewN _)⟩
          case measure => simp [intOf]; omega
    · have HF : Hid (Prm a b f g ∧ Srt key a b g) := Lib.hid (by
        by_cases e : i = b
        · subst e; exact HG.out
        · rcases hi2 with h3 | ⟨h3, h4⟩
          · omega
          · rw [h4.out]; exact ⟨Prm.refl _ _ _, fun p q h5 h6 h7 => by omega⟩)
      clear hi2
      go_wp2_with fail
      go_end0
      exact ⟨rfl, g, HB.out, HF.out.1, HF.out.2, HO.out⟩

end Go.Proofs.Ytalfbhkgjfkneaa
