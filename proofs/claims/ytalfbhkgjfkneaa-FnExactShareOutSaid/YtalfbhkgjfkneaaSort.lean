/- slices.stable and slices.SortStableFunc at []int with giveCents' comparison: what a call does. -/
import Derived.Test.YtalfbhkgjfkneaaStab
namespace Go.Proofs.Ytalfbhkgjfkneaa
open Go.ChangeShapes Go.WideShapes Go.ChangeAt Go.RowKit
set_option linter.unusedVariables false

def RelI (key : Nat → Int) (D n : Nat) (w : World) (x y : Value) (wr : World) : Prop :=
  ∃ (t a b : Nat) (g : Nat → Nat), x = .int .i64 a ∧ y = .int .i64 b ∧ a ≤ n ∧ Hid (a = 20 * t) ∧ Hid (b = a + 20) ∧ Hid (InsS key n a g) ∧ Hid (BlkF wr D n g) ∧ Hid (Prm 0 n id g) ∧ Hid (Only D w wr)

def RelO (key : Nat → Int) (D n : Nat) (w : World) (x : Value) (wr : World) : Prop :=
  ∃ (bs : Nat) (g : Nat → Nat), x = .int .i64 bs ∧ 0 < bs ∧ bs ≤ 2 * n + 20 ∧ Hid (∀ u, BlkS key n bs g (bs * u)) ∧ Hid (BlkF wr D n g) ∧ Hid (Prm 0 n id g) ∧ Hid (Only D w wr)

def RelJ (key : Nat → Int) (D n bs : Nat) (w : World) (x y : Value) (wr : World) : Prop :=
  ∃ (t a b : Nat) (g : Nat → Nat), x = .int .i64 a ∧ y = .int .i64 b ∧ a ≤ n ∧ Hid (a = 2 * bs * t) ∧ Hid (b = a + 2 * bs) ∧ Hid (MidS key n bs a g) ∧ Hid (BlkF wr D n g) ∧ Hid (Prm 0 n id g) ∧ Hid (Only D w wr)

set_option maxRecDepth 100000 in
set_option maxHeartbeats 2000000 in
theorem stab_any (key : Nat → Int) (C R D n c ck : Nat) (w : World) (h : BlkF w D n id) (he : Env C R n ck key w) (hn : n ≤ 1073741824) (hC : C ≠ D) (hR : R ≠ D) :
    Calls Try.prog 62 #[.slice (some ⟨D, 0, none⟩) n c, .int .i64 n, CV C] w (SrtPost key D n 0 n id w) := by
  have H := Lib.hid h
  have HE := Lib.hid he
  have HV : Hid (∀ g, Prm 0 n id g → ∀ k, k < n → g k < n) := Lib.hid fun g hg => hg.vals (Nat.le_refl _) (fun k hk => hk)
  clear h he
  go_enter Try.func62, Try.ntmps62
  go_wp2_with fail
  go_loopw [7, 8] (fun x y wr => RelI key D n w x y wr) (fun _ y _ => n + 1 - (intOf y).toNat)
  case atStart => exact ⟨0, 0, 20, id, rfl, rfl, Nat.zero_le _, Lib.hid rfl, Lib.hid rfl, Lib.hid ⟨fun u hu => by omega, fun k _ _ => rfl⟩, H, Lib.hid (Prm.refl _ _ _), Lib.hid (Only.refl _ _)⟩
  case round =>
    obtain ⟨t, a, b, g, rfl, rfl, han, HT, HBA, HI, HB, HP, HO⟩ := hrel
    by_cases hlt : b ≤ n
    · have hab : a ≤ b := by have := HBA.out; omega
      have hb20 : b = a + 20 := HBA.out
      have HB20 := Lib.hid hb20
      clear hb20
      go_wp2_with fail
      refine (ins_any key C R D n c ck g a b wr HB.out (HE.out.only HO.out hC hR) (HV.out g HP.out) (insS_asc HI.out hlt) hab hlt hn hC hR).mono ?_
      rintro x w1 ⟨rfl, g1, hb, hp, hs, ho⟩
      have HB1 := Lib.hid hb
      have HO1 := Lib.hid (HO.out.trans ho)
      have HP1 : Hid (Prm 0 n id g1) := Lib.hid (HP.out.trans (hp.mono (Nat.zero_le _) hlt))
      have HI1 : Hid (InsS key n b g1) := Lib.hid (by
        have e := HB20.out
        have := insS_step HI.out HT.out hlt (by omega) (.inl e) hp hs
        rw [← e] at this; exact this)
      clear hb ho hp hs
      go_wp2_with fail
      go_roundw
      case rel => exact ⟨t + 1, b, b + 20, g1, rfl, by go_num, hlt, Lib.hid (by have := HT.out; have := HB20.out; omega), Lib.hid rfl, HI1, HB1, HP1, HO1⟩
      case measure => simp [intOf]; omega
    · have hnb : n ≤ a + 20 := by have := HBA.out; omega
      have HNB := Lib.hid hnb
      clear hnb
      go_wp2_with fail
      refine (ins_any key C R D n c ck g a n wr HB.out (HE.out.only HO.out hC hR) (HV.out g HP.out) (insS_asc HI.out (Nat.le_refl _)) han (Nat.le_refl _) hn hC hR).mono ?_
      rintro x w1 ⟨rfl, g1, hb, hp, hs, ho⟩
      have HB1 := Lib.hid hb
      have HO1 := Lib.hid (HO.out.trans ho)
      have HP1 : Hid (Prm 0 n id g1) := Lib.hid (HP.out.trans (hp.mono (Nat.zero_le _) (Nat.le_refl _)))
      have HI1 : Hid (∀ u, BlkS key n 20 g1 (20 * u)) := Lib.hid (insS_end (insS_step HI.out HT.out (Nat.le_refl _) HNB.out (.inr rfl) hp hs) HT.out HNB.out)
      clear hb ho hp hs HB HP HO HI HT HBA HNB
      go_wp2_with fail
      go_loopw [6] (fun x wr => RelO key D n w x wr) (fun x _ => n - (intOf x).toNat)
      case atStart => exact ⟨20, g1, rfl, by omega, by omega, HI1, HB1, HP1, HO1⟩
      case round =>
        obtain ⟨bs, g, rfl, hbs, hbn, HG, HB, HP, HO⟩ := hrel
        by_cases hlo : bs < n
        · go_wp2_with fail
          go_loopw [7, 8] (fun x y wr => RelJ key D n bs w x y wr) (fun _ y _ => n + 1 - (intOf y).toNat)
          case atStart => exact ⟨0, 0, 2 * bs, g, rfl, by go_num, Nat.zero_le _, Lib.hid rfl, Lib.hid (by omega), Lib.hid (midS_start hbs HG.out), HB, HP, HO⟩
          case round =>
            obtain ⟨t, a, b, g, rfl, rfl, han, HT, HBA, HI, HB, HP, HO⟩ := hrel
            by_cases hle : b ≤ n
            · go_wp2_with fail
              have hba := HBA.out
              have hq := midS_req HI.out HT.out hle (by omega) (show a + bs < b by omega)
              refine (sym_any key C R D n c ck hn hC hR (b - a + 1) g a (a + bs) b _ _ _ wr (by omega) rfl (by omega) rfl HB.out (HE.out.only HO.out hC hR) (HV.out g HP.out) hq.1 hq.2.1 hq.2.2 (by omega) (by omega) hle).mono ?_
              rintro x w1 ⟨rfl, g1, hb, hp, hs, ho⟩
              have HB1 := Lib.hid hb
              have HO1 := Lib.hid (HO.out.trans ho)
              have HP1 : Hid (Prm 0 n id g1) := Lib.hid (HP.out.trans (hp.mono (Nat.zero_le _) hle))
              have HI1 : Hid (MidS key n bs b g1) := Lib.hid (by
                have := midS_step hbs HI.out HT.out hle (by omega) (by omega) (.inl hba) hp hs
                rw [← hba] at this; exact this)
              clear hb ho hp hs hq hba
              go_wp2_with fail
              go_roundw
              case rel => exact ⟨t + 1, b, b + 2 * bs, g1, rfl, by go_num, hle, Lib.hid (by have := HT.out; have := HBA.out; rw [Nat.mul_add, Nat.mul_one]; omega), Lib.hid rfl, HI1, HB1, HP1, HO1⟩
              case measure => simp [intOf]; omega
            · have hnb : n ≤ a + 2 * bs := by have := HBA.out; omega
              have HNB := Lib.hid hnb
              clear hnb
              by_cases hm : a + bs < n
              · go_wp2_with fail
                have hq := midS_req HI.out HT.out (Nat.le_refl n) HNB.out hm
                refine (sym_any key C R D n c ck hn hC hR (n - a + 1) g a (a + bs) n _ _ _ wr (by omega) rfl (by omega) rfl HB.out (HE.out.only HO.out hC hR) (HV.out g HP.out) hq.1 hq.2.1 hq.2.2 (by omega) (by omega) (Nat.le_refl _)).mono ?_
                rintro x w1 ⟨rfl, g1, hb, hp, hs, ho⟩
                have HB1 := Lib.hid hb
                have HO1 := Lib.hid (HO.out.trans ho)
                have HP1 : Hid (Prm 0 n id g1) := Lib.hid (HP.out.trans (hp.mono (Nat.zero_le _) (Nat.le_refl _)))
                have HG1 : Hid (∀ u, BlkS key n (2 * bs) g1 (2 * bs * u)) := Lib.hid (midS_end (midS_step hbs HI.out HT.out (Nat.le_refl _) HNB.out hm (.inr rfl) hp hs) HT.out HNB.out)
                clear hb ho hp hs hq
                go_wp2_with fail
                go_roundw
                case rel => exact ⟨2 * bs, g1, by go_num, by omega, by omega, HG1, HB1, HP1, HO1⟩
                case measure => simp [intOf]; omega
              · have HG1 : Hid (∀ u, BlkS key n (2 * bs) g (2 * bs * u)) := Lib.hid (midS_short HI.out HT.out (by omega))
                go_wp2_with fail
                go_roundw
                case rel => exact ⟨2 * bs, g, by go_num, by omega, by omega, HG1, HB, HP, HO⟩
                case measure => simp [intOf]; omega
        · go_wp2_with fail
          go_end0
          exact ⟨rfl, g, HB.out, HP.out, blkS_all HG.out (by omega), HO.out⟩

set_option maxHeartbeats 400000 in
theorem sort_any (key : Nat → Int) (C R D n c ck : Nat) (w : World) (h : BlkF w D n id) (he : Env C R n ck key w) (hn : n ≤ 1073741824) (hC : C ≠ D) (hR : R ≠ D) :
    Calls Try.prog 57 #[.slice (some ⟨D, 0, none⟩) n c, CV C] w (SrtPost key D n 0 n id w) := by
  have H := Lib.hid h
  have HE := Lib.hid he
  clear h he
  go_enter Try.func57, Try.ntmps57
  go_wp2_with (refine (stab_any key C R D n c ck _ H.out HE.out hn hC hR).mono ?_)
  rintro x w1 ⟨rfl, g1, hb, hp, hs, ho⟩
  have HB1 := Lib.hid hb
  have HO1 := Lib.hid ho
  have HP1 := Lib.hid hp
  have HS1 := Lib.hid hs
  clear hb ho hp hs
  go_wp2_with fail
  go_end0
  exact ⟨rfl, g1, HB1.out, HP1.out, HS1.out, HO1.out⟩

end Go.Proofs.Ytalfbhkgjfkneaa
