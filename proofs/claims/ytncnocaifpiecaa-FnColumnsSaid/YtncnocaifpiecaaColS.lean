/- Columns: the model's C, N and M. -/
import Derived.Test.YtncnocaifpiecaaCol
namespace Go.Proofs.Ytncnocaifpiecaa
open Go.ChangeShapes Go.WideShapes Go.ChangeAt Go.RowKit
set_option linter.unusedVariables false
set_option maxRecDepth 100000

set_option maxHeartbeats 800000 in
theorem sC_any (r f : Int) (xs : List Int) (a : Option Addr) (l c : Nat) (x : Int) (w : World) (h : Ints w a l xs) (ht : LTab f xs) (r0 : 0 ≤ r) (r1 : r ≤ 200) (x0 : f ≤ x) (x1 : x ≤ 151) :
    Calls Try.prog 45 #[.agg #[.int .i64 f, .slice a l c], .int .i64 r, .int .i64 x] w fun e w' => e = .returned (.int .i64 (cC r xs (x - f).toNat)) ∧ Below w.heap.size w w' := by
  have H := Lib.hid h
  have HT := Lib.hid ht
  obtain ⟨f0, f1⟩ := ht.1
  obtain ⟨u, hu⟩ : ∃ u, lvs f xs x = u := ⟨_, rfl⟩
  obtain ⟨v, hv⟩ : ∃ v, lvs f xs (x + 1) = v := ⟨_, rfl⟩
  have hub := ht.lvs_bd x
  have hvb := ht.lvs_bd (x + 1)
  have hvu := ht.lvs_mono x (x + 1) (by omega)
  rw [hu] at hub hvu
  rw [hv] at hvb hvu
  obtain ⟨u0, u1⟩ := hub
  obtain ⟨v0, v1⟩ := hvb
  obtain ⟨k, hk⟩ : ∃ k, (x - f).toNat = k := ⟨_, rfl⟩
  have hkx : f + (k : Int) = x := by omega
  obtain ⟨d0, d1⟩ := disc_bd r r0 (k + 1)
  have HU := Lib.hid hu
  have HV := Lib.hid hv
  have HD : Hid (cC r xs k = (u - v) * disc r (k + 1)) := Lib.hid (by
    rw [← hu, ← hv, ← hk]; unfold cC lvs; rw [show (x + 1 - f).toNat = (x - f).toNat + 1 by omega])
  rw [hk]
  clear h ht hu hv
  have C1 : Hid (∀ W, Hid (Below w.heap.size w W) → Calls Try.prog 71 #[.agg #[.int .i64 f, .slice a l c], .int .i64 x] W fun e w' => e = .returned (.int .i64 u) ∧ Below W.heap.size W w') :=
    Lib.hid (fun W hW => by have := lives_any f xs a l c x W (H.out.on hW.out) f0 f1 x0 (by omega); rw [HU.out] at this; exact this)
  have C2 : Hid (∀ W, Hid (Below w.heap.size w W) → Calls Try.prog 71 #[.agg #[.int .i64 f, .slice a l c], .int .i64 (x + 1)] W fun e w' => e = .returned (.int .i64 v) ∧ Below W.heap.size W w') :=
    Lib.hid (fun W hW => by have := lives_any f xs a l c (x + 1) W (H.out.on hW.out) f0 f1 (by omega) (by omega); rw [HV.out] at this; exact this)
  have q1 : IntKind.i64.wrap (x + 1) = x + 1 := IntWalk.i64_in _ (by omega)
  have q2 : IntKind.i64.wrap (u - v) = u - v := IntWalk.i64_in _ (by omega)
  have hp := prod_bd (u - v) (disc r (k + 1)) (by omega) (by omega) d0 d1
  obtain ⟨d, hd⟩ : ∃ d, disc r (k + 1) = d := ⟨_, rfl⟩
  rw [hd] at d0 d1 hp
  obtain ⟨p0, p1⟩ := hp
  have HDD := Lib.hid hd
  have HPQ := Lib.hid (show 0 ≤ (u - v) * d ∧ (u - v) * d ≤ 1000000000000000 from ⟨p0, p1⟩)
  clear hd p0 p1
  go_enter Try.func45, Try.ntmps45
  go_wp2_with fail
  go_region_held3 (fun w' => w'.cell? ⟨w.heap.size, 0, none⟩ = some (.int .i64 f) ∧ w'.cell? ⟨w.heap.size, 1, none⟩ = some (.slice a l c) ∧ Hid (Below w.heap.size w w'))
    (first
      | (go_split_ands; exact ⟨by go_simp, by go_simp, Lib.hid (Below.drew (box_b _ _))⟩)
      | (go_split_ands; exact ⟨by go_simp, by go_simp, Lib.hid (box_b _ _)⟩)
      | (go_split_ands; exact ⟨by assumption, by assumption, by assumption⟩)
      | (go_split_ands; exact ⟨by assumption, by assumption, Lib.hid (Below.drew (Hid.out (by assumption)))⟩)
      | (go_split_ands; exact ⟨keep2 hb (by assumption), keep2 hb (by assumption), Lib.hid (Below.trans (Hid.out (by assumption)) (Below.mono hb (Below.size (Hid.out (by assumption)))))⟩))
    (first
      | (go_split_ands; go_at_call 71; ((with_reducible refine (C1.out _ (by assumption)).mono ?_); rintro e w' ⟨rfl, hb⟩))
      | (go_split_ands; go_at_call 71; ((with_reducible refine (C2.out _ (by assumption)).mono ?_); rintro e w' ⟨rfl, hb⟩)))
  all_goals
    go_split_ands
    obtain ⟨p0, p1⟩ := HPQ.out
    by_cases hk2 : (120 : Int) < x - f + 1
    · have HZ : Hid (cC r xs k = 0) := Lib.hid (HT.out.cC_far r k (by have := HT.out.short; omega))
      go_wp2_with fail
      go_ret
      exact ⟨ret_int HZ.out.symm, Hid.out (by assumption)⟩
    · by_cases hz : u - v = 0
      · have HZ : Hid (cC r xs k = 0) := Lib.hid (by rw [HD.out, hz]; simp)
        have hz2 : (u - v == 0) = true := by simp [hz]
        clear hz
        go_wp2_with fail
        go_ret
        exact ⟨ret_int HZ.out.symm, Hid.out (by assumption)⟩
      · have hz2 : (u - v == 0) = false := by simp [hz]
        clear hz
        go_wp2_with fail
        with_reducible refine (sdisc_at r _ (k + 1) _ (by omega) r0 r1 (by omega)).mono ?_
        rintro e w3 ⟨rfl, rfl⟩
        rw [HDD.out]
        go_wp2_with fail
        go_ret
        exact ⟨ret_int (by rw [HD.out, HDD.out]), Hid.out (by assumption)⟩

theorem fsum_step (F : Nat → Int) (h : ∀ j, 0 ≤ F j ∧ F j ≤ 1000000000000000) (k n : Nat) (hn : n ≤ 1000) : ∃ s d : Int, fsum F k n = s ∧ F (k + n) = d ∧ fsum F k (n + 1) = s + d ∧ 0 ≤ s ∧ s ≤ 1000000000000000000 ∧ 0 ≤ d ∧ d ≤ 1000000000000000 := by
  obtain ⟨h1, h2⟩ := h (k + n)
  obtain ⟨h3, h4⟩ := fsum_bd F h k n
  exact ⟨_, _, rfl, rfl, rfl, h3, by omega, h1, h2⟩

set_option maxHeartbeats 400000 in
theorem sN_any (r f : Int) (xs : List Int) (a : Option Addr) (l c : Nat) (x : Int) (w : World) (h : Ints w a l xs) (ht : LTab f xs) (r0 : 0 ≤ r) (r1 : r ≤ 200) (x0 : f ≤ x) (x1 : x ≤ 151) :
    Calls Try.prog 44 #[.agg #[.int .i64 f, .slice a l c], .int .i64 r, .int .i64 x] w fun e w' => e = .returned (.int .i64 (cN r xs (x - f).toNat)) ∧ Below w.heap.size w w' := by
  have hl := h.len
  have H := Lib.hid h
  have HT := Lib.hid ht
  obtain ⟨f0, f1⟩ := ht.1
  obtain ⟨l0, l1⟩ := ht.2.1
  have hlf := ht.2.2.1
  rw [hl] at l0 l1 hlf
  obtain ⟨k, hk⟩ : ∃ k, (x - f).toNat = k := ⟨_, rfl⟩
  have hkx : f + (k : Int) = x := by omega
  have HL := Lib.hid hl
  rw [hk]
  clear h ht hl
  go_enter Try.func44, Try.ntmps44
  go_wp2_with fail
  go_loopw [7, 8] (fun v i wr => ∃ j : Nat, j ≤ l ∧ (j = 0 ∨ (k : Int) + j ≤ l - 1) ∧ i = .int .i64 (x + j) ∧ v = .int .i64 (fsum (cD r xs) k j) ∧ wr.cell? ⟨w.heap.size, 0, none⟩ = some (.int .i64 f) ∧ wr.cell? ⟨w.heap.size, 1, none⟩ = some (.slice a l c) ∧ Hid (Below w.heap.size w wr)) (fun _ i _ => (f + l - intOf i).toNat)
  case atStart => exact ⟨0, by omega, .inl rfl, by go_num, rfl, by go_simp, by go_simp, Lib.hid (box_b _ _)⟩
  case round =>
    obtain ⟨j, hj, hjl, rfl, rfl, hc0, hc1, HB⟩ := hrel
    by_cases hlt : x + (j : Int) < f + l - 1
    · go_wp2_with fail
      with_reducible refine (end_spec f xs _ _ _ _ (by omega) f0 (by omega)).mono ?_
      rintro e w1 ⟨rfl, hb⟩
      have hd0 := keep2 hb hc0
      have hd1 := keep2 hb hc1
      have HB1 := Lib.hid (HB.out.trans (hb.mono HB.out.size))
      clear hb hc0 hc1 HB
      go_wp2_with fail
      with_reducible refine (sD_any r f xs _ _ _ _ _ (H.out.on HB1.out) HT.out r0 r1 (by omega) (by omega)).mono ?_
      rintro e w2 ⟨rfl, hb⟩
      have hc0 := keep2 hb hd0
      have hc1 := keep2 hb hd1
      have HB2 := Lib.hid (HB1.out.trans (hb.mono HB1.out.size))
      clear hb hd0 hd1 HB1
      have e1 : (x + (j : Int) - f).toNat = k + j := by omega
      rw [e1]
      obtain ⟨s, d, hs, hd, he, b1, b2, b3, b4⟩ := fsum_step (cD r xs) (HT.out.cD_bd r r0) k j (by omega)
      rw [hs, hd]
      have HE := Lib.hid he
      clear hs he hd e1
      go_wp2_with fail
      go_roundw
      case rel => exact ⟨j + 1, by omega, .inr (by omega), by go_num, by first | (rw [HE.out]; go_num) | (rw [HE.out]), hc0, hc1, HB2⟩
      case measure => simp [intOf]; omega
    · go_wp2_with fail
      with_reducible refine (end_spec f xs _ _ _ _ (by omega) f0 (by omega)).mono ?_
      rintro e w1 ⟨rfl, hb⟩
      have HB1 := Lib.hid (HB.out.trans (hb.mono HB.out.size))
      clear hb hc0 hc1 HB
      have HE : Hid (cN r xs k = fsum (cD r xs) k j) := Lib.hid (HT.out.cN_end r k j (by rw [HL.out]; omega))
      obtain ⟨s, hs⟩ : ∃ s, fsum (cD r xs) k j = s := ⟨_, rfl⟩
      rw [hs]
      have HS := Lib.hid hs
      clear hs
      go_wp2_with fail
      go_ret
      exact ⟨ret_int (by rw [HE.out, HS.out]), HB1.out⟩

set_option maxHeartbeats 400000 in
theorem sM_any (r f : Int) (xs : List Int) (a : Option Addr) (l c : Nat) (x : Int) (w : World) (h : Ints w a l xs) (ht : LTab f xs) (r0 : 0 ≤ r) (r1 : r ≤ 200) (x0 : f ≤ x) (x1 : x ≤ 151) :
    Calls Try.prog 46 #[.agg #[.int .i64 f, .slice a l c], .int .i64 r, .int .i64 x] w fun e w' => e = .returned (.int .i64 (cM r xs (x - f).toNat)) ∧ Below w.heap.size w w' := by
  have hl := h.len
  have H := Lib.hid h
  have HT := Lib.hid ht
  obtain ⟨f0, f1⟩ := ht.1
  obtain ⟨l0, l1⟩ := ht.2.1
  have hlf := ht.2.2.1
  rw [hl] at l0 l1 hlf
  obtain ⟨k, hk⟩ : ∃ k, (x - f).toNat = k := ⟨_, rfl⟩
  have hkx : f + (k : Int) = x := by omega
  have HL := Lib.hid hl
  rw [hk]
  clear h ht hl
  go_enter Try.func46, Try.ntmps46
  go_wp2_with fail
  go_loopw [7, 8] (fun v i wr => ∃ j : Nat, j ≤ l ∧ (j = 0 ∨ (k : Int) + j ≤ l - 1) ∧ i = .int .i64 (x + j) ∧ v = .int .i64 (fsum (cC r xs) k j) ∧ wr.cell? ⟨w.heap.size, 0, none⟩ = some (.int .i64 f) ∧ wr.cell? ⟨w.heap.size, 1, none⟩ = some (.slice a l c) ∧ Hid (Below w.heap.size w wr)) (fun _ i _ => (f + l - intOf i).toNat)
  case atStart => exact ⟨0, by omega, .inl rfl, by go_num, rfl, by go_simp, by go_simp, Lib.hid (box_b _ _)⟩
  case round =>
    obtain ⟨j, hj, hjl, rfl, rfl, hc0, hc1, HB⟩ := hrel
    by_cases hlt : x + (j : Int) < f + l - 1
    · go_wp2_with fail
      with_reducible refine (end_spec f xs _ _ _ _ (by omega) f0 (by omega)).mono ?_
      rintro e w1 ⟨rfl, hb⟩
      have hd0 := keep2 hb hc0
      have hd1 := keep2 hb hc1
      have HB1 := Lib.hid (HB.out.trans (hb.mono HB.out.size))
      clear hb hc0 hc1 HB
      go_wp2_with fail
      with_reducible refine (sC_any r f xs _ _ _ _ _ (H.out.on HB1.out) HT.out r0 r1 (by omega) (by omega)).mono ?_
      rintro e w2 ⟨rfl, hb⟩
      have hc0 := keep2 hb hd0
      have hc1 := keep2 hb hd1
      have HB2 := Lib.hid (HB1.out.trans (hb.mono HB1.out.size))
      clear hb hd0 hd1 HB1
      have e1 : (x + (j : Int) - f).toNat = k + j := by omega
      rw [e1]
      obtain ⟨s, d, hs, hd, he, b1, b2, b3, b4⟩ := fsum_step (cC r xs) (HT.out.cC_bd r r0) k j (by omega)
      rw [hs, hd]
      have HE := Lib.hid he
      clear hs he hd e1
      go_wp2_with fail
      go_roundw
      case rel => exact ⟨j + 1, by omega, .inr (by omega), by go_num, by first | (rw [HE.out]; go_num) | (rw [HE.out]), hc0, hc1, HB2⟩
      case measure => simp [intOf]; omega
    · go_wp2_with fail
      with_reducible refine (end_spec f xs _ _ _ _ (by omega) f0 (by omega)).mono ?_
      rintro e w1 ⟨rfl, hb⟩
      have HB1 := Lib.hid (HB.out.trans (hb.mono HB.out.size))
      clear hb hc0 hc1 HB
      have HE : Hid (cM r xs k = fsum (cC r xs) k j) := Lib.hid (HT.out.cM_end r k j (by rw [HL.out]; omega))
      obtain ⟨s, hs⟩ : ∃ s, fsum (cC r xs) k j = s := ⟨_, rfl⟩
      rw [hs]
      have HS := Lib.hid hs
      clear hs
      go_wp2_with fail
      go_ret
      exact ⟨ret_int (by rw [HE.out, HS.out]), HB1.out⟩

end Go.Proofs.Ytncnocaifpiecaa
