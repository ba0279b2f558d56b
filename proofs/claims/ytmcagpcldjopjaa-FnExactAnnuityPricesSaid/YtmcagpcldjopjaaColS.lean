/- Columns: the model's C, N and M. -/
import Derived.Test.YtmcagpcldjopjaaCol
namespace Go.Proofs.Ytmcagpcldjopjaa
open Go.ChangeShapes Go.WideShapes Go.ChangeAt Go.RowKit
set_option linter.unusedVariables false
set_option maxRecDepth 100000

theorem fsum_step (F : Nat → Int) (h : ∀ j, 0 ≤ F j ∧ F j ≤ 1000000000000000) (k n : Nat) (hn : n ≤ 1000) : ∃ s d : Int, fsum F k n = s ∧ F (k + n) = d ∧ fsum F k (n + 1) = s + d ∧ 0 ≤ s ∧ s ≤ 1000000000000000000 ∧ 0 ≤ d ∧ d ≤ 1000000000000000 := by
  obtain ⟨h1, h2⟩ := h (k + n)
  obtain ⟨h3, h4⟩ := fsum_bd F h k n
  exact ⟨_, _, rfl, rfl, rfl, h3, by omega, h1, h2⟩

set_option maxHeartbeats 400000 in
theorem sN_any (r f : Int) (xs : List Int) (a : Option Addr) (l c : Nat) (x : Int) (w : World) (h : Ints w a l xs) (ht : LTab f xs) (r0 : 0 ≤ r) (r1 : r ≤ 200) (x0 : f ≤ x) (x1 : x ≤ 151) :
    Calls Try.prog 63 #[.agg #[.int .i64 f, .slice a l c], .int .i64 r, .int .i64 x] w fun e w' => e = .returned (.int .i64 (cN r xs (x - f).toNat)) ∧ Below w.heap.size w w' := by
  have hl := h.len
  have H := Lib.hid h
  have HT := Lib.hid ht
  obtain ⟨f0, f1⟩ := ht.1
  obtain ⟨l0, l1⟩ := ht.2.1
  have hlf := ht.2.2.1
  rw [hl] at l0 l1 hlf
  obtain ⟨k, hk⟩ : ∃ k, (x - f).toNat = k := ⟨_, rfl⟩
  have hkx : f + (k : Int) = x := by omega
  have HL := Lib.hid hl
  rw [hk]
  clear h ht hl
  go_enter Try.func63, Try.ntmps63
  go_wp2_with fail
  go_loopw [7, 8] (fun v i wr => ∃ j : Nat, j ≤ l ∧ (j = 0 ∨ (k : Int) + j ≤ l - 1) ∧ i = .int .i64 (x + j) ∧ v = .int .i64 (fsum (cD r xs) k j) ∧ wr.cell? ⟨w.heap.size, 0, none⟩ = some (.int .i64 f) ∧ wr.cell? ⟨w.heap.size, 1, none⟩ = some (.slice a l c) ∧ Hid (Below w.heap.size w wr)) (fun _ i _ => (f + l - intOf i).toNat)
  case atStart => exact ⟨0, by omega, .inl rfl, by go_num, rfl, by go_simp, by go_simp, Lib.hid (box_b _ _)⟩
  case round =>
    obtain ⟨j, hj, hjl, rfl, rfl, hc0, hc1, HB⟩ := hrel
    by_cases hlt : x + (j : Int) < f + l - 1
    · go_wp2_with fail
      with_reducible refine (end_spec f xs _ _ _ _ (by omega) f0 (by omega)).mono ?_
      rintro e w1 ⟨rfl, hb⟩
      have hd0 := keep2 hb hc0
      have hd1 := keep2 hb hc1
      have HB1 := Lib.hid (HB.out.trans (hb.mono HB.out.size))
      clear hb hc0 hc1 HB
      go_wp2_with fail
      with_reducible refine (sD_any r f xs _ _ _ _ _ (H.out.on HB1.out) HT.out r0 r1 (by omega) (by omega)).mono ?_
      rintro e w2 ⟨rfl, hb⟩
      have hc0 := keep2 hb hd0
      have hc1 := keep2 hb hd1
      have HB2 := Lib.hid (HB1.out.trans (hb.mono HB1.out.size))
      clear hb hd0 hd1 HB1
      have e1 : (x + (j : Int) - f).toNat = k + j := by omega
      rw [e1]
      obtain ⟨s, d, hs, hd, he, b1, b2, b3, b4⟩ := fsum_step (cD r xs) (HT.out.cD_bd r r0) k j (by omega)
      rw [hs, hd]
      have HE := Lib.hid he
      clear hs he hd e1
      go_wp2_with fail
      go_roundw
      case rel => exact ⟨j + 1, by omega, .inr (by omega), by go_num, by first | (rw [HE.out]; go_num) | (rw [HE.out]), hc0, hc1, HB2⟩
      case measure => simp [intOf]; omega
    · go_wp2_with fail
      with_reducible refine (end_spec f xs _ _ _ _ (by omega) f0 (by omega)).mono ?_
      rintro e w1 ⟨rfl, hb⟩
      have HB1 := Lib.hid (HB.out.trans (hb.mono HB.out.size))
      clear hb hc0 hc1 HB
      have HE : Hid (cN r xs k = fsum (cD r xs) k j) := Lib.hid (HT.out.cN_end r k j (by rw [HL.out]; omega))
      obtain ⟨s, hs⟩ : ∃ s, fsum (cD r xs) k j = s := ⟨_, rfl⟩
      rw [hs]
      have HS := Lib.hid hs
      clear hs
      go_wp2_with fail
      go_ret
      exact ⟨ret_int (by rw [HE.out, HS.out]), HB1.out⟩

end Go.Proofs.Ytmcagpcldjopjaa
