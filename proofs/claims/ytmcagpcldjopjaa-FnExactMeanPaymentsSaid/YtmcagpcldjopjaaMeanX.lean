/- The exact law on MeanPayments. -/
import Derived.Test.YtmcagpcldjopjaaMean
import Derived.Test.YtmcagpcldjopjaaTabL
import Derived.Deep.RegionHeld3
namespace Go.Proofs.Ytmcagpcldjopjaa
open Go.ChangeShapes Go.WideShapes Go.ChangeAt Go.RowKit
set_option linter.unusedVariables false
set_option maxRecDepth 100000

set_option maxHeartbeats 1000000 in
theorem fnExactMeanPayments_walk (f0 : Int) (a0 : Option Addr) (len0 cap0 : Nat) (z0 : List Int) (a1 : Int) (w : World) (w0 : IsRow .i64 w a0 len0 cap0 z0) (w1 : (Lit.int .i64 a1).wf = true) :
    Calls Try.prog 11 #[.agg #[.int .i64 f0, .slice a0 len0 cap0], .int .i64 a1] w fun e w' => e = .returned (.bool true) ∧ Below w.heap.size w w' := by
  have hmx := w0.len_le
  unfold maxLen at hmx
  by_cases hbig : (1048576 : Int) < len0
  · go_enter Try.func11, Try.ntmps11
    go_wp2_with fail
    refine (szT_big _ _ _ _ _ (by omega) hbig).mono ?_
    rintro e w1 ⟨rfl, hb⟩
    obtain ⟨hB, hc0, hc1⟩ := box2 hb
    have HB := Lib.hid hB
    clear hb hB
    go_wp2_with fail
    go_ret
    exact ⟨rfl, HB.out⟩
  · have h0 := w0.ints (by omega)
    obtain ⟨xs, hxs⟩ : ∃ xs, z0.take len0 = xs := ⟨_, rfl⟩
    rw [hxs] at h0
    have H := Lib.hid h0
    have HL := Lib.hid h0.len
    have hfit : (len0 : Int) ≤ 1048576 := by omega
    clear h0 w0 hxs hbig hmx
    go_enter Try.func11, Try.ntmps11
    go_wp2_with fail
    refine (szT_fit _ _ _ _ _ hfit).mono ?_
    rintro e w1 ⟨rfl, hb⟩
    obtain ⟨hB, hc0, hc1⟩ := box2 hb
    have HB := Lib.hid hB
    clear hb hB
    go_wp2_with fail
    refine (toT_any f0 xs _ _ _ _ (H.out.on HB.out) (by omega)).mono ?_
    rintro e w2 ⟨B1, rfl, hg1, hk1, hb⟩
    have hd0 := keep2 hb hc0
    have hd1 := keep2 hb hc1
    have HB2 := Lib.hid (HB.out.trans (hb.mono HB.out.size))
    have HK1 := Lib.hid hk1
    clear hb hk1 hc0 hc1 HB
    go_wp2_with fail
    refine (mean_spec f0 xs _ _ _ a1 _ (HK1.out.ints HL.out (by omega))).mono ?_
    rintro e w3 ⟨rfl, hb⟩
    have hc0 := keep2 hb hd0
    have hc1 := keep2 hb hd1
    have HB3 := Lib.hid (HB2.out.trans (hb.mono HB2.out.size))
    clear hb hd0 hd1 HB2
    go_wp2_with fail
    refine (toT_any f0 xs _ _ _ _ (H.out.on HB3.out) (by omega)).mono ?_
    rintro e w4 ⟨B2, rfl, hg2, hk2, hb⟩
    have hd0 := keep2 hb hc0
    have hd1 := keep2 hb hc1
    have HB4 := Lib.hid (HB3.out.trans (hb.mono HB3.out.size))
    have HK2 := Lib.hid hk2
    clear hb hk2 hc0 hc1 HB3
    go_wp2_with fail
    refine (mean_impl f0 xs _ _ _ a1 _ ((HK2.out.alloc _).ints HL.out (by omega)) (Nat.le_refl _)).mono ?_
    rintro e w5 ⟨rfl, hb⟩
    obtain ⟨hB, hx0, hx1⟩ := box2 hb
    have hc0 := keep2 hB hd0
    have hc1 := keep2 hB hd1
    have HB5 := Lib.hid (HB4.out.trans (hB.mono HB4.out.size))
    have HK5 := Lib.hid (HK2.out.step hB)
    have HXS : Hid (∀ W, Hid (Below w.heap.size w W) → Calls Try.prog 37 #[.agg #[.int .i64 f0, .slice a0 len0 cap0]] W (ToPost W f0 xs len0)) := Lib.hid (fun W hW => toT_any f0 xs _ _ _ W (H.out.on hW.out) (by omega))
    have HEQ : Hid (∀ W B3, Hid (Blk W B2 xs) → Hid (Blk W B3 xs) → Calls Try.prog 38 #[.agg #[.int .i64 f0, .slice (some ⟨B2, 0, none⟩) len0 len0], .agg #[.int .i64 f0, .slice (some ⟨B3, 0, none⟩) len0 len0]] W fun e w' => e = .returned (.bool true) ∧ Below W.heap.size W w') := Lib.hid (fun W B3 hW hV => eqT_same f0 xs _ _ _ _ _ _ W (hW.out.ints HL.out (by omega)) (hV.out.ints HL.out (by omega)))
    obtain ⟨X, hX⟩ : ∃ X, w4.heap.size = X := ⟨_, rfl⟩
    rw [hX] at hx0 hx1
    clear hb hB hd0 hd1 HK1 HK2 HB4
    go_wp2_with fail
    (try rw [hX])
    clear hX
    go_region_held3 (fun w' => w'.cell? ⟨X, 0, none⟩ = some (.int .i64 f0) ∧ w'.cell? ⟨X, 1, none⟩ = some (.slice (some ⟨B2, 0, none⟩) len0 len0) ∧ w'.cell? ⟨w.heap.size, 0, none⟩ = some (.int .i64 f0) ∧ w'.cell? ⟨w.heap.size, 1, none⟩ = some (.slice a0 len0 cap0) ∧ Hid (Below w.heap.size w w') ∧ Hid (Blk w' B2 xs))
      (first
        | (go_split_ands; exact ⟨by assumption, by assumption, by assumption, by assumption, by assumption, by assumption⟩)
        | (go_split_ands; exact ⟨by assumption, by assumption, by assumption, by assumption, Lib.hid (Below.drew (Hid.out (by assumption))), Lib.hid (Blk.drewN (Hid.out (by assumption)) 1)⟩)
        | (go_split_ands; exact ⟨keep2 hb (by assumption), keep2 hb (by assumption), keep2 hb (by assumption), keep2 hb (by assumption), Lib.hid (Below.trans (Hid.out (by assumption)) (Below.mono hb (Below.size (Hid.out (by assumption))))), Lib.hid (Blk.step (Hid.out (by assumption)) hb)⟩))
      (first
        | (go_split_ands; go_at_call 37; ((with_reducible refine (HXS.out _ (by assumption)).mono ?_); rintro e w' ⟨B3, rfl, hg3, hk3, hb⟩; have HK3 := Lib.hid hk3; clear hk3))
        | (go_split_ands; go_at_call 38; ((with_reducible refine (HEQ.out _ _ (by assumption) (by assumption)).mono ?_); rintro e w' ⟨rfl, hb⟩)))
    all_goals
      go_split_ands
      go_wp2_with fail
      go_ret
      exact ⟨rfl, Hid.out (by assumption)⟩

end Go.Proofs.Ytmcagpcldjopjaa
