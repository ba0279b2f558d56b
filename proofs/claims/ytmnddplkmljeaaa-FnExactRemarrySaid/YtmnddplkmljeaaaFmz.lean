/- Families: the exact law on Remarry. (Written by wip/gen/fmz.py.) -/
import Derived.Test.YtmnddplkmljeaaaFml
import Derived.Test.YtmnddplkmljeaaaFmr
import Derived.Deep.RegionHeld3
namespace Go.Proofs.Ytmnddplkmljeaaa
open Go.ChangeShapes Go.WideShapes Go.ChangeAt Go.RowKit
set_option linter.unusedVariables false
set_option maxRecDepth 100000

set_option maxHeartbeats 4000000 in
theorem fnExactRemarry_walk (d m v l : Int) (a0 : Option Addr) (len0 cap0 : Nat) (z0 : List Int) (a1 : Int) (w : World) (w0 : IsRow .i64 w a0 len0 cap0 z0) (w1 : (Lit.int .i64 a1).wf = true) :
    Calls Try.prog 12 #[.agg #[.int .i64 d, .int .i64 m, .int .i64 v, .int .i64 l, .slice a0 len0 cap0], .int .i64 a1] w fun e w' => e = .returned (.bool true) ∧ Below w.heap.size w w' := by
  have hmx := w0.len_le
  unfold maxLen at hmx
  clear w1
  by_cases hbig : (1048576 : Int) < len0
  · go_enter Try.func12, Try.ntmps12
    go_wp2_with fail
    refine (szF_big _ _ _ _ _ _ _ _ _ (by omega) (by omega) (by omega) hbig).mono ?_
    rintro e w1 ⟨rfl, hb⟩
    have HB := Lib.hid ((box_b w (.cells #[.int .i64 d, .int .i64 m, .int .i64 v, .int .i64 l, .slice a0 len0 cap0] 48)).trans (hb.mono (by simp)))
    clear hb
    go_wp2_with fail
    go_ret
    exact ⟨rfl, HB.out⟩
  · have h0 := w0.ints (by omega)
    obtain ⟨ch, hch⟩ : ∃ xs, z0.take len0 = xs := ⟨_, rfl⟩
    rw [hch] at h0
    have H := Lib.hid h0
    have hl1 : len0 ≤ 1048576 := by omega
    have hfit : (len0 : Int) ≤ 1048576 := by omega
    have hp : ¬ (1048576 : Int) - len0 < 0 := by omega
    have L0 := (LW.start w).box [.int .i64 d, .int .i64 m, .int .i64 v, .int .i64 l, .slice a0 len0 cap0] 48
    obtain ⟨p0_0, p0_1, p0_2, p0_3, p0_4⟩ := L0.c5 (.head _)
    have HL := Lib.hid L0
    have CT : Hid (∀ W, Hid (Below w.heap.size w W) → Calls Try.prog 41 #[.agg #[.int .i64 d, .int .i64 m, .int .i64 v, .int .i64 l, .slice a0 len0 cap0]] W (TfPost d m v l ch len0 W)) := Lib.hid (fun W hW => toF_any d m v l ch _ _ _ W (H.out.on hW.out) hl1)
    unfold TfPost at CT
    have CS0 := fun a n c W h => srm_any d m v l ch a n c a1 W h
    have CI0 := fun a n c W h => irm_any d m v l ch a n c a1 W h
    unfold RmP at CS0 CI0
    obtain ⟨E, hE⟩ : ∃ y_, rmE (fmE (fmB d m v l ch) (mthB a1)) (wdB v l a1) = y_ := ⟨_, rfl⟩
    rw [hE] at CS0 CI0
    obtain ⟨D, hD⟩ : ∃ y_, fV E d = y_ := ⟨_, rfl⟩
    obtain ⟨M, hM⟩ : ∃ y_, fV E m = y_ := ⟨_, rfl⟩
    obtain ⟨V, hV⟩ : ∃ y_, fV E v = y_ := ⟨_, rfl⟩
    obtain ⟨K, hK⟩ : ∃ y_, fV E a1 = y_ := ⟨_, rfl⟩
    obtain ⟨C, hC⟩ : ∃ y_, fL E ch = y_ := ⟨_, rfl⟩
    rw [hD, hM, hV, hK, hC] at CS0 CI0
    have CS : Hid (∀ a n c W, Ints W a n ch → Calls Try.prog 38 #[.agg #[.int .i64 d, .int .i64 m, .int .i64 v, .int .i64 l, .slice a n c], .int .i64 a1] W fun e w' => ∃ x q c', e = .returned (.tuple #[.agg #[.int .i64 D, .int .i64 M, .int .i64 V, .int .i64 K, .slice x q c'], .int .i64 E]) ∧ TbL W.heap.size w' x q C ∧ Below W.heap.size W w') := Lib.hid CS0
    have CI : Hid (∀ a n c W, Ints W a n ch → Calls Try.prog 37 #[.agg #[.int .i64 d, .int .i64 m, .int .i64 v, .int .i64 l, .slice a n c], .int .i64 a1] W fun e w' => ∃ x q c', e = .returned (.tuple #[.agg #[.int .i64 D, .int .i64 M, .int .i64 V, .int .i64 K, .slice x q c'], .int .i64 E]) ∧ TbL W.heap.size w' x q C ∧ Below W.heap.size W w') := Lib.hid CI0
    clear h0 w0 hch hbig hmx L0 CS0 CI0 hE hD hM hV hK hC
    go_enter Try.func12, Try.ntmps12
    go_wp2_with fail
    refine (szF_fit _ _ _ _ _ _ _ _ _ (by omega) (by omega) hfit).mono ?_
    rintro e w1 ⟨rfl, hb⟩
    have HL := Lib.hid (HL.out.on hb)
    clear hb
    obtain ⟨p0_0, p0_1, p0_2, p0_3, p0_4⟩ := HL.out.c5 (.head _)
    go_wp2_with fail
    refine (CT.out _ (Lib.hid HL.out.low)).mono ?_
    rintro e w2 ⟨B1, rfl, t1, hb⟩
    have HL := Lib.hid (HL.out.add hb t1)
    clear hb t1
    obtain ⟨p0_0, p0_1, p0_2, p0_3, p0_4⟩ := HL.out.c5 (.head _)
    go_wp2_with fail
    refine (CS.out _ _ _ _ (HL.out.tl _ (.head _)).ints).mono ?_
    rintro e w3 ⟨sa, sn, sc, rfl, t1, hb⟩
    have hBs : sn ≤ 1048576 := t1.2.1
    have HL := Lib.hid (HL.out.add hb t1)
    clear hb t1
    have HL := Lib.hid (HL.out.drop (ls' := [(sa, sn, C)]) (List.Sublist.refl _) (.cons_cons _ (.cons _ (.slnil))))
    have HL := Lib.hid (HL.out.box [.int .i64 D, .int .i64 M, .int .i64 V, .int .i64 K, .slice sa sn sc] 26)
    obtain ⟨p0_0, p0_1, p0_2, p0_3, p0_4⟩ := HL.out.c5 (.head _)
    obtain ⟨p1_0, p1_1, p1_2, p1_3, p1_4⟩ := HL.out.c5 (.tail _ (.head _))
    go_wp2_with fail
    refine (CT.out _ (Lib.hid HL.out.low)).mono ?_
    rintro e w4 ⟨Bx, rfl, t1, hb⟩
    have HL := Lib.hid (HL.out.add hb t1)
    clear hb t1
    have HL := Lib.hid (HL.out.box [.int .i64 d, .int .i64 m, .int .i64 v, .int .i64 l, .slice (some ⟨Bx, 0, none⟩) len0 len0] 26)
    obtain ⟨p0_0, p0_1, p0_2, p0_3, p0_4⟩ := HL.out.c5 (.head _)
    obtain ⟨p1_0, p1_1, p1_2, p1_3, p1_4⟩ := HL.out.c5 (.tail _ (.head _))
    obtain ⟨p2_0, p2_1, p2_2, p2_3, p2_4⟩ := HL.out.c5 (.tail _ (.tail _ (.head _)))
    go_wp2_with fail
    refine (CI.out _ _ _ _ (HL.out.tl _ (.head _)).ints).mono ?_
    rintro e w5 ⟨ga, gn, gc, rfl, t1, hb⟩
    have hBg : gn ≤ 1048576 := t1.2.1
    have HL := Lib.hid (HL.out.add hb t1)
    clear hb t1
    have HL := Lib.hid (HL.out.box [.int .i64 D, .int .i64 M, .int .i64 V, .int .i64 K, .slice ga gn gc] 26)
    obtain ⟨p0_0, p0_1, p0_2, p0_3, p0_4⟩ := HL.out.c5 (.head _)
    obtain ⟨p1_0, p1_1, p1_2, p1_3, p1_4⟩ := HL.out.c5 (.tail _ (.head _))
    obtain ⟨p2_0, p2_1, p2_2, p2_3, p2_4⟩ := HL.out.c5 (.tail _ (.tail _ (.head _)))
    obtain ⟨p3_0, p3_1, p3_2, p3_3, p3_4⟩ := HL.out.c5 (.tail _ (.tail _ (.tail _ (.head _))))
    go_wp2_with fail
    refine (eqF_same D M V K C _ _ gn sn gc sc _ (HL.out.tl _ (.head _)).ints (HL.out.tl _ (.tail _ (.tail _ (.head _)))).ints).mono ?_
    rintro e w6 ⟨rfl, hb⟩
    have HL := Lib.hid (HL.out.on hb)
    clear hb
    obtain ⟨p0_0, p0_1, p0_2, p0_3, p0_4⟩ := HL.out.c5 (.head _)
    obtain ⟨p1_0, p1_1, p1_2, p1_3, p1_4⟩ := HL.out.c5 (.tail _ (.head _))
    obtain ⟨p2_0, p2_1, p2_2, p2_3, p2_4⟩ := HL.out.c5 (.tail _ (.tail _ (.head _)))
    obtain ⟨p3_0, p3_1, p3_2, p3_3, p3_4⟩ := HL.out.c5 (.tail _ (.tail _ (.tail _ (.head _))))
    have HXS : Hid (∀ W, Hid (LW w [(w5.heap.size, [.int .i64 D, .int .i64 M, .int .i64 V, .int .i64 K, .slice ga gn gc]), (w4.heap.size, [.int .i64 d, .int .i64 m, .int .i64 v, .int .i64 l, .slice (some ⟨Bx, 0, none⟩) len0 len0]), (w3.heap.size, [.int .i64 D, .int .i64 M, .int .i64 V, .int .i64 K, .slice sa sn sc]), (w.heap.size, [.int .i64 d, .int .i64 m, .int .i64 v, .int .i64 l, .slice a0 len0 cap0])] [(ga, gn, C), (some ⟨Bx, 0, none⟩, len0, ch), (sa, sn, C)] W) → Calls Try.prog 41 #[.agg #[.int .i64 d, .int .i64 m, .int .i64 v, .int .i64 l, .slice a0 len0 cap0]] W (TfPost d m v l ch len0 W)) := Lib.hid (fun W hW => toF_any d m v l ch _ _ _ W (H.out.on hW.out.low) hl1)
    have HEQ : Hid (∀ W B3, Hid (LW w [(w5.heap.size, [.int .i64 D, .int .i64 M, .int .i64 V, .int .i64 K, .slice ga gn gc]), (w4.heap.size, [.int .i64 d, .int .i64 m, .int .i64 v, .int .i64 l, .slice (some ⟨Bx, 0, none⟩) len0 len0]), (w3.heap.size, [.int .i64 D, .int .i64 M, .int .i64 V, .int .i64 K, .slice sa sn sc]), (w.heap.size, [.int .i64 d, .int .i64 m, .int .i64 v, .int .i64 l, .slice a0 len0 cap0])] [(ga, gn, C), (some ⟨Bx, 0, none⟩, len0, ch), (sa, sn, C)] W) → Hid (Ints W (some ⟨B3, 0, none⟩) len0 ch) → Calls Try.prog 42 #[.agg #[.int .i64 d, .int .i64 m, .int .i64 v, .int .i64 l, .slice (some ⟨Bx, 0, none⟩) len0 len0], .agg #[.int .i64 d, .int .i64 m, .int .i64 v, .int .i64 l, .slice (some ⟨B3, 0, none⟩) len0 len0]] W fun e w' => e = .returned (.bool true) ∧ Below W.heap.size W w') := Lib.hid (fun W B3 hW h3 => eqF_same d m v l ch _ _ _ _ _ _ W (hW.out.tl _ (.tail _ (.head _))).ints h3.out)
    unfold TfPost at HXS
    have HSS : Hid (∀ W, LW w [(w5.heap.size, [.int .i64 D, .int .i64 M, .int .i64 V, .int .i64 K, .slice ga gn gc]), (w4.heap.size, [.int .i64 d, .int .i64 m, .int .i64 v, .int .i64 l, .slice (some ⟨Bx, 0, none⟩) len0 len0]), (w3.heap.size, [.int .i64 D, .int .i64 M, .int .i64 V, .int .i64 K, .slice sa sn sc]), (w.heap.size, [.int .i64 d, .int .i64 m, .int .i64 v, .int .i64 l, .slice a0 len0 cap0])] [(ga, gn, C), (some ⟨Bx, 0, none⟩, len0, ch), (sa, sn, C)] W → W.cell? ⟨w4.heap.size, 0, none⟩ = some (.int .i64 d) ∧ W.cell? ⟨w4.heap.size, 1, none⟩ = some (.int .i64 m) ∧ W.cell? ⟨w4.heap.size, 2, none⟩ = some (.int .i64 v) ∧ W.cell? ⟨w4.heap.size, 3, none⟩ = some (.int .i64 l) ∧ W.cell? ⟨w4.heap.size, 4, none⟩ = some (.slice (some ⟨Bx, 0, none⟩) len0 len0) ∧ W.cell? ⟨w.heap.size, 0, none⟩ = some (.int .i64 d) ∧ W.cell? ⟨w.heap.size, 1, none⟩ = some (.int .i64 m) ∧ W.cell? ⟨w.heap.size, 2, none⟩ = some (.int .i64 v) ∧ W.cell? ⟨w.heap.size, 3, none⟩ = some (.int .i64 l) ∧ W.cell? ⟨w.heap.size, 4, none⟩ = some (.slice a0 len0 cap0) ∧ Hid (LW w [(w5.heap.size, [.int .i64 D, .int .i64 M, .int .i64 V, .int .i64 K, .slice ga gn gc]), (w4.heap.size, [.int .i64 d, .int .i64 m, .int .i64 v, .int .i64 l, .slice (some ⟨Bx, 0, none⟩) len0 len0]), (w3.heap.size, [.int .i64 D, .int .i64 M, .int .i64 V, .int .i64 K, .slice sa sn sc]), (w.heap.size, [.int .i64 d, .int .i64 m, .int .i64 v, .int .i64 l, .slice a0 len0 cap0])] [(ga, gn, C), (some ⟨Bx, 0, none⟩, len0, ch), (sa, sn, C)] W)) := Lib.hid (fun W h => by obtain ⟨a_, b_, c_, d_, e_⟩ := h.c5 (.tail _ (.head _)); obtain ⟨f_, g_, h_, i_, j_⟩ := h.c5 (.tail _ (.tail _ (.tail _ (.head _)))); exact ⟨a_, b_, c_, d_, e_, f_, g_, h_, i_, j_, Lib.hid h⟩)
    go_wp2_with fail
    go_region_held3 (fun W9 => W9.cell? ⟨w4.heap.size, 0, none⟩ = some (.int .i64 d) ∧ W9.cell? ⟨w4.heap.size, 1, none⟩ = some (.int .i64 m) ∧ W9.cell? ⟨w4.heap.size, 2, none⟩ = some (.int .i64 v) ∧ W9.cell? ⟨w4.heap.size, 3, none⟩ = some (.int .i64 l) ∧ W9.cell? ⟨w4.heap.size, 4, none⟩ = some (.slice (some ⟨Bx, 0, none⟩) len0 len0) ∧ W9.cell? ⟨w.heap.size, 0, none⟩ = some (.int .i64 d) ∧ W9.cell? ⟨w.heap.size, 1, none⟩ = some (.int .i64 m) ∧ W9.cell? ⟨w.heap.size, 2, none⟩ = some (.int .i64 v) ∧ W9.cell? ⟨w.heap.size, 3, none⟩ = some (.int .i64 l) ∧ W9.cell? ⟨w.heap.size, 4, none⟩ = some (.slice a0 len0 cap0) ∧ Hid (LW w [(w5.heap.size, [.int .i64 D, .int .i64 M, .int .i64 V, .int .i64 K, .slice ga gn gc]), (w4.heap.size, [.int .i64 d, .int .i64 m, .int .i64 v, .int .i64 l, .slice (some ⟨Bx, 0, none⟩) len0 len0]), (w3.heap.size, [.int .i64 D, .int .i64 M, .int .i64 V, .int .i64 K, .slice sa sn sc]), (w.heap.size, [.int .i64 d, .int .i64 m, .int .i64 v, .int .i64 l, .slice a0 len0 cap0])] [(ga, gn, C), (some ⟨Bx, 0, none⟩, len0, ch), (sa, sn, C)] W9))
      (first
        | (go_split_ands; with_reducible exact HSS.out _ (Hid.out (by with_reducible assumption)))
        | (go_split_ands; with_reducible exact HSS.out _ (LW.on (Hid.out (by with_reducible assumption)) hb))
        | (go_split_ands; with_reducible exact HSS.out _ (LW.drew (Hid.out (by with_reducible assumption))))
        | fail)
      (first
        | (go_split_ands; go_at_call 41; ((with_reducible refine (HXS.out _ (by with_reducible assumption)).mono ?_); rintro e w' ⟨B3, rfl, t3, hb⟩; have HT3 := Lib.hid t3.ints; clear t3))
        | (go_split_ands; go_at_call 42; ((with_reducible refine (HEQ.out _ _ (by with_reducible assumption) (by with_reducible assumption)).mono ?_); rintro e w' ⟨rfl, hb⟩))
        | fail)
    go_split_ands
    have HLF : Hid (LW w [(w5.heap.size, [.int .i64 D, .int .i64 M, .int .i64 V, .int .i64 K, .slice ga gn gc]), (w4.heap.size, [.int .i64 d, .int .i64 m, .int .i64 v, .int .i64 l, .slice (some ⟨Bx, 0, none⟩) len0 len0]), (w3.heap.size, [.int .i64 D, .int .i64 M, .int .i64 V, .int .i64 K, .slice sa sn sc]), (w.heap.size, [.int .i64 d, .int .i64 m, .int .i64 v, .int .i64 l, .slice a0 len0 cap0])] [(ga, gn, C), (some ⟨Bx, 0, none⟩, len0, ch), (sa, sn, C)] w') := by with_reducible assumption
    have HL := Lib.hid HLF.out
    clear HXS HEQ HSS HT3 HLF
    obtain ⟨p0_0, p0_1, p0_2, p0_3, p0_4⟩ := HL.out.c5 (.head _)
    obtain ⟨p1_0, p1_1, p1_2, p1_3, p1_4⟩ := HL.out.c5 (.tail _ (.head _))
    obtain ⟨p2_0, p2_1, p2_2, p2_3, p2_4⟩ := HL.out.c5 (.tail _ (.tail _ (.head _)))
    obtain ⟨p3_0, p3_1, p3_2, p3_3, p3_4⟩ := HL.out.c5 (.tail _ (.tail _ (.tail _ (.head _))))
    go_wp2_with fail
    refine (markF_any d m v l ch w.heap.size _ len0 len0 1 _ (HL.out.tl _ (.tail _ (.head _))) (by omega) (by omega)).mono ?_
    rintro e w7 ⟨rfl, t1, hb⟩
    have HL := Lib.hid (HL.out.mark (pre := [(ga, gn, C)]) hb t1)
    clear hb t1
    have HL : Hid (LW w [(w5.heap.size, [.int .i64 D, .int .i64 M, .int .i64 V, .int .i64 K, .slice ga gn gc]), (w4.heap.size, [.int .i64 d, .int .i64 m, .int .i64 v, .int .i64 l, .slice (some ⟨Bx, 0, none⟩) len0 len0]), (w3.heap.size, [.int .i64 D, .int .i64 M, .int .i64 V, .int .i64 K, .slice sa sn sc]), (w.heap.size, [.int .i64 d, .int .i64 m, .int .i64 v, .int .i64 l, .slice a0 len0 cap0])] [(ga, gn, C), (some ⟨Bx, 0, none⟩, len0, marks 1 len0), (sa, sn, C)] w7) := HL
    obtain ⟨p0_0, p0_1, p0_2, p0_3, p0_4⟩ := HL.out.c5 (.head _)
    obtain ⟨p1_0, p1_1, p1_2, p1_3, p1_4⟩ := HL.out.c5 (.tail _ (.head _))
    obtain ⟨p2_0, p2_1, p2_2, p2_3, p2_4⟩ := HL.out.c5 (.tail _ (.tail _ (.head _)))
    obtain ⟨p3_0, p3_1, p3_2, p3_3, p3_4⟩ := HL.out.c5 (.tail _ (.tail _ (.tail _ (.head _))))
    have hk0 : ¬ (1 : Int) + len0 < 0 := by omega
    go_wp2_with fail
    refine (eqF_same D M V K C _ _ gn sn gc sc _ (HL.out.tl _ (.head _)).ints (HL.out.tl _ (.tail _ (.tail _ (.head _)))).ints).mono ?_
    rintro e w8 ⟨rfl, hb⟩
    have HL := Lib.hid (HL.out.on hb)
    clear hb
    obtain ⟨p0_0, p0_1, p0_2, p0_3, p0_4⟩ := HL.out.c5 (.head _)
    obtain ⟨p1_0, p1_1, p1_2, p1_3, p1_4⟩ := HL.out.c5 (.tail _ (.head _))
    obtain ⟨p2_0, p2_1, p2_2, p2_3, p2_4⟩ := HL.out.c5 (.tail _ (.tail _ (.head _)))
    obtain ⟨p3_0, p3_1, p3_2, p3_3, p3_4⟩ := HL.out.c5 (.tail _ (.tail _ (.tail _ (.head _))))
    go_wp2_with fail
    refine (markF_any D M V K C w.heap.size _ gn gc 1 _ (HL.out.tl _ (.head _)) (by omega) (by omega)).mono ?_
    rintro e w9 ⟨rfl, t1, hb⟩
    have HL := Lib.hid (HL.out.mark (pre := []) hb t1)
    clear hb t1
    have HL : Hid (LW w [(w5.heap.size, [.int .i64 D, .int .i64 M, .int .i64 V, .int .i64 K, .slice ga gn gc]), (w4.heap.size, [.int .i64 d, .int .i64 m, .int .i64 v, .int .i64 l, .slice (some ⟨Bx, 0, none⟩) len0 len0]), (w3.heap.size, [.int .i64 D, .int .i64 M, .int .i64 V, .int .i64 K, .slice sa sn sc]), (w.heap.size, [.int .i64 d, .int .i64 m, .int .i64 v, .int .i64 l, .slice a0 len0 cap0])] [(ga, gn, marks 1 gn), (some ⟨Bx, 0, none⟩, len0, marks 1 len0), (sa, sn, C)] w9) := HL
    obtain ⟨p0_0, p0_1, p0_2, p0_3, p0_4⟩ := HL.out.c5 (.head _)
    obtain ⟨p1_0, p1_1, p1_2, p1_3, p1_4⟩ := HL.out.c5 (.tail _ (.head _))
    obtain ⟨p2_0, p2_1, p2_2, p2_3, p2_4⟩ := HL.out.c5 (.tail _ (.tail _ (.head _)))
    obtain ⟨p3_0, p3_1, p3_2, p3_3, p3_4⟩ := HL.out.c5 (.tail _ (.tail _ (.tail _ (.head _))))
    have hg0 : ¬ (1 : Int) + gn < 0 := by omega
    go_wp2_with fail
    refine (heldF_any D M V K _ gn gc 1 _ (HL.out.tl _ (.head _)).ints (by omega) (by omega) (by omega)).mono ?_
    rintro e w10 ⟨rfl, hb⟩
    have HL := Lib.hid (HL.out.on hb)
    clear hb
    obtain ⟨p0_0, p0_1, p0_2, p0_3, p0_4⟩ := HL.out.c5 (.head _)
    obtain ⟨p1_0, p1_1, p1_2, p1_3, p1_4⟩ := HL.out.c5 (.tail _ (.head _))
    obtain ⟨p2_0, p2_1, p2_2, p2_3, p2_4⟩ := HL.out.c5 (.tail _ (.tail _ (.head _)))
    obtain ⟨p3_0, p3_1, p3_2, p3_3, p3_4⟩ := HL.out.c5 (.tail _ (.tail _ (.tail _ (.head _))))
    go_wp2_with fail
    refine (CT.out _ (Lib.hid HL.out.low)).mono ?_
    rintro e w11 ⟨B4, rfl, t1, hb⟩
    have HL := Lib.hid (HL.out.add hb t1)
    clear hb t1
    obtain ⟨p0_0, p0_1, p0_2, p0_3, p0_4⟩ := HL.out.c5 (.head _)
    obtain ⟨p1_0, p1_1, p1_2, p1_3, p1_4⟩ := HL.out.c5 (.tail _ (.head _))
    obtain ⟨p2_0, p2_1, p2_2, p2_3, p2_4⟩ := HL.out.c5 (.tail _ (.tail _ (.head _)))
    obtain ⟨p3_0, p3_1, p3_2, p3_3, p3_4⟩ := HL.out.c5 (.tail _ (.tail _ (.tail _ (.head _))))
    go_wp2_with fail
    refine (CI.out _ _ _ _ (HL.out.tl _ (.head _)).ints).mono ?_
    rintro e w12 ⟨ha, hn, hc, rfl, t1, hb⟩
    have hBh : hn ≤ 1048576 := t1.2.1
    have HL := Lib.hid (HL.out.add hb t1)
    clear hb t1
    have HL := Lib.hid (HL.out.box [.int .i64 D, .int .i64 M, .int .i64 V, .int .i64 K, .slice ha hn hc] 26)
    obtain ⟨p0_0, p0_1, p0_2, p0_3, p0_4⟩ := HL.out.c5 (.head _)
    obtain ⟨p1_0, p1_1, p1_2, p1_3, p1_4⟩ := HL.out.c5 (.tail _ (.head _))
    obtain ⟨p2_0, p2_1, p2_2, p2_3, p2_4⟩ := HL.out.c5 (.tail _ (.tail _ (.head _)))
    obtain ⟨p3_0, p3_1, p3_2, p3_3, p3_4⟩ := HL.out.c5 (.tail _ (.tail _ (.tail _ (.head _))))
    obtain ⟨p4_0, p4_1, p4_2, p4_3, p4_4⟩ := HL.out.c5 (.tail _ (.tail _ (.tail _ (.tail _ (.head _)))))
    go_wp2_with fail
    refine (eqF_same D M V K C _ _ hn sn hc sc _ (HL.out.tl _ (.head _)).ints (HL.out.tl _ (.tail _ (.tail _ (.tail _ (.tail _ (.head _)))))).ints).mono ?_
    rintro e w13 ⟨rfl, hb⟩
    have HL := Lib.hid (HL.out.on hb)
    clear hb
    obtain ⟨p0_0, p0_1, p0_2, p0_3, p0_4⟩ := HL.out.c5 (.head _)
    obtain ⟨p1_0, p1_1, p1_2, p1_3, p1_4⟩ := HL.out.c5 (.tail _ (.head _))
    obtain ⟨p2_0, p2_1, p2_2, p2_3, p2_4⟩ := HL.out.c5 (.tail _ (.tail _ (.head _)))
    obtain ⟨p3_0, p3_1, p3_2, p3_3, p3_4⟩ := HL.out.c5 (.tail _ (.tail _ (.tail _ (.head _))))
    obtain ⟨p4_0, p4_1, p4_2, p4_3, p4_4⟩ := HL.out.c5 (.tail _ (.tail _ (.tail _ (.tail _ (.head _)))))
    go_wp2_with fail
    refine (heldF_any D M V K _ gn gc 1 _ (HL.out.tl _ (.tail _ (.tail _ (.head _)))).ints (by omega) (by omega) (by omega)).mono ?_
    rintro e w14 ⟨rfl, hb⟩
    have HL := Lib.hid (HL.out.on hb)
    clear hb
    obtain ⟨p0_0, p0_1, p0_2, p0_3, p0_4⟩ := HL.out.c5 (.head _)
    obtain ⟨p1_0, p1_1, p1_2, p1_3, p1_4⟩ := HL.out.c5 (.tail _ (.head _))
    obtain ⟨p2_0, p2_1, p2_2, p2_3, p2_4⟩ := HL.out.c5 (.tail _ (.tail _ (.head _)))
    obtain ⟨p3_0, p3_1, p3_2, p3_3, p3_4⟩ := HL.out.c5 (.tail _ (.tail _ (.tail _ (.head _))))
    obtain ⟨p4_0, p4_1, p4_2, p4_3, p4_4⟩ := HL.out.c5 (.tail _ (.tail _ (.tail _ (.tail _ (.head _)))))
    go_wp2_with fail
    go_ret
    exact ⟨rfl, HL.out.low⟩
    
end Go.Proofs.Ytmnddplkmljeaaa
