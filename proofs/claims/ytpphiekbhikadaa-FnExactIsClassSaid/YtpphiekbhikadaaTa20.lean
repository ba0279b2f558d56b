/- Merged: Tcx. -/
import Derived.Test.YtpphiekbhikadaaTa14
import Derived.Test.YtpphiekbhikadaaTa19

/- Tontines: the exact laws on IsClass, LivingShares and LastMember. (Written by wip/gen/tcx.py.) -/
namespace Go.Proofs.Ytpphiekbhikadaa
open Go.ChangeShapes Go.WideShapes Go.ChangeAt Go.RowKit
set_option linter.unusedVariables false
set_option maxRecDepth 100000

theorem lwS2 {w W : World} {X Y : Nat} {x0 x1 x2 y0 y1 y2 : Value} {bs : List (Nat × List Value)} {ls : List (Option Addr × Nat × List Int)} (h : LW w ((X, [x0, x1, x2]) :: (Y, [y0, y1, y2]) :: bs) ls W) :
    W.cell? ⟨X, 0, none⟩ = some x0 ∧ W.cell? ⟨X, 1, none⟩ = some x1 ∧ W.cell? ⟨X, 2, none⟩ = some x2 ∧ W.cell? ⟨Y, 0, none⟩ = some y0 ∧ W.cell? ⟨Y, 1, none⟩ = some y1 ∧ W.cell? ⟨Y, 2, none⟩ = some y2 ∧ Hid (LW w ((X, [x0, x1, x2]) :: (Y, [y0, y1, y2]) :: bs) ls W) := by
  obtain ⟨a0, a1, a2⟩ := h.c3 (.head _)
  obtain ⟨b0, b1, b2⟩ := h.c3 (.tail _ (.head _))
  exact ⟨a0, a1, a2, b0, b1, b2, Lib.hid h⟩

set_option maxHeartbeats 1000000 in
theorem fnExactIsClass_walk (a0 : Option Addr) (len0 cap0 : Nat) (z0 : List Int) (b0 : Option Addr) (m0 e0 : Nat) (y0 : List Int) (ch0 : Int) (w : World) (w0 : IsRow .i64 w a0 len0 cap0 z0) (u0 : IsRow .i64 w b0 m0 e0 y0) :
    Calls Try.prog 4 #[.agg #[.slice a0 len0 cap0, .slice b0 m0 e0, .int .i64 ch0]] w fun e w' => e = .returned (.bool true) ∧ Below w.heap.size w w' := by
  have hmx := w0.len_le
  have hmy := u0.len_le
  unfold maxLen at hmx hmy
  by_cases hbig : (1048576 : Int) < len0 + m0
  · go_enter Try.func4, Try.ntmps4
    go_wp2_with fail
    refine (szC_big _ _ _ _ _ _ _ _ _ (by omega) (by omega) (by omega) (by omega) hbig).mono ?_
    rintro e w1 ⟨rfl, hb⟩
    obtain ⟨hB, hx⟩ := bx3T hb
    have HB := Lib.hid hB
    clear hb hB hx
    go_wp2_with fail
    go_ret
    exact ⟨rfl, HB.out⟩
  · have h0 := w0.ints (by omega)
    have g0 := u0.ints (by omega)
    obtain ⟨sh, hsh⟩ : ∃ xs, z0.take len0 = xs := ⟨_, rfl⟩
    obtain ⟨de, hde⟩ : ∃ xs, y0.take m0 = xs := ⟨_, rfl⟩
    rw [hsh] at h0
    rw [hde] at g0
    have H := Lib.hid h0
    have G := Lib.hid g0
    have hl1 : len0 ≤ 1048576 := by omega
    have hm1 : m0 ≤ 1048576 := by omega
    have hfit : (len0 : Int) + m0 ≤ 1048576 := by omega
    have hp : ¬ (1048576 : Int) - len0 - m0 < 0 := by omega
    have L0 := (LW.start w).box [.slice a0 len0 cap0, .slice b0 m0 e0, .int .i64 ch0] 41
    obtain ⟨c0, c1, c2⟩ := L0.c3 (.head _)
    have HL0 := Lib.hid L0
    clear h0 g0 w0 u0 hsh hde hbig hmx hmy L0
    go_enter Try.func4, Try.ntmps4
    go_wp2_with fail
    refine (szC_fit _ _ _ _ _ _ _ _ _ (by omega) hfit).mono ?_
    rintro e w1 ⟨rfl, hb⟩
    have HL := Lib.hid (HL0.out.on hb)
    obtain ⟨c0, c1, c2⟩ := HL.out.c3 (.head _)
    clear hb HL0
    go_wp2_with fail
    refine (toC_any sh de _ _ _ _ _ _ ch0 _ (H.out.on HL.out.low) (G.out.on HL.out.low) hl1 hm1).mono ?_
    rintro e w2 ⟨B1, C1, rfl, t1, u1, ne1, hb⟩
    have HL := Lib.hid (HL.out.on hb)
    have T1 := Lib.hid t1.ints
    have U1 := Lib.hid u1.ints
    obtain ⟨c0, c1, c2⟩ := HL.out.c3 (.head _)
    clear hb t1 u1 ne1
    go_wp2_with fail
    refine (tcS_any sh de _ _ _ _ _ _ ch0 _ (T1.out) (U1.out)).mono ?_
    rintro e w3 ⟨rfl, hb⟩
    have HL := Lib.hid (HL.out.on hb)
    obtain ⟨c0, c1, c2⟩ := HL.out.c3 (.head _)
    clear hb T1 U1
    go_wp2_with fail
    refine (toC_any sh de _ _ _ _ _ _ ch0 _ (H.out.on HL.out.low) (G.out.on HL.out.low) hl1 hm1).mono ?_
    rintro e w4 ⟨B2, C2, rfl, t1, u1, ne1, hb⟩
    have HL := Lib.hid ((HL.out.add2 hb t1 u1 (fun x y hx hy => by cases hx; cases hy; exact ne1)).box [.slice (some ⟨B2, 0, none⟩) len0 len0, .slice (some ⟨C2, 0, none⟩) m0 m0, .int .i64 ch0] 26)
    obtain ⟨x0, x1, x2⟩ := HL.out.c3 (.head _)
    obtain ⟨c0, c1, c2⟩ := HL.out.c3 (.tail _ (.head _))
    clear hb t1 u1 ne1
    have CI := Lib.hid (tcI_any sh de _ _ len0 len0 m0 m0 ch0 _ (HL.out.tl _ (.head _)).ints (HL.out.tl _ (.tail _ (.head _))).ints)
    go_wp2_with fail
    refine CI.out.mono ?_
    rintro e w5 ⟨rfl, hb⟩
    have HL := Lib.hid (HL.out.on hb)
    obtain ⟨X, hX⟩ : ∃ y_, w4.heap.size = y_ := ⟨_, rfl⟩
    rw [hX] at HL
    obtain ⟨x0, x1, x2⟩ := HL.out.c3 (.head _)
    obtain ⟨c0, c1, c2⟩ := HL.out.c3 (.tail _ (.head _))
    clear hb CI
    go_wp2_with fail
    (try rw [hX])
    clear hX
    have HXS : Hid (∀ W, Hid (LW w [(X, [.slice (some ⟨B2, 0, none⟩) len0 len0, .slice (some ⟨C2, 0, none⟩) m0 m0, .int .i64 ch0]), (w.heap.size, [.slice a0 len0 cap0, .slice b0 m0 e0, .int .i64 ch0])] [(some ⟨B2, 0, none⟩, len0, sh), (some ⟨C2, 0, none⟩, m0, de)] W) → Calls Try.prog 24 #[.agg #[.slice a0 len0 cap0, .slice b0 m0 e0, .int .i64 ch0]] W (TcPost sh de len0 m0 ch0 W)) := Lib.hid (fun W hW => toC_any sh de _ _ _ _ _ _ ch0 W (H.out.on hW.out.low) (G.out.on hW.out.low) hl1 hm1)
    have HEQ : Hid (∀ W B3 C3, Hid (LW w [(X, [.slice (some ⟨B2, 0, none⟩) len0 len0, .slice (some ⟨C2, 0, none⟩) m0 m0, .int .i64 ch0]), (w.heap.size, [.slice a0 len0 cap0, .slice b0 m0 e0, .int .i64 ch0])] [(some ⟨B2, 0, none⟩, len0, sh), (some ⟨C2, 0, none⟩, m0, de)] W) → Hid (Ints W (some ⟨B3, 0, none⟩) len0 sh) → Hid (Ints W (some ⟨C3, 0, none⟩) m0 de) → Calls Try.prog 25 #[.agg #[.slice (some ⟨B2, 0, none⟩) len0 len0, .slice (some ⟨C2, 0, none⟩) m0 m0, .int .i64 ch0], .agg #[.slice (some ⟨B3, 0, none⟩) len0 len0, .slice (some ⟨C3, 0, none⟩) m0 m0, .int .i64 ch0]] W fun e w' => e = .returned (.bool true) ∧ Below W.heap.size W w') := Lib.hid (fun W B3 C3 hW h3 h4 => eqTc_any sh de _ _ _ _ _ _ _ _ _ _ _ _ ch0 W (hW.out.tl _ (.head _)).ints (hW.out.tl _ (.tail _ (.head _))).ints h3.out h4.out)
    unfold TcPost at HXS
    go_region_held3 (fun W9 => W9.cell? ⟨X, 0, none⟩ = some (.slice (some ⟨B2, 0, none⟩) len0 len0) ∧ W9.cell? ⟨X, 1, none⟩ = some (.slice (some ⟨C2, 0, none⟩) m0 m0) ∧ W9.cell? ⟨X, 2, none⟩ = some (.int .i64 ch0) ∧ W9.cell? ⟨w.heap.size, 0, none⟩ = some (.slice a0 len0 cap0) ∧ W9.cell? ⟨w.heap.size, 1, none⟩ = some (.slice b0 m0 e0) ∧ W9.cell? ⟨w.heap.size, 2, none⟩ = some (.int .i64 ch0) ∧ Hid (LW w [(X, [.slice (some ⟨B2, 0, none⟩) len0 len0, .slice (some ⟨C2, 0, none⟩) m0 m0, .int .i64 ch0]), (w.heap.size, [.slice a0 len0 cap0, .slice b0 m0 e0, .int .i64 ch0])] [(some ⟨B2, 0, none⟩, len0, sh), (some ⟨C2, 0, none⟩, m0, de)] W9))
      (first
        | (go_split_ands; with_reducible exact lwS2 (Hid.out (by with_reducible assumption)))
        | (go_split_ands; with_reducible exact lwS2 (LW.on (Hid.out (by with_reducible assumption)) hb))
        | (go_split_ands; with_reducible exact lwS2 (LW.drew (Hid.out (by with_reducible assumption))))
        | fail)
      (first
        | (go_split_ands; go_at_call 24; ((with_reducible refine (HXS.out _ (by with_reducible assumption)).mono ?_); rintro e w' ⟨B3, C3, rfl, t3, u3, ne3, hb⟩; have HT3 := Lib.hid t3.ints; have HU3 := Lib.hid u3.ints; clear t3 u3))
        | (go_split_ands; go_at_call 25; ((with_reducible refine (HEQ.out _ _ _ (by with_reducible assumption) (by with_reducible assumption) (by with_reducible assumption)).mono ?_); rintro e w' ⟨rfl, hb⟩))
        | fail)
    all_goals
      go_split_ands
      have HLF : Hid (LW w [(X, [.slice (some ⟨B2, 0, none⟩) len0 len0, .slice (some ⟨C2, 0, none⟩) m0 m0, .int .i64 ch0]), (w.heap.size, [.slice a0 len0 cap0, .slice b0 m0 e0, .int .i64 ch0])] [(some ⟨B2, 0, none⟩, len0, sh), (some ⟨C2, 0, none⟩, m0, de)] w') := by with_reducible assumption
      go_wp2_with fail
      go_ret
      exact ⟨rfl, HLF.out.low⟩

set_option maxHeartbeats 1000000 in
theorem fnExactLivingShares_walk (a0 : Option Addr) (len0 cap0 : Nat) (z0 : List Int) (b0 : Option Addr) (m0 e0 : Nat) (y0 : List Int) (ch0 : Int) (w : World) (w0 : IsRow .i64 w a0 len0 cap0 z0) (u0 : IsRow .i64 w b0 m0 e0 y0) :
    Calls Try.prog 5 #[.agg #[.slice a0 len0 cap0, .slice b0 m0 e0, .int .i64 ch0]] w fun e w' => e = .returned (.bool true) ∧ Below w.heap.size w w' := by
  have hmx := w0.len_le
  have hmy := u0.len_le
  unfold maxLen at hmx hmy
  by_cases hbig : (1048576 : Int) < len0 + m0
  · go_enter Try.func5, Try.ntmps5
    go_wp2_with fail
    refine (szC_big _ _ _ _ _ _ _ _ _ (by omega) (by omega) (by omega) (by omega) hbig).mono ?_
    rintro e w1 ⟨rfl, hb⟩
    obtain ⟨hB, hx⟩ := bx3T hb
    have HB := Lib.hid hB
    clear hb hB hx
    go_wp2_with fail
    go_ret
    exact ⟨rfl, HB.out⟩
  · have h0 := w0.ints (by omega)
    have g0 := u0.ints (by omega)
    obtain ⟨sh, hsh⟩ : ∃ xs, z0.take len0 = xs := ⟨_, rfl⟩
    obtain ⟨de, hde⟩ : ∃ xs, y0.take m0 = xs := ⟨_, rfl⟩
    rw [hsh] at h0
    rw [hde] at g0
    have H := Lib.hid h0
    have G := Lib.hid g0
    have hl1 : len0 ≤ 1048576 := by omega
    have hm1 : m0 ≤ 1048576 := by omega
    have hfit : (len0 : Int) + m0 ≤ 1048576 := by omega
    have hp : ¬ (1048576 : Int) - len0 - m0 < 0 := by omega
    have L0 := (LW.start w).box [.slice a0 len0 cap0, .slice b0 m0 e0, .int .i64 ch0] 41
    obtain ⟨c0, c1, c2⟩ := L0.c3 (.head _)
    have HL0 := Lib.hid L0
    clear h0 g0 w0 u0 hsh hde hbig hmx hmy L0
    obtain ⟨V, hV⟩ : ∃ y_, lsN sh de ch0 = y_ := ⟨_, rfl⟩
    obtain ⟨E, hE⟩ : ∃ y_, tcE sh de ch0 = y_ := ⟨_, rfl⟩
    have HVE := Lib.hid (And.intro hV hE)
    clear hV hE
    go_enter Try.func5, Try.ntmps5
    go_wp2_with fail
    refine (szC_fit _ _ _ _ _ _ _ _ _ (by omega) hfit).mono ?_
    rintro e w1 ⟨rfl, hb⟩
    have HL := Lib.hid (HL0.out.on hb)
    obtain ⟨c0, c1, c2⟩ := HL.out.c3 (.head _)
    clear hb HL0
    go_wp2_with fail
    refine (toC_any sh de _ _ _ _ _ _ ch0 _ (H.out.on HL.out.low) (G.out.on HL.out.low) hl1 hm1).mono ?_
    rintro e w2 ⟨B1, C1, rfl, t1, u1, ne1, hb⟩
    have HL := Lib.hid (HL.out.on hb)
    have T1 := Lib.hid t1.ints
    have U1 := Lib.hid u1.ints
    obtain ⟨c0, c1, c2⟩ := HL.out.c3 (.head _)
    clear hb t1 u1 ne1
    go_wp2_with fail
    have CS := Lib.hid (tlS_any sh de _ _ len0 len0 m0 m0 ch0 _ (T1.out) (U1.out))
    unfold IIPost at CS
    rw [HVE.out.1, HVE.out.2] at CS
    refine CS.out.mono ?_
    rintro e w3 ⟨rfl, hb⟩
    have HL := Lib.hid (HL.out.on hb)
    obtain ⟨c0, c1, c2⟩ := HL.out.c3 (.head _)
    clear hb T1 U1 CS
    go_wp2_with fail
    refine (toC_any sh de _ _ _ _ _ _ ch0 _ (H.out.on HL.out.low) (G.out.on HL.out.low) hl1 hm1).mono ?_
    rintro e w4 ⟨B2, C2, rfl, t1, u1, ne1, hb⟩
    have HL := Lib.hid ((HL.out.add2 hb t1 u1 (fun x y hx hy => by cases hx; cases hy; exact ne1)).box [.slice (some ⟨B2, 0, none⟩) len0 len0, .slice (some ⟨C2, 0, none⟩) m0 m0, .int .i64 ch0] 26)
    obtain ⟨x0, x1, x2⟩ := HL.out.c3 (.head _)
    obtain ⟨c0, c1, c2⟩ := HL.out.c3 (.tail _ (.head _))
    clear hb t1 u1 ne1
    have CI := Lib.hid (tlI_any sh de _ _ len0 len0 m0 m0 ch0 _ (HL.out.tl _ (.head _)).ints (HL.out.tl _ (.tail _ (.head _))).ints)
    unfold IIPost at CI
    rw [HVE.out.1, HVE.out.2] at CI
    go_wp2_with fail
    refine CI.out.mono ?_
    rintro e w5 ⟨rfl, hb⟩
    have HL := Lib.hid (HL.out.on hb)
    obtain ⟨X, hX⟩ : ∃ y_, w4.heap.size = y_ := ⟨_, rfl⟩
    rw [hX] at HL
    obtain ⟨x0, x1, x2⟩ := HL.out.c3 (.head _)
    obtain ⟨c0, c1, c2⟩ := HL.out.c3 (.tail _ (.head _))
    clear hb CI
    go_wp2_with fail
    (try rw [hX])
    clear hX
    have HXS : Hid (∀ W, Hid (LW w [(X, [.slice (some ⟨B2, 0, none⟩) len0 len0, .slice (some ⟨C2, 0, none⟩) m0 m0, .int .i64 ch0]), (w.heap.size, [.slice a0 len0 cap0, .slice b0 m0 e0, .int .i64 ch0])] [(some ⟨B2, 0, none⟩, len0, sh), (some ⟨C2, 0, none⟩, m0, de)] W) → Calls Try.prog 24 #[.agg #[.slice a0 len0 cap0, .slice b0 m0 e0, .int .i64 ch0]] W (TcPost sh de len0 m0 ch0 W)) := Lib.hid (fun W hW => toC_any sh de _ _ _ _ _ _ ch0 W (H.out.on hW.out.low) (G.out.on hW.out.low) hl1 hm1)
    have HEQ : Hid (∀ W B3 C3, Hid (LW w [(X, [.slice (some ⟨B2, 0, none⟩) len0 len0, .slice (some ⟨C2, 0, none⟩) m0 m0, .int .i64 ch0]), (w.heap.size, [.slice a0 len0 cap0, .slice b0 m0 e0, .int .i64 ch0])] [(some ⟨B2, 0, none⟩, len0, sh), (some ⟨C2, 0, none⟩, m0, de)] W) → Hid (Ints W (some ⟨B3, 0, none⟩) len0 sh) → Hid (Ints W (some ⟨C3, 0, none⟩) m0 de) → Calls Try.prog 25 #[.agg #[.slice (some ⟨B2, 0, none⟩) len0 len0, .slice (some ⟨C2, 0, none⟩) m0 m0, .int .i64 ch0], .agg #[.slice (some ⟨B3, 0, none⟩) len0 len0, .slice (some ⟨C3, 0, none⟩) m0 m0, .int .i64 ch0]] W fun e w' => e = .returned (.bool true) ∧ Below W.heap.size W w') := Lib.hid (fun W B3 C3 hW h3 h4 => eqTc_any sh de _ _ _ _ _ _ _ _ _ _ _ _ ch0 W (hW.out.tl _ (.head _)).ints (hW.out.tl _ (.tail _ (.head _))).ints h3.out h4.out)
    unfold TcPost at HXS
    go_region_held3 (fun W9 => W9.cell? ⟨X, 0, none⟩ = some (.slice (some ⟨B2, 0, none⟩) len0 len0) ∧ W9.cell? ⟨X, 1, none⟩ = some (.slice (some ⟨C2, 0, none⟩) m0 m0) ∧ W9.cell? ⟨X, 2, none⟩ = some (.int .i64 ch0) ∧ W9.cell? ⟨w.heap.size, 0, none⟩ = some (.slice a0 len0 cap0) ∧ W9.cell? ⟨w.heap.size, 1, none⟩ = some (.slice b0 m0 e0) ∧ W9.cell? ⟨w.heap.size, 2, none⟩ = some (.int .i64 ch0) ∧ Hid (LW w [(X, [.slice (some ⟨B2, 0, none⟩) len0 len0, .slice (some ⟨C2, 0, none⟩) m0 m0, .int .i64 ch0]), (w.heap.size, [.slice a0 len0 cap0, .slice b0 m0 e0, .int .i64 ch0])] [(some ⟨B2, 0, none⟩, len0, sh), (some ⟨C2, 0, none⟩, m0, de)] W9))
      (first
        | (go_split_ands; with_reducible exact lwS2 (Hid.out (by with_reducible assumption)))
        | (go_split_ands; with_reducible exact lwS2 (LW.on (Hid.out (by with_reducible assumption)) hb))
        | (go_split_ands; with_reducible exact lwS2 (LW.drew (Hid.out (by with_reducible assumption))))
        | fail)
      (first
        | (go_split_ands; go_at_call 24; ((with_reducible refine (HXS.out _ (by with_reducible assumption)).mono ?_); rintro e w' ⟨B3, C3, rfl, t3, u3, ne3, hb⟩; have HT3 := Lib.hid t3.ints; have HU3 := Lib.hid u3.ints; clear t3 u3))
        | (go_split_ands; go_at_call 25; ((with_reducible refine (HEQ.out _ _ _ (by with_reducible assumption) (by with_reducible assumption) (by with_reducible assumption)).mono ?_); rintro e w' ⟨rfl, hb⟩))
        | fail)
    all_goals
      go_split_ands
      have HLF : Hid (LW w [(X, [.slice (some ⟨B2, 0, none⟩) len0 len0, .slice (some ⟨C2, 0, none⟩) m0 m0, .int .i64 ch0]), (w.heap.size, [.slice a0 len0 cap0, .slice b0 m0 e0, .int .i64 ch0])] [(some ⟨B2, 0, none⟩, len0, sh), (some ⟨C2, 0, none⟩, m0, de)] w') := by with_reducible assumption
      go_wp2_with fail
      go_ret
      exact ⟨rfl, HLF.out.low⟩

set_option maxHeartbeats 1000000 in
theorem fnExactLastMember_walk (a0 : Option Addr) (len0 cap0 : Nat) (z0 : List Int) (b0 : Option Addr) (m0 e0 : Nat) (y0 : List Int) (ch0 : Int) (w : World) (w0 : IsRow .i64 w a0 len0 cap0 z0) (u0 : IsRow .i64 w b0 m0 e0 y0) :
    Calls Try.prog 9 #[.agg #[.slice a0 len0 cap0, .slice b0 m0 e0, .int .i64 ch0]] w fun e w' => e = .returned (.bool true) ∧ Below w.heap.size w w' := by
  have hmx := w0.len_le
  have hmy := u0.len_le
  unfold maxLen at hmx hmy
  by_cases hbig : (1048576 : Int) < len0 + m0
  · go_enter Try.func9, Try.ntmps9
    go_wp2_with fail
    refine (szC_big _ _ _ _ _ _ _ _ _ (by omega) (by omega) (by omega) (by omega) hbig).mono ?_
    rintro e w1 ⟨rfl, hb⟩
    obtain ⟨hB, hx⟩ := bx3T hb
    have HB := Lib.hid hB
    clear hb hB hx
    go_wp2_with fail
    go_ret
    exact ⟨rfl, HB.out⟩
  · have h0 := w0.ints (by omega)
    have g0 := u0.ints (by omega)
    obtain ⟨sh, hsh⟩ : ∃ xs, z0.take len0 = xs := ⟨_, rfl⟩
    obtain ⟨de, hde⟩ : ∃ xs, y0.take m0 = xs := ⟨_, rfl⟩
    rw [hsh] at h0
    rw [hde] at g0
    have H := Lib.hid h0
    have G := Lib.hid g0
    have hl1 : len0 ≤ 1048576 := by omega
    have hm1 : m0 ≤ 1048576 := by omega
    have hfit : (len0 : Int) + m0 ≤ 1048576 := by omega
    have hp : ¬ (1048576 : Int) - len0 - m0 < 0 := by omega
    have L0 := (LW.start w).box [.slice a0 len0 cap0, .slice b0 m0 e0, .int .i64 ch0] 41
    obtain ⟨c0, c1, c2⟩ := L0.c3 (.head _)
    have HL0 := Lib.hid L0
    clear h0 g0 w0 u0 hsh hde hbig hmx hmy L0
    obtain ⟨V, hV⟩ : ∃ y_, lmN sh de ch0 = y_ := ⟨_, rfl⟩
    obtain ⟨E, hE⟩ : ∃ y_, lmE sh de ch0 = y_ := ⟨_, rfl⟩
    have HVE := Lib.hid (And.intro hV hE)
    clear hV hE
    go_enter Try.func9, Try.ntmps9
    go_wp2_with fail
    refine (szC_fit _ _ _ _ _ _ _ _ _ (by omega) hfit).mono ?_
    rintro e w1 ⟨rfl, hb⟩
    have HL := Lib.hid (HL0.out.on hb)
    obtain ⟨c0, c1, c2⟩ := HL.out.c3 (.head _)
    clear hb HL0
    go_wp2_with fail
    refine (toC_any sh de _ _ _ _ _ _ ch0 _ (H.out.on HL.out.low) (G.out.on HL.out.low) hl1 hm1).mono ?_
    rintro e w2 ⟨B1, C1, rfl, t1, u1, ne1, hb⟩
    have HL := Lib.hid (HL.out.on hb)
    have T1 := Lib.hid t1.ints
    have U1 := Lib.hid u1.ints
    obtain ⟨c0, c1, c2⟩ := HL.out.c3 (.head _)
    clear hb t1 u1 ne1
    go_wp2_with fail
    have CS := Lib.hid (tmS_any sh de _ _ len0 len0 m0 m0 ch0 _ (T1.out) (U1.out))
    unfold IIPost at CS
    rw [HVE.out.1, HVE.out.2] at CS
    refine CS.out.mono ?_
    rintro e w3 ⟨rfl, hb⟩
    have HL := Lib.hid (HL.out.on hb)
    obtain ⟨c0, c1, c2⟩ := HL.out.c3 (.head _)
    clear hb T1 U1 CS
    go_wp2_with fail
    refine (toC_any sh de _ _ _ _ _ _ ch0 _ (H.out.on HL.out.low) (G.out.on HL.out.low) hl1 hm1).mono ?_
    rintro e w4 ⟨B2, C2, rfl, t1, u1, ne1, hb⟩
    have HL := Lib.hid ((HL.out.add2 hb t1 u1 (fun x y hx hy => by cases hx; cases hy; exact ne1)).box [.slice (some ⟨B2, 0, none⟩) len0 len0, .slice (some ⟨C2, 0, none⟩) m0 m0, .int .i64 ch0] 26)
    obtain ⟨x0, x1, x2⟩ := HL.out.c3 (.head _)
    obtain ⟨c0, c1, c2⟩ := HL.out.c3 (.tail _ (.head _))
    clear hb t1 u1 ne1
    have CI := Lib.hid (tlm_any sh de _ _ len0 len0 m0 m0 ch0 _ (HL.out.tl _ (.head _)).ints (HL.out.tl _ (.tail _ (.head _))).ints)
    unfold IIPost at CI
    rw [HVE.out.1, HVE.out.2] at CI
    go_wp2_with fail
    refine CI.out.mono ?_
    rintro e w5 ⟨rfl, hb⟩
    have HL := Lib.hid (HL.out.on hb)
    obtain ⟨X, hX⟩ : ∃ y_, w4.heap.size = y_ := ⟨_, rfl⟩
    rw [hX] at HL
    obtain ⟨x0, x1, x2⟩ := HL.out.c3 (.head _)
    obtain ⟨c0, c1, c2⟩ := HL.out.c3 (.tail _ (.head _))
    clear hb CI
    go_wp2_with fail
    (try rw [hX])
    clear hX
    have HXS : Hid (∀ W, Hid (LW w [(X, [.slice (some ⟨B2, 0, none⟩) len0 len0, .slice (some ⟨C2, 0, none⟩) m0 m0, .int .i64 ch0]), (w.heap.size, [.slice a0 len0 cap0, .slice b0 m0 e0, .int .i64 ch0])] [(some ⟨B2, 0, none⟩, len0, sh), (some ⟨C2, 0, none⟩, m0, de)] W) → Calls Try.prog 24 #[.agg #[.slice a0 len0 cap0, .slice b0 m0 e0, .int .i64 ch0]] W (TcPost sh de len0 m0 ch0 W)) := Lib.hid (fun W hW => toC_any sh de _ _ _ _ _ _ ch0 W (H.out.on hW.out.low) (G.out.on hW.out.low) hl1 hm1)
    have HEQ : Hid (∀ W B3 C3, Hid (LW w [(X, [.slice (some ⟨B2, 0, none⟩) len0 len0, .slice (some ⟨C2, 0, none⟩) m0 m0, .int .i64 ch0]), (w.heap.size, [.slice a0 len0 cap0, .slice b0 m0 e0, .int .i64 ch0])] [(some ⟨B2, 0, none⟩, len0, sh), (some ⟨C2, 0, none⟩, m0, de)] W) → Hid (Ints W (some ⟨B3, 0, none⟩) len0 sh) → Hid (Ints W (some ⟨C3, 0, none⟩) m0 de) → Calls Try.prog 25 #[.agg #[.slice (some ⟨B2, 0, none⟩) len0 len0, .slice (some ⟨C2, 0, none⟩) m0 m0, .int .i64 ch0], .agg #[.slice (some ⟨B3, 0, none⟩) len0 len0, .slice (some ⟨C3, 0, none⟩) m0 m0, .int .i64 ch0]] W fun e w' => e = .returned (.bool true) ∧ Below W.heap.size W w') := Lib.hid (fun W B3 C3 hW h3 h4 => eqTc_any sh de _ _ _ _ _ _ _ _ _ _ _ _ ch0 W (hW.out.tl _ (.head _)).ints (hW.out.tl _ (.tail _ (.head _))).ints h3.out h4.out)
    unfold TcPost at HXS
    go_region_held3 (fun W9 => W9.cell? ⟨X, 0, none⟩ = some (.slice (some ⟨B2, 0, none⟩) len0 len0) ∧ W9.cell? ⟨X, 1, none⟩ = some (.slice (some ⟨C2, 0, none⟩) m0 m0) ∧ W9.cell? ⟨X, 2, none⟩ = some (.int .i64 ch0) ∧ W9.cell? ⟨w.heap.size, 0, none⟩ = some (.slice a0 len0 cap0) ∧ W9.cell? ⟨w.heap.size, 1, none⟩ = some (.slice b0 m0 e0) ∧ W9.cell? ⟨w.heap.size, 2, none⟩ = some (.int .i64 ch0) ∧ Hid (LW w [(X, [.slice (some ⟨B2, 0, none⟩) len0 len0, .slice (some ⟨C2, 0, none⟩) m0 m0, .int .i64 ch0]), (w.heap.size, [.slice a0 len0 cap0, .slice b0 m0 e0, .int .i64 ch0])] [(some ⟨B2, 0, none⟩, len0, sh), (some ⟨C2, 0, none⟩, m0, de)] W9))
      (first
        | (go_split_ands; with_reducible exact lwS2 (Hid.out (by with_reducible assumption)))
        | (go_split_ands; with_reducible exact lwS2 (LW.on (Hid.out (by with_reducible assumption)) hb))
        | (go_split_ands; with_reducible exact lwS2 (LW.drew (Hid.out (by with_reducible assumption))))
        | fail)
      (first
        | (go_split_ands; go_at_call 24; ((with_reducible refine (HXS.out _ (by with_reducible assumption)).mono ?_); rintro e w' ⟨B3, C3, rfl, t3, u3, ne3, hb⟩; have HT3 := Lib.hid t3.ints; have HU3 := Lib.hid u3.ints; clear t3 u3))
        | (go_split_ands; go_at_call 25; ((with_reducible refine (HEQ.out _ _ _ (by with_reducible assumption) (by with_reducible assumption) (by with_reducible assumption)).mono ?_); rintro e w' ⟨rfl, hb⟩))
        | fail)
    all_goals
      go_split_ands
      have HLF : Hid (LW w [(X, [.slice (some ⟨B2, 0, none⟩) len0 len0, .slice (some ⟨C2, 0, none⟩) m0 m0, .int .i64 ch0]), (w.heap.size, [.slice a0 len0 cap0, .slice b0 m0 e0, .int .i64 ch0])] [(some ⟨B2, 0, none⟩, len0, sh), (some ⟨C2, 0, none⟩, m0, de)] w') := by with_reducible assumption
      go_wp2_with fail
      go_ret
      exact ⟨rfl, HLF.out.low⟩

end Go.Proofs.Ytpphiekbhikadaa
