/- Merged: Drl, Lbx. -/
import Derived.Test.YtdlfofdibooidaaGreatLb11
import Derived.Test.YtdlfofdibooidaaGreatLb17
import Derived.Test.YtdlfofdibooidaaGreatLb18

/- Leaving: what the laws draw: a basis, a policy and a year of leaving. (Written by wip/gen/drl.py.) -/
namespace Go.Proofs.YtdlfofdibooidaaGreat
open Go.ChangeShapes Go.WideShapes Go.ChangeAt Go.RowKit
set_option linter.unusedVariables false
set_option linter.unusedSimpArgs false

theorem fin_drew {B X Y T Q : Nat} {a : Option Addr} {l c : Nat} {z : List Int} {F : Int} {ta : Option Addr} {tn tc : Nat} {xs : List Int} {r k x n s u : Int} {w : World} {V E : World} (h : RD B X Y T Q a l c z F ta tn tc xs r k x n s u w V) (hE : E = ((((((((V.setCell ⟨X, 0, none⟩ (.int .i64 F)).setCell ⟨X, 1, none⟩ (.slice ta tn tc)).setCell ⟨X, 2, none⟩ (.int .i64 r)).setCell ⟨Y, 0, none⟩ (.int .i64 k)).setCell ⟨Y, 1, none⟩ (.int .i64 x)).setCell ⟨Y, 2, none⟩ (.int .i64 n)).setCell ⟨Y, 3, none⟩ (.int .i64 s)).setCell ⟨Y, 4, none⟩ (.int .i64 u)) ∨ E = ((((((((V.setCell ⟨Y, 0, none⟩ (.int .i64 k)).setCell ⟨Y, 1, none⟩ (.int .i64 x)).setCell ⟨Y, 2, none⟩ (.int .i64 n)).setCell ⟨Y, 3, none⟩ (.int .i64 s)).setCell ⟨Y, 4, none⟩ (.int .i64 u)).setCell ⟨X, 0, none⟩ (.int .i64 F)).setCell ⟨X, 1, none⟩ (.slice ta tn tc)).setCell ⟨X, 2, none⟩ (.int .i64 r))) :
    Bx E.drew X [.int .i64 F, .slice ta tn tc, .int .i64 r] ∧ Bx E.drew Y [.int .i64 k, .int .i64 x, .int .i64 n, .int .i64 s, .int .i64 u] ∧ Ints E.drew ta tn xs ∧ But B w E.drew ∧ Ready B a l c z E.drew ∧ (∀ y, ta = some y → w.heap.size + 1 < y.block) := by
  obtain ⟨h1, h2, h3, h4, h5, h6⟩ := h.fin hE
  have hb := Below.drew (Below.refl E.heap.size E)
  exact ⟨h1.on hb, h2.on hb, h3.on hb, h4.drew, h5.drew, h6⟩

set_option maxRecDepth 2000000 in
set_option maxHeartbeats 16000000 in
theorem d12 (B : Nat) (a : Option Addr) (l c : Nat) (z : List Int) (w : World) (h : Ready B a l c z w) : Calls Tryz.prog 33 #[.pointer (some ⟨B, 0, none⟩)] w (Drawn11 B a l c z w) := by
  have hB := h.here
  have b1 := box_b w (.cells #[.int .i64 0, .slice none 0 0, .int .i64 0] 28)
  have b2 := box_b (w.alloc (.cells #[.int .i64 0, .slice none 0 0, .int .i64 0] 28)) (.cells #[.int .i64 0, .int .i64 0, .int .i64 0, .int .i64 0, .int .i64 0] 30)
  have x0 := (Bx.new w [.int .i64 0, .slice none 0 0, .int .i64 0] 28).on b2
  have y0 := Bx.new (w.alloc (.cells #[.int .i64 0, .slice none 0 0, .int .i64 0] 28)) [.int .i64 0, .int .i64 0, .int .i64 0, .int .i64 0, .int .i64 0] 30
  rw [World.size_alloc] at y0
  have HX := Lib.hid (And.intro x0 y0)
  have HB := Lib.hid (b1.trans (b2.mono (by simp)))
  have HS := Lib.hid (h.below HB.out hB)
  have hsz : ((w.alloc (.cells #[.int .i64 0, .slice none 0 0, .int .i64 0] 28)).alloc (.cells #[.int .i64 0, .int .i64 0, .int .i64 0, .int .i64 0, .int .i64 0] 30)).heap.size = w.heap.size + 1 + 1 := by simp
  clear h b1 b2 x0 y0
  go_enter Tryz.func33, Tryz.ntmps33
  go_wp2_with fail
  obtain ⟨W0, hW0⟩ : ∃ y_, (w.alloc (.cells #[.int .i64 0, .slice none 0 0, .int .i64 0] 28)).alloc (.cells #[.int .i64 0, .int .i64 0, .int .i64 0, .int .i64 0, .int .i64 0] 30) = y_ := ⟨_, rfl⟩
  rw [hW0] at HB HX HS hsz ⊢
  clear hW0
  refine (d11 _ a l c z W0 HS.out).mono ?_
  rintro e w2 ⟨F, ta, tn, tc, xs, r, k, x, n, s, u, j, rfl, hI, htc, htn, far, ho, hs⟩
  have hz2 := ho.size
  have HTC := Lib.hid (And.intro htc htn)
  have HRD : Hid (RD B w.heap.size (w.heap.size + 1) w2.heap.size (w2.heap.size + 1) a l c z F ta tn tc xs r k x n s u w ((w2.alloc (.cells #[.int .i64 F, .slice ta tn tc, .int .i64 r] 28)).alloc (.cells #[.int .i64 k, .int .i64 x, .int .i64 n, .int .i64 s, .int .i64 u] 30))) := Lib.hid (by
    have q1 := box_b w2 (.cells #[.int .i64 F, .slice ta tn tc, .int .i64 r] 28)
    have q2 := box_b (w2.alloc (.cells #[.int .i64 F, .slice ta tn tc, .int .i64 r] 28)) (.cells #[.int .i64 k, .int .i64 x, .int .i64 n, .int .i64 s, .int .i64 u] 30)
    have hx := HX.out.1
    have hy := HX.out.2
    have t1 := (Bx.new w2 [.int .i64 F, .slice ta tn tc, .int .i64 r] 28).on q2
    have t2 := Bx.new (w2.alloc (.cells #[.int .i64 F, .slice ta tn tc, .int .i64 r] 28)) [.int .i64 k, .int .i64 x, .int .i64 n, .int .i64 s, .int .i64 u] 30
    rw [World.size_alloc] at t2
    have hq : Below w2.heap.size w2 ((w2.alloc (.cells #[.int .i64 F, .slice ta tn tc, .int .i64 r] 28)).alloc (.cells #[.int .i64 k, .int .i64 x, .int .i64 n, .int .i64 s, .int .i64 u] 30)) := q1.trans (q2.mono (by simp))
    have hbq : But B w2 ((w2.alloc (.cells #[.int .i64 F, .slice ta tn tc, .int .i64 r] 28)).alloc (.cells #[.int .i64 k, .int .i64 x, .int .i64 n, .int .i64 s, .int .i64 u] 30)) := ⟨hq.os, hq.tape, hq.output, hq.size, fun i hi _ => hq.block i hi⟩
    have hb0 : But B w W0 := ⟨HB.out.os, HB.out.tape, HB.out.output, HB.out.size, fun i hi _ => HB.out.block i hi⟩
    exact ⟨hs.below hq hs.here, (hb0.trans ho).trans hbq, ⟨_, _, _, (hx.same (ho.block _ hx.lt (by omega))).on hq⟩, ⟨_, _, _, _, _, (hy.same (ho.block _ hy.lt (by omega))).on hq⟩, t1, t2, hI.on hq, fun y hy => by have := far y hy; omega, hB, rfl, by omega, by omega, rfl⟩)
  have hX : ∃ X, w.heap.size = X := ⟨_, rfl⟩
  clear htc htn hI far ho hs HX HB HS
  by_cases hj : j < 2
  · go_wp2_with fail
    obtain ⟨v2, hv2⟩ : ∃ y_, (w2.alloc (.cells #[.int .i64 F, .slice ta tn tc, .int .i64 r] 28)).alloc (.cells #[.int .i64 k, .int .i64 x, .int .i64 n, .int .i64 s, .int .i64 u] 30) = y_ := ⟨_, rfl⟩
    obtain ⟨T, hT⟩ : ∃ y_, w2.heap.size = y_ := ⟨_, rfl⟩
    obtain ⟨Q, hQ⟩ : ∃ y_, T + 1 = y_ := ⟨_, rfl⟩
    obtain ⟨X, hX⟩ := hX
    obtain ⟨Y, hY⟩ : ∃ y_, X + 1 = y_ := ⟨_, rfl⟩
    rw [hv2, hT, hQ, hX, hY] at HRD
    (try rw [hv2])
    (try rw [hT])
    (try rw [hQ])
    (try rw [hX])
    (try rw [hY])
    have hXY : X ≠ Y := by omega
    have hYX : Y ≠ X := by omega
    have hTX : T ≠ X := by omega
    have hTY : T ≠ Y := by omega
    have hQX : Q ≠ X := by omega
    have hQY : Q ≠ Y := by omega
    clear hv2 hT hQ hX hY hz2 hsz hB
    have N1 : Hid (∀ W m, Hid (RD B X Y T Q a l c z F ta tn tc xs r k x n s u w W) → Calls Tryz.prog 58 #[.pointer (some ⟨B, 0, none⟩), .int .i64 m] W fun e w' => ∃ v, e = .returned (.int .i64 v) ∧ Hid (RD B X Y T Q a l c z F ta tn tc xs r k x n s u w w')) :=
      Lib.hid (fun W m hW => (next_r B a l c z m W hW.out.ready).mono fun e w' ⟨v, he, hd, ho, hs⟩ => ⟨v, he, Lib.hid (hW.out.call ho hs)⟩)
    obtain ⟨c0, c1, c2, d0, d1, d2, d3, d4, _⟩ := rdS HRD.out
    with_reducible refine (N1.out _ _ HRD).mono ?_
    rintro e w5 ⟨rr, rfl, HRD⟩
    clear c0 c1 c2 d0 d1 d2 d3 d4
    obtain ⟨c0, c1, c2, d0, d1, d2, d3, d4, _⟩ := rdS HRD.out
    by_cases hr0 : 0 < rr
    · have HEND := Lib.hid (fun E hE => fin_drew HRD.out (E := E) hE)
      have hBW := HRD.out.ready.here
      obtain ⟨⟨_, _, _, hrx⟩, ⟨_, _, _, _, _, hry⟩⟩ := And.intro (HRD.out).rx (HRD.out).ry
      obtain ⟨x0, x1, x2⟩ := hrx.three0
      obtain ⟨y0, y1, y2, y3, y4⟩ := hry.five9
      have fx0 := hrx.free 0
      have fx1 := hrx.free 1
      have fx2 := hrx.free 2
      have fy0 := hry.free 0
      have fy1 := hry.free 1
      have fy2 := hry.free 2
      have fy3 := hry.free 3
      have fy4 := hry.free 4
      clear hrx hry
      go_wp2_with fail
      go_region_held3 (fun W9 => W9.cell? ⟨T, 0, none⟩ = some (.int .i64 F) ∧ W9.cell? ⟨T, 1, none⟩ = some (.slice ta tn tc) ∧ W9.cell? ⟨T, 2, none⟩ = some (.int .i64 r) ∧ W9.cell? ⟨Q, 0, none⟩ = some (.int .i64 k) ∧ W9.cell? ⟨Q, 1, none⟩ = some (.int .i64 x) ∧ W9.cell? ⟨Q, 2, none⟩ = some (.int .i64 n) ∧ W9.cell? ⟨Q, 3, none⟩ = some (.int .i64 s) ∧ W9.cell? ⟨Q, 4, none⟩ = some (.int .i64 u) ∧ Hid (RD B X Y T Q a l c z F ta tn tc xs r k x n s u w W9))
        (first
          | (with_reducible exact rdS (RD.drew (RD.putY (RD.putX HRD.out _ _ _) _ _ _ _ _)))
          | (with_reducible exact rdS (RD.drew (RD.putX (RD.putY HRD.out _ _ _ _ _) _ _ _)))
          | (with_reducible exact rdS (RD.drew (RD.putX HRD.out _ _ _)))
          | (with_reducible exact rdS (RD.drew (RD.putY HRD.out _ _ _ _ _)))
          | (with_reducible exact rdS (RD.drew HRD.out))
          | fail)
        (first
          | fail)
      all_goals
        go_split_ands
        go_wp2_with fail
        first
          | (obtain ⟨hbx, hby, hi, hlo, hre, hfar⟩ := HEND.out _ (Or.inl rfl); obtain ⟨e0, e1, e2⟩ := hbx.three0; obtain ⟨e3, e4, e5, e6, e7⟩ := hby.five9; exact bodyPost_ret (v := .tuple #[.agg #[.int .i64 F, .slice ta tn tc, .int .i64 r], .agg #[.int .i64 k, .int .i64 x, .int .i64 n, .int .i64 s, .int .i64 u], .int .i64 2]) (by simp [results, Tryz.results33, go_sem, e0, e1, e2, e3, e4, e5, e6, e7]) rfl ⟨F, ta, tn, tc, xs, r, k, x, n, s, u, 2, rfl, hi, HTC.out.1, HTC.out.2, hfar, hlo, hre⟩)
          | (obtain ⟨hbx, hby, hi, hlo, hre, hfar⟩ := HEND.out _ (Or.inr rfl); obtain ⟨e0, e1, e2⟩ := hbx.three0; obtain ⟨e3, e4, e5, e6, e7⟩ := hby.five9; exact bodyPost_ret (v := .tuple #[.agg #[.int .i64 F, .slice ta tn tc, .int .i64 r], .agg #[.int .i64 k, .int .i64 x, .int .i64 n, .int .i64 s, .int .i64 u], .int .i64 2]) (by simp [results, Tryz.results33, go_sem, e0, e1, e2, e3, e4, e5, e6, e7]) rfl ⟨F, ta, tn, tc, xs, r, k, x, n, s, u, 2, rfl, hi, HTC.out.1, HTC.out.2, hfar, hlo, hre⟩)
    · have HEND := Lib.hid (fun E hE => fin_drew HRD.out (E := E) hE)
      have hBW := HRD.out.ready.here
      obtain ⟨⟨_, _, _, hrx⟩, ⟨_, _, _, _, _, hry⟩⟩ := And.intro (HRD.out).rx (HRD.out).ry
      obtain ⟨x0, x1, x2⟩ := hrx.three0
      obtain ⟨y0, y1, y2, y3, y4⟩ := hry.five9
      have fx0 := hrx.free 0
      have fx1 := hrx.free 1
      have fx2 := hrx.free 2
      have fy0 := hry.free 0
      have fy1 := hry.free 1
      have fy2 := hry.free 2
      have fy3 := hry.free 3
      have fy4 := hry.free 4
      clear hrx hry
      go_wp2_with fail
      go_region_held3 (fun W9 => W9.cell? ⟨T, 0, none⟩ = some (.int .i64 F) ∧ W9.cell? ⟨T, 1, none⟩ = some (.slice ta tn tc) ∧ W9.cell? ⟨T, 2, none⟩ = some (.int .i64 r) ∧ W9.cell? ⟨Q, 0, none⟩ = some (.int .i64 k) ∧ W9.cell? ⟨Q, 1, none⟩ = some (.int .i64 x) ∧ W9.cell? ⟨Q, 2, none⟩ = some (.int .i64 n) ∧ W9.cell? ⟨Q, 3, none⟩ = some (.int .i64 s) ∧ W9.cell? ⟨Q, 4, none⟩ = some (.int .i64 u) ∧ Hid (RD B X Y T Q a l c z F ta tn tc xs r k x n s u w W9))
        (first
          | (with_reducible exact rdS (RD.drew (RD.putY (RD.putX HRD.out _ _ _) _ _ _ _ _)))
          | (with_reducible exact rdS (RD.drew (RD.putX (RD.putY HRD.out _ _ _ _ _) _ _ _)))
          | (with_reducible exact rdS (RD.drew (RD.putX HRD.out _ _ _)))
          | (with_reducible exact rdS (RD.drew (RD.putY HRD.out _ _ _ _ _)))
          | (with_reducible exact rdS (RD.drew HRD.out))
          | fail)
        (first
          | fail)
      all_goals
        go_split_ands
        go_wp2_with fail
        first
          | (obtain ⟨hbx, hby, hi, hlo, hre, hfar⟩ := HEND.out _ (Or.inl rfl); obtain ⟨e0, e1, e2⟩ := hbx.three0; obtain ⟨e3, e4, e5, e6, e7⟩ := hby.five9; exact bodyPost_ret (v := .tuple #[.agg #[.int .i64 F, .slice ta tn tc, .int .i64 r], .agg #[.int .i64 k, .int .i64 x, .int .i64 n, .int .i64 s, .int .i64 u], .int .i64 j]) (by simp [results, Tryz.results33, go_sem, e0, e1, e2, e3, e4, e5, e6, e7]) rfl ⟨F, ta, tn, tc, xs, r, k, x, n, s, u, j, rfl, hi, HTC.out.1, HTC.out.2, hfar, hlo, hre⟩)
          | (obtain ⟨hbx, hby, hi, hlo, hre, hfar⟩ := HEND.out _ (Or.inr rfl); obtain ⟨e0, e1, e2⟩ := hbx.three0; obtain ⟨e3, e4, e5, e6, e7⟩ := hby.five9; exact bodyPost_ret (v := .tuple #[.agg #[.int .i64 F, .slice ta tn tc, .int .i64 r], .agg #[.int .i64 k, .int .i64 x, .int .i64 n, .int .i64 s, .int .i64 u], .int .i64 j]) (by simp [results, Tryz.results33, go_sem, e0, e1, e2, e3, e4, e5, e6, e7]) rfl ⟨F, ta, tn, tc, xs, r, k, x, n, s, u, j, rfl, hi, HTC.out.1, HTC.out.2, hfar, hlo, hre⟩)
  · go_wp2_with fail
    obtain ⟨v2, hv2⟩ : ∃ y_, (w2.alloc (.cells #[.int .i64 F, .slice ta tn tc, .int .i64 r] 28)).alloc (.cells #[.int .i64 k, .int .i64 x, .int .i64 n, .int .i64 s, .int .i64 u] 30) = y_ := ⟨_, rfl⟩
    obtain ⟨T, hT⟩ : ∃ y_, w2.heap.size = y_ := ⟨_, rfl⟩
    obtain ⟨Q, hQ⟩ : ∃ y_, T + 1 = y_ := ⟨_, rfl⟩
    obtain ⟨X, hX⟩ := hX
    obtain ⟨Y, hY⟩ : ∃ y_, X + 1 = y_ := ⟨_, rfl⟩
    rw [hv2, hT, hQ, hX, hY] at HRD
    (try rw [hv2])
    (try rw [hT])
    (try rw [hQ])
    (try rw [hX])
    (try rw [hY])
    have hXY : X ≠ Y := by omega
    have hYX : Y ≠ X := by omega
    have hTX : T ≠ X := by omega
    have hTY : T ≠ Y := by omega
    have hQX : Q ≠ X := by omega
    have hQY : Q ≠ Y := by omega
    clear hv2 hT hQ hX hY hz2 hsz hB
    have N1 : Hid (∀ W m, Hid (RD B X Y T Q a l c z F ta tn tc xs r k x n s u w W) → Calls Tryz.prog 58 #[.pointer (some ⟨B, 0, none⟩), .int .i64 m] W fun e w' => ∃ v, e = .returned (.int .i64 v) ∧ Hid (RD B X Y T Q a l c z F ta tn tc xs r k x n s u w w')) :=
      Lib.hid (fun W m hW => (next_r B a l c z m W hW.out.ready).mono fun e w' ⟨v, he, hd, ho, hs⟩ => ⟨v, he, Lib.hid (hW.out.call ho hs)⟩)
    obtain ⟨c0, c1, c2, d0, d1, d2, d3, d4, _⟩ := rdS HRD.out
    have HEND := Lib.hid (fun E hE => fin_drew HRD.out (E := E) hE)
    have hBW := HRD.out.ready.here
    obtain ⟨⟨_, _, _, hrx⟩, ⟨_, _, _, _, _, hry⟩⟩ := And.intro (HRD.out).rx (HRD.out).ry
    obtain ⟨x0, x1, x2⟩ := hrx.three0
    obtain ⟨y0, y1, y2, y3, y4⟩ := hry.five9
    have fx0 := hrx.free 0
    have fx1 := hrx.free 1
    have fx2 := hrx.free 2
    have fy0 := hry.free 0
    have fy1 := hry.free 1
    have fy2 := hry.free 2
    have fy3 := hry.free 3
    have fy4 := hry.free 4
    clear hrx hry
    go_region_held3 (fun W9 => W9.cell? ⟨T, 0, none⟩ = some (.int .i64 F) ∧ W9.cell? ⟨T, 1, none⟩ = some (.slice ta tn tc) ∧ W9.cell? ⟨T, 2, none⟩ = some (.int .i64 r) ∧ W9.cell? ⟨Q, 0, none⟩ = some (.int .i64 k) ∧ W9.cell? ⟨Q, 1, none⟩ = some (.int .i64 x) ∧ W9.cell? ⟨Q, 2, none⟩ = some (.int .i64 n) ∧ W9.cell? ⟨Q, 3, none⟩ = some (.int .i64 s) ∧ W9.cell? ⟨Q, 4, none⟩ = some (.int .i64 u) ∧ Hid (RD B X Y T Q a l c z F ta tn tc xs r k x n s u w W9))
      (first
        | (with_reducible exact rdS (RD.drew (RD.putY (RD.putX HRD.out _ _ _) _ _ _ _ _)))
        | (with_reducible exact rdS (RD.drew (RD.putX (RD.putY HRD.out _ _ _ _ _) _ _ _)))
        | (with_reducible exact rdS (RD.drew (RD.putX HRD.out _ _ _)))
        | (with_reducible exact rdS (RD.drew (RD.putY HRD.out _ _ _ _ _)))
        | (with_reducible exact rdS (RD.drew HRD.out))
        | fail)
      (first
        | fail)
    all_goals
      go_split_ands
      go_wp2_with fail
      first
        | (obtain ⟨hbx, hby, hi, hlo, hre, hfar⟩ := HEND.out _ (Or.inl rfl); obtain ⟨e0, e1, e2⟩ := hbx.three0; obtain ⟨e3, e4, e5, e6, e7⟩ := hby.five9; exact bodyPost_ret (v := .tuple #[.agg #[.int .i64 F, .slice ta tn tc, .int .i64 r], .agg #[.int .i64 k, .int .i64 x, .int .i64 n, .int .i64 s, .int .i64 u], .int .i64 j]) (by simp [results, Tryz.results33, go_sem, e0, e1, e2, e3, e4, e5, e6, e7]) rfl ⟨F, ta, tn, tc, xs, r, k, x, n, s, u, j, rfl, hi, HTC.out.1, HTC.out.2, hfar, hlo, hre⟩)
        | (obtain ⟨hbx, hby, hi, hlo, hre, hfar⟩ := HEND.out _ (Or.inr rfl); obtain ⟨e0, e1, e2⟩ := hbx.three0; obtain ⟨e3, e4, e5, e6, e7⟩ := hby.five9; exact bodyPost_ret (v := .tuple #[.agg #[.int .i64 F, .slice ta tn tc, .int .i64 r], .agg #[.int .i64 k, .int .i64 x, .int .i64 n, .int .i64 s, .int .i64 u], .int .i64 j]) (by simp [results, Tryz.results33, go_sem, e0, e1, e2, e3, e4, e5, e6, e7]) rfl ⟨F, ta, tn, tc, xs, r, k, x, n, s, u, j, rfl, hi, HTC.out.1, HTC.out.2, hfar, hlo, hre⟩)

set_option maxRecDepth 100000 in
set_option maxHeartbeats 4000000 in
theorem drawBL (a : Option Addr) (l c : Nat) (z : List Int) (w : World) (hr : IsRow .u8 w a l c z) : Calls Tryz.prog 25 #[.slice a l c] w (DgPost w) := by
  have hb1 := box_b w (.cells #[.int .i64 0, .slice none 0 0, .int .i64 0] 28)
  have hb2 := box_b (w.alloc (.cells #[.int .i64 0, .slice none 0 0, .int .i64 0] 28)) (.cells #[.int .i64 0, .int .i64 0, .int .i64 0, .int .i64 0, .int .i64 0] 30)
  have x0 := (Bx.new w [.int .i64 0, .slice none 0 0, .int .i64 0] 28).on hb2
  have y0 := Bx.new (w.alloc (.cells #[.int .i64 0, .slice none 0 0, .int .i64 0] 28)) [.int .i64 0, .int .i64 0, .int .i64 0, .int .i64 0, .int .i64 0] 30
  rw [World.size_alloc] at y0
  have HB := Lib.hid (hb1.trans (hb2.mono (by simp)))
  have HX := Lib.hid (And.intro x0 y0)
  have HR := Lib.hid (hr.below HB.out hr.apart)
  clear hr hb1 hb2 x0 y0
  go_enter Tryz.func25, Tryz.ntmps25
  go_wp2_with fail
  have hsz : ((w.alloc (.cells #[.int .i64 0, .slice none 0 0, .int .i64 0] 28)).alloc (.cells #[.int .i64 0, .int .i64 0, .int .i64 0, .int .i64 0, .int .i64 0] 30)).heap.size = w.heap.size + 1 + 1 := by simp
  obtain ⟨W0, hW0⟩ : ∃ y_, (w.alloc (.cells #[.int .i64 0, .slice none 0 0, .int .i64 0] 28)).alloc (.cells #[.int .i64 0, .int .i64 0, .int .i64 0, .int .i64 0, .int .i64 0] 30) = y_ := ⟨_, rfl⟩
  rw [hW0] at HB HX HR hsz ⊢
  clear hW0
  refine (from_any _ _ _ z _ HR.out).mono ?_
  rintro e w1 ⟨rfl, hs, hz, hb⟩
  have HS := Lib.hid (ready_of HR.out hs hb)
  have hx := HX.out.1.on hb
  have hy := HX.out.2.on hb
  have HB1 := Lib.hid (HB.out.trans (hb.mono HB.out.size))
  have HZ := Lib.hid hz
  have HSZ := Lib.hid hsz
  clear hb hz hs HX HB HR hsz
  go_wp2_with fail
  refine (d10 _ a l c z w1 HS.out).mono ?_
  rintro e w2 ⟨F, ta, tn, tc, xs, r, k, x, n, s, u, rfl, hI, htc, htn, far, ho, -⟩
  have e1 := HSZ.out
  have e2 := HZ.out
  have hx2 := hx.same (ho.block _ hx.lt (by omega))
  have hy2 := hy.same (ho.block _ hy.lt (by omega))
  have HEND := Lib.hid (fun E hE => two_end (E := E) (F := F) (tc := tc) (r := r) (k := k) (x := x) (n := n) (s := s) (u := u) hx2 hy2 (by omega) hI (fun y hy => by have := far y hy; omega) hE)
  have HLOW := Lib.hid (HB1.out.trans (ho.below (by omega) (by omega)))
  have HT := Lib.hid (And.intro htc htn)
  obtain ⟨x0, x1, x2⟩ := hx2.three0
  obtain ⟨y0, y1, y2, y3, y4⟩ := hy2.five9
  have fx0 := hx2.free 0
  have fx1 := hx2.free 1
  have fx2 := hx2.free 2
  have fy0 := hy2.free 0
  have fy1 := hy2.free 1
  have fy2 := hy2.free 2
  have fy3 := hy2.free 3
  have fy4 := hy2.free 4
  clear hx hy hx2 hy2 hI far ho e1 e2 htc htn HS HZ HSZ HB1
  go_wp2_with fail
  obtain ⟨hbx, hby, hi, hlw⟩ := HEND.out _ rfl
  obtain ⟨e0, e1, e2⟩ := hbx.three0
  obtain ⟨e3, e4, e5, e6, e7⟩ := hby.five9
  exact bodyPost_ret (v := .tuple #[.agg #[.int .i64 F, .slice ta tn tc, .int .i64 r], .agg #[.int .i64 k, .int .i64 x, .int .i64 n, .int .i64 s, .int .i64 u]]) (by simp [results, Tryz.results25, go_sem, e0, e1, e2, e3, e4, e5, e6, e7]) rfl ⟨F, ta, tn, tc, xs, r, k, x, n, s, u, rfl, hi, HT.out.1, HT.out.2, HLOW.out.trans hlw⟩

set_option maxRecDepth 100000 in
set_option maxHeartbeats 4000000 in
theorem drawPU (a : Option Addr) (l c : Nat) (z : List Int) (w : World) (hr : IsRow .u8 w a l c z) : Calls Tryz.prog 12 #[.slice a l c] w (DhPost w) := by
  have hb1 := box_b w (.cells #[.int .i64 0, .slice none 0 0, .int .i64 0] 28)
  have hb2 := box_b (w.alloc (.cells #[.int .i64 0, .slice none 0 0, .int .i64 0] 28)) (.cells #[.int .i64 0, .int .i64 0, .int .i64 0, .int .i64 0, .int .i64 0] 30)
  have x0 := (Bx.new w [.int .i64 0, .slice none 0 0, .int .i64 0] 28).on hb2
  have y0 := Bx.new (w.alloc (.cells #[.int .i64 0, .slice none 0 0, .int .i64 0] 28)) [.int .i64 0, .int .i64 0, .int .i64 0, .int .i64 0, .int .i64 0] 30
  rw [World.size_alloc] at y0
  have HB := Lib.hid (hb1.trans (hb2.mono (by simp)))
  have HX := Lib.hid (And.intro x0 y0)
  have HR := Lib.hid (hr.below HB.out hr.apart)
  clear hr hb1 hb2 x0 y0
  go_enter Tryz.func12, Tryz.ntmps12
  go_wp2_with fail
  have hsz : ((w.alloc (.cells #[.int .i64 0, .slice none 0 0, .int .i64 0] 28)).alloc (.cells #[.int .i64 0, .int .i64 0, .int .i64 0, .int .i64 0, .int .i64 0] 30)).heap.size = w.heap.size + 1 + 1 := by simp
  obtain ⟨W0, hW0⟩ : ∃ y_, (w.alloc (.cells #[.int .i64 0, .slice none 0 0, .int .i64 0] 28)).alloc (.cells #[.int .i64 0, .int .i64 0, .int .i64 0, .int .i64 0, .int .i64 0] 30) = y_ := ⟨_, rfl⟩
  rw [hW0] at HB HX HR hsz ⊢
  clear hW0
  refine (from_any _ _ _ z _ HR.out).mono ?_
  rintro e w1 ⟨rfl, hs, hz, hb⟩
  have HS := Lib.hid (ready_of HR.out hs hb)
  have hx := HX.out.1.on hb
  have hy := HX.out.2.on hb
  have HB1 := Lib.hid (HB.out.trans (hb.mono HB.out.size))
  have HZ := Lib.hid hz
  have HSZ := Lib.hid hsz
  clear hb hz hs HX HB HR hsz
  go_wp2_with fail
  refine (d12 _ a l c z w1 HS.out).mono ?_
  rintro e w2 ⟨F, ta, tn, tc, xs, r, k, x, n, s, u, j, rfl, hI, htc, htn, far, ho, -⟩
  have e1 := HSZ.out
  have e2 := HZ.out
  have hx2 := hx.same (ho.block _ hx.lt (by omega))
  have hy2 := hy.same (ho.block _ hy.lt (by omega))
  have HEND := Lib.hid (fun E hE => two_end (E := E) (F := F) (tc := tc) (r := r) (k := k) (x := x) (n := n) (s := s) (u := u) hx2 hy2 (by omega) hI (fun y hy => by have := far y hy; omega) hE)
  have HLOW := Lib.hid (HB1.out.trans (ho.below (by omega) (by omega)))
  have HT := Lib.hid (And.intro htc htn)
  obtain ⟨x0, x1, x2⟩ := hx2.three0
  obtain ⟨y0, y1, y2, y3, y4⟩ := hy2.five9
  have fx0 := hx2.free 0
  have fx1 := hx2.free 1
  have fx2 := hx2.free 2
  have fy0 := hy2.free 0
  have fy1 := hy2.free 1
  have fy2 := hy2.free 2
  have fy3 := hy2.free 3
  have fy4 := hy2.free 4
  clear hx hy hx2 hy2 hI far ho e1 e2 htc htn HS HZ HSZ HB1
  go_wp2_with fail
  obtain ⟨hbx, hby, hi, hlw⟩ := HEND.out _ rfl
  obtain ⟨e0, e1, e2⟩ := hbx.three0
  obtain ⟨e3, e4, e5, e6, e7⟩ := hby.five9
  exact bodyPost_ret (v := .tuple #[.agg #[.int .i64 F, .slice ta tn tc, .int .i64 r], .agg #[.int .i64 k, .int .i64 x, .int .i64 n, .int .i64 s, .int .i64 u], .int .i64 j]) (by simp [results, Tryz.results12, go_sem, e0, e1, e2, e3, e4, e5, e6, e7]) rfl ⟨F, ta, tn, tc, xs, r, k, x, n, s, u, j, rfl, hi, HT.out.1, HT.out.2, HLOW.out.trans hlw⟩

set_option maxRecDepth 100000 in
set_option maxHeartbeats 4000000 in
theorem drawKY (a : Option Addr) (l c : Nat) (z : List Int) (w : World) (hr : IsRow .u8 w a l c z) : Calls Tryz.prog 22 #[.slice a l c] w (DhPost w) := by
  have hb1 := box_b w (.cells #[.int .i64 0, .slice none 0 0, .int .i64 0] 28)
  have hb2 := box_b (w.alloc (.cells #[.int .i64 0, .slice none 0 0, .int .i64 0] 28)) (.cells #[.int .i64 0, .int .i64 0, .int .i64 0, .int .i64 0, .int .i64 0] 30)
  have x0 := (Bx.new w [.int .i64 0, .slice none 0 0, .int .i64 0] 28).on hb2
  have y0 := Bx.new (w.alloc (.cells #[.int .i64 0, .slice none 0 0, .int .i64 0] 28)) [.int .i64 0, .int .i64 0, .int .i64 0, .int .i64 0, .int .i64 0] 30
  rw [World.size_alloc] at y0
  have HB := Lib.hid (hb1.trans (hb2.mono (by simp)))
  have HX := Lib.hid (And.intro x0 y0)
  have HR := Lib.hid (hr.below HB.out hr.apart)
  clear hr hb1 hb2 x0 y0
  go_enter Tryz.func22, Tryz.ntmps22
  go_wp2_with fail
  have hsz : ((w.alloc (.cells #[.int .i64 0, .slice none 0 0, .int .i64 0] 28)).alloc (.cells #[.int .i64 0, .int .i64 0, .int .i64 0, .int .i64 0, .int .i64 0] 30)).heap.size = w.heap.size + 1 + 1 := by simp
  obtain ⟨W0, hW0⟩ : ∃ y_, (w.alloc (.cells #[.int .i64 0, .slice none 0 0, .int .i64 0] 28)).alloc (.cells #[.int .i64 0, .int .i64 0, .int .i64 0, .int .i64 0, .int .i64 0] 30) = y_ := ⟨_, rfl⟩
  rw [hW0] at HB HX HR hsz ⊢
  clear hW0
  refine (from_any _ _ _ z _ HR.out).mono ?_
  rintro e w1 ⟨rfl, hs, hz, hb⟩
  have HS := Lib.hid (ready_of HR.out hs hb)
  have hx := HX.out.1.on hb
  have hy := HX.out.2.on hb
  have HB1 := Lib.hid (HB.out.trans (hb.mono HB.out.size))
  have HZ := Lib.hid hz
  have HSZ := Lib.hid hsz
  clear hb hz hs HX HB HR hsz
  go_wp2_with fail
  refine (d12 _ a l c z w1 HS.out).mono ?_
  rintro e w2 ⟨F, ta, tn, tc, xs, r, k, x, n, s, u, j, rfl, hI, htc, htn, far, ho, -⟩
  have e1 := HSZ.out
  have e2 := HZ.out
  have hx2 := hx.same (ho.block _ hx.lt (by omega))
  have hy2 := hy.same (ho.block _ hy.lt (by omega))
  have HEND := Lib.hid (fun E hE => two_end (E := E) (F := F) (tc := tc) (r := r) (k := k) (x := x) (n := n) (s := s) (u := u) hx2 hy2 (by omega) hI (fun y hy => by have := far y hy; omega) hE)
  have HLOW := Lib.hid (HB1.out.trans (ho.below (by omega) (by omega)))
  have HT := Lib.hid (And.intro htc htn)
  obtain ⟨x0, x1, x2⟩ := hx2.three0
  obtain ⟨y0, y1, y2, y3, y4⟩ := hy2.five9
  have fx0 := hx2.free 0
  have fx1 := hx2.free 1
  have fx2 := hx2.free 2
  have fy0 := hy2.free 0
  have fy1 := hy2.free 1
  have fy2 := hy2.free 2
  have fy3 := hy2.free 3
  have fy4 := hy2.free 4
  clear hx hy hx2 hy2 hI far ho e1 e2 htc htn HS HZ HSZ HB1
  go_wp2_with fail
  obtain ⟨hbx, hby, hi, hlw⟩ := HEND.out _ rfl
  obtain ⟨e0, e1, e2⟩ := hbx.three0
  obtain ⟨e3, e4, e5, e6, e7⟩ := hby.five9
  exact bodyPost_ret (v := .tuple #[.agg #[.int .i64 F, .slice ta tn tc, .int .i64 r], .agg #[.int .i64 k, .int .i64 x, .int .i64 n, .int .i64 s, .int .i64 u], .int .i64 j]) (by simp [results, Tryz.results22, go_sem, e0, e1, e2, e3, e4, e5, e6, e7]) rfl ⟨F, ta, tn, tc, xs, r, k, x, n, s, u, j, rfl, hi, HT.out.1, HT.out.2, HLOW.out.trans hlw⟩

end Go.Proofs.YtdlfofdibooidaaGreat

/- What a law keeps of a basis and a policy. (Written by wip/gen/flv.py out of frl.py.) -/
namespace Go.Proofs.YtdlfofdibooidaaGreat
open Go.ChangeShapes Go.WideShapes Go.ChangeAt Go.RowKit
set_option linter.unusedVariables false

/-- what the law keeps of a basis and a policy -/
structure LB (w : World) (X Y : Nat) (F : Int) (ta : Option Addr) (tn tc : Nat) (xs : List Int) (r k x n s u : Int) (W : World) : Prop where
  b : Bx W X [.int .i64 F, .slice ta tn tc, .int .i64 r]
  p : Bx W Y [.int .i64 k, .int .i64 x, .int .i64 n, .int .i64 s, .int .i64 u]
  ints : Ints W ta tn xs
  low : Below w.heap.size w W
  le : tn ≤ tc

theorem LB.on {w : World} {X Y : Nat} {F : Int} {ta : Option Addr} {tn tc : Nat} {xs : List Int} {r k x n s u : Int} {W W' : World} (h : LB w X Y F ta tn tc xs r k x n s u W) (hb : Below W.heap.size W W') : LB w X Y F ta tn tc xs r k x n s u W' := ⟨h.b.on hb, h.p.on hb, h.ints.on hb, h.low.trans (hb.mono h.low.size), h.le⟩

theorem LB.new {w w1 : World} (F : Int) (ta : Option Addr) (tn tc : Nat) (xs : List Int) (r k x n s u : Int) (hI : Ints w1 ta tn xs) (hl : tn ≤ tc) (hb : Below w.heap.size w w1) : LB w w1.heap.size (w1.heap.size + 1) F ta tn tc xs r k x n s u ((w1.alloc (.cells #[.int .i64 F, .slice ta tn tc, .int .i64 r] 28)).alloc (.cells #[.int .i64 k, .int .i64 x, .int .i64 n, .int .i64 s, .int .i64 u] 30)) := by
  have q1 := box_b w1 (.cells #[.int .i64 F, .slice ta tn tc, .int .i64 r] 28)
  have q2 := box_b (w1.alloc (.cells #[.int .i64 F, .slice ta tn tc, .int .i64 r] 28)) (.cells #[.int .i64 k, .int .i64 x, .int .i64 n, .int .i64 s, .int .i64 u] 30)
  have y := Bx.new (w1.alloc (.cells #[.int .i64 F, .slice ta tn tc, .int .i64 r] 28)) [.int .i64 k, .int .i64 x, .int .i64 n, .int .i64 s, .int .i64 u] 30
  rw [World.size_alloc] at y
  exact ⟨(Bx.new w1 [.int .i64 F, .slice ta tn tc, .int .i64 r] 28).on q2, y, (hI.on q1).on q2, (hb.trans (q1.mono hb.size)).trans (q2.mono (by have := hb.size; simp; omega)), hl⟩

theorem lbC {w : World} {X Y : Nat} {F : Int} {ta : Option Addr} {tn tc : Nat} {xs : List Int} {r k x n s u : Int} {W : World} (h : LB w X Y F ta tn tc xs r k x n s u W) :
    W.cell? ⟨X, 0, none⟩ = some (.int .i64 F) ∧ W.cell? ⟨X, 1, none⟩ = some (.slice ta tn tc) ∧ W.cell? ⟨X, 2, none⟩ = some (.int .i64 r) ∧ W.cell? ⟨Y, 0, none⟩ = some (.int .i64 k) ∧ W.cell? ⟨Y, 1, none⟩ = some (.int .i64 x) ∧ W.cell? ⟨Y, 2, none⟩ = some (.int .i64 n) ∧ W.cell? ⟨Y, 3, none⟩ = some (.int .i64 s) ∧ W.cell? ⟨Y, 4, none⟩ = some (.int .i64 u) := by
  obtain ⟨c0, c1, c2⟩ := h.b.three0
  obtain ⟨d0, d1, d2, d3, d4⟩ := h.p.five9
  exact ⟨c0, c1, c2, d0, d1, d2, d3, d4⟩

end Go.Proofs.YtdlfofdibooidaaGreat
