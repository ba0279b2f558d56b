/- The model's draws of chapter 7: what AssurancePrice takes. (Written by wip/gen/drat.py.) -/
import Derived.Test.YtnimmkbpcmgeaaaGreatDrAs
namespace Go.Proofs.YtnimmkbpcmgeaaaGreat
open Go.ChangeShapes Go.WideShapes Go.ChangeAt Go.RowKit
set_option linter.unusedVariables false

def ApPost (w : World) (e : Ending) (w' : World) : Prop :=
  ∃ F ta tn tc xs r v0 v1 v2 v3, e = .returned (.tuple #[.agg #[.int .i64 F, .slice ta tn tc], .int .i64 r, .int .i64 v0, .int .i64 v1, .int .i64 v2, .int .i64 v3]) ∧ Ints w' ta tn xs ∧ tn ≤ tc ∧ tn ≤ 4096 ∧ (∀ x, ta = some x → w.heap.size ≤ x.block) ∧ Below w.heap.size w w'

theorem SvS.finAP {B X T : Nat} {a : Option Addr} {l c : Nat} {z : List Int} {F : Int} {ta : Option Addr} {tn tc : Nat} {xs : List Int} {w w1 : World} {r v0 v1 v2 v3 : Int} (h : Hid (SvS B X T a l c z F ta tn tc xs w w1)) (hn : tn ≤ tc) (hm : tn ≤ 4096) :
    ApPost w (.returned (.tuple #[.agg #[.int .i64 F, .slice ta tn tc], .int .i64 r, .int .i64 v0, .int .i64 v1, .int .i64 v2, .int .i64 v3])) w1 :=
  ⟨F, ta, tn, tc, xs, r, v0, v1, v2, v3, rfl, h.out.ints, hn, hm, fun y hy => by have := h.out.far y hy; have := h.out.oB; have := h.out.eX; omega, by rw [h.out.eX]; exact h.out.low⟩

set_option maxRecDepth 100000 in
set_option maxHeartbeats 4000000 in
theorem drawAP (a : Option Addr) (l c : Nat) (z : List Int) (w : World) (hr : IsRow .u8 w a l c z) : Calls Tryz.prog 8 #[.slice a l c] w (ApPost w) := by
  have HRA := Lib.hid hr.apart
  have HR := Lib.hid hr
  clear hr
  have hq := box_b w (.cells #[.int .i64 0, .slice none 0 0] 26)
  have HR1 : Hid (IsRow .u8 (w.alloc (.cells #[.int .i64 0, .slice none 0 0] 26)) a l c z) := Lib.hid (HR.out.below hq HRA.out)
  go_enter Tryz.func8, Tryz.ntmps8
  go_wp2_with fail
  refine (from_any _ _ _ z _ HR1.out).mono ?_
  rintro e w1 ⟨rfl, hs, hz, hb⟩
  have HS := Lib.hid (ready_of HR1.out hs hb)
  have far0 : w1.heap.size = w.heap.size + 1 + 1 := by rw [hz, World.size_alloc]
  have r0 : w1.cell? ⟨w.heap.size, 0, none⟩ = some (.int .i64 0) := (hb.cell (p := ⟨w.heap.size, 0, none⟩) (by simp)).trans (by go_simp)
  have r1 : w1.cell? ⟨w.heap.size, 1, none⟩ = some (.slice none 0 0) := (hb.cell (p := ⟨w.heap.size, 1, none⟩) (by simp)).trans (by go_simp)
  have h0 : w1.frozen? ⟨w.heap.size, 0, none⟩ = false := (hb.frozen (p := ⟨w.heap.size, 0, none⟩) (by simp)).trans (by go_simp)
  have h1 : w1.frozen? ⟨w.heap.size, 1, none⟩ = false := (hb.frozen (p := ⟨w.heap.size, 1, none⟩) (by simp)).trans (by go_simp)
  have HB := Lib.hid (hq.trans (hb.mono (by simp)))
  rw [World.size_alloc] at HS ⊢
  obtain ⟨X, hX⟩ : ∃ X, w.heap.size = X := ⟨_, rfl⟩
  rw [hX] at r0 r1 h0 h1 HS HB far0 HRA ⊢
  have HX := Lib.hid hX
  obtain ⟨B, hBX⟩ : ∃ B, X + 1 = B := ⟨_, rfl⟩
  have oB : X < B := by omega
  rw [hBX] at HS far0 ⊢
  clear hb hz hs hX hBX hq
  go_wp2_with fail
  refine (d07 B a l c z w1 HS.out).mono ?_
  rintro e w2 ⟨F, ta, tn, tc, xs, r, kk, x, n, rfl, hI, htc, htn, f0, f1, far, ho, hs⟩
  have hX1 : X < w1.heap.size := block_lt r0
  have r0 := (ho.cell (p := ⟨X, 0, none⟩) hX1 (by show X ≠ B; omega)).trans r0
  have r1 := (ho.cell (p := ⟨X, 1, none⟩) hX1 (by show X ≠ B; omega)).trans r1
  have h0 := (ho.frozen (p := ⟨X, 0, none⟩) hX1 (by show X ≠ B; omega)).trans h0
  have h1 := (ho.frozen (p := ⟨X, 1, none⟩) hX1 (by show X ≠ B; omega)).trans h1
  have hX2 : X < w2.heap.size := block_lt r0
  have hsz := ho.size
  have hA0 : Hid (SvS B X w2.heap.size a l c z F ta tn tc xs w (w2.alloc (.cells #[.int .i64 F, .slice ta tn tc] 26))) := Lib.hid (by
    have hq := box_b w2 (.cells #[.int .i64 F, .slice ta tn tc] 26)
    exact ⟨hs.alloc _, (HB.out.trans (ho.below (by omega) (by omega))).trans (hq.mono (by omega)), by go_simp, by go_simp, ⟨_, keep2 hq r0⟩, ⟨_, keep2 hq r1⟩, (hq.frozen (p := ⟨X, 0, none⟩) hX2).trans h0, (hq.frozen (p := ⟨X, 1, none⟩) hX2).trans h1, hI.on hq, fun x hx => by have := far x hx; omega, HX.out, oB, by omega, HRA.out⟩)
  clear r0 r1 h0 h1 hX1 hX2 hsz hs ho far hI HS HB
  obtain ⟨T, hT⟩ : ∃ T, w2.heap.size = T := ⟨_, rfl⟩
  rw [hT] at hA0
  (try rw [hT])
  have HA := hA0
  have k0 := HA.out.c0
  have k1 := HA.out.c1
  have hv : ∃ v, w2.alloc (.cells #[.int .i64 F, .slice ta tn tc] 26) = v := ⟨_, rfl⟩
  obtain ⟨v2, hv2⟩ := hv
  rw [hv2] at HA k0 k1
  have M1 : Hid (∀ W, Hid (SvS B X T a l c z F ta tn tc xs w W) → Calls Tryz.prog 25 #[.pointer (some ⟨B, 0, none⟩)] W fun e w' => ∃ v, e = .returned (.int .i64 v) ∧ Hid (SvS B X T a l c z F ta tn tc xs w w')) :=
    Lib.hid (fun W hW => (sum7_r B a l c z W hW.out.ready).mono fun e w' ⟨v, he, _, ho, hs⟩ => ⟨v, he, Lib.hid (hW.out.call ho hs)⟩)
  clear hA0
  go_wp2_with fail
  (try rw [hv2])
  (try rw [hT])
  clear hv2 hT
  go_region_held3 (fun w' => w'.cell? ⟨T, 0, none⟩ = some (.int .i64 F) ∧ w'.cell? ⟨T, 1, none⟩ = some (.slice ta tn tc) ∧ Hid (SvS B X T a l c z F ta tn tc xs w w'))
    (first
      | (go_split_ands; exact SvS.three (by with_reducible assumption))
      | (go_split_ands; exact SvS.three (Lib.hid (SvS.drew (Hid.out (by with_reducible assumption)))))
      | (go_split_ands; exact SvS.three (Lib.hid (SvS.put (Hid.out (by with_reducible assumption)) _ _).1))
      | fail)
    (first
      | (go_split_ands; go_at_call 25; ((with_reducible refine (M1.out _ (by with_reducible assumption)).mono ?_); rintro e w' ⟨vm, rfl, hA8⟩; obtain ⟨u0, k2⟩ := hA8.out.r0; obtain ⟨u1, k3⟩ := hA8.out.r1; have k4 := hA8.out.h0; have k5 := hA8.out.h1))
      | fail)
  all_goals
    go_split_ands
    have hP := hA8.out.put (.int .i64 F) (.slice ta tn tc)
    have e0 := hP.2.1
    have e1 := hP.2.2
    have HF := Lib.hid hP.1
    clear hP
    go_wp2_with fail
    exact bodyPost_ret (v := .tuple #[.agg #[.int .i64 F, .slice ta tn tc], .int .i64 r, .int .i64 (kk), .int .i64 (x), .int .i64 (n), .int .i64 (vm)]) (by simp [results, Tryz.results8, go_sem, e0, e1]) rfl (SvS.finAP HF htc htn)

set_option maxRecDepth 100000 in
set_option maxHeartbeats 1000000 in
theorem drawSF (a : Option Addr) (l c : Nat) (z : List Int) (w : World) (hr : IsRow .u8 w a l c z) : Calls Tryz.prog 5 #[.slice a l c] w (ApPost w) := by
  have HRA := Lib.hid hr.apart
  have hq := box_b w (.cells #[.int .i64 0, .slice none 0 0] 26)
  have HR1 : Hid (IsRow .u8 (w.alloc (.cells #[.int .i64 0, .slice none 0 0] 26)) a l c z) := Lib.hid (hr.below hq HRA.out)
  clear hr
  go_enter Tryz.func5, Tryz.ntmps5
  go_wp2_with fail
  refine (drawAP _ _ _ _ _ HR1.out).mono ?_
  rintro e w1 ⟨F, ta, tn, tc, xs, r, v0, v1, v2, v3, rfl, hI, htc, htn, far, hb⟩
  have r0 : w1.cell? ⟨w.heap.size, 0, none⟩ = some (.int .i64 0) := (hb.cell (p := ⟨w.heap.size, 0, none⟩) (by simp)).trans (by go_simp)
  have r1 : w1.cell? ⟨w.heap.size, 1, none⟩ = some (.slice none 0 0) := (hb.cell (p := ⟨w.heap.size, 1, none⟩) (by simp)).trans (by go_simp)
  have h0 : w1.frozen? ⟨w.heap.size, 0, none⟩ = false := (hb.frozen (p := ⟨w.heap.size, 0, none⟩) (by simp)).trans (by go_simp)
  have h1 : w1.frozen? ⟨w.heap.size, 1, none⟩ = false := (hb.frozen (p := ⟨w.heap.size, 1, none⟩) (by simp)).trans (by go_simp)
  have HB := Lib.hid (hq.trans (hb.mono (by simp)))
  have HF : Hid (∀ x, ta = some x → w.heap.size < x.block) := Lib.hid (fun x hx => by have := far x hx; rw [World.size_alloc] at this; omega)
  have HI := Lib.hid hI
  obtain ⟨e0, e1, hox⟩ := putX w1 w.heap.size (.int .i64 F) (.slice ta tn tc) ⟨_, r0⟩ ⟨_, r1⟩
  have HX := Lib.hid hox
  clear hb hox far hI hq
  go_wp2_with fail
  refine bodyPost_ret (v := .tuple #[.agg #[.int .i64 F, .slice ta tn tc], .int .i64 r, .int .i64 v0, .int .i64 v1, .int .i64 v2, .int .i64 v3]) (by simp [results, Tryz.results5, go_sem, e0, e1]) rfl ?_
  exact ⟨F, ta, tn, tc, xs, r, v0, v1, v2, v3, rfl, HI.out.onlyT HX.out (fun x hx => by have := HF.out x hx; omega), htc, htn, fun x hx => by have := HF.out x hx; omega, HB.out.trans (HX.out.below (Nat.le_refl _))⟩

end Go.Proofs.YtnimmkbpcmgeaaaGreat
