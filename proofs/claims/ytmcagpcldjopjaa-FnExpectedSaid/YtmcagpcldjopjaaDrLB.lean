/- The model's draws of what LivesAt, DeathsAt and ExpectedYears take. -/
import Derived.Test.YtmcagpcldjopjaaTabV
namespace Go.Proofs.Ytmcagpcldjopjaa
open Go.ChangeShapes Go.WideShapes Go.ChangeAt Go.RowKit
set_option linter.unusedVariables false

def LaPost (w : World) (e : Ending) (w' : World) : Prop :=
  ∃ F ta tn tc xs x, e = .returned (.tuple #[.agg #[.int .i64 F, .slice ta tn tc], .int .i64 x]) ∧ Ints w' ta tn xs ∧ tn ≤ tc ∧ tn ≤ 4096 ∧ (∀ y, ta = some y → w.heap.size ≤ y.block) ∧ Below w.heap.size w w'

theorem SvS.finLA {B X T : Nat} {a : Option Addr} {l c : Nat} {z : List Int} {F : Int} {ta : Option Addr} {tn tc : Nat} {xs : List Int} {w w1 : World} {x : Int} (h : Hid (SvS B X T a l c z F ta tn tc xs w w1)) (hn : tn ≤ tc) (hm : tn ≤ 4096) :
    LaPost w (.returned (.tuple #[.agg #[.int .i64 F, .slice ta tn tc], .int .i64 x])) w1 :=
  ⟨F, ta, tn, tc, xs, x, rfl, h.out.ints, hn, hm, fun y hy => by have := h.out.far y hy; have := h.out.oB; have := h.out.eX; omega, by rw [h.out.eX]; exact h.out.low⟩

set_option maxRecDepth 100000 in
set_option maxHeartbeats 1000000 in
theorem drawLA (a : Option Addr) (l c : Nat) (z : List Int) (w : World) (hr : IsRow .u8 w a l c z) : Calls Try.prog 43 #[.slice a l c] w (LaPost w) := by
  have HRA := Lib.hid hr.apart
  have HR := Lib.hid hr
  clear hr
  have hq := box_b w (.cells #[.int .i64 0, .slice none 0 0] 26)
  have HR1 : Hid (IsRow .u8 (w.alloc (.cells #[.int .i64 0, .slice none 0 0] 26)) a l c z) := Lib.hid (HR.out.below hq HRA.out)
  go_enter Try.func43, Try.ntmps43
  go_wp2_with fail
  refine (from_any _ _ _ z _ HR1.out).mono ?_
  rintro e w1 ⟨rfl, hs, hz, hb⟩
  have HS := Lib.hid (ready_of HR1.out hs hb)
  have far0 : w1.heap.size = w.heap.size + 1 + 1 := by rw [hz, World.size_alloc]
  have r0 : w1.cell? ⟨w.heap.size, 0, none⟩ = some (.int .i64 0) := (hb.cell (p := ⟨w.heap.size, 0, none⟩) (by simp)).trans (by go_simp)
  have r1 : w1.cell? ⟨w.heap.size, 1, none⟩ = some (.slice none 0 0) := (hb.cell (p := ⟨w.heap.size, 1, none⟩) (by simp)).trans (by go_simp)
  have h0 : w1.frozen? ⟨w.heap.size, 0, none⟩ = false := (hb.frozen (p := ⟨w.heap.size, 0, none⟩) (by simp)).trans (by go_simp)
  have h1 : w1.frozen? ⟨w.heap.size, 1, none⟩ = false := (hb.frozen (p := ⟨w.heap.size, 1, none⟩) (by simp)).trans (by go_simp)
  have HB := Lib.hid (hq.trans (hb.mono (by simp)))
  rw [World.size_alloc] at HS ⊢
  obtain ⟨X, hX⟩ : ∃ X, w.heap.size = X := ⟨_, rfl⟩
  rw [hX] at r0 r1 h0 h1 HS HB far0 HRA ⊢
  have HX := Lib.hid hX
  obtain ⟨B, hBX⟩ : ∃ B, X + 1 = B := ⟨_, rfl⟩
  have oB : X < B := by omega
  rw [hBX] at HS far0 ⊢
  clear hb hz hs hX hBX hq
  go_wp2_with fail
  refine (dtable B a l c z w1 HS.out).mono ?_
  rintro e w2 ⟨F, ta, tn, tc, xs, rfl, hI, htc, htn, f0, f1, far, ho, hs⟩
  have hX1 : X < w1.heap.size := block_lt r0
  have r0 := (ho.cell (p := ⟨X, 0, none⟩) hX1 (by show X ≠ B; omega)).trans r0
  have r1 := (ho.cell (p := ⟨X, 1, none⟩) hX1 (by show X ≠ B; omega)).trans r1
  have h0 := (ho.frozen (p := ⟨X, 0, none⟩) hX1 (by show X ≠ B; omega)).trans h0
  have h1 := (ho.frozen (p := ⟨X, 1, none⟩) hX1 (by show X ≠ B; omega)).trans h1
  have hX2 : X < w2.heap.size := block_lt r0
  have hsz := ho.size
  have hA0 : Hid (SvS B X w2.heap.size a l c z F ta tn tc xs w (w2.alloc (.cells #[.int .i64 F, .slice ta tn tc] 26))) := Lib.hid (by
    have hq := box_b w2 (.cells #[.int .i64 F, .slice ta tn tc] 26)
    exact ⟨hs.alloc _, (HB.out.trans (ho.below (by omega) (by omega))).trans (hq.mono (by omega)), by go_simp, by go_simp, ⟨_, keep2 hq r0⟩, ⟨_, keep2 hq r1⟩, (hq.frozen (p := ⟨X, 0, none⟩) hX2).trans h0, (hq.frozen (p := ⟨X, 1, none⟩) hX2).trans h1, hI.on hq, fun x hx => by have := far x hx; omega, HX.out, oB, by omega, HRA.out⟩)
  clear r0 r1 h0 h1 hX1 hX2 hsz hs ho far hI HS HB
  obtain ⟨T, hT⟩ : ∃ T, w2.heap.size = T := ⟨_, rfl⟩
  rw [hT] at hA0
  (try rw [hT])
  have HA := hA0
  have k0 := HA.out.c0
  have k1 := HA.out.c1
  have hv : ∃ v, w2.alloc (.cells #[.int .i64 F, .slice ta tn tc] 26) = v := ⟨_, rfl⟩
  obtain ⟨v2, hv2⟩ := hv
  rw [hv2] at HA k0 k1
  have A1 : Hid (∀ W, Hid (SvS B X T a l c z F ta tn tc xs w W) → Calls Try.prog 56 #[.pointer (some ⟨B, 0, none⟩), .agg #[.int .i64 F, .slice ta tn tc]] W fun e w' => ∃ v, e = .returned (.int .i64 v) ∧ Hid (SvS B X T a l c z F ta tn tc xs w w')) :=
    Lib.hid (fun W hW => (dage B a l c z F ta tn tc W hW.out.ready f0 f1 htn).mono fun e w' ⟨v, he, ho, hs⟩ => ⟨v, he, Lib.hid (hW.out.call ho hs)⟩)
  clear hA0
  go_wp2_with fail
  (try rw [hv2])
  (try rw [hT])
  clear hv2 hT
  go_region_held3 (fun w' => w'.cell? ⟨T, 0, none⟩ = some (.int .i64 F) ∧ w'.cell? ⟨T, 1, none⟩ = some (.slice ta tn tc) ∧ Hid (SvS B X T a l c z F ta tn tc xs w w'))
    (first
      | (go_split_ands; exact SvS.three (by assumption))
      | (go_split_ands; exact SvS.three (Lib.hid (SvS.drew (Hid.out (by assumption)))))
      | (go_split_ands; exact SvS.three (Lib.hid (SvS.alloc (Hid.out (by assumption)) _)))
      | (go_split_ands; exact SvS.three (Lib.hid (SvS.put (Hid.out (by assumption)) _ _).1)))
    (first | (go_split_ands; go_at_call 56; ((with_reducible refine (A1.out _ (by assumption)).mono ?_); rintro e w' ⟨va, rfl, hA8⟩; obtain ⟨u0, k2⟩ := hA8.out.r0; obtain ⟨u1, k3⟩ := hA8.out.r1; have k4 := hA8.out.h0; have k5 := hA8.out.h1)))
  all_goals
    go_split_ands
    have hP := hA8.out.put (.int .i64 F) (.slice ta tn tc)
    have e0 := hP.2.1
    have e1 := hP.2.2
    have HF := Lib.hid hP.1
    clear hP
    go_wp2_with fail
    exact bodyPost_ret (v := .tuple #[.agg #[.int .i64 F, .slice ta tn tc], .int .i64 va]) (by simp [results, Try.results43, go_sem, e0, e1]) rfl (SvS.finLA HF htc htn)

theorem put2 (w1 : World) (X : Nat) (u v : Value) (g0 : ∃ v, w1.cell? ⟨X, 0, none⟩ = some v) (g1 : ∃ v, w1.cell? ⟨X, 1, none⟩ = some v) :
    ((w1.setCell ⟨X, 0, none⟩ u).setCell ⟨X, 1, none⟩ v).cell? ⟨X, 0, none⟩ = some u ∧ ((w1.setCell ⟨X, 0, none⟩ u).setCell ⟨X, 1, none⟩ v).cell? ⟨X, 1, none⟩ = some v ∧ Only X w1 ((w1.setCell ⟨X, 0, none⟩ u).setCell ⟨X, 1, none⟩ v) := by
  obtain ⟨v0, g0⟩ := g0
  obtain ⟨v1, g1⟩ := g1
  have n1 : (⟨X, 0, none⟩ : Addr) ≠ ⟨X, 1, none⟩ := fun e => by injection e; omega
  exact ⟨by rw [far_set n1]; exact World.cell?_setCell_same' _ _ _ (by rw [g0]; rfl), World.cell?_setCell_same' _ _ _ (by rw [far_set n1.symm, g1]; rfl), ((Only.refl _ _).setCell (p := ⟨X, 0, none⟩) rfl _).setCell (p := ⟨X, 1, none⟩) rfl _⟩

theorem box2g {w w1 : World} {x y : Value} {T : TypeId} (hb : Below (w.alloc (.cells #[x, y] T)).heap.size (w.alloc (.cells #[x, y] T)) w1) (i : Nat) (hi : i < 2) : w1.frozen? ⟨w.heap.size, i, none⟩ = false := by
  refine (hb.frozen (p := ⟨w.heap.size, i, none⟩) (by simp)).trans ?_
  match i, hi with
  | 0, _ => go_simp
  | 1, _ => go_simp

set_option maxRecDepth 100000 in
set_option maxHeartbeats 1000000 in
theorem drawEY (a : Option Addr) (l c : Nat) (z : List Int) (w : World) (hr : IsRow .u8 w a l c z) : Calls Try.prog 14 #[.slice a l c] w (LaPost w) := by
  have hq := box_b w (.cells #[.int .i64 0, .slice none 0 0] 26)
  have HD := Lib.hid (drawLA a l c z (w.alloc (.cells #[.int .i64 0, .slice none 0 0] 26)) (hr.below hq hr.apart))
  clear hr hq
  go_enter Try.func14, Try.ntmps14
  go_wp2_with fail
  refine HD.out.mono ?_
  rintro e w1 ⟨F, ta, tn, tc, xs, x, rfl, hI, htc, htn, far, hb⟩
  have far2 : ∀ y, ta = some y → w.heap.size < y.block := fun y hy => by have := far y hy; rw [World.size_alloc] at this; omega
  have HFR := Lib.hid far2
  clear far far2
  obtain ⟨hB, hd0, hd1⟩ := box2 hb
  have hf0 := box2g hb 0 (by omega)
  have hf1 := box2g hb 1 (by omega)
  obtain ⟨e0, e1, ho⟩ := put2 w1 w.heap.size (.int .i64 F) (.slice ta tn tc) ⟨_, hd0⟩ ⟨_, hd1⟩
  have HO := Lib.hid ho
  have HB := Lib.hid hB
  have HI := Lib.hid hI
  clear HD hb ho hB hI
  go_wp2_with fail
  exact bodyPost_ret (v := .tuple #[.agg #[.int .i64 F, .slice ta tn tc], .int .i64 x]) (by simp [results, Try.results14, go_sem, e0, e1]) rfl ⟨F, ta, tn, tc, xs, x, rfl, HI.out.onlyT HO.out (fun y hy => by have := HFR.out y hy; omega), htc, htn, fun y hy => by have := HFR.out y hy; omega, HB.out.trans (HO.out.below (Nat.le_refl _))⟩

end Go.Proofs.Ytmcagpcldjopjaa
