/- The model's draw of what SurvivalOf takes. -/
import Derived.Test.YtonkaoacohocjaaTabU
namespace Go.Proofs.Ytonkaoacohocjaa
open Go.ChangeShapes Go.WideShapes Go.ChangeAt Go.RowKit
set_option linter.unusedVariables false

/-- in the midst of it: X the result's cells, B the source, T the table's box -/
structure SvS (B X T : Nat) (a : Option Addr) (l c : Nat) (z : List Int) (F : Int) (ta : Option Addr) (tn tc : Nat) (xs : List Int) (w w' : World) : Prop where
  ready : Ready B a l c z w'
  low : Below X w w'
  c0 : w'.cell? ⟨T, 0, none⟩ = some (.int .i64 F)
  c1 : w'.cell? ⟨T, 1, none⟩ = some (.slice ta tn tc)
  r0 : ∃ v, w'.cell? ⟨X, 0, none⟩ = some v
  r1 : ∃ v, w'.cell? ⟨X, 1, none⟩ = some v
  h0 : w'.frozen? ⟨X, 0, none⟩ = false
  h1 : w'.frozen? ⟨X, 1, none⟩ = false
  ints : Ints w' ta tn xs
  far : ∀ x, ta = some x → B < x.block
  eX : w.heap.size = X
  oB : X < B
  oT : B < T
  ap : Apart a z X

theorem SvS.call {B X T : Nat} {a : Option Addr} {l c : Nat} {z : List Int} {F : Int} {ta : Option Addr} {tn tc : Nat} {xs : List Int} {w w1 w2 : World} (h : SvS B X T a l c z F ta tn tc xs w w1) (ho : But B w1 w2) (hs : Ready B a l c z w2) : SvS B X T a l c z F ta tn tc xs w w2 := by
  have oB := h.oB
  have oT := h.oT
  obtain ⟨u0, g0⟩ := h.r0
  obtain ⟨u1, g1⟩ := h.r1
  have hX : X < w1.heap.size := block_lt g0
  exact ⟨hs, h.low.trans (ho.below (by omega) (by omega)), (ho.cell (p := ⟨T, 0, none⟩) (block_lt h.c0) (by show T ≠ B; omega)).trans h.c0, (ho.cell (p := ⟨T, 1, none⟩) (block_lt h.c1) (by show T ≠ B; omega)).trans h.c1,
    ⟨u0, (ho.cell (p := ⟨X, 0, none⟩) hX (by show X ≠ B; omega)).trans g0⟩, ⟨u1, (ho.cell (p := ⟨X, 1, none⟩) hX (by show X ≠ B; omega)).trans g1⟩, (ho.frozen (p := ⟨X, 0, none⟩) hX (by show X ≠ B; omega)).trans h.h0, (ho.frozen (p := ⟨X, 1, none⟩) hX (by show X ≠ B; omega)).trans h.h1,
    h.ints.butT ho (fun x hx => by have := h.far x hx; omega), h.far, h.eX, oB, oT, h.ap⟩

theorem SvS.alloc {B X T : Nat} {a : Option Addr} {l c : Nat} {z : List Int} {F : Int} {ta : Option Addr} {tn tc : Nat} {xs : List Int} {w w1 : World} (h : SvS B X T a l c z F ta tn tc xs w w1) (o : Obj) : SvS B X T a l c z F ta tn tc xs w (w1.alloc o) := h.call (But.alloc _) (h.ready.alloc _)

theorem SvS.drew {B X T : Nat} {a : Option Addr} {l c : Nat} {z : List Int} {F : Int} {ta : Option Addr} {tn tc : Nat} {xs : List Int} {w w1 : World} (h : SvS B X T a l c z F ta tn tc xs w w1) : SvS B X T a l c z F ta tn tc xs w w1.drew := h.call (But.refl _ _).drew h.ready.drew

/-- the result is written -/
theorem SvS.put {B X T : Nat} {a : Option Addr} {l c : Nat} {z : List Int} {F : Int} {ta : Option Addr} {tn tc : Nat} {xs : List Int} {w w1 : World} (h : SvS B X T a l c z F ta tn tc xs w w1) (u v : Value) : SvS B X T a l c z F ta tn tc xs w ((w1.setCell ⟨X, 0, none⟩ u).setCell ⟨X, 1, none⟩ v) ∧
    ((w1.setCell ⟨X, 0, none⟩ u).setCell ⟨X, 1, none⟩ v).cell? ⟨X, 0, none⟩ = some u ∧ ((w1.setCell ⟨X, 0, none⟩ u).setCell ⟨X, 1, none⟩ v).cell? ⟨X, 1, none⟩ = some v := by
  have oB := h.oB
  have oT := h.oT
  obtain ⟨u0, g0⟩ := h.r0
  obtain ⟨u1, g1⟩ := h.r1
  have n1 : (⟨X, 0, none⟩ : Addr) ≠ ⟨X, 1, none⟩ := fun e => by injection e; omega
  have e0 : ((w1.setCell ⟨X, 0, none⟩ u).setCell ⟨X, 1, none⟩ v).cell? ⟨X, 0, none⟩ = some u := by rw [far_set n1]; exact World.cell?_setCell_same' _ _ _ (by rw [g0]; rfl)
  have e1 : ((w1.setCell ⟨X, 0, none⟩ u).setCell ⟨X, 1, none⟩ v).cell? ⟨X, 1, none⟩ = some v := World.cell?_setCell_same' _ _ _ (by rw [far_set n1.symm, g1]; rfl)
  have ho : Only X w1 ((w1.setCell ⟨X, 0, none⟩ u).setCell ⟨X, 1, none⟩ v) := ((Only.refl _ _).setCell (p := ⟨X, 0, none⟩) rfl _).setCell (p := ⟨X, 1, none⟩) rfl _
  refine ⟨⟨?_, h.low.trans (ho.below (Nat.le_refl _)), (ho.cell (p := ⟨T, 0, none⟩) (by show T ≠ X; omega)).trans h.c0, (ho.cell (p := ⟨T, 1, none⟩) (by show T ≠ X; omega)).trans h.c1, ⟨_, e0⟩, ⟨_, e1⟩, ?_, ?_, h.ints.onlyT ho (fun x hx => by have := h.far x hx; omega), h.far, h.eX, oB, oT, h.ap⟩, e0, e1⟩
  · obtain ⟨⟨t, x, S⟩, r, p⟩ := h.ready
    have hne : B ≠ X := by omega
    exact ⟨⟨t, x, by rw [ho.size]; exact S.here, (ho.cell (p := ⟨B, 0, none⟩) hne).trans S.code, (ho.cell (p := ⟨B, 1, none⟩) hne).trans S.att, (ho.cell (p := ⟨B, 2, none⟩) hne).trans S.seed,
      (ho.frozen (p := ⟨B, 0, none⟩) hne).trans S.free0, (ho.frozen (p := ⟨B, 1, none⟩) hne).trans S.free1, (ho.frozen (p := ⟨B, 2, none⟩) hne).trans S.free2, S.t0, S.tl, S.x0, S.xl⟩, r.below (ho.below (Nat.le_refl X)) h.ap, p⟩
  · rw [World.frozen?_setCell, World.frozen?_setCell]; exact h.h0
  · rw [World.frozen?_setCell, World.frozen?_setCell]; exact h.h1

theorem SvS.three {B X T : Nat} {a : Option Addr} {l c : Nat} {z : List Int} {F : Int} {ta : Option Addr} {tn tc : Nat} {xs : List Int} {w w1 : World} (h : Hid (SvS B X T a l c z F ta tn tc xs w w1)) : w1.cell? ⟨T, 0, none⟩ = some (.int .i64 F) ∧ w1.cell? ⟨T, 1, none⟩ = some (.slice ta tn tc) ∧ Hid (SvS B X T a l c z F ta tn tc xs w w1) := ⟨h.out.c0, h.out.c1, h⟩

def SvPost (w : World) (e : Ending) (w' : World) : Prop :=
  ∃ F ta tn tc xs x y, e = .returned (.tuple #[.agg #[.int .i64 F, .slice ta tn tc], .int .i64 x, .int .i64 y]) ∧ Ints w' ta tn xs ∧ tn ≤ tc ∧ tn ≤ 4096 ∧ Below w.heap.size w w'

theorem SvS.fin {B X T : Nat} {a : Option Addr} {l c : Nat} {z : List Int} {F : Int} {ta : Option Addr} {tn tc : Nat} {xs : List Int} {w w1 : World} {x y : Int} (h : Hid (SvS B X T a l c z F ta tn tc xs w w1)) (hn : tn ≤ tc) (hm : tn ≤ 4096) :
    SvPost w (.returned (.tuple #[.agg #[.int .i64 F, .slice ta tn tc], .int .i64 x, .int .i64 y])) w1 :=
  ⟨F, ta, tn, tc, xs, x, y, rfl, h.out.ints, hn, hm, by rw [h.out.eX]; exact h.out.low⟩

set_option maxRecDepth 100000 in
set_option maxHeartbeats 1000000 in
theorem drawSV (a : Option Addr) (l c : Nat) (z : List Int) (w : World) (hr : IsRow .u8 w a l c z) : Calls Try.prog 13 #[.slice a l c] w (SvPost w) := by
  have HRA := Lib.hid hr.apart
  have HR := Lib.hid hr
  clear hr
  have hq := box_b w (.cells #[.int .i64 0, .slice none 0 0] 26)
  have HR1 : Hid (IsRow .u8 (w.alloc (.cells #[.int .i64 0, .slice none 0 0] 26)) a l c z) := Lib.hid (HR.out.below hq HRA.out)
  go_enter Try.func13, Try.ntmps13
  go_wp2_with fail
  refine (from_any _ _ _ z _ HR1.out).mono ?_
  rintro e w1 ⟨rfl, hs, hz, hb⟩
  have HS := Lib.hid (ready_of HR1.out hs hb)
  have far0 : w1.heap.size = w.heap.size + 1 + 1 := by rw [hz, World.size_alloc]
  have r0 : w1.cell? ⟨w.heap.size, 0, none⟩ = some (.int .i64 0) := (hb.cell (p := ⟨w.heap.size, 0, none⟩) (by simp)).trans (by go_simp)
  have r1 : w1.cell? ⟨w.heap.size, 1, none⟩ = some (.slice none 0 0) := (hb.cell (p := ⟨w.heap.size, 1, none⟩) (by simp)).trans (by go_simp)
  have h0 : w1.frozen? ⟨w.heap.size, 0, none⟩ = false := (hb.frozen (p := ⟨w.heap.size, 0, none⟩) (by simp)).trans (by go_simp)
  have h1 : w1.frozen? ⟨w.heap.size, 1, none⟩ = false := (hb.frozen (p := ⟨w.heap.size, 1, none⟩) (by simp)).trans (by go_simp)
  have HB := Lib.hid (hq.trans (hb.mono (by simp)))
  rw [World.size_alloc] at HS ⊢
  obtain ⟨X, hX⟩ : ∃ X, w.heap.size = X := ⟨_, rfl⟩
  rw [hX] at r0 r1 h0 h1 HS HB far0 HRA ⊢
  have HX := Lib.hid hX
  obtain ⟨B, hBX⟩ : ∃ B, X + 1 = B := ⟨_, rfl⟩
  have oB : X < B := by omega
  rw [hBX] at HS far0 ⊢
  clear hb hz hs hX hBX hq
  go_wp2_with fail
  refine (dtable B a l c z w1 HS.out).mono ?_
  rintro e w2 ⟨F, ta, tn, tc, xs, rfl, hI, htc, htn, f0, f1, far, ho, hs⟩
  have hX1 : X < w1.heap.size := block_lt r0
  have r0 := (ho.cell (p := ⟨X, 0, none⟩) hX1 (by show X ≠ B; omega)).trans r0
  have r1 := (ho.cell (p := ⟨X, 1, none⟩) hX1 (by show X ≠ B; omega)).trans r1
  have h0 := (ho.frozen (p := ⟨X, 0, none⟩) hX1 (by show X ≠ B; omega)).trans h0
  have h1 := (ho.frozen (p := ⟨X, 1, none⟩) hX1 (by show X ≠ B; omega)).trans h1
  have hX2 : X < w2.heap.size := block_lt r0
  have hsz := ho.size
  have hA0 : Hid (SvS B X w2.heap.size a l c z F ta tn tc xs w (w2.alloc (.cells #[.int .i64 F, .slice ta tn tc] 26))) := Lib.hid (by
    have hq := box_b w2 (.cells #[.int .i64 F, .slice ta tn tc] 26)
    exact ⟨hs.alloc _, (HB.out.trans (ho.below (by omega) (by omega))).trans (hq.mono (by omega)), by go_simp, by go_simp, ⟨_, keep2 hq r0⟩, ⟨_, keep2 hq r1⟩, (hq.frozen (p := ⟨X, 0, none⟩) hX2).trans h0, (hq.frozen (p := ⟨X, 1, none⟩) hX2).trans h1, hI.on hq, fun x hx => by have := far x hx; omega, HX.out, oB, by omega, HRA.out⟩)
  clear r0 r1 h0 h1 hX1 hX2 hsz hs ho far hI HS HB
  go_wp2_with fail
  refine (next_r _ _ _ _ _ _ _ hA0.out.ready).mono ?_
  rintro e w3 ⟨r, rfl, hd, ho, hs⟩
  have HA := Lib.hid (hA0.out.call ho hs)
  clear hd ho hs hA0
  obtain ⟨T, hT⟩ : ∃ T, w2.heap.size = T := ⟨_, rfl⟩
  rw [hT] at HA
  (try rw [hT])
  clear hT
  have k0 := HA.out.c0
  have k1 := HA.out.c1
  have A1 : Hid (∀ W, Hid (SvS B X T a l c z F ta tn tc xs w W) → Calls Try.prog 43 #[.pointer (some ⟨B, 0, none⟩), .agg #[.int .i64 F, .slice ta tn tc]] W fun e w' => ∃ v, e = .returned (.int .i64 v) ∧ Hid (SvS B X T a l c z F ta tn tc xs w w') ∧ Hid (But B W w')) :=
    Lib.hid (fun W hW => (dage B a l c z F ta tn tc W hW.out.ready f0 f1 htn).mono fun e w' ⟨v, he, ho, hs⟩ => ⟨v, he, Lib.hid (hW.out.call ho hs), Lib.hid ho⟩)
  have N1 : Hid (∀ W n, Hid (SvS B X T a l c z F ta tn tc xs w W) → Calls Try.prog 42 #[.pointer (some ⟨B, 0, none⟩), .int .i64 n] W fun e w' => ∃ v, e = .returned (.int .i64 v) ∧ Hid (SvS B X T a l c z F ta tn tc xs w w')) :=
    Lib.hid (fun W n hW => (next_r B a l c z n W hW.out.ready).mono fun e w' ⟨v, he, hd, ho, hs⟩ => ⟨v, he, Lib.hid (hW.out.call ho hs)⟩)
  have P1 : Hid (∀ W x1 x2 x3 x4 T', Hid (SvS B X T a l c z F ta tn tc xs w W) → Calls Try.prog 44 #[.pointer (some ⟨B, 0, none⟩), .slice (some ⟨W.heap.size, 0, none⟩) 4 4] (W.alloc (.cells #[.int .i64 x1, .int .i64 x2, .int .i64 x3, .int .i64 x4] T')) fun e w' => ∃ v, e = .returned (.int .i64 v) ∧ Hid (SvS B X T a l c z F ta tn tc xs w w')) :=
    Lib.hid (fun W x1 x2 x3 x4 T' hW => (pick4 B x1 x2 x3 x4 T' W hW.out.ready).mono fun e w' ⟨v, he, _, ho, hs⟩ => ⟨v, he, Lib.hid (hW.out.call ho hs)⟩)
  have P3 : Hid (∀ (W w8 : World) x1 x2 x3 x4 T', Hid (SvS B X T a l c z F ta tn tc xs w w8) → Hid (But B (W.alloc (.cells #[.int .i64 x1, .int .i64 x2, .int .i64 x3, .int .i64 x4] T')).drew w8) → Hid (B < W.heap.size) → Calls Try.prog 44 #[.pointer (some ⟨B, 0, none⟩), .slice (some ⟨W.heap.size, 0, none⟩) 4 4] w8 fun e w' => ∃ v, e = .returned (.int .i64 v) ∧ Hid (SvS B X T a l c z F ta tn tc xs w w')) :=
    Lib.hid (fun W w8 x1 x2 x3 x4 T' hW hb hl => (pick_r B W.heap.size a l c 4 z [x1, x2, x3, x4] _ hW.out.ready (by have := hl.out; omega) rfl (by decide) (by decide) (fun i hi => (hb.out.cell (p := ⟨W.heap.size, i, none⟩) (by show W.heap.size < (W.alloc _).heap.size; rw [World.size_alloc]; omega) (by have := hl.out; show W.heap.size ≠ B; omega)).trans (new_cells W [x1, x2, x3, x4] T' i hi))).mono fun e w' ⟨v, he, _, ho, hs⟩ => ⟨v, he, Lib.hid (hW.out.call ho hs)⟩)
  have hlB := Lib.hid HA.out.ready.here
  by_cases hr : r = 0
  · subst hr
    go_wp2_with fail
    go_region_held3 (fun w' => w'.cell? ⟨T, 0, none⟩ = some (.int .i64 F) ∧ w'.cell? ⟨T, 1, none⟩ = some (.slice ta tn tc) ∧ Hid (SvS B X T a l c z F ta tn tc xs w w'))
      (first
        | (go_split_ands; exact SvS.three (by assumption))
        | (go_split_ands; exact SvS.three (Lib.hid (SvS.drew (Hid.out (by assumption)))))
        | (go_split_ands; exact SvS.three (Lib.hid (SvS.alloc (Hid.out (by assumption)) _)))
        | (go_split_ands; exact SvS.three (Lib.hid (SvS.put (Hid.out (by assumption)) _ _).1)))
      (first
        | (go_split_ands; go_at_call 43; ((with_reducible refine (A1.out _ (by assumption)).mono ?_); rintro e w' ⟨va, rfl, hA8, hB8⟩))
        | (go_split_ands; go_at_call 44; ((first | (with_reducible refine (P1.out _ _ _ _ _ _ (by assumption)).mono ?_) | (with_reducible refine (P3.out _ _ _ _ _ _ _ (by assumption) (by assumption) (by assumption)).mono ?_)); rintro e w' ⟨vb, rfl, hA8⟩; obtain ⟨u0, k2⟩ := hA8.out.r0; obtain ⟨u1, k3⟩ := hA8.out.r1; have k4 := hA8.out.h0; have k5 := hA8.out.h1)))
    all_goals
      go_split_ands
      have hP := hA8.out.put (.int .i64 F) (.slice ta tn tc)
      have e0 := hP.2.1
      have e1 := hP.2.2
      have HF := Lib.hid hP.1
      clear hP
      go_wp2_with fail
      exact bodyPost_ret (v := .tuple #[.agg #[.int .i64 F, .slice ta tn tc], .int .i64 va, .int .i64 vb]) (by simp [results, Try.results13, go_sem, e0, e1]) rfl (SvS.fin HF htc htn)
  · have hrb : (r == 0) = false := by simpa using hr
    go_wp2_with fail
    go_region_held3 (fun w' => w'.cell? ⟨T, 0, none⟩ = some (.int .i64 F) ∧ w'.cell? ⟨T, 1, none⟩ = some (.slice ta tn tc) ∧ Hid (SvS B X T a l c z F ta tn tc xs w w'))
      (first
        | (go_split_ands; exact SvS.three (by assumption))
        | (go_split_ands; exact SvS.three (Lib.hid (SvS.drew (Hid.out (by assumption)))))
        | (go_split_ands; exact SvS.three (Lib.hid (SvS.alloc (Hid.out (by assumption)) _)))
        | (go_split_ands; exact SvS.three (Lib.hid (SvS.put (Hid.out (by assumption)) _ _).1)))
      (first
        | (go_split_ands; go_at_call 43; ((with_reducible refine (A1.out _ (by assumption)).mono ?_); rintro e w' ⟨va, rfl, hA8, hB8⟩))
        | (go_split_ands; go_at_call 42; ((with_reducible refine (N1.out _ _ (by assumption)).mono ?_); rintro e w' ⟨vb, rfl, hA8⟩; obtain ⟨u0, k2⟩ := hA8.out.r0; obtain ⟨u1, k3⟩ := hA8.out.r1; have k4 := hA8.out.h0; have k5 := hA8.out.h1)))
    all_goals
      go_split_ands
      have hP := hA8.out.put (.int .i64 F) (.slice ta tn tc)
      have e0 := hP.2.1
      have e1 := hP.2.2
      have HF := Lib.hid hP.1
      clear hP
      go_wp2_with fail
      exact bodyPost_ret (v := .tuple #[.agg #[.int .i64 F, .slice ta tn tc], .int .i64 va, .int .i64 vb]) (by simp [results, Try.results13, go_sem, e0, e1]) rfl (SvS.fin HF htc htn)

end Go.Proofs.Ytonkaoacohocjaa
