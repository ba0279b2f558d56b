/- Merged: DrAn. -/
import Derived.Test.YtmcagpcldjopjaaAn7

/- The model's draws of what chapter 6 takes: a table, a rate, an age, an amount or a price, a number of years. (Written by wip/gen/dran.py.) -/
namespace Go.Proofs.Ytmcagpcldjopjaa
open Go.ChangeShapes Go.WideShapes Go.ChangeAt Go.RowKit
set_option linter.unusedVariables false

theorem amt_r (B : Nat) (a : Option Addr) (l c : Nat) (z : List Int) (w : World) (h : Ready B a l c z w) :
    Calls Try.prog 57 #[.pointer (some ⟨B, 0, none⟩)] w (NumPost B a l c z Any w) := by
  have HS := Lib.hid h
  have HO := Lib.hid (But.refl B w)
  clear h
  go_enter Try.func57, Try.ntmps57
  go_wp2_with (first | (go_at_call 55; refine (next_r _ _ _ _ _ _ _ HS.out).mono ?_; rintro e w1 ⟨r, rfl, hd, ho, hs⟩; have HO := Lib.hid (HO.out.trans ho); have HS := Lib.hid hs; clear ho hs hd) | (go_at_call 58; ((with_reducible refine (pick4 B _ _ _ _ _ _ HS.out).mono ?_); rintro e w1 ⟨r, rfl, hd, ho, hs⟩; have HO := Lib.hid (HO.out.trans ho); have HS := Lib.hid hs; clear ho hs hd)) | (go_at_call 58; ((with_reducible refine (pick3 B _ _ _ _ _ HS.out).mono ?_); rintro e w1 ⟨r, rfl, hd, ho, hs⟩; have HO := Lib.hid (HO.out.trans ho); have HS := Lib.hid hs; clear ho hs hd)))
  all_goals
    go_ret
    exact ⟨_, rfl, trivial, HO.out, HS.out⟩

def LfPost (w : World) (e : Ending) (w' : World) : Prop :=
  ∃ F ta tn tc xs r v0 v1, e = .returned (.tuple #[.agg #[.int .i64 F, .slice ta tn tc], .int .i64 r, .int .i64 v0, .int .i64 v1]) ∧ Ints w' ta tn xs ∧ tn ≤ tc ∧ tn ≤ 4096 ∧ Below w.heap.size w w'

theorem SvS.finLF {B X T : Nat} {a : Option Addr} {l c : Nat} {z : List Int} {F : Int} {ta : Option Addr} {tn tc : Nat} {xs : List Int} {w w1 : World} {r v0 v1 : Int} (h : Hid (SvS B X T a l c z F ta tn tc xs w w1)) (hn : tn ≤ tc) (hm : tn ≤ 4096) :
    LfPost w (.returned (.tuple #[.agg #[.int .i64 F, .slice ta tn tc], .int .i64 r, .int .i64 v0, .int .i64 v1])) w1 :=
  ⟨F, ta, tn, tc, xs, r, v0, v1, rfl, h.out.ints, hn, hm, by rw [h.out.eX]; exact h.out.low⟩

def TaPost (w : World) (e : Ending) (w' : World) : Prop :=
  ∃ F ta tn tc xs r v0 v1 v2, e = .returned (.tuple #[.agg #[.int .i64 F, .slice ta tn tc], .int .i64 r, .int .i64 v0, .int .i64 v1, .int .i64 v2]) ∧ Ints w' ta tn xs ∧ tn ≤ tc ∧ tn ≤ 4096 ∧ Below w.heap.size w w'

theorem SvS.finTA {B X T : Nat} {a : Option Addr} {l c : Nat} {z : List Int} {F : Int} {ta : Option Addr} {tn tc : Nat} {xs : List Int} {w w1 : World} {r v0 v1 v2 : Int} (h : Hid (SvS B X T a l c z F ta tn tc xs w w1)) (hn : tn ≤ tc) (hm : tn ≤ 4096) :
    TaPost w (.returned (.tuple #[.agg #[.int .i64 F, .slice ta tn tc], .int .i64 r, .int .i64 v0, .int .i64 v1, .int .i64 v2])) w1 :=
  ⟨F, ta, tn, tc, xs, r, v0, v1, v2, rfl, h.out.ints, hn, hm, by rw [h.out.eX]; exact h.out.low⟩

set_option maxRecDepth 100000 in
set_option maxHeartbeats 4000000 in
theorem drawLF (a : Option Addr) (l c : Nat) (z : List Int) (w : World) (hr : IsRow .u8 w a l c z) : Calls Try.prog 31 #[.slice a l c] w (LfPost w) := by
  have HRA := Lib.hid hr.apart
  have HR := Lib.hid hr
  clear hr
  have hq := box_b w (.cells #[.int .i64 0, .slice none 0 0] 26)
  have HR1 : Hid (IsRow .u8 (w.alloc (.cells #[.int .i64 0, .slice none 0 0] 26)) a l c z) := Lib.hid (HR.out.below hq HRA.out)
  go_enter Try.func31, Try.ntmps31
  go_wp2_with fail
  refine (from_any _ _ _ z _ HR1.out).mono ?_
  rintro e w1 ⟨rfl, hs, hz, hb⟩
  have HS := Lib.hid (ready_of HR1.out hs hb)
  have far0 : w1.heap.size = w.heap.size + 1 + 1 := by rw [hz, World.size_alloc]
  have r0 : w1.cell? ⟨w.heap.size, 0, none⟩ = some (.int .i64 0) := (hb.cell (p := ⟨w.heap.size, 0, none⟩) (by simp)).trans (by go_simp)
  have r1 : w1.cell? ⟨w.heap.size, 1, none⟩ = some (.slice none 0 0) := (hb.cell (p := ⟨w.heap.size, 1, none⟩) (by simp)).trans (by go_simp)
  have h0 : w1.frozen? ⟨w.heap.size, 0, none⟩ = false := (hb.frozen (p := ⟨w.heap.size, 0, none⟩) (by simp)).trans (by go_simp)
  have h1 : w1.frozen? ⟨w.heap.size, 1, none⟩ = false := (hb.frozen (p := ⟨w.heap.size, 1, none⟩) (by simp)).trans (by go_simp)
  have HB := Lib.hid (hq.trans (hb.mono (by simp)))
  rw [World.size_alloc] at HS ⊢
  obtain ⟨X, hX⟩ : ∃ X, w.heap.size = X := ⟨_, rfl⟩
  rw [hX] at r0 r1 h0 h1 HS HB far0 HRA ⊢
  have HX := Lib.hid hX
  obtain ⟨B, hBX⟩ : ∃ B, X + 1 = B := ⟨_, rfl⟩
  have oB : X < B := by omega
  rw [hBX] at HS far0 ⊢
  clear hb hz hs hX hBX hq
  go_wp2_with fail
  refine (drawTR B a l c z w1 HS.out).mono ?_
  rintro e w2 ⟨F, ta, tn, tc, xs, r, rfl, hI, htc, htn, f0, f1, far, ho, hs⟩
  have hX1 : X < w1.heap.size := block_lt r0
  have r0 := (ho.cell (p := ⟨X, 0, none⟩) hX1 (by show X ≠ B; omega)).trans r0
  have r1 := (ho.cell (p := ⟨X, 1, none⟩) hX1 (by show X ≠ B; omega)).trans r1
  have h0 := (ho.frozen (p := ⟨X, 0, none⟩) hX1 (by show X ≠ B; omega)).trans h0
  have h1 := (ho.frozen (p := ⟨X, 1, none⟩) hX1 (by show X ≠ B; omega)).trans h1
  have hX2 : X < w2.heap.size := block_lt r0
  have hsz := ho.size
  have hA0 : Hid (SvS B X w2.heap.size a l c z F ta tn tc xs w (w2.alloc (.cells #[.int .i64 F, .slice ta tn tc] 26))) := Lib.hid (by
    have hq := box_b w2 (.cells #[.int .i64 F, .slice ta tn tc] 26)
    exact ⟨hs.alloc _, (HB.out.trans (ho.below (by omega) (by omega))).trans (hq.mono (by omega)), by go_simp, by go_simp, ⟨_, keep2 hq r0⟩, ⟨_, keep2 hq r1⟩, (hq.frozen (p := ⟨X, 0, none⟩) hX2).trans h0, (hq.frozen (p := ⟨X, 1, none⟩) hX2).trans h1, hI.on hq, fun x hx => by have := far x hx; omega, HX.out, oB, by omega, HRA.out⟩)
  clear r0 r1 h0 h1 hX1 hX2 hsz hs ho far hI HS HB
  obtain ⟨T, hT⟩ : ∃ T, w2.heap.size = T := ⟨_, rfl⟩
  rw [hT] at hA0
  (try rw [hT])
  have HA := hA0
  have k0 := HA.out.c0
  have k1 := HA.out.c1
  have hv : ∃ v, w2.alloc (.cells #[.int .i64 F, .slice ta tn tc] 26) = v := ⟨_, rfl⟩
  obtain ⟨v2, hv2⟩ := hv
  rw [hv2] at HA k0 k1
  have A1 : Hid (∀ W, Hid (SvS B X T a l c z F ta tn tc xs w W) → Calls Try.prog 56 #[.pointer (some ⟨B, 0, none⟩), .agg #[.int .i64 F, .slice ta tn tc]] W fun e w' => ∃ v, e = .returned (.int .i64 v) ∧ Hid (SvS B X T a l c z F ta tn tc xs w w') ∧ Hid (But B W w')) :=
    Lib.hid (fun W hW => (dage B a l c z F ta tn tc W hW.out.ready f0 f1 htn).mono fun e w' ⟨v, he, ho, hs⟩ => ⟨v, he, Lib.hid (hW.out.call ho hs), Lib.hid ho⟩)
  have M1 : Hid (∀ W, Hid (SvS B X T a l c z F ta tn tc xs w W) → Calls Try.prog 57 #[.pointer (some ⟨B, 0, none⟩)] W fun e w' => ∃ v, e = .returned (.int .i64 v) ∧ Hid (SvS B X T a l c z F ta tn tc xs w w') ∧ Hid (But B W w')) :=
    Lib.hid (fun W hW => (amt_r B a l c z W hW.out.ready).mono fun e w' ⟨v, he, _, ho, hs⟩ => ⟨v, he, Lib.hid (hW.out.call ho hs), Lib.hid ho⟩)
  clear hA0
  go_wp2_with fail
  (try rw [hv2])
  (try rw [hT])
  clear hv2 hT
  go_region_held3 (fun w' => w'.cell? ⟨T, 0, none⟩ = some (.int .i64 F) ∧ w'.cell? ⟨T, 1, none⟩ = some (.slice ta tn tc) ∧ Hid (SvS B X T a l c z F ta tn tc xs w w'))
    (first
      | (go_split_ands; exact SvS.three (by with_reducible assumption))
      | (go_split_ands; exact SvS.three (Lib.hid (SvS.drew (Hid.out (by with_reducible assumption)))))
      | (go_split_ands; exact SvS.three (Lib.hid (SvS.alloc (Hid.out (by with_reducible assumption)) _)))
      | (go_split_ands; exact SvS.three (Lib.hid (SvS.put (Hid.out (by with_reducible assumption)) _ _).1))
      | fail)
    (first
      | (go_split_ands; go_at_call 56; ((with_reducible refine (A1.out _ (by with_reducible assumption)).mono ?_); rintro e w' ⟨va, rfl, hA8, hB8⟩))
      | (go_split_ands; go_at_call 57; ((with_reducible refine (M1.out _ (by with_reducible assumption)).mono ?_); rintro e w' ⟨vm, rfl, hA8, hB9⟩; obtain ⟨u0, k2⟩ := hA8.out.r0; obtain ⟨u1, k3⟩ := hA8.out.r1; have k4 := hA8.out.h0; have k5 := hA8.out.h1))
      | fail)
  all_goals
    go_split_ands
    have hP := hA8.out.put (.int .i64 F) (.slice ta tn tc)
    have e0 := hP.2.1
    have e1 := hP.2.2
    have HF := Lib.hid hP.1
    clear hP
    go_wp2_with fail
    exact bodyPost_ret (v := .tuple #[.agg #[.int .i64 F, .slice ta tn tc], .int .i64 r, .int .i64 va, .int .i64 vm]) (by simp [results, Try.results31, go_sem, e0, e1]) rfl (SvS.finLF HF htc htn)

set_option maxRecDepth 100000 in
set_option maxHeartbeats 4000000 in
theorem drawTA (a : Option Addr) (l c : Nat) (z : List Int) (w : World) (hr : IsRow .u8 w a l c z) : Calls Try.prog 20 #[.slice a l c] w (TaPost w) := by
  have HRA := Lib.hid hr.apart
  have HR := Lib.hid hr
  clear hr
  have hq := box_b w (.cells #[.int .i64 0, .slice none 0 0] 26)
  have HR1 : Hid (IsRow .u8 (w.alloc (.cells #[.int .i64 0, .slice none 0 0] 26)) a l c z) := Lib.hid (HR.out.below hq HRA.out)
  go_enter Try.func20, Try.ntmps20
  go_wp2_with fail
  refine (from_any _ _ _ z _ HR1.out).mono ?_
  rintro e w1 ⟨rfl, hs, hz, hb⟩
  have HS := Lib.hid (ready_of HR1.out hs hb)
  have far0 : w1.heap.size = w.heap.size + 1 + 1 := by rw [hz, World.size_alloc]
  have r0 : w1.cell? ⟨w.heap.size, 0, none⟩ = some (.int .i64 0) := (hb.cell (p := ⟨w.heap.size, 0, none⟩) (by simp)).trans (by go_simp)
  have r1 : w1.cell? ⟨w.heap.size, 1, none⟩ = some (.slice none 0 0) := (hb.cell (p := ⟨w.heap.size, 1, none⟩) (by simp)).trans (by go_simp)
  have h0 : w1.frozen? ⟨w.heap.size, 0, none⟩ = false := (hb.frozen (p := ⟨w.heap.size, 0, none⟩) (by simp)).trans (by go_simp)
  have h1 : w1.frozen? ⟨w.heap.size, 1, none⟩ = false := (hb.frozen (p := ⟨w.heap.size, 1, none⟩) (by simp)).trans (by go_simp)
  have HB := Lib.hid (hq.trans (hb.mono (by simp)))
  rw [World.size_alloc] at HS ⊢
  obtain ⟨X, hX⟩ : ∃ X, w.heap.size = X := ⟨_, rfl⟩
  rw [hX] at r0 r1 h0 h1 HS HB far0 HRA ⊢
  have HX := Lib.hid hX
  obtain ⟨B, hBX⟩ : ∃ B, X + 1 = B := ⟨_, rfl⟩
  have oB : X < B := by omega
  rw [hBX] at HS far0 ⊢
  clear hb hz hs hX hBX hq
  go_wp2_with fail
  refine (drawTR B a l c z w1 HS.out).mono ?_
  rintro e w2 ⟨F, ta, tn, tc, xs, r, rfl, hI, htc, htn, f0, f1, far, ho, hs⟩
  have hX1 : X < w1.heap.size := block_lt r0
  have r0 := (ho.cell (p := ⟨X, 0, none⟩) hX1 (by show X ≠ B; omega)).trans r0
  have r1 := (ho.cell (p := ⟨X, 1, none⟩) hX1 (by show X ≠ B; omega)).trans r1
  have h0 := (ho.frozen (p := ⟨X, 0, none⟩) hX1 (by show X ≠ B; omega)).trans h0
  have h1 := (ho.frozen (p := ⟨X, 1, none⟩) hX1 (by show X ≠ B; omega)).trans h1
  have hX2 : X < w2.heap.size := block_lt r0
  have hsz := ho.size
  have hA0 : Hid (SvS B X w2.heap.size a l c z F ta tn tc xs w (w2.alloc (.cells #[.int .i64 F, .slice ta tn tc] 26))) := Lib.hid (by
    have hq := box_b w2 (.cells #[.int .i64 F, .slice ta tn tc] 26)
    exact ⟨hs.alloc _, (HB.out.trans (ho.below (by omega) (by omega))).trans (hq.mono (by omega)), by go_simp, by go_simp, ⟨_, keep2 hq r0⟩, ⟨_, keep2 hq r1⟩, (hq.frozen (p := ⟨X, 0, none⟩) hX2).trans h0, (hq.frozen (p := ⟨X, 1, none⟩) hX2).trans h1, hI.on hq, fun x hx => by have := far x hx; omega, HX.out, oB, by omega, HRA.out⟩)
  clear r0 r1 h0 h1 hX1 hX2 hsz hs ho far hI HS HB
  obtain ⟨T, hT⟩ : ∃ T, w2.heap.size = T := ⟨_, rfl⟩
  rw [hT] at hA0
  (try rw [hT])
  have HA := hA0
  have k0 := HA.out.c0
  have k1 := HA.out.c1
  have hv : ∃ v, w2.alloc (.cells #[.int .i64 F, .slice ta tn tc] 26) = v := ⟨_, rfl⟩
  obtain ⟨v2, hv2⟩ := hv
  rw [hv2] at HA k0 k1
  have A1 : Hid (∀ W, Hid (SvS B X T a l c z F ta tn tc xs w W) → Calls Try.prog 56 #[.pointer (some ⟨B, 0, none⟩), .agg #[.int .i64 F, .slice ta tn tc]] W fun e w' => ∃ v, e = .returned (.int .i64 v) ∧ Hid (SvS B X T a l c z F ta tn tc xs w w') ∧ Hid (But B W w')) :=
    Lib.hid (fun W hW => (dage B a l c z F ta tn tc W hW.out.ready f0 f1 htn).mono fun e w' ⟨v, he, ho, hs⟩ => ⟨v, he, Lib.hid (hW.out.call ho hs), Lib.hid ho⟩)
  have M1 : Hid (∀ W, Hid (SvS B X T a l c z F ta tn tc xs w W) → Calls Try.prog 57 #[.pointer (some ⟨B, 0, none⟩)] W fun e w' => ∃ v, e = .returned (.int .i64 v) ∧ Hid (SvS B X T a l c z F ta tn tc xs w w') ∧ Hid (But B W w')) :=
    Lib.hid (fun W hW => (amt_r B a l c z W hW.out.ready).mono fun e w' ⟨v, he, _, ho, hs⟩ => ⟨v, he, Lib.hid (hW.out.call ho hs), Lib.hid ho⟩)
  have N1 : Hid (∀ W n, 1 < n → Hid (SvS B X T a l c z F ta tn tc xs w W) → Calls Try.prog 55 #[.pointer (some ⟨B, 0, none⟩), .int .i64 n] W fun e w' => ∃ v, e = .returned (.int .i64 v) ∧ (0 ≤ v ∧ v < n) ∧ Hid (SvS B X T a l c z F ta tn tc xs w w')) :=
    Lib.hid (fun W n hn hW => (next_r B a l c z n W hW.out.ready).mono fun e w' ⟨v, he, hd, ho, hs⟩ => ⟨v, he, by have := hd.1 hn; omega, Lib.hid (hW.out.call ho hs)⟩)
  have P1 : Hid (∀ W x1 x2 x3 x4 T', Hid (SvS B X T a l c z F ta tn tc xs w W) → Calls Try.prog 58 #[.pointer (some ⟨B, 0, none⟩), .slice (some ⟨W.heap.size, 0, none⟩) 4 4] (W.alloc (.cells #[.int .i64 x1, .int .i64 x2, .int .i64 x3, .int .i64 x4] T')) fun e w' => ∃ v, e = .returned (.int .i64 v) ∧ Hid (SvS B X T a l c z F ta tn tc xs w w')) :=
    Lib.hid (fun W x1 x2 x3 x4 T' hW => (pick4 B x1 x2 x3 x4 T' W hW.out.ready).mono fun e w' ⟨v, he, _, ho, hs⟩ => ⟨v, he, Lib.hid (hW.out.call ho hs)⟩)
  have P3 : Hid (∀ (W w8 : World) x1 x2 x3 x4 T', Hid (SvS B X T a l c z F ta tn tc xs w w8) → Hid (But B (W.alloc (.cells #[.int .i64 x1, .int .i64 x2, .int .i64 x3, .int .i64 x4] T')).drew w8) → Hid (B < W.heap.size) → Calls Try.prog 58 #[.pointer (some ⟨B, 0, none⟩), .slice (some ⟨W.heap.size, 0, none⟩) 4 4] w8 fun e w' => ∃ v, e = .returned (.int .i64 v) ∧ Hid (SvS B X T a l c z F ta tn tc xs w w')) :=
    Lib.hid (fun W w8 x1 x2 x3 x4 T' hW hb hl => (pick_r B W.heap.size a l c 4 z [x1, x2, x3, x4] _ hW.out.ready (by have := hl.out; omega) rfl (by decide) (by decide) (fun i hi => (hb.out.cell (p := ⟨W.heap.size, i, none⟩) (by show W.heap.size < (W.alloc _).heap.size; rw [World.size_alloc]; omega) (by have := hl.out; show W.heap.size ≠ B; omega)).trans (new_cells W [x1, x2, x3, x4] T' i hi))).mono fun e w' ⟨v, he, _, ho, hs⟩ => ⟨v, he, Lib.hid (hW.out.call ho hs)⟩)
  have P5 : Hid (∀ (W w8 : World) x1 x2 x3 x4 T', Hid (SvS B X T a l c z F ta tn tc xs w w8) → Hid (But B (W.alloc (.cells #[.int .i64 x1, .int .i64 x2, .int .i64 x3, .int .i64 x4] T')) w8) → Hid (B < W.heap.size) → Calls Try.prog 58 #[.pointer (some ⟨B, 0, none⟩), .slice (some ⟨W.heap.size, 0, none⟩) 4 4] w8 fun e w' => ∃ v, e = .returned (.int .i64 v) ∧ Hid (SvS B X T a l c z F ta tn tc xs w w')) :=
    Lib.hid (fun W w8 x1 x2 x3 x4 T' hW hb hl => (pick_r B W.heap.size a l c 4 z [x1, x2, x3, x4] _ hW.out.ready (by have := hl.out; omega) rfl (by decide) (by decide) (fun i hi => (hb.out.cell (p := ⟨W.heap.size, i, none⟩) (by show W.heap.size < (W.alloc _).heap.size; rw [World.size_alloc]; omega) (by have := hl.out; show W.heap.size ≠ B; omega)).trans (new_cells W [x1, x2, x3, x4] T' i hi))).mono fun e w' ⟨v, he, _, ho, hs⟩ => ⟨v, he, Lib.hid (hW.out.call ho hs)⟩)
  have hlB := Lib.hid HA.out.ready.here
  clear hA0
  go_wp2_with fail
  (try rw [hv2])
  (try rw [hT])
  clear hv2 hT
  refine (next_r _ _ _ _ _ _ _ HA.out.ready).mono ?_
  rintro e w3 ⟨rr, rfl, hd, ho, hs⟩
  have HA := Lib.hid (HA.out.call ho hs)
  have k0 := HA.out.c0
  have k1 := HA.out.c1
  have hlB := Lib.hid HA.out.ready.here
  clear hd ho hs
  by_cases hr : rr = 0
  · subst hr
    go_wp2_with fail
    go_region_held3 (fun w' => w'.cell? ⟨T, 0, none⟩ = some (.int .i64 F) ∧ w'.cell? ⟨T, 1, none⟩ = some (.slice ta tn tc) ∧ Hid (SvS B X T a l c z F ta tn tc xs w w'))
      (first
        | (go_split_ands; exact SvS.three (by with_reducible assumption))
        | (go_split_ands; exact SvS.three (Lib.hid (SvS.drew (Hid.out (by with_reducible assumption)))))
        | (go_split_ands; exact SvS.three (Lib.hid (SvS.alloc (Hid.out (by with_reducible assumption)) _)))
        | (go_split_ands; exact SvS.three (Lib.hid (SvS.put (Hid.out (by with_reducible assumption)) _ _).1))
        | fail)
      (first
        | (go_split_ands; go_at_call 56; ((with_reducible refine (A1.out _ (by with_reducible assumption)).mono ?_); rintro e w' ⟨va, rfl, hA8, hB8⟩))
        | (go_split_ands; go_at_call 57; ((with_reducible refine (M1.out _ (by with_reducible assumption)).mono ?_); rintro e w' ⟨vm, rfl, hA8, hB9⟩; (first | (have hB8 := Lib.hid (But.trans (Hid.out hB8) (Hid.out hB9))) | (have hB8 := hB9))))
        | (go_split_ands; go_at_call 58; ((first | (with_reducible refine (P1.out _ _ _ _ _ _ (by with_reducible assumption)).mono ?_) | (with_reducible refine (P3.out _ _ _ _ _ _ _ (by with_reducible assumption) hB8 (by with_reducible assumption)).mono ?_) | (with_reducible refine (P5.out _ _ _ _ _ _ _ (by with_reducible assumption) hB8 (Lib.hid (Ready.here (SvS.ready (Hid.out (by with_reducible assumption)))))).mono ?_)); rintro e w' ⟨vb, rfl, hA8⟩; obtain ⟨u0, k2⟩ := hA8.out.r0; obtain ⟨u1, k3⟩ := hA8.out.r1; have k4 := hA8.out.h0; have k5 := hA8.out.h1))
        | fail)
    all_goals
      go_split_ands
      have hP := hA8.out.put (.int .i64 F) (.slice ta tn tc)
      have e0 := hP.2.1
      have e1 := hP.2.2
      have HF := Lib.hid hP.1
      clear hP
      go_wp2_with fail
      exact bodyPost_ret (v := .tuple #[.agg #[.int .i64 F, .slice ta tn tc], .int .i64 r, .int .i64 va, .int .i64 vm, .int .i64 vb]) (by simp [results, Try.results20, go_sem, e0, e1]) rfl (SvS.finTA HF htc htn)
  · have hrb : (rr == 0) = false := by simpa using hr
    go_wp2_with fail
    go_region_held3 (fun w' => w'.cell? ⟨T, 0, none⟩ = some (.int .i64 F) ∧ w'.cell? ⟨T, 1, none⟩ = some (.slice ta tn tc) ∧ Hid (SvS B X T a l c z F ta tn tc xs w w'))
      (first
        | (go_split_ands; exact SvS.three (by with_reducible assumption))
        | (go_split_ands; exact SvS.three (Lib.hid (SvS.drew (Hid.out (by with_reducible assumption)))))
        | (go_split_ands; exact SvS.three (Lib.hid (SvS.alloc (Hid.out (by with_reducible assumption)) _)))
        | (go_split_ands; exact SvS.three (Lib.hid (SvS.put (Hid.out (by with_reducible assumption)) _ _).1))
        | fail)
      (first
        | (go_split_ands; go_at_call 56; ((with_reducible refine (A1.out _ (by with_reducible assumption)).mono ?_); rintro e w' ⟨va, rfl, hA8, hB8⟩))
        | (go_split_ands; go_at_call 57; ((with_reducible refine (M1.out _ (by with_reducible assumption)).mono ?_); rintro e w' ⟨vm, rfl, hA8, hB9⟩; (first | (have hB8 := Lib.hid (But.trans (Hid.out hB8) (Hid.out hB9))) | (have hB8 := hB9))))
        | (go_split_ands; go_at_call 55; ((with_reducible refine (N1.out _ _ (by decide) (by with_reducible assumption)).mono ?_); rintro e w' ⟨vb, rfl, ⟨vb0, vb1⟩, hA8⟩; have q9 : IntKind.i64.wrap (1 + vb) = 1 + vb := IntWalk.i64_in _ (by omega); obtain ⟨u0, k2⟩ := hA8.out.r0; obtain ⟨u1, k3⟩ := hA8.out.r1; have k4 := hA8.out.h0; have k5 := hA8.out.h1))
        | fail)
    all_goals
      go_split_ands
      have hP := hA8.out.put (.int .i64 F) (.slice ta tn tc)
      have e0 := hP.2.1
      have e1 := hP.2.2
      have HF := Lib.hid hP.1
      clear hP
      go_wp2_with fail
      exact bodyPost_ret (v := .tuple #[.agg #[.int .i64 F, .slice ta tn tc], .int .i64 r, .int .i64 va, .int .i64 vm, .int .i64 vb]) (by simp [results, Try.results20, go_sem, e0, e1]) rfl (SvS.finTA HF htc htn)

set_option maxRecDepth 100000 in
set_option maxHeartbeats 4000000 in
theorem drawAF (a : Option Addr) (l c : Nat) (z : List Int) (w : World) (hr : IsRow .u8 w a l c z) : Calls Try.prog 28 #[.slice a l c] w (LfPost w) := by
  have HRA := Lib.hid hr.apart
  have HR := Lib.hid hr
  clear hr
  have hq := box_b w (.cells #[.int .i64 0, .slice none 0 0] 26)
  have HR1 : Hid (IsRow .u8 (w.alloc (.cells #[.int .i64 0, .slice none 0 0] 26)) a l c z) := Lib.hid (HR.out.below hq HRA.out)
  go_enter Try.func28, Try.ntmps28
  go_wp2_with fail
  refine (from_any _ _ _ z _ HR1.out).mono ?_
  rintro e w1 ⟨rfl, hs, hz, hb⟩
  have HS := Lib.hid (ready_of HR1.out hs hb)
  have far0 : w1.heap.size = w.heap.size + 1 + 1 := by rw [hz, World.size_alloc]
  have r0 : w1.cell? ⟨w.heap.size, 0, none⟩ = some (.int .i64 0) := (hb.cell (p := ⟨w.heap.size, 0, none⟩) (by simp)).trans (by go_simp)
  have r1 : w1.cell? ⟨w.heap.size, 1, none⟩ = some (.slice none 0 0) := (hb.cell (p := ⟨w.heap.size, 1, none⟩) (by simp)).trans (by go_simp)
  have h0 : w1.frozen? ⟨w.heap.size, 0, none⟩ = false := (hb.frozen (p := ⟨w.heap.size, 0, none⟩) (by simp)).trans (by go_simp)
  have h1 : w1.frozen? ⟨w.heap.size, 1, none⟩ = false := (hb.frozen (p := ⟨w.heap.size, 1, none⟩) (by simp)).trans (by go_simp)
  have HB := Lib.hid (hq.trans (hb.mono (by simp)))
  rw [World.size_alloc] at HS ⊢
  obtain ⟨X, hX⟩ : ∃ X, w.heap.size = X := ⟨_, rfl⟩
  rw [hX] at r0 r1 h0 h1 HS HB far0 HRA ⊢
  have HX := Lib.hid hX
  obtain ⟨B, hBX⟩ : ∃ B, X + 1 = B := ⟨_, rfl⟩
  have oB : X < B := by omega
  rw [hBX] at HS far0 ⊢
  clear hb hz hs hX hBX hq
  go_wp2_with fail
  refine (drawTR B a l c z w1 HS.out).mono ?_
  rintro e w2 ⟨F, ta, tn, tc, xs, r, rfl, hI, htc, htn, f0, f1, far, ho, hs⟩
  have hX1 : X < w1.heap.size := block_lt r0
  have r0 := (ho.cell (p := ⟨X, 0, none⟩) hX1 (by show X ≠ B; omega)).trans r0
  have r1 := (ho.cell (p := ⟨X, 1, none⟩) hX1 (by show X ≠ B; omega)).trans r1
  have h0 := (ho.frozen (p := ⟨X, 0, none⟩) hX1 (by show X ≠ B; omega)).trans h0
  have h1 := (ho.frozen (p := ⟨X, 1, none⟩) hX1 (by show X ≠ B; omega)).trans h1
  have hX2 : X < w2.heap.size := block_lt r0
  have hsz := ho.size
  have hA0 : Hid (SvS B X w2.heap.size a l c z F ta tn tc xs w (w2.alloc (.cells #[.int .i64 F, .slice ta tn tc] 26))) := Lib.hid (by
    have hq := box_b w2 (.cells #[.int .i64 F, .slice ta tn tc] 26)
    exact ⟨hs.alloc _, (HB.out.trans (ho.below (by omega) (by omega))).trans (hq.mono (by omega)), by go_simp, by go_simp, ⟨_, keep2 hq r0⟩, ⟨_, keep2 hq r1⟩, (hq.frozen (p := ⟨X, 0, none⟩) hX2).trans h0, (hq.frozen (p := ⟨X, 1, none⟩) hX2).trans h1, hI.on hq, fun x hx => by have := far x hx; omega, HX.out, oB, by omega, HRA.out⟩)
  clear r0 r1 h0 h1 hX1 hX2 hsz hs ho far hI HS HB
  obtain ⟨T, hT⟩ : ∃ T, w2.heap.size = T := ⟨_, rfl⟩
  rw [hT] at hA0
  (try rw [hT])
  have HA := hA0
  have k0 := HA.out.c0
  have k1 := HA.out.c1
  have hv : ∃ v, w2.alloc (.cells #[.int .i64 F, .slice ta tn tc] 26) = v := ⟨_, rfl⟩
  obtain ⟨v2, hv2⟩ := hv
  rw [hv2] at HA k0 k1
  have A1 : Hid (∀ W, Hid (SvS B X T a l c z F ta tn tc xs w W) → Calls Try.prog 56 #[.pointer (some ⟨B, 0, none⟩), .agg #[.int .i64 F, .slice ta tn tc]] W fun e w' => ∃ v, e = .returned (.int .i64 v) ∧ Hid (SvS B X T a l c z F ta tn tc xs w w') ∧ Hid (But B W w')) :=
    Lib.hid (fun W hW => (dage B a l c z F ta tn tc W hW.out.ready f0 f1 htn).mono fun e w' ⟨v, he, ho, hs⟩ => ⟨v, he, Lib.hid (hW.out.call ho hs), Lib.hid ho⟩)
  have M1 : Hid (∀ W, Hid (SvS B X T a l c z F ta tn tc xs w W) → Calls Try.prog 57 #[.pointer (some ⟨B, 0, none⟩)] W fun e w' => ∃ v, e = .returned (.int .i64 v) ∧ Hid (SvS B X T a l c z F ta tn tc xs w w') ∧ Hid (But B W w')) :=
    Lib.hid (fun W hW => (amt_r B a l c z W hW.out.ready).mono fun e w' ⟨v, he, _, ho, hs⟩ => ⟨v, he, Lib.hid (hW.out.call ho hs), Lib.hid ho⟩)
  have N1 : Hid (∀ W n, 1 < n → Hid (SvS B X T a l c z F ta tn tc xs w W) → Calls Try.prog 55 #[.pointer (some ⟨B, 0, none⟩), .int .i64 n] W fun e w' => ∃ v, e = .returned (.int .i64 v) ∧ (0 ≤ v ∧ v < n) ∧ Hid (SvS B X T a l c z F ta tn tc xs w w')) :=
    Lib.hid (fun W n hn hW => (next_r B a l c z n W hW.out.ready).mono fun e w' ⟨v, he, hd, ho, hs⟩ => ⟨v, he, by have := hd.1 hn; omega, Lib.hid (hW.out.call ho hs)⟩)
  have P1 : Hid (∀ W x1 x2 x3 x4 T', Hid (SvS B X T a l c z F ta tn tc xs w W) → Calls Try.prog 58 #[.pointer (some ⟨B, 0, none⟩), .slice (some ⟨W.heap.size, 0, none⟩) 4 4] (W.alloc (.cells #[.int .i64 x1, .int .i64 x2, .int .i64 x3, .int .i64 x4] T')) fun e w' => ∃ v, e = .returned (.int .i64 v) ∧ Hid (SvS B X T a l c z F ta tn tc xs w w')) :=
    Lib.hid (fun W x1 x2 x3 x4 T' hW => (pick4 B x1 x2 x3 x4 T' W hW.out.ready).mono fun e w' ⟨v, he, _, ho, hs⟩ => ⟨v, he, Lib.hid (hW.out.call ho hs)⟩)
  have P3 : Hid (∀ (W w8 : World) x1 x2 x3 x4 T', Hid (SvS B X T a l c z F ta tn tc xs w w8) → Hid (But B (W.alloc (.cells #[.int .i64 x1, .int .i64 x2, .int .i64 x3, .int .i64 x4] T')).drew w8) → Hid (B < W.heap.size) → Calls Try.prog 58 #[.pointer (some ⟨B, 0, none⟩), .slice (some ⟨W.heap.size, 0, none⟩) 4 4] w8 fun e w' => ∃ v, e = .returned (.int .i64 v) ∧ Hid (SvS B X T a l c z F ta tn tc xs w w')) :=
    Lib.hid (fun W w8 x1 x2 x3 x4 T' hW hb hl => (pick_r B W.heap.size a l c 4 z [x1, x2, x3, x4] _ hW.out.ready (by have := hl.out; omega) rfl (by decide) (by decide) (fun i hi => (hb.out.cell (p := ⟨W.heap.size, i, none⟩) (by show W.heap.size < (W.alloc _).heap.size; rw [World.size_alloc]; omega) (by have := hl.out; show W.heap.size ≠ B; omega)).trans (new_cells W [x1, x2, x3, x4] T' i hi))).mono fun e w' ⟨v, he, _, ho, hs⟩ => ⟨v, he, Lib.hid (hW.out.call ho hs)⟩)
  have P5 : Hid (∀ (W w8 : World) x1 x2 x3 x4 T', Hid (SvS B X T a l c z F ta tn tc xs w w8) → Hid (But B (W.alloc (.cells #[.int .i64 x1, .int .i64 x2, .int .i64 x3, .int .i64 x4] T')) w8) → Hid (B < W.heap.size) → Calls Try.prog 58 #[.pointer (some ⟨B, 0, none⟩), .slice (some ⟨W.heap.size, 0, none⟩) 4 4] w8 fun e w' => ∃ v, e = .returned (.int .i64 v) ∧ Hid (SvS B X T a l c z F ta tn tc xs w w')) :=
    Lib.hid (fun W w8 x1 x2 x3 x4 T' hW hb hl => (pick_r B W.heap.size a l c 4 z [x1, x2, x3, x4] _ hW.out.ready (by have := hl.out; omega) rfl (by decide) (by decide) (fun i hi => (hb.out.cell (p := ⟨W.heap.size, i, none⟩) (by show W.heap.size < (W.alloc _).heap.size; rw [World.size_alloc]; omega) (by have := hl.out; show W.heap.size ≠ B; omega)).trans (new_cells W [x1, x2, x3, x4] T' i hi))).mono fun e w' ⟨v, he, _, ho, hs⟩ => ⟨v, he, Lib.hid (hW.out.call ho hs)⟩)
  have hlB := Lib.hid HA.out.ready.here
  clear hA0
  go_wp2_with fail
  (try rw [hv2])
  (try rw [hT])
  clear hv2 hT
  refine (next_r _ _ _ _ _ _ _ HA.out.ready).mono ?_
  rintro e w3 ⟨rr, rfl, hd, ho, hs⟩
  have HA := Lib.hid (HA.out.call ho hs)
  have k0 := HA.out.c0
  have k1 := HA.out.c1
  have hlB := Lib.hid HA.out.ready.here
  clear hd ho hs
  by_cases hr : rr = 0
  · subst hr
    go_wp2_with fail
    go_region_held3 (fun w' => w'.cell? ⟨T, 0, none⟩ = some (.int .i64 F) ∧ w'.cell? ⟨T, 1, none⟩ = some (.slice ta tn tc) ∧ Hid (SvS B X T a l c z F ta tn tc xs w w'))
      (first
        | (go_split_ands; exact SvS.three (by with_reducible assumption))
        | (go_split_ands; exact SvS.three (Lib.hid (SvS.drew (Hid.out (by with_reducible assumption)))))
        | (go_split_ands; exact SvS.three (Lib.hid (SvS.alloc (Hid.out (by with_reducible assumption)) _)))
        | (go_split_ands; exact SvS.three (Lib.hid (SvS.put (Hid.out (by with_reducible assumption)) _ _).1))
        | fail)
      (first
        | (go_split_ands; go_at_call 56; ((with_reducible refine (A1.out _ (by with_reducible assumption)).mono ?_); rintro e w' ⟨va, rfl, hA8, hB8⟩))
        | (go_split_ands; go_at_call 58; ((first | (with_reducible refine (P1.out _ _ _ _ _ _ (by with_reducible assumption)).mono ?_) | (with_reducible refine (P3.out _ _ _ _ _ _ _ (by with_reducible assumption) hB8 (by with_reducible assumption)).mono ?_) | (with_reducible refine (P5.out _ _ _ _ _ _ _ (by with_reducible assumption) hB8 (Lib.hid (Ready.here (SvS.ready (Hid.out (by with_reducible assumption)))))).mono ?_)); rintro e w' ⟨vb, rfl, hA8⟩; obtain ⟨u0, k2⟩ := hA8.out.r0; obtain ⟨u1, k3⟩ := hA8.out.r1; have k4 := hA8.out.h0; have k5 := hA8.out.h1))
        | fail)
    all_goals
      go_split_ands
      have hP := hA8.out.put (.int .i64 F) (.slice ta tn tc)
      have e0 := hP.2.1
      have e1 := hP.2.2
      have HF := Lib.hid hP.1
      clear hP
      go_wp2_with fail
      exact bodyPost_ret (v := .tuple #[.agg #[.int .i64 F, .slice ta tn tc], .int .i64 r, .int .i64 va, .int .i64 vb]) (by simp [results, Try.results28, go_sem, e0, e1]) rfl (SvS.finLF HF htc htn)
  · have hrb : (rr == 0) = false := by simpa using hr
    go_wp2_with fail
    go_region_held3 (fun w' => w'.cell? ⟨T, 0, none⟩ = some (.int .i64 F) ∧ w'.cell? ⟨T, 1, none⟩ = some (.slice ta tn tc) ∧ Hid (SvS B X T a l c z F ta tn tc xs w w'))
      (first
        | (go_split_ands; exact SvS.three (by with_reducible assumption))
        | (go_split_ands; exact SvS.three (Lib.hid (SvS.drew (Hid.out (by with_reducible assumption)))))
        | (go_split_ands; exact SvS.three (Lib.hid (SvS.alloc (Hid.out (by with_reducible assumption)) _)))
        | (go_split_ands; exact SvS.three (Lib.hid (SvS.put (Hid.out (by with_reducible assumption)) _ _).1))
        | fail)
      (first
        | (go_split_ands; go_at_call 56; ((with_reducible refine (A1.out _ (by with_reducible assumption)).mono ?_); rintro e w' ⟨va, rfl, hA8, hB8⟩))
        | (go_split_ands; go_at_call 55; ((with_reducible refine (N1.out _ _ (by decide) (by with_reducible assumption)).mono ?_); rintro e w' ⟨vb, rfl, ⟨vb0, vb1⟩, hA8⟩; have q9 : IntKind.i64.wrap (1 + vb) = 1 + vb := IntWalk.i64_in _ (by omega); obtain ⟨u0, k2⟩ := hA8.out.r0; obtain ⟨u1, k3⟩ := hA8.out.r1; have k4 := hA8.out.h0; have k5 := hA8.out.h1))
        | fail)
    all_goals
      go_split_ands
      have hP := hA8.out.put (.int .i64 F) (.slice ta tn tc)
      have e0 := hP.2.1
      have e1 := hP.2.2
      have HF := Lib.hid hP.1
      clear hP
      go_wp2_with fail
      exact bodyPost_ret (v := .tuple #[.agg #[.int .i64 F, .slice ta tn tc], .int .i64 r, .int .i64 va, .int .i64 (1 + vb)]) (by simp [results, Try.results28, go_sem, e0, e1]) rfl (SvS.finLF HF htc htn)

end Go.Proofs.Ytmcagpcldjopjaa
