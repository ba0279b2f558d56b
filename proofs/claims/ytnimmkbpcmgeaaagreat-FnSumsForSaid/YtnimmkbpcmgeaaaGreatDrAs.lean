/- The model's draws of what chapter 7 takes: a table, a rate, a kind, an age, a number of years, a sum. (Written by wip/gen/dras.py.) -/
import Derived.Test.YtnimmkbpcmgeaaaGreatDrCA
namespace Go.Proofs.YtnimmkbpcmgeaaaGreat
open Go.ChangeShapes Go.WideShapes Go.ChangeAt Go.RowKit
set_option linter.unusedVariables false

theorem sum7_r (B : Nat) (a : Option Addr) (l c : Nat) (z : List Int) (w : World) (h : Ready B a l c z w) :
    Calls Tryz.prog 25 #[.pointer (some ⟨B, 0, none⟩)] w (NumPost B a l c z Any w) := by
  have HS := Lib.hid h
  have HO := Lib.hid (But.refl B w)
  clear h
  go_enter Tryz.func25, Tryz.ntmps25
  go_wp2_with (first | (go_at_call 43; refine (next_r _ _ _ _ _ _ _ HS.out).mono ?_; rintro e w1 ⟨r, rfl, hd, ho, hs⟩; have HO := Lib.hid (HO.out.trans ho); have HS := Lib.hid hs; clear ho hs hd) | (go_at_call 44; ((with_reducible refine (pick4 B _ _ _ _ _ _ HS.out).mono ?_); rintro e w1 ⟨r, rfl, hd, ho, hs⟩; have HO := Lib.hid (HO.out.trans ho); have HS := Lib.hid hs; clear ho hs hd)) | (go_at_call 44; ((with_reducible refine (pick3 B _ _ _ _ _ HS.out).mono ?_); rintro e w1 ⟨r, rfl, hd, ho, hs⟩; have HO := Lib.hid (HO.out.trans ho); have HS := Lib.hid hs; clear ho hs hd)))
  all_goals
    go_ret
    exact ⟨_, rfl, trivial, HO.out, HS.out⟩

/-- in the midst of a draw within a draw: X the result's cells, B the source, T the table's box -/
structure SvD (B X T : Nat) (a : Option Addr) (l c : Nat) (z : List Int) (F : Int) (ta : Option Addr) (tn tc : Nat) (xs : List Int) (w w' : World) : Prop where
  ready : Ready B a l c z w'
  but : But B w w'
  c0 : w'.cell? ⟨T, 0, none⟩ = some (.int .i64 F)
  c1 : w'.cell? ⟨T, 1, none⟩ = some (.slice ta tn tc)
  r0 : ∃ v, w'.cell? ⟨X, 0, none⟩ = some v
  r1 : ∃ v, w'.cell? ⟨X, 1, none⟩ = some v
  h0 : w'.frozen? ⟨X, 0, none⟩ = false
  h1 : w'.frozen? ⟨X, 1, none⟩ = false
  ints : Ints w' ta tn xs
  far : ∀ x, ta = some x → X < x.block
  eX : w.heap.size = X
  hB : B < X
  oT : X < T

theorem SvD.call {B X T : Nat} {a : Option Addr} {l c : Nat} {z : List Int} {F : Int} {ta : Option Addr} {tn tc : Nat} {xs : List Int} {w w1 w2 : World} (h : SvD B X T a l c z F ta tn tc xs w w1) (ho : But B w1 w2) (hs : Ready B a l c z w2) : SvD B X T a l c z F ta tn tc xs w w2 := by
  have hB := h.hB
  have oT := h.oT
  obtain ⟨u0, g0⟩ := h.r0
  obtain ⟨u1, g1⟩ := h.r1
  have hX : X < w1.heap.size := block_lt g0
  exact ⟨hs, h.but.trans ho, (ho.cell (p := ⟨T, 0, none⟩) (block_lt h.c0) (by show T ≠ B; omega)).trans h.c0, (ho.cell (p := ⟨T, 1, none⟩) (block_lt h.c1) (by show T ≠ B; omega)).trans h.c1,
    ⟨u0, (ho.cell (p := ⟨X, 0, none⟩) hX (by show X ≠ B; omega)).trans g0⟩, ⟨u1, (ho.cell (p := ⟨X, 1, none⟩) hX (by show X ≠ B; omega)).trans g1⟩, (ho.frozen (p := ⟨X, 0, none⟩) hX (by show X ≠ B; omega)).trans h.h0, (ho.frozen (p := ⟨X, 1, none⟩) hX (by show X ≠ B; omega)).trans h.h1,
    h.ints.butT ho (fun x hx => by have := h.far x hx; omega), h.far, h.eX, hB, oT⟩

theorem SvD.drew {B X T : Nat} {a : Option Addr} {l c : Nat} {z : List Int} {F : Int} {ta : Option Addr} {tn tc : Nat} {xs : List Int} {w w1 : World} (h : SvD B X T a l c z F ta tn tc xs w w1) : SvD B X T a l c z F ta tn tc xs w w1.drew := h.call (But.refl _ _).drew h.ready.drew

/-- the result is written -/
theorem SvD.put {B X T : Nat} {a : Option Addr} {l c : Nat} {z : List Int} {F : Int} {ta : Option Addr} {tn tc : Nat} {xs : List Int} {w w1 : World} (h : SvD B X T a l c z F ta tn tc xs w w1) (u v : Value) : SvD B X T a l c z F ta tn tc xs w ((w1.setCell ⟨X, 0, none⟩ u).setCell ⟨X, 1, none⟩ v) ∧
    ((w1.setCell ⟨X, 0, none⟩ u).setCell ⟨X, 1, none⟩ v).cell? ⟨X, 0, none⟩ = some u ∧ ((w1.setCell ⟨X, 0, none⟩ u).setCell ⟨X, 1, none⟩ v).cell? ⟨X, 1, none⟩ = some v := by
  have hB := h.hB
  have oT := h.oT
  have eX := h.eX
  obtain ⟨e0, e1, ho⟩ := putX w1 X u v h.r0 h.r1
  refine ⟨⟨h.ready.below (ho.below (Nat.le_refl _)) hB, ⟨ho.os.trans h.but.os, ho.tape.trans h.but.tape, ho.output.trans h.but.output, by rw [ho.size]; exact h.but.size, fun k hk hk2 => (ho.block k (by omega)).trans (h.but.block k hk hk2)⟩, (ho.cell (p := ⟨T, 0, none⟩) (by show T ≠ X; omega)).trans h.c0, (ho.cell (p := ⟨T, 1, none⟩) (by show T ≠ X; omega)).trans h.c1, ⟨_, e0⟩, ⟨_, e1⟩, ?_, ?_, h.ints.onlyT ho (fun x hx => by have := h.far x hx; omega), h.far, h.eX, hB, oT⟩, e0, e1⟩
  · rw [World.frozen?_setCell, World.frozen?_setCell]; exact h.h0
  · rw [World.frozen?_setCell, World.frozen?_setCell]; exact h.h1

theorem SvD.three {B X T : Nat} {a : Option Addr} {l c : Nat} {z : List Int} {F : Int} {ta : Option Addr} {tn tc : Nat} {xs : List Int} {w w1 : World} (h : Hid (SvD B X T a l c z F ta tn tc xs w w1)) : w1.cell? ⟨T, 0, none⟩ = some (.int .i64 F) ∧ w1.cell? ⟨T, 1, none⟩ = some (.slice ta tn tc) ∧ Hid (SvD B X T a l c z F ta tn tc xs w w1) := ⟨h.out.c0, h.out.c1, h⟩

/-- a drawn table, a rate, a kind, an age, a number of years -/
def Drawn7 (B : Nat) (a : Option Addr) (l c : Nat) (z : List Int) (w : World) (e : Ending) (w' : World) : Prop :=
  ∃ F ta tn tc xs r k x n, e = .returned (.tuple #[.agg #[.int .i64 F, .slice ta tn tc], .int .i64 r, .int .i64 k, .int .i64 x, .int .i64 n]) ∧ Ints w' ta tn xs ∧ tn ≤ tc ∧ tn ≤ 4096 ∧ -1 ≤ F ∧ F ≤ 101 ∧ (∀ x, ta = some x → w.heap.size ≤ x.block) ∧ But B w w' ∧ Ready B a l c z w'

theorem SvD.fin {B X T : Nat} {a : Option Addr} {l c : Nat} {z : List Int} {F : Int} {ta : Option Addr} {tn tc : Nat} {xs : List Int} {w w1 : World} {r k x n : Int} (h : Hid (SvD B X T a l c z F ta tn tc xs w w1)) (hn : tn ≤ tc) (hm : tn ≤ 4096) (f0 : -1 ≤ F) (f1 : F ≤ 101) :
    Drawn7 B a l c z w (.returned (.tuple #[.agg #[.int .i64 F, .slice ta tn tc], .int .i64 r, .int .i64 k, .int .i64 x, .int .i64 n])) w1 :=
  ⟨F, ta, tn, tc, xs, r, k, x, n, rfl, h.out.ints, hn, hm, f0, f1, fun x hx => by have := h.out.far x hx; have := h.out.eX; omega, h.out.but, h.out.ready⟩

set_option maxRecDepth 100000 in
set_option maxHeartbeats 8000000 in
theorem d07 (B : Nat) (a : Option Addr) (l c : Nat) (z : List Int) (w : World) (h : Ready B a l c z w) : Calls Tryz.prog 24 #[.pointer (some ⟨B, 0, none⟩)] w (Drawn7 B a l c z w) := by
  have hB := h.here
  have HS := Lib.hid (h.alloc (.cells #[.int .i64 0, .slice none 0 0] 26))
  clear h
  go_enter Tryz.func24, Tryz.ntmps24
  go_wp2_with fail
  refine (drawTR B a l c z _ HS.out).mono ?_
  rintro e w2 ⟨F, ta, tn, tc, xs, r, rfl, hI, htc, htn, f0, f1, far, ho, hs⟩
  have hX : w.heap.size < (w.alloc (.cells #[.int .i64 0, .slice none 0 0] 26)).heap.size := by simp
  have r0 : w2.cell? ⟨w.heap.size, 0, none⟩ = some (.int .i64 0) := (ho.cell (p := ⟨w.heap.size, 0, none⟩) hX (by show w.heap.size ≠ B; omega)).trans (by go_simp)
  have r1 : w2.cell? ⟨w.heap.size, 1, none⟩ = some (.slice none 0 0) := (ho.cell (p := ⟨w.heap.size, 1, none⟩) hX (by show w.heap.size ≠ B; omega)).trans (by go_simp)
  have h0 : w2.frozen? ⟨w.heap.size, 0, none⟩ = false := (ho.frozen (p := ⟨w.heap.size, 0, none⟩) hX (by show w.heap.size ≠ B; omega)).trans (by go_simp)
  have h1 : w2.frozen? ⟨w.heap.size, 1, none⟩ = false := (ho.frozen (p := ⟨w.heap.size, 1, none⟩) hX (by show w.heap.size ≠ B; omega)).trans (by go_simp)
  have hX2 : w.heap.size < w2.heap.size := block_lt r0
  have hA0 : Hid (SvD B w.heap.size w2.heap.size a l c z F ta tn tc xs w (w2.alloc (.cells #[.int .i64 F, .slice ta tn tc] 26))) := Lib.hid (by
    have hq := box_b w2 (.cells #[.int .i64 F, .slice ta tn tc] 26)
    exact ⟨hs.alloc _, ((But.alloc (B := B) (w := w) (.cells #[.int .i64 0, .slice none 0 0] 26)).trans ho).trans (But.alloc _), by go_simp, by go_simp, ⟨_, keep2 hq r0⟩, ⟨_, keep2 hq r1⟩, (hq.frozen (p := ⟨w.heap.size, 0, none⟩) hX2).trans h0, (hq.frozen (p := ⟨w.heap.size, 1, none⟩) hX2).trans h1, hI.on hq, fun x hx => by have := far x hx; rw [World.size_alloc] at this; omega, rfl, hB, hX2⟩)
  clear r0 r1 h0 h1 hX hs ho far hI HS
  obtain ⟨X, hX⟩ : ∃ X, w.heap.size = X := ⟨_, rfl⟩
  obtain ⟨T, hT⟩ : ∃ T, w2.heap.size = T := ⟨_, rfl⟩
  rw [hX, hT] at hA0
  (try rw [hX])
  (try rw [hT])
  have HA := hA0
  have hv : ∃ v, w2.alloc (.cells #[.int .i64 F, .slice ta tn tc] 26) = v := ⟨_, rfl⟩
  obtain ⟨v2, hv2⟩ := hv
  rw [hv2] at HA
  have A1 : Hid (∀ W, Hid (SvD B X T a l c z F ta tn tc xs w W) → Calls Tryz.prog 45 #[.pointer (some ⟨B, 0, none⟩), .agg #[.int .i64 F, .slice ta tn tc]] W fun e w' => ∃ v, e = .returned (.int .i64 v) ∧ Hid (SvD B X T a l c z F ta tn tc xs w w')) :=
    Lib.hid (fun W hW => (dage B a l c z F ta tn tc W hW.out.ready f0 f1 htn).mono fun e w' ⟨v, he, ho, hs⟩ => ⟨v, he, Lib.hid (hW.out.call ho hs)⟩)
  clear hA0 hX2
  go_wp2_with fail
  (try rw [hv2])
  (try rw [hT])
  (try rw [hX])
  clear hv2 hT hX
  refine (next_r B a l c z 4 _ HA.out.ready).mono ?_
  rintro e w3 ⟨k, rfl, hd, ho, hs⟩
  have HA := Lib.hid (HA.out.call ho hs)
  clear hd ho hs
  go_wp2_with fail
  refine (next_r B a l c z 14 _ HA.out.ready).mono ?_
  rintro e w4 ⟨q, rfl, hd, ho, hs⟩
  have HA := Lib.hid (HA.out.call ho hs)
  obtain ⟨qa, qb⟩ := drawn_bd hd (by omega)
  have q1 : IntKind.i64.wrap (1 + q) = 1 + q := IntWalk.i64_in _ (by omega)
  clear hd ho hs
  by_cases hk : k = 0
  · subst hk
    go_wp2_with fail
    refine (next_r B a l c z 40 _ HA.out.ready).mono ?_
    rintro e w5 ⟨s, rfl, hd, ho, hs⟩
    have HA := Lib.hid (HA.out.call ho hs)
    clear hd ho hs
    by_cases hs0 : s = 0
    · subst hs0
      go_wp2_with (go_at_call 44; ((with_reducible refine (pick4 B _ _ _ _ _ _ HA.out.ready).mono ?_); rintro e w6 ⟨p, rfl, hd, ho, hs⟩; have HA := Lib.hid (HA.out.call ho hs); clear hd ho hs))
      have k0 := HA.out.c0
      have k1 := HA.out.c1
      go_region_held3 (fun w' => w'.cell? ⟨T, 0, none⟩ = some (.int .i64 F) ∧ w'.cell? ⟨T, 1, none⟩ = some (.slice ta tn tc) ∧ Hid (SvD B X T a l c z F ta tn tc xs w w'))
        (first
          | (go_split_ands; exact SvD.three (by with_reducible assumption))
          | (go_split_ands; exact SvD.three (Lib.hid (SvD.drew (Hid.out (by with_reducible assumption)))))
          | (go_split_ands; exact SvD.three (Lib.hid (SvD.put (Hid.out (by with_reducible assumption)) _ _).1))
          | fail)
        (first
          | (go_split_ands; go_at_call 45; ((with_reducible refine (A1.out _ (by with_reducible assumption)).mono ?_); rintro e w' ⟨va, rfl, hA8⟩; obtain ⟨u0, k2⟩ := hA8.out.r0; obtain ⟨u1, k3⟩ := hA8.out.r1; have k4 := hA8.out.h0; have k5 := hA8.out.h1))
          | fail)
      all_goals
        go_split_ands
        have hP := hA8.out.put (.int .i64 F) (.slice ta tn tc)
        have e0 := hP.2.1
        have e1 := hP.2.2
        have HF := Lib.hid hP.1
        clear hP
        go_wp2_with fail
        exact bodyPost_ret (v := .tuple #[.agg #[.int .i64 F, .slice ta tn tc], .int .i64 r, .int .i64 p, .int .i64 va, .int .i64 0]) (by simp [results, Tryz.results24, go_sem, e0, e1]) rfl (SvD.fin HF htc htn f0 f1)
    · have z0 : (s == 0) = false := by simp [hs0]
      by_cases hs1 : s = 1
      · subst hs1
        go_wp2_with (go_at_call 44; ((with_reducible refine (pick5 B _ _ _ _ _ _ _ HA.out.ready).mono ?_); rintro e w6 ⟨p, rfl, hd, ho, hs⟩; have HA := Lib.hid (HA.out.call ho hs); clear hd ho hs))
        have k0 := HA.out.c0
        have k1 := HA.out.c1
        go_region_held3 (fun w' => w'.cell? ⟨T, 0, none⟩ = some (.int .i64 F) ∧ w'.cell? ⟨T, 1, none⟩ = some (.slice ta tn tc) ∧ Hid (SvD B X T a l c z F ta tn tc xs w w'))
          (first
            | (go_split_ands; exact SvD.three (by with_reducible assumption))
            | (go_split_ands; exact SvD.three (Lib.hid (SvD.drew (Hid.out (by with_reducible assumption)))))
            | (go_split_ands; exact SvD.three (Lib.hid (SvD.put (Hid.out (by with_reducible assumption)) _ _).1))
            | fail)
          (first
            | (go_split_ands; go_at_call 45; ((with_reducible refine (A1.out _ (by with_reducible assumption)).mono ?_); rintro e w' ⟨va, rfl, hA8⟩; obtain ⟨u0, k2⟩ := hA8.out.r0; obtain ⟨u1, k3⟩ := hA8.out.r1; have k4 := hA8.out.h0; have k5 := hA8.out.h1))
            | fail)
        all_goals
          go_split_ands
          have hP := hA8.out.put (.int .i64 F) (.slice ta tn tc)
          have e0 := hP.2.1
          have e1 := hP.2.2
          have HF := Lib.hid hP.1
          clear hP
          go_wp2_with fail
          exact bodyPost_ret (v := .tuple #[.agg #[.int .i64 F, .slice ta tn tc], .int .i64 r, .int .i64 0, .int .i64 va, .int .i64 p]) (by simp [results, Tryz.results24, go_sem, e0, e1]) rfl (SvD.fin HF htc htn f0 f1)
      · have z1 : (s == 1) = false := by simp [hs1]
        clear hs0 hs1
        go_wp2_with fail
        have k0 := HA.out.c0
        have k1 := HA.out.c1
        go_region_held3 (fun w' => w'.cell? ⟨T, 0, none⟩ = some (.int .i64 F) ∧ w'.cell? ⟨T, 1, none⟩ = some (.slice ta tn tc) ∧ Hid (SvD B X T a l c z F ta tn tc xs w w'))
          (first
            | (go_split_ands; exact SvD.three (by with_reducible assumption))
            | (go_split_ands; exact SvD.three (Lib.hid (SvD.drew (Hid.out (by with_reducible assumption)))))
            | (go_split_ands; exact SvD.three (Lib.hid (SvD.put (Hid.out (by with_reducible assumption)) _ _).1))
            | fail)
          (first
            | (go_split_ands; go_at_call 45; ((with_reducible refine (A1.out _ (by with_reducible assumption)).mono ?_); rintro e w' ⟨va, rfl, hA8⟩; obtain ⟨u0, k2⟩ := hA8.out.r0; obtain ⟨u1, k3⟩ := hA8.out.r1; have k4 := hA8.out.h0; have k5 := hA8.out.h1))
            | fail)
        all_goals
          go_split_ands
          have hP := hA8.out.put (.int .i64 F) (.slice ta tn tc)
          have e0 := hP.2.1
          have e1 := hP.2.2
          have HF := Lib.hid hP.1
          clear hP
          go_wp2_with fail
          exact bodyPost_ret (v := .tuple #[.agg #[.int .i64 F, .slice ta tn tc], .int .i64 r, .int .i64 0, .int .i64 va, .int .i64 0]) (by simp [results, Tryz.results24, go_sem, e0, e1]) rfl (SvD.fin HF htc htn f0 f1)
  · have hk2 : (k == 0) = false := by simp [hk]
    clear hk
    go_wp2_with fail
    refine (next_r B a l c z 40 _ HA.out.ready).mono ?_
    rintro e w5 ⟨s, rfl, hd, ho, hs⟩
    have HA := Lib.hid (HA.out.call ho hs)
    clear hd ho hs
    by_cases hs0 : s = 0
    · subst hs0
      go_wp2_with (go_at_call 44; ((with_reducible refine (pick4 B _ _ _ _ _ _ HA.out.ready).mono ?_); rintro e w6 ⟨p, rfl, hd, ho, hs⟩; have HA := Lib.hid (HA.out.call ho hs); clear hd ho hs))
      have k0 := HA.out.c0
      have k1 := HA.out.c1
      go_region_held3 (fun w' => w'.cell? ⟨T, 0, none⟩ = some (.int .i64 F) ∧ w'.cell? ⟨T, 1, none⟩ = some (.slice ta tn tc) ∧ Hid (SvD B X T a l c z F ta tn tc xs w w'))
        (first
          | (go_split_ands; exact SvD.three (by with_reducible assumption))
          | (go_split_ands; exact SvD.three (Lib.hid (SvD.drew (Hid.out (by with_reducible assumption)))))
          | (go_split_ands; exact SvD.three (Lib.hid (SvD.put (Hid.out (by with_reducible assumption)) _ _).1))
          | fail)
        (first
          | (go_split_ands; go_at_call 45; ((with_reducible refine (A1.out _ (by with_reducible assumption)).mono ?_); rintro e w' ⟨va, rfl, hA8⟩; obtain ⟨u0, k2⟩ := hA8.out.r0; obtain ⟨u1, k3⟩ := hA8.out.r1; have k4 := hA8.out.h0; have k5 := hA8.out.h1))
          | fail)
      all_goals
        go_split_ands
        have hP := hA8.out.put (.int .i64 F) (.slice ta tn tc)
        have e0 := hP.2.1
        have e1 := hP.2.2
        have HF := Lib.hid hP.1
        clear hP
        go_wp2_with fail
        exact bodyPost_ret (v := .tuple #[.agg #[.int .i64 F, .slice ta tn tc], .int .i64 r, .int .i64 p, .int .i64 va, .int .i64 (1 + q)]) (by simp [results, Tryz.results24, go_sem, e0, e1]) rfl (SvD.fin HF htc htn f0 f1)
    · have z0 : (s == 0) = false := by simp [hs0]
      by_cases hs1 : s = 1
      · subst hs1
        go_wp2_with (go_at_call 44; ((with_reducible refine (pick5 B _ _ _ _ _ _ _ HA.out.ready).mono ?_); rintro e w6 ⟨p, rfl, hd, ho, hs⟩; have HA := Lib.hid (HA.out.call ho hs); clear hd ho hs))
        have k0 := HA.out.c0
        have k1 := HA.out.c1
        go_region_held3 (fun w' => w'.cell? ⟨T, 0, none⟩ = some (.int .i64 F) ∧ w'.cell? ⟨T, 1, none⟩ = some (.slice ta tn tc) ∧ Hid (SvD B X T a l c z F ta tn tc xs w w'))
          (first
            | (go_split_ands; exact SvD.three (by with_reducible assumption))
            | (go_split_ands; exact SvD.three (Lib.hid (SvD.drew (Hid.out (by with_reducible assumption)))))
            | (go_split_ands; exact SvD.three (Lib.hid (SvD.put (Hid.out (by with_reducible assumption)) _ _).1))
            | fail)
          (first
            | (go_split_ands; go_at_call 45; ((with_reducible refine (A1.out _ (by with_reducible assumption)).mono ?_); rintro e w' ⟨va, rfl, hA8⟩; obtain ⟨u0, k2⟩ := hA8.out.r0; obtain ⟨u1, k3⟩ := hA8.out.r1; have k4 := hA8.out.h0; have k5 := hA8.out.h1))
            | fail)
        all_goals
          go_split_ands
          have hP := hA8.out.put (.int .i64 F) (.slice ta tn tc)
          have e0 := hP.2.1
          have e1 := hP.2.2
          have HF := Lib.hid hP.1
          clear hP
          go_wp2_with fail
          exact bodyPost_ret (v := .tuple #[.agg #[.int .i64 F, .slice ta tn tc], .int .i64 r, .int .i64 k, .int .i64 va, .int .i64 p]) (by simp [results, Tryz.results24, go_sem, e0, e1]) rfl (SvD.fin HF htc htn f0 f1)
      · have z1 : (s == 1) = false := by simp [hs1]
        clear hs0 hs1
        go_wp2_with fail
        have k0 := HA.out.c0
        have k1 := HA.out.c1
        go_region_held3 (fun w' => w'.cell? ⟨T, 0, none⟩ = some (.int .i64 F) ∧ w'.cell? ⟨T, 1, none⟩ = some (.slice ta tn tc) ∧ Hid (SvD B X T a l c z F ta tn tc xs w w'))
          (first
            | (go_split_ands; exact SvD.three (by with_reducible assumption))
            | (go_split_ands; exact SvD.three (Lib.hid (SvD.drew (Hid.out (by with_reducible assumption)))))
            | (go_split_ands; exact SvD.three (Lib.hid (SvD.put (Hid.out (by with_reducible assumption)) _ _).1))
            | fail)
          (first
            | (go_split_ands; go_at_call 45; ((with_reducible refine (A1.out _ (by with_reducible assumption)).mono ?_); rintro e w' ⟨va, rfl, hA8⟩; obtain ⟨u0, k2⟩ := hA8.out.r0; obtain ⟨u1, k3⟩ := hA8.out.r1; have k4 := hA8.out.h0; have k5 := hA8.out.h1))
            | fail)
        all_goals
          go_split_ands
          have hP := hA8.out.put (.int .i64 F) (.slice ta tn tc)
          have e0 := hP.2.1
          have e1 := hP.2.2
          have HF := Lib.hid hP.1
          clear hP
          go_wp2_with fail
          exact bodyPost_ret (v := .tuple #[.agg #[.int .i64 F, .slice ta tn tc], .int .i64 r, .int .i64 k, .int .i64 va, .int .i64 (1 + q)]) (by simp [results, Tryz.results24, go_sem, e0, e1]) rfl (SvD.fin HF htc htn f0 f1)

end Go.Proofs.YtnimmkbpcmgeaaaGreat
