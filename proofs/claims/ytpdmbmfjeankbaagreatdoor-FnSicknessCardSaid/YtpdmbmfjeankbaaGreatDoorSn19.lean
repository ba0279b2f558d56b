/- Merged: TabU, DrCA, SnV. -/
import Derived.Test.YtpdmbmfjeankbaaGreatDoorSn4
import Derived.Test.YtpdmbmfjeankbaaGreatDoorSn15
import Derived.Test.YtpdmbmfjeankbaaGreatDoorSn18
import Derived.Deep.RegionHeld3

/- The model's draw of an age of a life table, and of what SurvivalOf takes. | The model's draw of what SurvivalOf takes. -/
namespace Go.Proofs.YtpdmbmfjeankbaaGreatDoor
open Go.ChangeShapes Go.WideShapes Go.ChangeAt Go.RowKit
set_option linter.unusedVariables false
set_option maxRecDepth 100000

/-- in the midst of the draw of an age: T is the table's box -/
structure AgS (B T : Nat) (a : Option Addr) (l c : Nat) (z : List Int) (F : Int) (ta : Option Addr) (tn tc : Nat) (w w' : World) : Prop where
  ready : Ready B a l c z w'
  but : But B w w'
  c0 : w'.cell? ⟨T, 0, none⟩ = some (.int .i64 F)
  c1 : w'.cell? ⟨T, 1, none⟩ = some (.slice ta tn tc)
  ne : T ≠ B

theorem AgS.call {B T : Nat} {a : Option Addr} {l c : Nat} {z : List Int} {F : Int} {ta : Option Addr} {tn tc : Nat} {w w1 w2 : World} (h : AgS B T a l c z F ta tn tc w w1) (ho : But B w1 w2) (hs : Ready B a l c z w2) : AgS B T a l c z F ta tn tc w w2 :=
  ⟨hs, h.but.trans ho, (ho.cell (p := ⟨T, 0, none⟩) (block_lt h.c0) h.ne).trans h.c0, (ho.cell (p := ⟨T, 1, none⟩) (block_lt h.c1) h.ne).trans h.c1, h.ne⟩

theorem AgS.below {B T : Nat} {a : Option Addr} {l c : Nat} {z : List Int} {F : Int} {ta : Option Addr} {tn tc : Nat} {w w1 w2 : World} (h : AgS B T a l c z F ta tn tc w w1) (hb : Below w1.heap.size w1 w2) : AgS B T a l c z F ta tn tc w w2 :=
  h.call ⟨hb.os, hb.tape, hb.output, hb.size, fun k hk _ => hb.block k hk⟩ (h.ready.below hb h.ready.here)

theorem AgS.alloc {B T : Nat} {a : Option Addr} {l c : Nat} {z : List Int} {F : Int} {ta : Option Addr} {tn tc : Nat} {w w1 : World} (h : AgS B T a l c z F ta tn tc w w1) (o : Obj) : AgS B T a l c z F ta tn tc w (w1.alloc o) := h.call (But.alloc _) (h.ready.alloc _)

theorem AgS.drew {B T : Nat} {a : Option Addr} {l c : Nat} {z : List Int} {F : Int} {ta : Option Addr} {tn tc : Nat} {w w1 : World} (h : AgS B T a l c z F ta tn tc w w1) : AgS B T a l c z F ta tn tc w w1.drew := h.call (But.refl _ _).drew h.ready.drew

theorem AgS.three {B T : Nat} {a : Option Addr} {l c : Nat} {z : List Int} {F : Int} {ta : Option Addr} {tn tc : Nat} {w w1 : World} (h : Hid (AgS B T a l c z F ta tn tc w w1)) : w1.cell? ⟨T, 0, none⟩ = some (.int .i64 F) ∧ w1.cell? ⟨T, 1, none⟩ = some (.slice ta tn tc) ∧ Hid (AgS B T a l c z F ta tn tc w w1) := ⟨h.out.c0, h.out.c1, h⟩

def AgePost (B : Nat) (a : Option Addr) (l c : Nat) (z : List Int) (w : World) (e : Ending) (w' : World) : Prop := ∃ x, e = .returned (.int .i64 x) ∧ But B w w' ∧ Ready B a l c z w'

theorem AgS.fin {B T : Nat} {a : Option Addr} {l c : Nat} {z : List Int} {F : Int} {ta : Option Addr} {tn tc : Nat} {w w1 : World} {x : Int} (h : Hid (AgS B T a l c z F ta tn tc w w1)) : AgePost B a l c z w (.returned (.int .i64 x)) w1 := ⟨x, rfl, h.out.but, h.out.ready⟩

theorem end_dr (f : Int) (a : Option Addr) (l c : Nat) (w : World) (hl : l ≤ 1000000) (h0 : -1 ≤ f) (h1 : f ≤ 1000) :
    Calls Tryz.prog 42 #[.agg #[.int .i64 f, .slice a l c]] w fun e w' => e = .returned (.int .i64 (f + l - 1)) ∧ Below w.heap.size w w' := by
  go_enter Tryz.func42, Tryz.ntmps42
  go_wp2_with fail
  go_ret
  exact ⟨rfl, box_b _ _⟩

theorem pick5D (B : Nat) (x1 x2 x3 x4 x5 : Int) (T : TypeId) (w : World) {a : Option Addr} {l c : Nat} {z : List Int} (h : Ready B a l c z w) :
    Calls Tryz.prog 22 #[.pointer (some ⟨B, 0, none⟩), .slice (some ⟨w.heap.size, 0, none⟩) 5 5] (w.alloc (.cells #[.int .i64 x1, .int .i64 x2, .int .i64 x3, .int .i64 x4, .int .i64 x5] T)).drew (NumPost B a l c z (· ∈ [x1, x2, x3, x4, x5]) w) := by
  refine (pick_r B w.heap.size a l c 5 z [x1, x2, x3, x4, x5] _ ((h.alloc _).drew) (by have := h.here; omega) rfl (by decide) (by decide) (fun i hi => new_cells w [x1, x2, x3, x4, x5] T i hi)).mono ?_
  rintro e w' ⟨v, he, hd, ho, hs⟩
  exact ⟨v, he, hd, ((But.alloc _).drew).trans ho, hs⟩

set_option maxRecDepth 100000 in
set_option maxHeartbeats 1000000 in
theorem dage (B : Nat) (a : Option Addr) (l c : Nat) (z : List Int) (F : Int) (ta : Option Addr) (tn tc : Nat) (w : World) (h : Ready B a l c z w) (f0 : -1 ≤ F) (f1 : F ≤ 101) (hn : tn ≤ 4096) :
    Calls Tryz.prog 19 #[.pointer (some ⟨B, 0, none⟩), .agg #[.int .i64 F, .slice ta tn tc]] w (AgePost B a l c z w) := by
  have hB := h.here
  have HS := Lib.hid h
  clear h
  go_enter Tryz.func19, Tryz.ntmps19
  go_wp2_with fail
  refine (next_r _ _ _ _ _ _ _ (HS.out.alloc _)).mono ?_
  rintro e w1 ⟨r, rfl, hd, ho, hs⟩
  have hA0 : AgS B w.heap.size a l c z F ta tn tc w (w.alloc (.cells #[.int .i64 F, .slice ta tn tc] 26)) := ⟨HS.out.alloc _, But.alloc _, by go_simp, by go_simp, by omega⟩
  have HA := Lib.hid (hA0.call ho hs)
  clear hd ho hs hA0
  obtain ⟨T, hT⟩ : ∃ T, w.heap.size = T := ⟨_, rfl⟩
  rw [hT] at HA
  (try rw [hT])
  clear hT
  have k0 := HA.out.c0
  have k1 := HA.out.c1
  have E1 : Hid (∀ W, Hid (AgS B T a l c z F ta tn tc w W) → Calls Tryz.prog 42 #[.agg #[.int .i64 F, .slice ta tn tc]] W fun e w' => e = .returned (.int .i64 (F + tn - 1)) ∧ Hid (AgS B T a l c z F ta tn tc w w')) :=
    Lib.hid (fun W hW => (end_dr F ta tn tc W (by omega) f0 (by omega)).mono fun e w' ⟨he, hb⟩ => ⟨he, Lib.hid (hW.out.below hb)⟩)
  have P1 : Hid (∀ W x1 x2 x3 x4 x5 T', Hid (AgS B T a l c z F ta tn tc w W) → Calls Tryz.prog 22 #[.pointer (some ⟨B, 0, none⟩), .slice (some ⟨W.heap.size, 0, none⟩) 5 5] (W.alloc (.cells #[.int .i64 x1, .int .i64 x2, .int .i64 x3, .int .i64 x4, .int .i64 x5] T')) fun e w' => ∃ v, e = .returned (.int .i64 v) ∧ Hid (AgS B T a l c z F ta tn tc w w')) :=
    Lib.hid (fun W x1 x2 x3 x4 x5 T' hW => (pick5 B x1 x2 x3 x4 x5 T' W hW.out.ready).mono fun e w' ⟨v, he, _, ho, hs⟩ => ⟨v, he, Lib.hid (hW.out.call ho hs)⟩)
  have P2 : Hid (∀ W x1 x2 x3 x4 x5 T', Hid (AgS B T a l c z F ta tn tc w W) → Calls Tryz.prog 22 #[.pointer (some ⟨B, 0, none⟩), .slice (some ⟨W.heap.size, 0, none⟩) 5 5] (W.alloc (.cells #[.int .i64 x1, .int .i64 x2, .int .i64 x3, .int .i64 x4, .int .i64 x5] T')).drew fun e w' => ∃ v, e = .returned (.int .i64 v) ∧ Hid (AgS B T a l c z F ta tn tc w w')) :=
    Lib.hid (fun W x1 x2 x3 x4 x5 T' hW => (pick5D B x1 x2 x3 x4 x5 T' W hW.out.ready).mono fun e w' ⟨v, he, _, ho, hs⟩ => ⟨v, he, Lib.hid (hW.out.call ho hs)⟩)
  have N1 : Hid (∀ W, Hid (AgS B T a l c z F ta tn tc w W) → Calls Tryz.prog 21 #[.pointer (some ⟨B, 0, none⟩), .int .i64 tn] W fun e w' => ∃ v, e = .returned (.int .i64 v) ∧ (0 ≤ v ∧ v ≤ 4096) ∧ Hid (AgS B T a l c z F ta tn tc w w')) :=
    Lib.hid (fun W hW => (next_r B a l c z tn W hW.out.ready).mono fun e w' ⟨v, he, hd, ho, hs⟩ => ⟨v, he, by
      by_cases h1 : (1 : Int) < tn
      · have := hd.1 h1; omega
      · have := hd.2 (by omega); omega, Lib.hid (hW.out.call ho hs)⟩)
  obtain ⟨En, hEn⟩ : ∃ En, F + (tn : Int) - 1 = En := ⟨_, rfl⟩
  have en0 : -2 ≤ En ∧ En ≤ 10000 := by omega
  rw [hEn] at E1
  have q1 : IntKind.i64.wrap (F - 1) = F - 1 := IntWalk.i64_in _ (by omega)
  have q2 : IntKind.i64.wrap (En + 1) = En + 1 := IntWalk.i64_in _ (by omega)
  clear hEn
  by_cases hr : r = 0
  · subst hr
    go_wp2_with fail
    go_region_held3 (fun w' => w'.cell? ⟨T, 0, none⟩ = some (.int .i64 F) ∧ w'.cell? ⟨T, 1, none⟩ = some (.slice ta tn tc) ∧ Hid (AgS B T a l c z F ta tn tc w w'))
      (first
        | (go_split_ands; exact AgS.three (by assumption))
        | (go_split_ands; exact AgS.three (Lib.hid (AgS.drew (Hid.out (by assumption)))))
        | (go_split_ands; exact AgS.three (Lib.hid (AgS.alloc (Hid.out (by assumption)) _))))
      (first
        | (go_split_ands; go_at_call 42; ((with_reducible refine (E1.out _ (by assumption)).mono ?_); rintro e w' ⟨rfl, hA8⟩))
        | (go_split_ands; go_at_call 22; ((first | (with_reducible refine (P1.out _ _ _ _ _ _ _ (by assumption)).mono ?_) | (with_reducible refine (P2.out _ _ _ _ _ _ _ (by assumption)).mono ?_)); rintro e w' ⟨v, rfl, hA8⟩)))
    all_goals
      go_split_ands
      go_wp2_with fail
      go_ret
      exact AgS.fin (by assumption)
  · have hrb : (r == 0) = false := by simpa using hr
    go_wp2_with fail
    go_region_held3 (fun w' => w'.cell? ⟨T, 0, none⟩ = some (.int .i64 F) ∧ w'.cell? ⟨T, 1, none⟩ = some (.slice ta tn tc) ∧ Hid (AgS B T a l c z F ta tn tc w w'))
      (first
        | (go_split_ands; exact AgS.three (by assumption))
        | (go_split_ands; exact AgS.three (Lib.hid (AgS.drew (Hid.out (by assumption))))))
      (first
        | (go_split_ands; go_at_call 21; ((with_reducible refine (N1.out _ (by assumption)).mono ?_); rintro e w' ⟨v, rfl, ⟨hv0, hv1⟩, hA8⟩; have q3 : IntKind.i64.wrap (F + v) = F + v := IntWalk.i64_in _ (by omega))))
    all_goals
      go_split_ands
      go_wp2_with fail
      go_ret
      exact AgS.fin (by assumption)

/-- in the midst of it: X the result's cells, B the source, T the table's box -/
structure SvS (B X T : Nat) (a : Option Addr) (l c : Nat) (z : List Int) (F : Int) (ta : Option Addr) (tn tc : Nat) (xs : List Int) (w w' : World) : Prop where
  ready : Ready B a l c z w'
  low : Below X w w'
  c0 : w'.cell? ⟨T, 0, none⟩ = some (.int .i64 F)
  c1 : w'.cell? ⟨T, 1, none⟩ = some (.slice ta tn tc)
  r0 : ∃ v, w'.cell? ⟨X, 0, none⟩ = some v
  r1 : ∃ v, w'.cell? ⟨X, 1, none⟩ = some v
  h0 : w'.frozen? ⟨X, 0, none⟩ = false
  h1 : w'.frozen? ⟨X, 1, none⟩ = false
  ints : Ints w' ta tn xs
  far : ∀ x, ta = some x → B < x.block
  eX : w.heap.size = X
  oB : X < B
  oT : B < T
  ap : Apart a z X

theorem SvS.call {B X T : Nat} {a : Option Addr} {l c : Nat} {z : List Int} {F : Int} {ta : Option Addr} {tn tc : Nat} {xs : List Int} {w w1 w2 : World} (h : SvS B X T a l c z F ta tn tc xs w w1) (ho : But B w1 w2) (hs : Ready B a l c z w2) : SvS B X T a l c z F ta tn tc xs w w2 := by
  have oB := h.oB
  have oT := h.oT
  obtain ⟨u0, g0⟩ := h.r0
  obtain ⟨u1, g1⟩ := h.r1
  have hX : X < w1.heap.size := block_lt g0
  exact ⟨hs, h.low.trans (ho.below (by omega) (by omega)), (ho.cell (p := ⟨T, 0, none⟩) (block_lt h.c0) (by show T ≠ B; omega)).trans h.c0, (ho.cell (p := ⟨T, 1, none⟩) (block_lt h.c1) (by show T ≠ B; omega)).trans h.c1,
    ⟨u0, (ho.cell (p := ⟨X, 0, none⟩) hX (by show X ≠ B; omega)).trans g0⟩, ⟨u1, (ho.cell (p := ⟨X, 1, none⟩) hX (by show X ≠ B; omega)).trans g1⟩, (ho.frozen (p := ⟨X, 0, none⟩) hX (by show X ≠ B; omega)).trans h.h0, (ho.frozen (p := ⟨X, 1, none⟩) hX (by show X ≠ B; omega)).trans h.h1,
    h.ints.butT ho (fun x hx => by have := h.far x hx; omega), h.far, h.eX, oB, oT, h.ap⟩

theorem SvS.alloc {B X T : Nat} {a : Option Addr} {l c : Nat} {z : List Int} {F : Int} {ta : Option Addr} {tn tc : Nat} {xs : List Int} {w w1 : World} (h : SvS B X T a l c z F ta tn tc xs w w1) (o : Obj) : SvS B X T a l c z F ta tn tc xs w (w1.alloc o) := h.call (But.alloc _) (h.ready.alloc _)

theorem SvS.drew {B X T : Nat} {a : Option Addr} {l c : Nat} {z : List Int} {F : Int} {ta : Option Addr} {tn tc : Nat} {xs : List Int} {w w1 : World} (h : SvS B X T a l c z F ta tn tc xs w w1) : SvS B X T a l c z F ta tn tc xs w w1.drew := h.call (But.refl _ _).drew h.ready.drew

/-- the result is written -/
theorem SvS.put {B X T : Nat} {a : Option Addr} {l c : Nat} {z : List Int} {F : Int} {ta : Option Addr} {tn tc : Nat} {xs : List Int} {w w1 : World} (h : SvS B X T a l c z F ta tn tc xs w w1) (u v : Value) : SvS B X T a l c z F ta tn tc xs w ((w1.setCell ⟨X, 0, none⟩ u).setCell ⟨X, 1, none⟩ v) ∧
    ((w1.setCell ⟨X, 0, none⟩ u).setCell ⟨X, 1, none⟩ v).cell? ⟨X, 0, none⟩ = some u ∧ ((w1.setCell ⟨X, 0, none⟩ u).setCell ⟨X, 1, none⟩ v).cell? ⟨X, 1, none⟩ = some v := by
  have oB := h.oB
  have oT := h.oT
  obtain ⟨u0, g0⟩ := h.r0
  obtain ⟨u1, g1⟩ := h.r1
  have n1 : (⟨X, 0, none⟩ : Addr) ≠ ⟨X, 1, none⟩ := fun e => by injection e; omega
  have e0 : ((w1.setCell ⟨X, 0, none⟩ u).setCell ⟨X, 1, none⟩ v).cell? ⟨X, 0, none⟩ = some u := by rw [far_set n1]; exact World.cell?_setCell_same' _ _ _ (by rw [g0]; rfl)
  have e1 : ((w1.setCell ⟨X, 0, none⟩ u).setCell ⟨X, 1, none⟩ v).cell? ⟨X, 1, none⟩ = some v := World.cell?_setCell_same' _ _ _ (by rw [far_set n1.symm, g1]; rfl)
  have ho : Only X w1 ((w1.setCell ⟨X, 0, none⟩ u).setCell ⟨X, 1, none⟩ v) := ((Only.refl _ _).setCell (p := ⟨X, 0, none⟩) rfl _).setCell (p := ⟨X, 1, none⟩) rfl _
  refine ⟨⟨?_, h.low.trans (ho.below (Nat.le_refl _)), (ho.cell (p := ⟨T, 0, none⟩) (by show T ≠ X; omega)).trans h.c0, (ho.cell (p := ⟨T, 1, none⟩) (by show T ≠ X; omega)).trans h.c1, ⟨_, e0⟩, ⟨_, e1⟩, ?_, ?_, h.ints.onlyT ho (fun x hx => by have := h.far x hx; omega), h.far, h.eX, oB, oT, h.ap⟩, e0, e1⟩
  · obtain ⟨⟨t, x, S⟩, r, p⟩ := h.ready
    have hne : B ≠ X := by omega
    exact ⟨⟨t, x, by rw [ho.size]; exact S.here, (ho.cell (p := ⟨B, 0, none⟩) hne).trans S.code, (ho.cell (p := ⟨B, 1, none⟩) hne).trans S.att, (ho.cell (p := ⟨B, 2, none⟩) hne).trans S.seed,
      (ho.frozen (p := ⟨B, 0, none⟩) hne).trans S.free0, (ho.frozen (p := ⟨B, 1, none⟩) hne).trans S.free1, (ho.frozen (p := ⟨B, 2, none⟩) hne).trans S.free2, S.t0, S.tl, S.x0, S.xl⟩, r.below (ho.below (Nat.le_refl X)) h.ap, p⟩
  · rw [World.frozen?_setCell, World.frozen?_setCell]; exact h.h0
  · rw [World.frozen?_setCell, World.frozen?_setCell]; exact h.h1

theorem SvS.three {B X T : Nat} {a : Option Addr} {l c : Nat} {z : List Int} {F : Int} {ta : Option Addr} {tn tc : Nat} {xs : List Int} {w w1 : World} (h : Hid (SvS B X T a l c z F ta tn tc xs w w1)) : w1.cell? ⟨T, 0, none⟩ = some (.int .i64 F) ∧ w1.cell? ⟨T, 1, none⟩ = some (.slice ta tn tc) ∧ Hid (SvS B X T a l c z F ta tn tc xs w w1) := ⟨h.out.c0, h.out.c1, h⟩

def SvPost (w : World) (e : Ending) (w' : World) : Prop :=
  ∃ F ta tn tc xs x y, e = .returned (.tuple #[.agg #[.int .i64 F, .slice ta tn tc], .int .i64 x, .int .i64 y]) ∧ Ints w' ta tn xs ∧ tn ≤ tc ∧ tn ≤ 4096 ∧ Below w.heap.size w w'

theorem SvS.fin {B X T : Nat} {a : Option Addr} {l c : Nat} {z : List Int} {F : Int} {ta : Option Addr} {tn tc : Nat} {xs : List Int} {w w1 : World} {x y : Int} (h : Hid (SvS B X T a l c z F ta tn tc xs w w1)) (hn : tn ≤ tc) (hm : tn ≤ 4096) :
    SvPost w (.returned (.tuple #[.agg #[.int .i64 F, .slice ta tn tc], .int .i64 x, .int .i64 y])) w1 :=
  ⟨F, ta, tn, tc, xs, x, y, rfl, h.out.ints, hn, hm, by rw [h.out.eX]; exact h.out.low⟩

end Go.Proofs.YtpdmbmfjeankbaaGreatDoor

/- The model's draws of what the columns take: a table, a rate, an age. | The model's draws of what chapter 6 takes: a table, a rate, an age, an amount or a price, a number of years. (Written by wip/gen/dran.py.) -/
namespace Go.Proofs.YtpdmbmfjeankbaaGreatDoor
open Go.ChangeShapes Go.WideShapes Go.ChangeAt Go.RowKit
set_option linter.unusedVariables false

/-- a drawn table and a rate -/
def DrawnR (B : Nat) (a : Option Addr) (l c : Nat) (z : List Int) (w : World) (e : Ending) (w' : World) : Prop :=
  ∃ F ta tn tc xs r, e = .returned (.tuple #[.agg #[.int .i64 F, .slice ta tn tc], .int .i64 r]) ∧ Ints w' ta tn xs ∧ tn ≤ tc ∧ tn ≤ 4096 ∧ -1 ≤ F ∧ F ≤ 101 ∧ (∀ x, ta = some x → w.heap.size ≤ x.block) ∧ But B w w' ∧ Ready B a l c z w'

theorem putX (w1 : World) (X : Nat) (u v : Value) (g0 : ∃ v, w1.cell? ⟨X, 0, none⟩ = some v) (g1 : ∃ v, w1.cell? ⟨X, 1, none⟩ = some v) :
    ((w1.setCell ⟨X, 0, none⟩ u).setCell ⟨X, 1, none⟩ v).cell? ⟨X, 0, none⟩ = some u ∧ ((w1.setCell ⟨X, 0, none⟩ u).setCell ⟨X, 1, none⟩ v).cell? ⟨X, 1, none⟩ = some v ∧ Only X w1 ((w1.setCell ⟨X, 0, none⟩ u).setCell ⟨X, 1, none⟩ v) := by
  obtain ⟨v0, g0⟩ := g0
  obtain ⟨v1, g1⟩ := g1
  have n1 : (⟨X, 0, none⟩ : Addr) ≠ ⟨X, 1, none⟩ := fun e => by injection e; omega
  exact ⟨by rw [far_set n1]; exact World.cell?_setCell_same' _ _ _ (by rw [g0]; rfl), World.cell?_setCell_same' _ _ _ (by rw [far_set n1.symm, g1]; rfl), ((Only.refl _ _).setCell (p := ⟨X, 0, none⟩) rfl _).setCell (p := ⟨X, 1, none⟩) rfl _⟩

set_option maxRecDepth 100000 in
set_option maxHeartbeats 1000000 in
theorem drawTR (B : Nat) (a : Option Addr) (l c : Nat) (z : List Int) (w : World) (h : Ready B a l c z w) : Calls Tryz.prog 18 #[.pointer (some ⟨B, 0, none⟩)] w (DrawnR B a l c z w) := by
  have hB := h.here
  have HS := Lib.hid (h.alloc (.cells #[.int .i64 0, .slice none 0 0] 26))
  clear h
  go_enter Tryz.func18, Tryz.ntmps18
  go_wp2_with fail
  refine (dtable B a l c z _ HS.out).mono ?_
  rintro e w2 ⟨F, ta, tn, tc, xs, rfl, hI, htc, htn, f0, f1, far, ho, hs⟩
  have hX : w.heap.size < (w.alloc (.cells #[.int .i64 0, .slice none 0 0] 26)).heap.size := by simp
  have r0 : w2.cell? ⟨w.heap.size, 0, none⟩ = some (.int .i64 0) := (ho.cell (p := ⟨w.heap.size, 0, none⟩) hX (by show w.heap.size ≠ B; omega)).trans (by go_simp)
  have r1 : w2.cell? ⟨w.heap.size, 1, none⟩ = some (.slice none 0 0) := (ho.cell (p := ⟨w.heap.size, 1, none⟩) hX (by show w.heap.size ≠ B; omega)).trans (by go_simp)
  have h0 : w2.frozen? ⟨w.heap.size, 0, none⟩ = false := (ho.frozen (p := ⟨w.heap.size, 0, none⟩) hX (by show w.heap.size ≠ B; omega)).trans (by go_simp)
  have h1 : w2.frozen? ⟨w.heap.size, 1, none⟩ = false := (ho.frozen (p := ⟨w.heap.size, 1, none⟩) hX (by show w.heap.size ≠ B; omega)).trans (by go_simp)
  have HI := Lib.hid hI
  have HF : Hid (∀ x, ta = some x → w.heap.size < x.block) := Lib.hid (fun x hx => by have := far x hx; rw [World.size_alloc] at this; omega)
  have HO := Lib.hid ((But.alloc (B := B) (w := w) (.cells #[.int .i64 0, .slice none 0 0] 26)).trans ho)
  have HS2 := Lib.hid hs
  clear hI far ho hs HS hX
  go_wp2_with fail
  refine (rate_r B a l c z _ HS2.out).mono ?_
  rintro e w3 ⟨r, rfl, hd, ho, hs⟩
  have hX2 : w.heap.size < w2.heap.size := block_lt r0
  have r0 := (ho.cell (p := ⟨w.heap.size, 0, none⟩) hX2 (by show w.heap.size ≠ B; omega)).trans r0
  have r1 := (ho.cell (p := ⟨w.heap.size, 1, none⟩) hX2 (by show w.heap.size ≠ B; omega)).trans r1
  have h0 := (ho.frozen (p := ⟨w.heap.size, 0, none⟩) hX2 (by show w.heap.size ≠ B; omega)).trans h0
  have h1 := (ho.frozen (p := ⟨w.heap.size, 1, none⟩) hX2 (by show w.heap.size ≠ B; omega)).trans h1
  have HI3 := Lib.hid (HI.out.butT ho (fun x hx => by have := HF.out x hx; omega))
  have HO3 := Lib.hid (HO.out.trans ho)
  have HS3 := Lib.hid hs
  obtain ⟨e0, e1, hox⟩ := putX w3 w.heap.size (.int .i64 F) (.slice ta tn tc) ⟨_, r0⟩ ⟨_, r1⟩
  have HX := Lib.hid hox
  clear ho hs hd hox HI HO HS2 hX2
  go_wp2_with fail
  refine bodyPost_ret (v := .tuple #[.agg #[.int .i64 F, .slice ta tn tc], .int .i64 r]) (by simp [results, Tryz.results18, go_sem, e0, e1]) rfl ?_
  refine ⟨F, ta, tn, tc, xs, r, rfl, HI3.out.onlyT HX.out (fun x hx => by have := HF.out x hx; omega), htc, htn, f0, f1, fun x hx => by have := HF.out x hx; omega, ?_, HS3.out.below (HX.out.below (Nat.le_refl _)) hB⟩
  have hh := HX.out
  exact ⟨hh.os.trans HO3.out.os, hh.tape.trans HO3.out.tape, hh.output.trans HO3.out.output, by rw [hh.size]; exact HO3.out.size, fun k hk hk2 => (hh.block k (by omega)).trans (HO3.out.block k hk hk2)⟩

def CaPost (w : World) (e : Ending) (w' : World) : Prop :=
  ∃ F ta tn tc xs r x, e = .returned (.tuple #[.agg #[.int .i64 F, .slice ta tn tc], .int .i64 r, .int .i64 x]) ∧ Ints w' ta tn xs ∧ tn ≤ tc ∧ tn ≤ 4096 ∧ Below w.heap.size w w'

theorem SvS.finCA {B X T : Nat} {a : Option Addr} {l c : Nat} {z : List Int} {F : Int} {ta : Option Addr} {tn tc : Nat} {xs : List Int} {w w1 : World} {r x : Int} (h : Hid (SvS B X T a l c z F ta tn tc xs w w1)) (hn : tn ≤ tc) (hm : tn ≤ 4096) :
    CaPost w (.returned (.tuple #[.agg #[.int .i64 F, .slice ta tn tc], .int .i64 r, .int .i64 x])) w1 :=
  ⟨F, ta, tn, tc, xs, r, x, rfl, h.out.ints, hn, hm, by rw [h.out.eX]; exact h.out.low⟩

def LfPost (w : World) (e : Ending) (w' : World) : Prop :=
  ∃ F ta tn tc xs r v0 v1, e = .returned (.tuple #[.agg #[.int .i64 F, .slice ta tn tc], .int .i64 r, .int .i64 v0, .int .i64 v1]) ∧ Ints w' ta tn xs ∧ tn ≤ tc ∧ tn ≤ 4096 ∧ Below w.heap.size w w'

theorem SvS.finLF {B X T : Nat} {a : Option Addr} {l c : Nat} {z : List Int} {F : Int} {ta : Option Addr} {tn tc : Nat} {xs : List Int} {w w1 : World} {r v0 v1 : Int} (h : Hid (SvS B X T a l c z F ta tn tc xs w w1)) (hn : tn ≤ tc) (hm : tn ≤ 4096) :
    LfPost w (.returned (.tuple #[.agg #[.int .i64 F, .slice ta tn tc], .int .i64 r, .int .i64 v0, .int .i64 v1])) w1 :=
  ⟨F, ta, tn, tc, xs, r, v0, v1, rfl, h.out.ints, hn, hm, by rw [h.out.eX]; exact h.out.low⟩

def TaPost (w : World) (e : Ending) (w' : World) : Prop :=
  ∃ F ta tn tc xs r v0 v1 v2, e = .returned (.tuple #[.agg #[.int .i64 F, .slice ta tn tc], .int .i64 r, .int .i64 v0, .int .i64 v1, .int .i64 v2]) ∧ Ints w' ta tn xs ∧ tn ≤ tc ∧ tn ≤ 4096 ∧ Below w.heap.size w w'

theorem SvS.finTA {B X T : Nat} {a : Option Addr} {l c : Nat} {z : List Int} {F : Int} {ta : Option Addr} {tn tc : Nat} {xs : List Int} {w w1 : World} {r v0 v1 v2 : Int} (h : Hid (SvS B X T a l c z F ta tn tc xs w w1)) (hn : tn ≤ tc) (hm : tn ≤ 4096) :
    TaPost w (.returned (.tuple #[.agg #[.int .i64 F, .slice ta tn tc], .int .i64 r, .int .i64 v0, .int .i64 v1, .int .i64 v2])) w1 :=
  ⟨F, ta, tn, tc, xs, r, v0, v1, v2, rfl, h.out.ints, hn, hm, by rw [h.out.eX]; exact h.out.low⟩

end Go.Proofs.YtpdmbmfjeankbaaGreatDoor

/- The model's draw of what SickValue takes. (Written by wip/gen/snv.py.) -/
namespace Go.Proofs.YtpdmbmfjeankbaaGreatDoor
open Go.ChangeShapes Go.WideShapes Go.ChangeAt Go.RowKit
set_option linter.unusedVariables false
set_option linter.unusedSimpArgs false
set_option maxRecDepth 100000

def SkPost (w : World) (e : Ending) (w' : World) : Prop :=
  ∃ F ta tn tc xs G ua un uc ys r x n q, e = .returned (.tuple #[.agg #[.int .i64 F, .slice ta tn tc], .agg #[.int .i64 G, .slice ua un uc], .int .i64 r, .int .i64 x, .int .i64 n, .int .i64 q]) ∧ (Ints w' ta tn xs ∧ Ints w' ua un ys ∧ Below w.heap.size w w') ∧ tn ≤ tc ∧ un ≤ uc

/-- the second table is there too -/
theorem T9.second {B X Y T U : Nat} {a : Option Addr} {l c : Nat} {z : List Int} {F : Int} {ta : Option Addr} {tn tc : Nat} {xs : List Int} {G : Int} {ua : Option Addr} {un uc : Nat} {ys : List Int} {w W : World} (h : T9 B X Y T T a l c z F ta tn tc xs F ta tn tc xs w W) (i2 : Ints W ua un ys) (f2 : ∀ x, ua = some x → B < x.block) (bu : Bx W U [.int .i64 G, .slice ua un uc]) (oU : B < U) : T9 B X Y T U a l c z F ta tn tc xs G ua un uc ys w W :=
  ⟨⟨h.core.ready, h.core.low, h.core.rx, h.core.ry, h.core.i1, i2, h.core.f1, f2, h.core.oY, h.core.oB, h.core.eX, h.core.ap⟩, h.bt, bu, h.oT, oU⟩

/-- a block of four numbers, to pick one of -/
def FourE (B : Nat) (w : World) (k : Nat) : Prop := k ≠ B ∧ k < w.heap.size ∧ ∃ x1 x2 x3 x4 : Int, ∀ i, i < 4 → w.cell? ⟨k, i, none⟩ = some (.int .i64 ([x1, x2, x3, x4].getD i 0))

theorem FourE.new {B k : Nat} {V : World} {x1 x2 x3 x4 : Int} {T : TypeId} (hk : k = V.heap.size) (hB : B < V.heap.size) : FourE B (V.alloc (.cells #[.int .i64 x1, .int .i64 x2, .int .i64 x3, .int .i64 x4] T)) k := by
  subst hk
  exact ⟨by omega, by rw [World.size_alloc]; omega, x1, x2, x3, x4, fun i hi => new_cells V [x1, x2, x3, x4] T i hi⟩

theorem FourE.drew {B k : Nat} {V : World} (h : FourE B V k) : FourE B V.drew k := h

theorem FourE.alloc {B k : Nat} {V : World} {o : Obj} (h : FourE B V k) : FourE B (V.alloc o) k := by
  obtain ⟨h1, h2, x1, x2, x3, x4, h3⟩ := h
  exact ⟨h1, by rw [World.size_alloc]; omega, x1, x2, x3, x4, fun i hi => ((box_b V o).cell (p := ⟨k, i, none⟩) h2).trans (h3 i hi)⟩

theorem FourE.but {B k : Nat} {V W : World} (hb : But B V W) (h : FourE B V k) : FourE B W k := by
  obtain ⟨h1, h2, x1, x2, x3, x4, h3⟩ := h
  exact ⟨h1, Nat.lt_of_lt_of_le h2 hb.size, x1, x2, x3, x4, fun i hi => (hb.cell (p := ⟨k, i, none⟩) h2 h1).trans (h3 i hi)⟩

theorem FourE.pick {B k : Nat} {w : World} {a : Option Addr} {l c : Nat} {z : List Int} (hf : FourE B w k) (h : Ready B a l c z w) :
    Calls Tryz.prog 22 #[.pointer (some ⟨B, 0, none⟩), .slice (some ⟨k, 0, none⟩) 4 4] w fun e w' => ∃ v, e = .returned (.int .i64 v) ∧ But B w w' ∧ Ready B a l c z w' := by
  obtain ⟨h1, h2, x1, x2, x3, x4, h3⟩ := hf
  exact (pick_r B k a l c 4 z [x1, x2, x3, x4] w h h1 rfl (by decide) (by decide) h3).mono fun e w' ⟨v, he, _, ho, hs⟩ => ⟨v, he, ho, hs⟩

theorem size_drew9 (w : World) : w.drew.heap.size = w.heap.size := rfl

set_option maxHeartbeats 4000000 in
theorem drawSK (a : Option Addr) (l c : Nat) (z : List Int) (w : World) (hr : IsRow .u8 w a l c z) : Calls Tryz.prog 5 #[.slice a l c] w (SkPost w) := by
  have HRA := Lib.hid hr.apart
  have HR := Lib.hid hr
  clear hr
  have hq : Below w.heap.size w ((w.alloc (.cells #[.int .i64 0, .slice none 0 0] 26)).alloc (.cells #[.int .i64 0, .slice none 0 0] 28)) := (box_b _ _).trans ((box_b _ _).mono (by simp))
  have HR1 : Hid (IsRow .u8 ((w.alloc (.cells #[.int .i64 0, .slice none 0 0] 26)).alloc (.cells #[.int .i64 0, .slice none 0 0] 28)) a l c z) := Lib.hid (HR.out.below hq HRA.out)
  have hx0 := (Bx.new w [.int .i64 0, .slice none 0 0] 26).on (box_b (w.alloc (.cells #[.int .i64 0, .slice none 0 0] 26)) (.cells #[.int .i64 0, .slice none 0 0] 28))
  have hy0 := Bx.new (w.alloc (.cells #[.int .i64 0, .slice none 0 0] 26)) [.int .i64 0, .slice none 0 0] 28
  have hsz : ((w.alloc (.cells #[.int .i64 0, .slice none 0 0] 26)).alloc (.cells #[.int .i64 0, .slice none 0 0] 28)).heap.size = w.heap.size + 1 + 1 := by rw [World.size_alloc, World.size_alloc]
  rw [World.size_alloc] at hy0
  have HX := Lib.hid hx0
  have HY := Lib.hid hy0
  have HQ := Lib.hid hq
  have HSZ := Lib.hid hsz
  clear hx0 hy0 hq hsz
  go_enter Tryz.func5, Tryz.ntmps5
  go_wp2_with fail
  refine (from_any _ _ _ z _ HR1.out).mono ?_
  rintro e w1 ⟨rfl, hs, hz, hb⟩
  have HS := Lib.hid (ready_of HR1.out hs hb)
  have HX := Lib.hid (HX.out.on hb)
  have HY := Lib.hid (HY.out.on hb)
  have HB := Lib.hid (HQ.out.trans (hb.mono (by rw [HSZ.out]; omega)))
  rw [HSZ.out] at HS hz
  (try rw [HSZ.out])
  obtain ⟨X, hX⟩ : ∃ X, w.heap.size = X := ⟨_, rfl⟩
  rw [hX] at HS HX HY HB HRA hz
  (try rw [hX])
  have HE := Lib.hid hX
  obtain ⟨Y, hY⟩ : ∃ Y, X + 1 = Y := ⟨_, rfl⟩
  rw [hY] at HS HY hz
  (try rw [hY])
  obtain ⟨B, hBX⟩ : ∃ B, Y + 1 = B := ⟨_, rfl⟩
  rw [hBX] at HS hz
  (try rw [hBX])
  have oY : Y = X + 1 := hY.symm
  have OY := Lib.hid oY
  have oB : Y < B := by omega
  have oX : X < B := by omega
  have HZ1 : Hid (w1.heap.size = B + 1) := Lib.hid hz
  clear hb hs hX hBX hY hz HR1 HQ HSZ oY
  go_wp2_with fail
  refine (drawTR B a l c z w1 HS.out).mono ?_
  rintro e w2 ⟨F, ta, tn, tc, xs, r, rfl, hI1, htc, htn, f0, f1, far, ho, hs⟩
  have H0 : Hid (C9 B X Y a l c z ta tn xs ta tn xs w w2) := Lib.hid (by
    have oY := OY.out
    have hz := HZ1.out
    have hf : ∀ x, ta = some x → B < x.block := fun x hx => by have := far x hx; omega
    exact ⟨hs, HB.out.trans (ho.below (by omega) (by omega)), ⟨_, _, HX.out.same (ho.block _ HX.out.lt (by omega))⟩, ⟨_, _, HY.out.same (ho.block _ HY.out.lt (by omega))⟩, hI1, hI1, hf, hf, oY, oB, HE.out, HRA.out⟩)
  have hXY : X ≠ Y := by have := OY.out; omega
  have hYX : Y ≠ X := by have := OY.out; omega
  have hsz : B < w2.heap.size := by have := ho.size; have := HZ1.out; omega
  clear hI1 far ho hs HS HX HY HB HE HZ1 HRA oX
  go_wp2_with fail
  have H9 : Hid (T9 B X Y w2.heap.size w2.heap.size a l c z F ta tn tc xs F ta tn tc xs w (w2.alloc (.cells #[.int .i64 F, .slice ta tn tc] 26))) := Lib.hid (by
    have hbt := Bx.new w2 [.int .i64 F, .slice ta tn tc] 26
    exact ⟨H0.out.call (But.alloc _) (H0.out.ready.alloc _), hbt, hbt, hsz, hsz⟩)
  obtain ⟨T, hT⟩ : ∃ T, w2.heap.size = T := ⟨_, rfl⟩
  rw [hT] at H9
  (try rw [hT])
  generalize (w2.alloc (.cells #[.int .i64 F, .slice ta tn tc] 26)) = v2 at H9 ⊢
  clear hT hsz H0
  have hTX : T ≠ X := by have := H9.out.oT; have := OY.out; omega
  have hTY : T ≠ Y := by have := H9.out.oT; have := OY.out; omega
  have A1 : Hid (∀ W, Hid (T9 B X Y T T a l c z F ta tn tc xs F ta tn tc xs w W) → Calls Tryz.prog 19 #[.pointer (some ⟨B, 0, none⟩), .agg #[.int .i64 F, .slice ta tn tc]] W fun e w' => ∃ v, e = .returned (.int .i64 v) ∧ Hid (T9 B X Y T T a l c z F ta tn tc xs F ta tn tc xs w w')) :=
    Lib.hid (fun W hW => (dage B a l c z F ta tn tc W hW.out.core.ready f0 f1 htn).mono fun e w' ⟨v, he, ho, hs⟩ => ⟨v, he, Lib.hid (hW.out.call ho hs)⟩)
  obtain ⟨k0, k1, _, _, _⟩ := t9S H9.out
  go_wp2_with fail
  with_reducible refine (A1.out _ H9).mono ?_
  rintro e w3 ⟨x, rfl, H9⟩
  clear A1 k0 k1
  go_wp2_with fail
  refine (dsick B a l c z _ H9.out.core.ready).mono ?_
  rintro e w4 ⟨G, ua, un, uc, ys, rfl, hI2, huc, hun, g0, g1, far, ho, hs⟩
  have hz3 := H9.out.core.ready.here
  have hz4 := ho.size
  have H9 : Hid (T9 B X Y T w4.heap.size a l c z F ta tn tc xs G ua un uc ys w (w4.alloc (.cells #[.int .i64 G, .slice ua un uc] 28))) := Lib.hid (((H9.out.call ho hs).alloc _).second (hI2.on (box_b _ _)) (fun y hy => by have := far y hy; omega) (Bx.new w4 [.int .i64 G, .slice ua un uc] 28) (by omega))
  clear hI2 far ho hs hz3
  go_wp2_with fail
  obtain ⟨U, hU⟩ : ∃ U, w4.heap.size = U := ⟨_, rfl⟩
  rw [hU] at H9 hz4
  (try rw [hU])
  generalize (w4.alloc (.cells #[.int .i64 G, .slice ua un uc] 28)) = v4 at H9 ⊢
  clear hU hz4
  have hUX : U ≠ X := by have := H9.out.oU; have := OY.out; omega
  have hUY : U ≠ Y := by have := H9.out.oU; have := OY.out; omega
  have N1 : Hid (∀ W n, Hid (T9 B X Y T U a l c z F ta tn tc xs G ua un uc ys w W) → Calls Tryz.prog 21 #[.pointer (some ⟨B, 0, none⟩), .int .i64 n] W fun e w' => ∃ v, e = .returned (.int .i64 v) ∧ Hid (T9 B X Y T U a l c z F ta tn tc xs G ua un uc ys w w')) :=
    Lib.hid (fun W n hW => (next_r B a l c z n W hW.out.core.ready).mono fun e w' ⟨v, he, hd, ho, hs⟩ => ⟨v, he, Lib.hid (hW.out.call ho hs)⟩)
  have PG : Hid (∀ w8 k, Hid (T9 B X Y T U a l c z F ta tn tc xs G ua un uc ys w w8) → FourE B w8 k → Calls Tryz.prog 22 #[.pointer (some ⟨B, 0, none⟩), .slice (some ⟨k, 0, none⟩) 4 4] w8 fun e w' => ∃ v, e = .returned (.int .i64 v) ∧ Hid (T9 B X Y T U a l c z F ta tn tc xs G ua un uc ys w w') ∧ Hid (But B w8 w')) :=
    Lib.hid (fun w8 k hW hf => (hf.pick hW.out.core.ready).mono fun e w' ⟨v, he, ho, hs⟩ => ⟨v, he, Lib.hid (hW.out.call ho hs), Lib.hid ho⟩)
  with_reducible refine (N1.out _ 16 H9).mono ?_
  rintro e w5 ⟨rr, rfl, H9⟩
  obtain ⟨k0, k1, k2, k3, _⟩ := t9S H9.out
  have hBW := H9.out.core.ready.here
  have mk1 : Hid (0 = 0) := Lib.hid rfl
  by_cases hr : rr = 0
  · subst hr
    go_wp2_with fail
    go_region_held3 (fun w' => w'.cell? ⟨T, 0, none⟩ = some (.int .i64 F) ∧ w'.cell? ⟨T, 1, none⟩ = some (.slice ta tn tc) ∧ w'.cell? ⟨U, 0, none⟩ = some (.int .i64 G) ∧ w'.cell? ⟨U, 1, none⟩ = some (.slice ua un uc) ∧ Hid (T9 B X Y T U a l c z F ta tn tc xs G ua un uc ys w w'))
      (first
      | (go_split_ands; exact t9S (Hid.out (by with_reducible assumption)))
      | (go_split_ands; exact t9S (T9.drew (Hid.out (by with_reducible assumption))))
      | (go_split_ands; exact t9S (T9.alloc (Hid.out (by with_reducible assumption)) _))
      | (go_split_ands; exact t9S (T9.drew (T9.alloc (Hid.out (by with_reducible assumption)) _)))
      | (go_split_ands; exact t9S (T9.put (Hid.out (by with_reducible assumption)) (.inl rfl) _ _))
      | (go_split_ands; exact t9S (T9.put (Hid.out (by with_reducible assumption)) (.inr rfl) _ _))
      | fail)
      (first
        | (go_split_ands; go_at_call 22; clear mk1; ((with_reducible refine (PG.out _ _ (by with_reducible assumption) ?_).mono ?_)); (· (repeat (first | (with_reducible apply FourE.new; (· simp only [World.size_alloc, size_drew9]); (· ((try simp only [World.size_alloc, size_drew9]); omega))) | (with_reducible apply FourE.drew) | (with_reducible apply FourE.alloc)))); rintro e w' ⟨va, rfl, hA8, hB8⟩; have hBa := hA8.out.core.ready.here)
        | (go_split_ands; go_at_call 22; ((with_reducible refine (PG.out _ _ (by with_reducible assumption) ?_).mono ?_)); (· (repeat (first | (with_reducible apply FourE.new; (· simp only [World.size_alloc, size_drew9]); (· ((try simp only [World.size_alloc, size_drew9]); omega))) | (with_reducible apply FourE.drew) | (with_reducible apply FourE.alloc) | (with_reducible refine FourE.but hB8.out ?_)))); rintro e w' ⟨vb, rfl, hA9, hB9⟩; obtain ⟨⟨_, _, r0, r1⟩, ⟨_, _, s0, s1⟩, m0, m1, m2, m3⟩ := hA9.out.core.cells; have HP := hA9)
        | fail)
    all_goals
      go_split_ands
      obtain ⟨e0, e1, e2, e3⟩ := HP.out.core.read (.int .i64 F) (.slice ta tn tc) (.int .i64 G) (.slice ua un uc)
      go_wp2_with fail
      exact bodyPost_ret (v := .tuple #[.agg #[.int .i64 F, .slice ta tn tc], .agg #[.int .i64 G, .slice ua un uc], .int .i64 r, .int .i64 x, .int .i64 va, .int .i64 vb]) (by simp [results, Tryz.results5, go_sem, e0, e1, e2, e3]) rfl ⟨F, ta, tn, tc, xs, G, ua, un, uc, ys, r, x, va, vb, rfl, HP.out.core.fin _ _ _ _, htc, huc⟩
  · have hrb : (rr == 0) = false := by simpa using hr
    go_wp2_with fail
    go_region_held3 (fun w' => w'.cell? ⟨T, 0, none⟩ = some (.int .i64 F) ∧ w'.cell? ⟨T, 1, none⟩ = some (.slice ta tn tc) ∧ w'.cell? ⟨U, 0, none⟩ = some (.int .i64 G) ∧ w'.cell? ⟨U, 1, none⟩ = some (.slice ua un uc) ∧ Hid (T9 B X Y T U a l c z F ta tn tc xs G ua un uc ys w w'))
      (first
      | (go_split_ands; exact t9S (Hid.out (by with_reducible assumption)))
      | (go_split_ands; exact t9S (T9.drew (Hid.out (by with_reducible assumption))))
      | (go_split_ands; exact t9S (T9.alloc (Hid.out (by with_reducible assumption)) _))
      | (go_split_ands; exact t9S (T9.drew (T9.alloc (Hid.out (by with_reducible assumption)) _)))
      | (go_split_ands; exact t9S (T9.put (Hid.out (by with_reducible assumption)) (.inl rfl) _ _))
      | (go_split_ands; exact t9S (T9.put (Hid.out (by with_reducible assumption)) (.inr rfl) _ _))
      | fail)
      (first
        | (go_split_ands; go_at_call 21; clear mk1; ((with_reducible refine (N1.out _ _ (by with_reducible assumption)).mono ?_)); rintro e w' ⟨va, rfl, hA8⟩)
        | (go_split_ands; go_at_call 21; ((with_reducible refine (N1.out _ _ (by with_reducible assumption)).mono ?_)); rintro e w' ⟨vb, rfl, hA9⟩; obtain ⟨⟨_, _, r0, r1⟩, ⟨_, _, s0, s1⟩, m0, m1, m2, m3⟩ := hA9.out.core.cells; have HP := hA9)
        | fail)
    all_goals
      go_split_ands
      obtain ⟨e0, e1, e2, e3⟩ := HP.out.core.read (.int .i64 F) (.slice ta tn tc) (.int .i64 G) (.slice ua un uc)
      go_wp2_with fail
      exact bodyPost_ret (v := .tuple #[.agg #[.int .i64 F, .slice ta tn tc], .agg #[.int .i64 G, .slice ua un uc], .int .i64 r, .int .i64 x, .int .i64 (IntKind.i64.wrap (1 + va)), .int .i64 (IntKind.i64.wrap (1 + vb))]) (by simp [results, Tryz.results5, go_sem, e0, e1, e2, e3]) rfl ⟨F, ta, tn, tc, xs, G, ua, un, uc, ys, r, x, (IntKind.i64.wrap (1 + va)), (IntKind.i64.wrap (1 + vb)), rfl, HP.out.core.fin _ _ _ _, htc, huc⟩

end Go.Proofs.YtpdmbmfjeankbaaGreatDoor
