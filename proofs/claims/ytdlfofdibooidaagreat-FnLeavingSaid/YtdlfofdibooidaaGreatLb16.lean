/- Merged: TabU, DrCA, DrAs. -/
import Derived.Test.YtdlfofdibooidaaGreatLb3
import Derived.Test.YtdlfofdibooidaaGreatLb15

/- The model's draw of an age of a life table, and of what SurvivalOf takes. | The model's draw of what SurvivalOf takes. -/
namespace Go.Proofs.YtdlfofdibooidaaGreat
open Go.ChangeShapes Go.WideShapes Go.ChangeAt Go.RowKit
set_option linter.unusedVariables false

/-- in the midst of the draw of an age: T is the table's box -/
structure AgS (B T : Nat) (a : Option Addr) (l c : Nat) (z : List Int) (F : Int) (ta : Option Addr) (tn tc : Nat) (w w' : World) : Prop where
  ready : Ready B a l c z w'
  but : But B w w'
  c0 : w'.cell? ⟨T, 0, none⟩ = some (.int .i64 F)
  c1 : w'.cell? ⟨T, 1, none⟩ = some (.slice ta tn tc)
  ne : T ≠ B

theorem AgS.call {B T : Nat} {a : Option Addr} {l c : Nat} {z : List Int} {F : Int} {ta : Option Addr} {tn tc : Nat} {w w1 w2 : World} (h : AgS B T a l c z F ta tn tc w w1) (ho : But B w1 w2) (hs : Ready B a l c z w2) : AgS B T a l c z F ta tn tc w w2 :=
  ⟨hs, h.but.trans ho, (ho.cell (p := ⟨T, 0, none⟩) (block_lt h.c0) h.ne).trans h.c0, (ho.cell (p := ⟨T, 1, none⟩) (block_lt h.c1) h.ne).trans h.c1, h.ne⟩

theorem AgS.below {B T : Nat} {a : Option Addr} {l c : Nat} {z : List Int} {F : Int} {ta : Option Addr} {tn tc : Nat} {w w1 w2 : World} (h : AgS B T a l c z F ta tn tc w w1) (hb : Below w1.heap.size w1 w2) : AgS B T a l c z F ta tn tc w w2 :=
  h.call ⟨hb.os, hb.tape, hb.output, hb.size, fun k hk _ => hb.block k hk⟩ (h.ready.below hb h.ready.here)

theorem AgS.alloc {B T : Nat} {a : Option Addr} {l c : Nat} {z : List Int} {F : Int} {ta : Option Addr} {tn tc : Nat} {w w1 : World} (h : AgS B T a l c z F ta tn tc w w1) (o : Obj) : AgS B T a l c z F ta tn tc w (w1.alloc o) := h.call (But.alloc _) (h.ready.alloc _)

theorem AgS.drew {B T : Nat} {a : Option Addr} {l c : Nat} {z : List Int} {F : Int} {ta : Option Addr} {tn tc : Nat} {w w1 : World} (h : AgS B T a l c z F ta tn tc w w1) : AgS B T a l c z F ta tn tc w w1.drew := h.call (But.refl _ _).drew h.ready.drew

theorem AgS.three {B T : Nat} {a : Option Addr} {l c : Nat} {z : List Int} {F : Int} {ta : Option Addr} {tn tc : Nat} {w w1 : World} (h : Hid (AgS B T a l c z F ta tn tc w w1)) : w1.cell? ⟨T, 0, none⟩ = some (.int .i64 F) ∧ w1.cell? ⟨T, 1, none⟩ = some (.slice ta tn tc) ∧ Hid (AgS B T a l c z F ta tn tc w w1) := ⟨h.out.c0, h.out.c1, h⟩

def AgePost (B : Nat) (a : Option Addr) (l c : Nat) (z : List Int) (w : World) (e : Ending) (w' : World) : Prop := ∃ x, e = .returned (.int .i64 x) ∧ But B w w' ∧ Ready B a l c z w'

theorem AgS.fin {B T : Nat} {a : Option Addr} {l c : Nat} {z : List Int} {F : Int} {ta : Option Addr} {tn tc : Nat} {w w1 : World} {x : Int} (h : Hid (AgS B T a l c z F ta tn tc w w1)) : AgePost B a l c z w (.returned (.int .i64 x)) w1 := ⟨x, rfl, h.out.but, h.out.ready⟩

theorem end_dr (f : Int) (a : Option Addr) (l c : Nat) (w : World) (hl : l ≤ 1000000) (h0 : -1 ≤ f) (h1 : f ≤ 1000) :
    Calls Tryz.prog 73 #[.agg #[.int .i64 f, .slice a l c]] w fun e w' => e = .returned (.int .i64 (f + l - 1)) ∧ Below w.heap.size w w' := by
  go_enter Tryz.func73, Tryz.ntmps73
  go_wp2_with fail
  go_ret
  exact ⟨rfl, box_b _ _⟩

theorem pick5D (B : Nat) (x1 x2 x3 x4 x5 : Int) (T : TypeId) (w : World) {a : Option Addr} {l c : Nat} {z : List Int} (h : Ready B a l c z w) :
    Calls Tryz.prog 77 #[.pointer (some ⟨B, 0, none⟩), .slice (some ⟨w.heap.size, 0, none⟩) 5 5] (w.alloc (.cells #[.int .i64 x1, .int .i64 x2, .int .i64 x3, .int .i64 x4, .int .i64 x5] T)).drew (NumPost B a l c z (· ∈ [x1, x2, x3, x4, x5]) w) := by
  refine (pick_r B w.heap.size a l c 5 z [x1, x2, x3, x4, x5] _ ((h.alloc _).drew) (by have := h.here; omega) rfl (by decide) (by decide) (fun i hi => new_cells w [x1, x2, x3, x4, x5] T i hi)).mono ?_
  rintro e w' ⟨v, he, hd, ho, hs⟩
  exact ⟨v, he, hd, ((But.alloc _).drew).trans ho, hs⟩

set_option maxRecDepth 100000 in
set_option maxHeartbeats 1000000 in
theorem dage (B : Nat) (a : Option Addr) (l c : Nat) (z : List Int) (F : Int) (ta : Option Addr) (tn tc : Nat) (w : World) (h : Ready B a l c z w) (f0 : -1 ≤ F) (f1 : F ≤ 101) (hn : tn ≤ 4096) :
    Calls Tryz.prog 111 #[.pointer (some ⟨B, 0, none⟩), .agg #[.int .i64 F, .slice ta tn tc]] w (AgePost B a l c z w) := by
  have hB := h.here
  have HS := Lib.hid h
  clear h
  go_enter Tryz.func111, Tryz.ntmps111
  go_wp2_with fail
  refine (next_r _ _ _ _ _ _ _ (HS.out.alloc _)).mono ?_
  rintro e w1 ⟨r, rfl, hd, ho, hs⟩
  have hA0 : AgS B w.heap.size a l c z F ta tn tc w (w.alloc (.cells #[.int .i64 F, .slice ta tn tc] 26)) := ⟨HS.out.alloc _, But.alloc _, by go_simp, by go_simp, by omega⟩
  have HA := Lib.hid (hA0.call ho hs)
  clear hd ho hs hA0
  obtain ⟨T, hT⟩ : ∃ T, w.heap.size = T := ⟨_, rfl⟩
  rw [hT] at HA
  (try rw [hT])
  clear hT
  have k0 := HA.out.c0
  have k1 := HA.out.c1
  have E1 : Hid (∀ W, Hid (AgS B T a l c z F ta tn tc w W) → Calls Tryz.prog 73 #[.agg #[.int .i64 F, .slice ta tn tc]] W fun e w' => e = .returned (.int .i64 (F + tn - 1)) ∧ Hid (AgS B T a l c z F ta tn tc w w')) :=
    Lib.hid (fun W hW => (end_dr F ta tn tc W (by omega) f0 (by omega)).mono fun e w' ⟨he, hb⟩ => ⟨he, Lib.hid (hW.out.below hb)⟩)
  have P1 : Hid (∀ W x1 x2 x3 x4 x5 T', Hid (AgS B T a l c z F ta tn tc w W) → Calls Tryz.prog 77 #[.pointer (some ⟨B, 0, none⟩), .slice (some ⟨W.heap.size, 0, none⟩) 5 5] (W.alloc (.cells #[.int .i64 x1, .int .i64 x2, .int .i64 x3, .int .i64 x4, .int .i64 x5] T')) fun e w' => ∃ v, e = .returned (.int .i64 v) ∧ Hid (AgS B T a l c z F ta tn tc w w')) :=
    Lib.hid (fun W x1 x2 x3 x4 x5 T' hW => (pick5 B x1 x2 x3 x4 x5 T' W hW.out.ready).mono fun e w' ⟨v, he, _, ho, hs⟩ => ⟨v, he, Lib.hid (hW.out.call ho hs)⟩)
  have P2 : Hid (∀ W x1 x2 x3 x4 x5 T', Hid (AgS B T a l c z F ta tn tc w W) → Calls Tryz.prog 77 #[.pointer (some ⟨B, 0, none⟩), .slice (some ⟨W.heap.size, 0, none⟩) 5 5] (W.alloc (.cells #[.int .i64 x1, .int .i64 x2, .int .i64 x3, .int .i64 x4, .int .i64 x5] T')).drew fun e w' => ∃ v, e = .returned (.int .i64 v) ∧ Hid (AgS B T a l c z F ta tn tc w w')) :=
    Lib.hid (fun W x1 x2 x3 x4 x5 T' hW => (pick5D B x1 x2 x3 x4 x5 T' W hW.out.ready).mono fun e w' ⟨v, he, _, ho, hs⟩ => ⟨v, he, Lib.hid (hW.out.call ho hs)⟩)
  have N1 : Hid (∀ W, Hid (AgS B T a l c z F ta tn tc w W) → Calls Tryz.prog 58 #[.pointer (some ⟨B, 0, none⟩), .int .i64 tn] W fun e w' => ∃ v, e = .returned (.int .i64 v) ∧ (0 ≤ v ∧ v ≤ 4096) ∧ Hid (AgS B T a l c z F ta tn tc w w')) :=
    Lib.hid (fun W hW => (next_r B a l c z tn W hW.out.ready).mono fun e w' ⟨v, he, hd, ho, hs⟩ => ⟨v, he, by
      by_cases h1 : (1 : Int) < tn
      · have := hd.1 h1; omega
      · have := hd.2 (by omega); omega, Lib.hid (hW.out.call ho hs)⟩)
  obtain ⟨En, hEn⟩ : ∃ En, F + (tn : Int) - 1 = En := ⟨_, rfl⟩
  have en0 : -2 ≤ En ∧ En ≤ 10000 := by omega
  rw [hEn] at E1
  have q1 : IntKind.i64.wrap (F - 1) = F - 1 := IntWalk.i64_in _ (by omega)
  have q2 : IntKind.i64.wrap (En + 1) = En + 1 := IntWalk.i64_in _ (by omega)
  clear hEn
  by_cases hr : r = 0
  · subst hr
    go_wp2_with fail
    go_region_held3 (fun w' => w'.cell? ⟨T, 0, none⟩ = some (.int .i64 F) ∧ w'.cell? ⟨T, 1, none⟩ = some (.slice ta tn tc) ∧ Hid (AgS B T a l c z F ta tn tc w w'))
      (first
        | (go_split_ands; exact AgS.three (by assumption))
        | (go_split_ands; exact AgS.three (Lib.hid (AgS.drew (Hid.out (by assumption)))))
        | (go_split_ands; exact AgS.three (Lib.hid (AgS.alloc (Hid.out (by assumption)) _))))
      (first
        | (go_split_ands; go_at_call 73; ((with_reducible refine (E1.out _ (by assumption)).mono ?_); rintro e w' ⟨rfl, hA8⟩))
        | (go_split_ands; go_at_call 77; ((first | (with_reducible refine (P1.out _ _ _ _ _ _ _ (by assumption)).mono ?_) | (with_reducible refine (P2.out _ _ _ _ _ _ _ (by assumption)).mono ?_)); rintro e w' ⟨v, rfl, hA8⟩)))
    all_goals
      go_split_ands
      go_wp2_with fail
      go_ret
      exact AgS.fin (by assumption)
  · have hrb : (r == 0) = false := by simpa using hr
    go_wp2_with fail
    go_region_held3 (fun w' => w'.cell? ⟨T, 0, none⟩ = some (.int .i64 F) ∧ w'.cell? ⟨T, 1, none⟩ = some (.slice ta tn tc) ∧ Hid (AgS B T a l c z F ta tn tc w w'))
      (first
        | (go_split_ands; exact AgS.three (by assumption))
        | (go_split_ands; exact AgS.three (Lib.hid (AgS.drew (Hid.out (by assumption))))))
      (first
        | (go_split_ands; go_at_call 58; ((with_reducible refine (N1.out _ (by assumption)).mono ?_); rintro e w' ⟨v, rfl, ⟨hv0, hv1⟩, hA8⟩; have q3 : IntKind.i64.wrap (F + v) = F + v := IntWalk.i64_in _ (by omega))))
    all_goals
      go_split_ands
      go_wp2_with fail
      go_ret
      exact AgS.fin (by assumption)

/-- in the midst of it: X the result's cells, B the source, T the table's box -/
structure SvS (B X T : Nat) (a : Option Addr) (l c : Nat) (z : List Int) (F : Int) (ta : Option Addr) (tn tc : Nat) (xs : List Int) (w w' : World) : Prop where
  ready : Ready B a l c z w'
  low : Below X w w'
  c0 : w'.cell? ⟨T, 0, none⟩ = some (.int .i64 F)
  c1 : w'.cell? ⟨T, 1, none⟩ = some (.slice ta tn tc)
  r0 : ∃ v, w'.cell? ⟨X, 0, none⟩ = some v
  r1 : ∃ v, w'.cell? ⟨X, 1, none⟩ = some v
  h0 : w'.frozen? ⟨X, 0, none⟩ = false
  h1 : w'.frozen? ⟨X, 1, none⟩ = false
  ints : Ints w' ta tn xs
  far : ∀ x, ta = some x → B < x.block
  eX : w.heap.size = X
  oB : X < B
  oT : B < T
  ap : Apart a z X

theorem SvS.call {B X T : Nat} {a : Option Addr} {l c : Nat} {z : List Int} {F : Int} {ta : Option Addr} {tn tc : Nat} {xs : List Int} {w w1 w2 : World} (h : SvS B X T a l c z F ta tn tc xs w w1) (ho : But B w1 w2) (hs : Ready B a l c z w2) : SvS B X T a l c z F ta tn tc xs w w2 := by
  have oB := h.oB
  have oT := h.oT
  obtain ⟨u0, g0⟩ := h.r0
  obtain ⟨u1, g1⟩ := h.r1
  have hX : X < w1.heap.size := block_lt g0
  exact ⟨hs, h.low.trans (ho.below (by omega) (by omega)), (ho.cell (p := ⟨T, 0, none⟩) (block_lt h.c0) (by show T ≠ B; omega)).trans h.c0, (ho.cell (p := ⟨T, 1, none⟩) (block_lt h.c1) (by show T ≠ B; omega)).trans h.c1,
    ⟨u0, (ho.cell (p := ⟨X, 0, none⟩) hX (by show X ≠ B; omega)).trans g0⟩, ⟨u1, (ho.cell (p := ⟨X, 1, none⟩) hX (by show X ≠ B; omega)).trans g1⟩, (ho.frozen (p := ⟨X, 0, none⟩) hX (by show X ≠ B; omega)).trans h.h0, (ho.frozen (p := ⟨X, 1, none⟩) hX (by show X ≠ B; omega)).trans h.h1,
    h.ints.butT ho (fun x hx => by have := h.far x hx; omega), h.far, h.eX, oB, oT, h.ap⟩

theorem SvS.alloc {B X T : Nat} {a : Option Addr} {l c : Nat} {z : List Int} {F : Int} {ta : Option Addr} {tn tc : Nat} {xs : List Int} {w w1 : World} (h : SvS B X T a l c z F ta tn tc xs w w1) (o : Obj) : SvS B X T a l c z F ta tn tc xs w (w1.alloc o) := h.call (But.alloc _) (h.ready.alloc _)

theorem SvS.drew {B X T : Nat} {a : Option Addr} {l c : Nat} {z : List Int} {F : Int} {ta : Option Addr} {tn tc : Nat} {xs : List Int} {w w1 : World} (h : SvS B X T a l c z F ta tn tc xs w w1) : SvS B X T a l c z F ta tn tc xs w w1.drew := h.call (But.refl _ _).drew h.ready.drew

/-- the result is written -/
theorem SvS.put {B X T : Nat} {a : Option Addr} {l c : Nat} {z : List Int} {F : Int} {ta : Option Addr} {tn tc : Nat} {xs : List Int} {w w1 : World} (h : SvS B X T a l c z F ta tn tc xs w w1) (u v : Value) : SvS B X T a l c z F ta tn tc xs w ((w1.setCell ⟨X, 0, none⟩ u).setCell ⟨X, 1, none⟩ v) ∧
    ((w1.setCell ⟨X, 0, none⟩ u).setCell ⟨X, 1, none⟩ v).cell? ⟨X, 0, none⟩ = some u ∧ ((w1.setCell ⟨X, 0, none⟩ u).setCell ⟨X, 1, none⟩ v).cell? ⟨X, 1, none⟩ = some v := by
  have oB := h.oB
  have oT := h.oT
  obtain ⟨u0, g0⟩ := h.r0
  obtain ⟨u1, g1⟩ := h.r1
  have n1 : (⟨X, 0, none⟩ : Addr) ≠ ⟨X, 1, none⟩ := fun e => by injection e; omega
  have e0 : ((w1.setCell ⟨X, 0, none⟩ u).setCell ⟨X, 1, none⟩ v).cell? ⟨X, 0, none⟩ = some u := by rw [far_set n1]; exact World.cell?_setCell_same' _ _ _ (by rw [g0]; rfl)
  have e1 : ((w1.setCell ⟨X, 0, none⟩ u).setCell ⟨X, 1, none⟩ v).cell? ⟨X, 1, none⟩ = some v := World.cell?_setCell_same' _ _ _ (by rw [far_set n1.symm, g1]; rfl)
  have ho : Only X w1 ((w1.setCell ⟨X, 0, none⟩ u).setCell ⟨X, 1, none⟩ v) := ((Only.refl _ _).setCell (p := ⟨X, 0, none⟩) rfl _).setCell (p := ⟨X, 1, none⟩) rfl _
  refine ⟨⟨?_, h.low.trans (ho.below (Nat.le_refl _)), (ho.cell (p := ⟨T, 0, none⟩) (by show T ≠ X; omega)).trans h.c0, (ho.cell (p := ⟨T, 1, none⟩) (by show T ≠ X; omega)).trans h.c1, ⟨_, e0⟩, ⟨_, e1⟩, ?_, ?_, h.ints.onlyT ho (fun x hx => by have := h.far x hx; omega), h.far, h.eX, oB, oT, h.ap⟩, e0, e1⟩
  · obtain ⟨⟨t, x, S⟩, r, p⟩ := h.ready
    have hne : B ≠ X := by omega
    exact ⟨⟨t, x, by rw [ho.size]; exact S.here, (ho.cell (p := ⟨B, 0, none⟩) hne).trans S.code, (ho.cell (p := ⟨B, 1, none⟩) hne).trans S.att, (ho.cell (p := ⟨B, 2, none⟩) hne).trans S.seed,
      (ho.frozen (p := ⟨B, 0, none⟩) hne).trans S.free0, (ho.frozen (p := ⟨B, 1, none⟩) hne).trans S.free1, (ho.frozen (p := ⟨B, 2, none⟩) hne).trans S.free2, S.t0, S.tl, S.x0, S.xl⟩, r.below (ho.below (Nat.le_refl X)) h.ap, p⟩
  · rw [World.frozen?_setCell, World.frozen?_setCell]; exact h.h0
  · rw [World.frozen?_setCell, World.frozen?_setCell]; exact h.h1

theorem SvS.three {B X T : Nat} {a : Option Addr} {l c : Nat} {z : List Int} {F : Int} {ta : Option Addr} {tn tc : Nat} {xs : List Int} {w w1 : World} (h : Hid (SvS B X T a l c z F ta tn tc xs w w1)) : w1.cell? ⟨T, 0, none⟩ = some (.int .i64 F) ∧ w1.cell? ⟨T, 1, none⟩ = some (.slice ta tn tc) ∧ Hid (SvS B X T a l c z F ta tn tc xs w w1) := ⟨h.out.c0, h.out.c1, h⟩

def SvPost (w : World) (e : Ending) (w' : World) : Prop :=
  ∃ F ta tn tc xs x y, e = .returned (.tuple #[.agg #[.int .i64 F, .slice ta tn tc], .int .i64 x, .int .i64 y]) ∧ Ints w' ta tn xs ∧ tn ≤ tc ∧ tn ≤ 4096 ∧ Below w.heap.size w w'

theorem SvS.fin {B X T : Nat} {a : Option Addr} {l c : Nat} {z : List Int} {F : Int} {ta : Option Addr} {tn tc : Nat} {xs : List Int} {w w1 : World} {x y : Int} (h : Hid (SvS B X T a l c z F ta tn tc xs w w1)) (hn : tn ≤ tc) (hm : tn ≤ 4096) :
    SvPost w (.returned (.tuple #[.agg #[.int .i64 F, .slice ta tn tc], .int .i64 x, .int .i64 y])) w1 :=
  ⟨F, ta, tn, tc, xs, x, y, rfl, h.out.ints, hn, hm, by rw [h.out.eX]; exact h.out.low⟩

end Go.Proofs.YtdlfofdibooidaaGreat

/- The model's draws of what the columns take: a table, a rate, an age. | The model's draws of what chapter 6 takes: a table, a rate, an age, an amount or a price, a number of years. (Written by wip/gen/dran.py.) -/
namespace Go.Proofs.YtdlfofdibooidaaGreat
open Go.ChangeShapes Go.WideShapes Go.ChangeAt Go.RowKit
set_option linter.unusedVariables false

/-- a drawn table and a rate -/
def DrawnR (B : Nat) (a : Option Addr) (l c : Nat) (z : List Int) (w : World) (e : Ending) (w' : World) : Prop :=
  ∃ F ta tn tc xs r, e = .returned (.tuple #[.agg #[.int .i64 F, .slice ta tn tc], .int .i64 r]) ∧ Ints w' ta tn xs ∧ tn ≤ tc ∧ tn ≤ 4096 ∧ -1 ≤ F ∧ F ≤ 101 ∧ (∀ x, ta = some x → w.heap.size ≤ x.block) ∧ But B w w' ∧ Ready B a l c z w'

theorem putX (w1 : World) (X : Nat) (u v : Value) (g0 : ∃ v, w1.cell? ⟨X, 0, none⟩ = some v) (g1 : ∃ v, w1.cell? ⟨X, 1, none⟩ = some v) :
    ((w1.setCell ⟨X, 0, none⟩ u).setCell ⟨X, 1, none⟩ v).cell? ⟨X, 0, none⟩ = some u ∧ ((w1.setCell ⟨X, 0, none⟩ u).setCell ⟨X, 1, none⟩ v).cell? ⟨X, 1, none⟩ = some v ∧ Only X w1 ((w1.setCell ⟨X, 0, none⟩ u).setCell ⟨X, 1, none⟩ v) := by
  obtain ⟨v0, g0⟩ := g0
  obtain ⟨v1, g1⟩ := g1
  have n1 : (⟨X, 0, none⟩ : Addr) ≠ ⟨X, 1, none⟩ := fun e => by injection e; omega
  exact ⟨by rw [far_set n1]; exact World.cell?_setCell_same' _ _ _ (by rw [g0]; rfl), World.cell?_setCell_same' _ _ _ (by rw [far_set n1.symm, g1]; rfl), ((Only.refl _ _).setCell (p := ⟨X, 0, none⟩) rfl _).setCell (p := ⟨X, 1, none⟩) rfl _⟩

set_option maxRecDepth 100000 in
set_option maxHeartbeats 1000000 in
theorem drawTR (B : Nat) (a : Option Addr) (l c : Nat) (z : List Int) (w : World) (h : Ready B a l c z w) : Calls Tryz.prog 110 #[.pointer (some ⟨B, 0, none⟩)] w (DrawnR B a l c z w) := by
  have hB := h.here
  have HS := Lib.hid (h.alloc (.cells #[.int .i64 0, .slice none 0 0] 26))
  clear h
  go_enter Tryz.func110, Tryz.ntmps110
  go_wp2_with fail
  refine (dtable B a l c z _ HS.out).mono ?_
  rintro e w2 ⟨F, ta, tn, tc, xs, rfl, hI, htc, htn, f0, f1, far, ho, hs⟩
  have hX : w.heap.size < (w.alloc (.cells #[.int .i64 0, .slice none 0 0] 26)).heap.size := by simp
  have r0 : w2.cell? ⟨w.heap.size, 0, none⟩ = some (.int .i64 0) := (ho.cell (p := ⟨w.heap.size, 0, none⟩) hX (by show w.heap.size ≠ B; omega)).trans (by go_simp)
  have r1 : w2.cell? ⟨w.heap.size, 1, none⟩ = some (.slice none 0 0) := (ho.cell (p := ⟨w.heap.size, 1, none⟩) hX (by show w.heap.size ≠ B; omega)).trans (by go_simp)
  have h0 : w2.frozen? ⟨w.heap.size, 0, none⟩ = false := (ho.frozen (p := ⟨w.heap.size, 0, none⟩) hX (by show w.heap.size ≠ B; omega)).trans (by go_simp)
  have h1 : w2.frozen? ⟨w.heap.size, 1, none⟩ = false := (ho.frozen (p := ⟨w.heap.size, 1, none⟩) hX (by show w.heap.size ≠ B; omega)).trans (by go_simp)
  have HI := Lib.hid hI
  have HF : Hid (∀ x, ta = some x → w.heap.size < x.block) := Lib.hid (fun x hx => by have := far x hx; rw [World.size_alloc] at this; omega)
  have HO := Lib.hid ((But.alloc (B := B) (w := w) (.cells #[.int .i64 0, .slice none 0 0] 26)).trans ho)
  have HS2 := Lib.hid hs
  clear hI far ho hs HS hX
  go_wp2_with fail
  refine (rate_r B a l c z _ HS2.out).mono ?_
  rintro e w3 ⟨r, rfl, hd, ho, hs⟩
  have hX2 : w.heap.size < w2.heap.size := block_lt r0
  have r0 := (ho.cell (p := ⟨w.heap.size, 0, none⟩) hX2 (by show w.heap.size ≠ B; omega)).trans r0
  have r1 := (ho.cell (p := ⟨w.heap.size, 1, none⟩) hX2 (by show w.heap.size ≠ B; omega)).trans r1
  have h0 := (ho.frozen (p := ⟨w.heap.size, 0, none⟩) hX2 (by show w.heap.size ≠ B; omega)).trans h0
  have h1 := (ho.frozen (p := ⟨w.heap.size, 1, none⟩) hX2 (by show w.heap.size ≠ B; omega)).trans h1
  have HI3 := Lib.hid (HI.out.butT ho (fun x hx => by have := HF.out x hx; omega))
  have HO3 := Lib.hid (HO.out.trans ho)
  have HS3 := Lib.hid hs
  obtain ⟨e0, e1, hox⟩ := putX w3 w.heap.size (.int .i64 F) (.slice ta tn tc) ⟨_, r0⟩ ⟨_, r1⟩
  have HX := Lib.hid hox
  clear ho hs hd hox HI HO HS2 hX2
  go_wp2_with fail
  refine bodyPost_ret (v := .tuple #[.agg #[.int .i64 F, .slice ta tn tc], .int .i64 r]) (by simp [results, Tryz.results110, go_sem, e0, e1]) rfl ?_
  refine ⟨F, ta, tn, tc, xs, r, rfl, HI3.out.onlyT HX.out (fun x hx => by have := HF.out x hx; omega), htc, htn, f0, f1, fun x hx => by have := HF.out x hx; omega, ?_, HS3.out.below (HX.out.below (Nat.le_refl _)) hB⟩
  have hh := HX.out
  exact ⟨hh.os.trans HO3.out.os, hh.tape.trans HO3.out.tape, hh.output.trans HO3.out.output, by rw [hh.size]; exact HO3.out.size, fun k hk hk2 => (hh.block k (by omega)).trans (HO3.out.block k hk hk2)⟩

def CaPost (w : World) (e : Ending) (w' : World) : Prop :=
  ∃ F ta tn tc xs r x, e = .returned (.tuple #[.agg #[.int .i64 F, .slice ta tn tc], .int .i64 r, .int .i64 x]) ∧ Ints w' ta tn xs ∧ tn ≤ tc ∧ tn ≤ 4096 ∧ Below w.heap.size w w'

theorem SvS.finCA {B X T : Nat} {a : Option Addr} {l c : Nat} {z : List Int} {F : Int} {ta : Option Addr} {tn tc : Nat} {xs : List Int} {w w1 : World} {r x : Int} (h : Hid (SvS B X T a l c z F ta tn tc xs w w1)) (hn : tn ≤ tc) (hm : tn ≤ 4096) :
    CaPost w (.returned (.tuple #[.agg #[.int .i64 F, .slice ta tn tc], .int .i64 r, .int .i64 x])) w1 :=
  ⟨F, ta, tn, tc, xs, r, x, rfl, h.out.ints, hn, hm, by rw [h.out.eX]; exact h.out.low⟩

def LfPost (w : World) (e : Ending) (w' : World) : Prop :=
  ∃ F ta tn tc xs r v0 v1, e = .returned (.tuple #[.agg #[.int .i64 F, .slice ta tn tc], .int .i64 r, .int .i64 v0, .int .i64 v1]) ∧ Ints w' ta tn xs ∧ tn ≤ tc ∧ tn ≤ 4096 ∧ Below w.heap.size w w'

theorem SvS.finLF {B X T : Nat} {a : Option Addr} {l c : Nat} {z : List Int} {F : Int} {ta : Option Addr} {tn tc : Nat} {xs : List Int} {w w1 : World} {r v0 v1 : Int} (h : Hid (SvS B X T a l c z F ta tn tc xs w w1)) (hn : tn ≤ tc) (hm : tn ≤ 4096) :
    LfPost w (.returned (.tuple #[.agg #[.int .i64 F, .slice ta tn tc], .int .i64 r, .int .i64 v0, .int .i64 v1])) w1 :=
  ⟨F, ta, tn, tc, xs, r, v0, v1, rfl, h.out.ints, hn, hm, by rw [h.out.eX]; exact h.out.low⟩

def TaPost (w : World) (e : Ending) (w' : World) : Prop :=
  ∃ F ta tn tc xs r v0 v1 v2, e = .returned (.tuple #[.agg #[.int .i64 F, .slice ta tn tc], .int .i64 r, .int .i64 v0, .int .i64 v1, .int .i64 v2]) ∧ Ints w' ta tn xs ∧ tn ≤ tc ∧ tn ≤ 4096 ∧ Below w.heap.size w w'

theorem SvS.finTA {B X T : Nat} {a : Option Addr} {l c : Nat} {z : List Int} {F : Int} {ta : Option Addr} {tn tc : Nat} {xs : List Int} {w w1 : World} {r v0 v1 v2 : Int} (h : Hid (SvS B X T a l c z F ta tn tc xs w w1)) (hn : tn ≤ tc) (hm : tn ≤ 4096) :
    TaPost w (.returned (.tuple #[.agg #[.int .i64 F, .slice ta tn tc], .int .i64 r, .int .i64 v0, .int .i64 v1, .int .i64 v2])) w1 :=
  ⟨F, ta, tn, tc, xs, r, v0, v1, v2, rfl, h.out.ints, hn, hm, by rw [h.out.eX]; exact h.out.low⟩

end Go.Proofs.YtdlfofdibooidaaGreat

/- The model's draws of what chapter 7 takes: a table, a rate, a kind, an age, a number of years, a sum. (Written by wip/gen/dras.py.) -/
namespace Go.Proofs.YtdlfofdibooidaaGreat
open Go.ChangeShapes Go.WideShapes Go.ChangeAt Go.RowKit
set_option linter.unusedVariables false

theorem sum7_r (B : Nat) (a : Option Addr) (l c : Nat) (z : List Int) (w : World) (h : Ready B a l c z w) :
    Calls Tryz.prog 76 #[.pointer (some ⟨B, 0, none⟩)] w (NumPost B a l c z Any w) := by
  have HS := Lib.hid h
  have HO := Lib.hid (But.refl B w)
  clear h
  go_enter Tryz.func76, Tryz.ntmps76
  go_wp2_with (first | (go_at_call 58; refine (next_r _ _ _ _ _ _ _ HS.out).mono ?_; rintro e w1 ⟨r, rfl, hd, ho, hs⟩; have HO := Lib.hid (HO.out.trans ho); have HS := Lib.hid hs; clear ho hs hd) | (go_at_call 77; ((with_reducible refine (pick4 B _ _ _ _ _ _ HS.out).mono ?_); rintro e w1 ⟨r, rfl, hd, ho, hs⟩; have HO := Lib.hid (HO.out.trans ho); have HS := Lib.hid hs; clear ho hs hd)) | (go_at_call 77; ((with_reducible refine (pick3 B _ _ _ _ _ HS.out).mono ?_); rintro e w1 ⟨r, rfl, hd, ho, hs⟩; have HO := Lib.hid (HO.out.trans ho); have HS := Lib.hid hs; clear ho hs hd)))
  all_goals
    go_ret
    exact ⟨_, rfl, trivial, HO.out, HS.out⟩

/-- in the midst of a draw within a draw: X the result's cells, B the source, T the table's box -/
structure SvD (B X T : Nat) (a : Option Addr) (l c : Nat) (z : List Int) (F : Int) (ta : Option Addr) (tn tc : Nat) (xs : List Int) (w w' : World) : Prop where
  ready : Ready B a l c z w'
  but : But B w w'
  c0 : w'.cell? ⟨T, 0, none⟩ = some (.int .i64 F)
  c1 : w'.cell? ⟨T, 1, none⟩ = some (.slice ta tn tc)
  r0 : ∃ v, w'.cell? ⟨X, 0, none⟩ = some v
  r1 : ∃ v, w'.cell? ⟨X, 1, none⟩ = some v
  h0 : w'.frozen? ⟨X, 0, none⟩ = false
  h1 : w'.frozen? ⟨X, 1, none⟩ = false
  ints : Ints w' ta tn xs
  far : ∀ x, ta = some x → X < x.block
  eX : w.heap.size = X
  hB : B < X
  oT : X < T

theorem SvD.call {B X T : Nat} {a : Option Addr} {l c : Nat} {z : List Int} {F : Int} {ta : Option Addr} {tn tc : Nat} {xs : List Int} {w w1 w2 : World} (h : SvD B X T a l c z F ta tn tc xs w w1) (ho : But B w1 w2) (hs : Ready B a l c z w2) : SvD B X T a l c z F ta tn tc xs w w2 := by
  have hB := h.hB
  have oT := h.oT
  obtain ⟨u0, g0⟩ := h.r0
  obtain ⟨u1, g1⟩ := h.r1
  have hX : X < w1.heap.size := block_lt g0
  exact ⟨hs, h.but.trans ho, (ho.cell (p := ⟨T, 0, none⟩) (block_lt h.c0) (by show T ≠ B; omega)).trans h.c0, (ho.cell (p := ⟨T, 1, none⟩) (block_lt h.c1) (by show T ≠ B; omega)).trans h.c1,
    ⟨u0, (ho.cell (p := ⟨X, 0, none⟩) hX (by show X ≠ B; omega)).trans g0⟩, ⟨u1, (ho.cell (p := ⟨X, 1, none⟩) hX (by show X ≠ B; omega)).trans g1⟩, (ho.frozen (p := ⟨X, 0, none⟩) hX (by show X ≠ B; omega)).trans h.h0, (ho.frozen (p := ⟨X, 1, none⟩) hX (by show X ≠ B; omega)).trans h.h1,
    h.ints.butT ho (fun x hx => by have := h.far x hx; omega), h.far, h.eX, hB, oT⟩

theorem SvD.drew {B X T : Nat} {a : Option Addr} {l c : Nat} {z : List Int} {F : Int} {ta : Option Addr} {tn tc : Nat} {xs : List Int} {w w1 : World} (h : SvD B X T a l c z F ta tn tc xs w w1) : SvD B X T a l c z F ta tn tc xs w w1.drew := h.call (But.refl _ _).drew h.ready.drew

/-- the result is written -/
theorem SvD.put {B X T : Nat} {a : Option Addr} {l c : Nat} {z : List Int} {F : Int} {ta : Option Addr} {tn tc : Nat} {xs : List Int} {w w1 : World} (h : SvD B X T a l c z F ta tn tc xs w w1) (u v : Value) : SvD B X T a l c z F ta tn tc xs w ((w1.setCell ⟨X, 0, none⟩ u).setCell ⟨X, 1, none⟩ v) ∧
    ((w1.setCell ⟨X, 0, none⟩ u).setCell ⟨X, 1, none⟩ v).cell? ⟨X, 0, none⟩ = some u ∧ ((w1.setCell ⟨X, 0, none⟩ u).setCell ⟨X, 1, none⟩ v).cell? ⟨X, 1, none⟩ = some v := by
  have hB := h.hB
  have oT := h.oT
  have eX := h.eX
  obtain ⟨e0, e1, ho⟩ := putX w1 X u v h.r0 h.r1
  refine ⟨⟨h.ready.below (ho.below (Nat.le_refl _)) hB, ⟨ho.os.trans h.but.os, ho.tape.trans h.but.tape, ho.output.trans h.but.output, by rw [ho.size]; exact h.but.size, fun k hk hk2 => (ho.block k (by omega)).trans (h.but.block k hk hk2)⟩, (ho.cell (p := ⟨T, 0, none⟩) (by show T ≠ X; omega)).trans h.c0, (ho.cell (p := ⟨T, 1, none⟩) (by show T ≠ X; omega)).trans h.c1, ⟨_, e0⟩, ⟨_, e1⟩, ?_, ?_, h.ints.onlyT ho (fun x hx => by have := h.far x hx; omega), h.far, h.eX, hB, oT⟩, e0, e1⟩
  · rw [World.frozen?_setCell, World.frozen?_setCell]; exact h.h0
  · rw [World.frozen?_setCell, World.frozen?_setCell]; exact h.h1

theorem SvD.three {B X T : Nat} {a : Option Addr} {l c : Nat} {z : List Int} {F : Int} {ta : Option Addr} {tn tc : Nat} {xs : List Int} {w w1 : World} (h : Hid (SvD B X T a l c z F ta tn tc xs w w1)) : w1.cell? ⟨T, 0, none⟩ = some (.int .i64 F) ∧ w1.cell? ⟨T, 1, none⟩ = some (.slice ta tn tc) ∧ Hid (SvD B X T a l c z F ta tn tc xs w w1) := ⟨h.out.c0, h.out.c1, h⟩

/-- a drawn table, a rate, a kind, an age, a number of years -/
def Drawn7 (B : Nat) (a : Option Addr) (l c : Nat) (z : List Int) (w : World) (e : Ending) (w' : World) : Prop :=
  ∃ F ta tn tc xs r k x n, e = .returned (.tuple #[.agg #[.int .i64 F, .slice ta tn tc], .int .i64 r, .int .i64 k, .int .i64 x, .int .i64 n]) ∧ Ints w' ta tn xs ∧ tn ≤ tc ∧ tn ≤ 4096 ∧ -1 ≤ F ∧ F ≤ 101 ∧ (∀ x, ta = some x → w.heap.size ≤ x.block) ∧ But B w w' ∧ Ready B a l c z w'

theorem SvD.fin {B X T : Nat} {a : Option Addr} {l c : Nat} {z : List Int} {F : Int} {ta : Option Addr} {tn tc : Nat} {xs : List Int} {w w1 : World} {r k x n : Int} (h : Hid (SvD B X T a l c z F ta tn tc xs w w1)) (hn : tn ≤ tc) (hm : tn ≤ 4096) (f0 : -1 ≤ F) (f1 : F ≤ 101) :
    Drawn7 B a l c z w (.returned (.tuple #[.agg #[.int .i64 F, .slice ta tn tc], .int .i64 r, .int .i64 k, .int .i64 x, .int .i64 n])) w1 :=
  ⟨F, ta, tn, tc, xs, r, k, x, n, rfl, h.out.ints, hn, hm, f0, f1, fun x hx => by have := h.out.far x hx; have := h.out.eX; omega, h.out.but, h.out.ready⟩

set_option maxRecDepth 100000 in
set_option maxHeartbeats 8000000 in
theorem d07 (B : Nat) (a : Option Addr) (l c : Nat) (z : List Int) (w : World) (h : Ready B a l c z w) : Calls Tryz.prog 75 #[.pointer (some ⟨B, 0, none⟩)] w (Drawn7 B a l c z w) := by
  have hB := h.here
  have HS := Lib.hid (h.alloc (.cells #[.int .i64 0, .slice none 0 0] 26))
  clear h
  go_enter Tryz.func75, Tryz.ntmps75
  go_wp2_with fail
  refine (drawTR B a l c z _ HS.out).mono ?_
  rintro e w2 ⟨F, ta, tn, tc, xs, r, rfl, hI, htc, htn, f0, f1, far, ho, hs⟩
  have hX : w.heap.size < (w.alloc (.cells #[.int .i64 0, .slice none 0 0] 26)).heap.size := by simp
  have r0 : w2.cell? ⟨w.heap.size, 0, none⟩ = some (.int .i64 0) := (ho.cell (p := ⟨w.heap.size, 0, none⟩) hX (by show w.heap.size ≠ B; omega)).trans (by go_simp)
  have r1 : w2.cell? ⟨w.heap.size, 1, none⟩ = some (.slice none 0 0) := (ho.cell (p := ⟨w.heap.size, 1, none⟩) hX (by show w.heap.size ≠ B; omega)).trans (by go_simp)
  have h0 : w2.frozen? ⟨w.heap.size, 0, none⟩ = false := (ho.frozen (p := ⟨w.heap.size, 0, none⟩) hX (by show w.heap.size ≠ B; omega)).trans (by go_simp)
  have h1 : w2.frozen? ⟨w.heap.size, 1, none⟩ = false := (ho.frozen (p := ⟨w.heap.size, 1, none⟩) hX (by show w.heap.size ≠ B; omega)).trans (by go_simp)
  have hX2 : w.heap.size < w2.heap.size := block_lt r0
  have hA0 : Hid (SvD B w.heap.size w2.heap.size a l c z F ta tn tc xs w (w2.alloc (.cells #[.int .i64 F, .slice ta tn tc] 26))) := Lib.hid (by
    have hq := box_b w2 (.cells #[.int .i64 F, .slice ta tn tc] 26)
    exact ⟨hs.alloc _, ((But.alloc (B := B) (w := w) (.cells #[.int .i64 0, .slice none 0 0] 26)).trans ho).trans (But.alloc _), by go_simp, by go_simp, ⟨_, keep2 hq r0⟩, ⟨_, keep2 hq r1⟩, (hq.frozen (p := ⟨w.heap.size, 0, none⟩) hX2).trans h0, (hq.frozen (p := ⟨w.heap.size, 1, none⟩) hX2).trans h1, hI.on hq, fun x hx => by have := far x hx; rw [World.size_alloc] at this; omega, rfl, hB, hX2⟩)
  clear r0 r1 h0 h1 hX hs ho far hI HS
  obtain ⟨X, hX⟩ : ∃ X, w.heap.size = X := ⟨_, rfl⟩
  obtain ⟨T, hT⟩ : ∃ T, w2.heap.size = T := ⟨_, rfl⟩
  rw [hX, hT] at hA0
  (try rw [hX])
  (try rw [hT])
  have HA := hA0
  have hv : ∃ v, w2.alloc (.cells #[.int .i64 F, .slice ta tn tc] 26) = v := ⟨_, rfl⟩
  obtain ⟨v2, hv2⟩ := hv
  rw [hv2] at HA
  have A1 : Hid (∀ W, Hid (SvD B X T a l c z F ta tn tc xs w W) → Calls Tryz.prog 111 #[.pointer (some ⟨B, 0, none⟩), .agg #[.int .i64 F, .slice ta tn tc]] W fun e w' => ∃ v, e = .returned (.int .i64 v) ∧ Hid (SvD B X T a l c z F ta tn tc xs w w')) :=
    Lib.hid (fun W hW => (dage B a l c z F ta tn tc W hW.out.ready f0 f1 htn).mono fun e w' ⟨v, he, ho, hs⟩ => ⟨v, he, Lib.hid (hW.out.call ho hs)⟩)
  clear hA0 hX2
  go_wp2_with fail
  (try rw [hv2])
  (try rw [hT])
  (try rw [hX])
  clear hv2 hT hX
  refine (next_r B a l c z 4 _ HA.out.ready).mono ?_
  rintro e w3 ⟨k, rfl, hd, ho, hs⟩
  have HA := Lib.hid (HA.out.call ho hs)
  clear hd ho hs
  go_wp2_with fail
  refine (next_r B a l c z 14 _ HA.out.ready).mono ?_
  rintro e w4 ⟨q, rfl, hd, ho, hs⟩
  have HA := Lib.hid (HA.out.call ho hs)
  obtain ⟨qa, qb⟩ := drawn_bd hd (by omega)
  have q1 : IntKind.i64.wrap (1 + q) = 1 + q := IntWalk.i64_in _ (by omega)
  clear hd ho hs
  by_cases hk : k = 0
  · subst hk
    go_wp2_with fail
    refine (next_r B a l c z 40 _ HA.out.ready).mono ?_
    rintro e w5 ⟨s, rfl, hd, ho, hs⟩
    have HA := Lib.hid (HA.out.call ho hs)
    clear hd ho hs
    by_cases hs0 : s = 0
    · subst hs0
      go_wp2_with (go_at_call 77; ((with_reducible refine (pick4 B _ _ _ _ _ _ HA.out.ready).mono ?_); rintro e w6 ⟨p, rfl, hd, ho, hs⟩; have HA := Lib.hid (HA.out.call ho hs); clear hd ho hs))
      have k0 := HA.out.c0
      have k1 := HA.out.c1
      go_region_held3 (fun w' => w'.cell? ⟨T, 0, none⟩ = some (.int .i64 F) ∧ w'.cell? ⟨T, 1, none⟩ = some (.slice ta tn tc) ∧ Hid (SvD B X T a l c z F ta tn tc xs w w'))
        (first
          | (go_split_ands; exact SvD.three (by with_reducible assumption))
          | (go_split_ands; exact SvD.three (Lib.hid (SvD.drew (Hid.out (by with_reducible assumption)))))
          | (go_split_ands; exact SvD.three (Lib.hid (SvD.put (Hid.out (by with_reducible assumption)) _ _).1))
          | fail)
        (first
          | (go_split_ands; go_at_call 111; ((with_reducible refine (A1.out _ (by with_reducible assumption)).mono ?_); rintro e w' ⟨va, rfl, hA8⟩; obtain ⟨u0, k2⟩ := hA8.out.r0; obtain ⟨u1, k3⟩ := hA8.out.r1; have k4 := hA8.out.h0; have k5 := hA8.out.h1))
          | fail)
      all_goals
        go_split_ands
        have hP := hA8.out.put (.int .i64 F) (.slice ta tn tc)
        have e0 := hP.2.1
        have e1 := hP.2.2
        have HF := Lib.hid hP.1
        clear hP
        go_wp2_with fail
        exact bodyPost_ret (v := .tuple #[.agg #[.int .i64 F, .slice ta tn tc], .int .i64 r, .int .i64 p, .int .i64 va, .int .i64 0]) (by simp [results, Tryz.results75, go_sem, e0, e1]) rfl (SvD.fin HF htc htn f0 f1)
    · have z0 : (s == 0) = false := by simp [hs0]
      by_cases hs1 : s = 1
      · subst hs1
        go_wp2_with (go_at_call 77; ((with_reducible refine (pick5 B _ _ _ _ _ _ _ HA.out.ready).mono ?_); rintro e w6 ⟨p, rfl, hd, ho, hs⟩; have HA := Lib.hid (HA.out.call ho hs); clear hd ho hs))
        have k0 := HA.out.c0
        have k1 := HA.out.c1
        go_region_held3 (fun w' => w'.cell? ⟨T, 0, none⟩ = some (.int .i64 F) ∧ w'.cell? ⟨T, 1, none⟩ = some (.slice ta tn tc) ∧ Hid (SvD B X T a l c z F ta tn tc xs w w'))
          (first
            | (go_split_ands; exact SvD.three (by with_reducible assumption))
            | (go_split_ands; exact SvD.three (Lib.hid (SvD.drew (Hid.out (by with_reducible assumption)))))
            | (go_split_ands; exact SvD.three (Lib.hid (SvD.put (Hid.out (by with_reducible assumption)) _ _).1))
            | fail)
          (first
            | (go_split_ands; go_at_call 111; ((with_reducible refine (A1.out _ (by with_reducible assumption)).mono ?_); rintro e w' ⟨va, rfl, hA8⟩; obtain ⟨u0, k2⟩ := hA8.out.r0; obtain ⟨u1, k3⟩ := hA8.out.r1; have k4 := hA8.out.h0; have k5 := hA8.out.h1))
            | fail)
        all_goals
          go_split_ands
          have hP := hA8.out.put (.int .i64 F) (.slice ta tn tc)
          have e0 := hP.2.1
          have e1 := hP.2.2
          have HF := Lib.hid hP.1
          clear hP
          go_wp2_with fail
          exact bodyPost_ret (v := .tuple #[.agg #[.int .i64 F, .slice ta tn tc], .int .i64 r, .int .i64 0, .int .i64 va, .int .i64 p]) (by simp [results, Tryz.results75, go_sem, e0, e1]) rfl (SvD.fin HF htc htn f0 f1)
      · have z1 : (s == 1) = false := by simp [hs1]
        clear hs0 hs1
        go_wp2_with fail
        have k0 := HA.out.c0
        have k1 := HA.out.c1
        go_region_held3 (fun w' => w'.cell? ⟨T, 0, none⟩ = some (.int .i64 F) ∧ w'.cell? ⟨T, 1, none⟩ = some (.slice ta tn tc) ∧ Hid (SvD B X T a l c z F ta tn tc xs w w'))
          (first
            | (go_split_ands; exact SvD.three (by with_reducible assumption))
            | (go_split_ands; exact SvD.three (Lib.hid (SvD.drew (Hid.out (by with_reducible assumption)))))
            | (go_split_ands; exact SvD.three (Lib.hid (SvD.put (Hid.out (by with_reducible assumption)) _ _).1))
            | fail)
          (first
            | (go_split_ands; go_at_call 111; ((with_reducible refine (A1.out _ (by with_reducible assumption)).mono ?_); rintro e w' ⟨va, rfl, hA8⟩; obtain ⟨u0, k2⟩ := hA8.out.r0; obtain ⟨u1, k3⟩ := hA8.out.r1; have k4 := hA8.out.h0; have k5 := hA8.out.h1))
            | fail)
        all_goals
          go_split_ands
          have hP := hA8.out.put (.int .i64 F) (.slice ta tn tc)
          have e0 := hP.2.1
          have e1 := hP.2.2
          have HF := Lib.hid hP.1
          clear hP
          go_wp2_with fail
          exact bodyPost_ret (v := .tuple #[.agg #[.int .i64 F, .slice ta tn tc], .int .i64 r, .int .i64 0, .int .i64 va, .int .i64 0]) (by simp [results, Tryz.results75, go_sem, e0, e1]) rfl (SvD.fin HF htc htn f0 f1)
  · have hk2 : (k == 0) = false := by simp [hk]
    clear hk
    go_wp2_with fail
    refine (next_r B a l c z 40 _ HA.out.ready).mono ?_
    rintro e w5 ⟨s, rfl, hd, ho, hs⟩
    have HA := Lib.hid (HA.out.call ho hs)
    clear hd ho hs
    by_cases hs0 : s = 0
    · subst hs0
      go_wp2_with (go_at_call 77; ((with_reducible refine (pick4 B _ _ _ _ _ _ HA.out.ready).mono ?_); rintro e w6 ⟨p, rfl, hd, ho, hs⟩; have HA := Lib.hid (HA.out.call ho hs); clear hd ho hs))
      have k0 := HA.out.c0
      have k1 := HA.out.c1
      go_region_held3 (fun w' => w'.cell? ⟨T, 0, none⟩ = some (.int .i64 F) ∧ w'.cell? ⟨T, 1, none⟩ = some (.slice ta tn tc) ∧ Hid (SvD B X T a l c z F ta tn tc xs w w'))
        (first
          | (go_split_ands; exact SvD.three (by with_reducible assumption))
          | (go_split_ands; exact SvD.three (Lib.hid (SvD.drew (Hid.out (by with_reducible assumption)))))
          | (go_split_ands; exact SvD.three (Lib.hid (SvD.put (Hid.out (by with_reducible assumption)) _ _).1))
          | fail)
        (first
          | (go_split_ands; go_at_call 111; ((with_reducible refine (A1.out _ (by with_reducible assumption)).mono ?_); rintro e w' ⟨va, rfl, hA8⟩; obtain ⟨u0, k2⟩ := hA8.out.r0; obtain ⟨u1, k3⟩ := hA8.out.r1; have k4 := hA8.out.h0; have k5 := hA8.out.h1))
          | fail)
      all_goals
        go_split_ands
        have hP := hA8.out.put (.int .i64 F) (.slice ta tn tc)
        have e0 := hP.2.1
        have e1 := hP.2.2
        have HF := Lib.hid hP.1
        clear hP
        go_wp2_with fail
        exact bodyPost_ret (v := .tuple #[.agg #[.int .i64 F, .slice ta tn tc], .int .i64 r, .int .i64 p, .int .i64 va, .int .i64 (1 + q)]) (by simp [results, Tryz.results75, go_sem, e0, e1]) rfl (SvD.fin HF htc htn f0 f1)
    · have z0 : (s == 0) = false := by simp [hs0]
      by_cases hs1 : s = 1
      · subst hs1
        go_wp2_with (go_at_call 77; ((with_reducible refine (pick5 B _ _ _ _ _ _ _ HA.out.ready).mono ?_); rintro e w6 ⟨p, rfl, hd, ho, hs⟩; have HA := Lib.hid (HA.out.call ho hs); clear hd ho hs))
        have k0 := HA.out.c0
        have k1 := HA.out.c1
        go_region_held3 (fun w' => w'.cell? ⟨T, 0, none⟩ = some (.int .i64 F) ∧ w'.cell? ⟨T, 1, none⟩ = some (.slice ta tn tc) ∧ Hid (SvD B X T a l c z F ta tn tc xs w w'))
          (first
            | (go_split_ands; exact SvD.three (by with_reducible assumption))
            | (go_split_ands; exact SvD.three (Lib.hid (SvD.drew (Hid.out (by with_reducible assumption)))))
            | (go_split_ands; exact SvD.three (Lib.hid (SvD.put (Hid.out (by with_reducible assumption)) _ _).1))
            | fail)
          (first
            | (go_split_ands; go_at_call 111; ((with_reducible refine (A1.out _ (by with_reducible assumption)).mono ?_); rintro e w' ⟨va, rfl, hA8⟩; obtain ⟨u0, k2⟩ := hA8.out.r0; obtain ⟨u1, k3⟩ := hA8.out.r1; have k4 := hA8.out.h0; have k5 := hA8.out.h1))
            | fail)
        all_goals
          go_split_ands
          have hP := hA8.out.put (.int .i64 F) (.slice ta tn tc)
          have e0 := hP.2.1
          have e1 := hP.2.2
          have HF := Lib.hid hP.1
          clear hP
          go_wp2_with fail
          exact bodyPost_ret (v := .tuple #[.agg #[.int .i64 F, .slice ta tn tc], .int .i64 r, .int .i64 k, .int .i64 va, .int .i64 p]) (by simp [results, Tryz.results75, go_sem, e0, e1]) rfl (SvD.fin HF htc htn f0 f1)
      · have z1 : (s == 1) = false := by simp [hs1]
        clear hs0 hs1
        go_wp2_with fail
        have k0 := HA.out.c0
        have k1 := HA.out.c1
        go_region_held3 (fun w' => w'.cell? ⟨T, 0, none⟩ = some (.int .i64 F) ∧ w'.cell? ⟨T, 1, none⟩ = some (.slice ta tn tc) ∧ Hid (SvD B X T a l c z F ta tn tc xs w w'))
          (first
            | (go_split_ands; exact SvD.three (by with_reducible assumption))
            | (go_split_ands; exact SvD.three (Lib.hid (SvD.drew (Hid.out (by with_reducible assumption)))))
            | (go_split_ands; exact SvD.three (Lib.hid (SvD.put (Hid.out (by with_reducible assumption)) _ _).1))
            | fail)
          (first
            | (go_split_ands; go_at_call 111; ((with_reducible refine (A1.out _ (by with_reducible assumption)).mono ?_); rintro e w' ⟨va, rfl, hA8⟩; obtain ⟨u0, k2⟩ := hA8.out.r0; obtain ⟨u1, k3⟩ := hA8.out.r1; have k4 := hA8.out.h0; have k5 := hA8.out.h1))
            | fail)
        all_goals
          go_split_ands
          have hP := hA8.out.put (.int .i64 F) (.slice ta tn tc)
          have e0 := hP.2.1
          have e1 := hP.2.2
          have HF := Lib.hid hP.1
          clear hP
          go_wp2_with fail
          exact bodyPost_ret (v := .tuple #[.agg #[.int .i64 F, .slice ta tn tc], .int .i64 r, .int .i64 k, .int .i64 va, .int .i64 (1 + q)]) (by simp [results, Tryz.results75, go_sem, e0, e1]) rfl (SvD.fin HF htc htn f0 f1)

end Go.Proofs.YtdlfofdibooidaaGreat
