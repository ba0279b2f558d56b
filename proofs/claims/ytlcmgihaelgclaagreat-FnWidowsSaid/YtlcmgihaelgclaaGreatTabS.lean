/- The model's draw of a life table. -/
import Derived.Test.YtlcmgihaelgclaaGreatTabR
namespace Go.Proofs.YtlcmgihaelgclaaGreat
open Go.ChangeShapes Go.WideShapes Go.ChangeAt Go.RowKit
set_option linter.unusedVariables false

/-- a drawn table, in the midst of its draw: its box T, its lives' block g, the result's cells X -/
structure DrS (B X T g n cc : Nat) (a : Option Addr) (l c : Nat) (z : List Int) (F : Int) (w w' : World) : Prop where
  ready : Ready B a l c z w'
  but : But B w w'
  c0 : w'.cell? ⟨T, 0, none⟩ = some (.int .i64 F)
  c1 : w'.cell? ⟨T, 1, none⟩ = some (.slice (some ⟨g, 0, none⟩) n cc)
  f0 : w'.frozen? ⟨T, 0, none⟩ = false
  r0 : w'.cell? ⟨X, 0, none⟩ = some (.int .i64 0)
  r1 : w'.cell? ⟨X, 1, none⟩ = some (.slice none 0 0)
  h0 : w'.frozen? ⟨X, 0, none⟩ = false
  h1 : w'.frozen? ⟨X, 1, none⟩ = false
  row : ∃ ys : List Int, ys.length = n ∧ RowI w' g 0 ys
  eX : w.heap.size = X
  oB : B < X
  og : X < g
  oT : X < T
  ne : g ≠ T
  gl : g < w'.heap.size

theorem RowI.but {w w1 : World} {g off B : Nat} {ys : List Int} (h : RowI w g off ys) (hb : But B w w1) (hg : g < w.heap.size) (hne : g ≠ B) : RowI w1 g off ys :=
  ⟨fun i hi => (hb.cell (p := ⟨g, off + i, none⟩) hg hne).trans (h.cell i hi), fun i hi => (hb.frozen (p := ⟨g, off + i, none⟩) hg hne).trans (h.free i hi)⟩

theorem DrS.call {B X T g n cc : Nat} {a : Option Addr} {l c : Nat} {z : List Int} {F : Int} {w w1 w2 : World} (h : DrS B X T g n cc a l c z F w w1) (ho : But B w1 w2) (hs : Ready B a l c z w2) : DrS B X T g n cc a l c z F w w2 := by
  have hT : T < w1.heap.size := block_lt h.c0
  have hX : X < w1.heap.size := block_lt h.r0
  have oB := h.oB
  have oT := h.oT
  have og := h.og
  obtain ⟨ys, hl, hr⟩ := h.row
  exact ⟨hs, h.but.trans ho, (ho.cell (p := ⟨T, 0, none⟩) hT (by show T ≠ B; omega)).trans h.c0, (ho.cell (p := ⟨T, 1, none⟩) hT (by show T ≠ B; omega)).trans h.c1, (ho.frozen (p := ⟨T, 0, none⟩) hT (by show T ≠ B; omega)).trans h.f0,
    (ho.cell (p := ⟨X, 0, none⟩) hX (by show X ≠ B; omega)).trans h.r0, (ho.cell (p := ⟨X, 1, none⟩) hX (by show X ≠ B; omega)).trans h.r1, (ho.frozen (p := ⟨X, 0, none⟩) hX (by show X ≠ B; omega)).trans h.h0, (ho.frozen (p := ⟨X, 1, none⟩) hX (by show X ≠ B; omega)).trans h.h1,
    ⟨ys, hl, hr.but ho h.gl (by omega)⟩, h.eX, h.oB, h.og, h.oT, h.ne, Nat.lt_of_lt_of_le h.gl ho.size⟩

theorem DrS.alloc {B X T g n cc : Nat} {a : Option Addr} {l c : Nat} {z : List Int} {F : Int} {w w1 : World} (h : DrS B X T g n cc a l c z F w w1) (o : Obj) : DrS B X T g n cc a l c z F w (w1.alloc o) := h.call (But.alloc _) (h.ready.alloc _)

theorem DrS.drew {B X T g n cc : Nat} {a : Option Addr} {l c : Nat} {z : List Int} {F : Int} {w w1 : World} (h : DrS B X T g n cc a l c z F w w1) : DrS B X T g n cc a l c z F w w1.drew := h.call (But.refl _ _).drew h.ready.drew

theorem far_set {w : World} {p q : Addr} (h : p ≠ q) (v : Value) : (w.setCell q v).cell? p = w.cell? p := World.cell?_setCell_other _ _ _ _ (by first | exact h | exact h.symm)

theorem DrS.put {B X T g n cc : Nat} {a : Option Addr} {l c : Nat} {z : List Int} {F : Int} {w w1 : World} (h : DrS B X T g n cc a l c z F w w1) (k : Nat) (v : Int) : DrS B X T g n cc a l c z F w (w1.setCell ⟨g, k, none⟩ (.int .i64 v)) := by
  have oB := h.oB
  have oT := h.oT
  have og := h.og
  have ne := h.ne
  have hX : X < w1.heap.size := block_lt h.r0
  have hb : Below X w1 (w1.setCell ⟨g, k, none⟩ (.int .i64 v)) := (Below.refl _ _).setCell (p := ⟨g, k, none⟩) (by show X ≤ g; omega) _
  obtain ⟨ys, hl, hr⟩ := h.row
  have hr2 := hr.set k v
  rw [Nat.zero_add] at hr2
  have nT : ∀ j, (⟨T, j, none⟩ : Addr) ≠ ⟨g, k, none⟩ := fun j e => by injection e; omega
  have nX : ∀ j, (⟨X, j, none⟩ : Addr) ≠ ⟨g, k, none⟩ := fun j e => by injection e; omega
  refine ⟨h.ready.below hb oB, h.but.low (by rw [h.eX]; exact hb), (far_set (nT 0) _).trans h.c0, (far_set (nT 1) _).trans h.c1, ?_, (far_set (nX 0) _).trans h.r0, (far_set (nX 1) _).trans h.r1, ?_, ?_, ⟨_, by simpa using hl, hr2⟩, h.eX, oB, og, oT, ne, by simpa [World.setCell] using h.gl⟩
  · rw [World.frozen?_setCell]; exact h.f0
  · rw [World.frozen?_setCell]; exact h.h0
  · rw [World.frozen?_setCell]; exact h.h1

/-- its first age is overwritten -/
theorem DrS.first {B X T g n cc : Nat} {a : Option Addr} {l c : Nat} {z : List Int} {F : Int} {w w1 : World} (h : DrS B X T g n cc a l c z F w w1) (v : Int) : DrS B X T g n cc a l c z v w (w1.setCell ⟨T, 0, none⟩ (.int .i64 v)) := by
  have oB := h.oB
  have oT := h.oT
  have og := h.og
  have ne := h.ne
  have hb : Below X w1 (w1.setCell ⟨T, 0, none⟩ (.int .i64 v)) := (Below.refl _ _).setCell (p := ⟨T, 0, none⟩) (by show X ≤ T; omega) _
  have ho : Only T w1 (w1.setCell ⟨T, 0, none⟩ (.int .i64 v)) := (Only.refl _ _).setCell (p := ⟨T, 0, none⟩) rfl _
  obtain ⟨ys, hl, hr⟩ := h.row
  have nT : (⟨T, 1, none⟩ : Addr) ≠ ⟨T, 0, none⟩ := fun e => by injection e; omega
  have nX : ∀ j, (⟨X, j, none⟩ : Addr) ≠ ⟨T, 0, none⟩ := fun j e => by injection e; omega
  refine ⟨h.ready.below hb oB, h.but.low (by rw [h.eX]; exact hb), World.cell?_setCell_same' _ _ _ (by rw [h.c0]; rfl), (far_set nT _).trans h.c1, ?_, (far_set (nX 0) _).trans h.r0, (far_set (nX 1) _).trans h.r1, ?_, ?_, ⟨_, hl, hr.only ho ne⟩, h.eX, oB, og, oT, ne, by simpa [World.setCell] using h.gl⟩
  · rw [World.frozen?_setCell]; exact h.f0
  · rw [World.frozen?_setCell]; exact h.h0
  · rw [World.frozen?_setCell]; exact h.h1

def DrawnT (B : Nat) (a : Option Addr) (l c : Nat) (z : List Int) (w : World) (e : Ending) (w' : World) : Prop :=
  ∃ F ta tn tc xs, e = .returned (.agg #[.int .i64 F, .slice ta tn tc]) ∧ Ints w' ta tn xs ∧ tn ≤ tc ∧ tn ≤ 4096 ∧ -1 ≤ F ∧ F ≤ 101 ∧ (∀ x, ta = some x → w.heap.size ≤ x.block) ∧ But B w w' ∧ Ready B a l c z w'

theorem DrS.post {B X T g n cc : Nat} {a : Option Addr} {l c : Nat} {z : List Int} {F : Int} {w w1 : World} (h : DrS B X T g n cc a l c z F w w1) (hn : n ≤ cc) (hm : n ≤ 4096) (f0 : -1 ≤ F) (f1 : F ≤ 101) :
    DrawnT B a l c z w (.returned (.agg #[.int .i64 F, .slice (some ⟨g, 0, none⟩) n cc])) ((w1.setCell ⟨X, 0, none⟩ (.int .i64 F)).setCell ⟨X, 1, none⟩ (.slice (some ⟨g, 0, none⟩) n cc)) := by
  have oB := h.oB
  have og := h.og
  have ho : Only X w1 ((w1.setCell ⟨X, 0, none⟩ (.int .i64 F)).setCell ⟨X, 1, none⟩ (.slice (some ⟨g, 0, none⟩) n cc)) := ((Only.refl _ _).setCell (p := ⟨X, 0, none⟩) rfl _).setCell (p := ⟨X, 1, none⟩) rfl _
  have hb := ho.below (Nat.le_refl X)
  obtain ⟨ys, hl, hr⟩ := h.row
  exact ⟨F, _, n, cc, ys, rfl, (hr.only ho (by omega)).ints hl (by omega), hn, hm, f0, f1, fun x hx => by cases hx; rw [h.eX]; show X ≤ g; omega, h.but.low (by rw [h.eX]; exact hb), h.ready.below hb oB⟩

theorem DrS.res {B X T g n cc : Nat} {a : Option Addr} {l c : Nat} {z : List Int} {F : Int} {w w1 : World} (h : DrS B X T g n cc a l c z F w w1) (u v : Value) :
    ((w1.setCell ⟨X, 0, none⟩ u).setCell ⟨X, 1, none⟩ v).cell? ⟨X, 0, none⟩ = some u ∧ ((w1.setCell ⟨X, 0, none⟩ u).setCell ⟨X, 1, none⟩ v).cell? ⟨X, 1, none⟩ = some v := by
  have n1 : (⟨X, 0, none⟩ : Addr) ≠ ⟨X, 1, none⟩ := fun e => by injection e; omega
  constructor
  · rw [far_set n1]; exact World.cell?_setCell_same' _ _ _ (by rw [h.r0]; rfl)
  · exact World.cell?_setCell_same' _ _ _ (by rw [far_set n1.symm, h.r1]; rfl)

theorem pick4M (B M : Nat) (x1 x2 x3 x4 : Int) (T : TypeId) (w : World) {a : Option Addr} {l c : Nat} {z : List Int} (h : Ready B a l c z w) (hM : w.heap.size = M) :
    Calls Tryz.prog 63 #[.pointer (some ⟨B, 0, none⟩), .slice (some ⟨M, 0, none⟩) 4 4] (w.alloc (.cells #[.int .i64 x1, .int .i64 x2, .int .i64 x3, .int .i64 x4] T)) (NumPost B a l c z (· ∈ [x1, x2, x3, x4]) w) := by
  subst hM; exact pick4 B x1 x2 x3 x4 T w h

theorem mem4 {p q r s x : Int} (h : x ∈ [p, q, r, s]) : x = p ∨ x = q ∨ x = r ∨ x = s := by simpa using h

theorem mem3 {p q r x : Int} (h : x ∈ [p, q, r]) : x = p ∨ x = q ∨ x = r := by simpa using h

set_option maxRecDepth 100000 in
set_option maxHeartbeats 4000000 in
theorem dtable (B : Nat) (a : Option Addr) (l c : Nat) (z : List Int) (w : World) (h : Ready B a l c z w) : Calls Tryz.prog 60 #[.pointer (some ⟨B, 0, none⟩)] w (DrawnT B a l c z w) := by
  have hB := h.here
  have HS := Lib.hid h
  clear h
  go_enter Tryz.func60, Tryz.ntmps60
  go_wp2_with fail
  refine (pick4M _ _ _ _ _ _ _ _ (HS.out.alloc _) (World.size_alloc _ _)).mono ?_
  rintro e w1 ⟨q, rfl, hd, ho, hs⟩
  obtain ⟨X, hX⟩ : ∃ X, w.heap.size = X := ⟨_, rfl⟩
  (try rw [hX])
  have hq := mem4 hd
  have r0 : w1.cell? ⟨X, 0, none⟩ = some (.int .i64 0) := (ho.cell (p := ⟨X, 0, none⟩) (by rw [World.size_alloc]; show X < _; omega) (by show X ≠ B; omega)).trans (by subst hX; go_simp)
  have r1 : w1.cell? ⟨X, 1, none⟩ = some (.slice none 0 0) := (ho.cell (p := ⟨X, 1, none⟩) (by rw [World.size_alloc]; show X < _; omega) (by show X ≠ B; omega)).trans (by subst hX; go_simp)
  have h0 : w1.frozen? ⟨X, 0, none⟩ = false := (ho.frozen (p := ⟨X, 0, none⟩) (by rw [World.size_alloc]; show X < _; omega) (by show X ≠ B; omega)).trans (by subst hX; go_simp)
  have h1 : w1.frozen? ⟨X, 1, none⟩ = false := (ho.frozen (p := ⟨X, 1, none⟩) (by rw [World.size_alloc]; show X < _; omega) (by show X ≠ B; omega)).trans (by subst hX; go_simp)
  have hz1 : X < w1.heap.size := block_lt r0
  have HB := Lib.hid ((But.alloc _).trans ho)
  have HS := Lib.hid hs
  have HX := Lib.hid hX
  have hB : B < X := by omega
  clear hd ho hs hX
  go_wp2_with fail
  refine (next_r _ _ _ _ _ _ _ HS.out).mono ?_
  rintro e w2 ⟨y, rfl, hd, ho, hs⟩
  have hy := drawn_bd hd (by omega)
  have r0 := (ho.cell (p := ⟨X, 0, none⟩) hz1 (by show X ≠ B; omega)).trans r0
  have r1 := (ho.cell (p := ⟨X, 1, none⟩) hz1 (by show X ≠ B; omega)).trans r1
  have h0 := (ho.frozen (p := ⟨X, 0, none⟩) hz1 (by show X ≠ B; omega)).trans h0
  have h1 := (ho.frozen (p := ⟨X, 1, none⟩) hz1 (by show X ≠ B; omega)).trans h1
  have hz1 : X < w2.heap.size := block_lt r0
  have HB := Lib.hid (HB.out.trans ho)
  have HS := Lib.hid hs
  clear hd ho hs
  go_wp2_with fail
  refine (pick4 _ _ _ _ _ _ _ HS.out).mono ?_
  rintro e w3 ⟨L, rfl, hd, ho, hs⟩
  have hL := mem4 hd
  have hL0 : 1 ≤ L ∧ L ≤ 1000000 := by omega
  clear hL hy
  have r0 := (ho.cell (p := ⟨X, 0, none⟩) hz1 (by show X ≠ B; omega)).trans r0
  have r1 := (ho.cell (p := ⟨X, 1, none⟩) hz1 (by show X ≠ B; omega)).trans r1
  have h0 := (ho.frozen (p := ⟨X, 0, none⟩) hz1 (by show X ≠ B; omega)).trans h0
  have h1 := (ho.frozen (p := ⟨X, 1, none⟩) hz1 (by show X ≠ B; omega)).trans h1
  have hz1 : X < w3.heap.size := block_lt r0
  have HB := Lib.hid (HB.out.trans ho)
  have HS := Lib.hid hs
  clear hd ho hs
  go_wp2_with fail
  refine (drates _ _ _ _ _ _ HS.out).mono ?_
  rintro e w4 ⟨v, rs, rfl, hown, hx25, hrr, ho, hs⟩
  have r0 := (ho.cell (p := ⟨X, 0, none⟩) hz1 (by show X ≠ B; omega)).trans r0
  have r1 := (ho.cell (p := ⟨X, 1, none⟩) hz1 (by show X ≠ B; omega)).trans r1
  have h0 := (ho.frozen (p := ⟨X, 0, none⟩) hz1 (by show X ≠ B; omega)).trans h0
  have h1 := (ho.frozen (p := ⟨X, 1, none⟩) hz1 (by show X ≠ B; omega)).trans h1
  have hz1 : X < w4.heap.size := block_lt r0
  have HB := Lib.hid (HB.out.trans ho)
  have HS := Lib.hid hs
  obtain ⟨al, cl, rfl, hI, _⟩ := hown.intsT (by omega)
  have HI := Lib.hid hI
  have hmk : mkB q L rs = true := (mkB_iff _ _ _).2 ⟨by omega, hL0, ⟨by omega, by omega⟩, hrr⟩
  have HN := Lib.hid (mkL_len rs L)
  have HTW := Lib.hid (mkL_two rs L (by omega))
  have HMK := Lib.hid (fun W hW => mk_spec q L rs al rs.length cl W hW)
  have hq1 : -1 ≤ q ∧ q ≤ 101 := by omega
  obtain ⟨ln, hln⟩ : ∃ ln, rs.length = ln := ⟨_, rfl⟩
  rw [hln] at HI HMK HN hx25 ⊢
  clear ho hs hown hI hrr hq hL0
  go_wp2_with fail
  refine (HMK.out _ HI.out).mono ?_
  rintro e w5 hh
  rcases hh with ⟨_, v, rfl, g, cc, rfl, hgc, hg, hr, hb⟩ | ⟨hm, _, _⟩
  case inr => rw [hmk] at hm; cases hm
  have r0 := keep2 hb r0
  have r1 := keep2 hb r1
  have h0 := (hb.frozen (p := ⟨X, 0, none⟩) hz1).trans h0
  have h1 := (hb.frozen (p := ⟨X, 1, none⟩) hz1).trans h1
  have hz1 : X < w5.heap.size := block_lt r0
  have HB := Lib.hid (HB.out.low (hb.mono HB.out.size))
  have HS := Lib.hid (HS.out.below hb HS.out.here)
  have HG := Lib.hid hg
  have hnn := HN.out
  have hn2 := HTW.out
  obtain ⟨n, hn⟩ : ∃ n, (mkL L rs).length = n := ⟨_, rfl⟩
  have HR := Lib.hid hr
  rw [hn] at hgc hnn hn2 ⊢
  have hglt : g < w5.heap.size := hr.lt (by omega)
  have hDT : Hid (DrS B X w5.heap.size g n cc a l c z q w (w5.alloc (.cells #[.int .i64 q, .slice (some ⟨g, 0, none⟩) n cc] 26))) := Lib.hid (by
    have hq := box_b w5 (.cells #[.int .i64 q, .slice (some ⟨g, 0, none⟩) n cc] 26)
    refine ⟨HS.out.alloc _, HB.out.trans (But.alloc _), by go_simp, by go_simp, by go_simp, keep2 hq r0, keep2 hq r1, (hq.frozen (p := ⟨X, 0, none⟩) hz1).trans h0, (hq.frozen (p := ⟨X, 1, none⟩) hz1).trans h1, ⟨_, hn, HR.out.on hq⟩, HX.out, hB, by omega, hz1, by omega, by rw [World.size_alloc]; omega⟩)
  clear r0 r1 h0 h1 hz1 HB HS hg hr HR hb hn HN HMK HI hln hmk HTW
  go_wp2_with fail
  obtain ⟨T, hT⟩ : ∃ T, w5.heap.size = T := ⟨_, rfl⟩
  rw [hT] at hDT
  (try rw [hT])
  clear hT hglt HG
  generalize (w5.alloc (.cells #[.int .i64 q, .slice (some ⟨g, 0, none⟩) n cc] 26)) = w6 at hDT ⊢
  refine (next_r _ _ _ _ _ _ _ hDT.out.ready).mono ?_
  rintro e w7 ⟨sw, rfl, hd, ho, hs⟩
  have HD := Lib.hid (hDT.out.call ho hs)
  clear hd ho hs hDT
  by_cases hs0 : sw = 0
  · subst hs0
    go_wp2_with fail
    have n1 := HD.out.ne
    have n0 : (0 : Int) < (n : Int) := by omega
    have n00 : 0 < n := by omega
    have n01 : ¬ n = 0 := by omega
    have C2 : Hid (∀ W M, W.heap.size = M → DrS B X T g n cc a l c z q w W → Calls Tryz.prog 63 #[.pointer (some ⟨B, 0, none⟩), .slice (some ⟨M, 0, none⟩) 3 3] (W.alloc (.cells #[.int .i64 0, .int .i64 1000000, .int .i64 1000001] 2)) (fun e w' => ∃ v, e = .returned (.int .i64 v) ∧ DrS B X T g n cc a l c z q w w')) :=
      Lib.hid (fun W M hM hW => by subst hM; exact (pick3 _ _ _ _ _ _ hW.ready).mono fun e w' ⟨v, he, _, ho, hs⟩ => ⟨v, he, hW.call ho hs⟩)
    have C1 : Hid (∀ W M, W.heap.size = M → DrS B X T g n cc a l c z q w W → Calls Tryz.prog 63 #[.pointer (some ⟨B, 0, none⟩), .slice (some ⟨M, 0, none⟩) 3 3] (W.alloc (.cells #[.int .i64 0, .int .i64 1000000, .int .i64 1000001] 2)).drew (fun e w' => ∃ v, e = .returned (.int .i64 v) ∧ DrS B X T g n cc a l c z q w w')) :=
      Lib.hid (fun W M hM hW => by
        subst hM
        refine (pick_r B W.heap.size a l c 3 z [0, 1000000, 1000001] _ ((hW.ready.alloc _).drew) (by have := hW.ready.here; omega) rfl (by decide) (by decide) (fun i hi => new_cells W [0, 1000000, 1000001] 2 i hi)).mono ?_
        rintro e w' ⟨v, he, _, ho, hs⟩
        exact ⟨v, he, ((hW.alloc _).drew).call ho hs⟩)
    have k1 := HD.out.c1
    go_region_held3 (fun w' => w'.cell? ⟨T, 1, none⟩ = some (.slice (some ⟨g, 0, none⟩) n cc) ∧ Hid (DrS B X T g n cc a l c z q w w'))
      (first
        | (go_split_ands; exact ⟨by assumption, by assumption⟩)
        | (go_split_ands; exact ⟨by assumption, Lib.hid (DrS.drew (Hid.out (by assumption)))⟩)
        | (go_split_ands; exact ⟨hD8.out.c1, hD8⟩)
        | (go_split_ands; exact ⟨hD8.out.drew.c1, Lib.hid hD8.out.drew⟩)
        | (go_split_ands; exact ⟨(hD8.out.put 0 _).c1, Lib.hid (hD8.out.put 0 _)⟩)
        | (go_split_ands; exact ⟨(hD8.out.drew.put 0 _).c1, Lib.hid (hD8.out.drew.put 0 _)⟩)
        | (go_split_ands; exact ⟨(HD.out.alloc _).c1, Lib.hid (HD.out.alloc _)⟩)
        | (go_split_ands; exact ⟨(HD.out.alloc _).drew.c1, Lib.hid (HD.out.alloc _).drew⟩)
        | (go_split_ands; exact ⟨(HD.out.drew.alloc _).c1, Lib.hid (HD.out.drew.alloc _)⟩)
        | (go_split_ands; exact ⟨(HD.out.drew.alloc _).drew.c1, Lib.hid (HD.out.drew.alloc _).drew⟩))
      (first
        | (go_split_ands; go_at_call 63; (first | ((with_reducible refine (C1.out w7 _ rfl HD.out).mono ?_)) | ((with_reducible refine (C2.out w7 _ rfl HD.out).mono ?_)) | ((with_reducible refine (C1.out w7.drew _ rfl HD.out.drew).mono ?_)) | ((with_reducible refine (C2.out w7.drew _ rfl HD.out.drew).mono ?_))); rintro e w8 ⟨v, rfl, hd8⟩; obtain ⟨ys, hyl, hyr⟩ := hd8.row; have kc := hyr.cell 0 (by omega); have kf := hyr.free 0 (by omega); have hD8 := Lib.hid hd8; clear hd8 hyl hyr))
    all_goals
      go_split_ands
      have HD := hD8
      (try obtain ⟨ws, hws⟩ : ∃ W, W = w8.setCell ⟨g, 0, none⟩ (.int .i64 v) := ⟨_, rfl⟩)
      have HD := Lib.hid (hD8.out.put 0 v)
      rw [← hws] at HD ⊢
      clear hws kc kf hD8
      have HP := HD
      obtain ⟨e0, e1⟩ := HP.out.res (.int .i64 q) (.slice (some ⟨g, 0, none⟩) n cc)
      have k0 := HD.out.c0
      have k1 := HD.out.c1
      have k2 := HD.out.r0
      have k3 := HD.out.r1
      have k4 := HD.out.h0
      have k5 := HD.out.h1
      have n1 := HD.out.ne
      have n2 : T ≠ g := fun e => n1 e.symm
      have n3 : X ≠ g := by have := HD.out.og; omega
      have n4 : g ≠ X := by have := HD.out.og; omega
      have n5 : X ≠ T := by have := HD.out.oT; omega
      have n6 : T ≠ X := by have := HD.out.oT; omega
      go_wp2_with fail
      exact bodyPost_ret (v := .agg #[.int .i64 q, .slice (some ⟨g, 0, none⟩) n cc]) (by simp [results, Tryz.results60, go_sem, e0, e1]) rfl (HP.out.post hgc (by omega) (by omega) (by omega))

  have b0 : (sw == 0) = false := by simpa using hs0
  by_cases hs1 : sw = 1
  · subst hs1
    clear b0 hs0
    have hidx : ((n : Int) - 1).toNat = n - 1 := by omega
    obtain ⟨ys, hyl, hyr⟩ := HD.out.row
    have kc := hyr.cell (n - 1) (by omega)
    have kf := hyr.free (n - 1) (by omega)
    rw [Nat.zero_add] at kc kf
    have HP := Lib.hid (HD.out.put (n - 1) 1)
    have q1 : (0 : Int) ≤ (n : Int) - 1 := by omega
    have q2 : (n : Int) - 1 < (n : Int) := by omega
    obtain ⟨e0, e1⟩ := HP.out.res (.int .i64 q) (.slice (some ⟨g, 0, none⟩) n cc)
    clear hyr hyl
    have k0 := HD.out.c0
    have k1 := HD.out.c1
    have k2 := HD.out.r0
    have k3 := HD.out.r1
    have k4 := HD.out.h0
    have k5 := HD.out.h1
    have n1 := HD.out.ne
    have n2 : T ≠ g := fun e => n1 e.symm
    have n3 : X ≠ g := by have := HD.out.og; omega
    have n4 : g ≠ X := by have := HD.out.og; omega
    have n5 : X ≠ T := by have := HD.out.oT; omega
    have n6 : T ≠ X := by have := HD.out.oT; omega
    go_wp2_with fail
    exact bodyPost_ret (v := .agg #[.int .i64 q, .slice (some ⟨g, 0, none⟩) n cc]) (by simp [results, Tryz.results60, go_sem, e0, e1]) rfl (HP.out.post hgc (by omega) (by omega) (by omega))
  have b1 : (sw == 1) = false := by simpa using hs1
  by_cases hs2 : sw = 2
  · subst hs2
    clear b0 hs0 b1 hs1
    go_wp2_with fail
    refine (pick3 _ _ _ _ _ _ HD.out.ready).mono ?_
    rintro e w8 ⟨v, rfl, hd, ho, hs⟩
    have hv := mem3 hd
    have hv1 : -1 ≤ v ∧ v ≤ 101 := by omega
    have HD := Lib.hid (HD.out.call ho hs)
    clear hd ho hs hv
    have kf := HD.out.f0
    have HP := Lib.hid (HD.out.first v)
    obtain ⟨e0, e1⟩ := HP.out.res (.int .i64 v) (.slice (some ⟨g, 0, none⟩) n cc)
    have k0 := HD.out.c0
    have k1 := HD.out.c1
    have k2 := HD.out.r0
    have k3 := HD.out.r1
    have k4 := HD.out.h0
    have k5 := HD.out.h1
    have n1 := HD.out.ne
    have n2 : T ≠ g := fun e => n1 e.symm
    have n3 : X ≠ g := by have := HD.out.og; omega
    have n4 : g ≠ X := by have := HD.out.og; omega
    have n5 : X ≠ T := by have := HD.out.oT; omega
    have n6 : T ≠ X := by have := HD.out.oT; omega
    go_wp2_with fail
    exact bodyPost_ret (v := .agg #[.int .i64 v, .slice (some ⟨g, 0, none⟩) n cc]) (by simp [results, Tryz.results60, go_sem, e0, e1]) rfl (HP.out.post hgc (by omega) (by omega) (by omega))
  have b2 : (sw == 2) = false := by simpa using hs2
  have HP := HD
  obtain ⟨e0, e1⟩ := HP.out.res (.int .i64 q) (.slice (some ⟨g, 0, none⟩) n cc)
  have k0 := HD.out.c0
  have k1 := HD.out.c1
  have k2 := HD.out.r0
  have k3 := HD.out.r1
  have k4 := HD.out.h0
  have k5 := HD.out.h1
  have n1 := HD.out.ne
  have n2 : T ≠ g := fun e => n1 e.symm
  have n3 : X ≠ g := by have := HD.out.og; omega
  have n4 : g ≠ X := by have := HD.out.og; omega
  have n5 : X ≠ T := by have := HD.out.oT; omega
  have n6 : T ≠ X := by have := HD.out.oT; omega
  go_wp2_with fail
  exact bodyPost_ret (v := .agg #[.int .i64 q, .slice (some ⟨g, 0, none⟩) n cc]) (by simp [results, Tryz.results60, go_sem, e0, e1]) rfl (HP.out.post hgc (by omega) (by omega) (by omega))

end Go.Proofs.YtlcmgihaelgclaaGreat
