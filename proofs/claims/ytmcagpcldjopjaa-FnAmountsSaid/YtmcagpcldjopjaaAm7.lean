/- Merged: TabV, IntD, DrCA. -/
import Derived.Test.YtmcagpcldjopjaaAm1
import Derived.Test.YtmcagpcldjopjaaAm2
import Derived.Test.YtmcagpcldjopjaaAm6

/- The model's draw of what SurvivalOf takes. -/
namespace Go.Proofs.Ytmcagpcldjopjaa
open Go.ChangeShapes Go.WideShapes Go.ChangeAt Go.RowKit
set_option linter.unusedVariables false

/-- in the midst of it: X the result's cells, B the source, T the table's box -/
structure SvS (B X T : Nat) (a : Option Addr) (l c : Nat) (z : List Int) (F : Int) (ta : Option Addr) (tn tc : Nat) (xs : List Int) (w w' : World) : Prop where
  ready : Ready B a l c z w'
  low : Below X w w'
  c0 : w'.cell? ⟨T, 0, none⟩ = some (.int .i64 F)
  c1 : w'.cell? ⟨T, 1, none⟩ = some (.slice ta tn tc)
  r0 : ∃ v, w'.cell? ⟨X, 0, none⟩ = some v
  r1 : ∃ v, w'.cell? ⟨X, 1, none⟩ = some v
  h0 : w'.frozen? ⟨X, 0, none⟩ = false
  h1 : w'.frozen? ⟨X, 1, none⟩ = false
  ints : Ints w' ta tn xs
  far : ∀ x, ta = some x → B < x.block
  eX : w.heap.size = X
  oB : X < B
  oT : B < T
  ap : Apart a z X

theorem SvS.call {B X T : Nat} {a : Option Addr} {l c : Nat} {z : List Int} {F : Int} {ta : Option Addr} {tn tc : Nat} {xs : List Int} {w w1 w2 : World} (h : SvS B X T a l c z F ta tn tc xs w w1) (ho : But B w1 w2) (hs : Ready B a l c z w2) : SvS B X T a l c z F ta tn tc xs w w2 := by
  have oB := h.oB
  have oT := h.oT
  obtain ⟨u0, g0⟩ := h.r0
  obtain ⟨u1, g1⟩ := h.r1
  have hX : X < w1.heap.size := block_lt g0
  exact ⟨hs, h.low.trans (ho.below (by omega) (by omega)), (ho.cell (p := ⟨T, 0, none⟩) (block_lt h.c0) (by show T ≠ B; omega)).trans h.c0, (ho.cell (p := ⟨T, 1, none⟩) (block_lt h.c1) (by show T ≠ B; omega)).trans h.c1,
    ⟨u0, (ho.cell (p := ⟨X, 0, none⟩) hX (by show X ≠ B; omega)).trans g0⟩, ⟨u1, (ho.cell (p := ⟨X, 1, none⟩) hX (by show X ≠ B; omega)).trans g1⟩, (ho.frozen (p := ⟨X, 0, none⟩) hX (by show X ≠ B; omega)).trans h.h0, (ho.frozen (p := ⟨X, 1, none⟩) hX (by show X ≠ B; omega)).trans h.h1,
    h.ints.butT ho (fun x hx => by have := h.far x hx; omega), h.far, h.eX, oB, oT, h.ap⟩

theorem SvS.alloc {B X T : Nat} {a : Option Addr} {l c : Nat} {z : List Int} {F : Int} {ta : Option Addr} {tn tc : Nat} {xs : List Int} {w w1 : World} (h : SvS B X T a l c z F ta tn tc xs w w1) (o : Obj) : SvS B X T a l c z F ta tn tc xs w (w1.alloc o) := h.call (But.alloc _) (h.ready.alloc _)

theorem SvS.drew {B X T : Nat} {a : Option Addr} {l c : Nat} {z : List Int} {F : Int} {ta : Option Addr} {tn tc : Nat} {xs : List Int} {w w1 : World} (h : SvS B X T a l c z F ta tn tc xs w w1) : SvS B X T a l c z F ta tn tc xs w w1.drew := h.call (But.refl _ _).drew h.ready.drew

/-- the result is written -/
theorem SvS.put {B X T : Nat} {a : Option Addr} {l c : Nat} {z : List Int} {F : Int} {ta : Option Addr} {tn tc : Nat} {xs : List Int} {w w1 : World} (h : SvS B X T a l c z F ta tn tc xs w w1) (u v : Value) : SvS B X T a l c z F ta tn tc xs w ((w1.setCell ⟨X, 0, none⟩ u).setCell ⟨X, 1, none⟩ v) ∧
    ((w1.setCell ⟨X, 0, none⟩ u).setCell ⟨X, 1, none⟩ v).cell? ⟨X, 0, none⟩ = some u ∧ ((w1.setCell ⟨X, 0, none⟩ u).setCell ⟨X, 1, none⟩ v).cell? ⟨X, 1, none⟩ = some v := by
  have oB := h.oB
  have oT := h.oT
  obtain ⟨u0, g0⟩ := h.r0
  obtain ⟨u1, g1⟩ := h.r1
  have n1 : (⟨X, 0, none⟩ : Addr) ≠ ⟨X, 1, none⟩ := fun e => by injection e; omega
  have e0 : ((w1.setCell ⟨X, 0, none⟩ u).setCell ⟨X, 1, none⟩ v).cell? ⟨X, 0, none⟩ = some u := by rw [far_set n1]; exact World.cell?_setCell_same' _ _ _ (by rw [g0]; rfl)
  have e1 : ((w1.setCell ⟨X, 0, none⟩ u).setCell ⟨X, 1, none⟩ v).cell? ⟨X, 1, none⟩ = some v := World.cell?_setCell_same' _ _ _ (by rw [far_set n1.symm, g1]; rfl)
  have ho : Only X w1 ((w1.setCell ⟨X, 0, none⟩ u).setCell ⟨X, 1, none⟩ v) := ((Only.refl _ _).setCell (p := ⟨X, 0, none⟩) rfl _).setCell (p := ⟨X, 1, none⟩) rfl _
  refine ⟨⟨?_, h.low.trans (ho.below (Nat.le_refl _)), (ho.cell (p := ⟨T, 0, none⟩) (by show T ≠ X; omega)).trans h.c0, (ho.cell (p := ⟨T, 1, none⟩) (by show T ≠ X; omega)).trans h.c1, ⟨_, e0⟩, ⟨_, e1⟩, ?_, ?_, h.ints.onlyT ho (fun x hx => by have := h.far x hx; omega), h.far, h.eX, oB, oT, h.ap⟩, e0, e1⟩
  · obtain ⟨⟨t, x, S⟩, r, p⟩ := h.ready
    have hne : B ≠ X := by omega
    exact ⟨⟨t, x, by rw [ho.size]; exact S.here, (ho.cell (p := ⟨B, 0, none⟩) hne).trans S.code, (ho.cell (p := ⟨B, 1, none⟩) hne).trans S.att, (ho.cell (p := ⟨B, 2, none⟩) hne).trans S.seed,
      (ho.frozen (p := ⟨B, 0, none⟩) hne).trans S.free0, (ho.frozen (p := ⟨B, 1, none⟩) hne).trans S.free1, (ho.frozen (p := ⟨B, 2, none⟩) hne).trans S.free2, S.t0, S.tl, S.x0, S.xl⟩, r.below (ho.below (Nat.le_refl X)) h.ap, p⟩
  · rw [World.frozen?_setCell, World.frozen?_setCell]; exact h.h0
  · rw [World.frozen?_setCell, World.frozen?_setCell]; exact h.h1

theorem SvS.three {B X T : Nat} {a : Option Addr} {l c : Nat} {z : List Int} {F : Int} {ta : Option Addr} {tn tc : Nat} {xs : List Int} {w w1 : World} (h : Hid (SvS B X T a l c z F ta tn tc xs w w1)) : w1.cell? ⟨T, 0, none⟩ = some (.int .i64 F) ∧ w1.cell? ⟨T, 1, none⟩ = some (.slice ta tn tc) ∧ Hid (SvS B X T a l c z F ta tn tc xs w w1) := ⟨h.out.c0, h.out.c1, h⟩

def SvPost (w : World) (e : Ending) (w' : World) : Prop :=
  ∃ F ta tn tc xs x y, e = .returned (.tuple #[.agg #[.int .i64 F, .slice ta tn tc], .int .i64 x, .int .i64 y]) ∧ Ints w' ta tn xs ∧ tn ≤ tc ∧ tn ≤ 4096 ∧ Below w.heap.size w w'

theorem SvS.fin {B X T : Nat} {a : Option Addr} {l c : Nat} {z : List Int} {F : Int} {ta : Option Addr} {tn tc : Nat} {xs : List Int} {w w1 : World} {x y : Int} (h : Hid (SvS B X T a l c z F ta tn tc xs w w1)) (hn : tn ≤ tc) (hm : tn ≤ 4096) :
    SvPost w (.returned (.tuple #[.agg #[.int .i64 F, .slice ta tn tc], .int .i64 x, .int .i64 y])) w1 :=
  ⟨F, ta, tn, tc, xs, x, y, rfl, h.out.ints, hn, hm, by rw [h.out.eX]; exact h.out.low⟩

end Go.Proofs.Ytmcagpcldjopjaa

/- The draws of chapter 4: numbers, and a list with a rate, whatever they are. -/
namespace Go.Proofs.Ytmcagpcldjopjaa
open Go.ChangeShapes Go.WideShapes Go.ChangeAt Go.RowKit
set_option linter.unusedVariables false
set_option maxRecDepth 100000

theorem bigI_any (a : Option Addr) (l c : Nat) (w : World) : Calls Try.prog 13 #[.slice a l c] w fun e w' => e = .returned (.bool (decide (4096 < (l : Int)))) ∧ w = w' := by
  go_enter Try.func13, Try.ntmps13
  go_wp2
  go_ret
  exact ⟨rfl, rfl⟩

theorem rate_r (B : Nat) (a : Option Addr) (l c : Nat) (z : List Int) (w : World) (h : Ready B a l c z w) :
    Calls Try.prog 87 #[.pointer (some ⟨B, 0, none⟩)] w (NumPost B a l c z Any w) := by
  have HS := Lib.hid h
  have HO := Lib.hid (But.refl B w)
  clear h
  go_enter Try.func87, Try.ntmps87
  go_wp2_with (first | (go_at_call 55; refine (next_r _ _ _ _ _ _ _ HS.out).mono ?_; rintro e w1 ⟨r, rfl, hd, ho, hs⟩; have HO := Lib.hid (HO.out.trans ho); have HS := Lib.hid hs; clear ho hs hd) | (go_at_call 58; ((with_reducible refine (pick4 B _ _ _ _ _ _ HS.out).mono ?_); rintro e w1 ⟨r, rfl, hd, ho, hs⟩; have HO := Lib.hid (HO.out.trans ho); have HS := Lib.hid hs; clear ho hs hd)) | (go_at_call 58; ((with_reducible refine (pick5 B _ _ _ _ _ _ _ HS.out).mono ?_); rintro e w1 ⟨r, rfl, hd, ho, hs⟩; have HO := Lib.hid (HO.out.trans ho); have HS := Lib.hid hs; clear ho hs hd)))
  all_goals
    go_ret
    exact ⟨_, rfl, trivial, HO.out, HS.out⟩

def ThreePost (w : World) (e : Ending) (w' : World) : Prop := ∃ x y z, e = .returned (.tuple #[.int .i64 x, .int .i64 y, .int .i64 z]) ∧ Below w.heap.size w w'

/-! ### a list and a rate -/

def LrPost (w : World) (e : Ending) (w' : World) : Prop := ∃ a l c xs r, e = .returned (.tuple #[.slice a l c, .int .i64 r]) ∧ Ints w' a l xs ∧ l ≤ 4096 ∧ Below w.heap.size w w'

def zeroL (l : Nat) : Obj := .cells ((List.replicate l (0 : Int)).map (Value.int .i64)).toArray 2

theorem make_zeroL (l : Nat) (n : Int) (h : n = l) (hl : l ≤ 1048576) (w : World) :
    (Instr.makeSlice 24 (.int .i64 n) (.int .i64 n)).run Try.prog w = .ok (.slice (some ⟨w.heap.size, 0, none⟩) l l) (w.alloc (zeroL l)) := by
  subst h; exact make_ints l hl w

theorem Blk.newL (w : World) (l : Nat) : Blk (w.alloc (zeroL l)) w.heap.size (List.replicate l 0) := Blk.new w (List.replicate l 0)

theorem one_newD (w : World) (x : Int) : ∀ j u, [Value.int .i64 x][j]? = some u → (w.alloc (.cells #[.int .i64 x] 2)).cell? ((⟨w.heap.size, 0, none⟩ : Addr).add j) = some u := by
  intro j u hj
  match j, hj with
  | 0, hj => simp at hj; subst hj; simp [Addr.add]

theorem OwnI.alloc4 {base : Nat} {w : World} {v : Value} {xs : List Int} (h : OwnI base w v xs) (o : Obj) : OwnI base (w.alloc o) v xs := h.same fun k _ hl => Below.heap_alloc _ _ _ hl

/-- a list keeps its numbers while the source of the draws turns -/
theorem Ints.but4 {w w' : World} {a : Option Addr} {l B : Nat} {xs : List Int} (h : Ints w a l xs) (ho : But B w w') (hne : ∀ x, a = some x → x.block ≠ B) : Ints w' a l xs := by
  have hlt := h.lt
  obtain ⟨h1, h2, h3⟩ := h
  refine ⟨h1, h2, ?_⟩
  rcases h3 with h0 | ⟨b, off, rfl, hc⟩
  · exact .inl h0
  · by_cases hl : l = 0
    · exact .inl hl
    · exact .inr ⟨b, off, rfl, fun i hi => by rw [ho.cell (p := ⟨b, off + i, none⟩) (hlt ⟨b, off, none⟩ rfl (by omega)) (hne ⟨b, off, none⟩ rfl)]; exact hc i hi⟩

theorem OwnI.ints4 {base : Nat} {w : World} {v : Value} {xs : List Int} (h : OwnI base w v xs) (hm : xs.length ≤ 4096) : ∃ a c, v = .slice a xs.length c ∧ Ints w a xs.length xs ∧ ∀ x, a = some x → base ≤ x.block := by
  have hh := h
  obtain ⟨h0, ⟨rfl, hn⟩ | ⟨g, cap, cur, rfl, hg, hb, r⟩⟩ := h
  · rw [hn]
    exact ⟨none, 0, rfl, ⟨by simpa using hn, by omega, .inl rfl⟩, fun x hx => by cases hx⟩
  · refine ⟨_, cap, rfl, ⟨rfl, by omega, .inr ⟨g, 0, rfl, fun i hi => ?_⟩⟩, fun x hx => by cases hx; exact hg⟩
    rw [Nat.zero_add, hh.cellAt i (by omega)]
    simp [List.getD, hi]

end Go.Proofs.Ytmcagpcldjopjaa

/- The model's draws of what the columns take: a table, a rate, an age. -/
namespace Go.Proofs.Ytmcagpcldjopjaa
open Go.ChangeShapes Go.WideShapes Go.ChangeAt Go.RowKit
set_option linter.unusedVariables false

/-- a drawn table and a rate -/
def DrawnR (B : Nat) (a : Option Addr) (l c : Nat) (z : List Int) (w : World) (e : Ending) (w' : World) : Prop :=
  ∃ F ta tn tc xs r, e = .returned (.tuple #[.agg #[.int .i64 F, .slice ta tn tc], .int .i64 r]) ∧ Ints w' ta tn xs ∧ tn ≤ tc ∧ tn ≤ 4096 ∧ -1 ≤ F ∧ F ≤ 101 ∧ (∀ x, ta = some x → w.heap.size ≤ x.block) ∧ But B w w' ∧ Ready B a l c z w'

theorem putX (w1 : World) (X : Nat) (u v : Value) (g0 : ∃ v, w1.cell? ⟨X, 0, none⟩ = some v) (g1 : ∃ v, w1.cell? ⟨X, 1, none⟩ = some v) :
    ((w1.setCell ⟨X, 0, none⟩ u).setCell ⟨X, 1, none⟩ v).cell? ⟨X, 0, none⟩ = some u ∧ ((w1.setCell ⟨X, 0, none⟩ u).setCell ⟨X, 1, none⟩ v).cell? ⟨X, 1, none⟩ = some v ∧ Only X w1 ((w1.setCell ⟨X, 0, none⟩ u).setCell ⟨X, 1, none⟩ v) := by
  obtain ⟨v0, g0⟩ := g0
  obtain ⟨v1, g1⟩ := g1
  have n1 : (⟨X, 0, none⟩ : Addr) ≠ ⟨X, 1, none⟩ := fun e => by injection e; omega
  exact ⟨by rw [far_set n1]; exact World.cell?_setCell_same' _ _ _ (by rw [g0]; rfl), World.cell?_setCell_same' _ _ _ (by rw [far_set n1.symm, g1]; rfl), ((Only.refl _ _).setCell (p := ⟨X, 0, none⟩) rfl _).setCell (p := ⟨X, 1, none⟩) rfl _⟩

set_option maxRecDepth 100000 in
set_option maxHeartbeats 1000000 in
theorem drawTR (B : Nat) (a : Option Addr) (l c : Nat) (z : List Int) (w : World) (h : Ready B a l c z w) : Calls Try.prog 54 #[.pointer (some ⟨B, 0, none⟩)] w (DrawnR B a l c z w) := by
  have hB := h.here
  have HS := Lib.hid (h.alloc (.cells #[.int .i64 0, .slice none 0 0] 26))
  clear h
  go_enter Try.func54, Try.ntmps54
  go_wp2_with fail
  refine (dtable B a l c z _ HS.out).mono ?_
  rintro e w2 ⟨F, ta, tn, tc, xs, rfl, hI, htc, htn, f0, f1, far, ho, hs⟩
  have hX : w.heap.size < (w.alloc (.cells #[.int .i64 0, .slice none 0 0] 26)).heap.size := by simp
  have r0 : w2.cell? ⟨w.heap.size, 0, none⟩ = some (.int .i64 0) := (ho.cell (p := ⟨w.heap.size, 0, none⟩) hX (by show w.heap.size ≠ B; omega)).trans (by go_simp)
  have r1 : w2.cell? ⟨w.heap.size, 1, none⟩ = some (.slice none 0 0) := (ho.cell (p := ⟨w.heap.size, 1, none⟩) hX (by show w.heap.size ≠ B; omega)).trans (by go_simp)
  have h0 : w2.frozen? ⟨w.heap.size, 0, none⟩ = false := (ho.frozen (p := ⟨w.heap.size, 0, none⟩) hX (by show w.heap.size ≠ B; omega)).trans (by go_simp)
  have h1 : w2.frozen? ⟨w.heap.size, 1, none⟩ = false := (ho.frozen (p := ⟨w.heap.size, 1, none⟩) hX (by show w.heap.size ≠ B; omega)).trans (by go_simp)
  have HI := Lib.hid hI
  have HF : Hid (∀ x, ta = some x → w.heap.size < x.block) := Lib.hid (fun x hx => by have := far x hx; rw [World.size_alloc] at this; omega)
  have HO := Lib.hid ((But.alloc (B := B) (w := w) (.cells #[.int .i64 0, .slice none 0 0] 26)).trans ho)
  have HS2 := Lib.hid hs
  clear hI far ho hs HS hX
  go_wp2_with fail
  refine (rate_r B a l c z _ HS2.out).mono ?_
  rintro e w3 ⟨r, rfl, hd, ho, hs⟩
  have hX2 : w.heap.size < w2.heap.size := block_lt r0
  have r0 := (ho.cell (p := ⟨w.heap.size, 0, none⟩) hX2 (by show w.heap.size ≠ B; omega)).trans r0
  have r1 := (ho.cell (p := ⟨w.heap.size, 1, none⟩) hX2 (by show w.heap.size ≠ B; omega)).trans r1
  have h0 := (ho.frozen (p := ⟨w.heap.size, 0, none⟩) hX2 (by show w.heap.size ≠ B; omega)).trans h0
  have h1 := (ho.frozen (p := ⟨w.heap.size, 1, none⟩) hX2 (by show w.heap.size ≠ B; omega)).trans h1
  have HI3 := Lib.hid (HI.out.butT ho (fun x hx => by have := HF.out x hx; omega))
  have HO3 := Lib.hid (HO.out.trans ho)
  have HS3 := Lib.hid hs
  obtain ⟨e0, e1, hox⟩ := putX w3 w.heap.size (.int .i64 F) (.slice ta tn tc) ⟨_, r0⟩ ⟨_, r1⟩
  have HX := Lib.hid hox
  clear ho hs hd hox HI HO HS2 hX2
  go_wp2_with fail
  refine bodyPost_ret (v := .tuple #[.agg #[.int .i64 F, .slice ta tn tc], .int .i64 r]) (by simp [results, Try.results54, go_sem, e0, e1]) rfl ?_
  refine ⟨F, ta, tn, tc, xs, r, rfl, HI3.out.onlyT HX.out (fun x hx => by have := HF.out x hx; omega), htc, htn, f0, f1, fun x hx => by have := HF.out x hx; omega, ?_, HS3.out.below (HX.out.below (Nat.le_refl _)) hB⟩
  have hh := HX.out
  exact ⟨hh.os.trans HO3.out.os, hh.tape.trans HO3.out.tape, hh.output.trans HO3.out.output, by rw [hh.size]; exact HO3.out.size, fun k hk hk2 => (hh.block k (by omega)).trans (HO3.out.block k hk hk2)⟩

def CaPost (w : World) (e : Ending) (w' : World) : Prop :=
  ∃ F ta tn tc xs r x, e = .returned (.tuple #[.agg #[.int .i64 F, .slice ta tn tc], .int .i64 r, .int .i64 x]) ∧ Ints w' ta tn xs ∧ tn ≤ tc ∧ tn ≤ 4096 ∧ Below w.heap.size w w'

theorem SvS.finCA {B X T : Nat} {a : Option Addr} {l c : Nat} {z : List Int} {F : Int} {ta : Option Addr} {tn tc : Nat} {xs : List Int} {w w1 : World} {r x : Int} (h : Hid (SvS B X T a l c z F ta tn tc xs w w1)) (hn : tn ≤ tc) (hm : tn ≤ 4096) :
    CaPost w (.returned (.tuple #[.agg #[.int .i64 F, .slice ta tn tc], .int .i64 r, .int .i64 x])) w1 :=
  ⟨F, ta, tn, tc, xs, r, x, rfl, h.out.ints, hn, hm, by rw [h.out.eX]; exact h.out.low⟩

end Go.Proofs.Ytmcagpcldjopjaa
