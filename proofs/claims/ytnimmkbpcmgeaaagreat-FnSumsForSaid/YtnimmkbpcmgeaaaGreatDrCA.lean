/- The model's draws of what the columns take: a table, a rate, an age. -/
import Derived.Test.YtnimmkbpcmgeaaaGreatTabV
import Derived.Test.YtnimmkbpcmgeaaaGreatIntD
namespace Go.Proofs.YtnimmkbpcmgeaaaGreat
open Go.ChangeShapes Go.WideShapes Go.ChangeAt Go.RowKit
set_option linter.unusedVariables false

/-- a drawn table and a rate -/
def DrawnR (B : Nat) (a : Option Addr) (l c : Nat) (z : List Int) (w : World) (e : Ending) (w' : World) : Prop :=
  ∃ F ta tn tc xs r, e = .returned (.tuple #[.agg #[.int .i64 F, .slice ta tn tc], .int .i64 r]) ∧ Ints w' ta tn xs ∧ tn ≤ tc ∧ tn ≤ 4096 ∧ -1 ≤ F ∧ F ≤ 101 ∧ (∀ x, ta = some x → w.heap.size ≤ x.block) ∧ But B w w' ∧ Ready B a l c z w'

theorem putX (w1 : World) (X : Nat) (u v : Value) (g0 : ∃ v, w1.cell? ⟨X, 0, none⟩ = some v) (g1 : ∃ v, w1.cell? ⟨X, 1, none⟩ = some v) :
    ((w1.setCell ⟨X, 0, none⟩ u).setCell ⟨X, 1, none⟩ v).cell? ⟨X, 0, none⟩ = some u ∧ ((w1.setCell ⟨X, 0, none⟩ u).setCell ⟨X, 1, none⟩ v).cell? ⟨X, 1, none⟩ = some v ∧ Only X w1 ((w1.setCell ⟨X, 0, none⟩ u).setCell ⟨X, 1, none⟩ v) := by
  obtain ⟨v0, g0⟩ := g0
  obtain ⟨v1, g1⟩ := g1
  have n1 : (⟨X, 0, none⟩ : Addr) ≠ ⟨X, 1, none⟩ := fun e => by injection e; omega
  exact ⟨by rw [far_set n1]; exact World.cell?_setCell_same' _ _ _ (by rw [g0]; rfl), World.cell?_setCell_same' _ _ _ (by rw [far_set n1.symm, g1]; rfl), ((Only.refl _ _).setCell (p := ⟨X, 0, none⟩) rfl _).setCell (p := ⟨X, 1, none⟩) rfl _⟩

set_option maxRecDepth 100000 in
set_option maxHeartbeats 1000000 in
theorem drawTR (B : Nat) (a : Option Addr) (l c : Nat) (z : List Int) (w : World) (h : Ready B a l c z w) : Calls Tryz.prog 42 #[.pointer (some ⟨B, 0, none⟩)] w (DrawnR B a l c z w) := by
  have hB := h.here
  have HS := Lib.hid (h.alloc (.cells #[.int .i64 0, .slice none 0 0] 26))
  clear h
  go_enter Tryz.func42, Tryz.ntmps42
  go_wp2_with fail
  refine (dtable B a l c z _ HS.out).mono ?_
  rintro e w2 ⟨F, ta, tn, tc, xs, rfl, hI, htc, htn, f0, f1, far, ho, hs⟩
  have hX : w.heap.size < (w.alloc (.cells #[.int .i64 0, .slice none 0 0] 26)).heap.size := by simp
  have r0 : w2.cell? ⟨w.heap.size, 0, none⟩ = some (.int .i64 0) := (ho.cell (p := ⟨w.heap.size, 0, none⟩) hX (by show w.heap.size ≠ B; omega)).trans (by go_simp)
  have r1 : w2.cell? ⟨w.heap.size, 1, none⟩ = some (.slice none 0 0) := (ho.cell (p := ⟨w.heap.size, 1, none⟩) hX (by show w.heap.size ≠ B; omega)).trans (by go_simp)
  have h0 : w2.frozen? ⟨w.heap.size, 0, none⟩ = false := (ho.frozen (p := ⟨w.heap.size, 0, none⟩) hX (by show w.heap.size ≠ B; omega)).trans (by go_simp)
  have h1 : w2.frozen? ⟨w.heap.size, 1, none⟩ = false := (ho.frozen (p := ⟨w.heap.size, 1, none⟩) hX (by show w.heap.size ≠ B; omega)).trans (by go_simp)
  have HI := Lib.hid hI
  have HF : Hid (∀ x, ta = some x → w.heap.size < x.block) := Lib.hid (fun x hx => by have := far x hx; rw [World.size_alloc] at this; omega)
  have HO := Lib.hid ((But.alloc (B := B) (w := w) (.cells #[.int .i64 0, .slice none 0 0] 26)).trans ho)
  have HS2 := Lib.hid hs
  clear hI far ho hs HS hX
  go_wp2_with fail
  refine (rate_r B a l c z _ HS2.out).mono ?_
  rintro e w3 ⟨r, rfl, hd, ho, hs⟩
  have hX2 : w.heap.size < w2.heap.size := block_lt r0
  have r0 := (ho.cell (p := ⟨w.heap.size, 0, none⟩) hX2 (by show w.heap.size ≠ B; omega)).trans r0
  have r1 := (ho.cell (p := ⟨w.heap.size, 1, none⟩) hX2 (by show w.heap.size ≠ B; omega)).trans r1
  have h0 := (ho.frozen (p := ⟨w.heap.size, 0, none⟩) hX2 (by show w.heap.size ≠ B; omega)).trans h0
  have h1 := (ho.frozen (p := ⟨w.heap.size, 1, none⟩) hX2 (by show w.heap.size ≠ B; omega)).trans h1
  have HI3 := Lib.hid (HI.out.butT ho (fun x hx => by have := HF.out x hx; omega))
  have HO3 := Lib.hid (HO.out.trans ho)
  have HS3 := Lib.hid hs
  obtain ⟨e0, e1, hox⟩ := putX w3 w.heap.size (.int .i64 F) (.slice ta tn tc) ⟨_, r0⟩ ⟨_, r1⟩
  have HX := Lib.hid hox
  clear ho hs hd hox HI HO HS2 hX2
  go_wp2_with fail
  refine bodyPost_ret (v := .tuple #[.agg #[.int .i64 F, .slice ta tn tc], .int .i64 r]) (by simp [results, Tryz.results42, go_sem, e0, e1]) rfl ?_
  refine ⟨F, ta, tn, tc, xs, r, rfl, HI3.out.onlyT HX.out (fun x hx => by have := HF.out x hx; omega), htc, htn, f0, f1, fun x hx => by have := HF.out x hx; omega, ?_, HS3.out.below (HX.out.below (Nat.le_refl _)) hB⟩
  have hh := HX.out
  exact ⟨hh.os.trans HO3.out.os, hh.tape.trans HO3.out.tape, hh.output.trans HO3.out.output, by rw [hh.size]; exact HO3.out.size, fun k hk hk2 => (hh.block k (by omega)).trans (HO3.out.block k hk hk2)⟩

def CaPost (w : World) (e : Ending) (w' : World) : Prop :=
  ∃ F ta tn tc xs r x, e = .returned (.tuple #[.agg #[.int .i64 F, .slice ta tn tc], .int .i64 r, .int .i64 x]) ∧ Ints w' ta tn xs ∧ tn ≤ tc ∧ tn ≤ 4096 ∧ Below w.heap.size w w'

theorem SvS.finCA {B X T : Nat} {a : Option Addr} {l c : Nat} {z : List Int} {F : Int} {ta : Option Addr} {tn tc : Nat} {xs : List Int} {w w1 : World} {r x : Int} (h : Hid (SvS B X T a l c z F ta tn tc xs w w1)) (hn : tn ≤ tc) (hm : tn ≤ 4096) :
    CaPost w (.returned (.tuple #[.agg #[.int .i64 F, .slice ta tn tc], .int .i64 r, .int .i64 x])) w1 :=
  ⟨F, ta, tn, tc, xs, r, x, rfl, h.out.ints, hn, hm, by rw [h.out.eX]; exact h.out.low⟩

end Go.Proofs.YtnimmkbpcmgeaaaGreat
