/- Merged: MakeL, MakeM. -/
import Derived.Test.YtonkaoacohocjaaDoorLt4

/- The exact law on MakeTable: the program answers as its model, what it hands over is its own. -/
namespace Go.Proofs.YtonkaoacohocjaaDoor
open Go.ChangeShapes Go.WideShapes Go.ChangeAt Go.RowKit
set_option linter.unusedVariables false
set_option maxRecDepth 100000

/-- a list that a call has handed over: nil, or cells of a block from 'base' on -/
def TbR (base : Nat) (w : World) (a : Option Addr) (n : Nat) (ys : List Int) : Prop :=
  ys.length = n ∧ n ≤ 4096 ∧ ((a = none ∧ n = 0) ∨ ∃ g off, a = some ⟨g, off, none⟩ ∧ base ≤ g ∧ g < w.heap.size ∧ RowI w g off ys)

theorem TbR.ints {base n : Nat} {w : World} {a : Option Addr} {ys : List Int} (h : TbR base w a n ys) : Ints w a n ys := by
  obtain ⟨h1, h2, ⟨rfl, rfl⟩ | ⟨g, off, rfl, _, _, hr⟩⟩ := h
  · exact ⟨h1, by omega, .inl rfl⟩
  · exact hr.ints h1 (by omega)

/-- of what was there only a's block may have turned -/
structure ButA (a : Option Addr) (w w' : World) : Prop where
  os : w'.os = w.os
  tape : w'.tape = w.tape
  output : w'.output = w.output
  size : w.heap.size ≤ w'.heap.size
  block : ∀ k, k < w.heap.size → (∀ x, a = some x → x.block ≠ k) → w'.heap[k]? = w.heap[k]?

theorem below_butA {a : Option Addr} {w w' : World} (h : Below w.heap.size w w') : ButA a w w' := ⟨h.os, h.tape, h.output, h.size, fun k hk _ => h.block k hk⟩

theorem ButA.trans {a : Option Addr} {w1 w2 w3 : World} (h : ButA a w1 w2) (k : ButA a w2 w3) : ButA a w1 w3 :=
  ⟨k.os.trans h.os, k.tape.trans h.tape, k.output.trans h.output, Nat.le_trans h.size k.size, fun i hi hb => (k.block i (Nat.lt_of_lt_of_le hi h.size) hb).trans (h.block i hi hb)⟩

theorem TbR.far {base n : Nat} {w : World} {a : Option Addr} {ys : List Int} (h : TbR base w a n ys) : ∀ x, a = some x → base ≤ x.block ∧ x.block < w.heap.size := by
  intro x hx
  obtain ⟨_, _, ⟨rfl, _⟩ | ⟨g, off, rfl, hb, hg, _⟩⟩ := h
  · cases hx
  · cases hx; exact ⟨hb, hg⟩

theorem ButA.low {a : Option Addr} {B : Nat} {w w' : World} (h : ButA a w w') (ha : ∀ x, a = some x → B ≤ x.block) (hB : B ≤ w.heap.size) : Below B w w' :=
  ⟨h.os, h.tape, h.output, h.size, fun k hk => h.block k (by omega) (fun x hx => by have := ha x hx; omega)⟩

theorem ButA.cell {a : Option Addr} {w w' : World} (h : ButA a w w') {p : Addr} {v : Value} (hc : w.cell? p = some v) (hn : ∀ x, a = some x → x.block ≠ p.block) : w'.cell? p = some v :=
  (World.cell?_of_block (w := w) (h.block p.block (block_lt hc) hn)).trans hc

theorem TbR.on {base n : Nat} {w w' : World} {a : Option Addr} {ys : List Int} (h : TbR base w a n ys) (hb : Below w.heap.size w w') : TbR base w' a n ys := by
  obtain ⟨h1, h2, h3 | ⟨g, off, rfl, hb1, hg, hr⟩⟩ := h
  · exact ⟨h1, h2, .inl h3⟩
  · exact ⟨h1, h2, .inr ⟨g, off, rfl, hb1, Nat.lt_of_lt_of_le hg hb.size, hr.on hb⟩⟩

theorem TbR.mono {base b2 n : Nat} {w : World} {a : Option Addr} {ys : List Int} (h : TbR base w a n ys) (hb : b2 ≤ base) : TbR b2 w a n ys := by
  obtain ⟨h1, h2, h3 | ⟨g, off, rfl, hb1, hg, hr⟩⟩ := h
  · exact ⟨h1, h2, .inl h3⟩
  · exact ⟨h1, h2, .inr ⟨g, off, rfl, by omega, hg, hr⟩⟩

theorem RowI.set {w : World} {g off : Nat} {ys : List Int} (h : RowI w g off ys) (k : Nat) (v : Int) : RowI (w.setCell ⟨g, off + k, none⟩ (.int .i64 v)) g off (ys.set k v) := by
  refine ⟨fun i hi => ?_, fun i hi => by rw [World.frozen?_setCell]; exact h.free i (by simpa using hi)⟩
  have hi' : i < ys.length := by simpa using hi
  by_cases e : i = k
  · subst e
    rw [World.cell?_setCell_same' _ _ _ (by rw [h.cell i hi']; rfl)]
    simp [List.getD, hi']
  · rw [World.cell?_setCell_other _ _ _ _ (by first | (simp; done) | (simp; omega)), h.cell i hi']
    simp [List.getD, Ne.symm e]

theorem mark_row (ys : List Int) (g off l c : Nat) (q : Int) (w : World) (h : RowI w g off ys) (hy : ys.length = l) (hl : l ≤ 1048576) (q0 : 0 ≤ q) (q1 : q ≤ 1099511627776) :
    Calls Tryd.prog 45 #[.slice (some ⟨g, off, none⟩) l c, .int .i64 q] w fun e w' => e = .returned (.int .i64 (q + l)) ∧ RowI w' g off (marks q l) ∧ Only g w w' := by
  have HY := Lib.hid hy
  have H := Lib.hid h
  clear h hy
  go_enter Tryd.func45, Tryd.ntmps45
  go_wp2_with fail
  go_loopw [1, 5] (fun s i wr => ∃ k : Nat, k ≤ l ∧ i = .int .i64 k ∧ s = .int .i64 (q + k) ∧ Hid (RowI wr g off (marks q k ++ ys.drop k)) ∧ Hid (Only g w wr)) (fun _ i _ => l - (intOf i).toNat)
  case atStart => exact ⟨0, Nat.zero_le _, rfl, by simp, Lib.hid (by simpa [marks] using H.out), Lib.hid (Only.refl _ _)⟩
  case round =>
    obtain ⟨k, hk, rfl, rfl, HB, HO⟩ := hrel
    by_cases hlt : k < l
    · have hx := HB.out.cell k (by simp [marks_len]; have := HY.out; omega)
      have hf := HB.out.free k (by simp [marks_len]; have := HY.out; omega)
      obtain ⟨u, hu⟩ : ∃ u, (marks q k ++ ys.drop k).getD k 0 = u := ⟨_, rfl⟩
      rw [hu] at hx
      clear hu
      go_wp2_with fail
      go_roundw
      case rel => exact ⟨k + 1, by omega, by go_num, by go_num, Lib.hid (by have := HB.out.set k (q + k); rw [mark_step _ _ _ (by rw [HY.out]; exact hlt)] at this; exact this), Lib.hid (HO.out.setCell (p := ⟨g, off + k, none⟩) rfl _)⟩
      case measure => simp [intOf]; omega
    · go_wp2_with fail
      go_ret
      obtain rfl : k = l := by omega
      refine ⟨rfl, ?_, HO.out⟩
      have := HB.out
      rw [List.drop_of_length_le (by rw [HY.out]; exact Nat.le_refl _), List.append_nil] at this
      exact this

/-- a handed-over table is marked -/
theorem markT_any (F : Int) (ys : List Int) (base : Nat) (a : Option Addr) (n c : Nat) (q : Int) (w : World) (h : TbR base w a n ys) (q0 : 0 ≤ q) (q1 : q ≤ 1099511627776) :
    Calls Tryd.prog 22 #[.agg #[.int .i64 F, .slice a n c], .int .i64 q] w fun e w' => e = .returned (.int .i64 (q + n)) ∧ TbR base w' a n (marks q n) ∧ ButA a w w' := by
  have hb1 := box_b w (.cells #[.int .i64 F, .slice a n c] 26)
  obtain ⟨h1, h2, ⟨rfl, rfl⟩ | ⟨g, off, rfl, hb, hg, hr⟩⟩ := h
  · have HB := Lib.hid hb1
    clear hb1
    go_enter Tryd.func22, Tryd.ntmps22
    go_wp2_with (go_at_call 45; refine (mark_nil _ _ _ _).mono ?_; rintro e w' ⟨rfl, rfl⟩)
    go_ret
    exact ⟨by simp, ⟨marks_len _ _, by omega, .inl ⟨rfl, rfl⟩⟩, below_butA HB.out⟩
  · have HM := Lib.hid (mark_row ys g off n c q (w.alloc (.cells #[.int .i64 F, .slice (some ⟨g, off, none⟩) n c] 26)) (hr.on hb1) h1 (by omega) q0 q1)
    have HB := Lib.hid hb1
    clear hb1 hr h1
    go_enter Tryd.func22, Tryd.ntmps22
    go_wp2_with fail
    refine HM.out.mono ?_
    rintro e w2 ⟨rfl, hr2, ho⟩
    have HR := Lib.hid hr2
    have HO := Lib.hid ho
    clear hr2 ho
    go_wp2_with fail
    go_ret
    refine ⟨rfl, ⟨marks_len _ _, h2, .inr ⟨g, off, rfl, hb, by rw [HO.out.size]; simp; omega, HR.out⟩⟩, ?_⟩
    refine (below_butA HB.out).trans ⟨HO.out.os, HO.out.tape, HO.out.output, by rw [HO.out.size]; exact Nat.le_refl _, fun k _ hk => HO.out.block k (fun e => hk _ rfl e.symm)⟩

theorem heldT_any (F : Int) (a : Option Addr) (n c : Nat) (q : Int) (w : World) (h : Ints w a n (marks q n)) (hn : n ≤ 4096) (q0 : 0 ≤ q) (q1 : q ≤ 1099511627776) :
    Calls Tryd.prog 23 #[.agg #[.int .i64 F, .slice a n c], .int .i64 q] w fun e w' => e = .returned (.int .i64 (q + n)) ∧ Below w.heap.size w w' := by
  have HM := Lib.hid (held_any a n c q (w.alloc (.cells #[.int .i64 F, .slice a n c] 26)) (h.on (box_b _ _)) (by omega) q0 q1)
  have hp : ¬ q + (n : Int) < 0 := by omega
  clear h
  go_enter Tryd.func23, Tryd.ntmps23
  go_wp2_with fail
  refine HM.out.mono ?_
  rintro e w2 ⟨rfl, rfl⟩
  go_wp2_with fail
  go_ret
  exact ⟨rfl, box_b _ _⟩

/-- what MakeTable hands over: its first age, its lives, its code -/
def mkF (f L : Int) (rs : List Int) : Int := if mkB f L rs = true then f else 0

def mkY (f L : Int) (rs : List Int) : List Int := if mkB f L rs = true then mkL L rs else []

def mkE (f L : Int) (rs : List Int) : Int := if mkB f L rs = true then 0 else 2

def TbPost (F : Int) (ys : List Int) (E : Int) (w : World) (e : Ending) (w' : World) : Prop :=
  ∃ a n c, e = .returned (.tuple #[.agg #[.int .i64 F, .slice a n c], .int .i64 E]) ∧ TbR w.heap.size w' a n ys ∧ Below w.heap.size w w'

theorem mk_tb {f L : Int} {rs : List Int} {w : World} {e : Ending} {w' : World} (h : MkPost f L rs w e w') : TbPost (mkF f L rs) (mkY f L rs) (mkE f L rs) w e w' := by
  rcases h with ⟨hm, v, rfl, g, c, rfl, hc, hg, hr, hb⟩ | ⟨hm, rfl, hb⟩
  · have hl := ((mkB_iff _ _ _).1 hm).2.2.1.1
    have hn := mkL_len rs L
    have e1 : mkY f L rs = mkL L rs := by simp [mkY, hm]
    refine ⟨some ⟨g, 0, none⟩, (mkL L rs).length, c, by simp [mkF, mkE, hm], ?_, hb⟩
    rw [e1]
    exact ⟨rfl, by omega, .inr ⟨g, 0, rfl, hg, hr.lt (by omega), hr⟩⟩
  · exact ⟨none, 0, 0, by simp [mkF, mkE, hm], ⟨by simp [mkY, hm], by omega, .inl ⟨rfl, rfl⟩⟩, hb⟩

theorem eqT_tb (F : Int) (ys : List Int) (a b : Option Addr) (n m c d : Nat) (w : World) (h : Ints w a n ys) (k : Ints w b m ys) : Calls Tryd.prog 21 #[.agg #[.int .i64 F, .slice a n c], .agg #[.int .i64 F, .slice b m d]] w fun e w' => e = .returned (.bool true) ∧ Below w.heap.size w w' := eqT_same F ys a b n m c d w h k

theorem box3 {w w1 : World} {x y : Value} {T : TypeId} (hb : Below w.heap.size (w.alloc (.cells #[x, y] T)) w1) : Below w.heap.size w w1 := ((Below.refl w.heap.size w).alloc (Nat.le_refl _) _).trans hb

end Go.Proofs.YtonkaoacohocjaaDoor

/- The exact law on MakeTable: the program answers as its model, what it hands over is its own. -/
namespace Go.Proofs.YtonkaoacohocjaaDoor
open Go.ChangeShapes Go.WideShapes Go.ChangeAt Go.RowKit
set_option linter.unusedVariables false
set_option maxRecDepth 100000

theorem Ints.onlyT {w w' : World} {a : Option Addr} {l B : Nat} {xs : List Int} (h : Ints w a l xs) (ho : Only B w w') (hne : ∀ x, a = some x → x.block ≠ B) : Ints w' a l xs := by
  refine ⟨h.len, h.max, ?_⟩
  rcases h.cells with h0 | ⟨b, off, rfl, hc⟩
  · exact .inl h0
  · exact .inr ⟨b, off, rfl, fun i hi => (ho.cell (p := ⟨b, off + i, none⟩) (hne ⟨b, off, none⟩ rfl)).trans (hc i hi)⟩

theorem TbR.only {base n B : Nat} {w w' : World} {a : Option Addr} {ys : List Int} (h : TbR base w a n ys) (ho : Only B w w') (hne : ∀ x, a = some x → x.block ≠ B) : TbR base w' a n ys := by
  obtain ⟨h1, h2, h3 | ⟨g, off, rfl, hb1, hg, hr⟩⟩ := h
  · exact ⟨h1, h2, .inl h3⟩
  · exact ⟨h1, h2, .inr ⟨g, off, rfl, hb1, by rw [ho.size]; exact hg, hr.only ho (hne _ rfl)⟩⟩

theorem Ints.butA {w w' : World} {a g : Option Addr} {l : Nat} {xs : List Int} (h : Ints w a l xs) (ho : ButA g w w') (hne : ∀ x y, a = some x → g = some y → y.block ≠ x.block) : Ints w' a l xs := by
  refine ⟨h.len, h.max, ?_⟩
  rcases h.cells with h0 | ⟨b, off, rfl, hc⟩
  · exact .inl h0
  · exact .inr ⟨b, off, rfl, fun i hi => ho.cell (hc i hi) (fun y hy => hne ⟨b, off, none⟩ y rfl hy)⟩

end Go.Proofs.YtonkaoacohocjaaDoor
