/- The model's draws of two lives. -/
import Derived.Test.YtlcmgihaelgclaaGreatTabU
import Derived.Test.YtlcmgihaelgclaaGreatTwo
import Derived.Deep.RegionHeld3
namespace Go.Proofs.YtlcmgihaelgclaaGreat
open Go.ChangeShapes Go.WideShapes Go.ChangeAt Go.RowKit
set_option linter.unusedVariables false
set_option maxRecDepth 100000

/-- two drawn tables in their boxes, and the boxes of what is handed over -/
structure T8 (B X T U : Nat) (a : Option Addr) (l c : Nat) (z : List Int) (F : Int) (ta : Option Addr) (tn tc : Nat) (xs : List Int) (G : Int) (ua : Option Addr) (un uc : Nat) (ys : List Int) (w W : World) : Prop where
  ready : Ready B a l c z W
  but : But B w W
  rx : Bx W X [.int .i64 0, .slice none 0 0]
  ry : Bx W (X + 1) [.int .i64 0, .slice none 0 0]
  bt : Bx W T [.int .i64 F, .slice ta tn tc]
  bu : Bx W U [.int .i64 G, .slice ua un uc]
  i1 : Ints W ta tn xs
  i2 : Ints W ua un ys
  f1 : ∀ x, ta = some x → X + 2 ≤ x.block
  f2 : ∀ x, ua = some x → X + 2 ≤ x.block
  oB : B < X
  oT : X + 2 ≤ T
  oU : X + 2 ≤ U
  eX : w.heap.size = X

theorem T8.call {B X T U : Nat} {a : Option Addr} {l c : Nat} {z : List Int} {F : Int} {ta : Option Addr} {tn tc : Nat} {xs : List Int} {G : Int} {ua : Option Addr} {un uc : Nat} {ys : List Int} {w W W' : World} (h : T8 B X T U a l c z F ta tn tc xs G ua un uc ys w W) (ho : But B W W') (hs : Ready B a l c z W') : T8 B X T U a l c z F ta tn tc xs G ua un uc ys w W' := by
  have oB := h.oB
  have oT := h.oT
  have oU := h.oU
  exact ⟨hs, h.but.trans ho, h.rx.same (ho.block _ h.rx.lt (by omega)), h.ry.same (ho.block _ h.ry.lt (by omega)), h.bt.same (ho.block _ h.bt.lt (by omega)), h.bu.same (ho.block _ h.bu.lt (by omega)), h.i1.butT ho (fun x hx => by have := h.f1 x hx; omega), h.i2.butT ho (fun x hx => by have := h.f2 x hx; omega), h.f1, h.f2, oB, oT, oU, h.eX⟩

theorem T8.drew {B X T U : Nat} {a : Option Addr} {l c : Nat} {z : List Int} {F : Int} {ta : Option Addr} {tn tc : Nat} {xs : List Int} {G : Int} {ua : Option Addr} {un uc : Nat} {ys : List Int} {w W : World} (h : T8 B X T U a l c z F ta tn tc xs G ua un uc ys w W) : T8 B X T U a l c z F ta tn tc xs G ua un uc ys w W.drew := h.call (But.refl _ _).drew h.ready.drew

theorem t8S {B X T U : Nat} {a : Option Addr} {l c : Nat} {z : List Int} {F : Int} {ta : Option Addr} {tn tc : Nat} {xs : List Int} {G : Int} {ua : Option Addr} {un uc : Nat} {ys : List Int} {w W : World} (h : T8 B X T U a l c z F ta tn tc xs G ua un uc ys w W) :
    W.cell? ⟨T, 0, none⟩ = some (.int .i64 F) ∧ W.cell? ⟨T, 1, none⟩ = some (.slice ta tn tc) ∧ W.cell? ⟨U, 0, none⟩ = some (.int .i64 G) ∧ W.cell? ⟨U, 1, none⟩ = some (.slice ua un uc) ∧ Hid (T8 B X T U a l c z F ta tn tc xs G ua un uc ys w W) := ⟨h.bt.two.1, h.bt.two.2, h.bu.two.1, h.bu.two.2, Lib.hid h⟩

/-- what a draw of two lives hands over -/
def Drawn2 (B : Nat) (a : Option Addr) (l c : Nat) (z : List Int) (w : World) (e : Ending) (w' : World) : Prop :=
  ∃ F ta tn tc xs x G ua un uc ys y, e = .returned (.tuple #[.agg #[.int .i64 F, .slice ta tn tc], .int .i64 x, .agg #[.int .i64 G, .slice ua un uc], .int .i64 y]) ∧ Ints w' ta tn xs ∧ Ints w' ua un ys ∧ tn ≤ tc ∧ un ≤ uc ∧ (∀ x, ta = some x → w.heap.size ≤ x.block) ∧ (∀ x, ua = some x → w.heap.size ≤ x.block) ∧ But B w w' ∧ Ready B a l c z w'

theorem setFar8 {w : World} {p : Addr} {B k : Nat} {v u : Value} (hn : p.block ≠ B) (h : w.cell? p = some u) : (w.setCell ⟨B, k, none⟩ v).cell? p = some u := by
  refine (World.cell?_of_block (w := w) ?_).trans h
  show (w.heap.modify B _)[p.block]? = _
  rw [Array.getElem?_modify, if_neg (fun e => hn e.symm)]

theorem keep8 {W : World} {T U B : Nat} {p q r s u v : Value} (h1 : T ≠ B) (h2 : U ≠ B) (a : W.drew.cell? ⟨T, 0, none⟩ = some p) (b : W.drew.cell? ⟨T, 1, none⟩ = some q) (c : W.drew.cell? ⟨U, 0, none⟩ = some r) (d : W.drew.cell? ⟨U, 1, none⟩ = some s) :
    ((W.setCell ⟨B, 0, none⟩ u).setCell ⟨B, 1, none⟩ v).drew.cell? ⟨T, 0, none⟩ = some p ∧ ((W.setCell ⟨B, 0, none⟩ u).setCell ⟨B, 1, none⟩ v).drew.cell? ⟨T, 1, none⟩ = some q ∧ ((W.setCell ⟨B, 0, none⟩ u).setCell ⟨B, 1, none⟩ v).drew.cell? ⟨U, 0, none⟩ = some r ∧ ((W.setCell ⟨B, 0, none⟩ u).setCell ⟨B, 1, none⟩ v).drew.cell? ⟨U, 1, none⟩ = some s := by
  have a : W.cell? ⟨T, 0, none⟩ = some p := a
  have b : W.cell? ⟨T, 1, none⟩ = some q := b
  have c : W.cell? ⟨U, 0, none⟩ = some r := c
  have d : W.cell? ⟨U, 1, none⟩ = some s := d
  exact ⟨cell_drew (setFar8 h1 (setFar8 h1 a)), cell_drew (setFar8 h1 (setFar8 h1 b)), cell_drew (setFar8 h2 (setFar8 h2 c)), cell_drew (setFar8 h2 (setFar8 h2 d))⟩

/-- the result is written -/
theorem T8.fin {B X T U : Nat} {a : Option Addr} {l c : Nat} {z : List Int} {F : Int} {ta : Option Addr} {tn tc : Nat} {xs : List Int} {G : Int} {ua : Option Addr} {un uc : Nat} {ys : List Int} {w W W' : World} {x y : Int} (h : T8 B X T U a l c z F ta tn tc xs G ua un uc ys w W) (h1 : tn ≤ tc) (h2 : un ≤ uc)
    (hW : W' = ((((W.setCell ⟨X, 0, none⟩ (.int .i64 F)).setCell ⟨X, 1, none⟩ (.slice ta tn tc)).setCell ⟨X + 1, 0, none⟩ (.int .i64 G)).setCell ⟨X + 1, 1, none⟩ (.slice ua un uc)).drew) :
    Drawn2 B a l c z w (.returned (.tuple #[.agg #[.int .i64 F, .slice ta tn tc], .int .i64 x, .agg #[.int .i64 G, .slice ua un uc], .int .i64 y])) W' := by
  have oB := h.oB
  have hX := h.rx.lt
  have eX := h.eX
  have hb : Below X W W' := by
    rw [hW]
    refine Below.drew ?_
    exact ((((Below.refl X W).setCell (p := ⟨X, 0, none⟩) (Nat.le_refl _) _).setCell (p := ⟨X, 1, none⟩) (Nat.le_refl _) _).setCell (p := ⟨X + 1, 0, none⟩) (by show X ≤ X + 1; omega) _).setCell (p := ⟨X + 1, 1, none⟩) (by show X ≤ X + 1; omega) _
  have ho : ∀ k, k ≠ X → k ≠ X + 1 → W'.heap[k]? = W.heap[k]? := fun k k1 k2 => by
    have e : W'.heap = ((((W.setCell ⟨X, 0, none⟩ (.int .i64 F)).setCell ⟨X, 1, none⟩ (.slice ta tn tc)).setCell ⟨X + 1, 0, none⟩ (.int .i64 G)).setCell ⟨X + 1, 1, none⟩ (.slice ua un uc)).heap := by rw [hW]; rfl
    rw [e]
    rw [Below.heap_setCell _ _ _ _ (by show k ≠ X + 1; exact k2), Below.heap_setCell _ _ _ _ (by show k ≠ X + 1; exact k2), Below.heap_setCell _ _ _ _ (by show k ≠ X; exact k1), Below.heap_setCell _ _ _ _ (by show k ≠ X; exact k1)]
  have hi : ∀ (a : Option Addr) (n : Nat) (zs : List Int), Ints W a n zs → (∀ x, a = some x → X + 2 ≤ x.block) → Ints W' a n zs := fun a n zs hh hf => by
    refine ⟨hh.len, hh.max, ?_⟩
    rcases hh.cells with h0 | ⟨b, off, rfl, hc⟩
    · exact .inl h0
    · refine .inr ⟨b, off, rfl, fun i hi => (World.cell?_of_block (w := W) (a := ⟨b, off + i, none⟩) ?_).trans (hc i hi)⟩
      have := hf ⟨b, off, none⟩ rfl
      exact ho b (by show b ≠ X; have : X + 2 ≤ b := this; omega) (by have : X + 2 ≤ b := this; omega)
  refine ⟨F, ta, tn, tc, xs, x, G, ua, un, uc, ys, y, rfl, hi _ _ _ h.i1 h.f1, hi _ _ _ h.i2 h.f2, h1, h2, fun x hx => by have := h.f1 x hx; omega, fun x hx => by have := h.f2 x hx; omega, ?_, h.ready.below hb oB⟩
  exact ⟨hb.os.trans h.but.os, hb.tape.trans h.but.tape, hb.output.trans h.but.output, Nat.le_trans h.but.size hb.size, fun k hk hk2 => (hb.block k (by omega)).trans (h.but.block k hk hk2)⟩

/-- .. and reads so -/
theorem T8.read {B X T U : Nat} {a : Option Addr} {l c : Nat} {z : List Int} {F : Int} {ta : Option Addr} {tn tc : Nat} {xs : List Int} {G : Int} {ua : Option Addr} {un uc : Nat} {ys : List Int} {w W : World} (h : T8 B X T U a l c z F ta tn tc xs G ua un uc ys w W) (p q r s : Value) :
    ((((W.setCell ⟨X, 0, none⟩ p).setCell ⟨X, 1, none⟩ q).setCell ⟨X + 1, 0, none⟩ r).setCell ⟨X + 1, 1, none⟩ s).cell? ⟨X, 0, none⟩ = some p ∧ ((((W.setCell ⟨X, 0, none⟩ p).setCell ⟨X, 1, none⟩ q).setCell ⟨X + 1, 0, none⟩ r).setCell ⟨X + 1, 1, none⟩ s).cell? ⟨X, 1, none⟩ = some q ∧ ((((W.setCell ⟨X, 0, none⟩ p).setCell ⟨X, 1, none⟩ q).setCell ⟨X + 1, 0, none⟩ r).setCell ⟨X + 1, 1, none⟩ s).cell? ⟨X + 1, 0, none⟩ = some r ∧ ((((W.setCell ⟨X, 0, none⟩ p).setCell ⟨X, 1, none⟩ q).setCell ⟨X + 1, 0, none⟩ r).setCell ⟨X + 1, 1, none⟩ s).cell? ⟨X + 1, 1, none⟩ = some s := by
  obtain ⟨t1, h1⟩ := h.rx
  obtain ⟨t2, h2⟩ := h.ry
  simp [World.cell?, World.setCell, Array.getElem?_modify, h1, h2]

set_option maxHeartbeats 8000000 in
theorem draw2 (B : Nat) (a : Option Addr) (l c : Nat) (z : List Int) (w : World) (h : Ready B a l c z w) : Calls Tryz.prog 32 #[.pointer (some ⟨B, 0, none⟩)] w (Drawn2 B a l c z w) := by
  have hB := h.here
  have hs0 := (h.alloc (.cells #[.int .i64 0, .slice none 0 0] 26)).alloc (.cells #[.int .i64 0, .slice none 0 0] 26)
  have hx0 := (Bx.new w [.int .i64 0, .slice none 0 0] 26).on (box_b (w.alloc (.cells #[.int .i64 0, .slice none 0 0] 26)) (.cells #[.int .i64 0, .slice none 0 0] 26))
  have hy0 := Bx.new (w.alloc (.cells #[.int .i64 0, .slice none 0 0] 26)) [.int .i64 0, .slice none 0 0] 26
  rw [World.size_alloc] at hy0
  have hbt : But B w ((w.alloc (.cells #[.int .i64 0, .slice none 0 0] 26)).alloc (.cells #[.int .i64 0, .slice none 0 0] 26)) := (But.alloc _).trans (But.alloc _)
  have hsz : ((w.alloc (.cells #[.int .i64 0, .slice none 0 0] 26)).alloc (.cells #[.int .i64 0, .slice none 0 0] 26)).heap.size = w.heap.size + 2 := by simp
  have HX0 : Hid (Bx ((w.alloc (.cells #[.int .i64 0, .slice none 0 0] 26)).alloc (.cells #[.int .i64 0, .slice none 0 0] 26)) w.heap.size [.int .i64 0, .slice none 0 0]) := Lib.hid hx0
  have HY0 : Hid (Bx ((w.alloc (.cells #[.int .i64 0, .slice none 0 0] 26)).alloc (.cells #[.int .i64 0, .slice none 0 0] 26)) (w.heap.size + 1) [.int .i64 0, .slice none 0 0]) := Lib.hid hy0
  have HS := Lib.hid hs0
  have HBT := Lib.hid hbt
  have HSZ := Lib.hid hsz
  clear h hs0 hx0 hy0 hbt hsz
  go_enter Tryz.func32, Tryz.ntmps32
  go_wp2_with fail
  refine (dtable B a l c z _ HS.out).mono ?_
  rintro e w1 ⟨F, ta, tn, tc, xs, rfl, hI, htc, htn, f0, f1, far, ho, hs⟩
  have HX1 := Lib.hid (HX0.out.same (ho.block _ HX0.out.lt (by omega)))
  have HY1 := Lib.hid (HY0.out.same (ho.block _ HY0.out.lt (by omega)))
  have HI := Lib.hid hI
  have HF : Hid (∀ x, ta = some x → w.heap.size + 2 ≤ x.block) := Lib.hid (fun x hx => by have := far x hx; have := HSZ.out; omega)
  have HO := Lib.hid (HBT.out.trans ho)
  have HS1 := Lib.hid hs
  have hz1 : w.heap.size + 2 ≤ w1.heap.size := by have := ho.size; have := HSZ.out; omega
  clear hI far ho hs HX0 HY0 HS HBT HSZ
  go_wp2_with fail
  refine (dtable B a l c z _ HS1.out).mono ?_
  rintro e w2 ⟨G, ua, un, uc, ys, rfl, hI, huc, hun, g0, g1, far, ho, hs⟩
  have hsz : w1.heap.size ≤ w2.heap.size := ho.size
  have H2 : Hid (T8 B w.heap.size w2.heap.size (w2.heap.size + 1) a l c z F ta tn tc xs G ua un uc ys w ((w2.alloc (.cells #[.int .i64 F, .slice ta tn tc] 26)).alloc (.cells #[.int .i64 G, .slice ua un uc] 26))) := Lib.hid (by
    have hq1 := box_b w2 (.cells #[.int .i64 F, .slice ta tn tc] 26)
    have hq2 := box_b (w2.alloc (.cells #[.int .i64 F, .slice ta tn tc] 26)) (.cells #[.int .i64 G, .slice ua un uc] 26)
    have hbu := Bx.new (w2.alloc (.cells #[.int .i64 F, .slice ta tn tc] 26)) [.int .i64 G, .slice ua un uc] 26
    rw [World.size_alloc] at hbu
    exact ⟨(hs.alloc _).alloc _, ((HO.out.trans ho).trans (But.alloc _)).trans (But.alloc _), ((HX1.out.same (ho.block _ HX1.out.lt (by omega))).on hq1).on hq2, ((HY1.out.same (ho.block _ HY1.out.lt (by omega))).on hq1).on hq2, (Bx.new w2 [.int .i64 F, .slice ta tn tc] 26).on hq2, hbu, ((HI.out.butT ho (fun x hx => by have := HF.out x hx; omega)).on hq1).on hq2, (hI.on hq1).on hq2, HF.out, fun x hx => by have := far x hx; omega, hB, by omega, by omega, rfl⟩)
  clear hI far ho hs HX1 HY1 HI HF HO HS1 hz1
  go_wp2_with fail
  generalize ((w2.alloc (.cells #[.int .i64 F, .slice ta tn tc] 26)).alloc (.cells #[.int .i64 G, .slice ua un uc] 26)) = v2 at H2 ⊢
  obtain ⟨X, hX⟩ : ∃ X, w.heap.size = X := ⟨_, rfl⟩
  obtain ⟨T, hT⟩ : ∃ T, w2.heap.size = T := ⟨_, rfl⟩
  rw [hX, hT] at H2
  (try rw [hX])
  (try rw [hT])
  obtain ⟨U, hU⟩ : ∃ U, T + 1 = U := ⟨_, rfl⟩
  obtain ⟨Y, hY⟩ : ∃ Y, X + 1 = Y := ⟨_, rfl⟩
  rw [hU] at H2
  (try rw [hU])
  (try rw [hY])
  have D1 : Hid (∀ W, Hid (T8 B X T U a l c z F ta tn tc xs G ua un uc ys w W) → Calls Tryz.prog 61 #[.pointer (some ⟨B, 0, none⟩), .agg #[.int .i64 F, .slice ta tn tc]] W fun e w' => ∃ v, e = .returned (.int .i64 v) ∧ Hid (T8 B X T U a l c z F ta tn tc xs G ua un uc ys w w')) :=
    Lib.hid (fun W hW => (dage B a l c z F ta tn tc W hW.out.ready f0 f1 htn).mono fun e w' ⟨v, he, ho, hs⟩ => ⟨v, he, Lib.hid (hW.out.call ho hs)⟩)
  have D2 : Hid (∀ W, Hid (T8 B X T U a l c z F ta tn tc xs G ua un uc ys w W) → Calls Tryz.prog 61 #[.pointer (some ⟨B, 0, none⟩), .agg #[.int .i64 G, .slice ua un uc]] W fun e w' => ∃ v, e = .returned (.int .i64 v) ∧ Hid (T8 B X T U a l c z F ta tn tc xs G ua un uc ys w w')) :=
    Lib.hid (fun W hW => (dage B a l c z G ua un uc W hW.out.ready g0 g1 hun).mono fun e w' ⟨v, he, ho, hs⟩ => ⟨v, he, Lib.hid (hW.out.call ho hs)⟩)
  have N1 : Hid (∀ W (n : Int), n ≤ 4096 → Hid (T8 B X T U a l c z F ta tn tc xs G ua un uc ys w W) → Calls Tryz.prog 62 #[.pointer (some ⟨B, 0, none⟩), .int .i64 n] W fun e w' => ∃ v, e = .returned (.int .i64 v) ∧ (0 ≤ v ∧ v ≤ 4096) ∧ Hid (T8 B X T U a l c z F ta tn tc xs G ua un uc ys w w')) :=
    Lib.hid (fun W n hn hW => (next_r B a l c z n W hW.out.ready).mono fun e w' ⟨v, he, hd, ho, hs⟩ => ⟨v, he, by
      by_cases h1 : (1 : Int) < n
      · have := hd.1 h1; omega
      · have := hd.2 (by omega); omega, Lib.hid (hW.out.call ho hs)⟩)
  have hq1 : IntKind.i64.wrap ((tn : Int) - 1) = (tn : Int) - 1 := IntWalk.i64_in _ (by omega)
  have hq2 : IntKind.i64.wrap ((un : Int) - 1) = (un : Int) - 1 := IntWalk.i64_in _ (by omega)
  clear hX hT hU hsz
  go_region_held3 (fun w' => w'.cell? ⟨T, 0, none⟩ = some (.int .i64 F) ∧ w'.cell? ⟨T, 1, none⟩ = some (.slice ta tn tc) ∧ w'.cell? ⟨U, 0, none⟩ = some (.int .i64 G) ∧ w'.cell? ⟨U, 1, none⟩ = some (.slice ua un uc) ∧ Hid (T8 B X T U a l c z F ta tn tc xs G ua un uc ys w w'))
    (first
      | (go_split_ands; exact t8S (Hid.out (by with_reducible assumption)))
      | (go_split_ands; exact t8S (T8.drew (Hid.out (by with_reducible assumption))))
      | fail)
    (first
      | (go_split_ands; go_at_call 61; ((with_reducible refine (D1.out _ (by with_reducible assumption)).mono ?_); rintro e w' ⟨va, rfl, hA8⟩))
      | (go_split_ands; go_at_call 61; ((with_reducible refine (D2.out _ (by with_reducible assumption)).mono ?_); rintro e w' ⟨vb, rfl, hA9⟩))
      | fail)
  all_goals
    go_split_ands
    have HT : Hid (T8 B X T U a l c z F ta tn tc xs G ua un uc ys w _) := (by with_reducible assumption)
    go_wp2_with fail
    with_reducible refine (N1.out _ 3 (by omega) HT).mono ?_
    rintro e w5 ⟨v, rfl, ⟨v0, v1⟩, HT⟩
    by_cases hv : v = 0
    · subst hv
      obtain ⟨k0, k1, k2, k3, _⟩ := t8S HT.out
      obtain ⟨r0, r1⟩ := HT.out.rx.two
      obtain ⟨s0, s1⟩ := HT.out.ry.two
      have m0 := HT.out.rx.free 0
      have m1 := HT.out.rx.free 1
      have m2 := HT.out.ry.free 0
      have m3 := HT.out.ry.free 1
      rw [hY] at s0 s1 m2 m3
      have q1 := HT.out.oT
      have q2 := HT.out.oU
      have hTX : T ≠ X := by omega
      have hTY : T ≠ Y := by omega
      have hUX : U ≠ X := by omega
      have hUY : U ≠ Y := by omega
      have hYX : Y ≠ X := by omega
      have hXY : X ≠ Y := by omega
      go_wp2_with fail
      go_region_held3 (fun w' => w'.cell? ⟨T, 0, none⟩ = some (.int .i64 F) ∧ w'.cell? ⟨T, 1, none⟩ = some (.slice ta tn tc) ∧ w'.cell? ⟨U, 0, none⟩ = some (.int .i64 G) ∧ w'.cell? ⟨U, 1, none⟩ = some (.slice ua un uc))
        (first
          | (go_split_ands; with_reducible exact ⟨by with_reducible assumption, by with_reducible assumption, by with_reducible assumption, by with_reducible assumption⟩)
          | (go_split_ands; with_reducible exact ⟨cell_drew k0, cell_drew k1, cell_drew k2, cell_drew k3⟩)
          | (go_split_ands; with_reducible exact keep8 hTX hUX (by with_reducible assumption) (by with_reducible assumption) (by with_reducible assumption) (by with_reducible assumption))
          | (go_split_ands; with_reducible exact keep8 hTY hUY (by with_reducible assumption) (by with_reducible assumption) (by with_reducible assumption) (by with_reducible assumption))
          | fail)
        (first | fail)
      all_goals
        go_split_ands
        go_wp2_with fail
        have hfin := T8.fin (x := va) (y := vb) HT.out htc huc rfl
        rw [hY] at hfin
        obtain ⟨e0, e1, e2, e3⟩ := T8.read HT.out (.int .i64 F) (.slice ta tn tc) (.int .i64 G) (.slice ua un uc)
        rw [hY] at e0 e1 e2 e3
        exact bodyPost_ret (v := .tuple #[.agg #[.int .i64 F, .slice ta tn tc], .int .i64 va, .agg #[.int .i64 G, .slice ua un uc], .int .i64 vb]) (by simp [results, Tryz.results32, go_sem, cell_drew e0, cell_drew e1, cell_drew e2, cell_drew e3]) rfl hfin
    · have hv2 : 0 < v := by omega
      obtain ⟨k0, k1, k2, k3, _⟩ := t8S HT.out
      go_wp2_with fail
      go_region_held3 (fun w' => w'.cell? ⟨T, 0, none⟩ = some (.int .i64 F) ∧ w'.cell? ⟨T, 1, none⟩ = some (.slice ta tn tc) ∧ w'.cell? ⟨U, 0, none⟩ = some (.int .i64 G) ∧ w'.cell? ⟨U, 1, none⟩ = some (.slice ua un uc) ∧ Hid (T8 B X T U a l c z F ta tn tc xs G ua un uc ys w w'))
        (first
          | (go_split_ands; exact t8S (Hid.out (by with_reducible assumption)))
          | (go_split_ands; exact t8S (T8.drew (Hid.out (by with_reducible assumption))))
          | fail)
        (first
          | (go_split_ands; go_at_call 62; ((with_reducible refine (N1.out _ _ (by omega) (by with_reducible assumption)).mono ?_); rintro e w' ⟨vc, rfl, ⟨p0, p1⟩, hA8⟩))
          | fail)
      all_goals
        go_split_ands
        have HT : Hid (T8 B X T U a l c z F ta tn tc xs G ua un uc ys w _) := (by with_reducible assumption)

        go_wp2_with fail
        go_region_held3 (fun w' => w'.cell? ⟨T, 0, none⟩ = some (.int .i64 F) ∧ w'.cell? ⟨T, 1, none⟩ = some (.slice ta tn tc) ∧ w'.cell? ⟨U, 0, none⟩ = some (.int .i64 G) ∧ w'.cell? ⟨U, 1, none⟩ = some (.slice ua un uc) ∧ Hid (T8 B X T U a l c z F ta tn tc xs G ua un uc ys w w'))
          (first
            | (go_split_ands; exact t8S (Hid.out (by with_reducible assumption)))
            | (go_split_ands; exact t8S (T8.drew (Hid.out (by with_reducible assumption))))
            | fail)
          (first
            | (go_split_ands; go_at_call 62; ((with_reducible refine (N1.out _ _ (by omega) (by with_reducible assumption)).mono ?_); rintro e w' ⟨vd, rfl, ⟨p0, p1⟩, hA8⟩))
            | fail)
        all_goals
          go_split_ands
          have HT : Hid (T8 B X T U a l c z F ta tn tc xs G ua un uc ys w _) := (by with_reducible assumption)

          obtain ⟨k0, k1, k2, k3, _⟩ := t8S HT.out
          obtain ⟨r0, r1⟩ := HT.out.rx.two
          obtain ⟨s0, s1⟩ := HT.out.ry.two
          have m0 := HT.out.rx.free 0
          have m1 := HT.out.rx.free 1
          have m2 := HT.out.ry.free 0
          have m3 := HT.out.ry.free 1
          rw [hY] at s0 s1 m2 m3
          have q1 := HT.out.oT
          have q2 := HT.out.oU
          have hTX : T ≠ X := by omega
          have hTY : T ≠ Y := by omega
          have hUX : U ≠ X := by omega
          have hUY : U ≠ Y := by omega
          have hYX : Y ≠ X := by omega
          have hXY : X ≠ Y := by omega
          go_wp2_with fail
          go_region_held3 (fun w' => w'.cell? ⟨T, 0, none⟩ = some (.int .i64 F) ∧ w'.cell? ⟨T, 1, none⟩ = some (.slice ta tn tc) ∧ w'.cell? ⟨U, 0, none⟩ = some (.int .i64 G) ∧ w'.cell? ⟨U, 1, none⟩ = some (.slice ua un uc))
            (first
              | (go_split_ands; with_reducible exact ⟨by with_reducible assumption, by with_reducible assumption, by with_reducible assumption, by with_reducible assumption⟩)
              | (go_split_ands; with_reducible exact ⟨cell_drew k0, cell_drew k1, cell_drew k2, cell_drew k3⟩)
              | (go_split_ands; with_reducible exact keep8 hTX hUX (by with_reducible assumption) (by with_reducible assumption) (by with_reducible assumption) (by with_reducible assumption))
              | (go_split_ands; with_reducible exact keep8 hTY hUY (by with_reducible assumption) (by with_reducible assumption) (by with_reducible assumption) (by with_reducible assumption))
              | fail)
            (first | fail)
          all_goals
            go_split_ands
            go_wp2_with fail
            have hfin := T8.fin (x := (IntKind.i64.wrap (F + vc))) (y := (IntKind.i64.wrap (G + vd))) HT.out htc huc rfl
            rw [hY] at hfin
            obtain ⟨e0, e1, e2, e3⟩ := T8.read HT.out (.int .i64 F) (.slice ta tn tc) (.int .i64 G) (.slice ua un uc)
            rw [hY] at e0 e1 e2 e3
            exact bodyPost_ret (v := .tuple #[.agg #[.int .i64 F, .slice ta tn tc], .int .i64 (IntKind.i64.wrap (F + vc)), .agg #[.int .i64 G, .slice ua un uc], .int .i64 (IntKind.i64.wrap (G + vd))]) (by simp [results, Tryz.results32, go_sem, cell_drew e0, cell_drew e1, cell_drew e2, cell_drew e3]) rfl hfin

/-! ### draws from a code -/

/-- in the midst of a draw: X and Y the result's boxes, B the source -/
structure C9 (B X Y : Nat) (a : Option Addr) (l c : Nat) (z : List Int) (ta : Option Addr) (tn : Nat) (xs : List Int) (ua : Option Addr) (un : Nat) (ys : List Int) (w W : World) : Prop where
  ready : Ready B a l c z W
  low : Below X w W
  rx : ∃ p q, Bx W X [p, q]
  ry : ∃ p q, Bx W Y [p, q]
  i1 : Ints W ta tn xs
  i2 : Ints W ua un ys
  f1 : ∀ x, ta = some x → B < x.block
  f2 : ∀ x, ua = some x → B < x.block
  oY : Y = X + 1
  oB : Y < B
  eX : w.heap.size = X
  ap : Apart a z X

theorem C9.call {B X Y : Nat} {a : Option Addr} {l c : Nat} {z : List Int} {ta : Option Addr} {tn : Nat} {xs : List Int} {ua : Option Addr} {un : Nat} {ys : List Int} {w W : World} {W' : World} (h : C9 B X Y a l c z ta tn xs ua un ys w W) (ho : But B W W') (hs : Ready B a l c z W') : C9 B X Y a l c z ta tn xs ua un ys w W' := by
  have oY := h.oY
  have oB := h.oB
  obtain ⟨p, q, hx⟩ := h.rx
  obtain ⟨r, s, hy⟩ := h.ry
  have lx := hx.lt
  exact ⟨hs, h.low.trans (ho.below (by omega) (by omega)), ⟨p, q, hx.same (ho.block _ hx.lt (by omega))⟩, ⟨r, s, hy.same (ho.block _ hy.lt (by omega))⟩, h.i1.butT ho (fun x hx => by have := h.f1 x hx; omega), h.i2.butT ho (fun x hx => by have := h.f2 x hx; omega), h.f1, h.f2, oY, oB, h.eX, h.ap⟩

theorem ready_only {B K X : Nat} {a : Option Addr} {l c : Nat} {z : List Int} {W W' : World} (h : Ready B a l c z W) (ho : Only K W W') (hne : B ≠ K) (hX : X ≤ K) (hap : Apart a z X) : Ready B a l c z W' := by
  obtain ⟨⟨t, x, S⟩, r, p⟩ := h
  exact ⟨⟨t, x, by rw [ho.size]; exact S.here, (ho.cell (p := ⟨B, 0, none⟩) hne).trans S.code, (ho.cell (p := ⟨B, 1, none⟩) hne).trans S.att, (ho.cell (p := ⟨B, 2, none⟩) hne).trans S.seed,
    (ho.frozen (p := ⟨B, 0, none⟩) hne).trans S.free0, (ho.frozen (p := ⟨B, 1, none⟩) hne).trans S.free1, (ho.frozen (p := ⟨B, 2, none⟩) hne).trans S.free2, S.t0, S.tl, S.x0, S.xl⟩, r.below (ho.below hX) hap, p⟩

theorem bx_put {W : World} {K : Nat} {x y u v : Value} (h : Bx W K [x, y]) : Bx ((W.setCell ⟨K, 0, none⟩ u).setCell ⟨K, 1, none⟩ v) K [u, v] := by
  obtain ⟨T, h⟩ := h
  refine ⟨T, ?_⟩
  simp [World.setCell, Array.getElem?_modify, h]

theorem put_only (W : World) (K : Nat) (u v : Value) : Only K W ((W.setCell ⟨K, 0, none⟩ u).setCell ⟨K, 1, none⟩ v) := ((Only.refl _ _).setCell (p := ⟨K, 0, none⟩) rfl _).setCell (p := ⟨K, 1, none⟩) rfl _

theorem C9.put {B X Y : Nat} {a : Option Addr} {l c : Nat} {z : List Int} {ta : Option Addr} {tn : Nat} {xs : List Int} {ua : Option Addr} {un : Nat} {ys : List Int} {w W : World} (h : C9 B X Y a l c z ta tn xs ua un ys w W) {K : Nat} (hK : K = X ∨ K = Y) (u v : Value) : C9 B X Y a l c z ta tn xs ua un ys w ((W.setCell ⟨K, 0, none⟩ u).setCell ⟨K, 1, none⟩ v) := by
  have oY := h.oY
  have oB := h.oB
  have ho := put_only W K u v
  obtain ⟨p, q, hx⟩ := h.rx
  obtain ⟨r, s, hy⟩ := h.ry
  refine ⟨ready_only h.ready ho (by omega) (show X ≤ K by omega) h.ap, h.low.trans (ho.below (by omega)), ?_, ?_, h.i1.onlyT ho (fun x hx => by have := h.f1 x hx; omega), h.i2.onlyT ho (fun x hx => by have := h.f2 x hx; omega), h.f1, h.f2, oY, oB, h.eX, h.ap⟩
  · by_cases e : K = X
    · subst e; exact ⟨_, _, bx_put hx⟩
    · exact ⟨_, _, hx.same (ho.block _ (by omega))⟩
  · by_cases e : K = Y
    · subst e; exact ⟨_, _, bx_put hy⟩
    · exact ⟨_, _, hy.same (ho.block _ (by omega))⟩

theorem C9.read {B X Y : Nat} {a : Option Addr} {l c : Nat} {z : List Int} {ta : Option Addr} {tn : Nat} {xs : List Int} {ua : Option Addr} {un : Nat} {ys : List Int} {w W : World} (h : C9 B X Y a l c z ta tn xs ua un ys w W) (p q r s : Value) :
    ((((W.setCell ⟨X, 0, none⟩ p).setCell ⟨X, 1, none⟩ q).setCell ⟨Y, 0, none⟩ r).setCell ⟨Y, 1, none⟩ s).cell? ⟨X, 0, none⟩ = some p ∧ ((((W.setCell ⟨X, 0, none⟩ p).setCell ⟨X, 1, none⟩ q).setCell ⟨Y, 0, none⟩ r).setCell ⟨Y, 1, none⟩ s).cell? ⟨X, 1, none⟩ = some q ∧ ((((W.setCell ⟨X, 0, none⟩ p).setCell ⟨X, 1, none⟩ q).setCell ⟨Y, 0, none⟩ r).setCell ⟨Y, 1, none⟩ s).cell? ⟨Y, 0, none⟩ = some r ∧ ((((W.setCell ⟨X, 0, none⟩ p).setCell ⟨X, 1, none⟩ q).setCell ⟨Y, 0, none⟩ r).setCell ⟨Y, 1, none⟩ s).cell? ⟨Y, 1, none⟩ = some s := by
  obtain ⟨_, _, t1, h1⟩ := h.rx
  obtain ⟨_, _, t2, h2⟩ := h.ry
  have oY := h.oY
  have n1 : ¬ X = Y := by omega
  have n2 : ¬ Y = X := by omega
  simp [World.cell?, World.setCell, Array.getElem?_modify, h1, h2, n1, n2]

theorem C9.fin {B X Y : Nat} {a : Option Addr} {l c : Nat} {z : List Int} {ta : Option Addr} {tn : Nat} {xs : List Int} {ua : Option Addr} {un : Nat} {ys : List Int} {w W : World} (h : C9 B X Y a l c z ta tn xs ua un ys w W) (p q r s : Value) : Ints ((((W.setCell ⟨X, 0, none⟩ p).setCell ⟨X, 1, none⟩ q).setCell ⟨Y, 0, none⟩ r).setCell ⟨Y, 1, none⟩ s) ta tn xs ∧ Ints ((((W.setCell ⟨X, 0, none⟩ p).setCell ⟨X, 1, none⟩ q).setCell ⟨Y, 0, none⟩ r).setCell ⟨Y, 1, none⟩ s) ua un ys ∧ Below w.heap.size w ((((W.setCell ⟨X, 0, none⟩ p).setCell ⟨X, 1, none⟩ q).setCell ⟨Y, 0, none⟩ r).setCell ⟨Y, 1, none⟩ s) := by
  have h2 := (h.put (.inl rfl) p q).put (.inr rfl) r s
  exact ⟨h2.i1, h2.i2, by rw [h.eX]; exact h2.low⟩

/-- .. with the drawn tables in their boxes T and U -/
structure T9 (B X Y T U : Nat) (a : Option Addr) (l c : Nat) (z : List Int) (F : Int) (ta : Option Addr) (tn tc : Nat) (xs : List Int) (G : Int) (ua : Option Addr) (un uc : Nat) (ys : List Int) (w W : World) : Prop where
  core : C9 B X Y a l c z ta tn xs ua un ys w W
  bt : Bx W T [.int .i64 F, .slice ta tn tc]
  bu : Bx W U [.int .i64 G, .slice ua un uc]
  oT : B < T
  oU : B < U

theorem T9.call {B X Y T U : Nat} {a : Option Addr} {l c : Nat} {z : List Int} {F : Int} {ta : Option Addr} {tn tc : Nat} {xs : List Int} {G : Int} {ua : Option Addr} {un uc : Nat} {ys : List Int} {w W : World} {W' : World} (h : T9 B X Y T U a l c z F ta tn tc xs G ua un uc ys w W) (ho : But B W W') (hs : Ready B a l c z W') : T9 B X Y T U a l c z F ta tn tc xs G ua un uc ys w W' :=
  ⟨h.core.call ho hs, h.bt.same (ho.block _ h.bt.lt (by have := h.oT; omega)), h.bu.same (ho.block _ h.bu.lt (by have := h.oU; omega)), h.oT, h.oU⟩

theorem T9.drew {B X Y T U : Nat} {a : Option Addr} {l c : Nat} {z : List Int} {F : Int} {ta : Option Addr} {tn tc : Nat} {xs : List Int} {G : Int} {ua : Option Addr} {un uc : Nat} {ys : List Int} {w W : World} (h : T9 B X Y T U a l c z F ta tn tc xs G ua un uc ys w W) : T9 B X Y T U a l c z F ta tn tc xs G ua un uc ys w W.drew := h.call (But.refl _ _).drew h.core.ready.drew

theorem T9.alloc {B X Y T U : Nat} {a : Option Addr} {l c : Nat} {z : List Int} {F : Int} {ta : Option Addr} {tn tc : Nat} {xs : List Int} {G : Int} {ua : Option Addr} {un uc : Nat} {ys : List Int} {w W : World} (h : T9 B X Y T U a l c z F ta tn tc xs G ua un uc ys w W) (o : Obj) : T9 B X Y T U a l c z F ta tn tc xs G ua un uc ys w (W.alloc o) := h.call (But.alloc _) (h.core.ready.alloc _)

theorem T9.put {B X Y T U : Nat} {a : Option Addr} {l c : Nat} {z : List Int} {F : Int} {ta : Option Addr} {tn tc : Nat} {xs : List Int} {G : Int} {ua : Option Addr} {un uc : Nat} {ys : List Int} {w W : World} (h : T9 B X Y T U a l c z F ta tn tc xs G ua un uc ys w W) {K : Nat} (hK : K = X ∨ K = Y) (u v : Value) : T9 B X Y T U a l c z F ta tn tc xs G ua un uc ys w ((W.setCell ⟨K, 0, none⟩ u).setCell ⟨K, 1, none⟩ v) := by
  have ho := put_only W K u v
  have oY := h.core.oY
  have oB := h.core.oB
  have oT := h.oT
  have oU := h.oU
  exact ⟨h.core.put hK u v, h.bt.same (ho.block _ (by omega)), h.bu.same (ho.block _ (by omega)), oT, oU⟩

theorem t9S {B X Y T U : Nat} {a : Option Addr} {l c : Nat} {z : List Int} {F : Int} {ta : Option Addr} {tn tc : Nat} {xs : List Int} {G : Int} {ua : Option Addr} {un uc : Nat} {ys : List Int} {w W : World} (h : T9 B X Y T U a l c z F ta tn tc xs G ua un uc ys w W) : W.cell? ⟨T, 0, none⟩ = some (.int .i64 F) ∧ W.cell? ⟨T, 1, none⟩ = some (.slice ta tn tc) ∧ W.cell? ⟨U, 0, none⟩ = some (.int .i64 G) ∧ W.cell? ⟨U, 1, none⟩ = some (.slice ua un uc) ∧ Hid (T9 B X Y T U a l c z F ta tn tc xs G ua un uc ys w W) := ⟨h.bt.two.1, h.bt.two.2, h.bu.two.1, h.bu.two.2, Lib.hid h⟩

theorem C9.cells {B X Y : Nat} {a : Option Addr} {l c : Nat} {z : List Int} {ta : Option Addr} {tn : Nat} {xs : List Int} {ua : Option Addr} {un : Nat} {ys : List Int} {w W : World} (h : C9 B X Y a l c z ta tn xs ua un ys w W) : (∃ p q, W.cell? ⟨X, 0, none⟩ = some p ∧ W.cell? ⟨X, 1, none⟩ = some q) ∧ (∃ r s, W.cell? ⟨Y, 0, none⟩ = some r ∧ W.cell? ⟨Y, 1, none⟩ = some s) ∧ W.frozen? ⟨X, 0, none⟩ = false ∧ W.frozen? ⟨X, 1, none⟩ = false ∧ W.frozen? ⟨Y, 0, none⟩ = false ∧ W.frozen? ⟨Y, 1, none⟩ = false := by
  obtain ⟨p, q, hx⟩ := h.rx
  obtain ⟨r, s, hy⟩ := h.ry
  exact ⟨⟨p, q, hx.two⟩, ⟨r, s, hy.two⟩, hx.free 0, hx.free 1, hy.free 0, hy.free 1⟩

theorem pick4D (B : Nat) (x1 x2 x3 x4 : Int) (T : TypeId) (w : World) {a : Option Addr} {l c : Nat} {z : List Int} (h : Ready B a l c z w) :
    Calls Tryz.prog 63 #[.pointer (some ⟨B, 0, none⟩), .slice (some ⟨w.heap.size, 0, none⟩) 4 4] (w.alloc (.cells #[.int .i64 x1, .int .i64 x2, .int .i64 x3, .int .i64 x4] T)).drew (NumPost B a l c z (· ∈ [x1, x2, x3, x4]) w) := by
  refine (pick_r B w.heap.size a l c 4 z [x1, x2, x3, x4] _ ((h.alloc _).drew) (by have := h.here; omega) rfl (by decide) (by decide) (fun i hi => new_cells w [x1, x2, x3, x4] T i hi)).mono ?_
  rintro e w' ⟨v, he, hd, ho, hs⟩
  exact ⟨v, he, hd, ((But.alloc _).drew).trans ho, hs⟩

def JdPost (w : World) (e : Ending) (w' : World) : Prop :=
  ∃ F ta tn tc xs x G ua un uc ys y, e = .returned (.tuple #[.agg #[.int .i64 F, .slice ta tn tc], .int .i64 x, .agg #[.int .i64 G, .slice ua un uc], .int .i64 y]) ∧ (Ints w' ta tn xs ∧ Ints w' ua un ys ∧ Below w.heap.size w w') ∧ tn ≤ tc ∧ un ≤ uc

def BaPost (w : World) (e : Ending) (w' : World) : Prop :=
  ∃ F ta tn tc xs x G ua un uc ys y n, e = .returned (.tuple #[.agg #[.int .i64 F, .slice ta tn tc], .int .i64 x, .agg #[.int .i64 G, .slice ua un uc], .int .i64 y, .int .i64 n]) ∧ (Ints w' ta tn xs ∧ Ints w' ua un ys ∧ Below w.heap.size w w') ∧ tn ≤ tc ∧ un ≤ uc

def JaPost (w : World) (e : Ending) (w' : World) : Prop :=
  ∃ F ta tn tc xs x G ua un uc ys y r m, e = .returned (.tuple #[.agg #[.int .i64 F, .slice ta tn tc], .int .i64 x, .agg #[.int .i64 G, .slice ua un uc], .int .i64 y, .int .i64 r, .int .i64 m]) ∧ (Ints w' ta tn xs ∧ Ints w' ua un ys ∧ Below w.heap.size w w') ∧ tn ≤ tc ∧ un ≤ uc ∧ (∀ x, ta = some x → w.heap.size ≤ x.block) ∧ (∀ x, ua = some x → w.heap.size ≤ x.block)

theorem C9.far {B X Y : Nat} {a : Option Addr} {l c : Nat} {z : List Int} {ta : Option Addr} {tn : Nat} {xs : List Int} {ua : Option Addr} {un : Nat} {ys : List Int} {w W : World} (h : C9 B X Y a l c z ta tn xs ua un ys w W) : (∀ x, ta = some x → w.heap.size ≤ x.block) ∧ (∀ x, ua = some x → w.heap.size ≤ x.block) := by
  have e := h.eX
  have oY := h.oY
  have oB := h.oB
  exact ⟨fun x hx => by have := h.f1 x hx; omega, fun x hx => by have := h.f2 x hx; omega⟩

end Go.Proofs.YtlcmgihaelgclaaGreat
