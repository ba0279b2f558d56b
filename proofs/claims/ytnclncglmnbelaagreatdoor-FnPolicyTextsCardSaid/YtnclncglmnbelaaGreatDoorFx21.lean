/- Merged: Dpx, Dpt, Dsf, RtS, RnI. -/
import Derived.Test.YtnclncglmnbelaaGreatDoorFx10
import Derived.Test.YtnclncglmnbelaaGreatDoorFx11
import Derived.Test.YtnclncglmnbelaaGreatDoorFx13
import Derived.Test.YtnclncglmnbelaaGreatDoorFx14
import Derived.Test.YtnclncglmnbelaaGreatDoorFx17
import Derived.Test.YtnclncglmnbelaaGreatDoorFx18
import Derived.Test.YtnclncglmnbelaaGreatDoorFx19
import Derived.Test.YtnclncglmnbelaaGreatDoorFx20
import Derived.Deep.RegionHeld3

/- Policies: what FnPolicyTexts draws: a text. -/
namespace Go.Proofs.YtnclncglmnbelaaGreatDoor
open Go.ChangeShapes Go.WideShapes Go.ChangeAt Go.RowKit
set_option linter.unusedVariables false

theorem ptT_len (k x n s u : Int) : (ptT k x n s u).length ≤ 110 := by
  unfold ptT
  split
  · next h =>
    have := jc_len [k, x, n, s, u] (ptB_mon h)
    simpa using this
  · simp

/-- some text, not too long -/
def TxPostP (w : World) (e : Ending) (w' : World) : Prop := ∃ s : ByteArray, e = .returned (.string s) ∧ s.size ≤ 100000 ∧ Below w.heap.size w w'

set_option maxRecDepth 100000 in
set_option maxHeartbeats 1000000 in
theorem drawRP (a : Option Addr) (l c : Nat) (z : List Int) (w : World) (hr : IsRow .u8 w a l c z) : Calls Tryz.prog 11 #[.slice a l c] w (TxPostP w) := by
  have HR := Lib.hid hr
  clear hr
  go_enter Tryz.func11, Tryz.ntmps11
  go_wp2_with fail
  refine (from_any _ _ _ z _ HR.out).mono ?_
  rintro e w1 ⟨rfl, hs, hz, hb⟩
  have HS := Lib.hid (ready_of HR.out hs hb)
  have HB := Lib.hid hb
  have hsz : w1.heap.size = w.heap.size + 1 := hz
  clear hs hz hb
  go_wp2_with fail
  refine (d10 _ a l c z w1 HS.out).mono ?_
  rintro e w2 ⟨F, ta, tn, tc, xs, r, k, x, n, s, u, rfl, hI, htc, htn, far, ho, hs⟩
  have q1 := box_b w2 (.cells #[.int .i64 F, .slice ta tn tc, .int .i64 r] 28)
  have q2 := box_b (w2.alloc (.cells #[.int .i64 F, .slice ta tn tc, .int .i64 r] 28)) (.cells #[.int .i64 k, .int .i64 x, .int .i64 n, .int .i64 s, .int .i64 u] 30)
  have hq : Below w2.heap.size w2 ((w2.alloc (.cells #[.int .i64 F, .slice ta tn tc, .int .i64 r] 28)).alloc (.cells #[.int .i64 k, .int .i64 x, .int .i64 n, .int .i64 s, .int .i64 u] 30)) := q1.trans (q2.mono (by simp))
  have HS2 := Lib.hid (hs.below hq hs.here)
  have HB2 := Lib.hid ((HB.out.trans (ho.below (Nat.le_refl _) (by omega))).trans (hq.mono (by have := ho.size; omega)))
  clear hs ho hI far HB q1 q2 hq htc htn
  go_wp2_with fail
  refine (pt_spec k x n s u _).mono ?_
  rintro e w3 ⟨rfl, hb⟩
  have htl := ptT_len k x n s u
  obtain ⟨t, ht⟩ : ∃ t : ByteArray, (⟨(ptT k x n s u).toArray⟩ : ByteArray) = t := ⟨_, rfl⟩
  have hts : t.size ≤ 110 := by rw [← ht]; show (ptT k x n s u).toArray.size ≤ 110; simpa using htl
  rw [ht]
  have HB3 := Lib.hid (HB2.out.trans (hb.mono HB2.out.size))
  have HS3 := Lib.hid (HS2.out.below hb HS2.out.here)
  clear ht htl hb HS2 HB2
  go_wp2_with fail
  refine (next_r _ _ _ _ _ _ _ HS3.out).mono ?_
  rintro e w4 ⟨r4, rfl, hd, ho, hs⟩
  have HS4 := Lib.hid hs
  have HB4 := Lib.hid (HB3.out.trans (ho.below (Nat.le_refl _) (by have := HB3.out.size; have := HS3.out.here; omega)))
  clear hd ho hs HB3 HS3
  by_cases hr0 : r4 = 0
  · subst hr0
    go_wp2_with fail
    refine (damage_any _ _ _ _ _ t _ HS4.out (by omega)).mono ?_
    rintro e w5 ⟨y, rfl, hu, ho, hs⟩
    have HB5 := Lib.hid (HB4.out.trans (ho.below (Nat.le_refl _) (by have := HS4.out.here; omega)))
    clear ho hs
    go_wp2_with fail
    go_ret
    exact ⟨y, rfl, by omega, HB5.out⟩
  · have hrb : (r4 == 0) = false := by simpa using hr0
    go_wp2_with fail
    go_ret
    exact ⟨t, rfl, by omega, HB4.out⟩

end Go.Proofs.YtnclncglmnbelaaGreatDoor

/- Policies: what FnPolicyTexts draws: a policy. -/
namespace Go.Proofs.YtnclncglmnbelaaGreatDoor
open Go.ChangeShapes Go.WideShapes Go.ChangeAt Go.RowKit
set_option linter.unusedVariables false

/-- some policy -/
def PlPostP (w : World) (e : Ending) (w' : World) : Prop := ∃ k x n s u : Int, e = .returned (.agg #[.int .i64 k, .int .i64 x, .int .i64 n, .int .i64 s, .int .i64 u]) ∧ Below w.heap.size w w'

set_option maxRecDepth 100000 in
set_option maxHeartbeats 2000000 in
theorem drawPT (a : Option Addr) (l c : Nat) (z : List Int) (w : World) (hr : IsRow .u8 w a l c z) : Calls Tryz.prog 8 #[.slice a l c] w (PlPostP w) := by
  have hb1 := box_b w (.cells #[.int .i64 0, .int .i64 0, .int .i64 0, .int .i64 0, .int .i64 0] 30)
  have HX := Lib.hid (Bx.new w [.int .i64 0, .int .i64 0, .int .i64 0, .int .i64 0, .int .i64 0] 30)
  have HB := Lib.hid hb1
  have HR := Lib.hid (hr.below HB.out hr.apart)
  clear hr hb1
  go_enter Tryz.func8, Tryz.ntmps8
  go_wp2_with fail
  have hsz : (w.alloc (.cells #[.int .i64 0, .int .i64 0, .int .i64 0, .int .i64 0, .int .i64 0] 30)).heap.size = w.heap.size + 1 := by simp
  obtain ⟨W0, hW0⟩ : ∃ y_, w.alloc (.cells #[.int .i64 0, .int .i64 0, .int .i64 0, .int .i64 0, .int .i64 0] 30) = y_ := ⟨_, rfl⟩
  rw [show w.alloc (.cells [.int .i64 0, .int .i64 0, .int .i64 0, .int .i64 0, .int .i64 0].toArray 30) = W0 from hW0] at HX
  rw [hW0] at HB HR hsz ⊢
  clear hW0
  refine (from_any _ _ _ z _ HR.out).mono ?_
  rintro e w1 ⟨rfl, hs, hz, hb⟩
  have HS := Lib.hid (ready_of HR.out hs hb)
  have hx := HX.out.on hb
  have HB1 := Lib.hid (HB.out.trans (hb.mono HB.out.size))
  have HZ := Lib.hid hz
  have HSZ := Lib.hid hsz
  clear hb hz hs HX HB HR hsz
  go_wp2_with fail
  refine (d10 _ a l c z w1 HS.out).mono ?_
  rintro e w2 ⟨F, ta, tn, tc, xs, r, k, x, n, s, u, rfl, hI, htc, htn, far, ho, hs⟩
  have e1 := HSZ.out
  have e2 := HZ.out
  have hx2 := hx.same (ho.block _ hx.lt (by omega))
  have q1 := box_b w2 (.cells #[.int .i64 F, .slice ta tn tc, .int .i64 r] 28)
  have q2 := box_b (w2.alloc (.cells #[.int .i64 F, .slice ta tn tc, .int .i64 r] 28)) (.cells #[.int .i64 k, .int .i64 x, .int .i64 n, .int .i64 s, .int .i64 u] 30)
  have hq : Below w2.heap.size w2 ((w2.alloc (.cells #[.int .i64 F, .slice ta tn tc, .int .i64 r] 28)).alloc (.cells #[.int .i64 k, .int .i64 x, .int .i64 n, .int .i64 s, .int .i64 u] 30)) := q1.trans (q2.mono (by simp))
  have HY := Lib.hid (Bx.new (w2.alloc (.cells #[.int .i64 F, .slice ta tn tc, .int .i64 r] 28)) [.int .i64 k, .int .i64 x, .int .i64 n, .int .i64 s, .int .i64 u] 30)
  have hz2 : (w2.alloc (.cells #[.int .i64 F, .slice ta tn tc, .int .i64 r] 28)).heap.size = w2.heap.size + 1 := by simp
  rw [hz2] at HY
  have HX2 := Lib.hid (hx2.on hq)
  have HS2 := Lib.hid (hs.below hq hs.here)
  have hs2 := ho.size
  have HB2 := Lib.hid ((HB1.out.trans (ho.below (by omega) (by omega))).trans (hq.mono (by omega)))
  have HS2Z := Lib.hid hs2
  clear hs hI far q1 q2 hq htc htn hx hx2 HB1 hz2 ho e1 e2 hs2
  go_wp2_with fail
  refine (next_r _ _ _ _ _ _ _ HS2.out).mono ?_
  rintro e w4 ⟨r4, rfl, hd, ho, hs⟩
  have e1 := HSZ.out
  have e2 := HZ.out
  have hs2 := HS2Z.out
  have hX4 := HX2.out.same (ho.block _ HX2.out.lt (by omega))
  have hY4 := HY.out.same (ho.block _ HY.out.lt (by omega))
  have HS4 := Lib.hid hs
  have HB4 := Lib.hid (HB2.out.trans (ho.below (by omega) (by have := HB2.out.size; have := HS2.out.here; omega)))
  have HX4 := Lib.hid hX4
  have HY4 := Lib.hid hY4
  clear hd ho hs HB2 HS2 HX2 HY hX4 hY4
  have hne : ¬ w2.heap.size + 1 = w.heap.size := by omega
  have hne2 : ¬ w.heap.size = w2.heap.size + 1 := by omega
  clear e1 e2 hs2
  by_cases hr0 : r4 = 0
  · subst hr0
    go_wp2_with fail
    refine (pick3 _ _ _ _ _ _ HS4.out).mono ?_
    rintro e w5 ⟨v, rfl, hd, ho, hs⟩
    have e1 := HSZ.out
    have e2 := HZ.out
    have hs2 := HS2Z.out
    have hX5 := HX4.out.same (ho.block _ HX4.out.lt (by omega))
    have hY5 := HY4.out.same (ho.block _ HY4.out.lt (by omega))
    have HB5 := Lib.hid (HB4.out.trans (ho.below (by omega) (by have := HB4.out.size; have := HS4.out.here; omega)))
    have hY6 := hY5.p51 (.int .i64 v)
    have hX6 := hX5.off (fun h => hne2 h) 1 (.int .i64 v)
    have HLOW := Lib.hid (HB5.out.setCell (p := ⟨w2.heap.size + 1, 1, none⟩) (by show w.heap.size ≤ w2.heap.size + 1; omega) (.int .i64 v))
    obtain ⟨c0, c1, c2, c3, c4⟩ := hX5.five9
    obtain ⟨g0, g1, g2, g3, g4⟩ := hY5.five9
    have p0 := hX5.free 0
    have p1 := hX5.free 1
    have p2 := hX5.free 2
    have p3 := hX5.free 3
    have p4 := hX5.free 4
    have t1 := hY5.free 1
    clear hd ho hs hX5 hY5 HX4 HY4 HB4 HS4 hX6 hY6 e1 e2 hs2
    go_wp2_with fail
    exact bodyPost_ret (v := .agg #[.int .i64 k, .int .i64 v, .int .i64 n, .int .i64 s, .int .i64 u]) (by simp [results, Tryz.results8, go_sem, c0, c1, c2, c3, c4]) rfl ⟨k, v, n, s, u, rfl, ((((HLOW.out.setCell (p := ⟨w.heap.size, 0, none⟩) (Nat.le_refl _) _).setCell (p := ⟨w.heap.size, 1, none⟩) (Nat.le_refl _) _).setCell (p := ⟨w.heap.size, 2, none⟩) (Nat.le_refl _) _).setCell (p := ⟨w.heap.size, 3, none⟩) (Nat.le_refl _) _).setCell (p := ⟨w.heap.size, 4, none⟩) (Nat.le_refl _) _⟩
  · have hrb : (r4 == 0) = false := by simpa using hr0
    obtain ⟨c0, c1, c2, c3, c4⟩ := HX4.out.five9
    obtain ⟨g0, g1, g2, g3, g4⟩ := HY4.out.five9
    have p0 := HX4.out.free 0
    have p1 := HX4.out.free 1
    have p2 := HX4.out.free 2
    have p3 := HX4.out.free 3
    have p4 := HX4.out.free 4
    clear HX4 HY4 HS4
    go_wp2_with fail
    exact bodyPost_ret (v := .agg #[.int .i64 k, .int .i64 x, .int .i64 n, .int .i64 s, .int .i64 u]) (by simp [results, Tryz.results8, go_sem, c0, c1, c2, c3, c4]) rfl ⟨k, x, n, s, u, rfl, ((((HB4.out.setCell (p := ⟨w.heap.size, 0, none⟩) (Nat.le_refl _) _).setCell (p := ⟨w.heap.size, 1, none⟩) (Nat.le_refl _) _).setCell (p := ⟨w.heap.size, 2, none⟩) (Nat.le_refl _) _).setCell (p := ⟨w.heap.size, 3, none⟩) (Nat.le_refl _) _).setCell (p := ⟨w.heap.size, 4, none⟩) (Nat.le_refl _) _⟩

end Go.Proofs.YtnclncglmnbelaaGreatDoor

/- Policies: what FnPolicyTexts draws: a basis, a policy and a premium. (Written by wip/gen/dsf.py.) -/
namespace Go.Proofs.YtnclncglmnbelaaGreatDoor
open Go.ChangeShapes Go.WideShapes Go.ChangeAt Go.RowKit
set_option linter.unusedVariables false
set_option linter.unusedSimpArgs false

theorem ready_far {B X K : Nat} {a : Option Addr} {l c : Nat} {z : List Int} {w w' : World} (h : Ready B a l c z w) (hb : Below X w w') (hall : ∀ j, j ≠ K → w'.heap[j]? = w.heap[j]?) (hK : B ≠ K) (hap : Apart a z X) : Ready B a l c z w' := by
  obtain ⟨⟨t, x, S⟩, r, p⟩ := h
  have e : ∀ i, w'.cell? ⟨B, i, none⟩ = w.cell? ⟨B, i, none⟩ := fun i => World.cell?_of_block (w := w) (a := ⟨B, i, none⟩) (hall B hK)
  have g : ∀ i, w'.frozen? ⟨B, i, none⟩ = w.frozen? ⟨B, i, none⟩ := fun i => World.frozen?_of_block (w := w) (a := ⟨B, i, none⟩) (hall B hK)
  refine ⟨⟨t, x, ?_⟩, r.below hb hap, p⟩
  exact ⟨Nat.lt_of_lt_of_le S.here hb.size, (e 0).trans S.code, (e 1).trans S.att, (e 2).trans S.seed, (g 0).trans S.free0, (g 1).trans S.free1, (g 2).trans S.free2, S.t0, S.tl, S.x0, S.xl⟩

/-- four numbers in a block -/
def FourS (B : Nat) (w : World) (k : Nat) : Prop := k ≠ B ∧ k < w.heap.size ∧ ∃ x1 x2 x3 x4 : Int, ∀ i, i < 4 → w.cell? ⟨k, i, none⟩ = some (.int .i64 ([x1, x2, x3, x4].getD i 0))

theorem FourS.new {B k : Nat} {V : World} {x1 x2 x3 x4 : Int} {T : TypeId} (hk : k = V.heap.size) (hB : B < V.heap.size) : FourS B (V.alloc (.cells #[.int .i64 x1, .int .i64 x2, .int .i64 x3, .int .i64 x4] T)) k := by
  subst hk
  refine ⟨by omega, by rw [World.size_alloc]; omega, x1, x2, x3, x4, fun i hi => ?_⟩
  match i, hi with
  | 0, _ => go_simp
  | 1, _ => go_simp
  | 2, _ => go_simp
  | 3, _ => go_simp

theorem FourS.drew {B k : Nat} {V : World} (h : FourS B V k) : FourS B V.drew k := h

theorem FourS.pick {B k : Nat} {w : World} {a : Option Addr} {l c : Nat} {z : List Int} (hf : FourS B w k) (h : Ready B a l c z w) :
    Calls Tryz.prog 18 #[.pointer (some ⟨B, 0, none⟩), .slice (some ⟨k, 0, none⟩) 4 4] w fun e w' => ∃ v, e = .returned (.int .i64 v) ∧ But B w w' ∧ Ready B a l c z w' := by
  obtain ⟨h1, h2, x1, x2, x3, x4, h3⟩ := hf
  exact (pick_r B k a l c 4 z [x1, x2, x3, x4] w h h1 rfl (by decide) (by decide) h3).mono fun e w' ⟨v, he, _, ho, hs⟩ => ⟨v, he, ho, hs⟩

/-- three numbers in a block -/
def ThreeS (B : Nat) (w : World) (k : Nat) : Prop := k ≠ B ∧ k < w.heap.size ∧ ∃ x1 x2 x3 : Int, ∀ i, i < 3 → w.cell? ⟨k, i, none⟩ = some (.int .i64 ([x1, x2, x3].getD i 0))

theorem ThreeS.new {B k : Nat} {V : World} {x1 x2 x3 : Int} {T : TypeId} (hk : k = V.heap.size) (hB : B < V.heap.size) : ThreeS B (V.alloc (.cells #[.int .i64 x1, .int .i64 x2, .int .i64 x3] T)) k := by
  subst hk
  refine ⟨by omega, by rw [World.size_alloc]; omega, x1, x2, x3, fun i hi => ?_⟩
  match i, hi with
  | 0, _ => go_simp
  | 1, _ => go_simp
  | 2, _ => go_simp

theorem ThreeS.drew {B k : Nat} {V : World} (h : ThreeS B V k) : ThreeS B V.drew k := h

theorem ThreeS.pick {B k : Nat} {w : World} {a : Option Addr} {l c : Nat} {z : List Int} (hf : ThreeS B w k) (h : Ready B a l c z w) :
    Calls Tryz.prog 18 #[.pointer (some ⟨B, 0, none⟩), .slice (some ⟨k, 0, none⟩) 3 3] w fun e w' => ∃ v, e = .returned (.int .i64 v) ∧ But B w w' ∧ Ready B a l c z w' := by
  obtain ⟨h1, h2, x1, x2, x3, h3⟩ := hf
  exact (pick_r B k a l c 3 z [x1, x2, x3] w h h1 rfl (by decide) (by decide) h3).mono fun e w' ⟨v, he, _, ho, hs⟩ => ⟨v, he, ho, hs⟩

/-- a basis and a policy drawn, while more is drawn: their boxes, the boxes of the results -/
structure RE (B X Y T Q : Nat) (a : Option Addr) (l c : Nat) (z : List Int) (F : Int) (ta : Option Addr) (tn tc : Nat) (xs : List Int) (r k x n s u : Int) (w W : World) : Prop where
  ready : Ready B a l c z W
  low : But B w W
  rx : ∃ p0 p1 p2, Bx W X [p0, p1, p2]
  ry : ∃ q0 q1 q2 q3 q4, Bx W Y [q0, q1, q2, q3, q4]
  t : Bx W T [.int .i64 F, .slice ta tn tc, .int .i64 r]
  q : Bx W Q [.int .i64 k, .int .i64 x, .int .i64 n, .int .i64 s, .int .i64 u]
  ints : Ints W ta tn xs
  far : ∀ y, ta = some y → Y < y.block ∧ B < y.block
  oB : B ≠ X ∧ B ≠ Y ∧ B ≠ T ∧ B ≠ Q
  ap : Apart a z X
  oY : Y = X + 1
  oT : Y < T
  oQ : T < Q
  eX : w.heap.size = X

theorem RE.call {B X Y T Q : Nat} {a : Option Addr} {l c : Nat} {z : List Int} {F : Int} {ta : Option Addr} {tn tc : Nat} {xs : List Int} {r k x n s u : Int} {w : World} {W W' : World} (h : RE B X Y T Q a l c z F ta tn tc xs r k x n s u w W) (ho : But B W W') (hs : Ready B a l c z W') : RE B X Y T Q a l c z F ta tn tc xs r k x n s u w W' := by
  have h1 := h.oB
  have h2 := h.oY
  have h3 := h.oT
  have h4 := h.oQ
  obtain ⟨p0, p1, p2, hx⟩ := h.rx
  obtain ⟨q0, q1, q2, q3, q4, hy⟩ := h.ry
  exact ⟨hs, h.low.trans ho, ⟨p0, p1, p2, hx.same (ho.block X hx.lt (by omega))⟩, ⟨q0, q1, q2, q3, q4, hy.same (ho.block Y hy.lt (by omega))⟩, h.t.same (ho.block T h.t.lt (by omega)), h.q.same (ho.block Q h.q.lt (by omega)), h.ints.butT ho (fun y hy => by have := h.far y hy; omega), h.far, h1, h.ap, h2, h3, h4, h.eX⟩

theorem RE.on {B X Y T Q : Nat} {a : Option Addr} {l c : Nat} {z : List Int} {F : Int} {ta : Option Addr} {tn tc : Nat} {xs : List Int} {r k x n s u : Int} {w : World} {W W' : World} (h : RE B X Y T Q a l c z F ta tn tc xs r k x n s u w W) (hb : Below W.heap.size W W') : RE B X Y T Q a l c z F ta tn tc xs r k x n s u w W' := h.call ⟨hb.os, hb.tape, hb.output, hb.size, fun i hi _ => hb.block i hi⟩ (h.ready.below hb h.ready.here)

theorem RE.drew {B X Y T Q : Nat} {a : Option Addr} {l c : Nat} {z : List Int} {F : Int} {ta : Option Addr} {tn tc : Nat} {xs : List Int} {r k x n s u : Int} {w : World} {W : World} (h : RE B X Y T Q a l c z F ta tn tc xs r k x n s u w W) : RE B X Y T Q a l c z F ta tn tc xs r k x n s u w W.drew := h.call (But.refl _ _).drew h.ready.drew

theorem RE.set {B X Y T Q : Nat} {a : Option Addr} {l c : Nat} {z : List Int} {F : Int} {ta : Option Addr} {tn tc : Nat} {xs : List Int} {r k x n s u : Int} {w : World} {W E : World} (h : RE B X Y T Q a l c z F ta tn tc xs r k x n s u w W) (K : Nat) (hK : K = X ∨ K = Y) (hb : Below X W E) (hall : ∀ j, j ≠ K → E.heap[j]? = W.heap[j]?) (hx : ∃ p0 p1 p2, Bx E X [p0, p1, p2]) (hy : ∃ q0 q1 q2 q3 q4, Bx E Y [q0, q1, q2, q3, q4]) : RE B X Y T Q a l c z F ta tn tc xs r k x n s u w E := by
  have h1 := h.oB
  have h2 := h.oY
  have h3 := h.oT
  have h4 := h.oQ
  have eX := h.eX
  have ho : But K W E := ⟨hb.os, hb.tape, hb.output, hb.size, fun i hi hne => hall i hne⟩
  exact ⟨ready_far h.ready hb hall (by rcases hK with rfl | rfl <;> omega) h.ap, ⟨hb.os.trans h.low.os, hb.tape.trans h.low.tape, hb.output.trans h.low.output, Nat.le_trans h.low.size hb.size, fun i hi hne => (hall i (by omega)).trans (h.low.block i hi hne)⟩, hx, hy, h.t.same (hall T (by omega)), h.q.same (hall Q (by omega)), h.ints.butT ho (fun y hy => by have := h.far y hy; omega), h.far, h1, h.ap, h2, h3, h4, eX⟩

theorem RE.putX {B X Y T Q : Nat} {a : Option Addr} {l c : Nat} {z : List Int} {F : Int} {ta : Option Addr} {tn tc : Nat} {xs : List Int} {r k x n s u : Int} {w : World} {W : World} (h : RE B X Y T Q a l c z F ta tn tc xs r k x n s u w W) (y0 y1 y2 : Value) : RE B X Y T Q a l c z F ta tn tc xs r k x n s u w (((W.setCell ⟨X, 0, none⟩ (y0)).setCell ⟨X, 1, none⟩ (y1)).setCell ⟨X, 2, none⟩ (y2)) := by
  obtain ⟨p0, p1, p2, hx⟩ := h.rx
  obtain ⟨q0, q1, q2, q3, q4, hy⟩ := h.ry
  have h2 := h.oY
  exact h.set X (.inl rfl) ((((Below.refl X W).setCell (p := ⟨X, 0, none⟩) (by show X ≤ X; omega) _).setCell (p := ⟨X, 1, none⟩) (by show X ≤ X; omega) _).setCell (p := ⟨X, 2, none⟩) (by show X ≤ X; omega) _) (fun j hj => ((setoff _ X 2 _ _ (hj)).trans ((setoff _ X 1 _ _ (hj)).trans (setoff _ X 0 _ _ (hj))))) ⟨y0, y1, y2, ((hx.p30 y0).p31 y1).p32 y2⟩ ⟨q0, q1, q2, q3, q4, hy.same ((setoff _ X 2 _ _ (by omega)).trans ((setoff _ X 1 _ _ (by omega)).trans (setoff _ X 0 _ _ (by omega))))⟩

theorem RE.putY {B X Y T Q : Nat} {a : Option Addr} {l c : Nat} {z : List Int} {F : Int} {ta : Option Addr} {tn tc : Nat} {xs : List Int} {r k x n s u : Int} {w : World} {W : World} (h : RE B X Y T Q a l c z F ta tn tc xs r k x n s u w W) (y0 y1 y2 y3 y4 : Value) : RE B X Y T Q a l c z F ta tn tc xs r k x n s u w (((((W.setCell ⟨Y, 0, none⟩ (y0)).setCell ⟨Y, 1, none⟩ (y1)).setCell ⟨Y, 2, none⟩ (y2)).setCell ⟨Y, 3, none⟩ (y3)).setCell ⟨Y, 4, none⟩ (y4)) := by
  obtain ⟨p0, p1, p2, hx⟩ := h.rx
  obtain ⟨q0, q1, q2, q3, q4, hy⟩ := h.ry
  have h2 := h.oY
  exact h.set Y (.inr rfl) ((((((Below.refl X W).setCell (p := ⟨Y, 0, none⟩) (by show X ≤ Y; omega) _).setCell (p := ⟨Y, 1, none⟩) (by show X ≤ Y; omega) _).setCell (p := ⟨Y, 2, none⟩) (by show X ≤ Y; omega) _).setCell (p := ⟨Y, 3, none⟩) (by show X ≤ Y; omega) _).setCell (p := ⟨Y, 4, none⟩) (by show X ≤ Y; omega) _) (fun j hj => ((setoff _ Y 4 _ _ (hj)).trans ((setoff _ Y 3 _ _ (hj)).trans ((setoff _ Y 2 _ _ (hj)).trans ((setoff _ Y 1 _ _ (hj)).trans (setoff _ Y 0 _ _ (hj))))))) ⟨p0, p1, p2, hx.same ((setoff _ Y 4 _ _ (by omega)).trans ((setoff _ Y 3 _ _ (by omega)).trans ((setoff _ Y 2 _ _ (by omega)).trans ((setoff _ Y 1 _ _ (by omega)).trans (setoff _ Y 0 _ _ (by omega))))))⟩ ⟨y0, y1, y2, y3, y4, ((((hy.p50 y0).p51 y1).p52 y2).p53 y3).p54 y4⟩

theorem reS {B X Y T Q : Nat} {a : Option Addr} {l c : Nat} {z : List Int} {F : Int} {ta : Option Addr} {tn tc : Nat} {xs : List Int} {r k x n s u : Int} {w : World} {W : World} (h : RE B X Y T Q a l c z F ta tn tc xs r k x n s u w W) : W.cell? ⟨T, 0, none⟩ = some (.int .i64 F) ∧ W.cell? ⟨T, 1, none⟩ = some (.slice ta tn tc) ∧ W.cell? ⟨T, 2, none⟩ = some (.int .i64 r) ∧ W.cell? ⟨Q, 0, none⟩ = some (.int .i64 k) ∧ W.cell? ⟨Q, 1, none⟩ = some (.int .i64 x) ∧ W.cell? ⟨Q, 2, none⟩ = some (.int .i64 n) ∧ W.cell? ⟨Q, 3, none⟩ = some (.int .i64 s) ∧ W.cell? ⟨Q, 4, none⟩ = some (.int .i64 u) ∧ Hid (RE B X Y T Q a l c z F ta tn tc xs r k x n s u w W) := by
  obtain ⟨c0, c1, c2⟩ := h.t.three0
  obtain ⟨d0, d1, d2, d3, d4⟩ := h.q.five9
  exact ⟨c0, c1, c2, d0, d1, d2, d3, d4, Lib.hid h⟩

/-- the end: both boxes are written, in this order or the other -/
theorem RE.fin {B X Y T Q : Nat} {a : Option Addr} {l c : Nat} {z : List Int} {F : Int} {ta : Option Addr} {tn tc : Nat} {xs : List Int} {r k x n s u : Int} {w : World} {V E : World} (h : RE B X Y T Q a l c z F ta tn tc xs r k x n s u w V) (hE : E = ((((((((V.setCell ⟨X, 0, none⟩ (.int .i64 F)).setCell ⟨X, 1, none⟩ (.slice ta tn tc)).setCell ⟨X, 2, none⟩ (.int .i64 r)).setCell ⟨Y, 0, none⟩ (.int .i64 k)).setCell ⟨Y, 1, none⟩ (.int .i64 x)).setCell ⟨Y, 2, none⟩ (.int .i64 n)).setCell ⟨Y, 3, none⟩ (.int .i64 s)).setCell ⟨Y, 4, none⟩ (.int .i64 u)) ∨ E = ((((((((V.setCell ⟨Y, 0, none⟩ (.int .i64 k)).setCell ⟨Y, 1, none⟩ (.int .i64 x)).setCell ⟨Y, 2, none⟩ (.int .i64 n)).setCell ⟨Y, 3, none⟩ (.int .i64 s)).setCell ⟨Y, 4, none⟩ (.int .i64 u)).setCell ⟨X, 0, none⟩ (.int .i64 F)).setCell ⟨X, 1, none⟩ (.slice ta tn tc)).setCell ⟨X, 2, none⟩ (.int .i64 r))) :
    Bx E X [.int .i64 F, .slice ta tn tc, .int .i64 r] ∧ Bx E Y [.int .i64 k, .int .i64 x, .int .i64 n, .int .i64 s, .int .i64 u] ∧ Ints E ta tn xs ∧ But B w E ∧ Ready B a l c z E ∧ (∀ y, ta = some y → w.heap.size + 1 < y.block) := by
  have hf : ∀ y, ta = some y → w.heap.size + 1 < y.block := fun y hy => by have h1 := h.far y hy; have h2 := h.oY; have h3 := h.eX; omega
  have h2 := h.oY
  obtain ⟨p0, p1, p2, hx⟩ := h.rx
  obtain ⟨q0, q1, q2, q3, q4, hy⟩ := h.ry
  rcases hE with rfl | rfl
  · have h8 := (h.putX (.int .i64 F) (.slice ta tn tc) (.int .i64 r)).putY (.int .i64 k) (.int .i64 x) (.int .i64 n) (.int .i64 s) (.int .i64 u)
    refine ⟨?_, ?_, h8.ints, h8.low, h8.ready, hf⟩
    · exact (((hx.p30 (.int .i64 F)).p31 (.slice ta tn tc)).p32 (.int .i64 r)).same ((setoff _ Y 4 _ _ (by omega)).trans ((setoff _ Y 3 _ _ (by omega)).trans ((setoff _ Y 2 _ _ (by omega)).trans ((setoff _ Y 1 _ _ (by omega)).trans (setoff _ Y 0 _ _ (by omega))))))
    · exact (((((hy.same ((setoff _ X 2 _ _ (by omega)).trans ((setoff _ X 1 _ _ (by omega)).trans (setoff _ X 0 _ _ (by omega))))).p50 (.int .i64 k)).p51 (.int .i64 x)).p52 (.int .i64 n)).p53 (.int .i64 s)).p54 (.int .i64 u)
  · have h8 := (h.putY (.int .i64 k) (.int .i64 x) (.int .i64 n) (.int .i64 s) (.int .i64 u)).putX (.int .i64 F) (.slice ta tn tc) (.int .i64 r)
    refine ⟨?_, ?_, h8.ints, h8.low, h8.ready, hf⟩
    · exact (((hx.same ((setoff _ Y 4 _ _ (by omega)).trans ((setoff _ Y 3 _ _ (by omega)).trans ((setoff _ Y 2 _ _ (by omega)).trans ((setoff _ Y 1 _ _ (by omega)).trans (setoff _ Y 0 _ _ (by omega))))))).p30 (.int .i64 F)).p31 (.slice ta tn tc)).p32 (.int .i64 r)
    · exact (((((hy.p50 (.int .i64 k)).p51 (.int .i64 x)).p52 (.int .i64 n)).p53 (.int .i64 s)).p54 (.int .i64 u)).same ((setoff _ X 2 _ _ (by omega)).trans ((setoff _ X 1 _ _ (by omega)).trans (setoff _ X 0 _ _ (by omega))))

theorem size_drewS (w : World) : w.drew.heap.size = w.heap.size := rfl

/-- a basis, a policy and a number -/
def SfPostP (w : World) (e : Ending) (w' : World) : Prop :=
  ∃ F ta tn tc xs r k x n s u j, e = .returned (.tuple #[.agg #[.int .i64 F, .slice ta tn tc, .int .i64 r], .agg #[.int .i64 k, .int .i64 x, .int .i64 n, .int .i64 s, .int .i64 u], .int .i64 j]) ∧ Ints w' ta tn xs ∧ tn ≤ tc ∧ tn ≤ 4096 ∧ Below w.heap.size w w'

set_option maxRecDepth 2000000 in
set_option maxHeartbeats 16000000 in
theorem drawSF (a : Option Addr) (l c : Nat) (z : List Int) (w : World) (hr : IsRow .u8 w a l c z) : Calls Tryz.prog 5 #[.slice a l c] w (SfPostP w) := by
  have b1 := box_b w (.cells #[.int .i64 0, .slice none 0 0, .int .i64 0] 28)
  have b2 := box_b (w.alloc (.cells #[.int .i64 0, .slice none 0 0, .int .i64 0] 28)) (.cells #[.int .i64 0, .int .i64 0, .int .i64 0, .int .i64 0, .int .i64 0] 30)
  have x0 := (Bx.new w [.int .i64 0, .slice none 0 0, .int .i64 0] 28).on b2
  have y0 := Bx.new (w.alloc (.cells #[.int .i64 0, .slice none 0 0, .int .i64 0] 28)) [.int .i64 0, .int .i64 0, .int .i64 0, .int .i64 0, .int .i64 0] 30
  rw [World.size_alloc] at y0
  have HX := Lib.hid (And.intro x0 y0)
  have HB := Lib.hid (b1.trans (b2.mono (by simp)))
  have HR := Lib.hid (hr.below HB.out hr.apart)
  have HAP := Lib.hid hr.apart
  have hsz : ((w.alloc (.cells #[.int .i64 0, .slice none 0 0, .int .i64 0] 28)).alloc (.cells #[.int .i64 0, .int .i64 0, .int .i64 0, .int .i64 0, .int .i64 0] 30)).heap.size = w.heap.size + 1 + 1 := by simp
  clear hr b1 b2 x0 y0
  go_enter Tryz.func5, Tryz.ntmps5
  go_wp2_with fail
  obtain ⟨W0, hW0⟩ : ∃ y_, (w.alloc (.cells #[.int .i64 0, .slice none 0 0, .int .i64 0] 28)).alloc (.cells #[.int .i64 0, .int .i64 0, .int .i64 0, .int .i64 0, .int .i64 0] 30) = y_ := ⟨_, rfl⟩
  rw [hW0] at HB HX HR hsz ⊢
  clear hW0
  refine (from_any _ _ _ z _ HR.out).mono ?_
  rintro e w1 ⟨rfl, hs, hz, hb⟩
  have hS1 := ready_of HR.out hs hb
  rw [hsz] at hS1 hz
  have HS := Lib.hid hS1
  have HX := Lib.hid (And.intro (HX.out.1.on hb) (HX.out.2.on hb))
  have HB := Lib.hid (HB.out.trans (hb.mono (by omega)))
  have HZ := Lib.hid hz
  clear hb hz hs hS1 HR
  go_wp2_with fail
  (try rw [hsz])
  refine (d10 _ a l c z w1 HS.out).mono ?_
  rintro e w2 ⟨F, ta, tn, tc, xs, r, k, x, n, s, u, rfl, hI, htc, htn, far, ho, hs⟩
  have hz2 := ho.size
  have hz1 := HZ.out
  have HTC := Lib.hid (And.intro htc htn)
  have HRD : Hid (RE (w.heap.size + 1 + 1) w.heap.size (w.heap.size + 1) w2.heap.size (w2.heap.size + 1) a l c z F ta tn tc xs r k x n s u w ((w2.alloc (.cells #[.int .i64 F, .slice ta tn tc, .int .i64 r] 28)).alloc (.cells #[.int .i64 k, .int .i64 x, .int .i64 n, .int .i64 s, .int .i64 u] 30))) := Lib.hid (by
    have q1 := box_b w2 (.cells #[.int .i64 F, .slice ta tn tc, .int .i64 r] 28)
    have q2 := box_b (w2.alloc (.cells #[.int .i64 F, .slice ta tn tc, .int .i64 r] 28)) (.cells #[.int .i64 k, .int .i64 x, .int .i64 n, .int .i64 s, .int .i64 u] 30)
    have hx := HX.out.1
    have hy := HX.out.2
    have t1 := (Bx.new w2 [.int .i64 F, .slice ta tn tc, .int .i64 r] 28).on q2
    have t2 := Bx.new (w2.alloc (.cells #[.int .i64 F, .slice ta tn tc, .int .i64 r] 28)) [.int .i64 k, .int .i64 x, .int .i64 n, .int .i64 s, .int .i64 u] 30
    rw [World.size_alloc] at t2
    have hq : Below w2.heap.size w2 ((w2.alloc (.cells #[.int .i64 F, .slice ta tn tc, .int .i64 r] 28)).alloc (.cells #[.int .i64 k, .int .i64 x, .int .i64 n, .int .i64 s, .int .i64 u] 30)) := q1.trans (q2.mono (by simp))
    have hbq : But (w.heap.size + 1 + 1) w2 ((w2.alloc (.cells #[.int .i64 F, .slice ta tn tc, .int .i64 r] 28)).alloc (.cells #[.int .i64 k, .int .i64 x, .int .i64 n, .int .i64 s, .int .i64 u] 30)) := ⟨hq.os, hq.tape, hq.output, hq.size, fun i hi _ => hq.block i hi⟩
    have hb0 : But (w.heap.size + 1 + 1) w w1 := ⟨HB.out.os, HB.out.tape, HB.out.output, HB.out.size, fun i hi _ => HB.out.block i hi⟩
    exact ⟨hs.below hq hs.here, (hb0.trans ho).trans hbq, ⟨_, _, _, (hx.same (ho.block _ hx.lt (by omega))).on hq⟩, ⟨_, _, _, _, _, (hy.same (ho.block _ hy.lt (by omega))).on hq⟩, t1, t2, hI.on hq, fun y hy => by have := far y hy; omega, ⟨by omega, by omega, by omega, by omega⟩, HAP.out, rfl, by omega, by omega, rfl⟩)
  have HBw : Hid (w.heap.size ≤ w.heap.size + 1 + 1) := Lib.hid (by omega)
  clear htc htn hI far ho hs HX HB HS HZ HAP
  go_wp2_with fail
  obtain ⟨v2, hv2⟩ : ∃ y_, (w2.alloc (.cells #[.int .i64 F, .slice ta tn tc, .int .i64 r] 28)).alloc (.cells #[.int .i64 k, .int .i64 x, .int .i64 n, .int .i64 s, .int .i64 u] 30) = y_ := ⟨_, rfl⟩
  obtain ⟨T, hT⟩ : ∃ y_, w2.heap.size = y_ := ⟨_, rfl⟩
  obtain ⟨Q, hQ⟩ : ∃ y_, T + 1 = y_ := ⟨_, rfl⟩
  obtain ⟨X, hX⟩ : ∃ y_, w.heap.size = y_ := ⟨_, rfl⟩
  have HXw := Lib.hid hX
  obtain ⟨Y, hY⟩ : ∃ y_, X + 1 = y_ := ⟨_, rfl⟩
  obtain ⟨B, hBB⟩ : ∃ y_, Y + 1 = y_ := ⟨_, rfl⟩
  rw [hv2, hT, hQ, hX, hY, hBB] at HRD
  rw [hX, hY, hBB] at HBw
  (try rw [hv2])
  (try rw [hT])
  (try rw [hQ])
  (try rw [hX])
  (try rw [hY])
  (try rw [hBB])
  have hXY : X ≠ Y := by omega
  have hYX : Y ≠ X := by omega
  have hTX : T ≠ X := by omega
  have hTY : T ≠ Y := by omega
  have hQX : Q ≠ X := by omega
  have hQY : Q ≠ Y := by omega
  have HBw : Hid (w.heap.size ≤ B) := Lib.hid (by omega)
  clear hv2 hT hQ hX hY hBB hz2 hz1 hsz
  have N1 : Hid (∀ W m, Hid (RE B X Y T Q a l c z F ta tn tc xs r k x n s u w W) → Calls Tryz.prog 17 #[.pointer (some ⟨B, 0, none⟩), .int .i64 m] W fun e w' => ∃ v, e = .returned (.int .i64 v) ∧ Hid (RE B X Y T Q a l c z F ta tn tc xs r k x n s u w w')) :=
    Lib.hid (fun W m hW => (next_r B a l c z m W hW.out.ready).mono fun e w' ⟨v, he, hd, ho, hs⟩ => ⟨v, he, Lib.hid (hW.out.call ho hs)⟩)
  have PG : Hid (∀ w8 kk, Hid (RE B X Y T Q a l c z F ta tn tc xs r k x n s u w w8) → FourS B w8 kk → Calls Tryz.prog 18 #[.pointer (some ⟨B, 0, none⟩), .slice (some ⟨kk, 0, none⟩) 4 4] w8 fun e w' => ∃ v, e = .returned (.int .i64 v) ∧ Hid (RE B X Y T Q a l c z F ta tn tc xs r k x n s u w w')) :=
    Lib.hid (fun w8 kk hW hf => (hf.pick hW.out.ready).mono fun e w' ⟨v, he, ho, hs⟩ => ⟨v, he, Lib.hid (hW.out.call ho hs)⟩)
  have PH : Hid (∀ w8 kk, Hid (RE B X Y T Q a l c z F ta tn tc xs r k x n s u w w8) → ThreeS B w8 kk → Calls Tryz.prog 18 #[.pointer (some ⟨B, 0, none⟩), .slice (some ⟨kk, 0, none⟩) 3 3] w8 fun e w' => ∃ v, e = .returned (.int .i64 v) ∧ Hid (RE B X Y T Q a l c z F ta tn tc xs r k x n s u w w')) :=
    Lib.hid (fun w8 kk hW hf => (hf.pick hW.out.ready).mono fun e w' ⟨v, he, ho, hs⟩ => ⟨v, he, Lib.hid (hW.out.call ho hs)⟩)
  with_reducible refine (N1.out _ _ HRD).mono ?_
  rintro e w5 ⟨rr, rfl, HRD⟩
  obtain ⟨c0, c1, c2, d0, d1, d2, d3, d4, _⟩ := reS HRD.out
  have hBW := HRD.out.ready.here
  by_cases hr0 : rr = 0
  · subst hr0
    go_wp2_with fail
    go_region_held3 (fun W9 => W9.cell? ⟨T, 0, none⟩ = some (.int .i64 F) ∧ W9.cell? ⟨T, 1, none⟩ = some (.slice ta tn tc) ∧ W9.cell? ⟨T, 2, none⟩ = some (.int .i64 r) ∧ W9.cell? ⟨Q, 0, none⟩ = some (.int .i64 k) ∧ W9.cell? ⟨Q, 1, none⟩ = some (.int .i64 x) ∧ W9.cell? ⟨Q, 2, none⟩ = some (.int .i64 n) ∧ W9.cell? ⟨Q, 3, none⟩ = some (.int .i64 s) ∧ W9.cell? ⟨Q, 4, none⟩ = some (.int .i64 u) ∧ Hid (RE B X Y T Q a l c z F ta tn tc xs r k x n s u w W9))
      (first
        | (with_reducible exact reS (RE.putY (RE.putX HV.out _ _ _) _ _ _ _ _))
        | (with_reducible exact reS (RE.putX (RE.putY HV.out _ _ _ _ _) _ _ _))
        | (with_reducible exact reS (RE.putX HV.out _ _ _))
        | (with_reducible exact reS (RE.putY HV.out _ _ _ _ _))
        | (with_reducible exact reS HV.out)
        | (with_reducible exact reS (RE.drew HRD.out))
        | (with_reducible exact reS (RE.on (RE.drew HRD.out) (box_b _ _)))
        | (with_reducible exact reS (RE.drew (RE.on HRD.out (box_b _ _))))
        | (with_reducible exact reS (RE.on HRD.out (box_b _ _)))
        | fail)
      (first
        | (go_split_ands; go_at_call 18; ((with_reducible refine (PG.out _ _ (by with_reducible assumption) ?_).mono ?_)); (· (repeat (first | (with_reducible apply FourS.new; (· simp only [World.size_alloc, size_drewS]); (· ((try simp only [World.size_alloc, size_drewS]); omega))) | (with_reducible apply FourS.drew)))); rintro e w' ⟨vv, rfl, HV⟩; obtain ⟨⟨_, _, _, hrx⟩, ⟨_, _, _, _, _, hry⟩⟩ := And.intro HV.out.rx HV.out.ry; obtain ⟨x0, x1, x2⟩ := hrx.three0; obtain ⟨y0, y1, y2, y3, y4⟩ := hry.five9; have fx0 := hrx.free 0; have fx1 := hrx.free 1; have fx2 := hrx.free 2; have fy0 := hry.free 0; have fy1 := hry.free 1; have fy2 := hry.free 2; have fy3 := hry.free 3; have fy4 := hry.free 4; clear hrx hry)
        | fail)
    all_goals
      go_split_ands
      have HEND := Lib.hid (fun E hE => HV.out.fin (E := E) hE)
      go_wp2_with fail
      obtain ⟨hbx, hby, hi, hlo, hre, hfar⟩ := HEND.out _ (by first | exact Or.inl rfl | exact Or.inr rfl)
      obtain ⟨e0, e1, e2⟩ := hbx.three0
      obtain ⟨e3, e4, e5, e6, e7⟩ := hby.five9
      exact bodyPost_ret (v := .tuple #[.agg #[.int .i64 F, .slice ta tn tc, .int .i64 r], .agg #[.int .i64 k, .int .i64 x, .int .i64 n, .int .i64 s, .int .i64 u], .int .i64 (vv)]) (by simp [results, Tryz.results5, go_sem, e0, e1, e2, e3, e4, e5, e6, e7]) rfl ⟨F, ta, tn, tc, xs, r, k, x, n, s, u, _, rfl, hi, HTC.out.1, HTC.out.2, ⟨hlo.os, hlo.tape, hlo.output, hlo.size, fun i hi2 => hlo.block i hi2 (by have := HBw.out; omega)⟩⟩
  · have hrb : (rr == 0) = false := by simpa using hr0
    go_wp2_with fail
    go_region_held3 (fun W9 => W9.cell? ⟨T, 0, none⟩ = some (.int .i64 F) ∧ W9.cell? ⟨T, 1, none⟩ = some (.slice ta tn tc) ∧ W9.cell? ⟨T, 2, none⟩ = some (.int .i64 r) ∧ W9.cell? ⟨Q, 0, none⟩ = some (.int .i64 k) ∧ W9.cell? ⟨Q, 1, none⟩ = some (.int .i64 x) ∧ W9.cell? ⟨Q, 2, none⟩ = some (.int .i64 n) ∧ W9.cell? ⟨Q, 3, none⟩ = some (.int .i64 s) ∧ W9.cell? ⟨Q, 4, none⟩ = some (.int .i64 u) ∧ Hid (RE B X Y T Q a l c z F ta tn tc xs r k x n s u w W9))
      (first
        | (with_reducible exact reS (RE.putY (RE.putX HV.out _ _ _) _ _ _ _ _))
        | (with_reducible exact reS (RE.putX (RE.putY HV.out _ _ _ _ _) _ _ _))
        | (with_reducible exact reS (RE.putX HV.out _ _ _))
        | (with_reducible exact reS (RE.putY HV.out _ _ _ _ _))
        | (with_reducible exact reS HV.out)
        | (with_reducible exact reS HU.out)
        | (with_reducible exact reS (RE.drew HRD.out))
        | (with_reducible exact reS (RE.on (RE.drew HRD.out) (box_b _ _)))
        | (with_reducible exact reS (RE.drew (RE.on HRD.out (box_b _ _))))
        | (with_reducible exact reS (RE.on HRD.out (box_b _ _)))
        | fail)
      (first
        | (go_split_ands; go_at_call 18; ((with_reducible refine (PH.out _ _ (by with_reducible assumption) ?_).mono ?_)); (· (repeat (first | (with_reducible apply ThreeS.new; (· simp only [World.size_alloc, size_drewS]); (· ((try simp only [World.size_alloc, size_drewS]); omega))) | (with_reducible apply ThreeS.drew)))); rintro e w' ⟨vu, rfl, HU⟩)
        | (go_split_ands; go_at_call 17; ((with_reducible refine (N1.out _ _ (by with_reducible assumption)).mono ?_)); rintro e w' ⟨vv, rfl, HV⟩; obtain ⟨⟨_, _, _, hrx⟩, ⟨_, _, _, _, _, hry⟩⟩ := And.intro HV.out.rx HV.out.ry; obtain ⟨x0, x1, x2⟩ := hrx.three0; obtain ⟨y0, y1, y2, y3, y4⟩ := hry.five9; have fx0 := hrx.free 0; have fx1 := hrx.free 1; have fx2 := hrx.free 2; have fy0 := hry.free 0; have fy1 := hry.free 1; have fy2 := hry.free 2; have fy3 := hry.free 3; have fy4 := hry.free 4; clear hrx hry)
        | fail)
    all_goals
      go_split_ands
      have HEND := Lib.hid (fun E hE => HV.out.fin (E := E) hE)
      go_wp2_with fail
      obtain ⟨hbx, hby, hi, hlo, hre, hfar⟩ := HEND.out _ (by first | exact Or.inl rfl | exact Or.inr rfl)
      obtain ⟨e0, e1, e2⟩ := hbx.three0
      obtain ⟨e3, e4, e5, e6, e7⟩ := hby.five9
      exact bodyPost_ret (v := .tuple #[.agg #[.int .i64 F, .slice ta tn tc, .int .i64 r], .agg #[.int .i64 k, .int .i64 x, .int .i64 n, .int .i64 s, .int .i64 u], .int .i64 (IntKind.i64.wrap (1 + vv))]) (by simp [results, Tryz.results5, go_sem, e0, e1, e2, e3, e4, e5, e6, e7]) rfl ⟨F, ta, tn, tc, xs, r, k, x, n, s, u, _, rfl, hi, HTC.out.1, HTC.out.2, ⟨hlo.os, hlo.tape, hlo.output, hlo.size, fun i hi2 => hlo.block i hi2 (by have := HBw.out; omega)⟩⟩

end Go.Proofs.YtnclncglmnbelaaGreatDoor

/- ReadTable of the model: what the calls return. -/
namespace Go.Proofs.YtnclncglmnbelaaGreatDoor
open Go.ChangeShapes Go.WideShapes Go.ChangeAt Go.RowKit
set_option linter.unusedVariables false
set_option maxRecDepth 100000

/-- what ReadTable hands over: its first age, its lives -/
def trF (l : List UInt8) : Int := if rtO l = true then rnF l else 0

def trY (l : List UInt8) : List Int := if rtO l = true then rnL l else []

def TrPost (l : List UInt8) (w : World) (e : Ending) (w' : World) : Prop :=
  ∃ a n c, e = .returned (.tuple #[.agg #[.int .i64 (trF l), .slice a n c], .bool (rtO l)]) ∧ n ≤ c ∧ TbR w.heap.size w' a n (trY l) ∧ Below w.heap.size w w'

theorem TrPost.bad {l : List UInt8} {w w' : World} (h : rtO l = false) (hb : Below w.heap.size w w') : TrPost l w (.returned (.tuple #[.agg #[.int .i64 0, .slice none 0 0], .bool false])) w' :=
  ⟨none, 0, 0, by simp [trF, h], Nat.le_refl _, ⟨by simp [trY, h], by omega, .inl ⟨rfl, rfl⟩⟩, hb⟩

theorem TrPost.good {l : List UInt8} {w w' : World} {g off n c : Nat} {F : Int} {Y : List Int} (h : rtO l = true) (hF : rnF l = F) (hY : rnL l = Y) (hn : Y.length = n) (hnc : n ≤ c) (hm : n ≤ 4096) (hg : w.heap.size ≤ g) (hl : g < w'.heap.size) (hr : RowI w' g off Y) (hb : Below w.heap.size w w') :
    TrPost l w (.returned (.tuple #[.agg #[.int .i64 F, .slice (some ⟨g, off, none⟩) n c], .bool true])) w' :=
  ⟨some ⟨g, off, none⟩, n, c, by simp [trF, h, hF], hnc, ⟨by simp [trY, h, hY, hn], hm, .inr ⟨g, off, rfl, hg, hl, by simpa [trY, h, hY] using hr⟩⟩, hb⟩

theorem RowI.drop {w : World} {g off : Nat} {x : Int} {ys : List Int} (h : RowI w g off (x :: ys)) : RowI w g (off + 1) ys :=
  ⟨fun i hi => by have := h.cell (i + 1) (by simpa using hi); rw [show off + 1 + i = off + (i + 1) by omega, this, getD_cons_succ], fun i hi => by have := h.free (i + 1) (by simpa using hi); rw [show off + 1 + i = off + (i + 1) by omega]; exact this⟩

/-- a block of two cells that had just been laid when a call was made: not frozen behind it -/
theorem box2f {w w1 : World} {x y : Value} {T : TypeId} (hb : Below (w.alloc (.cells #[x, y] T)).heap.size (w.alloc (.cells #[x, y] T)) w1) (i : Nat) (hi : i < 2) : w1.frozen? ⟨w.heap.size, i, none⟩ = false := by
  refine (hb.frozen (p := ⟨w.heap.size, i, none⟩) (by simp)).trans ?_
  match i, hi with
  | 0, _ => go_simp
  | 1, _ => go_simp

theorem keepf {w1 w2 : World} {p : Addr} (hb : Below w1.heap.size w1 w2) (hl : p.block < w1.heap.size) (h : w1.frozen? p = false) : w2.frozen? p = false := (hb.frozen hl).trans h

/-- the result's two cells are written -/
theorem TrPost.put {l : List UInt8} {w w' : World} {X : Nat} {e : Ending} {u v : Value} (h : TrPost l w e w') (hX : w.heap.size = X) (hne : ∀ F a n c o, e = .returned (.tuple #[.agg #[F, .slice a n c], o]) → ∀ x, a = some x → x.block ≠ X) :
    TrPost l w e ((w'.setCell ⟨X, 0, none⟩ u).setCell ⟨X, 1, none⟩ v) := by
  subst hX
  obtain ⟨a, n, c, rfl, hnc, ⟨h1, h2, h3⟩, hb⟩ := h
  have hn := hne _ _ _ _ _ rfl
  refine ⟨a, n, c, rfl, hnc, ⟨h1, h2, ?_⟩, (hb.setCell (p := ⟨w.heap.size, 0, none⟩) (Nat.le_refl _) _).setCell (p := ⟨w.heap.size, 1, none⟩) (Nat.le_refl _) _⟩
  rcases h3 with h3 | ⟨g, off, rfl, hg, hl, hr⟩
  · exact .inl h3
  · exact .inr ⟨g, off, rfl, hg, by simpa [World.setCell] using hl, hr.only (((Only.refl w.heap.size w').setCell (p := ⟨w.heap.size, 0, none⟩) rfl _).setCell (p := ⟨w.heap.size, 1, none⟩) rfl _) (hn _ rfl)⟩

end Go.Proofs.YtnclncglmnbelaaGreatDoor

/- ReadTable of the program: what the calls return. -/
namespace Go.Proofs.YtnclncglmnbelaaGreatDoor
open Go.ChangeShapes Go.WideShapes Go.ChangeAt Go.RowKit
set_option linter.unusedVariables false
set_option maxRecDepth 100000

theorem make_wide (l : Nat) (hl : l ≤ 1100000) (w : World) :
    (Instr.makeSlice 24 (.int .i64 (l : Int)) (.int .i64 (l : Int))).run Tryz.prog w = .ok (.slice (some ⟨w.heap.size, 0, none⟩) l l) (w.alloc (.cells ((List.replicate l (0 : Int)).map (Value.int .i64)).toArray 2)) := by
  obtain ⟨i0, hi, hz0, hz1, hz2⟩ := info_parts info64
  have h := run_make (P := Tryz.prog) w 24 2 i0 (.int .i64 0) Tryz.underlying24 hi hz0 .i64 .i64 l l (by omega) (Int.le_refl _) (by rw [hz2]; omega) (by omega)
  rw [h, ← made_zero]
  simp [hz1, Value.cells]

theorem Blk.row {w : World} {g : Nat} {xs : List Int} (h : Blk w g xs) : RowI w g 0 xs := ⟨fun i hi => by rw [Nat.zero_add]; exact h.cell i hi, fun i _ => h.free _⟩

theorem vals_len (L : List (List UInt8)) : (vals L).length = L.length := by simp [vals]

theorem vals_get (L : List (List UInt8)) (k : Nat) (h : k < L.length) (v : Int) (hv : pv (L.getD k []) = some v) : (vals L).getD k 0 = v := by
  simp [List.getD, h] at hv
  simp [vals, List.getD, h, hv]

theorem allP_t {L : List (List UInt8)} (h : ∀ j, j < L.length → (pv (L.getD j [])).isSome = true) : allP L = true := by
  unfold allP
  rw [List.all_eq_true]
  intro x hx
  obtain ⟨i, hi, rfl⟩ := List.getElem_of_mem hx
  have := h i hi
  simpa [List.getD, hi] using this

theorem allP_f {L : List (List UInt8)} {k : Nat} (hk : k < L.length) (h : pv (L.getD k []) = none) : allP L = false := by
  unfold allP
  rw [Bool.eq_false_iff]
  intro hh
  rw [List.all_eq_true] at hh
  have := hh (L.getD k []) (by simp [List.getD, hk])
  rw [h] at this; cases this

def RnPost (l : List UInt8) (w : World) (e : Ending) (w' : World) : Prop :=
  ((rnO l = true ∧ ∃ g off n c, e = .returned (.tuple #[.int .i64 (rnF l), .slice (some ⟨g, off, none⟩) n c, .bool true]) ∧ n ≤ c ∧ n ≤ 1100000 ∧ (rnL l).length = n ∧ w.heap.size ≤ g ∧ g < w'.heap.size ∧ RowI w' g off (rnL l)) ∨
    (rnO l = false ∧ e = .returned (.tuple #[.int .i64 0, .slice none 0 0, .bool false]))) ∧ Below w.heap.size w w'

/-- what a reading of a life table asks of the world -/
structure AskT (w : World) : Prop where
  tab : Tab w
  ask : AskE w

theorem AskT.step {w w' : World} (h : AskT w) (hb : Below w.heap.size w w') : AskT w' := ⟨h.tab.stepB h.tab.lt hb, h.ask.step hb⟩

end Go.Proofs.YtnclncglmnbelaaGreatDoor
