/- Merged: Fpt. -/
import Derived.Test.YtnclncglmnbelaaGreatDoorFx15
import Derived.Test.YtnclncglmnbelaaGreatDoorFx21
import Derived.Test.YtnclncglmnbelaaGreatDoorFx22
import Derived.Test.YtnclncglmnbelaaGreatDoorFx31

/- The law on texts of policies: a sum for a premium is not charged more, and a policy is found from its text. (Written by wip/gen/fpt.py.) -/
namespace Go.Proofs.YtnclncglmnbelaaGreatDoor
open Go.ChangeShapes Go.WideShapes Go.ChangeAt Go.RowKit
set_option linter.unusedVariables false
set_option maxRecDepth 100000

theorem grS_spec (F : Int → Int) (q : Int) (N : Nat) : 0 ≤ grS F q N ∧ grS F q N ≤ N ∧ (grS F q N ≠ 0 → F (grS F q N) ≤ q) ∧ ∀ t : Int, grS F q N < t → t ≤ N → q < F t := by
  induction N with
  | zero => exact ⟨by unfold grS; omega, by unfold grS; omega, fun h => absurd (by unfold grS; rfl) h, fun t h1 h2 => by unfold grS at h1; omega⟩
  | succ N ih =>
    obtain ⟨h1, h2, h3, h4⟩ := ih
    unfold grS
    by_cases h : F ((N : Int) + 1) ≤ q
    · rw [if_pos h]
      exact ⟨by omega, by omega, fun _ => h, fun t h5 h6 => by omega⟩
    · rw [if_neg h]
      refine ⟨h1, by omega, h3, fun t h5 h6 => ?_⟩
      by_cases ht : t = (N : Int) + 1
      · subst ht; omega
      · exact h4 t h5 (by omega)

/-- what the law asks of a sum for a premium -/
theorem sf_facts {r f : Int} {xs : List Int} {k x n s u q : Int} (h : sfE r f xs k x n s u q = 0) :
    ∃ g : Int, sfV r f xs k x n s u q = g ∧ 1 ≤ g ∧ g ≤ 100000000 ∧ offV r f xs k x n g u ≤ q ∧ poE r f xs k x n g u = 0 ∧ (g ≠ 100000000 → q < offV r f xs k x n (g + 1) u ∧ poE r f xs k x n (g + 1) u = 0) := by
  have hp : poB r f xs k x n s u = true := by
    by_cases hp : poB r f xs k x n s u = true
    · exact hp
    · unfold sfE at h; rw [if_neg hp] at h; omega
  have hg : sfN r f xs k x n u q ≠ 0 := by
    intro hg
    unfold sfE at h
    rw [if_pos hp] at h
    split at h <;> simp at h
  obtain ⟨h1, h2, h3, h4⟩ := grS_spec (fun t => offN (netN r f xs k x n t) u) q 100000000
  have e : grS (fun t => offN (netN r f xs k x n t) u) q 100000000 = sfN r f xs k x n u q := rfl
  rw [e] at h1 h2 h3 h4
  have hv : ∀ t : Int, 1 ≤ t → t ≤ 100000000 → offV r f xs k x n t u = offN (netN r f xs k x n t) u ∧ poE r f xs k x n t u = 0 := fun t t0 t1 => by
    have := poB_sum hp t0 t1
    exact ⟨by unfold offV; rw [if_pos this], poE_yes this⟩
  have h3' := h3 hg
  have h4' := h4 (sfN r f xs k x n u q + 1)
  obtain ⟨g, hgg⟩ : ∃ g, sfN r f xs k x n u q = g := ⟨_, rfl⟩
  rw [hgg] at h1 h2 h3' h4' hg
  refine ⟨g, by unfold sfV; rw [if_pos h, hgg], by omega, by omega, ?_, (hv g (by omega) (by omega)).2, fun hne => ?_⟩
  · rw [(hv g (by omega) (by omega)).1]; exact h3'
  · have := hv (g + 1) (by omega) (by omega)
    rw [this.1]
    exact ⟨h4' (by omega) (by omega), this.2⟩

/-- a policy is found from its text -/
theorem rp_pt (k x n s u : Int) : rpM (ptT k x n s u) = ptB k x n s u ∧ (ptB k x n s u = true → rpA (ptT k x n s u) = #[.int .i64 k, .int .i64 x, .int .i64 n, .int .i64 s, .int .i64 u]) := by
  cases h : ptB k x n s u with
  | false =>
    rw [ptT_no h]
    refine ⟨?_, fun h2 => by cases h2⟩
    unfold rpM
    have e : spC [] = [[]] := by simp [spC]
    rw [e]
    simp
  | true =>
    have hm := ptB_mon h
    have e : spC (ptT k x n s u) = [k, x, n, s, u].map Lib.itoa := by
      unfold ptT
      rw [if_pos h, sp_jc]
    have hw : w5 (ptT k x n s u) = [k, x, n, s, u] := by
      unfold w5
      rw [e, List.map_map]
      have : ∀ v ∈ [k, x, n, s, u], (sgV ∘ Lib.itoa) v = v := fun v hv => (sg_itoaC v (hm v hv).1 (hm v hv).2).2
      rw [List.map_congr_left this, List.map_id']
    have hr : rpM (ptT k x n s u) = true := by
      unfold rpM
      rw [hw, e]
      rw [Bool.and_eq_true, Bool.and_eq_true]
      refine ⟨?_, by simp, h⟩
      rw [List.all_eq_true]
      intro y hy
      rw [List.mem_map] at hy
      obtain ⟨v, hv, rfl⟩ := hy
      exact (sg_itoaC v (hm v hv).1 (hm v hv).2).1
    exact ⟨hr, fun _ => by rw [rpA_t hr, hw]; rfl⟩

/-- .. and a text that is one is the text of what is read -/
theorem rp_back {l : List UInt8} (h : rpM l = true) : ∃ c0 c1 c2 c3 c4 : Int, rpA l = #[.int .i64 c0, .int .i64 c1, .int .i64 c2, .int .i64 c3, .int .i64 c4] ∧ ptT c0 c1 c2 c3 c4 = l := by
  refine ⟨_, _, _, _, _, rpA_t h, ?_⟩
  have hi := mp_ip h
  have hw := (ip_mp hi).2
  unfold rpI at hi
  rw [Bool.and_eq_true, Bool.and_eq_true] at hi
  rw [hw]
  exact beq_iff_eq.1 hi.2.2

/-- what the law keeps: a basis and a policy, and other boxes -/
structure PN (w : World) (X Y : Nat) (F : Int) (ta : Option Addr) (tn tc : Nat) (xs : List Int) (r k x n s u : Int) (vb : List (Nat × List Value)) (W : World) : Prop where
  b : Bx W X [.int .i64 F, .slice ta tn tc, .int .i64 r]
  p : Bx W Y [.int .i64 k, .int .i64 x, .int .i64 n, .int .i64 s, .int .i64 u]
  ints : Ints W ta tn xs
  low : Below w.heap.size w W
  le : tn ≤ tc
  all : ∀ p ∈ vb, Bx W p.1 p.2
  oX : w.heap.size ≤ X
  oY : Y = X + 1
  far : 0 < tn → ∀ y, ta = some y → y.block ≠ Y
  oV : ∀ p ∈ vb, p.1 ≠ Y

theorem PN.on {w : World} {X Y : Nat} {F : Int} {ta : Option Addr} {tn tc : Nat} {xs : List Int} {r k x n s u : Int} {vb : List (Nat × List Value)} {W W' : World} (h : PN w X Y F ta tn tc xs r k x n s u vb W) (hb : Below W.heap.size W W') : PN w X Y F ta tn tc xs r k x n s u vb W' := ⟨h.b.on hb, h.p.on hb, h.ints.on hb, h.low.trans (hb.mono h.low.size), h.le, fun p hp => (h.all p hp).on hb, h.oX, h.oY, h.far, h.oV⟩

theorem PN.box {w : World} {X Y : Nat} {F : Int} {ta : Option Addr} {tn tc : Nat} {xs : List Int} {r k x n s u : Int} {vb : List (Nat × List Value)} {W : World} (h : PN w X Y F ta tn tc xs r k x n s u vb W) (vs : List Value) (T : TypeId) : PN w X Y F ta tn tc xs r k x n s u ((W.heap.size, vs) :: vb) (W.alloc (.cells vs.toArray T)) := by
  have g := h.on (box_b W (.cells vs.toArray T))
  have hy := h.p.lt
  refine ⟨g.b, g.p, g.ints, g.low, g.le, fun p hp => ?_, g.oX, g.oY, g.far, fun p hp => ?_⟩
  · rcases List.mem_cons.1 hp with rfl | hp
    · exact Bx.new W vs T
    · exact g.all p hp
  · rcases List.mem_cons.1 hp with rfl | hp
    · show W.heap.size ≠ Y; omega
    · exact g.oV p hp

theorem PN.set3 {w : World} {X Y : Nat} {F : Int} {ta : Option Addr} {tn tc : Nat} {xs : List Int} {r k x n s u : Int} {vb : List (Nat × List Value)} {W : World} (h : PN w X Y F ta tn tc xs r k x n s u vb W) (g : Int) : PN w X Y F ta tn tc xs r k x n g u vb (W.setCell ⟨Y, 3, none⟩ (.int .i64 g)) := by
  have far : ∀ j, j ≠ Y → (W.setCell ⟨Y, 3, none⟩ (.int .i64 g)).heap[j]? = W.heap[j]? := fun j hj => Below.heap_setCell _ _ _ _ hj
  have hx := h.oX
  have hy := h.oY
  refine ⟨h.b.same (far X (by omega)), h.p.set3 _, ?_, h.low.setCell (p := ⟨Y, 3, none⟩) (by show w.heap.size ≤ Y; omega) _, h.le, fun p hp => (h.all p hp).same (far _ (h.oV p hp)), hx, hy, h.far, h.oV⟩
  exact h.ints.farT far h.far

theorem PN.nil {w : World} {X Y : Nat} {F : Int} {ta : Option Addr} {tn tc : Nat} {xs : List Int} {r k x n s u : Int} {vb : List (Nat × List Value)} {W : World} (h : PN w X Y F ta tn tc xs r k x n s u vb W) : PN w X Y F ta tn tc xs r k x n s u [] W := ⟨h.b, h.p, h.ints, h.low, h.le, (fun p hp => by cases hp), h.oX, h.oY, h.far, (fun p hp => by cases hp)⟩

theorem pnC {w : World} {X Y : Nat} {F : Int} {ta : Option Addr} {tn tc : Nat} {xs : List Int} {r k x n s u : Int} {vb : List (Nat × List Value)} {W : World} (h : PN w X Y F ta tn tc xs r k x n s u vb W) :
    W.cell? ⟨X, 0, none⟩ = some (.int .i64 F) ∧ W.cell? ⟨X, 1, none⟩ = some (.slice ta tn tc) ∧ W.cell? ⟨X, 2, none⟩ = some (.int .i64 r) ∧ W.cell? ⟨Y, 0, none⟩ = some (.int .i64 k) ∧ W.cell? ⟨Y, 1, none⟩ = some (.int .i64 x) ∧ W.cell? ⟨Y, 2, none⟩ = some (.int .i64 n) ∧ W.cell? ⟨Y, 3, none⟩ = some (.int .i64 s) ∧ W.cell? ⟨Y, 4, none⟩ = some (.int .i64 u) ∧ W.frozen? ⟨Y, 3, none⟩ = false := by
  obtain ⟨c0, c1, c2⟩ := h.b.three0
  obtain ⟨d0, d1, d2, d3, d4⟩ := h.p.five9
  exact ⟨c0, c1, c2, d0, d1, d2, d3, d4, h.p.free 3⟩

theorem PN.five {w : World} {X Y : Nat} {F : Int} {ta : Option Addr} {tn tc : Nat} {xs : List Int} {r k x n s u : Int} {vb : List (Nat × List Value)} {W : World} {Z : Nat} {a b c d e : Value} (h : PN w X Y F ta tn tc xs r k x n s u vb W) (hm : (Z, [a, b, c, d, e]) ∈ vb) : W.cell? ⟨Z, 0, none⟩ = some a ∧ W.cell? ⟨Z, 1, none⟩ = some b ∧ W.cell? ⟨Z, 2, none⟩ = some c ∧ W.cell? ⟨Z, 3, none⟩ = some d ∧ W.cell? ⟨Z, 4, none⟩ = some e := (h.all _ hm).five9

set_option maxRecDepth 2000000 in
set_option maxHeartbeats 16000000 in
theorem fnPolicyTexts_walk (a0 : Option Addr) (len0 cap0 : Nat) (z0 : List Int) (w : World) (w0 : IsRow .u8 w a0 len0 cap0 z0) (ht : Tab w) (hsh : w.ShapedOpen Tryz.prog) (h1 : ErrIs w "strconv.ErrSyntax") (h2 : ErrIs w "strconv.ErrRange") :
    Calls Tryz.prog 3 #[.slice a0 len0 cap0] w fun e w' => e = .returned (.bool true) ∧ Below w.heap.size w w' := by
  have HA := Lib.hid (AskT.mk ht ⟨h1, h2, hsh⟩)
  clear ht hsh h1 h2
  by_cases hbig : 4096 < (len0 : Int)
  · go_enter Tryz.func3, Tryz.ntmps3
    go_wp2_with (go_at_call 4; refine (big2_any _ _ _ _).mono ?_; rintro e w' ⟨rfl, rfl⟩)
    go_ret
    exact ⟨rfl, Below.refl _ _⟩
  · have HW0 := Lib.hid w0
    clear w0
    go_enter Tryz.func3, Tryz.ntmps3
    go_wp2_with (go_at_call 4; refine (big2_any _ _ _ _).mono ?_; rintro e w' ⟨rfl, rfl⟩)
    refine (drawSF a0 len0 cap0 z0 _ HW0.out).mono ?_
    rintro e w1 ⟨F, ta, tn, tc, xs, r, k, x, n, s, u, q, rfl, hI, htc, -, hb⟩
    have HN : Hid (PN w w1.heap.size (w1.heap.size + 1) F ta tn tc xs r k x n s u [] ((w1.alloc (.cells #[.int .i64 F, .slice ta tn tc, .int .i64 r] 28)).alloc (.cells #[.int .i64 k, .int .i64 x, .int .i64 n, .int .i64 s, .int .i64 u] 30))) := Lib.hid (by
      have q1 := box_b w1 (.cells #[.int .i64 F, .slice ta tn tc, .int .i64 r] 28)
      have q2 := box_b (w1.alloc (.cells #[.int .i64 F, .slice ta tn tc, .int .i64 r] 28)) (.cells #[.int .i64 k, .int .i64 x, .int .i64 n, .int .i64 s, .int .i64 u] 30)
      have z := Bx.new w1 [.int .i64 F, .slice ta tn tc, .int .i64 r] 28
      have y := Bx.new (w1.alloc (.cells #[.int .i64 F, .slice ta tn tc, .int .i64 r] 28)) [.int .i64 k, .int .i64 x, .int .i64 n, .int .i64 s, .int .i64 u] 30
      rw [World.size_alloc] at y
      have hs := hb.size
      have i1 := hI.on q1
      have hlo := hI.lo
      exact ⟨z.on q2, y, i1.on q2, (hb.trans (q1.mono hb.size)).trans (q2.mono (by rw [World.size_alloc]; omega)), htc, (fun p hp => by cases hp), hs, rfl, (fun h0 y hy => by have := hlo h0 y hy; omega), (fun p hp => by cases hp)⟩)
    clear hb hI htc
    go_wp2_with fail
    obtain ⟨V1, hV⟩ : ∃ y_, (w1.alloc (.cells #[.int .i64 F, .slice ta tn tc, .int .i64 r] 28)).alloc (.cells #[.int .i64 k, .int .i64 x, .int .i64 n, .int .i64 s, .int .i64 u] 30) = y_ := ⟨_, rfl⟩
    obtain ⟨X, hX⟩ : ∃ y_, w1.heap.size = y_ := ⟨_, rfl⟩
    obtain ⟨Y, hY⟩ : ∃ y_, X + 1 = y_ := ⟨_, rfl⟩
    rw [hV, hX, hY] at HN
    (try rw [hV])
    (try rw [hX])
    (try rw [hY])
    clear hV hX hY
    have IS : Hid (∀ W, PN w X Y F ta tn tc xs r k x n s u [] W → Calls Tryz.prog 6 #[.agg #[.int .i64 F, .slice ta tn tc, .int .i64 r], .agg #[.int .i64 k, .int .i64 x, .int .i64 n, .int .i64 s, .int .i64 u], .int .i64 q] W (IIPost (sfV r F xs k x n s u q) (sfE r F xs k x n s u q) W)) := Lib.hid (fun W hW => isf_any r F xs ta tn tc k x n s u q W hW.ints hW.le)
    have SS : Hid (∀ W, PN w X Y F ta tn tc xs r k x n s u [] W → Calls Tryz.prog 7 #[.agg #[.int .i64 F, .slice ta tn tc, .int .i64 r], .agg #[.int .i64 k, .int .i64 x, .int .i64 n, .int .i64 s, .int .i64 u], .int .i64 q] W (IIPost (sfV r F xs k x n s u q) (sfE r F xs k x n s u q) W)) := Lib.hid (fun W hW => ssf_any r F xs ta tn tc k x n s u q W hW.ints)
    unfold IIPost at IS SS
    have HSF := Lib.hid (fun h : sfE r F xs k x n s u q = 0 => sf_facts h)
    obtain ⟨SV, hSV⟩ : ∃ y_, sfV r F xs k x n s u q = y_ := ⟨_, rfl⟩
    obtain ⟨E, hE⟩ : ∃ y_, sfE r F xs k x n s u q = y_ := ⟨_, rfl⟩
    rw [hSV, hE] at IS SS HSF
    clear hSV hE
    obtain ⟨ca, cb, cc, da, db, dc, dd, de, df⟩ := pnC HN.out
    go_wp2_with fail
    with_reducible refine (IS.out _ HN.out).mono ?_
    rintro e w2 ⟨rfl, hb⟩
    have HN := Lib.hid (HN.out.on hb)
    clear ca cb cc da db dc dd de df hb
    obtain ⟨ca, cb, cc, da, db, dc, dd, de, df⟩ := pnC HN.out
    go_wp2_with fail
    with_reducible refine (SS.out _ HN.out).mono ?_
    rintro e w3 ⟨rfl, hb⟩
    have HN := Lib.hid (HN.out.on hb)
    clear ca cb cc da db dc dd de df hb
    go_wp2_with fail
    refine (drawPT a0 len0 cap0 z0 _ (HW0.out.below HN.out.low HW0.out.apart)).mono ?_
    rintro e w4 ⟨m0, m1, m2, m3, m4, rfl, hb⟩
    have HN := Lib.hid (HN.out.on hb)
    clear hb
    have HN := Lib.hid (HN.out.box [.int .i64 m0, .int .i64 m1, .int .i64 m2, .int .i64 m3, .int .i64 m4] 30)
    go_wp2_with fail
    obtain ⟨Z1, hZ⟩ : ∃ y_, w4.heap.size = y_ := ⟨_, rfl⟩
    obtain ⟨V4, hV⟩ : ∃ y_, w4.alloc (.cells #[.int .i64 m0, .int .i64 m1, .int .i64 m2, .int .i64 m3, .int .i64 m4] 30) = y_ := ⟨_, rfl⟩
    rw [hZ, show w4.alloc (.cells ([.int .i64 m0, .int .i64 m1, .int .i64 m2, .int .i64 m3, .int .i64 m4] : List Value).toArray 30) = V4 from hV] at HN
    (try rw [hV])
    (try rw [hZ])
    clear hV hZ
    have QT : Hid (∀ W, Below w.heap.size w W → Calls Tryz.prog 9 #[.agg #[.int .i64 m0, .int .i64 m1, .int .i64 m2, .int .i64 m3, .int .i64 m4]] W fun e w' => e = .returned (.string ⟨(ptT m0 m1 m2 m3 m4).toArray⟩) ∧ Below W.heap.size W w') := Lib.hid (fun W hW => pt_impl m0 m1 m2 m3 m4 W (HA.out.step hW).tab)
    have QS : Hid (∀ W : World, Calls Tryz.prog 13 #[.agg #[.int .i64 m0, .int .i64 m1, .int .i64 m2, .int .i64 m3, .int .i64 m4]] W fun e w' => e = .returned (.string ⟨(ptT m0 m1 m2 m3 m4).toArray⟩) ∧ Below W.heap.size W w') := Lib.hid (fun W => pt_spec m0 m1 m2 m3 m4 W)
    have htl := ptT_len m0 m1 m2 m3 m4
    obtain ⟨t1, ht1⟩ : ∃ t : ByteArray, (⟨(ptT m0 m1 m2 m3 m4).toArray⟩ : ByteArray) = t := ⟨_, rfl⟩
    have hts : t1.size ≤ 110 := by rw [← ht1]; show (ptT m0 m1 m2 m3 m4).toArray.size ≤ 110; simpa using htl
    have HTD : Hid (t1.data.toList = ptT m0 m1 m2 m3 m4) := Lib.hid (by rw [← ht1])
    rw [ht1] at QT QS
    clear ht1 htl
    with_reducible refine (QT.out _ HN.out.low).mono ?_
    rintro e w5 ⟨rfl, hb⟩
    have HN := Lib.hid (HN.out.on hb)
    clear hb QT
    cases hO1 : ptB m0 m1 m2 m3 m4
    · have RI1 : Hid (∀ W, Below w.heap.size w W → Calls Tryz.prog 10 #[.string t1] W fun e w' => e = .returned (.tuple #[.agg #[.int .i64 0, .int .i64 0, .int .i64 0, .int .i64 0, .int .i64 0], .bool false]) ∧ Below W.heap.size W w') := Lib.hid (fun W hW => by
        have := rp_impl t1 W (by omega) (HA.out.step hW)
        unfold RpPost at this
        have hf : rpM (ptT m0 m1 m2 m3 m4) = false := by rw [(rp_pt m0 m1 m2 m3 m4).1, hO1]
        rw [HTD.out, rpA_f hf, hf] at this
        exact this)
      have hte : t1.toList = [] := by rw [toList_eq, HTD.out, ptT_no hO1]
      have hte2 : t1.toList.isEmpty = true := by rw [hte]; rfl
      clear hO1 HTD
      go_wp2_with fail
      with_reducible refine (RI1.out _ HN.out.low).mono ?_
      rintro e w6 ⟨rfl, hb⟩
      have HN := Lib.hid (HN.out.on hb)
      clear hb
      have HN := Lib.hid (HN.out.box [.int .i64 0, .int .i64 0, .int .i64 0, .int .i64 0, .int .i64 0] 30)
      go_wp2_with fail
      obtain ⟨Z2, hZ⟩ : ∃ y_, w6.heap.size = y_ := ⟨_, rfl⟩
      obtain ⟨V6, hV⟩ : ∃ y_, w6.alloc (.cells #[.int .i64 0, .int .i64 0, .int .i64 0, .int .i64 0, .int .i64 0] 30) = y_ := ⟨_, rfl⟩
      rw [hZ, show w6.alloc (.cells ([.int .i64 0, .int .i64 0, .int .i64 0, .int .i64 0, .int .i64 0] : List Value).toArray 30) = V6 from hV] at HN
      (try rw [hV])
      (try rw [hZ])
      clear hV hZ
      refine (drawRP a0 len0 cap0 z0 _ (HW0.out.below HN.out.low HW0.out.apart)).mono ?_
      rintro e w7 ⟨t3, rfl, ht3, hb⟩
      have HN := Lib.hid (HN.out.on hb)
      have RI3 : Hid (∀ W, Below w.heap.size w W → Calls Tryz.prog 10 #[.string t3] W (RpPost t3.data.toList W)) := Lib.hid (fun W hW => rp_impl t3 W (by omega) (HA.out.step hW))
      have RS3 : Hid (∀ W : World, Calls Tryz.prog 12 #[.string t3] W (RpPost t3.data.toList W)) := Lib.hid (fun W => rp_spec t3 W (by omega))
      unfold RpPost at RI3 RS3
      obtain ⟨O3, hO3⟩ : ∃ y_, rpM t3.data.toList = y_ := ⟨_, rfl⟩
      cases O3
      · rw [rpA_f hO3, hO3] at RI3 RS3
        clear hO3
        clear hb ht3
        go_wp2_with fail
        with_reducible refine (RI3.out _ HN.out.low).mono ?_
        rintro e w8 ⟨rfl, hb⟩
        have HN := Lib.hid (HN.out.on hb)
        clear hb
        have HN := Lib.hid (HN.out.box [.int .i64 0, .int .i64 0, .int .i64 0, .int .i64 0, .int .i64 0] 30)
        go_wp2_with fail
        obtain ⟨Z3, hZ⟩ : ∃ y_, w8.heap.size = y_ := ⟨_, rfl⟩
        obtain ⟨V8, hV⟩ : ∃ y_, w8.alloc (.cells #[.int .i64 0, .int .i64 0, .int .i64 0, .int .i64 0, .int .i64 0] 30) = y_ := ⟨_, rfl⟩
        rw [hZ, show w8.alloc (.cells ([.int .i64 0, .int .i64 0, .int .i64 0, .int .i64 0, .int .i64 0] : List Value).toArray 30) = V8 from hV] at HN
        (try rw [hV])
        (try rw [hZ])
        clear hV hZ
        with_reducible refine (RS3.out _).mono ?_
        rintro e w9 ⟨rfl, hb⟩
        have HN := Lib.hid (HN.out.on hb)
        clear hb
        have HN := Lib.hid (HN.out.box [.int .i64 0, .int .i64 0, .int .i64 0, .int .i64 0, .int .i64 0] 30)
        obtain ⟨ga, gb, gc, gd, ge⟩ := HN.out.five (Z := w9.heap.size) (List.Mem.head _)
        obtain ⟨ha, hb, hc, hd, he⟩ := HN.out.five (Z := Z3) (List.Mem.tail _ (List.Mem.head _))
        obtain ⟨qa, qb, qc, qd, qe⟩ := HN.out.five (Z := Z2) (List.Mem.tail _ (List.Mem.tail _ (List.Mem.head _)))
        obtain ⟨pa, pb, pc, pd, pe⟩ := HN.out.five (Z := Z1) (List.Mem.tail _ (List.Mem.tail _ (List.Mem.tail _ (List.Mem.head _))))
        by_cases hE : E = 0
        · subst hE
          obtain ⟨g, hg, g0, g1, o1, p1, hmore⟩ := HSF.out rfl
          subst hg
          have HO1 : Hid (∀ W, PN w X Y F ta tn tc xs r k x n SV u [] W → Calls Tryz.prog 14 #[.agg #[.int .i64 F, .slice ta tn tc, .int .i64 r], .agg #[.int .i64 k, .int .i64 x, .int .i64 n, .int .i64 SV, .int .i64 u]] W fun e w' => e = .returned (.tuple #[.int .i64 (offV r F xs k x n SV u), .int .i64 0]) ∧ Below W.heap.size W w') := Lib.hid (fun W hW => by
            have := iop_any r F xs ta tn tc k x n SV u W hW.ints hW.le
            rw [p1] at this
            exact this)
          have HO2 : Hid (SV ≠ 100000000 → (∀ W, PN w X Y F ta tn tc xs r k x n (SV + 1) u [] W → Calls Tryz.prog 14 #[.agg #[.int .i64 F, .slice ta tn tc, .int .i64 r], .agg #[.int .i64 k, .int .i64 x, .int .i64 n, .int .i64 (SV + 1), .int .i64 u]] W fun e w' => e = .returned (.tuple #[.int .i64 (offV r F xs k x n (SV + 1) u), .int .i64 0]) ∧ Below W.heap.size W w') ∧ q < offV r F xs k x n (SV + 1) u) := Lib.hid (fun hne => ⟨fun W hW => by
            have := iop_any r F xs ta tn tc k x n (SV + 1) u W hW.ints hW.le
            rw [(hmore hne).2] at this
            exact this, (hmore hne).1⟩)
          obtain ⟨O1, hO1⟩ : ∃ y_, offV r F xs k x n SV u = y_ := ⟨_, rfl⟩
          obtain ⟨O2, hO2⟩ : ∃ y_, offV r F xs k x n (SV + 1) u = y_ := ⟨_, rfl⟩
          rw [hO1] at HO1 o1
          rw [hO2] at HO2
          have hno : ¬ q < O1 := by omega
          clear hO1 hO2 p1 hmore HSF
          go_wp2_with (first | (go_at_call 13; with_reducible refine (QS.out _).mono ?_; rintro e wa ⟨rfl, hb⟩; have HN := Lib.hid (HN.out.on hb); clear hb; obtain ⟨ga, gb, gc, gd, ge⟩ := HN.out.five (Z := w9.heap.size) (List.Mem.head _); obtain ⟨ha, hb, hc, hd, he⟩ := HN.out.five (Z := Z3) (List.Mem.tail _ (List.Mem.head _)); obtain ⟨qa, qb, qc, qd, qe⟩ := HN.out.five (Z := Z2) (List.Mem.tail _ (List.Mem.tail _ (List.Mem.head _))); obtain ⟨pa, pb, pc, pd, pe⟩ := HN.out.five (Z := Z1) (List.Mem.tail _ (List.Mem.tail _ (List.Mem.tail _ (List.Mem.head _)))); obtain ⟨ca, cb, cc, da, db, dc, dd, de, df⟩ := pnC HN.out; have HN2 := Lib.hid (HN.out.nil.set3 SV); obtain ⟨ea, eb, ec, ed, ee, ef, eg, eh, ei⟩ := pnC HN2.out))
          with_reducible refine (HO1.out _ HN2.out).mono ?_
          rintro e u2 ⟨rfl, hb⟩
          have HN := Lib.hid (HN2.out.on hb)
          clear hb
          obtain ⟨ca, cb, cc, da, db, dc, dd, de, df⟩ := pnC HN.out
          by_cases hgm : SV = 100000000
          · subst hgm
            go_wp2_with fail
            go_ret
            exact ⟨rfl, HN.out.low⟩
          · obtain ⟨CO2, hq2⟩ := HO2.out hgm
            have HC2 := Lib.hid CO2
            have r1 : IntKind.i64.wrap (SV + 1) = SV + 1 := IntWalk.i64_in _ (by omega)
            have HN2 := Lib.hid (HN.out.set3 (SV + 1))
            obtain ⟨ea, eb, ec, ed, ee, ef, eg, eh, ei⟩ := pnC HN2.out
            clear CO2
            go_wp2_with fail
            with_reducible refine (HC2.out _ HN2.out).mono ?_
            rintro e u4 ⟨rfl, hb⟩
            have HN := Lib.hid (HN2.out.on hb)
            clear hb
            go_wp2_with fail
            go_ret
            exact ⟨ret_bool (by simp), HN.out.low⟩
        · go_wp2_with (first | (go_at_call 13; with_reducible refine (QS.out _).mono ?_; rintro e wa ⟨rfl, hb⟩; have HN := Lib.hid (HN.out.on hb); clear hb; obtain ⟨ga, gb, gc, gd, ge⟩ := HN.out.five (Z := w9.heap.size) (List.Mem.head _); obtain ⟨ha, hb, hc, hd, he⟩ := HN.out.five (Z := Z3) (List.Mem.tail _ (List.Mem.head _)); obtain ⟨qa, qb, qc, qd, qe⟩ := HN.out.five (Z := Z2) (List.Mem.tail _ (List.Mem.tail _ (List.Mem.head _))); obtain ⟨pa, pb, pc, pd, pe⟩ := HN.out.five (Z := Z1) (List.Mem.tail _ (List.Mem.tail _ (List.Mem.tail _ (List.Mem.head _))))))
          go_ret
          exact ⟨rfl, HN.out.low⟩
        
      · obtain ⟨b0, b1, b2, b3, b4, hA3, hT3⟩ := rp_back hO3
        rw [hA3, hO3] at RI3 RS3
        have QI : Hid (∀ W, Below w.heap.size w W → Calls Tryz.prog 9 #[.agg #[.int .i64 b0, .int .i64 b1, .int .i64 b2, .int .i64 b3, .int .i64 b4]] W fun e w' => e = .returned (.string t3) ∧ Below W.heap.size W w') := Lib.hid (fun W hW => by
          have := pt_impl b0 b1 b2 b3 b4 W (HA.out.step hW).tab
          rw [hT3] at this
          exact this)
        clear hA3 hT3 hO3
        clear hb ht3
        go_wp2_with fail
        with_reducible refine (RI3.out _ HN.out.low).mono ?_
        rintro e w8 ⟨rfl, hb⟩
        have HN := Lib.hid (HN.out.on hb)
        clear hb
        have HN := Lib.hid (HN.out.box [.int .i64 b0, .int .i64 b1, .int .i64 b2, .int .i64 b3, .int .i64 b4] 30)
        go_wp2_with fail
        obtain ⟨Z3, hZ⟩ : ∃ y_, w8.heap.size = y_ := ⟨_, rfl⟩
        obtain ⟨V8, hV⟩ : ∃ y_, w8.alloc (.cells #[.int .i64 b0, .int .i64 b1, .int .i64 b2, .int .i64 b3, .int .i64 b4] 30) = y_ := ⟨_, rfl⟩
        rw [hZ, show w8.alloc (.cells ([.int .i64 b0, .int .i64 b1, .int .i64 b2, .int .i64 b3, .int .i64 b4] : List Value).toArray 30) = V8 from hV] at HN
        (try rw [hV])
        (try rw [hZ])
        clear hV hZ
        with_reducible refine (RS3.out _).mono ?_
        rintro e w9 ⟨rfl, hb⟩
        have HN := Lib.hid (HN.out.on hb)
        clear hb
        have HN := Lib.hid (HN.out.box [.int .i64 b0, .int .i64 b1, .int .i64 b2, .int .i64 b3, .int .i64 b4] 30)
        obtain ⟨ga, gb, gc, gd, ge⟩ := HN.out.five (Z := w9.heap.size) (List.Mem.head _)
        obtain ⟨ha, hb, hc, hd, he⟩ := HN.out.five (Z := Z3) (List.Mem.tail _ (List.Mem.head _))
        obtain ⟨qa, qb, qc, qd, qe⟩ := HN.out.five (Z := Z2) (List.Mem.tail _ (List.Mem.tail _ (List.Mem.head _)))
        obtain ⟨pa, pb, pc, pd, pe⟩ := HN.out.five (Z := Z1) (List.Mem.tail _ (List.Mem.tail _ (List.Mem.tail _ (List.Mem.head _))))
        by_cases hE : E = 0
        · subst hE
          obtain ⟨g, hg, g0, g1, o1, p1, hmore⟩ := HSF.out rfl
          subst hg
          have HO1 : Hid (∀ W, PN w X Y F ta tn tc xs r k x n SV u [] W → Calls Tryz.prog 14 #[.agg #[.int .i64 F, .slice ta tn tc, .int .i64 r], .agg #[.int .i64 k, .int .i64 x, .int .i64 n, .int .i64 SV, .int .i64 u]] W fun e w' => e = .returned (.tuple #[.int .i64 (offV r F xs k x n SV u), .int .i64 0]) ∧ Below W.heap.size W w') := Lib.hid (fun W hW => by
            have := iop_any r F xs ta tn tc k x n SV u W hW.ints hW.le
            rw [p1] at this
            exact this)
          have HO2 : Hid (SV ≠ 100000000 → (∀ W, PN w X Y F ta tn tc xs r k x n (SV + 1) u [] W → Calls Tryz.prog 14 #[.agg #[.int .i64 F, .slice ta tn tc, .int .i64 r], .agg #[.int .i64 k, .int .i64 x, .int .i64 n, .int .i64 (SV + 1), .int .i64 u]] W fun e w' => e = .returned (.tuple #[.int .i64 (offV r F xs k x n (SV + 1) u), .int .i64 0]) ∧ Below W.heap.size W w') ∧ q < offV r F xs k x n (SV + 1) u) := Lib.hid (fun hne => ⟨fun W hW => by
            have := iop_any r F xs ta tn tc k x n (SV + 1) u W hW.ints hW.le
            rw [(hmore hne).2] at this
            exact this, (hmore hne).1⟩)
          obtain ⟨O1, hO1⟩ : ∃ y_, offV r F xs k x n SV u = y_ := ⟨_, rfl⟩
          obtain ⟨O2, hO2⟩ : ∃ y_, offV r F xs k x n (SV + 1) u = y_ := ⟨_, rfl⟩
          rw [hO1] at HO1 o1
          rw [hO2] at HO2
          have hno : ¬ q < O1 := by omega
          clear hO1 hO2 p1 hmore HSF
          go_wp2_with (first | (go_at_call 13; with_reducible refine (QS.out _).mono ?_; rintro e wa ⟨rfl, hb⟩; have HN := Lib.hid (HN.out.on hb); clear hb; obtain ⟨ga, gb, gc, gd, ge⟩ := HN.out.five (Z := w9.heap.size) (List.Mem.head _); obtain ⟨ha, hb, hc, hd, he⟩ := HN.out.five (Z := Z3) (List.Mem.tail _ (List.Mem.head _)); obtain ⟨qa, qb, qc, qd, qe⟩ := HN.out.five (Z := Z2) (List.Mem.tail _ (List.Mem.tail _ (List.Mem.head _))); obtain ⟨pa, pb, pc, pd, pe⟩ := HN.out.five (Z := Z1) (List.Mem.tail _ (List.Mem.tail _ (List.Mem.tail _ (List.Mem.head _)))); obtain ⟨ca, cb, cc, da, db, dc, dd, de, df⟩ := pnC HN.out; have HN2 := Lib.hid (HN.out.nil.set3 SV); obtain ⟨ea, eb, ec, ed, ee, ef, eg, eh, ei⟩ := pnC HN2.out) | (go_at_call 9; with_reducible refine (QI.out _ HN.out.low).mono ?_; rintro e wb ⟨rfl, hb⟩; have HN := Lib.hid (HN.out.on hb); clear hb; obtain ⟨ga, gb, gc, gd, ge⟩ := HN.out.five (Z := w9.heap.size) (List.Mem.head _); obtain ⟨ha, hb, hc, hd, he⟩ := HN.out.five (Z := Z3) (List.Mem.tail _ (List.Mem.head _)); obtain ⟨qa, qb, qc, qd, qe⟩ := HN.out.five (Z := Z2) (List.Mem.tail _ (List.Mem.tail _ (List.Mem.head _))); obtain ⟨pa, pb, pc, pd, pe⟩ := HN.out.five (Z := Z1) (List.Mem.tail _ (List.Mem.tail _ (List.Mem.tail _ (List.Mem.head _)))); obtain ⟨ca, cb, cc, da, db, dc, dd, de, df⟩ := pnC HN.out; have HN2 := Lib.hid (HN.out.nil.set3 SV); obtain ⟨ea, eb, ec, ed, ee, ef, eg, eh, ei⟩ := pnC HN2.out))
          with_reducible refine (HO1.out _ HN2.out).mono ?_
          rintro e u2 ⟨rfl, hb⟩
          have HN := Lib.hid (HN2.out.on hb)
          clear hb
          obtain ⟨ca, cb, cc, da, db, dc, dd, de, df⟩ := pnC HN.out
          by_cases hgm : SV = 100000000
          · subst hgm
            go_wp2_with fail
            go_ret
            exact ⟨rfl, HN.out.low⟩
          · obtain ⟨CO2, hq2⟩ := HO2.out hgm
            have HC2 := Lib.hid CO2
            have r1 : IntKind.i64.wrap (SV + 1) = SV + 1 := IntWalk.i64_in _ (by omega)
            have HN2 := Lib.hid (HN.out.set3 (SV + 1))
            obtain ⟨ea, eb, ec, ed, ee, ef, eg, eh, ei⟩ := pnC HN2.out
            clear CO2
            go_wp2_with fail
            with_reducible refine (HC2.out _ HN2.out).mono ?_
            rintro e u4 ⟨rfl, hb⟩
            have HN := Lib.hid (HN2.out.on hb)
            clear hb
            go_wp2_with fail
            go_ret
            exact ⟨ret_bool (by simp), HN.out.low⟩
        · go_wp2_with (first | (go_at_call 13; with_reducible refine (QS.out _).mono ?_; rintro e wa ⟨rfl, hb⟩; have HN := Lib.hid (HN.out.on hb); clear hb; obtain ⟨ga, gb, gc, gd, ge⟩ := HN.out.five (Z := w9.heap.size) (List.Mem.head _); obtain ⟨ha, hb, hc, hd, he⟩ := HN.out.five (Z := Z3) (List.Mem.tail _ (List.Mem.head _)); obtain ⟨qa, qb, qc, qd, qe⟩ := HN.out.five (Z := Z2) (List.Mem.tail _ (List.Mem.tail _ (List.Mem.head _))); obtain ⟨pa, pb, pc, pd, pe⟩ := HN.out.five (Z := Z1) (List.Mem.tail _ (List.Mem.tail _ (List.Mem.tail _ (List.Mem.head _))))) | (go_at_call 9; with_reducible refine (QI.out _ HN.out.low).mono ?_; rintro e wb ⟨rfl, hb⟩; have HN := Lib.hid (HN.out.on hb); clear hb; obtain ⟨ga, gb, gc, gd, ge⟩ := HN.out.five (Z := w9.heap.size) (List.Mem.head _); obtain ⟨ha, hb, hc, hd, he⟩ := HN.out.five (Z := Z3) (List.Mem.tail _ (List.Mem.head _)); obtain ⟨qa, qb, qc, qd, qe⟩ := HN.out.five (Z := Z2) (List.Mem.tail _ (List.Mem.tail _ (List.Mem.head _))); obtain ⟨pa, pb, pc, pd, pe⟩ := HN.out.five (Z := Z1) (List.Mem.tail _ (List.Mem.tail _ (List.Mem.tail _ (List.Mem.head _))))))
          go_ret
          exact ⟨rfl, HN.out.low⟩
        
    · have RI1 : Hid (∀ W, Below w.heap.size w W → Calls Tryz.prog 10 #[.string t1] W fun e w' => e = .returned (.tuple #[.agg #[.int .i64 m0, .int .i64 m1, .int .i64 m2, .int .i64 m3, .int .i64 m4], .bool true]) ∧ Below W.heap.size W w') := Lib.hid (fun W hW => by
        have := rp_impl t1 W (by omega) (HA.out.step hW)
        unfold RpPost at this
        rw [HTD.out, (rp_pt m0 m1 m2 m3 m4).1, hO1, (rp_pt m0 m1 m2 m3 m4).2 hO1] at this
        exact this)
      have hte : ¬ t1.toList = [] := by
        obtain ⟨c_, t_, hc_⟩ := ptT_ne hO1
        rw [toList_eq, HTD.out, hc_]
        exact fun h => by cases h
      have hte2 : t1.toList.isEmpty = false := by cases h : t1.toList with | nil => exact absurd h hte | cons => rfl
      clear hO1 HTD
      go_wp2_with fail
      with_reducible refine (RI1.out _ HN.out.low).mono ?_
      rintro e w6 ⟨rfl, hb⟩
      have HN := Lib.hid (HN.out.on hb)
      clear hb
      have HN := Lib.hid (HN.out.box [.int .i64 m0, .int .i64 m1, .int .i64 m2, .int .i64 m3, .int .i64 m4] 30)
      go_wp2_with fail
      obtain ⟨Z2, hZ⟩ : ∃ y_, w6.heap.size = y_ := ⟨_, rfl⟩
      obtain ⟨V6, hV⟩ : ∃ y_, w6.alloc (.cells #[.int .i64 m0, .int .i64 m1, .int .i64 m2, .int .i64 m3, .int .i64 m4] 30) = y_ := ⟨_, rfl⟩
      rw [hZ, show w6.alloc (.cells ([.int .i64 m0, .int .i64 m1, .int .i64 m2, .int .i64 m3, .int .i64 m4] : List Value).toArray 30) = V6 from hV] at HN
      (try rw [hV])
      (try rw [hZ])
      clear hV hZ
      refine (drawRP a0 len0 cap0 z0 _ (HW0.out.below HN.out.low HW0.out.apart)).mono ?_
      rintro e w7 ⟨t3, rfl, ht3, hb⟩
      have HN := Lib.hid (HN.out.on hb)
      have RI3 : Hid (∀ W, Below w.heap.size w W → Calls Tryz.prog 10 #[.string t3] W (RpPost t3.data.toList W)) := Lib.hid (fun W hW => rp_impl t3 W (by omega) (HA.out.step hW))
      have RS3 : Hid (∀ W : World, Calls Tryz.prog 12 #[.string t3] W (RpPost t3.data.toList W)) := Lib.hid (fun W => rp_spec t3 W (by omega))
      unfold RpPost at RI3 RS3
      obtain ⟨O3, hO3⟩ : ∃ y_, rpM t3.data.toList = y_ := ⟨_, rfl⟩
      cases O3
      · rw [rpA_f hO3, hO3] at RI3 RS3
        clear hO3
        clear hb ht3
        go_wp2_with fail
        with_reducible refine (RI3.out _ HN.out.low).mono ?_
        rintro e w8 ⟨rfl, hb⟩
        have HN := Lib.hid (HN.out.on hb)
        clear hb
        have HN := Lib.hid (HN.out.box [.int .i64 0, .int .i64 0, .int .i64 0, .int .i64 0, .int .i64 0] 30)
        go_wp2_with fail
        obtain ⟨Z3, hZ⟩ : ∃ y_, w8.heap.size = y_ := ⟨_, rfl⟩
        obtain ⟨V8, hV⟩ : ∃ y_, w8.alloc (.cells #[.int .i64 0, .int .i64 0, .int .i64 0, .int .i64 0, .int .i64 0] 30) = y_ := ⟨_, rfl⟩
        rw [hZ, show w8.alloc (.cells ([.int .i64 0, .int .i64 0, .int .i64 0, .int .i64 0, .int .i64 0] : List Value).toArray 30) = V8 from hV] at HN
        (try rw [hV])
        (try rw [hZ])
        clear hV hZ
        with_reducible refine (RS3.out _).mono ?_
        rintro e w9 ⟨rfl, hb⟩
        have HN := Lib.hid (HN.out.on hb)
        clear hb
        have HN := Lib.hid (HN.out.box [.int .i64 0, .int .i64 0, .int .i64 0, .int .i64 0, .int .i64 0] 30)
        obtain ⟨ga, gb, gc, gd, ge⟩ := HN.out.five (Z := w9.heap.size) (List.Mem.head _)
        obtain ⟨ha, hb, hc, hd, he⟩ := HN.out.five (Z := Z3) (List.Mem.tail _ (List.Mem.head _))
        obtain ⟨qa, qb, qc, qd, qe⟩ := HN.out.five (Z := Z2) (List.Mem.tail _ (List.Mem.tail _ (List.Mem.head _)))
        obtain ⟨pa, pb, pc, pd, pe⟩ := HN.out.five (Z := Z1) (List.Mem.tail _ (List.Mem.tail _ (List.Mem.tail _ (List.Mem.head _))))
        by_cases hE : E = 0
        · subst hE
          obtain ⟨g, hg, g0, g1, o1, p1, hmore⟩ := HSF.out rfl
          subst hg
          have HO1 : Hid (∀ W, PN w X Y F ta tn tc xs r k x n SV u [] W → Calls Tryz.prog 14 #[.agg #[.int .i64 F, .slice ta tn tc, .int .i64 r], .agg #[.int .i64 k, .int .i64 x, .int .i64 n, .int .i64 SV, .int .i64 u]] W fun e w' => e = .returned (.tuple #[.int .i64 (offV r F xs k x n SV u), .int .i64 0]) ∧ Below W.heap.size W w') := Lib.hid (fun W hW => by
            have := iop_any r F xs ta tn tc k x n SV u W hW.ints hW.le
            rw [p1] at this
            exact this)
          have HO2 : Hid (SV ≠ 100000000 → (∀ W, PN w X Y F ta tn tc xs r k x n (SV + 1) u [] W → Calls Tryz.prog 14 #[.agg #[.int .i64 F, .slice ta tn tc, .int .i64 r], .agg #[.int .i64 k, .int .i64 x, .int .i64 n, .int .i64 (SV + 1), .int .i64 u]] W fun e w' => e = .returned (.tuple #[.int .i64 (offV r F xs k x n (SV + 1) u), .int .i64 0]) ∧ Below W.heap.size W w') ∧ q < offV r F xs k x n (SV + 1) u) := Lib.hid (fun hne => ⟨fun W hW => by
            have := iop_any r F xs ta tn tc k x n (SV + 1) u W hW.ints hW.le
            rw [(hmore hne).2] at this
            exact this, (hmore hne).1⟩)
          obtain ⟨O1, hO1⟩ : ∃ y_, offV r F xs k x n SV u = y_ := ⟨_, rfl⟩
          obtain ⟨O2, hO2⟩ : ∃ y_, offV r F xs k x n (SV + 1) u = y_ := ⟨_, rfl⟩
          rw [hO1] at HO1 o1
          rw [hO2] at HO2
          have hno : ¬ q < O1 := by omega
          clear hO1 hO2 p1 hmore HSF
          go_wp2_with (first | (go_at_call 13; with_reducible refine (QS.out _).mono ?_; rintro e wa ⟨rfl, hb⟩; have HN := Lib.hid (HN.out.on hb); clear hb; obtain ⟨ga, gb, gc, gd, ge⟩ := HN.out.five (Z := w9.heap.size) (List.Mem.head _); obtain ⟨ha, hb, hc, hd, he⟩ := HN.out.five (Z := Z3) (List.Mem.tail _ (List.Mem.head _)); obtain ⟨qa, qb, qc, qd, qe⟩ := HN.out.five (Z := Z2) (List.Mem.tail _ (List.Mem.tail _ (List.Mem.head _))); obtain ⟨pa, pb, pc, pd, pe⟩ := HN.out.five (Z := Z1) (List.Mem.tail _ (List.Mem.tail _ (List.Mem.tail _ (List.Mem.head _)))); obtain ⟨ca, cb, cc, da, db, dc, dd, de, df⟩ := pnC HN.out; have HN2 := Lib.hid (HN.out.nil.set3 SV); obtain ⟨ea, eb, ec, ed, ee, ef, eg, eh, ei⟩ := pnC HN2.out))
          with_reducible refine (HO1.out _ HN2.out).mono ?_
          rintro e u2 ⟨rfl, hb⟩
          have HN := Lib.hid (HN2.out.on hb)
          clear hb
          obtain ⟨ca, cb, cc, da, db, dc, dd, de, df⟩ := pnC HN.out
          by_cases hgm : SV = 100000000
          · subst hgm
            go_wp2_with fail
            go_ret
            exact ⟨rfl, HN.out.low⟩
          · obtain ⟨CO2, hq2⟩ := HO2.out hgm
            have HC2 := Lib.hid CO2
            have r1 : IntKind.i64.wrap (SV + 1) = SV + 1 := IntWalk.i64_in _ (by omega)
            have HN2 := Lib.hid (HN.out.set3 (SV + 1))
            obtain ⟨ea, eb, ec, ed, ee, ef, eg, eh, ei⟩ := pnC HN2.out
            clear CO2
            go_wp2_with fail
            with_reducible refine (HC2.out _ HN2.out).mono ?_
            rintro e u4 ⟨rfl, hb⟩
            have HN := Lib.hid (HN2.out.on hb)
            clear hb
            go_wp2_with fail
            go_ret
            exact ⟨ret_bool (by simp), HN.out.low⟩
        · go_wp2_with (first | (go_at_call 13; with_reducible refine (QS.out _).mono ?_; rintro e wa ⟨rfl, hb⟩; have HN := Lib.hid (HN.out.on hb); clear hb; obtain ⟨ga, gb, gc, gd, ge⟩ := HN.out.five (Z := w9.heap.size) (List.Mem.head _); obtain ⟨ha, hb, hc, hd, he⟩ := HN.out.five (Z := Z3) (List.Mem.tail _ (List.Mem.head _)); obtain ⟨qa, qb, qc, qd, qe⟩ := HN.out.five (Z := Z2) (List.Mem.tail _ (List.Mem.tail _ (List.Mem.head _))); obtain ⟨pa, pb, pc, pd, pe⟩ := HN.out.five (Z := Z1) (List.Mem.tail _ (List.Mem.tail _ (List.Mem.tail _ (List.Mem.head _))))))
          go_ret
          exact ⟨rfl, HN.out.low⟩
        
      · obtain ⟨b0, b1, b2, b3, b4, hA3, hT3⟩ := rp_back hO3
        rw [hA3, hO3] at RI3 RS3
        have QI : Hid (∀ W, Below w.heap.size w W → Calls Tryz.prog 9 #[.agg #[.int .i64 b0, .int .i64 b1, .int .i64 b2, .int .i64 b3, .int .i64 b4]] W fun e w' => e = .returned (.string t3) ∧ Below W.heap.size W w') := Lib.hid (fun W hW => by
          have := pt_impl b0 b1 b2 b3 b4 W (HA.out.step hW).tab
          rw [hT3] at this
          exact this)
        clear hA3 hT3 hO3
        clear hb ht3
        go_wp2_with fail
        with_reducible refine (RI3.out _ HN.out.low).mono ?_
        rintro e w8 ⟨rfl, hb⟩
        have HN := Lib.hid (HN.out.on hb)
        clear hb
        have HN := Lib.hid (HN.out.box [.int .i64 b0, .int .i64 b1, .int .i64 b2, .int .i64 b3, .int .i64 b4] 30)
        go_wp2_with fail
        obtain ⟨Z3, hZ⟩ : ∃ y_, w8.heap.size = y_ := ⟨_, rfl⟩
        obtain ⟨V8, hV⟩ : ∃ y_, w8.alloc (.cells #[.int .i64 b0, .int .i64 b1, .int .i64 b2, .int .i64 b3, .int .i64 b4] 30) = y_ := ⟨_, rfl⟩
        rw [hZ, show w8.alloc (.cells ([.int .i64 b0, .int .i64 b1, .int .i64 b2, .int .i64 b3, .int .i64 b4] : List Value).toArray 30) = V8 from hV] at HN
        (try rw [hV])
        (try rw [hZ])
        clear hV hZ
        with_reducible refine (RS3.out _).mono ?_
        rintro e w9 ⟨rfl, hb⟩
        have HN := Lib.hid (HN.out.on hb)
        clear hb
        have HN := Lib.hid (HN.out.box [.int .i64 b0, .int .i64 b1, .int .i64 b2, .int .i64 b3, .int .i64 b4] 30)
        obtain ⟨ga, gb, gc, gd, ge⟩ := HN.out.five (Z := w9.heap.size) (List.Mem.head _)
        obtain ⟨ha, hb, hc, hd, he⟩ := HN.out.five (Z := Z3) (List.Mem.tail _ (List.Mem.head _))
        obtain ⟨qa, qb, qc, qd, qe⟩ := HN.out.five (Z := Z2) (List.Mem.tail _ (List.Mem.tail _ (List.Mem.head _)))
        obtain ⟨pa, pb, pc, pd, pe⟩ := HN.out.five (Z := Z1) (List.Mem.tail _ (List.Mem.tail _ (List.Mem.tail _ (List.Mem.head _))))
        by_cases hE : E = 0
        · subst hE
          obtain ⟨g, hg, g0, g1, o1, p1, hmore⟩ := HSF.out rfl
          subst hg
          have HO1 : Hid (∀ W, PN w X Y F ta tn tc xs r k x n SV u [] W → Calls Tryz.prog 14 #[.agg #[.int .i64 F, .slice ta tn tc, .int .i64 r], .agg #[.int .i64 k, .int .i64 x, .int .i64 n, .int .i64 SV, .int .i64 u]] W fun e w' => e = .returned (.tuple #[.int .i64 (offV r F xs k x n SV u), .int .i64 0]) ∧ Below W.heap.size W w') := Lib.hid (fun W hW => by
            have := iop_any r F xs ta tn tc k x n SV u W hW.ints hW.le
            rw [p1] at this
            exact this)
          have HO2 : Hid (SV ≠ 100000000 → (∀ W, PN w X Y F ta tn tc xs r k x n (SV + 1) u [] W → Calls Tryz.prog 14 #[.agg #[.int .i64 F, .slice ta tn tc, .int .i64 r], .agg #[.int .i64 k, .int .i64 x, .int .i64 n, .int .i64 (SV + 1), .int .i64 u]] W fun e w' => e = .returned (.tuple #[.int .i64 (offV r F xs k x n (SV + 1) u), .int .i64 0]) ∧ Below W.heap.size W w') ∧ q < offV r F xs k x n (SV + 1) u) := Lib.hid (fun hne => ⟨fun W hW => by
            have := iop_any r F xs ta tn tc k x n (SV + 1) u W hW.ints hW.le
            rw [(hmore hne).2] at this
            exact this, (hmore hne).1⟩)
          obtain ⟨O1, hO1⟩ : ∃ y_, offV r F xs k x n SV u = y_ := ⟨_, rfl⟩
          obtain ⟨O2, hO2⟩ : ∃ y_, offV r F xs k x n (SV + 1) u = y_ := ⟨_, rfl⟩
          rw [hO1] at HO1 o1
          rw [hO2] at HO2
          have hno : ¬ q < O1 := by omega
          clear hO1 hO2 p1 hmore HSF
          go_wp2_with (first | (go_at_call 13; with_reducible refine (QS.out _).mono ?_; rintro e wa ⟨rfl, hb⟩; have HN := Lib.hid (HN.out.on hb); clear hb; obtain ⟨ga, gb, gc, gd, ge⟩ := HN.out.five (Z := w9.heap.size) (List.Mem.head _); obtain ⟨ha, hb, hc, hd, he⟩ := HN.out.five (Z := Z3) (List.Mem.tail _ (List.Mem.head _)); obtain ⟨qa, qb, qc, qd, qe⟩ := HN.out.five (Z := Z2) (List.Mem.tail _ (List.Mem.tail _ (List.Mem.head _))); obtain ⟨pa, pb, pc, pd, pe⟩ := HN.out.five (Z := Z1) (List.Mem.tail _ (List.Mem.tail _ (List.Mem.tail _ (List.Mem.head _)))); obtain ⟨ca, cb, cc, da, db, dc, dd, de, df⟩ := pnC HN.out; have HN2 := Lib.hid (HN.out.nil.set3 SV); obtain ⟨ea, eb, ec, ed, ee, ef, eg, eh, ei⟩ := pnC HN2.out) | (go_at_call 9; with_reducible refine (QI.out _ HN.out.low).mono ?_; rintro e wb ⟨rfl, hb⟩; have HN := Lib.hid (HN.out.on hb); clear hb; obtain ⟨ga, gb, gc, gd, ge⟩ := HN.out.five (Z := w9.heap.size) (List.Mem.head _); obtain ⟨ha, hb, hc, hd, he⟩ := HN.out.five (Z := Z3) (List.Mem.tail _ (List.Mem.head _)); obtain ⟨qa, qb, qc, qd, qe⟩ := HN.out.five (Z := Z2) (List.Mem.tail _ (List.Mem.tail _ (List.Mem.head _))); obtain ⟨pa, pb, pc, pd, pe⟩ := HN.out.five (Z := Z1) (List.Mem.tail _ (List.Mem.tail _ (List.Mem.tail _ (List.Mem.head _)))); obtain ⟨ca, cb, cc, da, db, dc, dd, de, df⟩ := pnC HN.out; have HN2 := Lib.hid (HN.out.nil.set3 SV); obtain ⟨ea, eb, ec, ed, ee, ef, eg, eh, ei⟩ := pnC HN2.out))
          with_reducible refine (HO1.out _ HN2.out).mono ?_
          rintro e u2 ⟨rfl, hb⟩
          have HN := Lib.hid (HN2.out.on hb)
          clear hb
          obtain ⟨ca, cb, cc, da, db, dc, dd, de, df⟩ := pnC HN.out
          by_cases hgm : SV = 100000000
          · subst hgm
            go_wp2_with fail
            go_ret
            exact ⟨rfl, HN.out.low⟩
          · obtain ⟨CO2, hq2⟩ := HO2.out hgm
            have HC2 := Lib.hid CO2
            have r1 : IntKind.i64.wrap (SV + 1) = SV + 1 := IntWalk.i64_in _ (by omega)
            have HN2 := Lib.hid (HN.out.set3 (SV + 1))
            obtain ⟨ea, eb, ec, ed, ee, ef, eg, eh, ei⟩ := pnC HN2.out
            clear CO2
            go_wp2_with fail
            with_reducible refine (HC2.out _ HN2.out).mono ?_
            rintro e u4 ⟨rfl, hb⟩
            have HN := Lib.hid (HN2.out.on hb)
            clear hb
            go_wp2_with fail
            go_ret
            exact ⟨ret_bool (by simp), HN.out.low⟩
        · go_wp2_with (first | (go_at_call 13; with_reducible refine (QS.out _).mono ?_; rintro e wa ⟨rfl, hb⟩; have HN := Lib.hid (HN.out.on hb); clear hb; obtain ⟨ga, gb, gc, gd, ge⟩ := HN.out.five (Z := w9.heap.size) (List.Mem.head _); obtain ⟨ha, hb, hc, hd, he⟩ := HN.out.five (Z := Z3) (List.Mem.tail _ (List.Mem.head _)); obtain ⟨qa, qb, qc, qd, qe⟩ := HN.out.five (Z := Z2) (List.Mem.tail _ (List.Mem.tail _ (List.Mem.head _))); obtain ⟨pa, pb, pc, pd, pe⟩ := HN.out.five (Z := Z1) (List.Mem.tail _ (List.Mem.tail _ (List.Mem.tail _ (List.Mem.head _))))) | (go_at_call 9; with_reducible refine (QI.out _ HN.out.low).mono ?_; rintro e wb ⟨rfl, hb⟩; have HN := Lib.hid (HN.out.on hb); clear hb; obtain ⟨ga, gb, gc, gd, ge⟩ := HN.out.five (Z := w9.heap.size) (List.Mem.head _); obtain ⟨ha, hb, hc, hd, he⟩ := HN.out.five (Z := Z3) (List.Mem.tail _ (List.Mem.head _)); obtain ⟨qa, qb, qc, qd, qe⟩ := HN.out.five (Z := Z2) (List.Mem.tail _ (List.Mem.tail _ (List.Mem.head _))); obtain ⟨pa, pb, pc, pd, pe⟩ := HN.out.five (Z := Z1) (List.Mem.tail _ (List.Mem.tail _ (List.Mem.tail _ (List.Mem.head _))))))
          go_ret
          exact ⟨rfl, HN.out.low⟩
        

end Go.Proofs.YtnclncglmnbelaaGreatDoor
