/- Families: the model's draws. (Written by wip/gen/fmd.py.) -/
import Derived.Test.YtmnddplkmljeaaaFme
import Derived.Test.YtmnddplkmljeaaaDrS
import Derived.Deep.CutRange
namespace Go.Proofs.Ytmnddplkmljeaaa
open Go.ChangeShapes Go.WideShapes Go.ChangeAt Go.RowKit
set_option linter.unusedVariables false
set_option linter.unusedSimpArgs false
set_option maxRecDepth 100000

theorem OwnI.tagF {base : Nat} {w : World} {v : Value} {es : List Int} (h : OwnI base w v es) : ∀ k, v.ownBlock = some k → ∃ cur, w.heap[k]? = some (.cells cur 2 (0, 0)) := by
  intro k hk
  rcases h.2 with ⟨rfl, _⟩ | ⟨g, cap, cur, rfl, _, hg, _⟩
  · simp [Value.ownBlock] at hk
  · simp only [Value.ownBlock, Option.some.injEq] at hk
    subst hk
    exact ⟨cur, hg⟩

/-- a block of another type is not the list's own -/
theorem Bt.nown {base B : Nat} {w : World} {v : Value} {xs : List Int} {vs : List Value} {T : TypeId} (h : Bt w B vs T) (ho : OwnI base w v xs) (hT : T ≠ 2) : v.ownBlock ≠ some B := fun e => by
  obtain ⟨cur, hc⟩ := ho.tagF B e
  unfold Bt at h
  rw [h] at hc
  simp only [Option.some.injEq, Obj.cells.injEq] at hc
  exact hT hc.2.1

theorem Bt.grownI {base B : Nat} {wr w1 : World} {v : Value} {xs : List Int} {o : Obj} {vs : List Value} {T : TypeId} (h : Bt wr B vs T) (ho : OwnI base wr v xs) (hg : (wr.alloc o).grownBy w1 v.ownBlock) (hT : T ≠ 2) : Bt w1 B vs T := by
  have hl := h.lt
  have h1 : Bt (wr.alloc o) B vs T := h.on (box_b _ _)
  unfold Bt
  rw [hg.block B (by simp; omega) (fun e => h.nown ho hT e.symm)]
  exact h1

theorem Bt.setT {w : World} {B : Nat} {vs : List Value} {T : TypeId} (h : Bt w B vs T) (i : Nat) (v : Value) : Bt (w.setCell ⟨B, i, none⟩ v) B (vs.set i v) T := by
  have hl := h.lt
  unfold Bt at h ⊢
  rw [Array.getElem?_eq_getElem hl] at h
  have h' : w.heap[B] = .cells vs.toArray T (0, 0) := by simpa using h
  show (w.heap.modify B _)[B]? = _
  rw [Array.getElem?_modify, if_pos rfl, Array.getElem?_eq_getElem hl, h']
  simp

theorem Bt.farT {w : World} {B : Nat} {vs : List Value} {T : TypeId} (h : Bt w B vs T) (p : Addr) (v : Value) (hne : B ≠ p.block) : Bt (w.setCell p v) B vs T := by
  unfold Bt at h ⊢
  rw [far_setCell _ _ _ _ hne]; exact h

theorem Bt.butT {w w' : World} {B C : Nat} {vs : List Value} {T : TypeId} (h : Bt w B vs T) (ho : But C w w') (hne : B ≠ C) : Bt w' B vs T := by
  have hl := h.lt
  unfold Bt at h ⊢
  rw [ho.block _ hl hne]; exact h

/-- a family in the midst of its draw: the result's box X, its own box T, its births -/
structure DF (B X T : Nat) (a : Option Addr) (l c : Nat) (z : List Int) (d m v f : Int) (S : Value) (xs : List Int) (w w' : World) : Prop where
  ready : Ready B a l c z w'
  but : But B w w'
  x : Bt w' X [.int .i64 0, .int .i64 0, .int .i64 0, .int .i64 0, .slice none 0 0] 26
  t : Bt w' T [.int .i64 d, .int .i64 m, .int .i64 v, .int .i64 f, S] 26
  own : OwnI (X + 1) w' S xs
  eX : w.heap.size = X
  oB : B < X
  oT : X < T
  len : xs.length ≤ 64

section
variable {B X T : Nat} {a : Option Addr} {l c : Nat} {z : List Int} {d m v f : Int} {S : Value} {xs : List Int} {w w1 w2 : World}

theorem DF.call (h : DF B X T a l c z d m v f S xs w w1) (ho : But B w1 w2) (hs : Ready B a l c z w2) : DF B X T a l c z d m v f S xs w w2 := by
  have oB := h.oB
  have oT := h.oT
  exact ⟨hs, h.but.trans ho, h.x.butT ho (by omega), h.t.butT ho (by omega), h.own.but ho (by omega), h.eX, oB, oT, h.len⟩

theorem DF.drew (h : DF B X T a l c z d m v f S xs w w1) : DF B X T a l c z d m v f S xs w w1.drew := h.call (But.refl _ _).drew h.ready.drew

theorem DF.alloc (h : DF B X T a l c z d m v f S xs w w1) (o : Obj) : DF B X T a l c z d m v f S xs w (w1.alloc o) := h.call (But.alloc _) (h.ready.alloc _)

theorem DF.cells (h : DF B X T a l c z d m v f S xs w w1) : w1.cell? ⟨T, 0, none⟩ = some (.int .i64 d) ∧ w1.cell? ⟨T, 1, none⟩ = some (.int .i64 m) ∧ w1.cell? ⟨T, 2, none⟩ = some (.int .i64 v) ∧ w1.cell? ⟨T, 3, none⟩ = some (.int .i64 f) ∧ w1.cell? ⟨T, 4, none⟩ = some S ∧ w1.frozen? ⟨T, 0, none⟩ = false ∧ w1.frozen? ⟨T, 1, none⟩ = false ∧ w1.frozen? ⟨T, 2, none⟩ = false ∧ w1.frozen? ⟨T, 3, none⟩ = false ∧ w1.frozen? ⟨T, 4, none⟩ = false := by
  obtain ⟨c0, c1, c2, c3, c4⟩ := h.t.bx.five
  exact ⟨c0, c1, c2, c3, c4, h.t.bx.free 0, h.t.bx.free 1, h.t.bx.free 2, h.t.bx.free 3, h.t.bx.free 4⟩

/-- a store into its box -/
theorem DF.put (h : DF B X T a l c z d m v f S xs w w1) (i : Nat) (u : Value) {d' m' v' f' : Int} (hv : ([.int .i64 d, .int .i64 m, .int .i64 v, .int .i64 f, S] : List Value).set i u = [.int .i64 d', .int .i64 m', .int .i64 v', .int .i64 f', S]) : DF B X T a l c z d' m' v' f' S xs w (w1.setCell ⟨T, i, none⟩ u) := by
  have oB := h.oB
  have oT := h.oT
  have hn := h.t.nown h.own (by decide)
  have hb : Below X w1 (w1.setCell ⟨T, i, none⟩ u) := (Below.refl _ _).setCell (p := ⟨T, i, none⟩) (by show X ≤ T; omega) _
  have ht := h.t.setT i u
  rw [hv] at ht
  refine ⟨h.ready.below hb oB, h.but.low (by rw [h.eX]; exact hb), h.x.farT _ _ (by show X ≠ T; omega), ht, ?_, h.eX, oB, oT, h.len⟩
  obtain ⟨h0, h1 | ⟨g, cap, cur, hvv, hg, hh, r⟩⟩ := h.own
  · exact ⟨h0, .inl h1⟩
  · refine ⟨h0, .inr ⟨g, cap, cur, hvv, hg, ?_, r⟩⟩
    rw [far_setCell _ _ _ _ (by show g ≠ T; intro e; subst e; exact hn (by rw [hvv]; rfl))]
    exact hh

/-- one more birth, stored -/
theorem DF.add (h : DF B X T a l c z d m v f S xs w w1) {o : Obj} {S' : Value} {y : Int} (hg : (w1.alloc o).grownBy w2 S.ownBlock) (ho : OwnI (X + 1) w2 S' (xs ++ [y])) (hl : xs.length < 64) : DF B X T a l c z d m v f S' (xs ++ [y]) w (w2.setCell ⟨T, 4, none⟩ S') := by
  have oB := h.oB
  have oT := h.oT
  have hX : X < w1.heap.size := h.x.lt
  have hgr : Below (X + 1) w1 w2 := ((Below.refl _ _).alloc (by omega) o).grown hg (by simp; omega) fun k hk => (World.ownsRow.lt h.own k hk).1
  have t2 := h.t.grownI h.own hg (by decide)
  have x2 := h.x.grownI h.own hg (by decide)
  have hn := t2.nown ho (by decide)
  have hb : Below X w1 (w2.setCell ⟨T, 4, none⟩ S') := (hgr.mono (by omega)).setCell (p := ⟨T, 4, none⟩) (by show X ≤ T; omega) _
  refine ⟨h.ready.below hb oB, h.but.low (by rw [h.eX]; exact hb), x2.farT _ _ (by show X ≠ T; omega), t2.setT 4 S', ?_, h.eX, oB, oT, by simp; omega⟩
  obtain ⟨h0, h1 | ⟨g, cap, cur, hvv, hg, hh, r⟩⟩ := ho
  · exact ⟨h0, .inl h1⟩
  · refine ⟨h0, .inr ⟨g, cap, cur, hvv, hg, ?_, r⟩⟩
    rw [far_setCell _ _ _ _ (by show g ≠ T; intro e; subst e; exact hn (by rw [hvv]; rfl))]
    exact hh
end

/-- its five values stored into the result -/
theorem DF.fin {B X T : Nat} {a : Option Addr} {l c : Nat} {z : List Int} {d m v f : Int} {x : Option Addr} {q : Nat} {xs : List Int} {w w1 : World} (h : DF B X T a l c z d m v f (.slice x xs.length q) xs w w1) (hi : Ints w1 x xs.length xs) (hx : ∀ y, x = some y → X + 1 ≤ y.block) :
    ((((((w1.setCell ⟨X, 0, none⟩ (.int .i64 d)).setCell ⟨X, 1, none⟩ (.int .i64 m)).setCell ⟨X, 2, none⟩ (.int .i64 v)).setCell ⟨X, 3, none⟩ (.int .i64 f)).setCell ⟨X, 4, none⟩ (.slice x xs.length q)).cell? ⟨X, 0, none⟩ = some (.int .i64 d) ∧
     (((((w1.setCell ⟨X, 0, none⟩ (.int .i64 d)).setCell ⟨X, 1, none⟩ (.int .i64 m)).setCell ⟨X, 2, none⟩ (.int .i64 v)).setCell ⟨X, 3, none⟩ (.int .i64 f)).setCell ⟨X, 4, none⟩ (.slice x xs.length q)).cell? ⟨X, 1, none⟩ = some (.int .i64 m) ∧
     (((((w1.setCell ⟨X, 0, none⟩ (.int .i64 d)).setCell ⟨X, 1, none⟩ (.int .i64 m)).setCell ⟨X, 2, none⟩ (.int .i64 v)).setCell ⟨X, 3, none⟩ (.int .i64 f)).setCell ⟨X, 4, none⟩ (.slice x xs.length q)).cell? ⟨X, 2, none⟩ = some (.int .i64 v) ∧
     (((((w1.setCell ⟨X, 0, none⟩ (.int .i64 d)).setCell ⟨X, 1, none⟩ (.int .i64 m)).setCell ⟨X, 2, none⟩ (.int .i64 v)).setCell ⟨X, 3, none⟩ (.int .i64 f)).setCell ⟨X, 4, none⟩ (.slice x xs.length q)).cell? ⟨X, 3, none⟩ = some (.int .i64 f) ∧
     (((((w1.setCell ⟨X, 0, none⟩ (.int .i64 d)).setCell ⟨X, 1, none⟩ (.int .i64 m)).setCell ⟨X, 2, none⟩ (.int .i64 v)).setCell ⟨X, 3, none⟩ (.int .i64 f)).setCell ⟨X, 4, none⟩ (.slice x xs.length q)).cell? ⟨X, 4, none⟩ = some (.slice x xs.length q)) ∧
    Ints (((((w1.setCell ⟨X, 0, none⟩ (.int .i64 d)).setCell ⟨X, 1, none⟩ (.int .i64 m)).setCell ⟨X, 2, none⟩ (.int .i64 v)).setCell ⟨X, 3, none⟩ (.int .i64 f)).setCell ⟨X, 4, none⟩ (.slice x xs.length q)) x xs.length xs ∧
    But B w (((((w1.setCell ⟨X, 0, none⟩ (.int .i64 d)).setCell ⟨X, 1, none⟩ (.int .i64 m)).setCell ⟨X, 2, none⟩ (.int .i64 v)).setCell ⟨X, 3, none⟩ (.int .i64 f)).setCell ⟨X, 4, none⟩ (.slice x xs.length q)) ∧
    Ready B a l c z (((((w1.setCell ⟨X, 0, none⟩ (.int .i64 d)).setCell ⟨X, 1, none⟩ (.int .i64 m)).setCell ⟨X, 2, none⟩ (.int .i64 v)).setCell ⟨X, 3, none⟩ (.int .i64 f)).setCell ⟨X, 4, none⟩ (.slice x xs.length q)) := by
  have oB := h.oB
  have hb : Below X w1 (((((w1.setCell ⟨X, 0, none⟩ (.int .i64 d)).setCell ⟨X, 1, none⟩ (.int .i64 m)).setCell ⟨X, 2, none⟩ (.int .i64 v)).setCell ⟨X, 3, none⟩ (.int .i64 f)).setCell ⟨X, 4, none⟩ (.slice x xs.length q)) :=
    (((((Below.refl _ _).setCell (p := ⟨X, 0, none⟩) (Nat.le_refl _) _).setCell (p := ⟨X, 1, none⟩) (Nat.le_refl _) _).setCell (p := ⟨X, 2, none⟩) (Nat.le_refl _) _).setCell (p := ⟨X, 3, none⟩) (Nat.le_refl _) _).setCell (p := ⟨X, 4, none⟩) (Nat.le_refl _) _
  have ho : Only X w1 (((((w1.setCell ⟨X, 0, none⟩ (.int .i64 d)).setCell ⟨X, 1, none⟩ (.int .i64 m)).setCell ⟨X, 2, none⟩ (.int .i64 v)).setCell ⟨X, 3, none⟩ (.int .i64 f)).setCell ⟨X, 4, none⟩ (.slice x xs.length q)) :=
    (((((Only.refl _ _).setCell (p := ⟨X, 0, none⟩) rfl _).setCell (p := ⟨X, 1, none⟩) rfl _).setCell (p := ⟨X, 2, none⟩) rfl _).setCell (p := ⟨X, 3, none⟩) rfl _).setCell (p := ⟨X, 4, none⟩) rfl _
  have hX := ((((h.x.setT 0 (.int .i64 d)).setT 1 (.int .i64 m)).setT 2 (.int .i64 v)).setT 3 (.int .i64 f)).setT 4 (.slice x xs.length q)
  exact ⟨hX.bx.five, hi.butT ho.but (fun y hy e => by have := hx y hy; omega), h.but.low (by rw [h.eX]; exact hb), h.ready.below hb oB⟩

/-- a family that a draw gives -/
def DrawnF (B : Nat) (a : Option Addr) (l c : Nat) (z : List Int) (w : World) (e : Ending) (w' : World) : Prop :=
  ∃ d m v f x n q xs, e = .returned (.agg #[.int .i64 d, .int .i64 m, .int .i64 v, .int .i64 f, .slice x n q]) ∧ Ints w' x n xs ∧ n ≤ 4096 ∧ (∀ y, x = some y → w.heap.size ≤ y.block) ∧ But B w w' ∧ Ready B a l c z w'

set_option maxHeartbeats 8000000 in
theorem dfam_any (B : Nat) (a : Option Addr) (l c : Nat) (z : List Int) (w : World) (h : Ready B a l c z w) : Calls Try.prog 94 #[.pointer (some ⟨B, 0, none⟩)] w (DrawnF B a l c z w) := by
  have H := Lib.hid h
  have hB := h.here
  have HX := Lib.hid (Bt.new w [.int .i64 0, .int .i64 0, .int .i64 0, .int .i64 0, .slice none 0 0] 26)
  clear h
  go_enter Try.func94, Try.ntmps94
  go_wp2_with fail
  refine (next_r B a l c z _ _ (H.out.alloc _)).mono ?_
  rintro e w1 ⟨r, rfl, hd, ho, hs⟩
  have hbd := drawn_bd hd (by omega)
  have HS := Lib.hid hs
  have HO := Lib.hid ho
  have HX1 := Lib.hid (HX.out.butT ho (by omega))
  have hsz : w.heap.size + 1 ≤ w1.heap.size := by have := ho.size; simpa using this
  have q1 : IntKind.i64.wrap (22000 + r) = 22000 + r := IntWalk.i64_in _ (by omega)
  clear hd ho hs HX
  go_wp2_with fail
  have HD : Hid (DF B w.heap.size (w1.heap.size + 1) a l c z (22000 + r) (-1) (-1) (-1) (.slice (some ⟨w1.heap.size, 0, none⟩) 0 0) [] w ((w1.alloc (.cells #[] 2)).alloc (.cells #[.int .i64 (22000 + r), .int .i64 (-1), .int .i64 (-1), .int .i64 (-1), .slice (some ⟨w1.heap.size, 0, none⟩) 0 0] 26))) := Lib.hid (by
    have b1 := box_b w1 (.cells #[] 2)
    have b2 := box_b (w1.alloc (.cells #[] 2)) (.cells #[.int .i64 (22000 + r), .int .i64 (-1), .int .i64 (-1), .int .i64 (-1), .slice (some ⟨w1.heap.size, 0, none⟩) 0 0] 26)
    have t2 := Bt.new (w1.alloc (.cells #[] 2)) [.int .i64 (22000 + r), .int .i64 (-1), .int .i64 (-1), .int .i64 (-1), .slice (some ⟨w1.heap.size, 0, none⟩) 0 0] 26
    rw [World.size_alloc] at t2
    have ow := (ownI_new w1).mono (b2 := w.heap.size + 1) hsz
    exact ⟨(HS.out.alloc _).alloc _, ((But.alloc _).trans HO.out).trans ((But.alloc _).trans (But.alloc _)), (HX1.out.on b1).on b2, t2, ow.alloc _, rfl, hB, by omega, by simp⟩)
  obtain ⟨W1, hW1⟩ : ∃ y_, ((w1.alloc (.cells #[] 2)).alloc (.cells #[.int .i64 (22000 + r), .int .i64 (-1), .int .i64 (-1), .int .i64 (-1), .slice (some ⟨w1.heap.size, 0, none⟩) 0 0] 26)) = y_ := ⟨_, rfl⟩
  rw [hW1] at HD ⊢
  obtain ⟨T, hT⟩ : ∃ y_, w1.heap.size + 1 = y_ := ⟨_, rfl⟩
  obtain ⟨S, hSS⟩ : ∃ y_, (.slice (some ⟨w1.heap.size, 0, none⟩) 0 0 : Value) = y_ := ⟨_, rfl⟩
  rw [hT, hSS] at HD
  (try rw [hT])
  (try rw [hSS])
  obtain ⟨D, hDD⟩ : ∃ y_, 22000 + r = y_ := ⟨_, rfl⟩
  rw [hDD] at HD
  (try rw [hDD])
  clear hT hSS hDD hW1 q1 HX1 HO HS H hsz hbd
  refine (next_r B a l c z _ _ HD.out.ready).mono ?_
  rintro e w4 ⟨r4, rfl, hd, ho, hs⟩
  have hb4 := drawn_bd hd (by omega)
  have HD := Lib.hid (HD.out.call ho hs)
  clear hd ho hs
  go_upto_if 13 with fail
  go_cut [] from 13 to 32 (fun wx => Hid (∃ m v f, DF B w.heap.size T a l c z D m v f S [] w wx))
  case first =>
    by_cases g4 : 0 < r4
    · go_wp2_with fail
      have HD := Lib.hid HD.out.drew
      refine wp_region_held_drew (S := (fun W9 => W9.cell? ⟨T, 0, none⟩ = some (.int .i64 D))) (by kernel_rfl) HD.out.cells.1 (fun hHeld => ?_)
      refine wpAnyH_take (i := 0) (v := ?_) rfl (by kernel_rfl) (by kernel_rfl) (by kernel_rfl) (fun _ _ _ h => h) (Or.inl ⟨by kernel_rfl, ?_⟩) (by assumption) ?_
      rotate_left
      · (intro w hSw; (try dsimp only at hSw); go_split_ands; go_simp; try with_reducible rfl)
      try simp only [Act.put, List.setIfInBounds_toArray, List.set_cons_zero, List.set_cons_succ]
      refine wpAnyH_take (i := 1) (v := ?_) rfl (by kernel_rfl) (by kernel_rfl) (by kernel_rfl) (fun _ _ _ h => h) (Or.inl ⟨by kernel_rfl, ?_⟩) (by assumption) ?_
      rotate_left
      · (intro w hSw; (try dsimp only at hSw); go_split_ands; go_simp; try with_reducible rfl)
      try simp only [Act.put, List.setIfInBounds_toArray, List.set_cons_zero, List.set_cons_succ]
      refine wpAnyH_take (i := 2) (v := ?_) rfl (by kernel_rfl) (by kernel_rfl) (by kernel_rfl) (fun _ _ _ h => h) (Or.inl ⟨by kernel_rfl, ?_⟩) (by assumption) ?_
      rotate_left
      · (intro w hSw; (try dsimp only at hSw); go_split_ands; go_simp; try with_reducible rfl)
      try simp only [Act.put, List.setIfInBounds_toArray, List.set_cons_zero, List.set_cons_succ]
      refine wpAnyH_ready (rs := [3]) (by kernel_rfl) (by simp) ?_
      refine AllReadyH.cons (o := _) rfl (fun K hK => ?_) AllReadyH.nil
      try simp only [List.getElem_toArray, List.getElem_cons_succ, List.getElem_cons_zero]
      go_simp
      refine (next_r B a l c z _ _ HD.out.ready).mono ?_
      rintro e w5 ⟨r5, rfl, hd, ho, hs⟩
      have HD := Lib.hid (HD.out.call ho hs)
      clear hd ho hs
      obtain ⟨k0, k1, k2, k3, k4, y0, y1, y2, y3, y4⟩ := HD.out.cells
      obtain ⟨m1, q3⟩ : ∃ y_, IntKind.i64.wrap (D - r5) = y_ := ⟨_, rfl⟩
      refine hK.out _ _ ?_ (fun hHeld => ?_)
      · exact HD.out.cells.1
      clear hK K
      try simp only [Act.put, List.setIfInBounds_toArray, List.set_cons_zero, List.set_cons_succ]
      refine wpAnyH_take (i := 4) (v := ?_) rfl (by kernel_rfl) (by kernel_rfl) (by kernel_rfl) (fun _ _ _ h => h) (Or.inl ⟨by kernel_rfl, ?_⟩) (by assumption) ?_
      rotate_left
      · (intro w hSw; (try dsimp only at hSw); go_split_ands; go_simp; try with_reducible rfl)
      try simp only [Act.put, List.setIfInBounds_toArray, List.set_cons_zero, List.set_cons_succ]
      refine wpAnyH_take (i := 5) (v := ?_) rfl (by kernel_rfl) (by kernel_rfl) (by kernel_rfl) (fun _ _ _ h => h) (Or.inl ⟨by kernel_rfl, ?_⟩) (by assumption) ?_
      rotate_left
      · (intro w hSw; (try dsimp only at hSw); go_split_ands; go_simp; try with_reducible rfl)
      try simp only [Act.put, List.setIfInBounds_toArray, List.set_cons_zero, List.set_cons_succ]
      refine wpAnyH_ready (rs := [6]) (by kernel_rfl) (by simp) ?_
      refine AllReadyH.cons (o := _) rfl (fun K hK => ?_) AllReadyH.nil
      try simp only [List.getElem_toArray, List.getElem_cons_succ, List.getElem_cons_zero]
      go_simp
      have HD := Lib.hid (HD.out.put 1 (.int .i64 m1) rfl)
      refine hK.out _ _ ?_ (fun hHeld => ?_)
      · exact HD.out.cells.1
      clear hK K
      try simp only [Act.put, List.setIfInBounds_toArray, List.set_cons_zero, List.set_cons_succ]
      refine wpAnyH_done (by kernel_rfl) ?_ _
      try simp only [List.getElem_toArray, List.getElem_cons_succ, List.getElem_cons_zero, List.setIfInBounds_toArray, List.set_cons_zero, List.set_cons_succ]
      clear k0 k1 k2 k3 k4 y0 y1 y2 y3 y4
      clear q3
      obtain ⟨k0, k1, k2, k3, k4, y0, y1, y2, y3, y4⟩ := HD.out.cells
      obtain ⟨v1, q4⟩ : ∃ y_, IntKind.i64.wrap (D + 1) = y_ := ⟨_, rfl⟩
      go_wp2_with fail
      have HD := Lib.hid (HD.out.put 2 (.int .i64 v1) rfl)
      clear k0 k1 k2 k3 k4 y0 y1 y2 y3 y4 q4
      refine (next_r B a l c z _ _ HD.out.ready).mono ?_
      rintro e w6 ⟨r6, rfl, hd, ho, hs⟩
      have hb6 := drawn_bd hd (by omega)
      have HD := Lib.hid (HD.out.call ho hs)
      clear hd ho hs
      by_cases g6 : r6 = 0
      · subst g6
        go_wp2_with fail
        have HD := Lib.hid HD.out.drew
        refine wp_region_held_drew (S := (fun W9 => W9.cell? ⟨T, 2, none⟩ = some (.int .i64 v1))) (by kernel_rfl) HD.out.cells.2.2.1 (fun hHeld => ?_)
        refine wpAnyH_take (i := 0) (v := ?_) rfl (by kernel_rfl) (by kernel_rfl) (by kernel_rfl) (fun _ _ _ h => h) (Or.inl ⟨by kernel_rfl, ?_⟩) (by assumption) ?_
        rotate_left
        · (intro w hSw; (try dsimp only at hSw); go_split_ands; go_simp; try with_reducible rfl)
        try simp only [Act.put, List.setIfInBounds_toArray, List.set_cons_zero, List.set_cons_succ]
        refine wpAnyH_take (i := 1) (v := ?_) rfl (by kernel_rfl) (by kernel_rfl) (by kernel_rfl) (fun _ _ _ h => h) (Or.inl ⟨by kernel_rfl, ?_⟩) (by assumption) ?_
        rotate_left
        · (intro w hSw; (try dsimp only at hSw); go_split_ands; go_simp; try with_reducible rfl)
        try simp only [Act.put, List.setIfInBounds_toArray, List.set_cons_zero, List.set_cons_succ]
        refine wpAnyH_take (i := 2) (v := ?_) rfl (by kernel_rfl) (by kernel_rfl) (by kernel_rfl) (fun _ _ _ h => h) (Or.inl ⟨by kernel_rfl, ?_⟩) (by assumption) ?_
        rotate_left
        · (intro w hSw; (try dsimp only at hSw); go_split_ands; go_simp; try with_reducible rfl)
        try simp only [Act.put, List.setIfInBounds_toArray, List.set_cons_zero, List.set_cons_succ]
        refine wpAnyH_ready (rs := [3]) (by kernel_rfl) (by simp) ?_
        refine AllReadyH.cons (o := _) rfl (fun K hK => ?_) AllReadyH.nil
        try simp only [List.getElem_toArray, List.getElem_cons_succ, List.getElem_cons_zero]
        go_simp
        refine (next_r B a l c z _ _ HD.out.ready).mono ?_
        rintro e w7 ⟨r7, rfl, hd, ho, hs⟩
        have HD := Lib.hid (HD.out.call ho hs)
        clear hd ho hs
        obtain ⟨k0, k1, k2, k3, k4, y0, y1, y2, y3, y4⟩ := HD.out.cells
        obtain ⟨f1, q5⟩ : ∃ y_, IntKind.i64.wrap (v1 + r7) = y_ := ⟨_, rfl⟩
        refine hK.out _ _ ?_ (fun hHeld => ?_)
        · exact HD.out.cells.2.2.1
        clear hK K
        try simp only [Act.put, List.setIfInBounds_toArray, List.set_cons_zero, List.set_cons_succ]
        refine wpAnyH_take (i := 4) (v := ?_) rfl (by kernel_rfl) (by kernel_rfl) (by kernel_rfl) (fun _ _ _ h => h) (Or.inl ⟨by kernel_rfl, ?_⟩) (by assumption) ?_
        rotate_left
        · (intro w hSw; (try dsimp only at hSw); go_split_ands; go_simp; try with_reducible rfl)
        try simp only [Act.put, List.setIfInBounds_toArray, List.set_cons_zero, List.set_cons_succ]
        refine wpAnyH_take (i := 5) (v := ?_) rfl (by kernel_rfl) (by kernel_rfl) (by kernel_rfl) (fun _ _ _ h => h) (Or.inl ⟨by kernel_rfl, ?_⟩) (by assumption) ?_
        rotate_left
        · (intro w hSw; (try dsimp only at hSw); go_split_ands; go_simp; try with_reducible rfl)
        try simp only [Act.put, List.setIfInBounds_toArray, List.set_cons_zero, List.set_cons_succ]
        refine wpAnyH_ready (rs := [6]) (by kernel_rfl) (by simp) ?_
        refine AllReadyH.cons (o := _) rfl (fun K hK => ?_) AllReadyH.nil
        try simp only [List.getElem_toArray, List.getElem_cons_succ, List.getElem_cons_zero]
        go_simp
        have HD := Lib.hid (HD.out.put 3 (.int .i64 f1) rfl)
        refine hK.out _ _ ?_ (fun hHeld => ?_)
        · exact HD.out.cells.2.2.1
        clear hK K
        try simp only [Act.put, List.setIfInBounds_toArray, List.set_cons_zero, List.set_cons_succ]
        refine wpAnyH_done (by kernel_rfl) ?_ _
        try simp only [List.getElem_toArray, List.getElem_cons_succ, List.getElem_cons_zero, List.setIfInBounds_toArray, List.set_cons_zero, List.set_cons_succ]
        clear k0 k1 k2 k3 k4 y0 y1 y2 y3 y4
        clear q5
        go_wp2_with fail
        go_meet
        case rel => exact Lib.hid ⟨_, _, _, HD.out⟩
      · have g6' : (r6 == 0) = false := by simpa using g6
        clear g6
        go_wp2_with fail
        go_meet
        case rel => exact Lib.hid ⟨_, _, _, HD.out⟩
    · go_wp2_with fail
      go_meet
      case rel => exact Lib.hid ⟨_, _, _, HD.out⟩
  case rest =>
    clear HD
    obtain ⟨m, v, f, hdf⟩ := hcut.out
    have HD := Lib.hid hdf
    clear hcut hdf
    go_wp2_with fail
    obtain ⟨g7, q7⟩ : ∃ y_, IntKind.i64.wrap (D - 250) = y_ := ⟨_, rfl⟩
    have HD := Lib.hid HD.out.drew
    refine wp_region_held_drew (S := (fun W9 => W9.cell? ⟨T, 0, none⟩ = some (.int .i64 D))) (by kernel_rfl) HD.out.cells.1 (fun hHeld => ?_)
    refine wpAnyH_take (i := 0) (v := ?_) rfl (by kernel_rfl) (by kernel_rfl) (by kernel_rfl) (fun _ _ _ h => h) (Or.inl ⟨by kernel_rfl, ?_⟩) (by assumption) ?_
    rotate_left
    · (intro w hSw; (try dsimp only at hSw); go_split_ands; go_simp; try with_reducible rfl)
    try simp only [Act.put, List.setIfInBounds_toArray, List.set_cons_zero, List.set_cons_succ]
    refine wpAnyH_take (i := 1) (v := ?_) rfl (by kernel_rfl) (by kernel_rfl) (by kernel_rfl) (fun _ _ _ h => h) (Or.inl ⟨by kernel_rfl, ?_⟩) (by assumption) ?_
    rotate_left
    · (intro w hSw; (try dsimp only at hSw); go_split_ands; go_simp; try with_reducible rfl)
    try simp only [Act.put, List.setIfInBounds_toArray, List.set_cons_zero, List.set_cons_succ]
    refine wpAnyH_take (i := 2) (v := ?_) rfl (by kernel_rfl) (by kernel_rfl) (by kernel_rfl) (fun _ _ _ h => h) (Or.inl ⟨by kernel_rfl, ?_⟩) (by assumption) ?_
    rotate_left
    · (intro w hSw; (try dsimp only at hSw); go_split_ands; go_simp; try with_reducible rfl)
    try simp only [Act.put, List.setIfInBounds_toArray, List.set_cons_zero, List.set_cons_succ]
    refine wpAnyH_take (i := 3) (v := ?_) rfl (by kernel_rfl) (by kernel_rfl) (by kernel_rfl) (fun _ _ _ h => h) (Or.inl ⟨by kernel_rfl, ?_⟩) (by assumption) ?_
    rotate_left
    · (intro w hSw; (try dsimp only at hSw); go_split_ands; go_simp; try with_reducible rfl)
    try simp only [Act.put, List.setIfInBounds_toArray, List.set_cons_zero, List.set_cons_succ]
    refine wpAnyH_ready (rs := [4]) (by kernel_rfl) (by simp) ?_
    refine AllReadyH.cons (o := _) rfl (fun K hK => ?_) AllReadyH.nil
    try simp only [List.getElem_toArray, List.getElem_cons_succ, List.getElem_cons_zero]
    go_simp
    refine (next_r B a l c z _ _ HD.out.ready).mono ?_
    rintro e w8 ⟨r8, rfl, hd, ho, hs⟩
    have HD := Lib.hid (HD.out.call ho hs)
    clear hd ho hs
    obtain ⟨k0, k1, k2, k3, k4, y0, y1, y2, y3, y4⟩ := HD.out.cells
    obtain ⟨at1, q8⟩ : ∃ y_, IntKind.i64.wrap (g7 + r8) = y_ := ⟨_, rfl⟩
    refine hK.out _ _ ?_ (fun hHeld => ?_)
    · exact HD.out.cells.1
    clear hK K
    try simp only [Act.put, List.setIfInBounds_toArray, List.set_cons_zero, List.set_cons_succ]
    refine wpAnyH_take (i := 5) (v := ?_) rfl (by kernel_rfl) (by kernel_rfl) (by kernel_rfl) (fun _ _ _ h => h) (Or.inl ⟨by kernel_rfl, ?_⟩) (by assumption) ?_
    rotate_left
    · (intro w hSw; (try dsimp only at hSw); go_split_ands; go_simp; try with_reducible rfl)
    try simp only [Act.put, List.setIfInBounds_toArray, List.set_cons_zero, List.set_cons_succ]
    refine wpAnyH_take (i := 6) (v := ?_) rfl (by kernel_rfl) (by kernel_rfl) (by kernel_rfl) (fun _ _ _ h => h) (Or.inl ⟨by kernel_rfl, ?_⟩) (by assumption) ?_
    rotate_left
    · (intro w hSw; (try dsimp only at hSw); go_split_ands; go_simp; try with_reducible rfl)
    try simp only [Act.put, List.setIfInBounds_toArray, List.set_cons_zero, List.set_cons_succ]
    refine wpAnyH_done (by kernel_rfl) ?_ _
    try simp only [List.getElem_toArray, List.getElem_cons_succ, List.getElem_cons_zero, List.setIfInBounds_toArray, List.set_cons_zero, List.set_cons_succ]
    clear k0 k1 k2 k3 k4 y0 y1 y2 y3 y4
    clear q7 q8
    go_wp2_with fail
    refine (next_r B a l c z _ _ HD.out.ready).mono ?_
    rintro e w9 ⟨r9, rfl, hd, ho, hs⟩
    have hb9 := drawn_bd hd (by omega)
    have HD := Lib.hid (HD.out.call ho hs)
    clear hd ho hs
    go_wp2_with fail
    go_loopw [4, 5] (fun p_ q_ wr => ∃ at_ k : Int, p_ = .int .i64 at_ ∧ q_ = .int .i64 k ∧ 0 ≤ k ∧ k ≤ 4 ∧ Hid (∃ S xs, DF B w.heap.size T a l c z D m v f S xs w wr ∧ (xs.length : Int) + k ≤ 5)) (fun _ q_ _ => (intOf q_).toNat)
    case atStart => exact ⟨_, _, rfl, rfl, by omega, by omega, Lib.hid ⟨_, _, HD.out, by simp; omega⟩⟩
    case round =>
      obtain ⟨at2, k, rfl, rfl, hk0, hk4, hdf⟩ := hrel
      clear HD
      obtain ⟨S2, xs, hdf, hlk⟩ := hdf.out
      have HD := Lib.hid hdf
      clear hdf
      by_cases hlt : 0 < k
      · obtain ⟨k0, k1, k2, k3, k4, y0, y1, y2, y3, y4⟩ := HD.out.cells
        obtain ⟨D9, q9⟩ : ∃ y_, IntKind.i64.wrap (D + 9) = y_ := ⟨_, rfl⟩
        obtain ⟨y, hy⟩ : ∃ y_, (if at2 < D9 then at2 else D9) = y_ := ⟨_, rfl⟩
        obtain ⟨i0, hi, hz0, hz1, hz2⟩ := info_parts infoI
        have hown := HD.out.own
        have hlen := HD.out.len
        have hszw : w.heap.size + 1 ≤ wr.heap.size := HD.out.x.lt
        go_wp2_with (at_builtin; go_must (refine wpList_append_own _ rfl _ _ 24 rfl (w.heap.size + 1) 2 i0 (.int .i64 0) 1 8 Try.underlying24 hi hz0 hz1 hz2 rfl (by decide) _ _ _ rfl (hown.alloc _) ⟨wr.heap.size, 0, none⟩ 1 1 [.int .i64 y] rfl rfl ?c1_1 ?c1_2 ?c1_3 ?c1_4 ?c1_5 ?_))
        case c1_1 =>
          intro j u hj
          match j, hj with
          | 0, hj => simp at hj; subst hj; simp [Addr.add]
        case c1_2 => intro u hu; simp at hu; subst hu; rfl
        case c1_3 => unfold maxLen; omega
        case c1_4 => omega
        case c1_5 => simp; omega
        intro v' w5 hown' hgrow _
        have hO := (ownI_step hown hszw hown' hgrow).1
        obtain ⟨ys, hys⟩ : ∃ y_, xs ++ [y] = y_ := ⟨_, rfl⟩
        have HYL : Hid (ys.length = xs.length + 1) := Lib.hid (by rw [← hys]; simp)
        rw [hys] at hO
        obtain ⟨x_, q_, hS_, -, -⟩ := hO.intsT (by have := HYL.out; omega)
        subst hS_
        have ht := HD.out.t.grownI HD.out.own hgrow (by decide)
        have c4 := ht.bx.five.2.2.2.2
        have z4 := ht.bx.free 4
        have HD := Lib.hid (HD.out.add hgrow (by rw [hys]; exact hO) (by omega))
        rw [hys] at HD
        clear hown hown' hgrow hO ht k0 k1 k2 k3 k4 y0 y1 y2 y3 y4
        clear hy q9
        go_wp2_with fail
        refine (next_r B a l c z _ _ HD.out.ready).mono ?_
        rintro e w10 ⟨r10, rfl, hd, ho, hs⟩
        have hb10 := drawn_bd hd (by omega)
        have HD := Lib.hid (HD.out.call ho hs)
        clear hd ho hs
        obtain ⟨at3, qa⟩ : ∃ y_, IntKind.i64.wrap (at2 + r10) = y_ := ⟨_, rfl⟩
        have hll := Lib.hid (by have := HYL.out; omega : (ys.length : Int) + (k - 1) ≤ 5)
        clear c4 z4
        go_wp2_with fail
        go_roundw
        case rel => exact ⟨at3, k - 1, rfl, by go_num, by omega, by omega, Lib.hid ⟨_, _, HD.out, hll.out⟩⟩
        case measure => simp [intOf]; omega
      · obtain rfl : k = 0 := by omega
        have HLK : Hid (xs.length ≤ 5) := Lib.hid (by omega)
        clear hlk hk0 hk4
        go_wp2_with fail
        refine (next_r B a l c z _ _ HD.out.ready).mono ?_
        rintro e w11 ⟨r11, rfl, hd, ho, hs⟩
        have hb11 := drawn_bd hd (by omega)
        have HD := Lib.hid (HD.out.call ho hs)
        clear hd ho hs
        by_cases p0 : r11 = 0
        · subst p0
          obtain ⟨k0, k1, k2, k3, k4, y0, y1, y2, y3, y4⟩ := HD.out.cells
          obtain ⟨d1, qd⟩ : ∃ y_, IntKind.i64.wrap (D - 1) = y_ := ⟨_, rfl⟩
          go_wp2_with fail
          refine (pick4 B _ _ _ _ _ _ HD.out.ready).mono ?_
          rintro e w12 ⟨p, rfl, hd, ho, hs⟩
          have HD := Lib.hid (HD.out.call ho hs)
          clear hd ho hs k0 k1 k2 k3 k4 y0 y1 y2 y3 y4 qd
          obtain ⟨k0, k1, k2, k3, k4, y0, y1, y2, y3, y4⟩ := HD.out.cells
          go_upto_region 20 with fail
          have HD := Lib.hid (HD.out.put 0 (.int .i64 p) rfl)
          clear k0 k1 k2 k3 k4 y0 y1 y2 y3 y4
          obtain ⟨W7, hW7⟩ : ∃ y_, w12.setCell ⟨T, 0, none⟩ (.int .i64 p) = y_ := ⟨_, rfl⟩
          rw [hW7] at HD ⊢
          clear hW7
          obtain ⟨x, q, hS, hI, hbase⟩ := HD.out.own.intsT (by have := HD.out.len; omega)
          subst hS
          have HI := Lib.hid hI
          have HBS := Lib.hid hbase
          clear hI hbase
          obtain ⟨k0, k1, k2, k3, k4, -⟩ := HD.out.cells
          obtain ⟨x0, x1, x2, x3, x4⟩ := HD.out.x.bx.five
          have u0 := HD.out.x.bx.free 0
          have u1 := HD.out.x.bx.free 1
          have u2 := HD.out.x.bx.free 2
          have u3 := HD.out.x.bx.free 3
          have u4 := HD.out.x.bx.free 4
          go_wp2_with fail
          obtain ⟨⟨e0, e1, e2, e3, e4⟩, hi, hb, hr⟩ := HD.out.fin HI.out HBS.out
          refine bodyPost_ret (v := .agg #[.int .i64 p, .int .i64 m, .int .i64 v, .int .i64 f, .slice x xs.length q]) ?_ rfl ⟨p, m, v, f, x, xs.length, q, xs, rfl, hi, by have := HD.out.len; omega, fun y hy => by have := HBS.out y hy; omega, hb, hr⟩
          simp [results, Try.results94, go_sem, e0, e1, e2, e3, e4]
        · have p0' : (r11 == 0) = false := by simpa using p0
          by_cases p1 : r11 = 1
          · subst p1
            clear p0 p0'
            go_wp2_with fail
            have HD := Lib.hid HD.out.drew
            refine wp_region_held_drew (S := (fun W9 => W9.cell? ⟨T, 0, none⟩ = some (.int .i64 D))) (by kernel_rfl) HD.out.cells.1 (fun hHeld => ?_)
            refine wpAnyH_take (i := 0) (v := ?_) rfl (by kernel_rfl) (by kernel_rfl) (by kernel_rfl) (fun _ _ _ h => h) (Or.inl ⟨by kernel_rfl, ?_⟩) (by assumption) ?_
            rotate_left
            · (intro w hSw; (try dsimp only at hSw); go_split_ands; go_simp; try with_reducible rfl)
            try simp only [Act.put, List.setIfInBounds_toArray, List.set_cons_zero, List.set_cons_succ]
            refine wpAnyH_take (i := 1) (v := ?_) rfl (by kernel_rfl) (by kernel_rfl) (by kernel_rfl) (fun _ _ _ h => h) (Or.inl ⟨by kernel_rfl, ?_⟩) (by assumption) ?_
            rotate_left
            · (intro w hSw; (try dsimp only at hSw); go_split_ands; go_simp; try with_reducible rfl)
            try simp only [Act.put, List.setIfInBounds_toArray, List.set_cons_zero, List.set_cons_succ]
            refine wpAnyH_take (i := 2) (v := ?_) rfl (by kernel_rfl) (by kernel_rfl) (by kernel_rfl) (fun _ _ _ h => h) (Or.inl ⟨by kernel_rfl, ?_⟩) (by assumption) ?_
            rotate_left
            · (intro w hSw; (try dsimp only at hSw); go_split_ands; go_simp; try with_reducible rfl)
            try simp only [Act.put, List.setIfInBounds_toArray, List.set_cons_zero, List.set_cons_succ]
            refine wpAnyH_ready (rs := [3]) (by kernel_rfl) (by simp) ?_
            refine AllReadyH.cons (o := _) rfl (fun K hK => ?_) AllReadyH.nil
            try simp only [List.getElem_toArray, List.getElem_cons_succ, List.getElem_cons_zero]
            go_simp
            refine (next_r B a l c z _ _ HD.out.ready).mono ?_
            rintro e w13 ⟨r13, rfl, hd, ho, hs⟩
            have HD := Lib.hid (HD.out.call ho hs)
            clear hd ho hs
            obtain ⟨k0, k1, k2, k3, k4, y0, y1, y2, y3, y4⟩ := HD.out.cells
            obtain ⟨f2, qf⟩ : ∃ y_, IntKind.i64.wrap (D + r13) = y_ := ⟨_, rfl⟩
            refine hK.out _ _ ?_ (fun hHeld => ?_)
            · exact HD.out.cells.1
            clear hK K
            try simp only [Act.put, List.setIfInBounds_toArray, List.set_cons_zero, List.set_cons_succ]
            refine wpAnyH_take (i := 4) (v := ?_) rfl (by kernel_rfl) (by kernel_rfl) (by kernel_rfl) (fun _ _ _ h => h) (Or.inl ⟨by kernel_rfl, ?_⟩) (by assumption) ?_
            rotate_left
            · (intro w hSw; (try dsimp only at hSw); go_split_ands; go_simp; try with_reducible rfl)
            try simp only [Act.put, List.setIfInBounds_toArray, List.set_cons_zero, List.set_cons_succ]
            refine wpAnyH_take (i := 5) (v := ?_) rfl (by kernel_rfl) (by kernel_rfl) (by kernel_rfl) (fun _ _ _ h => h) (Or.inl ⟨by kernel_rfl, ?_⟩) (by assumption) ?_
            rotate_left
            · (intro w hSw; (try dsimp only at hSw); go_split_ands; go_simp; try with_reducible rfl)
            try simp only [Act.put, List.setIfInBounds_toArray, List.set_cons_zero, List.set_cons_succ]
            refine wpAnyH_ready (rs := [6]) (by kernel_rfl) (by simp) ?_
            refine AllReadyH.cons (o := _) rfl (fun K hK => ?_) AllReadyH.nil
            try simp only [List.getElem_toArray, List.getElem_cons_succ, List.getElem_cons_zero]
            go_simp
            have HD := Lib.hid (HD.out.put 3 (.int .i64 f2) rfl)
            refine hK.out _ _ ?_ (fun hHeld => ?_)
            · exact HD.out.cells.1
            clear hK K
            try simp only [Act.put, List.setIfInBounds_toArray, List.set_cons_zero, List.set_cons_succ]
            refine wpAnyH_done (by kernel_rfl) ?_ _
            try simp only [List.getElem_toArray, List.getElem_cons_succ, List.getElem_cons_zero, List.setIfInBounds_toArray, List.set_cons_zero, List.set_cons_succ]
            clear k0 k1 k2 k3 k4 y0 y1 y2 y3 y4
            clear qf
            go_upto_region 20 with fail
            obtain ⟨W7, hW7⟩ : ∃ y_, w13.setCell ⟨T, 3, none⟩ (.int .i64 f2) = y_ := ⟨_, rfl⟩
            rw [hW7] at HD ⊢
            clear hW7
            obtain ⟨x, q, hS, hI, hbase⟩ := HD.out.own.intsT (by have := HD.out.len; omega)
            subst hS
            have HI := Lib.hid hI
            have HBS := Lib.hid hbase
            clear hI hbase
            obtain ⟨k0, k1, k2, k3, k4, -⟩ := HD.out.cells
            obtain ⟨x0, x1, x2, x3, x4⟩ := HD.out.x.bx.five
            have u0 := HD.out.x.bx.free 0
            have u1 := HD.out.x.bx.free 1
            have u2 := HD.out.x.bx.free 2
            have u3 := HD.out.x.bx.free 3
            have u4 := HD.out.x.bx.free 4
            go_wp2_with fail
            obtain ⟨⟨e0, e1, e2, e3, e4⟩, hi, hb, hr⟩ := HD.out.fin HI.out HBS.out
            refine bodyPost_ret (v := .agg #[.int .i64 D, .int .i64 m, .int .i64 v, .int .i64 f2, .slice x xs.length q]) ?_ rfl ⟨D, m, v, f2, x, xs.length, q, xs, rfl, hi, by have := HD.out.len; omega, fun y hy => by have := HBS.out y hy; omega, hb, hr⟩
            simp [results, Try.results94, go_sem, e0, e1, e2, e3, e4]
          · have p1' : (r11 == 1) = false := by simpa using p1
            by_cases p2 : r11 = 2
            · subst p2
              clear p0 p1 p0' p1'
              obtain ⟨k0, k1, k2, k3, k4, y0, y1, y2, y3, y4⟩ := HD.out.cells
              obtain ⟨y9, q9⟩ : ∃ y_, IntKind.i64.wrap (D + 10) = y_ := ⟨_, rfl⟩
              obtain ⟨i0, hi, hz0, hz1, hz2⟩ := info_parts infoI
              have hown := HD.out.own
              have hlen := HD.out.len
              have hszw : w.heap.size + 1 ≤ w11.heap.size := HD.out.x.lt
              go_wp2_with (at_builtin; go_must (refine wpList_append_own _ rfl _ _ 24 rfl (w.heap.size + 1) 2 i0 (.int .i64 0) 1 8 Try.underlying24 hi hz0 hz1 hz2 rfl (by decide) _ _ _ rfl (hown.alloc _) ⟨w11.heap.size, 0, none⟩ 1 1 [.int .i64 y9] rfl rfl ?c2_1 ?c2_2 ?c2_3 ?c2_4 ?c2_5 ?_))
              case c2_1 =>
                intro j u hj
                match j, hj with
                | 0, hj => simp at hj; subst hj; simp [Addr.add]
              case c2_2 => intro u hu; simp at hu; subst hu; rfl
              case c2_3 => unfold maxLen; omega
              case c2_4 => omega
              case c2_5 => simp; omega
              intro v' w5 hown' hgrow _
              have hO := (ownI_step hown hszw hown' hgrow).1
              obtain ⟨ys, hys⟩ : ∃ y_, xs ++ [y9] = y_ := ⟨_, rfl⟩
              have HYL : Hid (ys.length = xs.length + 1) := Lib.hid (by rw [← hys]; simp)
              rw [hys] at hO
              obtain ⟨x_, q_, hS_, -, -⟩ := hO.intsT (by have := HYL.out; omega)
              subst hS_
              have ht := HD.out.t.grownI HD.out.own hgrow (by decide)
              have c4 := ht.bx.five.2.2.2.2
              have z4 := ht.bx.free 4
              have HD := Lib.hid (HD.out.add hgrow (by rw [hys]; exact hO) (by have := HLK.out; omega))
              rw [hys] at HD
              clear hown hown' hgrow hO ht k0 k1 k2 k3 k4 y0 y1 y2 y3 y4
              clear q9
              go_upto_region 20 with fail
              obtain ⟨W7, hW7⟩ : ∃ y_, w5.setCell ⟨T, 4, none⟩ (.slice x_ ys.length q_) = y_ := ⟨_, rfl⟩
              rw [hW7] at HD ⊢
              clear hW7
              obtain ⟨x, q, hS, hI, hbase⟩ := HD.out.own.intsT (by have := HD.out.len; omega)
              obtain ⟨rfl, rfl⟩ : x = x_ ∧ q = q_ := by simp only [Value.slice.injEq] at hS; exact ⟨hS.1.symm, hS.2.2.symm⟩
              have HI := Lib.hid hI
              have HBS := Lib.hid hbase
              clear hI hbase
              obtain ⟨k0, k1, k2, k3, k4, -⟩ := HD.out.cells
              obtain ⟨x0, x1, x2, x3, x4⟩ := HD.out.x.bx.five
              have u0 := HD.out.x.bx.free 0
              have u1 := HD.out.x.bx.free 1
              have u2 := HD.out.x.bx.free 2
              have u3 := HD.out.x.bx.free 3
              have u4 := HD.out.x.bx.free 4
              go_wp2_with fail
              obtain ⟨⟨e0, e1, e2, e3, e4⟩, hi, hb, hr⟩ := HD.out.fin HI.out HBS.out
              refine bodyPost_ret (v := .agg #[.int .i64 D, .int .i64 m, .int .i64 v, .int .i64 f, .slice x ys.length q]) ?_ rfl ⟨D, m, v, f, x, ys.length, q, ys, rfl, hi, by have := HD.out.len; omega, fun y hy => by have := HBS.out y hy; omega, hb, hr⟩
              simp [results, Try.results94, go_sem, e0, e1, e2, e3, e4]
            · have p2' : (r11 == 2) = false := by simpa using p2
              clear p0 p1 p2
              go_upto_region 20 with fail
              obtain ⟨W7, hW7⟩ : ∃ y_, w11 = y_ := ⟨_, rfl⟩
              rw [hW7] at HD ⊢
              clear hW7
              obtain ⟨x, q, hS, hI, hbase⟩ := HD.out.own.intsT (by have := HD.out.len; omega)
              subst hS
              have HI := Lib.hid hI
              have HBS := Lib.hid hbase
              clear hI hbase
              obtain ⟨k0, k1, k2, k3, k4, -⟩ := HD.out.cells
              obtain ⟨x0, x1, x2, x3, x4⟩ := HD.out.x.bx.five
              have u0 := HD.out.x.bx.free 0
              have u1 := HD.out.x.bx.free 1
              have u2 := HD.out.x.bx.free 2
              have u3 := HD.out.x.bx.free 3
              have u4 := HD.out.x.bx.free 4
              go_wp2_with fail
              obtain ⟨⟨e0, e1, e2, e3, e4⟩, hi, hb, hr⟩ := HD.out.fin HI.out HBS.out
              refine bodyPost_ret (v := .agg #[.int .i64 D, .int .i64 m, .int .i64 v, .int .i64 f, .slice x xs.length q]) ?_ rfl ⟨D, m, v, f, x, xs.length, q, xs, rfl, hi, by have := HD.out.len; omega, fun y hy => by have := HBS.out y hy; omega, hb, hr⟩
              simp [results, Try.results94, go_sem, e0, e1, e2, e3, e4]

end Go.Proofs.Ytmnddplkmljeaaa
