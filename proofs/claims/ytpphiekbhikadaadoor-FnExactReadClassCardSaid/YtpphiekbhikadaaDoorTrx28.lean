/- Merged: Trm, Tri. -/
import Derived.Test.YtpphiekbhikadaaDoorTrx23
import Derived.Test.YtpphiekbhikadaaDoorTrx24
import Derived.Test.YtpphiekbhikadaaDoorTrx27

/- Tontines: the class that a text reads as: plain facts; two lists that grow in a class's box. -/
namespace Go.Proofs.YtpphiekbhikadaaDoor
open Go.ChangeShapes Go.WideShapes Go.ChangeAt Go.RowKit
set_option linter.unusedVariables false
set_option linter.unusedSimpArgs false
set_option maxRecDepth 100000

/-- what a signed number's shares are -/
def abW (x : Int) : Int := if x < 0 then IntKind.i64.wrap (-x) else x

theorem min_wraps : IntKind.i64.wrap (9223372036854775808 : Int) = -9223372036854775808 := by decide

theorem min_wraps' : wrap64 (9223372036854775808 : Int) = -9223372036854775808 := by first | rfl | exact min_wraps | (unfold wrap64; decide) | (simp [wrap64])

theorem abW_neg {x : Int} (h0 : -9223372036854775808 ≤ x) (h : x < 0) : IntKind.i64.wrap (-x) = abW x ∧ wrap64 (-x) = abW x := by
  unfold abW
  rw [if_pos h]
  refine ⟨rfl, ?_⟩
  by_cases e : x = -9223372036854775808
  · subst e
    rw [show -(-9223372036854775808 : Int) = 9223372036854775808 by decide, min_wraps, min_wraps']
  · rw [show IntKind.i64.wrap (-x) = -x from IntWalk.i64_in _ (by omega)]
    exact IntWalk.wrap64_in _ (by omega)

theorem abW_pos {x : Int} (h : ¬ x < 0) : abW x = x := by unfold abW; rw [if_neg h]

theorem abW_bd {x : Int} (h0 : -9223372036854775808 ≤ x) (h1 : x ≤ 9223372036854775807) (h : 0 < abW x) : (x < 0 → abW x = -x) ∧ (¬ x < 0 → abW x = x) := by
  refine ⟨fun hx => ?_, abW_pos⟩
  unfold abW at h ⊢
  rw [if_pos hx] at h ⊢
  by_cases e : x = -9223372036854775808
  · subst e
    rw [show -(-9223372036854775808 : Int) = 9223372036854775808 by decide, min_wraps] at h
    omega
  · exact IntWalk.i64_in _ (by omega)

theorem max_abW {x : Int} (h0 : -9223372036854775808 ≤ x) (h1 : x ≤ 9223372036854775807) : max x (IntKind.i64.wrap (-x)) = abW x ∧ max x (wrap64 (-x)) = abW x := by
  by_cases hx : x < 0
  · obtain ⟨e1, e2⟩ := abW_neg h0 hx
    rw [e1, e2]
    have : x ≤ abW x := by
      by_cases e : x = -9223372036854775808
      · subst e
        unfold abW
        rw [if_pos (by omega), show -(-9223372036854775808 : Int) = 9223372036854775808 by decide, min_wraps]
        exact Int.le_refl _
      · rw [← e1, show IntKind.i64.wrap (-x) = -x from IntWalk.i64_in _ (by omega)]; omega
    exact ⟨Int.max_eq_right this, Int.max_eq_right this⟩
  · rw [abW_pos hx, show IntKind.i64.wrap (-x) = -x from IntWalk.i64_in _ (by omega), show wrap64 (-x) = -x from IntWalk.wrap64_in _ (by omega)]
    exact ⟨Int.max_eq_left (by omega), Int.max_eq_left (by omega)⟩

def abL (Y : List Int) : List Int := Y.map abW

/-- who of the first k is dead -/
def ngL (Y : List Int) (k : Nat) : List Int := ((List.range k).filter (fun i => decide (Y.getD i 0 < 0))).map (fun i : Nat => (i : Int))

theorem abL_snoc {Y : List Int} {k : Nat} (h : k < Y.length) : abL (Y.take (k + 1)) = abL (Y.take k) ++ [abW (Y.getD k 0)] := by
  unfold abL
  rw [List.take_add_one, List.getElem?_eq_getElem h, List.getD_eq_getElem?_getD, List.getElem?_eq_getElem h, List.map_append]
  rfl

theorem ngL_neg {Y : List Int} {k : Nat} (h : Y.getD k 0 < 0) : ngL Y (k + 1) = ngL Y k ++ [(k : Int)] := by
  unfold ngL
  rw [List.range_succ, List.filter_append, List.map_append]
  simp only [List.filter_cons, List.filter_nil, h, decide_true, if_true, List.map_cons, List.map_nil]

theorem ngL_pos {Y : List Int} {k : Nat} (h : ¬ Y.getD k 0 < 0) : ngL Y (k + 1) = ngL Y k := by
  unfold ngL
  rw [List.range_succ, List.filter_append, List.map_append]
  simp only [List.filter_cons, List.filter_nil, h, decide_false, if_false, List.map_nil, List.append_nil]
  simp

theorem abL_len (Y : List Int) (k : Nat) : (abL (Y.take k)).length ≤ k := by unfold abL; simp; omega

theorem ngL_len (Y : List Int) (k : Nat) : (ngL Y k).length ≤ k := by
  unfold ngL
  have := List.length_filter_le (fun i => decide (Y.getD i 0 < 0)) (List.range k)
  simp at this ⊢
  exact this

def rcB (F : Int) (Y : List Int) : Bool := tcB (abL Y) (ngL Y Y.length) F

theorem rcB_bd {F : Int} {Y : List Int} (h : rcB F Y = true) (hw : Wide Y) : ∀ x ∈ F :: Y, -1000000000000 ≤ x ∧ x ≤ 1000000000000 := by
  have ht := tc_iff.1 h
  intro x hx
  rcases List.mem_cons.1 hx with rfl | hx
  · have := ht.c0; have := ht.c1; omega
  · obtain ⟨i, hi, rfl⟩ := List.getElem_of_mem hx
    have hb := hw _ hx
    have hs := ht.s _ (show abW Y[i] ∈ abL Y from List.mem_map.2 ⟨_, hx, rfl⟩)
    obtain ⟨a, b⟩ := abW_bd hb.1 hb.2 (by omega)
    by_cases hn : Y[i] < 0
    · have := a hn; omega
    · have := b hn; omega

theorem rcB_len {F : Int} {Y : List Int} (h : rcB F Y = true) : Y.length ≤ 60 ∧ (ngL Y Y.length).length ≤ 60 := by
  have := (tc_iff.1 h).n1
  unfold abL at this
  rw [List.length_map] at this
  exact ⟨this, Nat.le_trans (ngL_len _ _) this⟩

/-! ### the text -/

theorem itoa_plainC (n : Int) : ∀ c ∈ Lib.itoa n, c ≠ 32 := by
  by_cases hn : 0 ≤ n
  · exact itoa_plain n hn
  · obtain ⟨m, rfl⟩ : ∃ m, n = -m := ⟨-n, by omega⟩
    rw [itoa_minus _ (by omega)]
    intro c hc
    rcases List.mem_cons.1 hc with rfl | hc
    · decide
    · exact itoa_plain m (by omega) c hc

theorem sp_jnC (n : Int) (r : List Int) : sp (jn (n :: r)) = (n :: r).map Lib.itoa := by
  rw [jn_jw, sp_jw, List.map_cons]
  intro x hx
  rw [← List.map_cons, List.mem_map] at hx
  obtain ⟨m, hm, rfl⟩ := hx
  exact itoa_plainC m

def rcO (l : List UInt8) : Bool := rnO l && rcB (rnF l) (rnL l)

def scO (l : List UInt8) : Bool := (sp l).all sgO && rcB ((sgs l).getD 0 0) ((sgs l).drop 1)

theorem sgs_wide (l : List UInt8) : Wide (sgs l) := by
  intro x hx
  obtain ⟨w, -, rfl⟩ := List.mem_map.1 hx
  have := sgV_bd w
  omega

theorem wide_drop {Y : List Int} (h : Wide Y) (n : Nat) : Wide (Y.drop n) := fun x hx => h x (List.mem_of_mem_drop hx)

theorem rc_st {l : List UInt8} (h : rcO l = true) : scO l = true ∧ sgs l = rnF l :: rnL l := by
  unfold rcO rnO at h
  rw [Bool.and_eq_true, Bool.and_eq_true] at h
  obtain ⟨⟨h1, h2⟩, h3⟩ := h
  have h2 : jn (rnF l :: rnL l) = l := by simpa using h2
  have hn := rcB_bd h3 (wide_drop (vals_wide _) 1)
  have hs : sp l = (rnF l :: rnL l).map Lib.itoa := by
    rw [← sp_jnC _ _, h2]
  have hg : sgs l = rnF l :: rnL l := by
    unfold sgs
    rw [hs, List.map_map]
    conv => rhs; rw [← List.map_id (rnF l :: rnL l)]
    refine List.map_congr_left fun x hx => ?_
    have := hn x hx
    exact (sg_itoaC x this.1 this.2).2
  refine ⟨?_, hg⟩
  unfold scO
  rw [Bool.and_eq_true]
  refine ⟨?_, ?_⟩
  · rw [hs, List.all_eq_true]
    intro w hw
    obtain ⟨x, hx, rfl⟩ := List.mem_map.1 hw
    have := hn x hx
    exact (sg_itoaC x this.1 this.2).1
  · rw [hg]; exact h3

theorem st_rc {l : List UInt8} (h : scO l = true) : rcO l = true := by
  unfold scO at h
  rw [Bool.and_eq_true] at h
  obtain ⟨h1, h3⟩ := h
  have hn := rcB_bd h3 (wide_drop (sgs_wide l) 1)
  have hc : (sgs l).getD 0 0 :: (sgs l).drop 1 = sgs l := by
    unfold sgs
    cases hs : sp l with
    | nil => exact absurd hs (sp_ne l)
    | cons w ws => simp
  rw [hc] at hn
  rw [List.all_eq_true] at h1
  have hw : ∀ w ∈ sp l, pv w = some (sgV w) := by
    intro w hw
    have e := sgO_itoa (h1 w hw)
    have b := hn (sgV w) (List.mem_map.2 ⟨w, hw, rfl⟩)
    conv => lhs; rw [e]
    exact pv_ok (parse_itoaC _ b.1 b.2)
  have hv : vals (sp l) = sgs l := by
    unfold vals sgs
    exact List.map_congr_left fun w hm => by rw [hw w hm]; rfl
  have e1 : rnF l = (sgs l).getD 0 0 := by unfold rnF; rw [hv]
  have e2 : rnL l = (sgs l).drop 1 := by unfold rnL; rw [hv]
  unfold rcO rnO
  rw [Bool.and_eq_true, Bool.and_eq_true]
  refine ⟨⟨?_, ?_⟩, by rw [e1, e2]; exact h3⟩
  · unfold allP
    rw [List.all_eq_true]
    intro w hm
    rw [hw w hm]; rfl
  · rw [e1, e2, hc, beq_iff_eq]
    have hs : sgs l ≠ [] := by unfold sgs; simp [sp_ne]
    cases hg : sgs l with
    | nil => exact absurd hg hs
    | cons x t =>
      rw [jn_jw, ← List.map_cons, ← hg]
      have : (sgs l).map Lib.itoa = sp l := by
        unfold sgs
        rw [List.map_map]
        conv => rhs; rw [← List.map_id (sp l)]
        exact List.map_congr_left fun w hm => (sgO_itoa (h1 w hm)).symm
      rw [this, jw_sp]

theorem sc_eq (l : List UInt8) : scO l = rcO l := by
  cases h : rcO l with
  | true => exact (rc_st h).1
  | false =>
    cases h2 : scO l with
    | true => rw [st_rc h2] at h; cases h
    | false => rfl

/-- what ReadClass hands over -/
def rrS (l : List UInt8) : List Int := if rcO l = true then abL (rnL l) else []
def rrD (l : List UInt8) : List Int := if rcO l = true then ngL (rnL l) (rnL l).length else []
def rrF (l : List UInt8) : Int := if rcO l = true then rnF l else 0
def rrX (l : List UInt8) : Int := if rcO l = true then 0 else 6

/-! ### the class's box, its lists -/

structure Rdc (w w1 : World) (X : Nat) (v u : Value) (xs ys : List Int) (F : Int) (W : World) : Prop where
  r : Bx W w.heap.size [.slice none 0 0, .slice none 0 0, .int .i64 0]
  o : Bx W X [v, u, .int .i64 F]
  a : OwnI w1.heap.size W v xs
  b : OwnI w1.heap.size W u ys
  ap : ∀ k, v.ownBlock = some k → u.ownBlock ≠ some k
  ax : v.ownBlock ≠ some X
  bx : u.ownBlock ≠ some X
  old : Below w1.heap.size w1 W
  low : Below w.heap.size w W
  x0 : w1.heap.size ≤ X
  w0 : w.heap.size < w1.heap.size

theorem Rdc.up {w w1 : World} {X : Nat} {v u : Value} {xs ys : List Int} {F : Int} {W W' : World} (h : Rdc w w1 X v u xs ys F W) (hb : Below W.heap.size W W') : Rdc w w1 X v u xs ys F W' :=
  ⟨h.r.on hb, h.o.on hb, h.a.on hb, h.b.on hb, h.ap, h.ax, h.bx, h.old.trans (hb.mono h.old.size), h.low.trans (hb.mono h.low.size), h.x0, h.w0⟩

theorem Rdc.drew {w w1 : World} {X : Nat} {v u : Value} {xs ys : List Int} {F : Int} {W : World} (h : Rdc w w1 X v u xs ys F W) : Rdc w w1 X v u xs ys F W.drew := h.up (Below.drew (Below.refl _ _))

theorem own_row {base : Nat} {w w' : World} {v : Value} {xs : List Int} (h : OwnI base w v xs) (hb : ∀ k, v.ownBlock = some k → w'.heap[k]? = w.heap[k]?) : OwnI base w' v xs := by
  obtain ⟨h0, h1 | ⟨g, cap, cur, hv, hg, hh, r⟩⟩ := h
  · exact ⟨h0, .inl h1⟩
  · exact ⟨h0, .inr ⟨g, cap, cur, hv, hg, by rw [hb g (by rw [hv]; rfl)]; exact hh, r⟩⟩

theorem Rdc.appA {w w1 : World} {X : Nat} {v u v' : Value} {xs ys : List Int} {F y : Int} {W W5 : World} (h : Rdc w w1 X v u xs ys F W) (ho : OwnI w1.heap.size W5 v' (xs ++ [y])) (hg : W.grownBy W5 v.ownBlock)
    (hw : v'.ownBlock = v.ownBlock ∨ v'.ownBlock = some W.heap.size) : Bx W5 X [v, u, .int .i64 F] ∧ Rdc w w1 X v' u (xs ++ [y]) ys F (W5.setCell ⟨X, 0, none⟩ v') := by
  have hXl := h.o.lt
  have hx0 := h.x0
  have hw0 := h.w0
  have hwl : w.heap.size < W.heap.size := by omega
  have hbl : ∀ k, v.ownBlock = some k → w1.heap.size ≤ k ∧ k < W.heap.size := fun k e => World.ownsRow.lt h.a k e
  have hX5 : Bx W5 X [v, u, .int .i64 F] := h.o.same (hg.block _ hXl (fun e => h.ax e.symm))
  have hnx : v'.ownBlock ≠ some X := fun e2 => by
    rcases hw with e | e
    · rw [e] at e2; exact h.ax e2
    · rw [e] at e2; cases e2; omega
  have hap : ∀ k, v'.ownBlock = some k → u.ownBlock ≠ some k := fun k h1 h2 => by
    rcases hw with e | e
    · rw [e] at h1; exact h.ap k h1 h2
    · rw [e] at h1; cases h1; have := (World.ownsRow.lt h.b _ h2).2; omega
  have hne : u.ownBlock = none ∨ u.ownBlock ≠ v.ownBlock := by
    cases hv : u.ownBlock with
    | none => exact .inl rfl
    | some k => exact .inr (fun e => h.ap k e.symm hv)
  exact ⟨hX5, ⟨h.r.same ((far_setCell _ _ _ _ (by show w.heap.size ≠ X; omega)).trans (hg.block _ hwl (fun e => by have := (hbl _ e.symm).1; omega))), (hX5.setAt 0 v'), own_row ho (fun k hk => far_setCell _ _ _ _ (by intro e; have e : k = X := e; subst e; exact hnx hk)), own_row (World.ownsRow.kept h.b hg (hne)) (fun k hk => far_setCell _ _ _ _ (by intro e; have e : k = X := e; subst e; exact h.bx hk)), hap, hnx, h.bx, (h.old.grown hg h.old.size (fun k e => (hbl k e).1)).setCell (p := ⟨X, 0, none⟩) h.x0 _, (h.low.grown hg h.low.size (fun k e => by have := (hbl k e).1; omega)).setCell (p := ⟨X, 0, none⟩) (by show w.heap.size ≤ X; omega) _, h.x0, h.w0⟩⟩

theorem Rdc.appB {w w1 : World} {X : Nat} {v u u' : Value} {xs ys : List Int} {F y : Int} {W W5 : World} (h : Rdc w w1 X v u xs ys F W) (ho : OwnI w1.heap.size W5 u' (ys ++ [y])) (hg : W.grownBy W5 u.ownBlock)
    (hw : u'.ownBlock = u.ownBlock ∨ u'.ownBlock = some W.heap.size) : Bx W5 X [v, u, .int .i64 F] ∧ Rdc w w1 X v u' xs (ys ++ [y]) F (W5.setCell ⟨X, 1, none⟩ u') := by
  have hXl := h.o.lt
  have hx0 := h.x0
  have hw0 := h.w0
  have hwl : w.heap.size < W.heap.size := by omega
  have hbl : ∀ k, u.ownBlock = some k → w1.heap.size ≤ k ∧ k < W.heap.size := fun k e => World.ownsRow.lt h.b k e
  have hX5 : Bx W5 X [v, u, .int .i64 F] := h.o.same (hg.block _ hXl (fun e => h.bx e.symm))
  have hnx : u'.ownBlock ≠ some X := fun e2 => by
    rcases hw with e | e
    · rw [e] at e2; exact h.bx e2
    · rw [e] at e2; cases e2; omega
  have hap : ∀ k, v.ownBlock = some k → u'.ownBlock ≠ some k := fun k h1 h2 => by
    rcases hw with e | e
    · rw [e] at h2; exact h.ap k h1 h2
    · rw [e] at h2; cases h2; have := (World.ownsRow.lt h.a _ h1).2; omega
  have hne : v.ownBlock = none ∨ v.ownBlock ≠ u.ownBlock := by
    cases hv : v.ownBlock with
    | none => exact .inl rfl
    | some k => exact .inr (fun e => h.ap k hv e.symm)
  exact ⟨hX5, ⟨h.r.same ((far_setCell _ _ _ _ (by show w.heap.size ≠ X; omega)).trans (hg.block _ hwl (fun e => by have := (hbl _ e.symm).1; omega))), (hX5.setAt 1 u'), own_row (World.ownsRow.kept h.a hg (hne)) (fun k hk => far_setCell _ _ _ _ (by intro e; have e : k = X := e; subst e; exact h.ax hk)), own_row ho (fun k hk => far_setCell _ _ _ _ (by intro e; have e : k = X := e; subst e; exact hnx hk)), hap, h.ax, hnx, (h.old.grown hg h.old.size (fun k e => (hbl k e).1)).setCell (p := ⟨X, 1, none⟩) h.x0 _, (h.low.grown hg h.low.size (fun k e => by have := (hbl k e).1; omega)).setCell (p := ⟨X, 1, none⟩) (by show w.heap.size ≤ X; omega) _, h.x0, h.w0⟩⟩

/-! ### an append onto a list of any length that a text can have, and where it comes to lie -/

theorem append_whereW {w : World} {base : Nat} {v : Value} {xs : List Int} (ad : Addr) (y : Int) (hown : OwnI base w v xs) (hc : ∀ j u, [Value.int .i64 y][j]? = some u → w.cell? (ad.add j) = some u) (hlen : xs.length ≤ 1100000) (hbase : base ≤ w.heap.size)
    (v' : Value) (w' : World) (ty : TypeId) (hr : (Builtin.append_ #[24, 24] ty #[v, .slice (some ad) 1 1]).run Tryd.prog w = .ok v' w') : v'.ownBlock = v.ownBlock ∨ v'.ownBlock = some w.heap.size := by
  obtain ⟨i0, hi, hz0, hz1, hz2⟩ := info_parts infoI
  have hm : maxLen = maxLen := rfl
  unfold maxLen at hm
  have hh := hown
  rcases hown.2 with ⟨rfl, hn⟩ | ⟨g, cap, cur, rfl, hbg, hg, hnc, hcm, hcs, htake⟩
  · right
    have h0 := run_append_nil (P := Tryd.prog) w 24 ty 2 i0 (.int .i64 0) Tryd.underlying24 hi hz0 ad 1 1 [.int .i64 y] (by rw [hz1]; rfl) hc (by omega) (by omega) (by rw [hz2]; omega)
    rw [h0] at hr
    rw [← ok_value hr]; rfl
  · by_cases hroom : xs.length + 1 ≤ cap
    · left
      have h0 := run_append_room (P := Tryd.prog) w 24 ty 2 i0 Tryd.underlying24 hi g xs.length cap cur hg ad 1 1 [.int .i64 y] (by rw [hz1]; rfl) hc (by intro u hu; simp at hu; subst hu; rfl) hroom (by rw [hz1, hcs]; simp; omega)
      rw [h0] at hr
      rw [← ok_value hr]; rfl
    · right
      have holds := World.ownsRow.cells hh (g := g) rfl
      have h0 := run_append_grow (P := Tryd.prog) w 24 ty 2 i0 (.int .i64 0) Tryd.underlying24 hi hz0 ⟨g, 0, none⟩ xs.length cap (xs.map (Value.int .i64)) (by rw [hz1]; simp) holds ad 1 1 [.int .i64 y] (by rw [hz1]; rfl) hc (by omega) (by omega) (growslice_fits (by omega) (by rw [hz2]; omega))
      rw [h0] at hr
      rw [← ok_value hr]; rfl

theorem run_appZ (w : World) (base : Nat) (ty : TypeId) (v : Value) (xs : List Int) (y : Int) (ad : Addr) (hown : OwnI base w v xs) (hc : ∀ j u, [Value.int .i64 y][j]? = some u → w.cell? (ad.add j) = some u) (hlen : xs.length ≤ 1100000) (hbase : base ≤ w.heap.size) :
    ∃ v' w', (Builtin.append_ #[24, 24] ty #[v, .slice (some ad) 1 1]).run Tryd.prog w = .ok v' w' ∧ OwnI base w' v' (xs ++ [y]) ∧ w.grownBy w' v.ownBlock ∧ (v'.ownBlock = v.ownBlock ∨ v'.ownBlock = some w.heap.size) := by
  obtain ⟨i0, hi, hz0, hz1, hz2⟩ := info_parts infoI
  obtain ⟨v', w', hr, h2, h3, h4⟩ := run_append_own (P := Tryd.prog) w base 24 ty 2 i0 (.int .i64 0) 1 8 Tryd.underlying24 hi hz0 hz1 hz2 rfl (by decide) v xs.length (xs.map (Value.int .i64)) hown ad 1 1 [.int .i64 y] rfl hc (by intro u hu; simp at hu; subst hu; rfl) (by unfold maxLen; omega) (by omega) hbase
  refine ⟨v', w', hr, ?_, h3, append_whereW ad y hown hc hlen hbase v' w' ty hr⟩
  unfold OwnI
  rw [List.length_append, List.length_singleton, List.map_append]
  exact h2

theorem wpList_appZ {w : World} {ops : Array Oper} {rest : List Oper} {o : Oper} {a : Act} {Q : Exit → Act → World → Prop} (hgd : o.guard = none) (s x : Operand)
    (ho : o.op = .call { callee := .builtin .append, args := #[s, x], argTypes := #[24, 24] })
    (base : Nat) (v : Value) (xs : List Int) (y : Int) (hs : a.eval s = v) (hown : OwnI base w v xs) (ad : Addr) (hx : a.eval x = .slice (some ad) 1 1) (hc : ∀ j u, [Value.int .i64 y][j]? = some u → w.cell? (ad.add j) = some u)
    (hlen : xs.length ≤ 1100000) (hbase : base ≤ w.heap.size)
    (h : ∀ v' w', OwnI base w' v' (xs ++ [y]) → w.grownBy w' v.ownBlock → (v'.ownBlock = v.ownBlock ∨ v'.ownBlock = some w.heap.size) → wpList Tryd.prog ops Q rest (a.put o.dst v') w') : wpList Tryd.prog ops Q (o :: rest) a w := by
  obtain ⟨v', w', hr, h1, h2, h3⟩ := run_appZ w base o.type v xs y ad hown hc hlen hbase
  refine wpList_plain hgd fun _ hK => ?_
  unfold Oper.wp execOp
  simp only [ho, resolve, invoke, builtin, Sem.run_bind, Sem.run_pure, Result.andThen_ok, List.map_toArray, List.map_cons, List.map_nil, hs, hx, hr]
  exact hK _ _ (h v' w' h1 h2 h3)

theorem step_appZ {w : World} {ops : Array Oper} {o : Oper} {a : Act} {K : Act → World → Prop} {Q : Exit → Act → World → Prop} {E : Prop} (hgd : o.guard = none) (s x : Operand)
    (ho : o.op = .call { callee := .builtin .append, args := #[s, x], argTypes := #[24, 24] })
    (base : Nat) (v : Value) (xs : List Int) (y : Int) (hs : a.eval s = v) (hown : OwnI base w v xs) (ad : Addr) (hx : a.eval x = .slice (some ad) 1 1) (hc : ∀ j u, [Value.int .i64 y][j]? = some u → w.cell? (ad.add j) = some u)
    (hlen : xs.length ≤ 1100000) (hbase : base ≤ w.heap.size)
    (h : ∀ v' w', OwnI base w' v' (xs ++ [y]) → w.grownBy w' v.ownBlock → (v'.ownBlock = v.ownBlock ∨ v'.ownBlock = some w.heap.size) → K (a.put o.dst v') w') :
    if Region.wanted o (yielded ops a.tmps) = true then Oper.wp Tryd.prog o a w K Q else E := by
  obtain ⟨v', w', hr, h1, h2, h3⟩ := run_appZ w base o.type v xs y ad hown hc hlen hbase
  have hw : Region.wanted o (yielded ops a.tmps) = true := by simp [Region.wanted, hgd]
  rw [if_pos hw]
  unfold Oper.wp execOp
  simp only [ho, resolve, invoke, builtin, Sem.run_bind, Sem.run_pure, Result.andThen_ok, List.map_toArray, List.map_cons, List.map_nil, hs, hx, hr]
  exact h v' w' h1 h2 h3

theorem own_nil (base : Nat) (W : World) : OwnI base W (.slice none 0 0) [] := ⟨rfl, .inl ⟨rfl, rfl⟩⟩

theorem own_tbz {base : Nat} {W : World} {a : Option Addr} {n q : Nat} {xs : List Int} (h : OwnI base W (.slice a n q) xs) (hl : xs.length = n) (hm : n ≤ 4096) : TbR base W a n xs := by
  obtain ⟨a', c', hv, ht⟩ := own_tb h (by omega)
  cases hv
  rw [← hl]
  exact ht

theorem Rdc.new {w w1 : World} {F : Int} (r : Bx w1 w.heap.size [.slice none 0 0, .slice none 0 0, .int .i64 0]) (low : Below w.heap.size w w1) (hlt : w.heap.size < w1.heap.size) (T : TypeId) :
    Rdc w w1 w1.heap.size (.slice none 0 0) (.slice none 0 0) [] [] F (w1.alloc (.cells #[.slice none 0 0, .slice none 0 0, .int .i64 F] T)) :=
  ⟨r.on (box_b _ _), Bx.new w1 [.slice none 0 0, .slice none 0 0, .int .i64 F] T, own_nil _ _, own_nil _ _, (fun k h => by cases h), (fun h => by cases h), (fun h => by cases h), box_b _ _, low.trans ((box_b _ _).mono low.size), Nat.le_refl _, hlt⟩

/-- the result is stored -/
theorem Rdc.stored {w w1 : World} {X : Nat} {v u : Value} {xs ys : List Int} {F : Int} {W : World} (h : Rdc w w1 X v u xs ys F W) (p q r : Value) :
    (((W.setCell ⟨w.heap.size, 0, none⟩ p).setCell ⟨w.heap.size, 1, none⟩ q).setCell ⟨w.heap.size, 2, none⟩ r).cell? ⟨w.heap.size, 0, none⟩ = some p ∧
    (((W.setCell ⟨w.heap.size, 0, none⟩ p).setCell ⟨w.heap.size, 1, none⟩ q).setCell ⟨w.heap.size, 2, none⟩ r).cell? ⟨w.heap.size, 1, none⟩ = some q ∧
    (((W.setCell ⟨w.heap.size, 0, none⟩ p).setCell ⟨w.heap.size, 1, none⟩ q).setCell ⟨w.heap.size, 2, none⟩ r).cell? ⟨w.heap.size, 2, none⟩ = some r ∧
    Below w.heap.size w (((W.setCell ⟨w.heap.size, 0, none⟩ p).setCell ⟨w.heap.size, 1, none⟩ q).setCell ⟨w.heap.size, 2, none⟩ r) := by
  obtain ⟨e0, e1, e2⟩ := (sets3_box (p := p) (q := q) (r := r) h.r).threeT
  exact ⟨e0, e1, e2, sets3_below h.low p q r⟩

theorem Rdc.lists {w w1 : World} {X : Nat} {a b : Option Addr} {n c m d : Nat} {xs ys : List Int} {F : Int} {W : World} (h : Rdc w w1 X (.slice a n c) (.slice b m d) xs ys F W) (p q r : Value) (hx : xs.length = n) (hy : ys.length = m) (hn : n ≤ 4096) (hm : m ≤ 4096) :
    TbR w.heap.size (((W.setCell ⟨w.heap.size, 0, none⟩ p).setCell ⟨w.heap.size, 1, none⟩ q).setCell ⟨w.heap.size, 2, none⟩ r) a n xs ∧
    TbR w.heap.size (((W.setCell ⟨w.heap.size, 0, none⟩ p).setCell ⟨w.heap.size, 1, none⟩ q).setCell ⟨w.heap.size, 2, none⟩ r) b m ys ∧ Aprt a b := by
  have hw0 := h.w0
  have e1 := own_row h.a (fun k hk => sets3_far W w.heap.size p q r k (by have := (World.ownsRow.lt h.a k hk).1; omega))
  have e2 := own_row h.b (fun k hk => sets3_far W w.heap.size p q r k (by have := (World.ownsRow.lt h.b k hk).1; omega))
  refine ⟨tb_mono (own_tbz e1 hx hn) (by omega), tb_mono (own_tbz e2 hy hm) (by omega), fun x y h1 h2 => ?_⟩
  subst h1
  subst h2
  intro e
  obtain ⟨g, c1, hv1, -⟩ := own_some h.a (by simp)
  obtain ⟨g2, c2, hv2, -⟩ := own_some h.b (by simp)
  simp only [Value.slice.injEq, Option.some.injEq] at hv1 hv2
  rw [hv1.1, hv2.1] at e
  have e : g = g2 := e
  exact h.ap g (by rw [hv1.1]; rfl) (by rw [hv2.1, e]; rfl)

theorem rr_bad {l : List UInt8} {w w' : World} (h : rcO l = false) (hb : Below w.heap.size w w') : CEPost (rrS l) (rrD l) (rrF l) (rrX l) w (.returned (.tuple #[.agg #[.slice none 0 0, .slice none 0 0, .int .i64 0], .int .i64 6])) w' := by
  unfold rrS rrD rrF rrX
  rw [h]
  exact CEPost.zero hb

theorem rr_good {l : List UInt8} {w w' : World} {a b : Option Addr} {n c m d : Nat} {F : Int} {Y : List Int} (h : rcO l = true) (hF : rnF l = F) (hY : rnL l = Y) (h1 : TbR w.heap.size w' a n (abL Y)) (h2 : TbR w.heap.size w' b m (ngL Y Y.length)) (h3 : Aprt a b) (hb : Below w.heap.size w w') :
    CEPost (rrS l) (rrD l) (rrF l) (rrX l) w (.returned (.tuple #[.agg #[.slice a n c, .slice b m d, .int .i64 F], .int .i64 0])) w' := by
  subst hF
  subst hY
  unfold rrS rrD rrF rrX
  rw [h]
  exact ⟨_, _, _, _, _, _, rfl, h1, h2, h3, hb⟩

end Go.Proofs.YtpphiekbhikadaaDoor

/- Tontines: ReadClass of the program. (Written by wip/gen/tri.py.) -/
namespace Go.Proofs.YtpphiekbhikadaaDoor
open Go.ChangeShapes Go.WideShapes Go.ChangeAt Go.RowKit
set_option linter.unusedVariables false
set_option linter.unusedSimpArgs false
set_option maxRecDepth 100000

set_option maxHeartbeats 4000000 in
theorem ircl_any (s : ByteArray) (w : World) (hs : s.size ≤ 1048576) (ha : AskT w) : Calls Tryd.prog 11 #[.string s] w (CEPost (rrS s.data.toList) (rrD s.data.toList) (rrF s.data.toList) (rrX s.data.toList) w) := by
  have HC0 := Lib.hid (Bx.new w [.slice none 0 0, .slice none 0 0, .int .i64 0] 26)
  have HRN := Lib.hid (rn_any s (w.alloc (.cells #[.slice none 0 0, .slice none 0 0, .int .i64 0] 26)) hs (ha.step (box_b _ _)))
  obtain ⟨l, hl⟩ : ∃ l, s.data.toList = l := ⟨_, rfl⟩
  unfold RnPost at HRN
  rw [hl] at HRN ⊢
  clear hl ha
  go_enter Tryd.func11, Tryd.ntmps11
  go_wp2_with fail
  refine HRN.out.mono ?_
  rintro e w1 ⟨hres, hb1⟩
  obtain ⟨F, a, n, c, Y, ok, rfl, hI, hn, hw, hok, hro⟩ : ∃ F a n c Y ok, e = .returned (.tuple #[.int .i64 F, .slice a n c, .bool ok]) ∧ Ints w1 a n Y ∧ n ≤ 1100000 ∧ Wide Y ∧ (ok = true → rnF l = F ∧ rnL l = Y) ∧ rcO l = (ok && rcB F Y) := by
    rcases hres with ⟨hO, g, off, n, c, rfl, hnc, hn1, hyl, hg, hgl, hr⟩ | ⟨hO, rfl⟩
    · exact ⟨_, _, _, _, rnL l, true, rfl, hr.ints hyl (by omega), hn1, wide_drop (vals_wide _) 1, fun _ => ⟨rfl, rfl⟩, by unfold rcO; rw [hO]⟩
    · exact ⟨0, none, 0, 0, [], false, rfl, ⟨rfl, by omega, .inl rfl⟩, by omega, (fun x hx => by cases hx), (fun h => by cases h), by unfold rcO; rw [hO]; rfl⟩
  have hs1 : w.heap.size < w1.heap.size := by have := hb1.size; simp at this; omega
  have HD0 := Lib.hid (Rdc.new (F := F) (HC0.out.on hb1) ((box_b w _).trans (hb1.mono (by simp))) hs1 26)
  have HI := Lib.hid hI
  have HW := Lib.hid hw
  have HOK := Lib.hid hok
  have HRO := Lib.hid hro
  have HYL := Lib.hid hI.len
  clear hres hb1 hI hw hok hro HRN HC0
  go_wp2_with fail
  go_loopw [20] (fun i wr => ∃ (k : Nat) (v u : Value), k ≤ n ∧ i = .int .i64 k ∧ Hid (Rdc w w1 w1.heap.size v u (abL (Y.take k)) (ngL Y k) F wr)) (fun i _ => n - (intOf i).toNat)
  case atStart => exact ⟨0, _, _, Nat.zero_le _, rfl, HD0⟩
  case round =>
    obtain ⟨k, v, u, hk, rfl, HD⟩ := hrel
    obtain ⟨c0, c1, c2⟩ := HD.out.o.threeT
    have hsz : w1.heap.size < wr.heap.size := HD.out.o.lt
    have hl1 : (abL (Y.take k)).length ≤ 1100000 := Nat.le_trans (abL_len Y k) (by omega)
    have hl2 : (ngL Y k).length ≤ 1100000 := Nat.le_trans (ngL_len Y k) (by omega)
    clear HD0
    by_cases hlt : k < n
    · obtain ⟨b1, o1, rfl, hb1, hc⟩ := (HI.out.on HD.out.old).at (by omega)
      have hx := hc k hlt
      have hxw := HW.out.get k
      have has := abL_snoc (Y := Y) (k := k) (by rw [HYL.out]; exact hlt)
      have hng := ngL_neg (Y := Y) (k := k)
      have hnp := ngL_pos (Y := Y) (k := k)
      obtain ⟨x, hx0⟩ : ∃ y_, Y.getD k 0 = y_ := ⟨_, rfl⟩
      rw [hx0] at hx hxw has hng hnp
      have HAS := Lib.hid has
      have HUP := Lib.hid (HD.out.up (box_b wr (.cells #[.int .i64 (k : Int)] 2)))
      clear hx0 has hc hb1
      by_cases hneg : x < 0
      · obtain ⟨q1, q2⟩ := abW_neg hxw.1 hneg
        have HNG := Lib.hid (hng hneg)
        obtain ⟨z, hz⟩ : ∃ y_, abW x = y_ := ⟨_, rfl⟩
        rw [hz] at q1 q2 HAS
        clear hng hnp hz hxw
        go_wp2_with (at_builtin; go_must (refine wpList_appZ rfl _ _ rfl w1.heap.size u (ngL Y k) (k : Int) rfl HUP.out.b ⟨wr.heap.size, 0, none⟩ rfl (one_newC wr (k : Int)) hl2 (by simp; omega) ?_))
        intro u' w5 hO hg hw
        obtain ⟨a6, e6, hv6, -⟩ := OwnI.ints hO (by simp; omega)
        subst hv6
        obtain ⟨l6, hl6⟩ : ∃ y_, (ngL Y k ++ [(k : Int)]).length = y_ := ⟨_, rfl⟩
        rw [hl6] at hO hw ⊢
        clear hl6
        obtain ⟨X5, D5⟩ := Rdc.appB HUP.out hO hg (by first | exact hw | (rw [World.size_alloc]; exact hw) | (simpa using hw))
        obtain ⟨d0, d1, d2⟩ := X5.threeT
        have f5 := X5.free 1
        have HD5 := Lib.hid D5
        have hs5 : w1.heap.size < (w5.setCell ⟨w1.heap.size, 1, none⟩ (.slice a6 l6 e6)).heap.size := D5.o.lt
        obtain ⟨y0, y1, y2⟩ := D5.o.threeT
        clear X5 D5 hO hg hw c0 c1 c2 HUP hx
        have hone := one_newC (w5.setCell ⟨w1.heap.size, 1, none⟩ (.slice a6 l6 e6)) z
        rw [show (w5.setCell ⟨w1.heap.size, 1, none⟩ (.slice a6 l6 e6)).heap.size = w5.heap.size by simp [World.setCell]] at hone
        go_wp2_with (at_builtin; go_must (refine wpList_appZ rfl _ _ rfl w1.heap.size v (abL (Y.take k)) z rfl (HD5.out.up (box_b _ (.cells #[.int .i64 z] 2))).a ⟨w5.heap.size, 0, none⟩ rfl hone hl1 (by rw [World.size_alloc]; omega) ?_))
        intro v' w7 hO hg hw
        obtain ⟨a7, e7, hv7, -⟩ := OwnI.ints hO (by simp; omega)
        subst hv7
        obtain ⟨l7, hl7⟩ : ∃ y_, (abL (Y.take k) ++ [z]).length = y_ := ⟨_, rfl⟩
        rw [hl7] at hO hw ⊢
        clear hl7
        obtain ⟨X7, D7⟩ := Rdc.appA (HD5.out.up (box_b _ (.cells #[.int .i64 z] 2))) hO hg (by first | exact hw | (rw [World.size_alloc]; exact hw) | (simpa using hw))
        obtain ⟨d0, d1, d2⟩ := X7.threeT
        have f7 := X7.free 0
        have HD7 := Lib.hid D7
        clear X7 D7 hO hg hw y0 y1 y2 f5
        go_wp2_with fail
        go_roundw
        case rel => exact ⟨k + 1, _, _, by omega, by go_num, Lib.hid (by rw [HAS.out, HNG.out]; exact HD7.out)⟩
        case measure => simp [intOf]; omega
      · have hab := abW_pos hneg
        have HNG := Lib.hid (hnp hneg)
        rw [hab] at HAS
        clear hng hnp hab hxw
        have HUP := Lib.hid (HD.out.up (box_b wr (.cells #[.int .i64 x] 2)))
        go_wp2_with (at_builtin; go_must (refine wpList_appZ rfl _ _ rfl w1.heap.size v (abL (Y.take k)) x rfl HUP.out.a ⟨wr.heap.size, 0, none⟩ rfl (one_newC wr x) hl1 (by simp; omega) ?_))
        intro v' w7 hO hg hw
        obtain ⟨a7, e7, hv7, -⟩ := OwnI.ints hO (by simp; omega)
        subst hv7
        obtain ⟨l7, hl7⟩ : ∃ y_, (abL (Y.take k) ++ [x]).length = y_ := ⟨_, rfl⟩
        rw [hl7] at hO hw ⊢
        clear hl7
        obtain ⟨X7, D7⟩ := Rdc.appA HUP.out hO hg (by first | exact hw | (rw [World.size_alloc]; exact hw) | (simpa using hw))
        obtain ⟨d0, d1, d2⟩ := X7.threeT
        have f7 := X7.free 0
        have HD7 := Lib.hid D7
        clear X7 D7 hO hg hw c0 c1 c2 hx
        go_wp2_with fail
        go_roundw
        case rel => exact ⟨k + 1, _, _, by omega, by go_num, Lib.hid (by rw [HAS.out, HNG.out]; exact HD7.out)⟩
        case measure => simp [intOf]; omega
    · clear c0 c1 c2
      obtain rfl : k = n := by omega
      have htk : Y.take k = Y := List.take_of_length_le (by rw [HYL.out]; exact Nat.le_refl _)
      rw [htk] at HD hl1
      obtain ⟨a5, c5, rfl, h5⟩ := HD.out.a.ints (by omega)
      obtain ⟨b5, d5, rfl, g5⟩ := HD.out.b.ints (by omega)
      have CI := Lib.hid (tcI_any (abL Y) (ngL Y k) a5 b5 _ c5 _ d5 F wr h5 g5)
      have hB : tcB (abL Y) (ngL Y k) F = rcB F Y := by unfold rcB; rw [HYL.out]
      rw [hB] at CI
      have HL := Lib.hid (fun h : rcB F Y = true => rcB_len h)
      rw [HYL.out] at HL
      have HAL : Hid ((abL Y).length = k) := Lib.hid (by unfold abL; rw [List.length_map]; exact HYL.out)
      rw [HAL.out] at CI HD hl1 h5
      obtain ⟨m2, hm2⟩ : ∃ y_, (ngL Y k).length = y_ := ⟨_, rfl⟩
      rw [hm2] at CI HD hl2 HL g5
      have HM2 := Lib.hid hm2
      obtain ⟨c0, c1, c2⟩ := HD.out.o.threeT
      (try rw [HAL.out])
      (try rw [hm2])
      obtain ⟨r0, r1, r2⟩ := HD.out.r.threeT
      have z0 := HD.out.r.free 0
      have z1 := HD.out.r.free 1
      have z2 := HD.out.r.free 2
      clear htk hB h5 g5 hm2 HI
      cases ok with
      | false =>
        have HR : Hid (rcO l = false) := HRO
        have hE := Rdc.stored HD.out (.slice none 0 0) (.slice none 0 0) (.int .i64 0)
        obtain ⟨e0, e1, e2, e3⟩ := hE
        have HEB := Lib.hid e3
        clear e3
        go_wp2_with fail
        refine bodyPost_ret (v := .tuple #[.agg #[.slice none 0 0, .slice none 0 0, .int .i64 0], .int .i64 6]) (by simp [results, Tryd.results11, go_sem, e0, e1, e2]) rfl ?_
        exact rr_bad HR.out HEB.out
      | true =>
        obtain ⟨B, hB⟩ : ∃ y_, rcB F Y = y_ := ⟨_, rfl⟩
        rw [hB] at CI HRO HL
        clear hB
        cases B with
        | false =>
          have HR : Hid (rcO l = false) := HRO
          go_wp2_with (go_at_call 20; refine CI.out.mono ?_; rintro e w4 ⟨rfl, hb⟩; have HD4 := Lib.hid (HD.out.up hb); obtain ⟨c0, c1, c2⟩ := HD4.out.o.threeT; obtain ⟨r0, r1, r2⟩ := HD4.out.r.threeT; have z0 := HD4.out.r.free 0; have z1 := HD4.out.r.free 1; have z2 := HD4.out.r.free 2; obtain ⟨e0, e1, e2, e3⟩ := Rdc.stored HD4.out (.slice none 0 0) (.slice none 0 0) (.int .i64 0); have HEB := Lib.hid e3; clear hb e3)
          refine bodyPost_ret (v := .tuple #[.agg #[.slice none 0 0, .slice none 0 0, .int .i64 0], .int .i64 6]) (by simp [results, Tryd.results11, go_sem, e0, e1, e2]) rfl ?_
          exact rr_bad HR.out HEB.out
        | true =>
          have HR : Hid (rcO l = true) := HRO
          obtain ⟨h60, h61⟩ := HL.out rfl
          go_wp2_with (go_at_call 20; refine CI.out.mono ?_; rintro e w4 ⟨rfl, hb⟩; have HD4 := Lib.hid (HD.out.up hb); obtain ⟨c0, c1, c2⟩ := HD4.out.o.threeT; obtain ⟨r0, r1, r2⟩ := HD4.out.r.threeT; have z0 := HD4.out.r.free 0; have z1 := HD4.out.r.free 1; have z2 := HD4.out.r.free 2; obtain ⟨e0, e1, e2, e3⟩ := Rdc.stored HD4.out (.slice a5 k c5) (.slice b5 m2 d5) (.int .i64 F); have HEB := Lib.hid e3; clear hb e3)
          obtain ⟨t1, t2, t3⟩ := Rdc.lists HD4.out (.slice a5 k c5) (.slice b5 m2 d5) (.int .i64 F) HAL.out HM2.out (by omega) (by omega)
          refine bodyPost_ret (v := .tuple #[.agg #[.slice a5 k c5, .slice b5 m2 d5, .int .i64 F], .int .i64 0]) (by simp [results, Tryd.results11, go_sem, e0, e1, e2]) rfl ?_
          exact rr_good HR.out (HOK.out (by simp)).1 (HOK.out (by simp)).2 t1 (by rw [HYL.out]; exact t2) t3 HEB.out

end Go.Proofs.YtpphiekbhikadaaDoor
