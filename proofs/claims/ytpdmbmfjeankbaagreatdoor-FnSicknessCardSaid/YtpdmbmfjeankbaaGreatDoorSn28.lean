/- Merged: SicG. -/
import Derived.Test.YtpdmbmfjeankbaaGreatDoorSn26
import Derived.Deep.Cut
import Derived.Deep.CutRange
import Derived.Deep.CutBlock

/- Sickness: the program's premium of a benefit. (Written by wip/gen/sicg.py.) -/
namespace Go.Proofs.YtpdmbmfjeankbaaGreatDoor
open Go.ChangeShapes Go.WideShapes Go.ChangeAt Go.RowKit
set_option linter.unusedVariables false
set_option linter.unusedSimpArgs false
set_option maxRecDepth 100000

theorem Q4.on9 {w w' : World} {B : Nat} {a b c d : Int} (h : Q4 w B a b c d) (hb : Below w.heap.size w w') : Q4 w' B a b c d := h.same (hb.block _ h.lt)

/-- what the reckoning of a premium keeps -/
structure PB (w : World) (R : Nat) (x n : Int) (W : World) : Prop where
  k0 : W.cell? ⟨w.heap.size, 0, none⟩ = some (.pointer (some ⟨R, 0, none⟩))
  k3 : W.cell? ⟨w.heap.size, 3, none⟩ = some (.int .i64 x)
  k4 : W.cell? ⟨w.heap.size, 4, none⟩ = some (.int .i64 n)
  low : Below w.heap.size w W
  sz : w.heap.size < W.heap.size

theorem PB.on {w : World} {R : Nat} {x n : Int} {W W' : World} (h : PB w R x n W) (hb : Below W.heap.size W W') : PB w R x n W' :=
  ⟨keep2 hb h.k0, keep2 hb h.k3, keep2 hb h.k4, h.low.trans (hb.mono h.low.size), Nat.lt_of_lt_of_le h.sz hb.size⟩

theorem PB.drew {w : World} {R : Nat} {x n : Int} {W : World} (h : PB w R x n W) : PB w R x n W.drew := h.on (Below.drew (Below.refl _ _))

theorem PB.new (w : World) (R : Nat) (g : Int) (b : Option Addr) (m d : Nat) (x n : Int) (T : TypeId) : PB w R x n (w.alloc (.cells #[.pointer (some ⟨R, 0, none⟩), .int .i64 g, .slice b m d, .int .i64 x, .int .i64 n] T)) := by
  have h := (Bx.new w [.pointer (some ⟨R, 0, none⟩), .int .i64 g, .slice b m d, .int .i64 x, .int .i64 n] T).five
  exact ⟨h.1, h.2.2.2.1, h.2.2.2.2, box_b _ _, by simp⟩

theorem PB.put4 {w : World} {R : Nat} {x n : Int} {W : World} {N : Nat} (h : PB w R x n W) (a b c d : Int) (hN : w.heap.size < N) : PB w R x n (s4 W N 0 1 2 3 a b c d) := by
  have far := s4_far W N 0 1 2 3 a b c d w.heap.size (by omega)
  have hl : Below w.heap.size w (s4 W N 0 1 2 3 a b c d) := (((h.low.setCell (p := ⟨N, 0, none⟩) (by show w.heap.size ≤ N; omega) _).setCell (p := ⟨N, 1, none⟩) (by show w.heap.size ≤ N; omega) _).setCell (p := ⟨N, 2, none⟩) (by show w.heap.size ≤ N; omega) _).setCell (p := ⟨N, 3, none⟩) (by show w.heap.size ≤ N; omega) _
  exact ⟨(World.cell?_of_block (w := W) (a := ⟨w.heap.size, 0, none⟩) far).trans h.k0, (World.cell?_of_block (w := W) (a := ⟨w.heap.size, 3, none⟩) far).trans h.k3, (World.cell?_of_block (w := W) (a := ⟨w.heap.size, 4, none⟩) far).trans h.k4, hl, by have := h.sz; simpa [World.setCell] using this⟩

theorem pbS {w : World} {R : Nat} {x n : Int} {W : World} (h : PB w R x n W) :
    W.cell? ⟨w.heap.size, 0, none⟩ = some (.pointer (some ⟨R, 0, none⟩)) ∧ W.cell? ⟨w.heap.size, 3, none⟩ = some (.int .i64 x) ∧ W.cell? ⟨w.heap.size, 4, none⟩ = some (.int .i64 n) := ⟨h.k0, h.k3, h.k4⟩

set_option maxHeartbeats 20000000 in
theorem ipre_any (r f : Int) (xs : List Int) (v : Value) (R : Nat) (g : Int) (ys : List Int) (b : Option Addr) (m d : Nat) (x n q : Int) (w : World) (h : Cols w R r f xs v) (hs : SkIn r f xs g ys x n q) :
    Calls Tryz.prog 27 #[scv R g b m d x n, .int .i64 (svS r f xs g ys x q n.toNat)] w fun e w' => e = .returned (.int .i64 (upV (svS r f xs g ys x q n.toNat) (cD r xs (x - f).toNat) (cN r xs (x - f).toNat - cN r xs (x + n - f).toNat))) ∧ Below w.heap.size w w' := by
  have x0 := hs.x0
  have xn := hs.xn
  have n0 := hs.n0
  have n1 := hs.n1
  obtain ⟨f0, f1⟩ := hs.lt.1
  have H1 : Hid (∀ W, Hid (PB w R x n W) → Calls Tryz.prog 45 #[.pointer (some ⟨R, 2, none⟩), .int .i64 x] W fun e w' => e = .returned (.agg #[.int .i64 (cD r xs (x - f).toNat), .int .i64 (cN r xs (x - f).toNat), .int .i64 (cC r xs (x - f).toNat), .int .i64 (cM r xs (x - f).toNat)]) ∧ Below W.heap.size W w') :=
    Lib.hid (fun W hW => at_cols r f xs v R x W (h.on hW.out.low) f0 x0 (by omega))
  have H2 : Hid (∀ W, Hid (PB w R x n W) → Calls Tryz.prog 45 #[.pointer (some ⟨R, 2, none⟩), .int .i64 (x + n)] W fun e w' => e = .returned (.agg #[.int .i64 (cD r xs (x + n - f).toNat), .int .i64 (cN r xs (x + n - f).toNat), .int .i64 (cC r xs (x + n - f).toNat), .int .i64 (cM r xs (x + n - f).toNat)]) ∧ Below W.heap.size W w') :=
    Lib.hid (fun W hW => at_cols r f xs v R (x + n) W (h.on hW.out.low) f0 (by omega) xn)
  obtain ⟨S, A, B, B', e1, e2, e3, e4, b1, b2, b3, b4, b5, b6, b7, b8, b9, b10⟩ := hs.prem
  obtain ⟨C, hC⟩ : ∃ y_, cC r xs (x - f).toNat = y_ := ⟨_, rfl⟩
  obtain ⟨D, hD⟩ : ∃ y_, cM r xs (x - f).toNat = y_ := ⟨_, rfl⟩
  obtain ⟨A', hA'⟩ : ∃ y_, cD r xs (x + n - f).toNat = y_ := ⟨_, rfl⟩
  obtain ⟨C', hC'⟩ : ∃ y_, cC r xs (x + n - f).toNat = y_ := ⟨_, rfl⟩
  obtain ⟨D', hD'⟩ : ∃ y_, cM r xs (x + n - f).toNat = y_ := ⟨_, rfl⟩
  rw [e2, e3, hC, hD] at H1
  rw [hA', e4, hC', hD'] at H2
  rw [e1, e2, e3, e4]
  have CU := Lib.hid (fun W => tu_any S A (B - B') W b1 (by omega) (by omega) (by omega) b9 (by omega) (by omega))
  obtain ⟨U, hU⟩ : ∃ y_, upV S A (B - B') = y_ := ⟨_, rfl⟩
  rw [hU] at CU ⊢
  have HP : Hid (PB w R x n (w.alloc (.cells #[.pointer (some ⟨R, 0, none⟩), .int .i64 g, .slice b m d, .int .i64 x, .int .i64 n] 49)).drew) := Lib.hid (PB.new w R g b m d x n 49).drew
  have r1 : IntKind.i64.wrap (x + n) = x + n := IntWalk.i64_in _ (by omega)
  have r2 : IntKind.i64.wrap (B - B') = B - B' := IntWalk.i64_in _ (by omega)
  unfold scv
  clear h hs e1 e2 e3 e4 hC hD hA' hC' hD' hU b10
  go_enter Tryz.func27, Tryz.ntmps27
  go_upto_region 1 with fail
  go_cut [5, 6] from 7 to 23 (fun p q wx => ∃ N5 N6, p = .pointer (some ⟨N5, 0, none⟩) ∧ q = .pointer (some ⟨N6, 0, none⟩) ∧ Hid (Q4 wx N5 A B C D ∧ Q4 wx N6 A' B' C' D' ∧ PB w R x n wx))
  case first =>
    obtain ⟨W0, hW0⟩ : ∃ y_, w.alloc (.cells #[.pointer (some ⟨R, 0, none⟩), .int .i64 g, .slice b m d, .int .i64 x, .int .i64 n] 49) = y_ := ⟨_, rfl⟩
    rw [hW0] at HP ⊢
    clear hW0
    refine wp_region_held_drew (S := fun w' => w'.cell? ⟨w.heap.size, 0, none⟩ = some (.pointer (some ⟨R, 0, none⟩)) ∧ w'.cell? ⟨w.heap.size, 3, none⟩ = some (.int .i64 x) ∧ w'.cell? ⟨w.heap.size, 4, none⟩ = some (.int .i64 n)) (by kernel_rfl) (pbS HP.out) (fun hHeld => ?_)
    refine wpAnyH_take (i := 0) (v := ?_) rfl (by kernel_rfl) (by kernel_rfl) (by kernel_rfl) (fun _ _ _ h => h) (Or.inl ⟨by rfl, ?_⟩) (by assumption) ?_
    rotate_left
    · (intro w hSw; (try dsimp only at hSw); go_simp; try with_reducible rfl)
    try simp only [Act.put, List.setIfInBounds_toArray, List.set_cons_zero, List.set_cons_succ]
    refine wpAnyH_take (i := 1) (v := ?_) rfl (by kernel_rfl) (by kernel_rfl) (by kernel_rfl) (fun _ _ _ h => h) (Or.inl ⟨by rfl, ?_⟩) (by assumption) ?_
    rotate_left
    · (intro w hSw; (try dsimp only at hSw); go_simp; try with_reducible rfl)
    try simp only [Act.put, List.setIfInBounds_toArray, List.set_cons_zero, List.set_cons_succ]
    refine wpAnyH_take (i := 2) (v := ?_) rfl (by kernel_rfl) (by kernel_rfl) (by kernel_rfl) (fun _ _ _ h => h) (Or.inl ⟨by rfl, ?_⟩) (by assumption) ?_
    rotate_left
    · (intro w hSw; (try dsimp only at hSw); go_simp; try with_reducible rfl)
    try simp only [Act.put, List.setIfInBounds_toArray, List.set_cons_zero, List.set_cons_succ]
    refine wpAnyH_take (i := 3) (v := ?_) rfl (by kernel_rfl) (by kernel_rfl) (by kernel_rfl) (fun _ _ _ h => h) (Or.inl ⟨by rfl, ?_⟩) (by assumption) ?_
    rotate_left
    · (intro w hSw; (try dsimp only at hSw); go_simp; try with_reducible rfl)
    try simp only [Act.put, List.setIfInBounds_toArray, List.set_cons_zero, List.set_cons_succ]
    refine wpAnyH_take (i := 4) (v := ?_) rfl (by kernel_rfl) (by kernel_rfl) (by kernel_rfl) (fun _ _ _ h => h) (Or.inl ⟨by rfl, ?_⟩) (by assumption) ?_
    rotate_left
    · (intro w hSw; (try dsimp only at hSw); go_simp; try with_reducible rfl)
    try simp only [Act.put, List.setIfInBounds_toArray, List.set_cons_zero, List.set_cons_succ]
    refine wpAnyH_take (i := 5) (v := ?_) rfl (by kernel_rfl) (by kernel_rfl) (by kernel_rfl) (fun _ _ _ h => h) (Or.inl ⟨by rfl, ?_⟩) (by assumption) ?_
    rotate_left
    · (intro w hSw; (try dsimp only at hSw); go_simp; try with_reducible rfl)
    try simp only [Act.put, List.setIfInBounds_toArray, List.set_cons_zero, List.set_cons_succ]
    refine wpAnyH_take (i := 7) (v := ?_) rfl (by kernel_rfl) (by kernel_rfl) (by kernel_rfl) (fun _ _ _ h => h) (Or.inl ⟨by rfl, ?_⟩) (by assumption) ?_
    rotate_left
    · (intro w hSw; (try dsimp only at hSw); go_simp; try with_reducible rfl)
    try simp only [Act.put, List.setIfInBounds_toArray, List.set_cons_zero, List.set_cons_succ]
    refine wpAnyH_take (i := 8) (v := ?_) rfl (by kernel_rfl) (by kernel_rfl) (by kernel_rfl) (fun _ _ _ h => h) (Or.inl ⟨by rfl, ?_⟩) (by assumption) ?_
    rotate_left
    · (intro w hSw; (try dsimp only at hSw); go_simp; try with_reducible rfl)
    try simp only [Act.put, List.setIfInBounds_toArray, List.set_cons_zero, List.set_cons_succ]
    refine wpAnyH_take (i := 9) (v := ?_) rfl (by kernel_rfl) (by kernel_rfl) (by kernel_rfl) (fun _ _ _ h => h) (Or.inl ⟨by rfl, ?_⟩) (by assumption) ?_
    rotate_left
    · (intro w hSw; (try dsimp only at hSw); go_simp; try with_reducible rfl)
    try simp only [Act.put, List.setIfInBounds_toArray, List.set_cons_zero, List.set_cons_succ]
    refine wpAnyH_take (i := 10) (v := ?_) rfl (by kernel_rfl) (by kernel_rfl) (by kernel_rfl) (fun _ _ _ h => h) (Or.inl ⟨by rfl, ?_⟩) (by assumption) ?_
    rotate_left
    · (intro w hSw; (try dsimp only at hSw); go_simp; try with_reducible rfl)
    try simp only [Act.put, List.setIfInBounds_toArray, List.set_cons_zero, List.set_cons_succ]
    refine wpAnyH_take (i := 11) (v := ?_) rfl (by kernel_rfl) (by kernel_rfl) (by kernel_rfl) (fun _ _ _ h => h) (Or.inl ⟨by rfl, ?_⟩) (by assumption) ?_
    rotate_left
    · (intro w hSw; (try dsimp only at hSw); go_simp; try with_reducible rfl)
    try simp only [Act.put, List.setIfInBounds_toArray, List.set_cons_zero, List.set_cons_succ]
    refine wpAnyH_take (i := 12) (v := ?_) rfl (by kernel_rfl) (by kernel_rfl) (by kernel_rfl) (fun _ _ _ h => h) (Or.inl ⟨by rfl, ?_⟩) (by assumption) ?_
    rotate_left
    · (intro w hSw; (try dsimp only at hSw); go_simp; try with_reducible rfl)
    try simp only [Act.put, List.setIfInBounds_toArray, List.set_cons_zero, List.set_cons_succ]
    refine wpAnyH_take (i := 13) (v := ?_) rfl (by kernel_rfl) (by kernel_rfl) (by kernel_rfl) (fun _ _ _ h => h) (Or.inl ⟨by rfl, ?_⟩) (by assumption) ?_
    rotate_left
    · (intro w hSw; (try dsimp only at hSw); go_simp; try with_reducible rfl)
    try simp only [Act.put, List.setIfInBounds_toArray, List.set_cons_zero, List.set_cons_succ]
    refine wpAnyH_take (i := 14) (v := ?_) rfl (by kernel_rfl) (by kernel_rfl) (by kernel_rfl) (fun _ _ _ h => h) (Or.inl ⟨by rfl, ?_⟩) (by assumption) ?_
    rotate_left
    · (intro w hSw; (try dsimp only at hSw); go_simp; try with_reducible rfl)
    try simp only [Act.put, List.setIfInBounds_toArray, List.set_cons_zero, List.set_cons_succ]
    refine wpAnyH_take (i := 15) (v := ?_) rfl (by kernel_rfl) (by kernel_rfl) (by kernel_rfl) (fun _ _ _ h => h) (Or.inl ⟨by rfl, ?_⟩) (by assumption) ?_
    rotate_left
    · (intro w hSw; (try dsimp only at hSw); go_simp; try with_reducible rfl)
    try simp only [Act.put, List.setIfInBounds_toArray, List.set_cons_zero, List.set_cons_succ]
    clear hHeld
    refine wpAnyH_ready (rs := [6, 17, 18]) (by kernel_rfl) (by simp) ?_
    refine AllReadyH.cons (o := _) rfl (fun K hK => ?_) ?_
    · simp only [List.getElem_toArray, List.getElem_cons_succ, List.getElem_cons_zero]
      go_simp
      with_reducible refine (H1.out _ HP).mono ?_
      rintro e v1 ⟨rfl, hb⟩
      replace HP := Lib.hid (HP.out.on hb)
      refine hK.out _ _ ?_ (fun _ => ?_)
      · exact pbS HP.out
      clear hK K hb
      try simp only [Act.put, List.setIfInBounds_toArray, List.set_cons_zero, List.set_cons_succ]
      refine wpAnyH_ready (rs := [16, 17, 18]) (by kernel_rfl) (by simp) ?_
      refine AllReadyH.cons (o := _) rfl (fun K hK => ?_) ?_
      · simp only [List.getElem_toArray, List.getElem_cons_succ, List.getElem_cons_zero]
        go_simp
        with_reducible refine (H2.out _ HP).mono ?_
        rintro e v2 ⟨rfl, hb⟩
        replace HP := Lib.hid (HP.out.on hb)
        refine hK.out _ _ ?_ (fun _ => ?_)
        · exact pbS HP.out
        clear hK K hb
        try simp only [Act.put, List.setIfInBounds_toArray, List.set_cons_zero, List.set_cons_succ]
        refine wpAnyH_ready (rs := [17, 18]) (by kernel_rfl) (by simp) ?_
        refine AllReadyH.cons (o := _) rfl (fun K hK => ?_) ?_
        · simp only [List.getElem_toArray, List.getElem_cons_succ, List.getElem_cons_zero]
          go_simp
          obtain ⟨v3, hv3⟩ : ∃ y_, (v2.alloc (.cells #[.int .i64 0, .int .i64 0, .int .i64 0, .int .i64 0] 74)) = y_ := ⟨_, rfl⟩
          obtain ⟨N5, hN5⟩ : ∃ y_, v2.heap.size = y_ := ⟨_, rfl⟩
          have HQ5 : Hid (Q4 v3 N5 0 0 0 0) := Lib.hid (by rw [← hv3, ← hN5]; exact q4_new v2 0 0 0 0)
          have l5 : w.heap.size < N5 := by rw [← hN5]; exact HP.out.sz
          have hbx : Below v2.heap.size v2 (v2.alloc (.cells #[.int .i64 0, .int .i64 0, .int .i64 0, .int .i64 0] 74)) := box_b v2 (.cells #[.int .i64 0, .int .i64 0, .int .i64 0, .int .i64 0] 74)
          rw [hv3] at hbx
          replace HP := Lib.hid (HP.out.on hbx)
          rw [hv3, hN5]
          refine hK.out _ _ ?_ (fun _ => ?_)
          · exact pbS HP.out
          clear hK K hbx hv3 hN5
          try simp only [Act.put, List.setIfInBounds_toArray, List.set_cons_zero, List.set_cons_succ]
          refine wpAnyH_ready (rs := [18]) (by kernel_rfl) (by simp) ?_
          refine AllReadyH.cons (o := _) rfl (fun K hK => ?_) ?_
          · simp only [List.getElem_toArray, List.getElem_cons_succ, List.getElem_cons_zero]
            go_simp
            obtain ⟨v4, hv4⟩ : ∃ y_, (v3.alloc (.cells #[.int .i64 0, .int .i64 0, .int .i64 0, .int .i64 0] 74)) = y_ := ⟨_, rfl⟩
            obtain ⟨N6, hN6⟩ : ∃ y_, v3.heap.size = y_ := ⟨_, rfl⟩
            have HQ6 : Hid (Q4 v4 N6 0 0 0 0) := Lib.hid (by rw [← hv4, ← hN6]; exact q4_new v3 0 0 0 0)
            have l6 : w.heap.size < N6 := by rw [← hN6]; exact HP.out.sz
            have hbx : Below v3.heap.size v3 (v3.alloc (.cells #[.int .i64 0, .int .i64 0, .int .i64 0, .int .i64 0] 74)) := box_b v3 (.cells #[.int .i64 0, .int .i64 0, .int .i64 0, .int .i64 0] 74)
            rw [hv4] at hbx
            have nn : N5 < N6 := by rw [← hN6]; exact HQ5.out.lt
            replace HQ5 := Lib.hid (HQ5.out.on9 hbx)
            replace HP := Lib.hid (HP.out.on hbx)
            rw [hv4, hN6]
            refine hK.out _ _ ?_ (fun _ => ?_)
            · exact pbS HP.out
            clear hK K hbx hv4 hN6
            try simp only [Act.put, List.setIfInBounds_toArray, List.set_cons_zero, List.set_cons_succ]
            refine wpAnyH_ready (rs := [19]) (by kernel_rfl) (by simp) ?_
            refine AllReadyH.cons (o := _) rfl (fun K hK => ?_) AllReadyH.nil
            obtain ⟨a0, a1, a2, a3⟩ := HQ5.out.cell
            have z0 := HQ5.out.free 0
            have z1 := HQ5.out.free 1
            have z2 := HQ5.out.free 2
            have z3 := HQ5.out.free 3
            have hp := HP.out.put4 A B C D l5
            have hq := HQ5.out.s4 A B C D
            have ho := HQ6.out.same (s4_far v4 N5 0 1 2 3 A B C D N6 (by omega))
            simp only [List.getElem_toArray, List.getElem_cons_succ, List.getElem_cons_zero]
            go_simp
            refine hK.out _ _ ?_ (fun _ => ?_)
            · exact pbS hp
            clear hK K a0 a1 a2 a3 z0 z1 z2 z3
            try simp only [Act.put, List.setIfInBounds_toArray, List.set_cons_zero, List.set_cons_succ]
            replace HP := Lib.hid hp
            replace HQ5 := Lib.hid hq
            replace HQ6 := Lib.hid ho
            clear hp hq ho
            refine wpAnyH_ready (rs := [20]) (by kernel_rfl) (by simp) ?_
            refine AllReadyH.cons (o := _) rfl (fun K hK => ?_) AllReadyH.nil
            obtain ⟨a0, a1, a2, a3⟩ := HQ6.out.cell
            have z0 := HQ6.out.free 0
            have z1 := HQ6.out.free 1
            have z2 := HQ6.out.free 2
            have z3 := HQ6.out.free 3
            have hp := HP.out.put4 A' B' C' D' l6
            have hq := HQ6.out.s4 A' B' C' D'
            have ho := HQ5.out.same (s4_far _ N6 0 1 2 3 A' B' C' D' N5 (by omega))
            simp only [List.getElem_toArray, List.getElem_cons_succ, List.getElem_cons_zero]
            go_simp
            refine hK.out _ _ ?_ (fun _ => ?_)
            · exact pbS hp
            clear hK K a0 a1 a2 a3 z0 z1 z2 z3
            try simp only [Act.put, List.setIfInBounds_toArray, List.set_cons_zero, List.set_cons_succ]
            replace HP := Lib.hid hp
            replace HQ6 := Lib.hid hq
            replace HQ5 := Lib.hid ho
            clear hp hq ho
            refine wpAnyH_done (by kernel_rfl) ?_ _
            try simp only [List.getElem_toArray, List.getElem_cons_succ, List.getElem_cons_zero, List.setIfInBounds_toArray, List.set_cons_zero, List.set_cons_succ]
            go_wp2_with fail
            go_meet
            case rel => exact ⟨N5, N6, rfl, rfl, Lib.hid ⟨HQ5.out, HQ6.out, HP.out⟩⟩
          exact AllReadyH.nil
        refine AllReadyH.cons (o := _) rfl (fun K hK => ?_) ?_
        · simp only [List.getElem_toArray, List.getElem_cons_succ, List.getElem_cons_zero]
          go_simp
          obtain ⟨v3, hv3⟩ : ∃ y_, (v2.alloc (.cells #[.int .i64 0, .int .i64 0, .int .i64 0, .int .i64 0] 74)) = y_ := ⟨_, rfl⟩
          obtain ⟨N6, hN6⟩ : ∃ y_, v2.heap.size = y_ := ⟨_, rfl⟩
          have HQ6 : Hid (Q4 v3 N6 0 0 0 0) := Lib.hid (by rw [← hv3, ← hN6]; exact q4_new v2 0 0 0 0)
          have l6 : w.heap.size < N6 := by rw [← hN6]; exact HP.out.sz
          have hbx : Below v2.heap.size v2 (v2.alloc (.cells #[.int .i64 0, .int .i64 0, .int .i64 0, .int .i64 0] 74)) := box_b v2 (.cells #[.int .i64 0, .int .i64 0, .int .i64 0, .int .i64 0] 74)
          rw [hv3] at hbx
          replace HP := Lib.hid (HP.out.on hbx)
          rw [hv3, hN6]
          refine hK.out _ _ ?_ (fun _ => ?_)
          · exact pbS HP.out
          clear hK K hbx hv3 hN6
          try simp only [Act.put, List.setIfInBounds_toArray, List.set_cons_zero, List.set_cons_succ]
          refine wpAnyH_ready (rs := [17]) (by kernel_rfl) (by simp) ?_
          refine AllReadyH.cons (o := _) rfl (fun K hK => ?_) ?_
          · simp only [List.getElem_toArray, List.getElem_cons_succ, List.getElem_cons_zero]
            go_simp
            obtain ⟨v4, hv4⟩ : ∃ y_, (v3.alloc (.cells #[.int .i64 0, .int .i64 0, .int .i64 0, .int .i64 0] 74)) = y_ := ⟨_, rfl⟩
            obtain ⟨N5, hN5⟩ : ∃ y_, v3.heap.size = y_ := ⟨_, rfl⟩
            have HQ5 : Hid (Q4 v4 N5 0 0 0 0) := Lib.hid (by rw [← hv4, ← hN5]; exact q4_new v3 0 0 0 0)
            have l5 : w.heap.size < N5 := by rw [← hN5]; exact HP.out.sz
            have hbx : Below v3.heap.size v3 (v3.alloc (.cells #[.int .i64 0, .int .i64 0, .int .i64 0, .int .i64 0] 74)) := box_b v3 (.cells #[.int .i64 0, .int .i64 0, .int .i64 0, .int .i64 0] 74)
            rw [hv4] at hbx
            have nn : N6 < N5 := by rw [← hN5]; exact HQ6.out.lt
            replace HQ6 := Lib.hid (HQ6.out.on9 hbx)
            replace HP := Lib.hid (HP.out.on hbx)
            rw [hv4, hN5]
            refine hK.out _ _ ?_ (fun _ => ?_)
            · exact pbS HP.out
            clear hK K hbx hv4 hN5
            try simp only [Act.put, List.setIfInBounds_toArray, List.set_cons_zero, List.set_cons_succ]
            refine wpAnyH_ready (rs := [19]) (by kernel_rfl) (by simp) ?_
            refine AllReadyH.cons (o := _) rfl (fun K hK => ?_) AllReadyH.nil
            obtain ⟨a0, a1, a2, a3⟩ := HQ5.out.cell
            have z0 := HQ5.out.free 0
            have z1 := HQ5.out.free 1
            have z2 := HQ5.out.free 2
            have z3 := HQ5.out.free 3
            have hp := HP.out.put4 A B C D l5
            have hq := HQ5.out.s4 A B C D
            have ho := HQ6.out.same (s4_far v4 N5 0 1 2 3 A B C D N6 (by omega))
            simp only [List.getElem_toArray, List.getElem_cons_succ, List.getElem_cons_zero]
            go_simp
            refine hK.out _ _ ?_ (fun _ => ?_)
            · exact pbS hp
            clear hK K a0 a1 a2 a3 z0 z1 z2 z3
            try simp only [Act.put, List.setIfInBounds_toArray, List.set_cons_zero, List.set_cons_succ]
            replace HP := Lib.hid hp
            replace HQ5 := Lib.hid hq
            replace HQ6 := Lib.hid ho
            clear hp hq ho
            refine wpAnyH_ready (rs := [20]) (by kernel_rfl) (by simp) ?_
            refine AllReadyH.cons (o := _) rfl (fun K hK => ?_) AllReadyH.nil
            obtain ⟨a0, a1, a2, a3⟩ := HQ6.out.cell
            have z0 := HQ6.out.free 0
            have z1 := HQ6.out.free 1
            have z2 := HQ6.out.free 2
            have z3 := HQ6.out.free 3
            have hp := HP.out.put4 A' B' C' D' l6
            have hq := HQ6.out.s4 A' B' C' D'
            have ho := HQ5.out.same (s4_far _ N6 0 1 2 3 A' B' C' D' N5 (by omega))
            simp only [List.getElem_toArray, List.getElem_cons_succ, List.getElem_cons_zero]
            go_simp
            refine hK.out _ _ ?_ (fun _ => ?_)
            · exact pbS hp
            clear hK K a0 a1 a2 a3 z0 z1 z2 z3
            try simp only [Act.put, List.setIfInBounds_toArray, List.set_cons_zero, List.set_cons_succ]
            replace HP := Lib.hid hp
            replace HQ6 := Lib.hid hq
            replace HQ5 := Lib.hid ho
            clear hp hq ho
            refine wpAnyH_done (by kernel_rfl) ?_ _
            try simp only [List.getElem_toArray, List.getElem_cons_succ, List.getElem_cons_zero, List.setIfInBounds_toArray, List.set_cons_zero, List.set_cons_succ]
            go_wp2_with fail
            go_meet
            case rel => exact ⟨N5, N6, rfl, rfl, Lib.hid ⟨HQ5.out, HQ6.out, HP.out⟩⟩
          exact AllReadyH.nil
        exact AllReadyH.nil
      refine AllReadyH.cons (o := _) rfl (fun K hK => ?_) ?_
      · simp only [List.getElem_toArray, List.getElem_cons_succ, List.getElem_cons_zero]
        go_simp
        obtain ⟨v2, hv2⟩ : ∃ y_, (v1.alloc (.cells #[.int .i64 0, .int .i64 0, .int .i64 0, .int .i64 0] 74)) = y_ := ⟨_, rfl⟩
        obtain ⟨N5, hN5⟩ : ∃ y_, v1.heap.size = y_ := ⟨_, rfl⟩
        have HQ5 : Hid (Q4 v2 N5 0 0 0 0) := Lib.hid (by rw [← hv2, ← hN5]; exact q4_new v1 0 0 0 0)
        have l5 : w.heap.size < N5 := by rw [← hN5]; exact HP.out.sz
        have hbx : Below v1.heap.size v1 (v1.alloc (.cells #[.int .i64 0, .int .i64 0, .int .i64 0, .int .i64 0] 74)) := box_b v1 (.cells #[.int .i64 0, .int .i64 0, .int .i64 0, .int .i64 0] 74)
        rw [hv2] at hbx
        replace HP := Lib.hid (HP.out.on hbx)
        rw [hv2, hN5]
        refine hK.out _ _ ?_ (fun _ => ?_)
        · exact pbS HP.out
        clear hK K hbx hv2 hN5
        try simp only [Act.put, List.setIfInBounds_toArray, List.set_cons_zero, List.set_cons_succ]
        refine wpAnyH_ready (rs := [16, 18]) (by kernel_rfl) (by simp) ?_
        refine AllReadyH.cons (o := _) rfl (fun K hK => ?_) ?_
        · simp only [List.getElem_toArray, List.getElem_cons_succ, List.getElem_cons_zero]
          go_simp
          with_reducible refine (H2.out _ HP).mono ?_
          rintro e v3 ⟨rfl, hb⟩
          replace HP := Lib.hid (HP.out.on hb)
          replace HQ5 := Lib.hid (HQ5.out.on9 hb)
          refine hK.out _ _ ?_ (fun _ => ?_)
          · exact pbS HP.out
          clear hK K hb
          try simp only [Act.put, List.setIfInBounds_toArray, List.set_cons_zero, List.set_cons_succ]
          refine wpAnyH_ready (rs := [18]) (by kernel_rfl) (by simp) ?_
          refine AllReadyH.cons (o := _) rfl (fun K hK => ?_) ?_
          · simp only [List.getElem_toArray, List.getElem_cons_succ, List.getElem_cons_zero]
            go_simp
            obtain ⟨v4, hv4⟩ : ∃ y_, (v3.alloc (.cells #[.int .i64 0, .int .i64 0, .int .i64 0, .int .i64 0] 74)) = y_ := ⟨_, rfl⟩
            obtain ⟨N6, hN6⟩ : ∃ y_, v3.heap.size = y_ := ⟨_, rfl⟩
            have HQ6 : Hid (Q4 v4 N6 0 0 0 0) := Lib.hid (by rw [← hv4, ← hN6]; exact q4_new v3 0 0 0 0)
            have l6 : w.heap.size < N6 := by rw [← hN6]; exact HP.out.sz
            have hbx : Below v3.heap.size v3 (v3.alloc (.cells #[.int .i64 0, .int .i64 0, .int .i64 0, .int .i64 0] 74)) := box_b v3 (.cells #[.int .i64 0, .int .i64 0, .int .i64 0, .int .i64 0] 74)
            rw [hv4] at hbx
            have nn : N5 < N6 := by rw [← hN6]; exact HQ5.out.lt
            replace HQ5 := Lib.hid (HQ5.out.on9 hbx)
            replace HP := Lib.hid (HP.out.on hbx)
            rw [hv4, hN6]
            refine hK.out _ _ ?_ (fun _ => ?_)
            · exact pbS HP.out
            clear hK K hbx hv4 hN6
            try simp only [Act.put, List.setIfInBounds_toArray, List.set_cons_zero, List.set_cons_succ]
            refine wpAnyH_ready (rs := [19]) (by kernel_rfl) (by simp) ?_
            refine AllReadyH.cons (o := _) rfl (fun K hK => ?_) AllReadyH.nil
            obtain ⟨a0, a1, a2, a3⟩ := HQ5.out.cell
            have z0 := HQ5.out.free 0
            have z1 := HQ5.out.free 1
            have z2 := HQ5.out.free 2
            have z3 := HQ5.out.free 3
            have hp := HP.out.put4 A B C D l5
            have hq := HQ5.out.s4 A B C D
            have ho := HQ6.out.same (s4_far v4 N5 0 1 2 3 A B C D N6 (by omega))
            simp only [List.getElem_toArray, List.getElem_cons_succ, List.getElem_cons_zero]
            go_simp
            refine hK.out _ _ ?_ (fun _ => ?_)
            · exact pbS hp
            clear hK K a0 a1 a2 a3 z0 z1 z2 z3
            try simp only [Act.put, List.setIfInBounds_toArray, List.set_cons_zero, List.set_cons_succ]
            replace HP := Lib.hid hp
            replace HQ5 := Lib.hid hq
            replace HQ6 := Lib.hid ho
            clear hp hq ho
            refine wpAnyH_ready (rs := [20]) (by kernel_rfl) (by simp) ?_
            refine AllReadyH.cons (o := _) rfl (fun K hK => ?_) AllReadyH.nil
            obtain ⟨a0, a1, a2, a3⟩ := HQ6.out.cell
            have z0 := HQ6.out.free 0
            have z1 := HQ6.out.free 1
            have z2 := HQ6.out.free 2
            have z3 := HQ6.out.free 3
            have hp := HP.out.put4 A' B' C' D' l6
            have hq := HQ6.out.s4 A' B' C' D'
            have ho := HQ5.out.same (s4_far _ N6 0 1 2 3 A' B' C' D' N5 (by omega))
            simp only [List.getElem_toArray, List.getElem_cons_succ, List.getElem_cons_zero]
            go_simp
            refine hK.out _ _ ?_ (fun _ => ?_)
            · exact pbS hp
            clear hK K a0 a1 a2 a3 z0 z1 z2 z3
            try simp only [Act.put, List.setIfInBounds_toArray, List.set_cons_zero, List.set_cons_succ]
            replace HP := Lib.hid hp
            replace HQ6 := Lib.hid hq
            replace HQ5 := Lib.hid ho
            clear hp hq ho
            refine wpAnyH_done (by kernel_rfl) ?_ _
            try simp only [List.getElem_toArray, List.getElem_cons_succ, List.getElem_cons_zero, List.setIfInBounds_toArray, List.set_cons_zero, List.set_cons_succ]
            go_wp2_with fail
            go_meet
            case rel => exact ⟨N5, N6, rfl, rfl, Lib.hid ⟨HQ5.out, HQ6.out, HP.out⟩⟩
          exact AllReadyH.nil
        refine AllReadyH.cons (o := _) rfl (fun K hK => ?_) ?_
        · simp only [List.getElem_toArray, List.getElem_cons_succ, List.getElem_cons_zero]
          go_simp
          obtain ⟨v3, hv3⟩ : ∃ y_, (v2.alloc (.cells #[.int .i64 0, .int .i64 0, .int .i64 0, .int .i64 0] 74)) = y_ := ⟨_, rfl⟩
          obtain ⟨N6, hN6⟩ : ∃ y_, v2.heap.size = y_ := ⟨_, rfl⟩
          have HQ6 : Hid (Q4 v3 N6 0 0 0 0) := Lib.hid (by rw [← hv3, ← hN6]; exact q4_new v2 0 0 0 0)
          have l6 : w.heap.size < N6 := by rw [← hN6]; exact HP.out.sz
          have hbx : Below v2.heap.size v2 (v2.alloc (.cells #[.int .i64 0, .int .i64 0, .int .i64 0, .int .i64 0] 74)) := box_b v2 (.cells #[.int .i64 0, .int .i64 0, .int .i64 0, .int .i64 0] 74)
          rw [hv3] at hbx
          have nn : N5 < N6 := by rw [← hN6]; exact HQ5.out.lt
          replace HQ5 := Lib.hid (HQ5.out.on9 hbx)
          replace HP := Lib.hid (HP.out.on hbx)
          rw [hv3, hN6]
          refine hK.out _ _ ?_ (fun _ => ?_)
          · exact pbS HP.out
          clear hK K hbx hv3 hN6
          try simp only [Act.put, List.setIfInBounds_toArray, List.set_cons_zero, List.set_cons_succ]
          refine wpAnyH_ready (rs := [16]) (by kernel_rfl) (by simp) ?_
          refine AllReadyH.cons (o := _) rfl (fun K hK => ?_) ?_
          · simp only [List.getElem_toArray, List.getElem_cons_succ, List.getElem_cons_zero]
            go_simp
            with_reducible refine (H2.out _ HP).mono ?_
            rintro e v4 ⟨rfl, hb⟩
            replace HP := Lib.hid (HP.out.on hb)
            replace HQ5 := Lib.hid (HQ5.out.on9 hb)
            replace HQ6 := Lib.hid (HQ6.out.on9 hb)
            refine hK.out _ _ ?_ (fun _ => ?_)
            · exact pbS HP.out
            clear hK K hb
            try simp only [Act.put, List.setIfInBounds_toArray, List.set_cons_zero, List.set_cons_succ]
            refine wpAnyH_ready (rs := [19]) (by kernel_rfl) (by simp) ?_
            refine AllReadyH.cons (o := _) rfl (fun K hK => ?_) AllReadyH.nil
            obtain ⟨a0, a1, a2, a3⟩ := HQ5.out.cell
            have z0 := HQ5.out.free 0
            have z1 := HQ5.out.free 1
            have z2 := HQ5.out.free 2
            have z3 := HQ5.out.free 3
            have hp := HP.out.put4 A B C D l5
            have hq := HQ5.out.s4 A B C D
            have ho := HQ6.out.same (s4_far v4 N5 0 1 2 3 A B C D N6 (by omega))
            simp only [List.getElem_toArray, List.getElem_cons_succ, List.getElem_cons_zero]
            go_simp
            refine hK.out _ _ ?_ (fun _ => ?_)
            · exact pbS hp
            clear hK K a0 a1 a2 a3 z0 z1 z2 z3
            try simp only [Act.put, List.setIfInBounds_toArray, List.set_cons_zero, List.set_cons_succ]
            replace HP := Lib.hid hp
            replace HQ5 := Lib.hid hq
            replace HQ6 := Lib.hid ho
            clear hp hq ho
            refine wpAnyH_ready (rs := [20]) (by kernel_rfl) (by simp) ?_
            refine AllReadyH.cons (o := _) rfl (fun K hK => ?_) AllReadyH.nil
            obtain ⟨a0, a1, a2, a3⟩ := HQ6.out.cell
            have z0 := HQ6.out.free 0
            have z1 := HQ6.out.free 1
            have z2 := HQ6.out.free 2
            have z3 := HQ6.out.free 3
            have hp := HP.out.put4 A' B' C' D' l6
            have hq := HQ6.out.s4 A' B' C' D'
            have ho := HQ5.out.same (s4_far _ N6 0 1 2 3 A' B' C' D' N5 (by omega))
            simp only [List.getElem_toArray, List.getElem_cons_succ, List.getElem_cons_zero]
            go_simp
            refine hK.out _ _ ?_ (fun _ => ?_)
            · exact pbS hp
            clear hK K a0 a1 a2 a3 z0 z1 z2 z3
            try simp only [Act.put, List.setIfInBounds_toArray, List.set_cons_zero, List.set_cons_succ]
            replace HP := Lib.hid hp
            replace HQ6 := Lib.hid hq
            replace HQ5 := Lib.hid ho
            clear hp hq ho
            refine wpAnyH_done (by kernel_rfl) ?_ _
            try simp only [List.getElem_toArray, List.getElem_cons_succ, List.getElem_cons_zero, List.setIfInBounds_toArray, List.set_cons_zero, List.set_cons_succ]
            go_wp2_with fail
            go_meet
            case rel => exact ⟨N5, N6, rfl, rfl, Lib.hid ⟨HQ5.out, HQ6.out, HP.out⟩⟩
          exact AllReadyH.nil
        exact AllReadyH.nil
      refine AllReadyH.cons (o := _) rfl (fun K hK => ?_) ?_
      · simp only [List.getElem_toArray, List.getElem_cons_succ, List.getElem_cons_zero]
        go_simp
        obtain ⟨v2, hv2⟩ : ∃ y_, (v1.alloc (.cells #[.int .i64 0, .int .i64 0, .int .i64 0, .int .i64 0] 74)) = y_ := ⟨_, rfl⟩
        obtain ⟨N6, hN6⟩ : ∃ y_, v1.heap.size = y_ := ⟨_, rfl⟩
        have HQ6 : Hid (Q4 v2 N6 0 0 0 0) := Lib.hid (by rw [← hv2, ← hN6]; exact q4_new v1 0 0 0 0)
        have l6 : w.heap.size < N6 := by rw [← hN6]; exact HP.out.sz
        have hbx : Below v1.heap.size v1 (v1.alloc (.cells #[.int .i64 0, .int .i64 0, .int .i64 0, .int .i64 0] 74)) := box_b v1 (.cells #[.int .i64 0, .int .i64 0, .int .i64 0, .int .i64 0] 74)
        rw [hv2] at hbx
        replace HP := Lib.hid (HP.out.on hbx)
        rw [hv2, hN6]
        refine hK.out _ _ ?_ (fun _ => ?_)
        · exact pbS HP.out
        clear hK K hbx hv2 hN6
        try simp only [Act.put, List.setIfInBounds_toArray, List.set_cons_zero, List.set_cons_succ]
        refine wpAnyH_ready (rs := [16, 17]) (by kernel_rfl) (by simp) ?_
        refine AllReadyH.cons (o := _) rfl (fun K hK => ?_) ?_
        · simp only [List.getElem_toArray, List.getElem_cons_succ, List.getElem_cons_zero]
          go_simp
          with_reducible refine (H2.out _ HP).mono ?_
          rintro e v3 ⟨rfl, hb⟩
          replace HP := Lib.hid (HP.out.on hb)
          replace HQ6 := Lib.hid (HQ6.out.on9 hb)
          refine hK.out _ _ ?_ (fun _ => ?_)
          · exact pbS HP.out
          clear hK K hb
          try simp only [Act.put, List.setIfInBounds_toArray, List.set_cons_zero, List.set_cons_succ]
          refine wpAnyH_ready (rs := [17]) (by kernel_rfl) (by simp) ?_
          refine AllReadyH.cons (o := _) rfl (fun K hK => ?_) ?_
          · simp only [List.getElem_toArray, List.getElem_cons_succ, List.getElem_cons_zero]
            go_simp
            obtain ⟨v4, hv4⟩ : ∃ y_, (v3.alloc (.cells #[.int .i64 0, .int .i64 0, .int .i64 0, .int .i64 0] 74)) = y_ := ⟨_, rfl⟩
            obtain ⟨N5, hN5⟩ : ∃ y_, v3.heap.size = y_ := ⟨_, rfl⟩
            have HQ5 : Hid (Q4 v4 N5 0 0 0 0) := Lib.hid (by rw [← hv4, ← hN5]; exact q4_new v3 0 0 0 0)
            have l5 : w.heap.size < N5 := by rw [← hN5]; exact HP.out.sz
            have hbx : Below v3.heap.size v3 (v3.alloc (.cells #[.int .i64 0, .int .i64 0, .int .i64 0, .int .i64 0] 74)) := box_b v3 (.cells #[.int .i64 0, .int .i64 0, .int .i64 0, .int .i64 0] 74)
            rw [hv4] at hbx
            have nn : N6 < N5 := by rw [← hN5]; exact HQ6.out.lt
            replace HQ6 := Lib.hid (HQ6.out.on9 hbx)
            replace HP := Lib.hid (HP.out.on hbx)
            rw [hv4, hN5]
            refine hK.out _ _ ?_ (fun _ => ?_)
            · exact pbS HP.out
            clear hK K hbx hv4 hN5
            try simp only [Act.put, List.setIfInBounds_toArray, List.set_cons_zero, List.set_cons_succ]
            refine wpAnyH_ready (rs := [19]) (by kernel_rfl) (by simp) ?_
            refine AllReadyH.cons (o := _) rfl (fun K hK => ?_) AllReadyH.nil
            obtain ⟨a0, a1, a2, a3⟩ := HQ5.out.cell
            have z0 := HQ5.out.free 0
            have z1 := HQ5.out.free 1
            have z2 := HQ5.out.free 2
            have z3 := HQ5.out.free 3
            have hp := HP.out.put4 A B C D l5
            have hq := HQ5.out.s4 A B C D
            have ho := HQ6.out.same (s4_far v4 N5 0 1 2 3 A B C D N6 (by omega))
            simp only [List.getElem_toArray, List.getElem_cons_succ, List.getElem_cons_zero]
            go_simp
            refine hK.out _ _ ?_ (fun _ => ?_)
            · exact pbS hp
            clear hK K a0 a1 a2 a3 z0 z1 z2 z3
            try simp only [Act.put, List.setIfInBounds_toArray, List.set_cons_zero, List.set_cons_succ]
            replace HP := Lib.hid hp
            replace HQ5 := Lib.hid hq
            replace HQ6 := Lib.hid ho
            clear hp hq ho
            refine wpAnyH_ready (rs := [20]) (by kernel_rfl) (by simp) ?_
            refine AllReadyH.cons (o := _) rfl (fun K hK => ?_) AllReadyH.nil
            obtain ⟨a0, a1, a2, a3⟩ := HQ6.out.cell
            have z0 := HQ6.out.free 0
            have z1 := HQ6.out.free 1
            have z2 := HQ6.out.free 2
            have z3 := HQ6.out.free 3
            have hp := HP.out.put4 A' B' C' D' l6
            have hq := HQ6.out.s4 A' B' C' D'
            have ho := HQ5.out.same (s4_far _ N6 0 1 2 3 A' B' C' D' N5 (by omega))
            simp only [List.getElem_toArray, List.getElem_cons_succ, List.getElem_cons_zero]
            go_simp
            refine hK.out _ _ ?_ (fun _ => ?_)
            · exact pbS hp
            clear hK K a0 a1 a2 a3 z0 z1 z2 z3
            try simp only [Act.put, List.setIfInBounds_toArray, List.set_cons_zero, List.set_cons_succ]
            replace HP := Lib.hid hp
            replace HQ6 := Lib.hid hq
            replace HQ5 := Lib.hid ho
            clear hp hq ho
            refine wpAnyH_done (by kernel_rfl) ?_ _
            try simp only [List.getElem_toArray, List.getElem_cons_succ, List.getElem_cons_zero, List.setIfInBounds_toArray, List.set_cons_zero, List.set_cons_succ]
            go_wp2_with fail
            go_meet
            case rel => exact ⟨N5, N6, rfl, rfl, Lib.hid ⟨HQ5.out, HQ6.out, HP.out⟩⟩
          exact AllReadyH.nil
        refine AllReadyH.cons (o := _) rfl (fun K hK => ?_) ?_
        · simp only [List.getElem_toArray, List.getElem_cons_succ, List.getElem_cons_zero]
          go_simp
          obtain ⟨v3, hv3⟩ : ∃ y_, (v2.alloc (.cells #[.int .i64 0, .int .i64 0, .int .i64 0, .int .i64 0] 74)) = y_ := ⟨_, rfl⟩
          obtain ⟨N5, hN5⟩ : ∃ y_, v2.heap.size = y_ := ⟨_, rfl⟩
          have HQ5 : Hid (Q4 v3 N5 0 0 0 0) := Lib.hid (by rw [← hv3, ← hN5]; exact q4_new v2 0 0 0 0)
          have l5 : w.heap.size < N5 := by rw [← hN5]; exact HP.out.sz
          have hbx : Below v2.heap.size v2 (v2.alloc (.cells #[.int .i64 0, .int .i64 0, .int .i64 0, .int .i64 0] 74)) := box_b v2 (.cells #[.int .i64 0, .int .i64 0, .int .i64 0, .int .i64 0] 74)
          rw [hv3] at hbx
          have nn : N6 < N5 := by rw [← hN5]; exact HQ6.out.lt
          replace HQ6 := Lib.hid (HQ6.out.on9 hbx)
          replace HP := Lib.hid (HP.out.on hbx)
          rw [hv3, hN5]
          refine hK.out _ _ ?_ (fun _ => ?_)
          · exact pbS HP.out
          clear hK K hbx hv3 hN5
          try simp only [Act.put, List.setIfInBounds_toArray, List.set_cons_zero, List.set_cons_succ]
          refine wpAnyH_ready (rs := [16]) (by kernel_rfl) (by simp) ?_
          refine AllReadyH.cons (o := _) rfl (fun K hK => ?_) ?_
          · simp only [List.getElem_toArray, List.getElem_cons_succ, List.getElem_cons_zero]
            go_simp
            with_reducible refine (H2.out _ HP).mono ?_
            rintro e v4 ⟨rfl, hb⟩
            replace HP := Lib.hid (HP.out.on hb)
            replace HQ6 := Lib.hid (HQ6.out.on9 hb)
            replace HQ5 := Lib.hid (HQ5.out.on9 hb)
            refine hK.out _ _ ?_ (fun _ => ?_)
            · exact pbS HP.out
            clear hK K hb
            try simp only [Act.put, List.setIfInBounds_toArray, List.set_cons_zero, List.set_cons_succ]
            refine wpAnyH_ready (rs := [19]) (by kernel_rfl) (by simp) ?_
            refine AllReadyH.cons (o := _) rfl (fun K hK => ?_) AllReadyH.nil
            obtain ⟨a0, a1, a2, a3⟩ := HQ5.out.cell
            have z0 := HQ5.out.free 0
            have z1 := HQ5.out.free 1
            have z2 := HQ5.out.free 2
            have z3 := HQ5.out.free 3
            have hp := HP.out.put4 A B C D l5
            have hq := HQ5.out.s4 A B C D
            have ho := HQ6.out.same (s4_far v4 N5 0 1 2 3 A B C D N6 (by omega))
            simp only [List.getElem_toArray, List.getElem_cons_succ, List.getElem_cons_zero]
            go_simp
            refine hK.out _ _ ?_ (fun _ => ?_)
            · exact pbS hp
            clear hK K a0 a1 a2 a3 z0 z1 z2 z3
            try simp only [Act.put, List.setIfInBounds_toArray, List.set_cons_zero, List.set_cons_succ]
            replace HP := Lib.hid hp
            replace HQ5 := Lib.hid hq
            replace HQ6 := Lib.hid ho
            clear hp hq ho
            refine wpAnyH_ready (rs := [20]) (by kernel_rfl) (by simp) ?_
            refine AllReadyH.cons (o := _) rfl (fun K hK => ?_) AllReadyH.nil
            obtain ⟨a0, a1, a2, a3⟩ := HQ6.out.cell
            have z0 := HQ6.out.free 0
            have z1 := HQ6.out.free 1
            have z2 := HQ6.out.free 2
            have z3 := HQ6.out.free 3
            have hp := HP.out.put4 A' B' C' D' l6
            have hq := HQ6.out.s4 A' B' C' D'
            have ho := HQ5.out.same (s4_far _ N6 0 1 2 3 A' B' C' D' N5 (by omega))
            simp only [List.getElem_toArray, List.getElem_cons_succ, List.getElem_cons_zero]
            go_simp
            refine hK.out _ _ ?_ (fun _ => ?_)
            · exact pbS hp
            clear hK K a0 a1 a2 a3 z0 z1 z2 z3
            try simp only [Act.put, List.setIfInBounds_toArray, List.set_cons_zero, List.set_cons_succ]
            replace HP := Lib.hid hp
            replace HQ6 := Lib.hid hq
            replace HQ5 := Lib.hid ho
            clear hp hq ho
            refine wpAnyH_done (by kernel_rfl) ?_ _
            try simp only [List.getElem_toArray, List.getElem_cons_succ, List.getElem_cons_zero, List.setIfInBounds_toArray, List.set_cons_zero, List.set_cons_succ]
            go_wp2_with fail
            go_meet
            case rel => exact ⟨N5, N6, rfl, rfl, Lib.hid ⟨HQ5.out, HQ6.out, HP.out⟩⟩
          exact AllReadyH.nil
        exact AllReadyH.nil
      exact AllReadyH.nil
    refine AllReadyH.cons (o := _) rfl (fun K hK => ?_) ?_
    · simp only [List.getElem_toArray, List.getElem_cons_succ, List.getElem_cons_zero]
      go_simp
      obtain ⟨v1, hv1⟩ : ∃ y_, (W0.alloc (.cells #[.int .i64 0, .int .i64 0, .int .i64 0, .int .i64 0] 74)).drew = y_ := ⟨_, rfl⟩
      obtain ⟨N5, hN5⟩ : ∃ y_, W0.heap.size = y_ := ⟨_, rfl⟩
      have HQ5 : Hid (Q4 v1 N5 0 0 0 0) := Lib.hid (by rw [← hv1, ← hN5]; exact q4_new W0.drew 0 0 0 0)
      have l5 : w.heap.size < N5 := by rw [← hN5]; exact HP.out.sz
      have hbx : Below W0.drew.heap.size W0.drew (W0.alloc (.cells #[.int .i64 0, .int .i64 0, .int .i64 0, .int .i64 0] 74)).drew := box_b W0.drew (.cells #[.int .i64 0, .int .i64 0, .int .i64 0, .int .i64 0] 74)
      rw [hv1] at hbx
      replace HP := Lib.hid (HP.out.on hbx)
      rw [hv1, hN5]
      refine hK.out _ _ ?_ (fun _ => ?_)
      · exact pbS HP.out
      clear hK K hbx hv1 hN5
      try simp only [Act.put, List.setIfInBounds_toArray, List.set_cons_zero, List.set_cons_succ]
      refine wpAnyH_ready (rs := [6, 18]) (by kernel_rfl) (by simp) ?_
      refine AllReadyH.cons (o := _) rfl (fun K hK => ?_) ?_
      · simp only [List.getElem_toArray, List.getElem_cons_succ, List.getElem_cons_zero]
        go_simp
        with_reducible refine (H1.out _ HP).mono ?_
        rintro e v2 ⟨rfl, hb⟩
        replace HP := Lib.hid (HP.out.on hb)
        replace HQ5 := Lib.hid (HQ5.out.on9 hb)
        refine hK.out _ _ ?_ (fun _ => ?_)
        · exact pbS HP.out
        clear hK K hb
        try simp only [Act.put, List.setIfInBounds_toArray, List.set_cons_zero, List.set_cons_succ]
        refine wpAnyH_ready (rs := [16, 18]) (by kernel_rfl) (by simp) ?_
        refine AllReadyH.cons (o := _) rfl (fun K hK => ?_) ?_
        · simp only [List.getElem_toArray, List.getElem_cons_succ, List.getElem_cons_zero]
          go_simp
          with_reducible refine (H2.out _ HP).mono ?_
          rintro e v3 ⟨rfl, hb⟩
          replace HP := Lib.hid (HP.out.on hb)
          replace HQ5 := Lib.hid (HQ5.out.on9 hb)
          refine hK.out _ _ ?_ (fun _ => ?_)
          · exact pbS HP.out
          clear hK K hb
          try simp only [Act.put, List.setIfInBounds_toArray, List.set_cons_zero, List.set_cons_succ]
          refine wpAnyH_ready (rs := [18]) (by kernel_rfl) (by simp) ?_
          refine AllReadyH.cons (o := _) rfl (fun K hK => ?_) ?_
          · simp only [List.getElem_toArray, List.getElem_cons_succ, List.getElem_cons_zero]
            go_simp
            obtain ⟨v4, hv4⟩ : ∃ y_, (v3.alloc (.cells #[.int .i64 0, .int .i64 0, .int .i64 0, .int .i64 0] 74)) = y_ := ⟨_, rfl⟩
            obtain ⟨N6, hN6⟩ : ∃ y_, v3.heap.size = y_ := ⟨_, rfl⟩
            have HQ6 : Hid (Q4 v4 N6 0 0 0 0) := Lib.hid (by rw [← hv4, ← hN6]; exact q4_new v3 0 0 0 0)
            have l6 : w.heap.size < N6 := by rw [← hN6]; exact HP.out.sz
            have hbx : Below v3.heap.size v3 (v3.alloc (.cells #[.int .i64 0, .int .i64 0, .int .i64 0, .int .i64 0] 74)) := box_b v3 (.cells #[.int .i64 0, .int .i64 0, .int .i64 0, .int .i64 0] 74)
            rw [hv4] at hbx
            have nn : N5 < N6 := by rw [← hN6]; exact HQ5.out.lt
            replace HQ5 := Lib.hid (HQ5.out.on9 hbx)
            replace HP := Lib.hid (HP.out.on hbx)
            rw [hv4, hN6]
            refine hK.out _ _ ?_ (fun _ => ?_)
            · exact pbS HP.out
            clear hK K hbx hv4 hN6
            try simp only [Act.put, List.setIfInBounds_toArray, List.set_cons_zero, List.set_cons_succ]
            refine wpAnyH_ready (rs := [19]) (by kernel_rfl) (by simp) ?_
            refine AllReadyH.cons (o := _) rfl (fun K hK => ?_) AllReadyH.nil
            obtain ⟨a0, a1, a2, a3⟩ := HQ5.out.cell
            have z0 := HQ5.out.free 0
            have z1 := HQ5.out.free 1
            have z2 := HQ5.out.free 2
            have z3 := HQ5.out.free 3
            have hp := HP.out.put4 A B C D l5
            have hq := HQ5.out.s4 A B C D
            have ho := HQ6.out.same (s4_far v4 N5 0 1 2 3 A B C D N6 (by omega))
            simp only [List.getElem_toArray, List.getElem_cons_succ, List.getElem_cons_zero]
            go_simp
            refine hK.out _ _ ?_ (fun _ => ?_)
            · exact pbS hp
            clear hK K a0 a1 a2 a3 z0 z1 z2 z3
            try simp only [Act.put, List.setIfInBounds_toArray, List.set_cons_zero, List.set_cons_succ]
            replace HP := Lib.hid hp
            replace HQ5 := Lib.hid hq
            replace HQ6 := Lib.hid ho
            clear hp hq ho
            refine wpAnyH_ready (rs := [20]) (by kernel_rfl) (by simp) ?_
            refine AllReadyH.cons (o := _) rfl (fun K hK => ?_) AllReadyH.nil
            obtain ⟨a0, a1, a2, a3⟩ := HQ6.out.cell
            have z0 := HQ6.out.free 0
            have z1 := HQ6.out.free 1
            have z2 := HQ6.out.free 2
            have z3 := HQ6.out.free 3
            have hp := HP.out.put4 A' B' C' D' l6
            have hq := HQ6.out.s4 A' B' C' D'
            have ho := HQ5.out.same (s4_far _ N6 0 1 2 3 A' B' C' D' N5 (by omega))
            simp only [List.getElem_toArray, List.getElem_cons_succ, List.getElem_cons_zero]
            go_simp
            refine hK.out _ _ ?_ (fun _ => ?_)
            · exact pbS hp
            clear hK K a0 a1 a2 a3 z0 z1 z2 z3
            try simp only [Act.put, List.setIfInBounds_toArray, List.set_cons_zero, List.set_cons_succ]
            replace HP := Lib.hid hp
            replace HQ6 := Lib.hid hq
            replace HQ5 := Lib.hid ho
            clear hp hq ho
            refine wpAnyH_done (by kernel_rfl) ?_ _
            try simp only [List.getElem_toArray, List.getElem_cons_succ, List.getElem_cons_zero, List.setIfInBounds_toArray, List.set_cons_zero, List.set_cons_succ]
            go_wp2_with fail
            go_meet
            case rel => exact ⟨N5, N6, rfl, rfl, Lib.hid ⟨HQ5.out, HQ6.out, HP.out⟩⟩
          exact AllReadyH.nil
        refine AllReadyH.cons (o := _) rfl (fun K hK => ?_) ?_
        · simp only [List.getElem_toArray, List.getElem_cons_succ, List.getElem_cons_zero]
          go_simp
          obtain ⟨v3, hv3⟩ : ∃ y_, (v2.alloc (.cells #[.int .i64 0, .int .i64 0, .int .i64 0, .int .i64 0] 74)) = y_ := ⟨_, rfl⟩
          obtain ⟨N6, hN6⟩ : ∃ y_, v2.heap.size = y_ := ⟨_, rfl⟩
          have HQ6 : Hid (Q4 v3 N6 0 0 0 0) := Lib.hid (by rw [← hv3, ← hN6]; exact q4_new v2 0 0 0 0)
          have l6 : w.heap.size < N6 := by rw [← hN6]; exact HP.out.sz
          have hbx : Below v2.heap.size v2 (v2.alloc (.cells #[.int .i64 0, .int .i64 0, .int .i64 0, .int .i64 0] 74)) := box_b v2 (.cells #[.int .i64 0, .int .i64 0, .int .i64 0, .int .i64 0] 74)
          rw [hv3] at hbx
          have nn : N5 < N6 := by rw [← hN6]; exact HQ5.out.lt
          replace HQ5 := Lib.hid (HQ5.out.on9 hbx)
          replace HP := Lib.hid (HP.out.on hbx)
          rw [hv3, hN6]
          refine hK.out _ _ ?_ (fun _ => ?_)
          · exact pbS HP.out
          clear hK K hbx hv3 hN6
          try simp only [Act.put, List.setIfInBounds_toArray, List.set_cons_zero, List.set_cons_succ]
          refine wpAnyH_ready (rs := [16]) (by kernel_rfl) (by simp) ?_
          refine AllReadyH.cons (o := _) rfl (fun K hK => ?_) ?_
          · simp only [List.getElem_toArray, List.getElem_cons_succ, List.getElem_cons_zero]
            go_simp
            with_reducible refine (H2.out _ HP).mono ?_
            rintro e v4 ⟨rfl, hb⟩
            replace HP := Lib.hid (HP.out.on hb)
            replace HQ5 := Lib.hid (HQ5.out.on9 hb)
            replace HQ6 := Lib.hid (HQ6.out.on9 hb)
            refine hK.out _ _ ?_ (fun _ => ?_)
            · exact pbS HP.out
            clear hK K hb
            try simp only [Act.put, List.setIfInBounds_toArray, List.set_cons_zero, List.set_cons_succ]
            refine wpAnyH_ready (rs := [19]) (by kernel_rfl) (by simp) ?_
            refine AllReadyH.cons (o := _) rfl (fun K hK => ?_) AllReadyH.nil
            obtain ⟨a0, a1, a2, a3⟩ := HQ5.out.cell
            have z0 := HQ5.out.free 0
            have z1 := HQ5.out.free 1
            have z2 := HQ5.out.free 2
            have z3 := HQ5.out.free 3
            have hp := HP.out.put4 A B C D l5
            have hq := HQ5.out.s4 A B C D
            have ho := HQ6.out.same (s4_far v4 N5 0 1 2 3 A B C D N6 (by omega))
            simp only [List.getElem_toArray, List.getElem_cons_succ, List.getElem_cons_zero]
            go_simp
            refine hK.out _ _ ?_ (fun _ => ?_)
            · exact pbS hp
            clear hK K a0 a1 a2 a3 z0 z1 z2 z3
            try simp only [Act.put, List.setIfInBounds_toArray, List.set_cons_zero, List.set_cons_succ]
            replace HP := Lib.hid hp
            replace HQ5 := Lib.hid hq
            replace HQ6 := Lib.hid ho
            clear hp hq ho
            refine wpAnyH_ready (rs := [20]) (by kernel_rfl) (by simp) ?_
            refine AllReadyH.cons (o := _) rfl (fun K hK => ?_) AllReadyH.nil
            obtain ⟨a0, a1, a2, a3⟩ := HQ6.out.cell
            have z0 := HQ6.out.free 0
            have z1 := HQ6.out.free 1
            have z2 := HQ6.out.free 2
            have z3 := HQ6.out.free 3
            have hp := HP.out.put4 A' B' C' D' l6
            have hq := HQ6.out.s4 A' B' C' D'
            have ho := HQ5.out.same (s4_far _ N6 0 1 2 3 A' B' C' D' N5 (by omega))
            simp only [List.getElem_toArray, List.getElem_cons_succ, List.getElem_cons_zero]
            go_simp
            refine hK.out _ _ ?_ (fun _ => ?_)
            · exact pbS hp
            clear hK K a0 a1 a2 a3 z0 z1 z2 z3
            try simp only [Act.put, List.setIfInBounds_toArray, List.set_cons_zero, List.set_cons_succ]
            replace HP := Lib.hid hp
            replace HQ6 := Lib.hid hq
            replace HQ5 := Lib.hid ho
            clear hp hq ho
            refine wpAnyH_done (by kernel_rfl) ?_ _
            try simp only [List.getElem_toArray, List.getElem_cons_succ, List.getElem_cons_zero, List.setIfInBounds_toArray, List.set_cons_zero, List.set_cons_succ]
            go_wp2_with fail
            go_meet
            case rel => exact ⟨N5, N6, rfl, rfl, Lib.hid ⟨HQ5.out, HQ6.out, HP.out⟩⟩
          exact AllReadyH.nil
        exact AllReadyH.nil
      refine AllReadyH.cons (o := _) rfl (fun K hK => ?_) ?_
      · simp only [List.getElem_toArray, List.getElem_cons_succ, List.getElem_cons_zero]
        go_simp
        obtain ⟨v2, hv2⟩ : ∃ y_, (v1.alloc (.cells #[.int .i64 0, .int .i64 0, .int .i64 0, .int .i64 0] 74)) = y_ := ⟨_, rfl⟩
        obtain ⟨N6, hN6⟩ : ∃ y_, v1.heap.size = y_ := ⟨_, rfl⟩
        have HQ6 : Hid (Q4 v2 N6 0 0 0 0) := Lib.hid (by rw [← hv2, ← hN6]; exact q4_new v1 0 0 0 0)
        have l6 : w.heap.size < N6 := by rw [← hN6]; exact HP.out.sz
        have hbx : Below v1.heap.size v1 (v1.alloc (.cells #[.int .i64 0, .int .i64 0, .int .i64 0, .int .i64 0] 74)) := box_b v1 (.cells #[.int .i64 0, .int .i64 0, .int .i64 0, .int .i64 0] 74)
        rw [hv2] at hbx
        have nn : N5 < N6 := by rw [← hN6]; exact HQ5.out.lt
        replace HQ5 := Lib.hid (HQ5.out.on9 hbx)
        replace HP := Lib.hid (HP.out.on hbx)
        rw [hv2, hN6]
        refine hK.out _ _ ?_ (fun _ => ?_)
        · exact pbS HP.out
        clear hK K hbx hv2 hN6
        try simp only [Act.put, List.setIfInBounds_toArray, List.set_cons_zero, List.set_cons_succ]
        refine wpAnyH_ready (rs := [6]) (by kernel_rfl) (by simp) ?_
        refine AllReadyH.cons (o := _) rfl (fun K hK => ?_) ?_
        · simp only [List.getElem_toArray, List.getElem_cons_succ, List.getElem_cons_zero]
          go_simp
          with_reducible refine (H1.out _ HP).mono ?_
          rintro e v3 ⟨rfl, hb⟩
          replace HP := Lib.hid (HP.out.on hb)
          replace HQ5 := Lib.hid (HQ5.out.on9 hb)
          replace HQ6 := Lib.hid (HQ6.out.on9 hb)
          refine hK.out _ _ ?_ (fun _ => ?_)
          · exact pbS HP.out
          clear hK K hb
          try simp only [Act.put, List.setIfInBounds_toArray, List.set_cons_zero, List.set_cons_succ]
          refine wpAnyH_ready (rs := [16]) (by kernel_rfl) (by simp) ?_
          refine AllReadyH.cons (o := _) rfl (fun K hK => ?_) ?_
          · simp only [List.getElem_toArray, List.getElem_cons_succ, List.getElem_cons_zero]
            go_simp
            with_reducible refine (H2.out _ HP).mono ?_
            rintro e v4 ⟨rfl, hb⟩
            replace HP := Lib.hid (HP.out.on hb)
            replace HQ5 := Lib.hid (HQ5.out.on9 hb)
            replace HQ6 := Lib.hid (HQ6.out.on9 hb)
            refine hK.out _ _ ?_ (fun _ => ?_)
            · exact pbS HP.out
            clear hK K hb
            try simp only [Act.put, List.setIfInBounds_toArray, List.set_cons_zero, List.set_cons_succ]
            refine wpAnyH_ready (rs := [19]) (by kernel_rfl) (by simp) ?_
            refine AllReadyH.cons (o := _) rfl (fun K hK => ?_) AllReadyH.nil
            obtain ⟨a0, a1, a2, a3⟩ := HQ5.out.cell
            have z0 := HQ5.out.free 0
            have z1 := HQ5.out.free 1
            have z2 := HQ5.out.free 2
            have z3 := HQ5.out.free 3
            have hp := HP.out.put4 A B C D l5
            have hq := HQ5.out.s4 A B C D
            have ho := HQ6.out.same (s4_far v4 N5 0 1 2 3 A B C D N6 (by omega))
            simp only [List.getElem_toArray, List.getElem_cons_succ, List.getElem_cons_zero]
            go_simp
            refine hK.out _ _ ?_ (fun _ => ?_)
            · exact pbS hp
            clear hK K a0 a1 a2 a3 z0 z1 z2 z3
            try simp only [Act.put, List.setIfInBounds_toArray, List.set_cons_zero, List.set_cons_succ]
            replace HP := Lib.hid hp
            replace HQ5 := Lib.hid hq
            replace HQ6 := Lib.hid ho
            clear hp hq ho
            refine wpAnyH_ready (rs := [20]) (by kernel_rfl) (by simp) ?_
            refine AllReadyH.cons (o := _) rfl (fun K hK => ?_) AllReadyH.nil
            obtain ⟨a0, a1, a2, a3⟩ := HQ6.out.cell
            have z0 := HQ6.out.free 0
            have z1 := HQ6.out.free 1
            have z2 := HQ6.out.free 2
            have z3 := HQ6.out.free 3
            have hp := HP.out.put4 A' B' C' D' l6
            have hq := HQ6.out.s4 A' B' C' D'
            have ho := HQ5.out.same (s4_far _ N6 0 1 2 3 A' B' C' D' N5 (by omega))
            simp only [List.getElem_toArray, List.getElem_cons_succ, List.getElem_cons_zero]
            go_simp
            refine hK.out _ _ ?_ (fun _ => ?_)
            · exact pbS hp
            clear hK K a0 a1 a2 a3 z0 z1 z2 z3
            try simp only [Act.put, List.setIfInBounds_toArray, List.set_cons_zero, List.set_cons_succ]
            replace HP := Lib.hid hp
            replace HQ6 := Lib.hid hq
            replace HQ5 := Lib.hid ho
            clear hp hq ho
            refine wpAnyH_done (by kernel_rfl) ?_ _
            try simp only [List.getElem_toArray, List.getElem_cons_succ, List.getElem_cons_zero, List.setIfInBounds_toArray, List.set_cons_zero, List.set_cons_succ]
            go_wp2_with fail
            go_meet
            case rel => exact ⟨N5, N6, rfl, rfl, Lib.hid ⟨HQ5.out, HQ6.out, HP.out⟩⟩
          exact AllReadyH.nil
        exact AllReadyH.nil
      exact AllReadyH.nil
    refine AllReadyH.cons (o := _) rfl (fun K hK => ?_) ?_
    · simp only [List.getElem_toArray, List.getElem_cons_succ, List.getElem_cons_zero]
      go_simp
      obtain ⟨v1, hv1⟩ : ∃ y_, (W0.alloc (.cells #[.int .i64 0, .int .i64 0, .int .i64 0, .int .i64 0] 74)).drew = y_ := ⟨_, rfl⟩
      obtain ⟨N6, hN6⟩ : ∃ y_, W0.heap.size = y_ := ⟨_, rfl⟩
      have HQ6 : Hid (Q4 v1 N6 0 0 0 0) := Lib.hid (by rw [← hv1, ← hN6]; exact q4_new W0.drew 0 0 0 0)
      have l6 : w.heap.size < N6 := by rw [← hN6]; exact HP.out.sz
      have hbx : Below W0.drew.heap.size W0.drew (W0.alloc (.cells #[.int .i64 0, .int .i64 0, .int .i64 0, .int .i64 0] 74)).drew := box_b W0.drew (.cells #[.int .i64 0, .int .i64 0, .int .i64 0, .int .i64 0] 74)
      rw [hv1] at hbx
      replace HP := Lib.hid (HP.out.on hbx)
      rw [hv1, hN6]
      refine hK.out _ _ ?_ (fun _ => ?_)
      · exact pbS HP.out
      clear hK K hbx hv1 hN6
      try simp only [Act.put, List.setIfInBounds_toArray, List.set_cons_zero, List.set_cons_succ]
      refine wpAnyH_ready (rs := [6, 17]) (by kernel_rfl) (by simp) ?_
      refine AllReadyH.cons (o := _) rfl (fun K hK => ?_) ?_
      · simp only [List.getElem_toArray, List.getElem_cons_succ, List.getElem_cons_zero]
        go_simp
        with_reducible refine (H1.out _ HP).mono ?_
        rintro e v2 ⟨rfl, hb⟩
        replace HP := Lib.hid (HP.out.on hb)
        replace HQ6 := Lib.hid (HQ6.out.on9 hb)
        refine hK.out _ _ ?_ (fun _ => ?_)
        · exact pbS HP.out
        clear hK K hb
        try simp only [Act.put, List.setIfInBounds_toArray, List.set_cons_zero, List.set_cons_succ]
        refine wpAnyH_ready (rs := [16, 17]) (by kernel_rfl) (by simp) ?_
        refine AllReadyH.cons (o := _) rfl (fun K hK => ?_) ?_
        · simp only [List.getElem_toArray, List.getElem_cons_succ, List.getElem_cons_zero]
          go_simp
          with_reducible refine (H2.out _ HP).mono ?_
          rintro e v3 ⟨rfl, hb⟩
          replace HP := Lib.hid (HP.out.on hb)
          replace HQ6 := Lib.hid (HQ6.out.on9 hb)
          refine hK.out _ _ ?_ (fun _ => ?_)
          · exact pbS HP.out
          clear hK K hb
          try simp only [Act.put, List.setIfInBounds_toArray, List.set_cons_zero, List.set_cons_succ]
          refine wpAnyH_ready (rs := [17]) (by kernel_rfl) (by simp) ?_
          refine AllReadyH.cons (o := _) rfl (fun K hK => ?_) ?_
          · simp only [List.getElem_toArray, List.getElem_cons_succ, List.getElem_cons_zero]
            go_simp
            obtain ⟨v4, hv4⟩ : ∃ y_, (v3.alloc (.cells #[.int .i64 0, .int .i64 0, .int .i64 0, .int .i64 0] 74)) = y_ := ⟨_, rfl⟩
            obtain ⟨N5, hN5⟩ : ∃ y_, v3.heap.size = y_ := ⟨_, rfl⟩
            have HQ5 : Hid (Q4 v4 N5 0 0 0 0) := Lib.hid (by rw [← hv4, ← hN5]; exact q4_new v3 0 0 0 0)
            have l5 : w.heap.size < N5 := by rw [← hN5]; exact HP.out.sz
            have hbx : Below v3.heap.size v3 (v3.alloc (.cells #[.int .i64 0, .int .i64 0, .int .i64 0, .int .i64 0] 74)) := box_b v3 (.cells #[.int .i64 0, .int .i64 0, .int .i64 0, .int .i64 0] 74)
            rw [hv4] at hbx
            have nn : N6 < N5 := by rw [← hN5]; exact HQ6.out.lt
            replace HQ6 := Lib.hid (HQ6.out.on9 hbx)
            replace HP := Lib.hid (HP.out.on hbx)
            rw [hv4, hN5]
            refine hK.out _ _ ?_ (fun _ => ?_)
            · exact pbS HP.out
            clear hK K hbx hv4 hN5
            try simp only [Act.put, List.setIfInBounds_toArray, List.set_cons_zero, List.set_cons_succ]
            refine wpAnyH_ready (rs := [19]) (by kernel_rfl) (by simp) ?_
            refine AllReadyH.cons (o := _) rfl (fun K hK => ?_) AllReadyH.nil
            obtain ⟨a0, a1, a2, a3⟩ := HQ5.out.cell
            have z0 := HQ5.out.free 0
            have z1 := HQ5.out.free 1
            have z2 := HQ5.out.free 2
            have z3 := HQ5.out.free 3
            have hp := HP.out.put4 A B C D l5
            have hq := HQ5.out.s4 A B C D
            have ho := HQ6.out.same (s4_far v4 N5 0 1 2 3 A B C D N6 (by omega))
            simp only [List.getElem_toArray, List.getElem_cons_succ, List.getElem_cons_zero]
            go_simp
            refine hK.out _ _ ?_ (fun _ => ?_)
            · exact pbS hp
            clear hK K a0 a1 a2 a3 z0 z1 z2 z3
            try simp only [Act.put, List.setIfInBounds_toArray, List.set_cons_zero, List.set_cons_succ]
            replace HP := Lib.hid hp
            replace HQ5 := Lib.hid hq
            replace HQ6 := Lib.hid ho
            clear hp hq ho
            refine wpAnyH_ready (rs := [20]) (by kernel_rfl) (by simp) ?_
            refine AllReadyH.cons (o := _) rfl (fun K hK => ?_) AllReadyH.nil
            obtain ⟨a0, a1, a2, a3⟩ := HQ6.out.cell
            have z0 := HQ6.out.free 0
            have z1 := HQ6.out.free 1
            have z2 := HQ6.out.free 2
            have z3 := HQ6.out.free 3
            have hp := HP.out.put4 A' B' C' D' l6
            have hq := HQ6.out.s4 A' B' C' D'
            have ho := HQ5.out.same (s4_far _ N6 0 1 2 3 A' B' C' D' N5 (by omega))
            simp only [List.getElem_toArray, List.getElem_cons_succ, List.getElem_cons_zero]
            go_simp
            refine hK.out _ _ ?_ (fun _ => ?_)
            · exact pbS hp
            clear hK K a0 a1 a2 a3 z0 z1 z2 z3
            try simp only [Act.put, List.setIfInBounds_toArray, List.set_cons_zero, List.set_cons_succ]
            replace HP := Lib.hid hp
            replace HQ6 := Lib.hid hq
            replace HQ5 := Lib.hid ho
            clear hp hq ho
            refine wpAnyH_done (by kernel_rfl) ?_ _
            try simp only [List.getElem_toArray, List.getElem_cons_succ, List.getElem_cons_zero, List.setIfInBounds_toArray, List.set_cons_zero, List.set_cons_succ]
            go_wp2_with fail
            go_meet
            case rel => exact ⟨N5, N6, rfl, rfl, Lib.hid ⟨HQ5.out, HQ6.out, HP.out⟩⟩
          exact AllReadyH.nil
        refine AllReadyH.cons (o := _) rfl (fun K hK => ?_) ?_
        · simp only [List.getElem_toArray, List.getElem_cons_succ, List.getElem_cons_zero]
          go_simp
          obtain ⟨v3, hv3⟩ : ∃ y_, (v2.alloc (.cells #[.int .i64 0, .int .i64 0, .int .i64 0, .int .i64 0] 74)) = y_ := ⟨_, rfl⟩
          obtain ⟨N5, hN5⟩ : ∃ y_, v2.heap.size = y_ := ⟨_, rfl⟩
          have HQ5 : Hid (Q4 v3 N5 0 0 0 0) := Lib.hid (by rw [← hv3, ← hN5]; exact q4_new v2 0 0 0 0)
          have l5 : w.heap.size < N5 := by rw [← hN5]; exact HP.out.sz
          have hbx : Below v2.heap.size v2 (v2.alloc (.cells #[.int .i64 0, .int .i64 0, .int .i64 0, .int .i64 0] 74)) := box_b v2 (.cells #[.int .i64 0, .int .i64 0, .int .i64 0, .int .i64 0] 74)
          rw [hv3] at hbx
          have nn : N6 < N5 := by rw [← hN5]; exact HQ6.out.lt
          replace HQ6 := Lib.hid (HQ6.out.on9 hbx)
          replace HP := Lib.hid (HP.out.on hbx)
          rw [hv3, hN5]
          refine hK.out _ _ ?_ (fun _ => ?_)
          · exact pbS HP.out
          clear hK K hbx hv3 hN5
          try simp only [Act.put, List.setIfInBounds_toArray, List.set_cons_zero, List.set_cons_succ]
          refine wpAnyH_ready (rs := [16]) (by kernel_rfl) (by simp) ?_
          refine AllReadyH.cons (o := _) rfl (fun K hK => ?_) ?_
          · simp only [List.getElem_toArray, List.getElem_cons_succ, List.getElem_cons_zero]
            go_simp
            with_reducible refine (H2.out _ HP).mono ?_
            rintro e v4 ⟨rfl, hb⟩
            replace HP := Lib.hid (HP.out.on hb)
            replace HQ6 := Lib.hid (HQ6.out.on9 hb)
            replace HQ5 := Lib.hid (HQ5.out.on9 hb)
            refine hK.out _ _ ?_ (fun _ => ?_)
            · exact pbS HP.out
            clear hK K hb
            try simp only [Act.put, List.setIfInBounds_toArray, List.set_cons_zero, List.set_cons_succ]
            refine wpAnyH_ready (rs := [19]) (by kernel_rfl) (by simp) ?_
            refine AllReadyH.cons (o := _) rfl (fun K hK => ?_) AllReadyH.nil
            obtain ⟨a0, a1, a2, a3⟩ := HQ5.out.cell
            have z0 := HQ5.out.free 0
            have z1 := HQ5.out.free 1
            have z2 := HQ5.out.free 2
            have z3 := HQ5.out.free 3
            have hp := HP.out.put4 A B C D l5
            have hq := HQ5.out.s4 A B C D
            have ho := HQ6.out.same (s4_far v4 N5 0 1 2 3 A B C D N6 (by omega))
            simp only [List.getElem_toArray, List.getElem_cons_succ, List.getElem_cons_zero]
            go_simp
            refine hK.out _ _ ?_ (fun _ => ?_)
            · exact pbS hp
            clear hK K a0 a1 a2 a3 z0 z1 z2 z3
            try simp only [Act.put, List.setIfInBounds_toArray, List.set_cons_zero, List.set_cons_succ]
            replace HP := Lib.hid hp
            replace HQ5 := Lib.hid hq
            replace HQ6 := Lib.hid ho
            clear hp hq ho
            refine wpAnyH_ready (rs := [20]) (by kernel_rfl) (by simp) ?_
            refine AllReadyH.cons (o := _) rfl (fun K hK => ?_) AllReadyH.nil
            obtain ⟨a0, a1, a2, a3⟩ := HQ6.out.cell
            have z0 := HQ6.out.free 0
            have z1 := HQ6.out.free 1
            have z2 := HQ6.out.free 2
            have z3 := HQ6.out.free 3
            have hp := HP.out.put4 A' B' C' D' l6
            have hq := HQ6.out.s4 A' B' C' D'
            have ho := HQ5.out.same (s4_far _ N6 0 1 2 3 A' B' C' D' N5 (by omega))
            simp only [List.getElem_toArray, List.getElem_cons_succ, List.getElem_cons_zero]
            go_simp
            refine hK.out _ _ ?_ (fun _ => ?_)
            · exact pbS hp
            clear hK K a0 a1 a2 a3 z0 z1 z2 z3
            try simp only [Act.put, List.setIfInBounds_toArray, List.set_cons_zero, List.set_cons_succ]
            replace HP := Lib.hid hp
            replace HQ6 := Lib.hid hq
            replace HQ5 := Lib.hid ho
            clear hp hq ho
            refine wpAnyH_done (by kernel_rfl) ?_ _
            try simp only [List.getElem_toArray, List.getElem_cons_succ, List.getElem_cons_zero, List.setIfInBounds_toArray, List.set_cons_zero, List.set_cons_succ]
            go_wp2_with fail
            go_meet
            case rel => exact ⟨N5, N6, rfl, rfl, Lib.hid ⟨HQ5.out, HQ6.out, HP.out⟩⟩
          exact AllReadyH.nil
        exact AllReadyH.nil
      refine AllReadyH.cons (o := _) rfl (fun K hK => ?_) ?_
      · simp only [List.getElem_toArray, List.getElem_cons_succ, List.getElem_cons_zero]
        go_simp
        obtain ⟨v2, hv2⟩ : ∃ y_, (v1.alloc (.cells #[.int .i64 0, .int .i64 0, .int .i64 0, .int .i64 0] 74)) = y_ := ⟨_, rfl⟩
        obtain ⟨N5, hN5⟩ : ∃ y_, v1.heap.size = y_ := ⟨_, rfl⟩
        have HQ5 : Hid (Q4 v2 N5 0 0 0 0) := Lib.hid (by rw [← hv2, ← hN5]; exact q4_new v1 0 0 0 0)
        have l5 : w.heap.size < N5 := by rw [← hN5]; exact HP.out.sz
        have hbx : Below v1.heap.size v1 (v1.alloc (.cells #[.int .i64 0, .int .i64 0, .int .i64 0, .int .i64 0] 74)) := box_b v1 (.cells #[.int .i64 0, .int .i64 0, .int .i64 0, .int .i64 0] 74)
        rw [hv2] at hbx
        have nn : N6 < N5 := by rw [← hN5]; exact HQ6.out.lt
        replace HQ6 := Lib.hid (HQ6.out.on9 hbx)
        replace HP := Lib.hid (HP.out.on hbx)
        rw [hv2, hN5]
        refine hK.out _ _ ?_ (fun _ => ?_)
        · exact pbS HP.out
        clear hK K hbx hv2 hN5
        try simp only [Act.put, List.setIfInBounds_toArray, List.set_cons_zero, List.set_cons_succ]
        refine wpAnyH_ready (rs := [6]) (by kernel_rfl) (by simp) ?_
        refine AllReadyH.cons (o := _) rfl (fun K hK => ?_) ?_
        · simp only [List.getElem_toArray, List.getElem_cons_succ, List.getElem_cons_zero]
          go_simp
          with_reducible refine (H1.out _ HP).mono ?_
          rintro e v3 ⟨rfl, hb⟩
          replace HP := Lib.hid (HP.out.on hb)
          replace HQ6 := Lib.hid (HQ6.out.on9 hb)
          replace HQ5 := Lib.hid (HQ5.out.on9 hb)
          refine hK.out _ _ ?_ (fun _ => ?_)
          · exact pbS HP.out
          clear hK K hb
          try simp only [Act.put, List.setIfInBounds_toArray, List.set_cons_zero, List.set_cons_succ]
          refine wpAnyH_ready (rs := [16]) (by kernel_rfl) (by simp) ?_
          refine AllReadyH.cons (o := _) rfl (fun K hK => ?_) ?_
          · simp only [List.getElem_toArray, List.getElem_cons_succ, List.getElem_cons_zero]
            go_simp
            with_reducible refine (H2.out _ HP).mono ?_
            rintro e v4 ⟨rfl, hb⟩
            replace HP := Lib.hid (HP.out.on hb)
            replace HQ6 := Lib.hid (HQ6.out.on9 hb)
            replace HQ5 := Lib.hid (HQ5.out.on9 hb)
            refine hK.out _ _ ?_ (fun _ => ?_)
            · exact pbS HP.out
            clear hK K hb
            try simp only [Act.put, List.setIfInBounds_toArray, List.set_cons_zero, List.set_cons_succ]
            refine wpAnyH_ready (rs := [19]) (by kernel_rfl) (by simp) ?_
            refine AllReadyH.cons (o := _) rfl (fun K hK => ?_) AllReadyH.nil
            obtain ⟨a0, a1, a2, a3⟩ := HQ5.out.cell
            have z0 := HQ5.out.free 0
            have z1 := HQ5.out.free 1
            have z2 := HQ5.out.free 2
            have z3 := HQ5.out.free 3
            have hp := HP.out.put4 A B C D l5
            have hq := HQ5.out.s4 A B C D
            have ho := HQ6.out.same (s4_far v4 N5 0 1 2 3 A B C D N6 (by omega))
            simp only [List.getElem_toArray, List.getElem_cons_succ, List.getElem_cons_zero]
            go_simp
            refine hK.out _ _ ?_ (fun _ => ?_)
            · exact pbS hp
            clear hK K a0 a1 a2 a3 z0 z1 z2 z3
            try simp only [Act.put, List.setIfInBounds_toArray, List.set_cons_zero, List.set_cons_succ]
            replace HP := Lib.hid hp
            replace HQ5 := Lib.hid hq
            replace HQ6 := Lib.hid ho
            clear hp hq ho
            refine wpAnyH_ready (rs := [20]) (by kernel_rfl) (by simp) ?_
            refine AllReadyH.cons (o := _) rfl (fun K hK => ?_) AllReadyH.nil
            obtain ⟨a0, a1, a2, a3⟩ := HQ6.out.cell
            have z0 := HQ6.out.free 0
            have z1 := HQ6.out.free 1
            have z2 := HQ6.out.free 2
            have z3 := HQ6.out.free 3
            have hp := HP.out.put4 A' B' C' D' l6
            have hq := HQ6.out.s4 A' B' C' D'
            have ho := HQ5.out.same (s4_far _ N6 0 1 2 3 A' B' C' D' N5 (by omega))
            simp only [List.getElem_toArray, List.getElem_cons_succ, List.getElem_cons_zero]
            go_simp
            refine hK.out _ _ ?_ (fun _ => ?_)
            · exact pbS hp
            clear hK K a0 a1 a2 a3 z0 z1 z2 z3
            try simp only [Act.put, List.setIfInBounds_toArray, List.set_cons_zero, List.set_cons_succ]
            replace HP := Lib.hid hp
            replace HQ6 := Lib.hid hq
            replace HQ5 := Lib.hid ho
            clear hp hq ho
            refine wpAnyH_done (by kernel_rfl) ?_ _
            try simp only [List.getElem_toArray, List.getElem_cons_succ, List.getElem_cons_zero, List.setIfInBounds_toArray, List.set_cons_zero, List.set_cons_succ]
            go_wp2_with fail
            go_meet
            case rel => exact ⟨N5, N6, rfl, rfl, Lib.hid ⟨HQ5.out, HQ6.out, HP.out⟩⟩
          exact AllReadyH.nil
        exact AllReadyH.nil
      exact AllReadyH.nil
    exact AllReadyH.nil
  case rest =>
    obtain ⟨N5, N6, rfl, rfl, HC⟩ := hcut
    obtain ⟨hq5, hq6, hp⟩ := HC.out
    obtain ⟨a0, a1, a2, a3⟩ := hq5.cell
    obtain ⟨c0, c1, c2, c3⟩ := hq6.cell
    have HL := Lib.hid hp.low
    clear HC hq5 hq6 hp HP H1 H2
    go_wp2_with fail
    with_reducible refine (CU.out _).mono ?_
    rintro e w9 ⟨rfl, hb⟩
    have HL2 := Lib.hid (HL.out.trans (hb.mono HL.out.size))
    clear hb
    go_wp2_with fail
    go_ret
    exact ⟨rfl, HL2.out⟩

end Go.Proofs.YtpdmbmfjeankbaaGreatDoor
