/- Families: the model's draws with months and rates. (Written by wip/gen/fmq.py.) -/
import Derived.Test.YtmnddplkmljeaaaFmd
namespace Go.Proofs.Ytmnddplkmljeaaa
open Go.ChangeShapes Go.WideShapes Go.ChangeAt Go.RowKit
set_option linter.unusedVariables false
set_option linter.unusedSimpArgs false
set_option maxRecDepth 100000

theorem But.farC {B : Nat} {w w' : World} (h : But B w w') (p : Addr) (u : Value) (hp : w.heap.size ≤ p.block) : But B w (w'.setCell p u) :=
  h.low ((Below.refl _ _).setCell hp _)

/-- five values stored into a block -/
theorem put5 {X : Nat} {w : World} (d m v f : Int) (x : Option Addr) (n q : Nat) {vs : List Value} {T : TypeId} (h : Bt w X [.int .i64 0, .int .i64 0, .int .i64 0, .int .i64 0, .slice none 0 0] T) :
    Bt (((((w.setCell ⟨X, 0, none⟩ (.int .i64 d)).setCell ⟨X, 1, none⟩ (.int .i64 m)).setCell ⟨X, 2, none⟩ (.int .i64 v)).setCell ⟨X, 3, none⟩ (.int .i64 f)).setCell ⟨X, 4, none⟩ (.slice x n q)) X [.int .i64 d, .int .i64 m, .int .i64 v, .int .i64 f, .slice x n q] T ∧ Only X w (((((w.setCell ⟨X, 0, none⟩ (.int .i64 d)).setCell ⟨X, 1, none⟩ (.int .i64 m)).setCell ⟨X, 2, none⟩ (.int .i64 v)).setCell ⟨X, 3, none⟩ (.int .i64 f)).setCell ⟨X, 4, none⟩ (.slice x n q)) ∧ Below X w (((((w.setCell ⟨X, 0, none⟩ (.int .i64 d)).setCell ⟨X, 1, none⟩ (.int .i64 m)).setCell ⟨X, 2, none⟩ (.int .i64 v)).setCell ⟨X, 3, none⟩ (.int .i64 f)).setCell ⟨X, 4, none⟩ (.slice x n q)) :=
  ⟨((((h.setT 0 (.int .i64 d)).setT 1 (.int .i64 m)).setT 2 (.int .i64 v)).setT 3 (.int .i64 f)).setT 4 (.slice x n q),
   (((((Only.refl _ _).setCell (p := ⟨X, 0, none⟩) rfl _).setCell (p := ⟨X, 1, none⟩) rfl _).setCell (p := ⟨X, 2, none⟩) rfl _).setCell (p := ⟨X, 3, none⟩) rfl _).setCell (p := ⟨X, 4, none⟩) rfl _,
   (((((Below.refl _ _).setCell (p := ⟨X, 0, none⟩) (Nat.le_refl _) _).setCell (p := ⟨X, 1, none⟩) (Nat.le_refl _) _).setCell (p := ⟨X, 2, none⟩) (Nat.le_refl _) _).setCell (p := ⟨X, 3, none⟩) (Nat.le_refl _) _).setCell (p := ⟨X, 4, none⟩) (Nat.le_refl _) _⟩

/-- a drawn family in its box T, the result's box X, a source in block B -/
structure DQ (B X T : Nat) (a : Option Addr) (l c : Nat) (z : List Int) (d m v f : Int) (x : Option Addr) (n q : Nat) (xs : List Int) (w : World) : Prop where
  ready : Ready B a l c z w
  xb : Bt w X [.int .i64 0, .int .i64 0, .int .i64 0, .int .i64 0, .slice none 0 0] 26
  t : Bt w T [.int .i64 d, .int .i64 m, .int .i64 v, .int .i64 f, .slice x n q] 26
  i : Ints w x n xs
  n1 : X ≠ B
  n2 : T ≠ B
  n3 : X ≠ T
  fx : ∀ y, x = some y → y.block ≠ X ∧ y.block ≠ B
  ln : n ≤ 4096

section
variable {B X T : Nat} {a : Option Addr} {l c : Nat} {z : List Int} {d m v f : Int} {x : Option Addr} {n q : Nat} {xs : List Int} {w w' : World}

theorem DQ.call (h : DQ B X T a l c z d m v f x n q xs w) (ho : But B w w') (hs : Ready B a l c z w') : DQ B X T a l c z d m v f x n q xs w' :=
  ⟨hs, h.xb.butT ho h.n1, h.t.butT ho h.n2, h.i.butT ho (fun y hy => (h.fx y hy).2), h.n1, h.n2, h.n3, h.fx, h.ln⟩

theorem DQ.drew (h : DQ B X T a l c z d m v f x n q xs w) : DQ B X T a l c z d m v f x n q xs w.drew := h.call (But.refl _ _).drew h.ready.drew

theorem DQ.alloc (h : DQ B X T a l c z d m v f x n q xs w) (o : Obj) : DQ B X T a l c z d m v f x n q xs (w.alloc o) := h.call (But.alloc _) (h.ready.alloc _)

theorem dqS (h : DQ B X T a l c z d m v f x n q xs w) : (w.cell? ⟨T, 0, none⟩ = some (.int .i64 d) ∧ w.cell? ⟨T, 1, none⟩ = some (.int .i64 m) ∧ w.cell? ⟨T, 2, none⟩ = some (.int .i64 v) ∧ w.cell? ⟨T, 3, none⟩ = some (.int .i64 f) ∧ w.cell? ⟨T, 4, none⟩ = some (.slice x n q)) ∧ (w.cell? ⟨X, 0, none⟩ = some (.int .i64 0) ∧ w.cell? ⟨X, 1, none⟩ = some (.int .i64 0) ∧ w.cell? ⟨X, 2, none⟩ = some (.int .i64 0) ∧ w.cell? ⟨X, 3, none⟩ = some (.int .i64 0) ∧ w.cell? ⟨X, 4, none⟩ = some (.slice none 0 0)) ∧ (w.frozen? ⟨X, 0, none⟩ = false ∧ w.frozen? ⟨X, 1, none⟩ = false ∧ w.frozen? ⟨X, 2, none⟩ = false ∧ w.frozen? ⟨X, 3, none⟩ = false ∧ w.frozen? ⟨X, 4, none⟩ = false) :=
  ⟨h.t.bx.five, h.xb.bx.five, h.xb.bx.free 0, h.xb.bx.free 1, h.xb.bx.free 2, h.xb.bx.free 3, h.xb.bx.free 4⟩

/-- the family stored into the result -/
theorem DQ.fin (h : DQ B X T a l c z d m v f x n q xs w) : ((((((w.setCell ⟨X, 0, none⟩ (.int .i64 d)).setCell ⟨X, 1, none⟩ (.int .i64 m)).setCell ⟨X, 2, none⟩ (.int .i64 v)).setCell ⟨X, 3, none⟩ (.int .i64 f)).setCell ⟨X, 4, none⟩ (.slice x n q)).cell? ⟨X, 0, none⟩ = some (.int .i64 d) ∧ (((((w.setCell ⟨X, 0, none⟩ (.int .i64 d)).setCell ⟨X, 1, none⟩ (.int .i64 m)).setCell ⟨X, 2, none⟩ (.int .i64 v)).setCell ⟨X, 3, none⟩ (.int .i64 f)).setCell ⟨X, 4, none⟩ (.slice x n q)).cell? ⟨X, 1, none⟩ = some (.int .i64 m) ∧ (((((w.setCell ⟨X, 0, none⟩ (.int .i64 d)).setCell ⟨X, 1, none⟩ (.int .i64 m)).setCell ⟨X, 2, none⟩ (.int .i64 v)).setCell ⟨X, 3, none⟩ (.int .i64 f)).setCell ⟨X, 4, none⟩ (.slice x n q)).cell? ⟨X, 2, none⟩ = some (.int .i64 v) ∧ (((((w.setCell ⟨X, 0, none⟩ (.int .i64 d)).setCell ⟨X, 1, none⟩ (.int .i64 m)).setCell ⟨X, 2, none⟩ (.int .i64 v)).setCell ⟨X, 3, none⟩ (.int .i64 f)).setCell ⟨X, 4, none⟩ (.slice x n q)).cell? ⟨X, 3, none⟩ = some (.int .i64 f) ∧ (((((w.setCell ⟨X, 0, none⟩ (.int .i64 d)).setCell ⟨X, 1, none⟩ (.int .i64 m)).setCell ⟨X, 2, none⟩ (.int .i64 v)).setCell ⟨X, 3, none⟩ (.int .i64 f)).setCell ⟨X, 4, none⟩ (.slice x n q)).cell? ⟨X, 4, none⟩ = some (.slice x n q)) ∧ Ints (((((w.setCell ⟨X, 0, none⟩ (.int .i64 d)).setCell ⟨X, 1, none⟩ (.int .i64 m)).setCell ⟨X, 2, none⟩ (.int .i64 v)).setCell ⟨X, 3, none⟩ (.int .i64 f)).setCell ⟨X, 4, none⟩ (.slice x n q)) x n xs ∧ Only X w (((((w.setCell ⟨X, 0, none⟩ (.int .i64 d)).setCell ⟨X, 1, none⟩ (.int .i64 m)).setCell ⟨X, 2, none⟩ (.int .i64 v)).setCell ⟨X, 3, none⟩ (.int .i64 f)).setCell ⟨X, 4, none⟩ (.slice x n q)) ∧ ((((((w.setCell ⟨X, 0, none⟩ (.int .i64 d)).setCell ⟨X, 1, none⟩ (.int .i64 m)).setCell ⟨X, 2, none⟩ (.int .i64 v)).setCell ⟨X, 3, none⟩ (.int .i64 f)).setCell ⟨X, 4, none⟩ (.slice x n q)).cell? ⟨T, 0, none⟩ = some (.int .i64 d) ∧ (((((w.setCell ⟨X, 0, none⟩ (.int .i64 d)).setCell ⟨X, 1, none⟩ (.int .i64 m)).setCell ⟨X, 2, none⟩ (.int .i64 v)).setCell ⟨X, 3, none⟩ (.int .i64 f)).setCell ⟨X, 4, none⟩ (.slice x n q)).cell? ⟨T, 1, none⟩ = some (.int .i64 m) ∧ (((((w.setCell ⟨X, 0, none⟩ (.int .i64 d)).setCell ⟨X, 1, none⟩ (.int .i64 m)).setCell ⟨X, 2, none⟩ (.int .i64 v)).setCell ⟨X, 3, none⟩ (.int .i64 f)).setCell ⟨X, 4, none⟩ (.slice x n q)).cell? ⟨T, 2, none⟩ = some (.int .i64 v) ∧ (((((w.setCell ⟨X, 0, none⟩ (.int .i64 d)).setCell ⟨X, 1, none⟩ (.int .i64 m)).setCell ⟨X, 2, none⟩ (.int .i64 v)).setCell ⟨X, 3, none⟩ (.int .i64 f)).setCell ⟨X, 4, none⟩ (.slice x n q)).cell? ⟨T, 3, none⟩ = some (.int .i64 f) ∧ (((((w.setCell ⟨X, 0, none⟩ (.int .i64 d)).setCell ⟨X, 1, none⟩ (.int .i64 m)).setCell ⟨X, 2, none⟩ (.int .i64 v)).setCell ⟨X, 3, none⟩ (.int .i64 f)).setCell ⟨X, 4, none⟩ (.slice x n q)).cell? ⟨T, 4, none⟩ = some (.slice x n q)) := by
  obtain ⟨h1, h2, h3⟩ := put5 d m v f x n q (vs := []) h.xb
  exact ⟨h1.bx.five, h.i.butT h2.but (fun y hy => (h.fx y hy).1), h2, (h.t.butT h2.but h.n3.symm).bx.five⟩
end

theorem Ready.only {B X : Nat} {a : Option Addr} {l c : Nat} {z : List Int} {w w' : World} (h : Ready B a l c z w) (ho : Only X w w') (hb : Below X w w') (hX : B < X) : Ready B a l c z w' := h.below hb hX

/-- a family and a number that a draw gives -/
def DrawnM (B : Nat) (a : Option Addr) (l c : Nat) (z : List Int) (w : World) (e : Ending) (w' : World) : Prop :=
  ∃ d m v f x n q xs k, e = .returned (.tuple #[.agg #[.int .i64 d, .int .i64 m, .int .i64 v, .int .i64 f, .slice x n q], .int .i64 k]) ∧ Ints w' x n xs ∧ n ≤ 4096 ∧ (∀ y, x = some y → w.heap.size ≤ y.block) ∧ But B w w' ∧ Ready B a l c z w'

theorem drate_any (B : Nat) (a : Option Addr) (l c : Nat) (z : List Int) (w : World) (h : Ready B a l c z w) : Calls Try.prog 73 #[.pointer (some ⟨B, 0, none⟩)] w (NumPost B a l c z (fun _ => True) w) := by
  have H := Lib.hid h
  clear h
  go_enter Try.func73, Try.ntmps73
  go_wp2_with fail
  refine (next_r B a l c z _ _ H.out).mono ?_
  rintro e w1 ⟨r, rfl, hd, ho, hs⟩
  have HS := Lib.hid hs
  have HO := Lib.hid ho
  clear hd ho hs
  by_cases hr : r = 0
  · subst hr
    go_wp2_with fail
    refine (pick4 B _ _ _ _ _ _ HS.out).mono ?_
    rintro e w2 ⟨p, rfl, hd, ho, hs⟩
    have HS2 := Lib.hid hs
    have HO2 := Lib.hid (HO.out.trans ho)
    clear hd ho hs
    go_wp2_with fail
    go_ret
    exact ⟨_, rfl, trivial, HO2.out, HS2.out⟩
  · have hr' : (r == 0) = false := by simpa using hr
    clear hr
    go_wp2_with fail
    refine (next_r B a l c z _ _ HS.out).mono ?_
    rintro e w2 ⟨p, rfl, hd, ho, hs⟩
    have HS2 := Lib.hid hs
    have HO2 := Lib.hid (HO.out.trans ho)
    clear hd ho hs
    go_wp2_with fail
    go_ret
    exact ⟨_, rfl, trivial, HO2.out, HS2.out⟩

set_option maxHeartbeats 4000000 in
theorem dmon_any (B : Nat) (a : Option Addr) (l c : Nat) (z : List Int) (w : World) (h : Ready B a l c z w) : Calls Try.prog 70 #[.pointer (some ⟨B, 0, none⟩)] w (DrawnM B a l c z w) := by
  have H := Lib.hid h
  have hB := h.here
  have HX := Lib.hid (Bt.new w [.int .i64 0, .int .i64 0, .int .i64 0, .int .i64 0, .slice none 0 0] 26)
  clear h
  go_enter Try.func70, Try.ntmps70
  go_wp2_with fail
  refine (dfam_any B a l c z _ (H.out.alloc _)).mono ?_
  rintro e w1 ⟨d, m, v, f, x, n, q, xs, rfl, hi, hn, hx, ho, hs⟩
  rw [World.size_alloc] at hx
  have hsz : w.heap.size + 1 ≤ w1.heap.size := by have := ho.size; simpa using this
  have HD : Hid (DQ B w.heap.size w1.heap.size a l c z d m v f x n q xs (w1.alloc (.cells #[.int .i64 d, .int .i64 m, .int .i64 v, .int .i64 f, .slice x n q] 26))) := Lib.hid
    ⟨hs.alloc _, (HX.out.butT ho (by omega)).on (box_b _ _), Bt.new w1 [.int .i64 d, .int .i64 m, .int .i64 v, .int .i64 f, .slice x n q] 26, hi.on (box_b _ _), by omega, by omega, by omega, fun y hy => by have := hx y hy; omega, hn⟩
  have HLO : Hid (But B w (w1.alloc (.cells #[.int .i64 d, .int .i64 m, .int .i64 v, .int .i64 f, .slice x n q] 26))) := Lib.hid (((But.alloc _).trans ho).trans (But.alloc _))
  have HFX := Lib.hid hx
  have HBX : Hid (B < w.heap.size) := Lib.hid hB
  obtain ⟨W1, hW1⟩ : ∃ y_, w1.alloc (.cells #[.int .i64 d, .int .i64 m, .int .i64 v, .int .i64 f, .slice x n q] 26) = y_ := ⟨_, rfl⟩
  obtain ⟨T, hT⟩ : ∃ y_, w1.heap.size = y_ := ⟨_, rfl⟩
  obtain ⟨X, hXX⟩ : ∃ y_, w.heap.size = y_ := ⟨_, rfl⟩
  rw [hW1, hT, hXX] at HD
  rw [hW1] at HLO
  have HEX := Lib.hid hXX
  clear hi hn hx ho hs HX H hsz
  go_wp2_with fail
  (try rw [hW1])
  (try rw [hT])
  (try rw [hXX])
  clear hW1 hT
  refine (next_r B a l c z _ _ HD.out.ready).mono ?_
  rintro e w2 ⟨r2, rfl, hd, ho, hs⟩
  have HD := Lib.hid (HD.out.call ho hs)
  have HLO := Lib.hid (HLO.out.trans ho)
  clear hd ho hs hXX hB
  by_cases hr : r2 = 0
  · subst hr
    go_wp2_with fail
    have HD := Lib.hid HD.out.drew
    have HLO := Lib.hid HLO.out.drew
    refine wp_region_held_drew (S := (fun W9 => W9.cell? ⟨T, 0, none⟩ = some (.int .i64 d) ∧ W9.cell? ⟨T, 1, none⟩ = some (.int .i64 m) ∧ W9.cell? ⟨T, 2, none⟩ = some (.int .i64 v) ∧ W9.cell? ⟨T, 3, none⟩ = some (.int .i64 f) ∧ W9.cell? ⟨T, 4, none⟩ = some (.slice x n q))) (by kernel_rfl) (dqS HD.out).1 (fun hHeld => ?_)
    refine wpAnyH_take (i := 0) (v := ?_) rfl (by kernel_rfl) (by kernel_rfl) (by kernel_rfl) (fun _ _ _ h => h) (Or.inl ⟨by kernel_rfl, ?_⟩) (by assumption) ?_
    rotate_left
    · (intro w hSw; (try dsimp only at hSw); go_split_ands; go_simp; try with_reducible rfl)
    try simp only [Act.put, List.setIfInBounds_toArray, List.set_cons_zero, List.set_cons_succ]
    refine wpAnyH_take (i := 1) (v := ?_) rfl (by kernel_rfl) (by kernel_rfl) (by kernel_rfl) (fun _ _ _ h => h) (Or.inl ⟨by kernel_rfl, ?_⟩) (by assumption) ?_
    rotate_left
    · (intro w hSw; (try dsimp only at hSw); go_split_ands; go_simp; try with_reducible rfl)
    try simp only [Act.put, List.setIfInBounds_toArray, List.set_cons_zero, List.set_cons_succ]
    refine wpAnyH_ready (rs := [2]) (by kernel_rfl) (by simp) ?_
    refine AllReadyH.cons (o := _) rfl (fun K hK => ?_) AllReadyH.nil
    try simp only [List.getElem_toArray, List.getElem_cons_succ, List.getElem_cons_zero]
    go_simp
    have HDa := Lib.hid (HD.out.alloc (.cells #[.int .i64 (-1), .int .i64 0, .int .i64 35999, .int .i64 36000] 2))
    refine hK.out _ _ ?_ (fun hHeld => ?_)
    · exact (dqS HDa.out).1
    clear hK K
    try simp only [Act.put, List.setIfInBounds_toArray, List.set_cons_zero, List.set_cons_succ]
    refine wpAnyH_ready (rs := [3]) (by kernel_rfl) (by simp) ?_
    refine AllReadyH.cons (o := _) rfl (fun K hK => ?_) AllReadyH.nil
    try simp only [List.getElem_toArray, List.getElem_cons_succ, List.getElem_cons_zero]
    go_simp
    refine (pick4 B _ _ _ _ _ _ HD.out.ready).mono ?_
    rintro e w3 ⟨r3, rfl, hd, ho, hs⟩
    have HD := Lib.hid (HD.out.call ho hs)
    have HLO := Lib.hid (HLO.out.trans ho)
    clear hd ho hs HDa
    refine hK.out _ _ ?_ (fun hHeld => ?_)
    · exact (dqS HD.out).1
    clear hK K
    try simp only [Act.put, List.setIfInBounds_toArray, List.set_cons_zero, List.set_cons_succ]
    obtain ⟨-, ⟨x0, x1, x2, x3, x4⟩, u0, u1, u2, u3, u4⟩ := dqS HD.out
    obtain ⟨⟨e0, e1, e2, e3, e4⟩, hi, hX, hT⟩ := HD.out.fin
    refine wpAnyH_ready (rs := [4]) (by kernel_rfl) (by simp) ?_
    refine AllReadyH.cons (o := _) rfl (fun K hK => ?_) AllReadyH.nil
    try simp only [List.getElem_toArray, List.getElem_cons_succ, List.getElem_cons_zero]
    go_simp
    refine hK.out _ _ ?_ (fun hHeld => ?_)
    · exact hT
    clear hK K
    try simp only [Act.put, List.setIfInBounds_toArray, List.set_cons_zero, List.set_cons_succ]
    clear x0 x1 x2 x3 x4 u0 u1 u2 u3 u4 hT
    refine wpAnyH_take (i := 5) (v := ?_) rfl (by kernel_rfl) (by kernel_rfl) (by kernel_rfl) (fun _ _ _ h => h) (Or.inl ⟨by kernel_rfl, ?_⟩) (by assumption) ?_
    rotate_left
    · (intro w hSw; (try dsimp only at hSw); go_split_ands; go_simp; try with_reducible rfl)
    try simp only [Act.put, List.setIfInBounds_toArray, List.set_cons_zero, List.set_cons_succ]
    refine wpAnyH_done (by kernel_rfl) ?_ _
    try simp only [List.getElem_toArray, List.getElem_cons_succ, List.getElem_cons_zero, List.setIfInBounds_toArray, List.set_cons_zero, List.set_cons_succ]
    go_wp2_with fail
    have hEX := HEX.out
    have hlow := (put5 d m v f x n q (vs := []) HD.out.xb).2.2
    refine bodyPost_ret (v := .tuple #[.agg #[.int .i64 d, .int .i64 m, .int .i64 v, .int .i64 f, .slice x n q], .int .i64 r3]) ?_ rfl ⟨d, m, v, f, x, n, q, xs, r3, rfl, hi, HD.out.ln, fun y hy => by have := HFX.out y hy; omega, HLO.out.low (by rw [hEX]; exact hlow), HD.out.ready.below hlow (by have := HBX.out; omega)⟩
    simp [results, Try.results70, go_sem, e0, e1, e2, e3, e4]
  · have hr' : (r2 == 0) = false := by simpa using hr
    clear hr
    obtain ⟨g5, q5⟩ : ∃ y_, IntKind.i64.wrap (d - 5) = y_ := ⟨_, rfl⟩
    go_wp2_with fail
    have HD := Lib.hid HD.out.drew
    have HLO := Lib.hid HLO.out.drew
    refine wp_region_held_drew (S := (fun W9 => W9.cell? ⟨T, 0, none⟩ = some (.int .i64 d) ∧ W9.cell? ⟨T, 1, none⟩ = some (.int .i64 m) ∧ W9.cell? ⟨T, 2, none⟩ = some (.int .i64 v) ∧ W9.cell? ⟨T, 3, none⟩ = some (.int .i64 f) ∧ W9.cell? ⟨T, 4, none⟩ = some (.slice x n q))) (by kernel_rfl) (dqS HD.out).1 (fun hHeld => ?_)
    refine wpAnyH_take (i := 0) (v := ?_) rfl (by kernel_rfl) (by kernel_rfl) (by kernel_rfl) (fun _ _ _ h => h) (Or.inl ⟨by kernel_rfl, ?_⟩) (by assumption) ?_
    rotate_left
    · (intro w hSw; (try dsimp only at hSw); go_split_ands; go_simp; try with_reducible rfl)
    try simp only [Act.put, List.setIfInBounds_toArray, List.set_cons_zero, List.set_cons_succ]
    refine wpAnyH_take (i := 1) (v := ?_) rfl (by kernel_rfl) (by kernel_rfl) (by kernel_rfl) (fun _ _ _ h => h) (Or.inl ⟨by kernel_rfl, ?_⟩) (by assumption) ?_
    rotate_left
    · (intro w hSw; (try dsimp only at hSw); go_split_ands; go_simp; try with_reducible rfl)
    try simp only [Act.put, List.setIfInBounds_toArray, List.set_cons_zero, List.set_cons_succ]
    refine wpAnyH_take (i := 2) (v := ?_) rfl (by kernel_rfl) (by kernel_rfl) (by kernel_rfl) (fun _ _ _ h => h) (Or.inl ⟨by kernel_rfl, ?_⟩) (by assumption) ?_
    rotate_left
    · (intro w hSw; (try dsimp only at hSw); go_split_ands; go_simp; try with_reducible rfl)
    try simp only [Act.put, List.setIfInBounds_toArray, List.set_cons_zero, List.set_cons_succ]
    refine wpAnyH_take (i := 3) (v := ?_) rfl (by kernel_rfl) (by kernel_rfl) (by kernel_rfl) (fun _ _ _ h => h) (Or.inl ⟨by kernel_rfl, ?_⟩) (by assumption) ?_
    rotate_left
    · (intro w hSw; (try dsimp only at hSw); go_split_ands; go_simp; try with_reducible rfl)
    try simp only [Act.put, List.setIfInBounds_toArray, List.set_cons_zero, List.set_cons_succ]
    refine wpAnyH_take (i := 4) (v := ?_) rfl (by kernel_rfl) (by kernel_rfl) (by kernel_rfl) (fun _ _ _ h => h) (Or.inl ⟨by kernel_rfl, ?_⟩) (by assumption) ?_
    rotate_left
    · (intro w hSw; (try dsimp only at hSw); go_split_ands; go_simp; try with_reducible rfl)
    try simp only [Act.put, List.setIfInBounds_toArray, List.set_cons_zero, List.set_cons_succ]
    refine wpAnyH_ready (rs := [5]) (by kernel_rfl) (by simp) ?_
    refine AllReadyH.cons (o := _) rfl (fun K hK => ?_) AllReadyH.nil
    try simp only [List.getElem_toArray, List.getElem_cons_succ, List.getElem_cons_zero]
    go_simp
    refine (next_r B a l c z _ _ HD.out.ready).mono ?_
    rintro e w3 ⟨r3, rfl, hd, ho, hs⟩
    have HD := Lib.hid (HD.out.call ho hs)
    have HLO := Lib.hid (HLO.out.trans ho)
    clear hd ho hs
    refine hK.out _ _ ?_ (fun hHeld => ?_)
    · exact (dqS HD.out).1
    clear hK K
    try simp only [Act.put, List.setIfInBounds_toArray, List.set_cons_zero, List.set_cons_succ]
    obtain ⟨k3, q6⟩ : ∃ y_, IntKind.i64.wrap (g5 + r3) = y_ := ⟨_, rfl⟩
    refine wpAnyH_take (i := 6) (v := ?_) rfl (by kernel_rfl) (by kernel_rfl) (by kernel_rfl) (fun _ _ _ h => h) (Or.inl ⟨by kernel_rfl, ?_⟩) (by assumption) ?_
    rotate_left
    · (intro w hSw; (try dsimp only at hSw); go_split_ands; go_simp; try with_reducible rfl)
    try simp only [Act.put, List.setIfInBounds_toArray, List.set_cons_zero, List.set_cons_succ]
    obtain ⟨-, ⟨x0, x1, x2, x3, x4⟩, u0, u1, u2, u3, u4⟩ := dqS HD.out
    obtain ⟨⟨e0, e1, e2, e3, e4⟩, hi, hX, hT⟩ := HD.out.fin
    refine wpAnyH_ready (rs := [7]) (by kernel_rfl) (by simp) ?_
    refine AllReadyH.cons (o := _) rfl (fun K hK => ?_) AllReadyH.nil
    try simp only [List.getElem_toArray, List.getElem_cons_succ, List.getElem_cons_zero]
    go_simp
    refine hK.out _ _ ?_ (fun hHeld => ?_)
    · exact hT
    clear hK K
    try simp only [Act.put, List.setIfInBounds_toArray, List.set_cons_zero, List.set_cons_succ]
    clear x0 x1 x2 x3 x4 u0 u1 u2 u3 u4 hT
    refine wpAnyH_take (i := 8) (v := ?_) rfl (by kernel_rfl) (by kernel_rfl) (by kernel_rfl) (fun _ _ _ h => h) (Or.inl ⟨by kernel_rfl, ?_⟩) (by assumption) ?_
    rotate_left
    · (intro w hSw; (try dsimp only at hSw); go_split_ands; go_simp; try with_reducible rfl)
    try simp only [Act.put, List.setIfInBounds_toArray, List.set_cons_zero, List.set_cons_succ]
    refine wpAnyH_done (by kernel_rfl) ?_ _
    try simp only [List.getElem_toArray, List.getElem_cons_succ, List.getElem_cons_zero, List.setIfInBounds_toArray, List.set_cons_zero, List.set_cons_succ]
    go_wp2_with fail
    have hEX := HEX.out
    have hlow := (put5 d m v f x n q (vs := []) HD.out.xb).2.2
    refine bodyPost_ret (v := .tuple #[.agg #[.int .i64 d, .int .i64 m, .int .i64 v, .int .i64 f, .slice x n q], .int .i64 k3]) ?_ rfl ⟨d, m, v, f, x, n, q, xs, k3, rfl, hi, HD.out.ln, fun y hy => by have := HFX.out y hy; omega, HLO.out.low (by rw [hEX]; exact hlow), HD.out.ready.below hlow (by have := HBX.out; omega)⟩
    simp [results, Try.results70, go_sem, e0, e1, e2, e3, e4]

end Go.Proofs.Ytmnddplkmljeaaa
