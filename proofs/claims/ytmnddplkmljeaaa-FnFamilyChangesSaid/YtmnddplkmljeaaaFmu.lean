/- Families: what a law draws. (Written by wip/gen/fmu.py.) -/
import Derived.Test.YtmnddplkmljeaaaFmq
namespace Go.Proofs.Ytmnddplkmljeaaa
open Go.ChangeShapes Go.WideShapes Go.ChangeAt Go.RowKit
set_option linter.unusedVariables false
set_option linter.unusedSimpArgs false
set_option maxRecDepth 100000

def FoP (w : World) (e : Ending) (w' : World) : Prop := ∃ d m v f x n q xs, e = .returned (.agg #[.int .i64 d, .int .i64 m, .int .i64 v, .int .i64 f, .slice x n q]) ∧ Ints w' x n xs ∧ n ≤ 4096 ∧ Below w.heap.size w w'

def FkP (w : World) (e : Ending) (w' : World) : Prop := ∃ d m v f x n q xs k, e = .returned (.tuple #[.agg #[.int .i64 d, .int .i64 m, .int .i64 v, .int .i64 f, .slice x n q], .int .i64 k]) ∧ Ints w' x n xs ∧ n ≤ 4096 ∧ Below w.heap.size w w'

def FrP (w : World) (e : Ending) (w' : World) : Prop := ∃ d m v f x n q xs k p o, e = .returned (.tuple #[.agg #[.int .i64 d, .int .i64 m, .int .i64 v, .int .i64 f, .slice x n q], .int .i64 k, .int .i64 p, .int .i64 o]) ∧ Ints w' x n xs ∧ n ≤ 4096 ∧ Below w.heap.size w w'

def FbP (w : World) (e : Ending) (w' : World) : Prop := ∃ d m v f x n q xs g t p o, e = .returned (.tuple #[.agg #[.int .i64 d, .int .i64 m, .int .i64 v, .int .i64 f, .slice x n q], .int .i64 g, .int .i64 t, .int .i64 p, .int .i64 o]) ∧ Ints w' x n xs ∧ n ≤ 4096 ∧ Below w.heap.size w w'

set_option maxHeartbeats 4000000 in
theorem dnx_any (a : Option Addr) (l c : Nat) (z : List Int) (w : World) (hr : IsRow .u8 w a l c z) : Calls Try.prog 30 #[.slice a l c] w (FkP w) := by
  have HR := Lib.hid (hr.below (box_b w (.cells #[.int .i64 0, .int .i64 0, .int .i64 0, .int .i64 0, .slice none 0 0] 26)) hr.apart)
  have HX0 := Lib.hid (Bt.new w [.int .i64 0, .int .i64 0, .int .i64 0, .int .i64 0, .slice none 0 0] 26)
  clear hr
  go_enter Try.func30, Try.ntmps30
  go_wp2_with fail
  refine (from_any _ _ _ z _ HR.out).mono ?_
  rintro e w1 ⟨rfl, hs, hz, hb⟩
  have HS : Hid (Ready (w.heap.size + 1) a l c z w1) := Lib.hid (by have := ready_of HR.out hs hb; rw [World.size_alloc] at this; exact this)
  have HX1 := Lib.hid (HX0.out.on hb)
  have HL1 : Hid (Below w.heap.size w w1) := Lib.hid ((box_b w _).trans (hb.mono (by simp)))
  clear hs hz hb HX0
  go_wp2_with fail
  refine (dmon_any (w.heap.size + 1) a l c z _ HS.out).mono ?_
  rintro e w2 ⟨d, m, v, f, x, n, q, xs, k, rfl, hi, hn, hx, ho, hs⟩
  have HX2 := Lib.hid (HX1.out.butT ho (by omega))
  have HI := Lib.hid hi
  have HN := Lib.hid hn
  have HF := Lib.hid hx
  have HL2 := Lib.hid (HL1.out.trans (ho.below (by omega) HL1.out.size))
  have HSZ := Lib.hid HX1.out.lt
  obtain ⟨x0, x1, x2, x3, x4⟩ := HX2.out.bx.five
  have u0 := HX2.out.bx.free 0
  have u1 := HX2.out.bx.free 1
  have u2 := HX2.out.bx.free 2
  have u3 := HX2.out.bx.free 3
  have u4 := HX2.out.bx.free 4
  clear hi hn hx ho hs HX1 HL1
  go_wp2_with fail
  obtain ⟨h1, h2, h3⟩ := put5 d m v f x n q (vs := []) HX2.out
  obtain ⟨e0, e1, e2, e3, e4⟩ := h1.bx.five
  refine bodyPost_ret (v := .tuple #[.agg #[.int .i64 d, .int .i64 m, .int .i64 v, .int .i64 f, .slice x n q], .int .i64 k]) ?_ rfl ⟨d, m, v, f, x, n, q, xs, k, rfl, HI.out.butT h2.but (fun y hy => by have := HF.out y hy; have := HSZ.out; omega), HN.out, HL2.out.trans h3⟩
  simp [results, Try.results30, go_sem, e0, e1, e2, e3, e4]

set_option maxHeartbeats 4000000 in
theorem drm_any (a : Option Addr) (l c : Nat) (z : List Int) (w : World) (hr : IsRow .u8 w a l c z) : Calls Try.prog 36 #[.slice a l c] w (FkP w) := by
  have HR := Lib.hid (hr.below (box_b w (.cells #[.int .i64 0, .int .i64 0, .int .i64 0, .int .i64 0, .slice none 0 0] 26)) hr.apart)
  have HX0 := Lib.hid (Bt.new w [.int .i64 0, .int .i64 0, .int .i64 0, .int .i64 0, .slice none 0 0] 26)
  clear hr
  go_enter Try.func36, Try.ntmps36
  go_wp2_with fail
  refine (from_any _ _ _ z _ HR.out).mono ?_
  rintro e w1 ⟨rfl, hs, hz, hb⟩
  have HS : Hid (Ready (w.heap.size + 1) a l c z w1) := Lib.hid (by have := ready_of HR.out hs hb; rw [World.size_alloc] at this; exact this)
  have HX1 := Lib.hid (HX0.out.on hb)
  have HL1 : Hid (Below w.heap.size w w1) := Lib.hid ((box_b w _).trans (hb.mono (by simp)))
  clear hs hz hb HX0
  go_wp2_with fail
  refine (dmon_any (w.heap.size + 1) a l c z _ HS.out).mono ?_
  rintro e w2 ⟨d, m, v, f, x, n, q, xs, k, rfl, hi, hn, hx, ho, hs⟩
  have HX2 := Lib.hid (HX1.out.butT ho (by omega))
  have HI := Lib.hid hi
  have HN := Lib.hid hn
  have HF := Lib.hid hx
  have HL2 := Lib.hid (HL1.out.trans (ho.below (by omega) HL1.out.size))
  have HSZ := Lib.hid HX1.out.lt
  obtain ⟨x0, x1, x2, x3, x4⟩ := HX2.out.bx.five
  have u0 := HX2.out.bx.free 0
  have u1 := HX2.out.bx.free 1
  have u2 := HX2.out.bx.free 2
  have u3 := HX2.out.bx.free 3
  have u4 := HX2.out.bx.free 4
  clear hi hn hx ho hs HX1 HL1
  go_wp2_with fail
  obtain ⟨h1, h2, h3⟩ := put5 d m v f x n q (vs := []) HX2.out
  obtain ⟨e0, e1, e2, e3, e4⟩ := h1.bx.five
  refine bodyPost_ret (v := .tuple #[.agg #[.int .i64 d, .int .i64 m, .int .i64 v, .int .i64 f, .slice x n q], .int .i64 k]) ?_ rfl ⟨d, m, v, f, x, n, q, xs, k, rfl, HI.out.butT h2.but (fun y hy => by have := HF.out y hy; have := HSZ.out; omega), HN.out, HL2.out.trans h3⟩
  simp [results, Try.results36, go_sem, e0, e1, e2, e3, e4]

set_option maxHeartbeats 4000000 in
theorem den_any (a : Option Addr) (l c : Nat) (z : List Int) (w : World) (hr : IsRow .u8 w a l c z) : Calls Try.prog 33 #[.slice a l c] w (FoP w) := by
  have HR := Lib.hid (hr.below (box_b w (.cells #[.int .i64 0, .int .i64 0, .int .i64 0, .int .i64 0, .slice none 0 0] 26)) hr.apart)
  have HX0 := Lib.hid (Bt.new w [.int .i64 0, .int .i64 0, .int .i64 0, .int .i64 0, .slice none 0 0] 26)
  clear hr
  go_enter Try.func33, Try.ntmps33
  go_wp2_with fail
  refine (from_any _ _ _ z _ HR.out).mono ?_
  rintro e w1 ⟨rfl, hs, hz, hb⟩
  have HS : Hid (Ready (w.heap.size + 1) a l c z w1) := Lib.hid (by have := ready_of HR.out hs hb; rw [World.size_alloc] at this; exact this)
  have HX1 := Lib.hid (HX0.out.on hb)
  have HL1 : Hid (Below w.heap.size w w1) := Lib.hid ((box_b w _).trans (hb.mono (by simp)))
  clear hs hz hb HX0
  go_wp2_with fail
  refine (dfam_any (w.heap.size + 1) a l c z _ HS.out).mono ?_
  rintro e w2 ⟨d, m, v, f, x, n, q, xs, rfl, hi, hn, hx, ho, hs⟩
  have HX2 := Lib.hid (HX1.out.butT ho (by omega))
  have HI := Lib.hid hi
  have HN := Lib.hid hn
  have HF := Lib.hid hx
  have HL2 := Lib.hid (HL1.out.trans (ho.below (by omega) HL1.out.size))
  have HSZ := Lib.hid HX1.out.lt
  obtain ⟨x0, x1, x2, x3, x4⟩ := HX2.out.bx.five
  have u0 := HX2.out.bx.free 0
  have u1 := HX2.out.bx.free 1
  have u2 := HX2.out.bx.free 2
  have u3 := HX2.out.bx.free 3
  have u4 := HX2.out.bx.free 4
  clear hi hn hx ho hs HX1 HL1
  go_wp2_with fail
  obtain ⟨h1, h2, h3⟩ := put5 d m v f x n q (vs := []) HX2.out
  obtain ⟨e0, e1, e2, e3, e4⟩ := h1.bx.five
  refine bodyPost_ret (v := .agg #[.int .i64 d, .int .i64 m, .int .i64 v, .int .i64 f, .slice x n q]) ?_ rfl ⟨d, m, v, f, x, n, q, xs, rfl, HI.out.butT h2.but (fun y hy => by have := HF.out y hy; have := HSZ.out; omega), HN.out, HL2.out.trans h3⟩
  simp [results, Try.results33, go_sem, e0, e1, e2, e3, e4]

set_option maxHeartbeats 4000000 in
theorem dpi_any (a : Option Addr) (l c : Nat) (z : List Int) (w : World) (hr : IsRow .u8 w a l c z) : Calls Try.prog 19 #[.slice a l c] w (FrP w) := by
  have HR := Lib.hid (hr.below (box_b w (.cells #[.int .i64 0, .int .i64 0, .int .i64 0, .int .i64 0, .slice none 0 0] 26)) hr.apart)
  have HX0 := Lib.hid (Bt.new w [.int .i64 0, .int .i64 0, .int .i64 0, .int .i64 0, .slice none 0 0] 26)
  clear hr
  go_enter Try.func19, Try.ntmps19
  go_wp2_with fail
  refine (from_any _ _ _ z _ HR.out).mono ?_
  rintro e w1 ⟨rfl, hs, hz, hb⟩
  have HS : Hid (Ready (w.heap.size + 1) a l c z w1) := Lib.hid (by have := ready_of HR.out hs hb; rw [World.size_alloc] at this; exact this)
  have HX1 := Lib.hid (HX0.out.on hb)
  have HL1 : Hid (Below w.heap.size w w1) := Lib.hid ((box_b w _).trans (hb.mono (by simp)))
  clear hs hz hb HX0
  go_wp2_with fail
  refine (dmon_any (w.heap.size + 1) a l c z _ HS.out).mono ?_
  rintro e w2 ⟨d, m, v, f, x, n, q, xs, k, rfl, hi, hn, hx, ho, hs⟩
  have hsz1 := HX1.out.lt
  have hsz2 := ho.size
  have hBl := HS.out.here
  have HD : Hid (DQ (w.heap.size + 1) w.heap.size w2.heap.size a l c z d m v f x n q xs (w2.alloc (.cells #[.int .i64 d, .int .i64 m, .int .i64 v, .int .i64 f, .slice x n q] 26))) := Lib.hid
    ⟨hs.alloc _, (HX1.out.butT ho (by omega)).on (box_b _ _), Bt.new w2 [.int .i64 d, .int .i64 m, .int .i64 v, .int .i64 f, .slice x n q] 26, hi.on (box_b _ _), by omega, by omega, by omega, fun y hy => by have := hx y hy; omega, hn⟩
  have HLO : Hid (Below w.heap.size w (w2.alloc (.cells #[.int .i64 d, .int .i64 m, .int .i64 v, .int .i64 f, .slice x n q] 26))) := Lib.hid ((HL1.out.trans (ho.below (by omega) HL1.out.size)).alloc (by omega) _)
  have HTW : Hid (w.heap.size ≤ w2.heap.size) := Lib.hid (by omega)
  obtain ⟨W1, hW1⟩ : ∃ y_, w2.alloc (.cells #[.int .i64 d, .int .i64 m, .int .i64 v, .int .i64 f, .slice x n q] 26) = y_ := ⟨_, rfl⟩
  obtain ⟨T, hT⟩ : ∃ y_, w2.heap.size = y_ := ⟨_, rfl⟩
  obtain ⟨X, hXX⟩ : ∃ y_, w.heap.size = y_ := ⟨_, rfl⟩
  rw [hW1, hT, hXX] at HD
  rw [hW1] at HLO
  have HEX := Lib.hid hXX
  clear hi hn hx ho hs HR HS HX1 HL1 hsz1 hsz2 hBl
  go_wp2_with fail
  (try rw [hW1])
  (try rw [hT])
  (try rw [hXX])
  clear hW1 hT
  (try rw [hXX])
  clear hXX
  have HD := Lib.hid HD.out.drew
  have HLO := Lib.hid HLO.out.drew
  refine wp_region_held_drew (S := (fun W9 => W9.cell? ⟨T, 0, none⟩ = some (.int .i64 d) ∧ W9.cell? ⟨T, 1, none⟩ = some (.int .i64 m) ∧ W9.cell? ⟨T, 2, none⟩ = some (.int .i64 v) ∧ W9.cell? ⟨T, 3, none⟩ = some (.int .i64 f) ∧ W9.cell? ⟨T, 4, none⟩ = some (.slice x n q))) (by kernel_rfl) (dqS HD.out).1 (fun hHeld => ?_)
  refine wpAnyH_take (i := 0) (v := ?_) rfl (by kernel_rfl) (by kernel_rfl) (by kernel_rfl) (fun _ _ _ h => h) (Or.inl ⟨by kernel_rfl, ?_⟩) (by assumption) ?_
  rotate_left
  · (intro w hSw; (try dsimp only at hSw); go_split_ands; go_simp; try with_reducible rfl)
  try simp only [Act.put, List.setIfInBounds_toArray, List.set_cons_zero, List.set_cons_succ]
  refine wpAnyH_take (i := 1) (v := ?_) rfl (by kernel_rfl) (by kernel_rfl) (by kernel_rfl) (fun _ _ _ h => h) (Or.inl ⟨by kernel_rfl, ?_⟩) (by assumption) ?_
  rotate_left
  · (intro w hSw; (try dsimp only at hSw); go_split_ands; go_simp; try with_reducible rfl)
  try simp only [Act.put, List.setIfInBounds_toArray, List.set_cons_zero, List.set_cons_succ]
  refine wpAnyH_take (i := 2) (v := ?_) rfl (by kernel_rfl) (by kernel_rfl) (by kernel_rfl) (fun _ _ _ h => h) (Or.inl ⟨by kernel_rfl, ?_⟩) (by assumption) ?_
  rotate_left
  · (intro w hSw; (try dsimp only at hSw); go_split_ands; go_simp; try with_reducible rfl)
  try simp only [Act.put, List.setIfInBounds_toArray, List.set_cons_zero, List.set_cons_succ]
  refine wpAnyH_take (i := 4) (v := ?_) rfl (by kernel_rfl) (by kernel_rfl) (by kernel_rfl) (fun _ _ _ h => h) (Or.inl ⟨by kernel_rfl, ?_⟩) (by assumption) ?_
  rotate_left
  · (intro w hSw; (try dsimp only at hSw); go_split_ands; go_simp; try with_reducible rfl)
  try simp only [Act.put, List.setIfInBounds_toArray, List.set_cons_zero, List.set_cons_succ]
  refine wpAnyH_ready (rs := [3]) (by kernel_rfl) (by simp) ?_
  refine AllReadyH.cons (o := _) rfl (fun K hK => ?_) AllReadyH.nil
  try simp only [List.getElem_toArray, List.getElem_cons_succ, List.getElem_cons_zero]
  go_simp
  refine (drate_any (X + 1) a l c z _ HD.out.ready).mono ?_
  rintro e w5 ⟨r5, rfl, hd, ho, hs⟩
  have HD := Lib.hid (HD.out.call ho hs)
  have HLO := Lib.hid (HLO.out.trans (ho.below (by have := HEX.out; omega) HLO.out.size))
  clear hd ho hs
  refine hK.out _ _ ?_ (fun hHeld => ?_)
  · exact (dqS HD.out).1
  clear hK K
  try simp only [Act.put, List.setIfInBounds_toArray, List.set_cons_zero, List.set_cons_succ]
  refine wpAnyH_ready (rs := [5]) (by kernel_rfl) (by simp) ?_
  refine AllReadyH.cons (o := _) rfl (fun K hK => ?_) AllReadyH.nil
  try simp only [List.getElem_toArray, List.getElem_cons_succ, List.getElem_cons_zero]
  go_simp
  refine (drate_any (X + 1) a l c z _ HD.out.ready).mono ?_
  rintro e w6 ⟨r6, rfl, hd, ho, hs⟩
  have HD := Lib.hid (HD.out.call ho hs)
  have HLO := Lib.hid (HLO.out.trans (ho.below (by have := HEX.out; omega) HLO.out.size))
  clear hd ho hs
  refine hK.out _ _ ?_ (fun hHeld => ?_)
  · exact (dqS HD.out).1
  clear hK K
  try simp only [Act.put, List.setIfInBounds_toArray, List.set_cons_zero, List.set_cons_succ]
  obtain ⟨-, ⟨x0, x1, x2, x3, x4⟩, u0, u1, u2, u3, u4⟩ := dqS HD.out
  obtain ⟨⟨e0, e1, e2, e3, e4⟩, hi, hX, hT⟩ := HD.out.fin
  refine wpAnyH_ready (rs := [6]) (by kernel_rfl) (by simp) ?_
  refine AllReadyH.cons (o := _) rfl (fun K hK => ?_) AllReadyH.nil
  try simp only [List.getElem_toArray, List.getElem_cons_succ, List.getElem_cons_zero]
  go_simp
  refine hK.out _ _ ?_ (fun hHeld => ?_)
  · exact hT
  clear hK K
  try simp only [Act.put, List.setIfInBounds_toArray, List.set_cons_zero, List.set_cons_succ]
  clear x0 x1 x2 x3 x4 u0 u1 u2 u3 u4 hT
  refine wpAnyH_take (i := 7) (v := ?_) rfl (by kernel_rfl) (by kernel_rfl) (by kernel_rfl) (fun _ _ _ h => h) (Or.inl ⟨by kernel_rfl, ?_⟩) (by assumption) ?_
  rotate_left
  · (intro w hSw; (try dsimp only at hSw); go_split_ands; go_simp; try with_reducible rfl)
  try simp only [Act.put, List.setIfInBounds_toArray, List.set_cons_zero, List.set_cons_succ]
  refine wpAnyH_take (i := 8) (v := ?_) rfl (by kernel_rfl) (by kernel_rfl) (by kernel_rfl) (fun _ _ _ h => h) (Or.inl ⟨by kernel_rfl, ?_⟩) (by assumption) ?_
  rotate_left
  · (intro w hSw; (try dsimp only at hSw); go_split_ands; go_simp; try with_reducible rfl)
  try simp only [Act.put, List.setIfInBounds_toArray, List.set_cons_zero, List.set_cons_succ]
  refine wpAnyH_take (i := 9) (v := ?_) rfl (by kernel_rfl) (by kernel_rfl) (by kernel_rfl) (fun _ _ _ h => h) (Or.inl ⟨by kernel_rfl, ?_⟩) (by assumption) ?_
  rotate_left
  · (intro w hSw; (try dsimp only at hSw); go_split_ands; go_simp; try with_reducible rfl)
  try simp only [Act.put, List.setIfInBounds_toArray, List.set_cons_zero, List.set_cons_succ]
  refine wpAnyH_done (by kernel_rfl) ?_ _
  try simp only [List.getElem_toArray, List.getElem_cons_succ, List.getElem_cons_zero, List.setIfInBounds_toArray, List.set_cons_zero, List.set_cons_succ]
  go_wp2_with fail
  have hEX := HEX.out
  have hlow := (put5 d m v f x n q (vs := []) HD.out.xb).2.2
  refine bodyPost_ret (v := .tuple #[.agg #[.int .i64 d, .int .i64 m, .int .i64 v, .int .i64 f, .slice x n q], .int .i64 k, .int .i64 r5, .int .i64 r6]) ?_ rfl ⟨d, m, v, f, x, n, q, xs, k, r5, r6, rfl, hi, HD.out.ln, HLO.out.trans (by rw [hEX]; exact hlow)⟩
  simp [results, Try.results19, go_sem, e0, e1, e2, e3, e4]

set_option maxHeartbeats 4000000 in
theorem dpb_any (a : Option Addr) (l c : Nat) (z : List Int) (w : World) (hr : IsRow .u8 w a l c z) : Calls Try.prog 16 #[.slice a l c] w (FbP w) := by
  have HR := Lib.hid (hr.below (box_b w (.cells #[.int .i64 0, .int .i64 0, .int .i64 0, .int .i64 0, .slice none 0 0] 26)) hr.apart)
  have HX0 := Lib.hid (Bt.new w [.int .i64 0, .int .i64 0, .int .i64 0, .int .i64 0, .slice none 0 0] 26)
  clear hr
  go_enter Try.func16, Try.ntmps16
  go_wp2_with fail
  refine (from_any _ _ _ z _ HR.out).mono ?_
  rintro e w1 ⟨rfl, hs, hz, hb⟩
  have HS : Hid (Ready (w.heap.size + 1) a l c z w1) := Lib.hid (by have := ready_of HR.out hs hb; rw [World.size_alloc] at this; exact this)
  have HX1 := Lib.hid (HX0.out.on hb)
  have HL1 : Hid (Below w.heap.size w w1) := Lib.hid ((box_b w _).trans (hb.mono (by simp)))
  clear hs hz hb HX0
  go_wp2_with fail
  refine (dmon_any (w.heap.size + 1) a l c z _ HS.out).mono ?_
  rintro e w2 ⟨d, m, v, f, x, n, q, xs, k, rfl, hi, hn, hx, ho, hs⟩
  have hsz1 := HX1.out.lt
  have hsz2 := ho.size
  have hBl := HS.out.here
  have HD : Hid (DQ (w.heap.size + 1) w.heap.size w2.heap.size a l c z d m v f x n q xs (w2.alloc (.cells #[.int .i64 d, .int .i64 m, .int .i64 v, .int .i64 f, .slice x n q] 26))) := Lib.hid
    ⟨hs.alloc _, (HX1.out.butT ho (by omega)).on (box_b _ _), Bt.new w2 [.int .i64 d, .int .i64 m, .int .i64 v, .int .i64 f, .slice x n q] 26, hi.on (box_b _ _), by omega, by omega, by omega, fun y hy => by have := hx y hy; omega, hn⟩
  have HLO : Hid (Below w.heap.size w (w2.alloc (.cells #[.int .i64 d, .int .i64 m, .int .i64 v, .int .i64 f, .slice x n q] 26))) := Lib.hid ((HL1.out.trans (ho.below (by omega) HL1.out.size)).alloc (by omega) _)
  have HTW : Hid (w.heap.size ≤ w2.heap.size) := Lib.hid (by omega)
  obtain ⟨W1, hW1⟩ : ∃ y_, w2.alloc (.cells #[.int .i64 d, .int .i64 m, .int .i64 v, .int .i64 f, .slice x n q] 26) = y_ := ⟨_, rfl⟩
  obtain ⟨T, hT⟩ : ∃ y_, w2.heap.size = y_ := ⟨_, rfl⟩
  obtain ⟨X, hXX⟩ : ∃ y_, w.heap.size = y_ := ⟨_, rfl⟩
  rw [hW1, hT, hXX] at HD
  rw [hW1] at HLO
  have HEX := Lib.hid hXX
  clear hi hn hx ho hs HR HS HX1 HL1 hsz1 hsz2 hBl
  go_wp2_with fail
  (try rw [hW1])
  (try rw [hT])
  (try rw [hXX])
  clear hW1 hT
  (try rw [hXX])
  clear hXX
  refine (next_r (X + 1) a l c z _ _ HD.out.ready).mono ?_
  rintro e w3 ⟨r3, rfl, hd, ho, hs⟩
  have HD := Lib.hid (HD.out.call ho hs)
  have HLO := Lib.hid (HLO.out.trans (ho.below (by have := HEX.out; omega) HLO.out.size))
  clear hd ho hs
  obtain ⟨t1, q1⟩ : ∃ y_, IntKind.i64.wrap (k + r3) = y_ := ⟨_, rfl⟩
  go_wp2_with fail
  refine (next_r (X + 1) a l c z _ _ HD.out.ready).mono ?_
  rintro e w4 ⟨r4, rfl, hd, ho, hs⟩
  have HD := Lib.hid (HD.out.call ho hs)
  have HLO := Lib.hid (HLO.out.trans (ho.below (by have := HEX.out; omega) HLO.out.size))
  clear hd ho hs
  clear q1
  by_cases hr : r4 = 0
  · subst hr
    obtain ⟨k1, q2⟩ : ∃ y_, IntKind.i64.wrap (k - 1) = y_ := ⟨_, rfl⟩
    obtain ⟨k2, q3⟩ : ∃ y_, IntKind.i64.wrap (k + 1200) = y_ := ⟨_, rfl⟩
    obtain ⟨k3, q4⟩ : ∃ y_, IntKind.i64.wrap (k + 1201) = y_ := ⟨_, rfl⟩
    go_wp2_with fail
    refine (pick4 (X + 1) _ _ _ _ _ _ HD.out.ready).mono ?_
    rintro e w7 ⟨t2, rfl, hd, ho, hs⟩
    have HD := Lib.hid (HD.out.call ho hs)
    have HLO := Lib.hid (HLO.out.trans (ho.below (by have := HEX.out; omega) HLO.out.size))
    clear hd ho hs q2 q3 q4
    go_wp2_with fail
    have HD := Lib.hid HD.out.drew
    have HLO := Lib.hid HLO.out.drew
    refine wp_region_held_drew (S := (fun W9 => W9.cell? ⟨T, 0, none⟩ = some (.int .i64 d) ∧ W9.cell? ⟨T, 1, none⟩ = some (.int .i64 m) ∧ W9.cell? ⟨T, 2, none⟩ = some (.int .i64 v) ∧ W9.cell? ⟨T, 3, none⟩ = some (.int .i64 f) ∧ W9.cell? ⟨T, 4, none⟩ = some (.slice x n q))) (by kernel_rfl) (dqS HD.out).1 (fun hHeld => ?_)
    refine wpAnyH_take (i := 0) (v := ?_) rfl (by kernel_rfl) (by kernel_rfl) (by kernel_rfl) (fun _ _ _ h => h) (Or.inl ⟨by kernel_rfl, ?_⟩) (by assumption) ?_
    rotate_left
    · (intro w hSw; (try dsimp only at hSw); go_split_ands; go_simp; try with_reducible rfl)
    try simp only [Act.put, List.setIfInBounds_toArray, List.set_cons_zero, List.set_cons_succ]
    refine wpAnyH_take (i := 1) (v := ?_) rfl (by kernel_rfl) (by kernel_rfl) (by kernel_rfl) (fun _ _ _ h => h) (Or.inl ⟨by kernel_rfl, ?_⟩) (by assumption) ?_
    rotate_left
    · (intro w hSw; (try dsimp only at hSw); go_split_ands; go_simp; try with_reducible rfl)
    try simp only [Act.put, List.setIfInBounds_toArray, List.set_cons_zero, List.set_cons_succ]
    refine wpAnyH_take (i := 2) (v := ?_) rfl (by kernel_rfl) (by kernel_rfl) (by kernel_rfl) (fun _ _ _ h => h) (Or.inl ⟨by kernel_rfl, ?_⟩) (by assumption) ?_
    rotate_left
    · (intro w hSw; (try dsimp only at hSw); go_split_ands; go_simp; try with_reducible rfl)
    try simp only [Act.put, List.setIfInBounds_toArray, List.set_cons_zero, List.set_cons_succ]
    refine wpAnyH_take (i := 3) (v := ?_) rfl (by kernel_rfl) (by kernel_rfl) (by kernel_rfl) (fun _ _ _ h => h) (Or.inl ⟨by kernel_rfl, ?_⟩) (by assumption) ?_
    rotate_left
    · (intro w hSw; (try dsimp only at hSw); go_split_ands; go_simp; try with_reducible rfl)
    try simp only [Act.put, List.setIfInBounds_toArray, List.set_cons_zero, List.set_cons_succ]
    refine wpAnyH_take (i := 5) (v := ?_) rfl (by kernel_rfl) (by kernel_rfl) (by kernel_rfl) (fun _ _ _ h => h) (Or.inl ⟨by kernel_rfl, ?_⟩) (by assumption) ?_
    rotate_left
    · (intro w hSw; (try dsimp only at hSw); go_split_ands; go_simp; try with_reducible rfl)
    try simp only [Act.put, List.setIfInBounds_toArray, List.set_cons_zero, List.set_cons_succ]
    refine wpAnyH_ready (rs := [4]) (by kernel_rfl) (by simp) ?_
    refine AllReadyH.cons (o := _) rfl (fun K hK => ?_) AllReadyH.nil
    try simp only [List.getElem_toArray, List.getElem_cons_succ, List.getElem_cons_zero]
    go_simp
    refine (drate_any (X + 1) a l c z _ HD.out.ready).mono ?_
    rintro e w5 ⟨r5, rfl, hd, ho, hs⟩
    have HD := Lib.hid (HD.out.call ho hs)
    have HLO := Lib.hid (HLO.out.trans (ho.below (by have := HEX.out; omega) HLO.out.size))
    clear hd ho hs
    refine hK.out _ _ ?_ (fun hHeld => ?_)
    · exact (dqS HD.out).1
    clear hK K
    try simp only [Act.put, List.setIfInBounds_toArray, List.set_cons_zero, List.set_cons_succ]
    refine wpAnyH_ready (rs := [6]) (by kernel_rfl) (by simp) ?_
    refine AllReadyH.cons (o := _) rfl (fun K hK => ?_) AllReadyH.nil
    try simp only [List.getElem_toArray, List.getElem_cons_succ, List.getElem_cons_zero]
    go_simp
    refine (drate_any (X + 1) a l c z _ HD.out.ready).mono ?_
    rintro e w6 ⟨r6, rfl, hd, ho, hs⟩
    have HD := Lib.hid (HD.out.call ho hs)
    have HLO := Lib.hid (HLO.out.trans (ho.below (by have := HEX.out; omega) HLO.out.size))
    clear hd ho hs
    refine hK.out _ _ ?_ (fun hHeld => ?_)
    · exact (dqS HD.out).1
    clear hK K
    try simp only [Act.put, List.setIfInBounds_toArray, List.set_cons_zero, List.set_cons_succ]
    obtain ⟨-, ⟨x0, x1, x2, x3, x4⟩, u0, u1, u2, u3, u4⟩ := dqS HD.out
    obtain ⟨⟨e0, e1, e2, e3, e4⟩, hi, hX, hT⟩ := HD.out.fin
    refine wpAnyH_ready (rs := [7]) (by kernel_rfl) (by simp) ?_
    refine AllReadyH.cons (o := _) rfl (fun K hK => ?_) AllReadyH.nil
    try simp only [List.getElem_toArray, List.getElem_cons_succ, List.getElem_cons_zero]
    go_simp
    refine hK.out _ _ ?_ (fun hHeld => ?_)
    · exact hT
    clear hK K
    try simp only [Act.put, List.setIfInBounds_toArray, List.set_cons_zero, List.set_cons_succ]
    clear x0 x1 x2 x3 x4 u0 u1 u2 u3 u4 hT
    refine wpAnyH_take (i := 8) (v := ?_) rfl (by kernel_rfl) (by kernel_rfl) (by kernel_rfl) (fun _ _ _ h => h) (Or.inl ⟨by kernel_rfl, ?_⟩) (by assumption) ?_
    rotate_left
    · (intro w hSw; (try dsimp only at hSw); go_split_ands; go_simp; try with_reducible rfl)
    try simp only [Act.put, List.setIfInBounds_toArray, List.set_cons_zero, List.set_cons_succ]
    refine wpAnyH_take (i := 9) (v := ?_) rfl (by kernel_rfl) (by kernel_rfl) (by kernel_rfl) (fun _ _ _ h => h) (Or.inl ⟨by kernel_rfl, ?_⟩) (by assumption) ?_
    rotate_left
    · (intro w hSw; (try dsimp only at hSw); go_split_ands; go_simp; try with_reducible rfl)
    try simp only [Act.put, List.setIfInBounds_toArray, List.set_cons_zero, List.set_cons_succ]
    refine wpAnyH_take (i := 10) (v := ?_) rfl (by kernel_rfl) (by kernel_rfl) (by kernel_rfl) (fun _ _ _ h => h) (Or.inl ⟨by kernel_rfl, ?_⟩) (by assumption) ?_
    rotate_left
    · (intro w hSw; (try dsimp only at hSw); go_split_ands; go_simp; try with_reducible rfl)
    try simp only [Act.put, List.setIfInBounds_toArray, List.set_cons_zero, List.set_cons_succ]
    refine wpAnyH_take (i := 11) (v := ?_) rfl (by kernel_rfl) (by kernel_rfl) (by kernel_rfl) (fun _ _ _ h => h) (Or.inl ⟨by kernel_rfl, ?_⟩) (by assumption) ?_
    rotate_left
    · (intro w hSw; (try dsimp only at hSw); go_split_ands; go_simp; try with_reducible rfl)
    try simp only [Act.put, List.setIfInBounds_toArray, List.set_cons_zero, List.set_cons_succ]
    refine wpAnyH_done (by kernel_rfl) ?_ _
    try simp only [List.getElem_toArray, List.getElem_cons_succ, List.getElem_cons_zero, List.setIfInBounds_toArray, List.set_cons_zero, List.set_cons_succ]
    go_wp2_with fail
    have hEX := HEX.out
    have hlow := (put5 d m v f x n q (vs := []) HD.out.xb).2.2
    refine bodyPost_ret (v := .tuple #[.agg #[.int .i64 d, .int .i64 m, .int .i64 v, .int .i64 f, .slice x n q], .int .i64 k, .int .i64 t2, .int .i64 r5, .int .i64 r6]) ?_ rfl ⟨d, m, v, f, x, n, q, xs, k, t2, r5, r6, rfl, hi, HD.out.ln, HLO.out.trans (by rw [hEX]; exact hlow)⟩
    simp [results, Try.results16, go_sem, e0, e1, e2, e3, e4]
  · have hr' : (r4 == 0) = false := by simpa using hr
    clear hr
    go_wp2_with fail
    have HD := Lib.hid HD.out.drew
    have HLO := Lib.hid HLO.out.drew
    refine wp_region_held_drew (S := (fun W9 => W9.cell? ⟨T, 0, none⟩ = some (.int .i64 d) ∧ W9.cell? ⟨T, 1, none⟩ = some (.int .i64 m) ∧ W9.cell? ⟨T, 2, none⟩ = some (.int .i64 v) ∧ W9.cell? ⟨T, 3, none⟩ = some (.int .i64 f) ∧ W9.cell? ⟨T, 4, none⟩ = some (.slice x n q))) (by kernel_rfl) (dqS HD.out).1 (fun hHeld => ?_)
    refine wpAnyH_take (i := 0) (v := ?_) rfl (by kernel_rfl) (by kernel_rfl) (by kernel_rfl) (fun _ _ _ h => h) (Or.inl ⟨by kernel_rfl, ?_⟩) (by assumption) ?_
    rotate_left
    · (intro w hSw; (try dsimp only at hSw); go_split_ands; go_simp; try with_reducible rfl)
    try simp only [Act.put, List.setIfInBounds_toArray, List.set_cons_zero, List.set_cons_succ]
    refine wpAnyH_take (i := 1) (v := ?_) rfl (by kernel_rfl) (by kernel_rfl) (by kernel_rfl) (fun _ _ _ h => h) (Or.inl ⟨by kernel_rfl, ?_⟩) (by assumption) ?_
    rotate_left
    · (intro w hSw; (try dsimp only at hSw); go_split_ands; go_simp; try with_reducible rfl)
    try simp only [Act.put, List.setIfInBounds_toArray, List.set_cons_zero, List.set_cons_succ]
    refine wpAnyH_take (i := 2) (v := ?_) rfl (by kernel_rfl) (by kernel_rfl) (by kernel_rfl) (fun _ _ _ h => h) (Or.inl ⟨by kernel_rfl, ?_⟩) (by assumption) ?_
    rotate_left
    · (intro w hSw; (try dsimp only at hSw); go_split_ands; go_simp; try with_reducible rfl)
    try simp only [Act.put, List.setIfInBounds_toArray, List.set_cons_zero, List.set_cons_succ]
    refine wpAnyH_take (i := 3) (v := ?_) rfl (by kernel_rfl) (by kernel_rfl) (by kernel_rfl) (fun _ _ _ h => h) (Or.inl ⟨by kernel_rfl, ?_⟩) (by assumption) ?_
    rotate_left
    · (intro w hSw; (try dsimp only at hSw); go_split_ands; go_simp; try with_reducible rfl)
    try simp only [Act.put, List.setIfInBounds_toArray, List.set_cons_zero, List.set_cons_succ]
    refine wpAnyH_take (i := 5) (v := ?_) rfl (by kernel_rfl) (by kernel_rfl) (by kernel_rfl) (fun _ _ _ h => h) (Or.inl ⟨by kernel_rfl, ?_⟩) (by assumption) ?_
    rotate_left
    · (intro w hSw; (try dsimp only at hSw); go_split_ands; go_simp; try with_reducible rfl)
    try simp only [Act.put, List.setIfInBounds_toArray, List.set_cons_zero, List.set_cons_succ]
    refine wpAnyH_ready (rs := [4]) (by kernel_rfl) (by simp) ?_
    refine AllReadyH.cons (o := _) rfl (fun K hK => ?_) AllReadyH.nil
    try simp only [List.getElem_toArray, List.getElem_cons_succ, List.getElem_cons_zero]
    go_simp
    refine (drate_any (X + 1) a l c z _ HD.out.ready).mono ?_
    rintro e w5 ⟨r5, rfl, hd, ho, hs⟩
    have HD := Lib.hid (HD.out.call ho hs)
    have HLO := Lib.hid (HLO.out.trans (ho.below (by have := HEX.out; omega) HLO.out.size))
    clear hd ho hs
    refine hK.out _ _ ?_ (fun hHeld => ?_)
    · exact (dqS HD.out).1
    clear hK K
    try simp only [Act.put, List.setIfInBounds_toArray, List.set_cons_zero, List.set_cons_succ]
    refine wpAnyH_ready (rs := [6]) (by kernel_rfl) (by simp) ?_
    refine AllReadyH.cons (o := _) rfl (fun K hK => ?_) AllReadyH.nil
    try simp only [List.getElem_toArray, List.getElem_cons_succ, List.getElem_cons_zero]
    go_simp
    refine (drate_any (X + 1) a l c z _ HD.out.ready).mono ?_
    rintro e w6 ⟨r6, rfl, hd, ho, hs⟩
    have HD := Lib.hid (HD.out.call ho hs)
    have HLO := Lib.hid (HLO.out.trans (ho.below (by have := HEX.out; omega) HLO.out.size))
    clear hd ho hs
    refine hK.out _ _ ?_ (fun hHeld => ?_)
    · exact (dqS HD.out).1
    clear hK K
    try simp only [Act.put, List.setIfInBounds_toArray, List.set_cons_zero, List.set_cons_succ]
    obtain ⟨-, ⟨x0, x1, x2, x3, x4⟩, u0, u1, u2, u3, u4⟩ := dqS HD.out
    obtain ⟨⟨e0, e1, e2, e3, e4⟩, hi, hX, hT⟩ := HD.out.fin
    refine wpAnyH_ready (rs := [7]) (by kernel_rfl) (by simp) ?_
    refine AllReadyH.cons (o := _) rfl (fun K hK => ?_) AllReadyH.nil
    try simp only [List.getElem_toArray, List.getElem_cons_succ, List.getElem_cons_zero]
    go_simp
    refine hK.out _ _ ?_ (fun hHeld => ?_)
    · exact hT
    clear hK K
    try simp only [Act.put, List.setIfInBounds_toArray, List.set_cons_zero, List.set_cons_succ]
    clear x0 x1 x2 x3 x4 u0 u1 u2 u3 u4 hT
    refine wpAnyH_take (i := 8) (v := ?_) rfl (by kernel_rfl) (by kernel_rfl) (by kernel_rfl) (fun _ _ _ h => h) (Or.inl ⟨by kernel_rfl, ?_⟩) (by assumption) ?_
    rotate_left
    · (intro w hSw; (try dsimp only at hSw); go_split_ands; go_simp; try with_reducible rfl)
    try simp only [Act.put, List.setIfInBounds_toArray, List.set_cons_zero, List.set_cons_succ]
    refine wpAnyH_take (i := 9) (v := ?_) rfl (by kernel_rfl) (by kernel_rfl) (by kernel_rfl) (fun _ _ _ h => h) (Or.inl ⟨by kernel_rfl, ?_⟩) (by assumption) ?_
    rotate_left
    · (intro w hSw; (try dsimp only at hSw); go_split_ands; go_simp; try with_reducible rfl)
    try simp only [Act.put, List.setIfInBounds_toArray, List.set_cons_zero, List.set_cons_succ]
    refine wpAnyH_take (i := 10) (v := ?_) rfl (by kernel_rfl) (by kernel_rfl) (by kernel_rfl) (fun _ _ _ h => h) (Or.inl ⟨by kernel_rfl, ?_⟩) (by assumption) ?_
    rotate_left
    · (intro w hSw; (try dsimp only at hSw); go_split_ands; go_simp; try with_reducible rfl)
    try simp only [Act.put, List.setIfInBounds_toArray, List.set_cons_zero, List.set_cons_succ]
    refine wpAnyH_take (i := 11) (v := ?_) rfl (by kernel_rfl) (by kernel_rfl) (by kernel_rfl) (fun _ _ _ h => h) (Or.inl ⟨by kernel_rfl, ?_⟩) (by assumption) ?_
    rotate_left
    · (intro w hSw; (try dsimp only at hSw); go_split_ands; go_simp; try with_reducible rfl)
    try simp only [Act.put, List.setIfInBounds_toArray, List.set_cons_zero, List.set_cons_succ]
    refine wpAnyH_done (by kernel_rfl) ?_ _
    try simp only [List.getElem_toArray, List.getElem_cons_succ, List.getElem_cons_zero, List.setIfInBounds_toArray, List.set_cons_zero, List.set_cons_succ]
    go_wp2_with fail
    have hEX := HEX.out
    have hlow := (put5 d m v f x n q (vs := []) HD.out.xb).2.2
    refine bodyPost_ret (v := .tuple #[.agg #[.int .i64 d, .int .i64 m, .int .i64 v, .int .i64 f, .slice x n q], .int .i64 k, .int .i64 t1, .int .i64 r5, .int .i64 r6]) ?_ rfl ⟨d, m, v, f, x, n, q, xs, k, t1, r5, r6, rfl, hi, HD.out.ln, HLO.out.trans (by rw [hEX]; exact hlow)⟩
    simp [results, Try.results16, go_sem, e0, e1, e2, e3, e4]

end Go.Proofs.Ytmnddplkmljeaaa
