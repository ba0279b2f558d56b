/- Policies: the program's duration and gain. (Written by wip/gen/poj.py.) -/
import Derived.Test.YtnclncglmnbelaaGreatPoi
namespace Go.Proofs.YtnclncglmnbelaaGreat
open Go.ChangeShapes Go.WideShapes Go.ChangeAt Go.RowKit
open Go.ChangeMaps (setBlock heap_setBlock_same heap_setBlock_other)
set_option linter.unusedVariables false
set_option maxRecDepth 100000

theorem Cols.head {w : World} {R : Nat} {r f : Int} {xs : List Int} {v : Value} (h : Cols w R r f xs v) : w.cell? ⟨R, 0, none⟩ = some (.int .i64 f) ∧ w.cell? ⟨R, 1, none⟩ = some v := by
  obtain ⟨G, hG, -⟩ := h
  unfold CBX ccells at hG
  simp [World.cell?, hG]

set_option maxHeartbeats 1000000 in
theorem idur_any (R M D : Nat) (r f : Int) (xs : List Int) (a : Option Addr) (l c : Nat) (k x n s u : Int) (w : World) (h : TF R M D r f xs (.slice a l c) k x n u w) (hp : poB r f xs k x n s u = true) (hl : xs.length = l) :
    Calls Tryz.prog 70 #[.pointer (some ⟨D, 0, none⟩), .agg #[.int .i64 k, .int .i64 x, .int .i64 n, .int .i64 s, .int .i64 u]] w fun e w' => e = .returned (.int .i64 (durN f xs k x n)) ∧ Below w.heap.size w w' := by
  have hz := (poB_iff.1 hp).1
  unfold asE at hz
  obtain ⟨-, -, ht, -, ⟨x0, x1⟩, -⟩ := as_in hz
  obtain ⟨f0, f1⟩ := ht.1
  have hs := ht.2.1
  have CE : Hid (∀ W, Calls Tryz.prog 103 #[.agg #[.int .i64 f, .slice a l c]] W fun e w' => e = .returned (.int .i64 (f + l - 1)) ∧ Below W.heap.size W w') :=
    Lib.hid (fun W => end_any f xs a l c W (by omega) f0 (by omega))
  by_cases hk : k = 0
  · have HV : Hid (durN f xs k x n = f + l - 1 - x) := Lib.hid (by unfold durN; rw [if_pos hk, hl])
    obtain ⟨E, hE⟩ : ∃ y_, f + l - 1 = y_ := ⟨_, rfl⟩
    rw [hE] at HV CE
    have q1 : IntKind.i64.wrap (E - x) = E - x := IntWalk.i64_in _ (by omega)
    rw [HV.out]
    have HN := Lib.hid (NT.new R M D r f xs (.slice a l c) k x n s u w h)
    have hbx := Bx.new w [.int .i64 k, .int .i64 x, .int .i64 n, .int .i64 s, .int .i64 u] 30
    have hb0 := box_b w (.cells #[.int .i64 k, .int .i64 x, .int .i64 n, .int .i64 s, .int .i64 u] 30)
    have HT : Hid (∀ W, Below w.heap.size w W → W.cell? ⟨D, 0, none⟩ = some (.pointer (some ⟨R, 0, none⟩)) ∧ W.cell? ⟨R, 0, none⟩ = some (.int .i64 f) ∧ W.cell? ⟨R, 1, none⟩ = some (.slice a l c)) :=
      Lib.hid (fun W hW => ⟨(h.on hW).t0, (h.on hW).cols.head.1, (h.on hW).cols.head.2⟩)
    obtain ⟨t0, t1, t2⟩ := HT.out _ hb0
    obtain ⟨-, c1, -, -, -⟩ := hbx.five0
    clear hE HV HN hbx hp hz ht h
    subst hk
    have HB := Lib.hid hb0
    clear hb0
    go_enter Tryz.func70, Tryz.ntmps70
    go_wp2_with fail
    obtain ⟨W0, hW0⟩ : ∃ y_, w.alloc (.cells #[.int .i64 0, .int .i64 x, .int .i64 n, .int .i64 s, .int .i64 u] 30) = y_ := ⟨_, rfl⟩
    rw [hW0] at HB t0 t1 t2 c1 ⊢
    clear hW0
    go_region_held3 (fun W9 => W9.cell? ⟨D, 0, none⟩ = some (.pointer (some ⟨R, 0, none⟩)) ∧ W9.cell? ⟨R, 0, none⟩ = some (.int .i64 f) ∧ W9.cell? ⟨R, 1, none⟩ = some (.slice a l c) ∧ W9.cell? ⟨w.heap.size, 1, none⟩ = some (.int .i64 x) ∧ Hid (Below w.heap.size w W9))
      (first
        | (go_split_ands; with_reducible exact ⟨by with_reducible assumption, by with_reducible assumption, by with_reducible assumption, by with_reducible assumption, by with_reducible assumption⟩)
        | (go_split_ands; with_reducible exact ⟨cell_drew t0, cell_drew t1, cell_drew t2, cell_drew c1, Lib.hid (Below.drew HB.out)⟩)
        | (go_split_ands; with_reducible exact ⟨keep2 hb (by with_reducible assumption), keep2 hb (by with_reducible assumption), keep2 hb (by with_reducible assumption), keep2 hb (by with_reducible assumption), Lib.hid (Below.trans (Hid.out (by with_reducible assumption)) (Below.mono hb (Below.size (Hid.out (by with_reducible assumption)))))⟩)
        | fail)
      (first
        | (go_split_ands; go_at_call 103; ((with_reducible refine (CE.out _).mono ?_); rintro e w' ⟨rfl, hb⟩))
        | fail)
    all_goals
      go_split_ands
      go_wp2_with fail
      go_ret
      exact ⟨rfl, Hid.out (by with_reducible assumption)⟩
  · have HV : Hid (durN f xs k x n = n) := Lib.hid (by unfold durN; rw [if_neg hk])
    have hk2 : (k == 0) = false := by simp [hk]
    rw [HV.out]
    clear hk HV h hp hz ht CE
    go_enter Tryz.func70, Tryz.ntmps70
    go_wp2_with fail
    go_ret
    exact ⟨rfl, box_b _ _⟩

/-- while a gain is found -/
structure GT (w : World) (R M D : Nat) (r f : Int) (xs : List Int) (v : Value) (k x n s u : Int) (N : Nat) (T : TypeId) (g0 g1 g2 g3 g4 g5 g6 g7 : Int) (W : World) : Prop where
  tf : TF R M D r f xs v k x n u W
  box : Bx W w.heap.size [.int .i64 k, .int .i64 x, .int .i64 n, .int .i64 s, .int .i64 u]
  cov : Q9 W N (.iface T (.agg #[])) g0 g1 g2 g3 g4 g5 g6 g7
  but : But M w W

theorem GT.on {w : World} {R M D : Nat} {r f : Int} {xs : List Int} {v : Value} {k x n s u : Int} {N : Nat} {T : TypeId} {g0 g1 g2 g3 g4 g5 g6 g7 : Int} {W W' : World} (h : GT w R M D r f xs v k x n s u N T g0 g1 g2 g3 g4 g5 g6 g7 W) (hb : Below W.heap.size W W') : GT w R M D r f xs v k x n s u N T g0 g1 g2 g3 g4 g5 g6 g7 W' :=
  ⟨h.tf.on hb, h.box.on hb, h.cov.on hb, h.but.trans (butM_of hb)⟩

theorem GT.drew {w : World} {R M D : Nat} {r f : Int} {xs : List Int} {v : Value} {k x n s u : Int} {N : Nat} {T : TypeId} {g0 g1 g2 g3 g4 g5 g6 g7 : Int} {W : World} (h : GT w R M D r f xs v k x n s u N T g0 g1 g2 g3 g4 g5 g6 g7 W) : GT w R M D r f xs v k x n s u N T g0 g1 g2 g3 g4 g5 g6 g7 W.drew := h.on (Below.drew (Below.refl _ _))

theorem GT.onM {w : World} {R M D : Nat} {r f : Int} {xs : List Int} {v : Value} {k x n s u : Int} {N : Nat} {T : TypeId} {g0 g1 g2 g3 g4 g5 g6 g7 : Int} {W W' : World} (h : GT w R M D r f xs v k x n s u N T g0 g1 g2 g3 g4 g5 g6 g7 W) (ht : TF R M D r f xs v k x n u W') (hb : But M W W') : GT w R M D r f xs v k x n s u N T g0 g1 g2 g3 g4 g5 g6 g7 W' := by
  obtain ⟨es, c, hm, -⟩ := h.tf.map
  refine ⟨ht, h.box.same (hb.block _ h.box.lt (fun e => ?_)), h.cov.same (hb.block _ h.cov.lt (fun e => ?_)), h.but.trans hb⟩
  · obtain ⟨T', hB⟩ := h.box
    rw [e, hm] at hB; cases hB
  · have hC := h.cov
    unfold Q9 at hC
    rw [e, hm] at hC; cases hC

theorem gtS {w : World} {R M D : Nat} {r f : Int} {xs : List Int} {v : Value} {k x n s u : Int} {N : Nat} {T : TypeId} {g0 g1 g2 g3 g4 g5 g6 g7 : Int} {W : World} (h : GT w R M D r f xs v k x n s u N T g0 g1 g2 g3 g4 g5 g6 g7 W) :
    W.cell? ⟨w.heap.size, 0, none⟩ = some (.int .i64 k) ∧ W.cell? ⟨w.heap.size, 1, none⟩ = some (.int .i64 x) ∧ W.cell? ⟨w.heap.size, 2, none⟩ = some (.int .i64 n) ∧ W.cell? ⟨w.heap.size, 3, none⟩ = some (.int .i64 s) ∧ W.cell? ⟨w.heap.size, 4, none⟩ = some (.int .i64 u) ∧ W.cell? ⟨N, 0, none⟩ = some (.iface T (.agg #[])) ∧ W.cell? ⟨N, 1, none⟩ = some (.int .i64 g0) ∧ W.cell? ⟨N, 2, none⟩ = some (.int .i64 g1) ∧ W.cell? ⟨N, 3, none⟩ = some (.int .i64 g2) ∧ W.cell? ⟨N, 4, none⟩ = some (.int .i64 g3) ∧ W.cell? ⟨N, 5, none⟩ = some (.int .i64 g4) ∧ W.cell? ⟨N, 6, none⟩ = some (.int .i64 g5) ∧ W.cell? ⟨N, 7, none⟩ = some (.int .i64 g6) ∧ W.cell? ⟨N, 8, none⟩ = some (.int .i64 g7) ∧ Hid (GT w R M D r f xs v k x n s u N T g0 g1 g2 g3 g4 g5 g6 g7 W) := by
  obtain ⟨c0, c1, c2, c3, c4⟩ := h.box.five0
  obtain ⟨d0, d1, d2, d3, d4, d5, d6, d7, d8, -⟩ := h.cov.f9
  exact ⟨c0, c1, c2, c3, c4, d0, d1, d2, d3, d4, d5, d6, d7, d8, Lib.hid h⟩

theorem wrap_diff (a b : Int) (h0 : -9223372036854775808 ≤ a - b) (h1 : a - b ≤ 9223372036854775807) : IntKind.i64.wrap (IntKind.i64.wrap a - IntKind.i64.wrap b) = a - b := by
  rw [IntKind.wrap_i64, IntKind.wrap_i64, IntKind.wrap_i64]
  omega

def GPost (z d : Int) (R M D : Nat) (r f : Int) (xs : List Int) (v : Value) (k x n u : Int) (w : World) (e : Ending) (w' : World) : Prop := e = .returned (.tuple #[.int .i64 z, .int .i64 d]) ∧ TF R M D r f xs v k x n u w' ∧ But M w w'

end Go.Proofs.YtnclncglmnbelaaGreat
