/- Policies: the program's net premium, found once. (Written by wip/gen/poi.py.) -/
import Derived.Test.YtnclncglmnbelaaGreatPoc
namespace Go.Proofs.YtnclncglmnbelaaGreat
open Go.ChangeShapes Go.WideShapes Go.ChangeAt Go.RowKit
open Go.ChangeMaps (setBlock heap_setBlock_same heap_setBlock_other)
set_option linter.unusedVariables false
set_option maxRecDepth 100000

theorem butM_of {B : Nat} {w w' : World} (h : Below w.heap.size w w') : But B w w' := ⟨h.os, h.tape, h.output, h.size, fun k hk _ => h.block k hk⟩

theorem setM_but {w : World} {M : Nat} {es : Array MapEntry} {c : Nat} (hm : w.heap[M]? = some (.map es c)) (o : Obj) : But M w (setBlock w M o) :=
  ⟨rfl, rfl, rfl, by simp [setBlock], fun k _ hk => heap_setBlock_other hm o hk⟩

theorem Cols.notM {w : World} {R : Nat} {r f : Int} {xs : List Int} {v : Value} {M : Nat} {es : Array MapEntry} {c : Nat} (h : Cols w R r f xs v) (hm : w.heap[M]? = some (.map es c)) : R ≠ M := by
  rintro rfl
  obtain ⟨G, hG, -⟩ := h
  unfold CBX at hG
  rw [hG] at hm
  cases hm

theorem TF.put {R M D : Nat} {r f : Int} {xs : List Int} {v : Value} {k x n u : Int} {s : Int} {W : World} {es : Array MapEntry} {c : Nat} (h : TF R M D r f xs v k x n u W) (hm : W.heap[M]? = some (.map es c)) (hk : PmOk (netN r f xs k x n) k x n u es) (s0 : 1 ≤ s) (s1 : s ≤ 100000000) :
    TF R M D r f xs v k x n u (setBlock W M (.map (es.push ⟨.agg #[.int .i64 k, .int .i64 x, .int .i64 n, .int .i64 s, .int .i64 u], .int .i64 (netN r f xs k x n s), c⟩) (c + 1))) := by
  have hb := setM_but hm (.map (es.push ⟨.agg #[.int .i64 k, .int .i64 x, .int .i64 n, .int .i64 s, .int .i64 u], .int .i64 (netN r f xs k x n s), c⟩) (c + 1))
  exact ⟨hb.keepM hm h.t0, hb.keepM hm h.t1, h.cols.same (hb.block R h.cols.lt (h.cols.notM hm)), _, _, heap_setBlock_same hm _, hk.push s0 s1 c⟩

theorem po_wf {r f : Int} {xs : List Int} {k x n s u : Int} (hp : poB r f xs k x n s u = true) : Wf4 k x n u ∧ 1 ≤ s ∧ s ≤ 100000000 := by
  obtain ⟨hz, ⟨u0, u1⟩, -⟩ := poB_iff.1 hp
  unfold asE at hz
  obtain ⟨hB, ⟨⟨k0, k1⟩, -⟩, ht, -, ⟨x0, x1⟩, ⟨n0, n1⟩, -, -⟩ := as_in hz
  obtain ⟨f0, f1⟩ := ht.1
  obtain ⟨s0, s1⟩ := (inB_iff _ _ _).1 hB
  exact ⟨⟨wf_small (by omega) (by omega), wf_small (by omega) (by omega), wf_small (by omega) (by omega), wf_small (by omega) (by omega)⟩, s0, s1⟩

/-- what a method of the tariff keeps: the box of the policy -/
structure NT (w : World) (R M D : Nat) (r f : Int) (xs : List Int) (v : Value) (k x n s u : Int) (W : World) : Prop where
  tf : TF R M D r f xs v k x n u W
  box : Bx W w.heap.size [.int .i64 k, .int .i64 x, .int .i64 n, .int .i64 s, .int .i64 u]
  low : Below w.heap.size w W
  sz : w.heap.size + 1 ≤ W.heap.size

theorem NT.on {w : World} {R M D : Nat} {r f : Int} {xs : List Int} {v : Value} {k x n s u : Int} {W W' : World} (h : NT w R M D r f xs v k x n s u W) (hb : Below W.heap.size W W') : NT w R M D r f xs v k x n s u W' :=
  ⟨h.tf.on hb, h.box.on hb, h.low.trans (hb.mono h.low.size), Nat.le_trans h.sz hb.size⟩

theorem NT.drew {w : World} {R M D : Nat} {r f : Int} {xs : List Int} {v : Value} {k x n s u : Int} {W : World} (h : NT w R M D r f xs v k x n s u W) : NT w R M D r f xs v k x n s u W.drew := h.on (Below.drew (Below.refl _ _))

theorem NT.new (R M D : Nat) (r f : Int) (xs : List Int) (v : Value) (k x n s u : Int) (w : World) (h : TF R M D r f xs v k x n u w) : NT w R M D r f xs v k x n s u (w.alloc (.cells #[.int .i64 k, .int .i64 x, .int .i64 n, .int .i64 s, .int .i64 u] 30)) :=
  ⟨h.on (box_b _ _), Bx.new w [.int .i64 k, .int .i64 x, .int .i64 n, .int .i64 s, .int .i64 u] 30, box_b _ _, by simp⟩

theorem ntS {w : World} {R M D : Nat} {r f : Int} {xs : List Int} {v : Value} {k x n s u : Int} {W : World} (h : NT w R M D r f xs v k x n s u W) :
    W.cell? ⟨w.heap.size, 0, none⟩ = some (.int .i64 k) ∧ W.cell? ⟨w.heap.size, 1, none⟩ = some (.int .i64 x) ∧ W.cell? ⟨w.heap.size, 2, none⟩ = some (.int .i64 n) ∧ W.cell? ⟨w.heap.size, 3, none⟩ = some (.int .i64 s) ∧ W.cell? ⟨w.heap.size, 4, none⟩ = some (.int .i64 u) ∧ Hid (NT w R M D r f xs v k x n s u W) := by
  obtain ⟨c0, c1, c2, c3, c4⟩ := h.box.five0
  exact ⟨c0, c1, c2, c3, c4, Lib.hid h⟩

/-- the post of a method that may put a premium into the map -/
def TPost (z : Int) (R M D : Nat) (r f : Int) (xs : List Int) (v : Value) (k x n u : Int) (w : World) (e : Ending) (w' : World) : Prop := e = .returned (.int .i64 z) ∧ TF R M D r f xs v k x n u w' ∧ But M w w'

set_option maxHeartbeats 4000000 in
theorem inet_any (R M D : Nat) (r f : Int) (xs : List Int) (v : Value) (k x n s u : Int) (w : World) (h : TF R M D r f xs v k x n u w) (hp : poB r f xs k x n s u = true) :
    Calls Tryz.prog 68 #[.pointer (some ⟨D, 0, none⟩), .agg #[.int .i64 k, .int .i64 x, .int .i64 n, .int .i64 s, .int .i64 u]] w (TPost (netN r f xs k x n s) R M D r f xs v k x n u w) := by
  obtain ⟨hwf, s0, s1⟩ := po_wf hp
  obtain ⟨es, c, hm, hok⟩ := h.map
  have HN := Lib.hid (NT.new R M D r f xs v k x n s u w h)
  unfold TPost
  have hm1 : (w.alloc (.cells #[.int .i64 k, .int .i64 x, .int .i64 n, .int .i64 s, .int .i64 u] 30)).heap[M]? = some (.map es c) := ((box_b w (.cells #[.int .i64 k, .int .i64 x, .int .i64 n, .int .i64 s, .int .i64 u] 30)).block M (mapB_lt hm)).trans hm
  have HM : Hid (∀ W, NT w R M D r f xs v k x n s u W → W.heap[M]? = some (.map es c)) := Lib.hid (fun W hW => (hW.low.block M (mapB_lt hm)).trans hm)
  by_cases hin : PmIn k x n u s es
  · have hl1 := hok.hit hwf s0 s1 hin _ hm1
    have hl2 := hok.hit hwf s0 s1 hin (w.alloc (.cells #[.int .i64 k, .int .i64 x, .int .i64 n, .int .i64 s, .int .i64 u] 30)).drew hm1
    obtain ⟨t0, t1, -, -⟩ := HN.out.tf
    obtain ⟨c0, c1, c2, c3, c4, -⟩ := ntS HN.out
    obtain ⟨Z, hZ⟩ : ∃ y_, netN r f xs k x n s = y_ := ⟨_, rfl⟩
    rw [hZ] at hl1 hl2 ⊢
    have ht1 : (w.alloc (.cells #[.int .i64 k, .int .i64 x, .int .i64 n, .int .i64 s, .int .i64 u] 30)).drew.cell? ⟨D, 1, none⟩ = some (.map (some M)) := t1
    clear hZ h hp hwf s0 s1 hm hok hm1 hin HM
    go_enter Tryz.func68, Tryz.ntmps68
    go_wp2_with fail
    obtain ⟨W0, hW0⟩ : ∃ y_, w.alloc (.cells #[.int .i64 k, .int .i64 x, .int .i64 n, .int .i64 s, .int .i64 u] 30) = y_ := ⟨_, rfl⟩
    rw [hW0] at HN hl1 hl2 t0 t1 c0 c1 c2 c3 c4 ht1 ⊢
    clear hW0
    go_region
    go_wp2_with fail
    go_ret
    exact ⟨rfl, HN.out.drew.tf, butM_of HN.out.drew.low⟩
  · have hl1 := hok.miss hwf s0 s1 hin _ hm1
    have hl2 := hok.miss hwf s0 s1 hin (w.alloc (.cells #[.int .i64 k, .int .i64 x, .int .i64 n, .int .i64 s, .int .i64 u] 30)).drew hm1
    have HPUT : Hid (∀ W, NT w R M D r f xs v k x n s u W → ∀ y, (Instr.mapUpdate 98 (.map (some M)) (.agg #[.int .i64 k, .int .i64 x, .int .i64 n, .int .i64 s, .int .i64 u]) y).run Tryz.prog W = .ok () (setBlock W M (.map (es.push ⟨.agg #[.int .i64 k, .int .i64 x, .int .i64 n, .int .i64 s, .int .i64 u], y, c⟩) (c + 1)))) :=
      Lib.hid (fun W hW y => hok.put hwf s0 s1 hin W (HM.out W hW) y)
    have HEND : Hid (∀ W, NT w R M D r f xs v k x n s u W → TF R M D r f xs v k x n u (setBlock W M (.map (es.push ⟨.agg #[.int .i64 k, .int .i64 x, .int .i64 n, .int .i64 s, .int .i64 u], .int .i64 (netN r f xs k x n s), c⟩) (c + 1))) ∧ But M w (setBlock W M (.map (es.push ⟨.agg #[.int .i64 k, .int .i64 x, .int .i64 n, .int .i64 s, .int .i64 u], .int .i64 (netN r f xs k x n s), c⟩) (c + 1)))) :=
      Lib.hid (fun W hW => ⟨hW.tf.put (HM.out W hW) hok s0 s1, (butM_of hW.low).trans (setM_but (HM.out W hW) _)⟩)
    have CC : Hid (∀ W, Hid (NT w R M D r f xs v k x n s u W) → Calls Tryz.prog 69 #[.pointer (some ⟨D, 0, none⟩), .agg #[.int .i64 k, .int .i64 x, .int .i64 n, .int .i64 s, .int .i64 u]] W fun e w' => e = .returned (cvr (.iface (kT k) (.agg #[])) (cD r xs (x - f).toNat) (cN r xs (x - f).toNat) (cC r xs (x - f).toNat) (cM r xs (x - f).toNat) (cD r xs (x + n - f).toNat) (cN r xs (x + n - f).toNat) (cC r xs (x + n - f).toNat) (cM r xs (x + n - f).toNat)) ∧ Below W.heap.size W w') :=
      Lib.hid (fun W hW => icov_any R M D r f xs v k x n s u W hW.out.tf hp)
    have hz := (poB_iff.1 hp).1
    unfold asE at hz
    have CP : Hid (∀ W, Calls Tryz.prog 101 #[cvr (.iface (kT k) (.agg #[])) (cD r xs (x - f).toNat) (cN r xs (x - f).toNat) (cC r xs (x - f).toNat) (cM r xs (x - f).toNat) (cD r xs (x + n - f).toNat) (cN r xs (x + n - f).toNat) (cC r xs (x + n - f).toNat) (cM r xs (x + n - f).toNat), .int .i64 s] W fun e w' => e = .returned (.int .i64 (netN r f xs k x n s)) ∧ Below W.heap.size W w') :=
      Lib.hid (fun W => cvm_any hz W)
    obtain ⟨t0, t1, -, -⟩ := HN.out.tf
    obtain ⟨c0, c1, c2, c3, c4, -⟩ := ntS HN.out
    obtain ⟨Z, hZ⟩ : ∃ y_, netN r f xs k x n s = y_ := ⟨_, rfl⟩
    rw [hZ] at HEND CP ⊢
    obtain ⟨g0, hg0⟩ : ∃ y_, cD r xs (x - f).toNat = y_ := ⟨_, rfl⟩
    obtain ⟨g1, hg1⟩ : ∃ y_, cN r xs (x - f).toNat = y_ := ⟨_, rfl⟩
    obtain ⟨g2, hg2⟩ : ∃ y_, cC r xs (x - f).toNat = y_ := ⟨_, rfl⟩
    obtain ⟨g3, hg3⟩ : ∃ y_, cM r xs (x - f).toNat = y_ := ⟨_, rfl⟩
    rw [hg0, hg1, hg2, hg3] at CC CP
    clear hg0 hg1 hg2 hg3
    obtain ⟨g4, hg4⟩ : ∃ y_, cD r xs (x + n - f).toNat = y_ := ⟨_, rfl⟩
    obtain ⟨g5, hg5⟩ : ∃ y_, cN r xs (x + n - f).toNat = y_ := ⟨_, rfl⟩
    obtain ⟨g6, hg6⟩ : ∃ y_, cC r xs (x + n - f).toNat = y_ := ⟨_, rfl⟩
    obtain ⟨g7, hg7⟩ : ∃ y_, cM r xs (x + n - f).toNat = y_ := ⟨_, rfl⟩
    rw [hg4, hg5, hg6, hg7] at CC CP
    clear hg4 hg5 hg6 hg7
    obtain ⟨T, hT⟩ : ∃ y_, kT k = y_ := ⟨_, rfl⟩
    rw [hT] at CC CP
    unfold cvr at CC CP
    have ht1 : (w.alloc (.cells #[.int .i64 k, .int .i64 x, .int .i64 n, .int .i64 s, .int .i64 u] 30)).drew.cell? ⟨D, 1, none⟩ = some (.map (some M)) := t1
    clear hT hZ h hp hwf s0 s1 hm hok hm1 hin HM hz
    go_enter Tryz.func68, Tryz.ntmps68
    go_wp2_with fail
    obtain ⟨W0, hW0⟩ : ∃ y_, w.alloc (.cells #[.int .i64 k, .int .i64 x, .int .i64 n, .int .i64 s, .int .i64 u] 30) = y_ := ⟨_, rfl⟩
    rw [hW0] at HN hl1 hl2 t0 t1 c0 c1 c2 c3 c4 ht1 ⊢
    clear hW0
    go_region
    go_wp2_with fail
    have HN1 := Lib.hid HN.out.drew
    obtain ⟨d0, d1, d2, d3, d4, -⟩ := ntS HN1.out
    obtain ⟨W1, hW1⟩ : ∃ y_, W0.drew = y_ := ⟨_, rfl⟩
    rw [hW1] at HN1 d0 d1 d2 d3 d4 ⊢
    clear hW1 hl1 hl2 t0 t1 c0 c1 c2 c3 c4 ht1 HN
    go_region_held3 (fun W9 => W9.cell? ⟨w.heap.size, 0, none⟩ = some (.int .i64 k) ∧ W9.cell? ⟨w.heap.size, 1, none⟩ = some (.int .i64 x) ∧ W9.cell? ⟨w.heap.size, 2, none⟩ = some (.int .i64 n) ∧ W9.cell? ⟨w.heap.size, 3, none⟩ = some (.int .i64 s) ∧ W9.cell? ⟨w.heap.size, 4, none⟩ = some (.int .i64 u) ∧ Hid (NT w R M D r f xs v k x n s u W9))
      (first
        | (go_split_ands; with_reducible exact ntS (Hid.out (by with_reducible assumption)))
        | (go_split_ands; with_reducible exact ntS (NT.on (Hid.out (by with_reducible assumption)) hb))
        | (go_split_ands; with_reducible exact ntS (NT.drew (Hid.out (by with_reducible assumption))))
        | fail)
      (first
        | (go_split_ands; go_at_call 69; ((with_reducible refine (CC.out _ (by with_reducible assumption)).mono ?_); rintro e w' ⟨rfl, hb⟩))
        | (go_split_ands; go_at_call 101; ((with_reducible refine (CP.out _).mono ?_); rintro e w' ⟨rfl, hb⟩))
        | fail)
    all_goals
      go_split_ands
      have HN4 : Hid (NT w R M D r f xs v k x n s u w') := by with_reducible assumption
      obtain ⟨t0, t1, -, -⟩ := HN4.out.tf
      obtain ⟨c0, c1, c2, c3, c4, -⟩ := ntS HN4.out
      have ht1 : w'.drew.cell? ⟨D, 1, none⟩ = some (.map (some M)) := t1
      have hp1 := HPUT.out w' HN4.out (.int .i64 Z)
      have hp2 := HPUT.out w'.drew HN4.out.drew (.int .i64 Z)
      go_wp2_with fail
      go_region
      go_wp2_with fail
      go_ret
      exact ⟨rfl, HEND.out _ HN4.out.drew⟩

end Go.Proofs.YtnclncglmnbelaaGreat
