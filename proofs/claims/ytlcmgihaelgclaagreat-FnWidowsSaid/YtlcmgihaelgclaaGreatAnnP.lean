/- Annuities: the program's price closures, the map that holds them, a price by its span. -/
import Derived.Test.YtlcmgihaelgclaaGreatAnnI
import Derived.Test.YtlcmgihaelgclaaGreatAnn
import Derived.Maps.OwnOps
namespace Go.Proofs.YtlcmgihaelgclaaGreat
open Go.ChangeShapes Go.WideShapes Go.ChangeAt Go.RowKit
open Go.ChangeMaps (setBlock heap_setBlock_same heap_setBlock_other)
set_option linter.unusedVariables false
set_option maxRecDepth 100000

/-- the price closure over a numerator -/
def clo (cb n : Nat) : Value := .func (.func 74) #[] #[.pointer (some ⟨cb, 0, none⟩), .pointer (some ⟨n, 0, none⟩)]

/-- a numerator over the columns -/
def nmr (fn : FuncId) (cb : Nat) : Value := .func (.func fn) #[] #[.pointer (some ⟨cb, 0, none⟩)]

def prV (d b u : Int) : Int := if d = 0 then 0 else upV b u d
def prE (d : Int) : Int := if d = 0 then 5 else 0

set_option maxHeartbeats 1000000 in
theorem price_any (fn : FuncId) (he : ∀ args (w : World), (callFunc fn args).run Tryz.prog w = .ok (.enter fn args) w) (r f : Int) (xs : List Int) (v : Value) (cb nb R : Nat) (x b n U : Int) (w : World) (hc : Cap w cb R) (hn : w.cell? ⟨nb, 0, none⟩ = some (nmr fn cb)) (h : Cols w R r f xs v) (ht : LTab f xs) (r0 : 0 ≤ r) (f0 : 0 ≤ f) (x0 : f ≤ x) (x1 : x ≤ 150)
    (b0 : 1 ≤ b) (b1 : b ≤ 1000000) (u0 : 0 ≤ U) (u1 : U ≤ cN r xs (x - f).toNat)
    (hnum : ∀ W, Below w.heap.size w W → Calls Tryz.prog fn #[.int .i64 x, .int .i64 n, .pointer (some ⟨cb, 0, none⟩)] W fun e w' => e = .returned (.int .i64 U) ∧ Below W.heap.size W w') :
    Calls Tryz.prog 74 #[.int .i64 x, .int .i64 b, .int .i64 n, .pointer (some ⟨cb, 0, none⟩), .pointer (some ⟨nb, 0, none⟩)] w (IIPost (prV (cD r xs (x - f).toNat) b U) (prE (cD r xs (x - f).toNat)) w) := by
  have HA := Lib.hid (at_cols r f xs v R x w h f0 x0 x1)
  have HN := Lib.hid hnum
  have hq := fun hd => ht.quot r r0 (x - f).toNat U b u0 u1 hd (by omega) b1
  obtain ⟨A, hA⟩ : ∃ A, cD r xs (x - f).toNat = A := ⟨_, rfl⟩
  obtain ⟨B, hB⟩ : ∃ A, cN r xs (x - f).toNat = A := ⟨_, rfl⟩
  obtain ⟨C, hC⟩ : ∃ A, cC r xs (x - f).toNat = A := ⟨_, rfl⟩
  obtain ⟨D, hD⟩ : ∃ A, cM r xs (x - f).toNat = A := ⟨_, rfl⟩
  rw [hA] at hq ⊢
  rw [hA, hB, hC, hD] at HA
  have hfl := fldD A B C D
  have HQ := Lib.hid hq
  unfold Cap at hc
  unfold nmr at hn
  unfold IIPost
  clear hA hB hC hD h ht hnum hq u1
  by_cases hz : A = 0
  · subst hz
    go_enter Tryz.func74, Tryz.ntmps74
    go_wp2_with fail
    refine HA.out.mono ?_
    rintro e w1 ⟨rfl, hb⟩
    have HB := Lib.hid hb
    clear hb
    go_wp2_with fail
    go_ret2
    exact ⟨rfl, HB.out⟩
  · have hz2 : (A == 0) = false := by simp [hz]
    obtain ⟨q1, q2, q3, q4⟩ := HQ.out hz
    have CT := Lib.hid (fun W => tu_any b U A W (by omega) (by omega) u0 q1 q2 q3 (by omega))
    have HV : Hid (prV A b U = upV b U A ∧ prE A = 0) := Lib.hid (by simp [prV, prE, hz])
    obtain ⟨Z, hZ⟩ : ∃ Z, upV b U A = Z := ⟨_, rfl⟩
    rw [hZ] at CT HV
    clear hZ hz q1 q2 q3 q4 HQ
    go_enter Tryz.func74, Tryz.ntmps74
    go_wp2_with fail
    refine HA.out.mono ?_
    rintro e w1 ⟨rfl, hb⟩
    have hn := keep2 hb hn
    have HB := Lib.hid hb
    clear hb hc
    go_wp2_with fail
    with_reducible refine (HN.out _ HB.out).mono ?_
    rintro e w2 ⟨rfl, hb⟩
    have HB2 := Lib.hid (HB.out.trans (hb.mono HB.out.size))
    clear hb
    go_wp2_with fail
    refine (CT.out _).mono ?_
    rintro e w3 ⟨rfl, hb⟩
    have HB3 := Lib.hid (HB2.out.trans (hb.mono HB2.out.size))
    clear hb
    go_wp2_with fail
    go_ret2
    exact ⟨ret_ii HV.out.1.symm HV.out.2.symm, HB3.out⟩

/-! ### the map -/

theorem und_map : Tryz.prog.underlying 84 = some (.map 52 83) := by kernel_rfl

theorem und_span : Tryz.prog.underlying 52 = some (.int .i64) := by kernel_rfl

theorem map_put (w : World) (b : Nat) (es : Array MapEntry) (clock : Nat) (k : Int) (v : Value) (hw : (Lit.int .i64 k).wf = true) (hb : w.heap[b]? = some (.map es clock)) (hn : Instr.findNow (.int .i64) (.int .i64 k) es.toList 0 = some none) :
    (Instr.mapUpdate 84 (.map (some b)) (.int .i64 k) v).run Tryz.prog w = .ok () (setBlock w b (.map (es.push ⟨.int .i64 k, v, clock⟩) (clock + 1))) := by
  have hck := (Go.Maps.int_keyed und_span).check w false (Go.Maps.keyOf_int_mk und_span hw)
  simp [Instr.mapUpdate, run_underlying und_map, MapKept.run_getObj_map hb, hck, Instr.findKey, run_underlying und_span, hn, MapKept.run_setObj_map _ hb, Result.andThen, setBlock]

theorem map_get (w : World) (b : Nat) (es : Array MapEntry) (clock : Nat) (k : Int) (v : Value) (i : Nat) (hw : (Lit.int .i64 k).wf = true) (hb : w.heap[b]? = some (.map es clock)) (hn : Instr.findNow (.int .i64) (.int .i64 k) es.toList 0 = some (some (i, v))) :
    (Instr.lookup 84 (.map (some b)) (.int .i64 k) false).run Tryz.prog w = .ok v w := by
  have hck := (Go.Maps.int_keyed und_span).check w (es.isEmpty) (Go.Maps.keyOf_int_mk und_span hw)
  simp [Instr.lookup, run_underlying und_map, MapKept.run_getObj_map hb, hck, Instr.findKey, run_underlying und_span, hn, Result.andThen]

theorem od_any (fn : FuncId) (cb : Nat) (w : World) :
    Calls Tryz.prog 73 #[nmr fn cb, .pointer (some ⟨cb, 0, none⟩)] w fun e w' => ∃ n, e = .returned (clo cb n) ∧ w.heap.size ≤ n ∧ w'.cell? ⟨n, 0, none⟩ = some (nmr fn cb) ∧ Below w.heap.size w w' := by
  have hmf : ∀ (fn : Fn) (first cap : Array Value) (w : World), (Instr.makeFunc fn first cap).run Tryz.prog w = .ok (.func fn first cap) w := fun _ _ _ _ => rfl
  unfold nmr clo
  go_enter Tryz.func73, Tryz.ntmps73
  go_wp2_with fail
  go_ret
  exact ⟨_, rfl, Nat.le_refl _, by go_simp, box_b _ _⟩

/-- the map of the three prices -/
def mapE (cb n0 n1 n2 : Nat) : Array MapEntry := #[⟨.int .i64 0, clo cb n0, 0⟩, ⟨.int .i64 1, clo cb n1, 1⟩, ⟨.int .i64 2, clo cb n2, 2⟩]

structure Pm (w : World) (B cb R n0 n1 n2 : Nat) : Prop where
  map : w.heap[B]? = some (.map (mapE cb n0 n1 n2) 3)
  cap : Cap w cb R
  m0 : w.cell? ⟨n0, 0, none⟩ = some (nmr 77 cb)
  m1 : w.cell? ⟨n1, 0, none⟩ = some (nmr 78 cb)
  m2 : w.cell? ⟨n2, 0, none⟩ = some (nmr 79 cb)

theorem map_lt {w : World} {B : Nat} {es : Array MapEntry} {c : Nat} (h : w.heap[B]? = some (.map es c)) : B < w.heap.size := by
  by_cases hb : B < w.heap.size
  · exact hb
  · have : w.heap[B]? = none := by simp; omega
    rw [this] at h; cases h

theorem Pm.on {w w' : World} {B cb R n0 n1 n2 : Nat} (h : Pm w B cb R n0 n1 n2) (hb : Below w.heap.size w w') : Pm w' B cb R n0 n1 n2 :=
  ⟨(hb.block B (map_lt h.map)).trans h.map, keep2 hb h.cap, keep2 hb h.m0, keep2 hb h.m1, keep2 hb h.m2⟩

theorem setB_cell {w : World} {b : Nat} {es : Array MapEntry} {c : Nat} (hb : w.heap[b]? = some (.map es c)) (o : Obj) {p : Addr} {v : Value} (h : w.cell? p = some v) : (setBlock w b o).cell? p = some v := by
  have hne : p.block ≠ b := by
    rintro rfl
    unfold World.cell? at h
    rw [hb] at h
    simp at h
  exact (World.cell?_of_block (w := w) (heap_setBlock_other hb o hne)).trans h

theorem setB_below {B : Nat} {w0 w : World} {b : Nat} {es : Array MapEntry} {c : Nat} (h : Below B w0 w) (hb : w.heap[b]? = some (.map es c)) (hB : B ≤ b) (o : Obj) : Below B w0 (setBlock w b o) :=
  h.trans ⟨rfl, rfl, rfl, by simp [setBlock], fun k hk => heap_setBlock_other hb o (by omega)⟩

theorem cap_new (R : Nat) (t : TypeId) (w : World) : Cap (w.alloc (.cells #[.pointer (some ⟨R, 0, none⟩)] t)) w.heap.size R := by
  unfold Cap; go_simp

theorem newMap (w : World) : (w.alloc (.map #[] 0)).heap[w.heap.size]? = some (.map #[] 0) := heap_alloc_new _ _

def PmPost (w : World) (R : Nat) (e : Ending) (w' : World) : Prop := ∃ B cb n0 n1 n2, e = .returned (.map (some B)) ∧ Pm w' B cb R n0 n1 n2 ∧ Below w.heap.size w w'

/-- a call between two entries: what the map and the boxes are -/
structure Mk (w : World) (W : World) (B cb R : Nat) (es : Array MapEntry) (c : Nat) : Prop where
  map : W.heap[B]? = some (.map es c)
  cap : Cap W cb R
  low : Below w.heap.size w W
  new : w.heap.size ≤ B

theorem Mk.on {w W W' : World} {B cb R : Nat} {es : Array MapEntry} {c : Nat} (h : Mk w W B cb R es c) (hb : Below W.heap.size W W') : Mk w W' B cb R es c :=
  ⟨(hb.block B (map_lt h.map)).trans h.map, keep2 hb h.cap, h.low.trans (hb.mono h.low.size), h.new⟩

theorem Mk.put {w W : World} {B cb R : Nat} {es : Array MapEntry} {c : Nat} (h : Mk w W B cb R es c) (e : MapEntry) : Mk w (setBlock W B (.map (es.push e) (c + 1))) B cb R (es.push e) (c + 1) :=
  ⟨heap_setBlock_same h.map _, setB_cell h.map _ h.cap, setB_below h.low h.map h.new _, h.new⟩

set_option maxHeartbeats 1000000 in
theorem prices_any (R : Nat) (w : World) : Calls Tryz.prog 59 #[.pointer (some ⟨R, 0, none⟩)] w (PmPost w R) := by
  have hmf : ∀ (fn : Fn) (first cap : Array Value) (w : World), (Instr.makeFunc fn first cap).run Tryz.prog w = .ok (.func fn first cap) w := fun _ _ _ _ => rfl
  have hmm := @run_makeMap Tryz.prog
  have OD := Lib.hid od_any
  unfold nmr clo at OD
  have hc1 := cap_new R 85 w
  have hb1 := box_b w (.cells #[.pointer (some ⟨R, 0, none⟩)] 85)
  have hs1 : (w.alloc (.cells #[.pointer (some ⟨R, 0, none⟩)] 85)).heap.size = w.heap.size + 1 := by simp
  have hm2 := newMap (w.alloc (.cells #[.pointer (some ⟨R, 0, none⟩)] 85))
  have hq := Below.alloc (Below.refl (w.alloc (.cells #[.pointer (some ⟨R, 0, none⟩)] 85)).heap.size (w.alloc (.cells #[.pointer (some ⟨R, 0, none⟩)] 85))) (Nat.le_refl _) (.map #[] 0)
  have HM : Hid (Mk w ((w.alloc (.cells #[.pointer (some ⟨R, 0, none⟩)] 85)).alloc (.map #[] 0)) (w.heap.size + 1) w.heap.size R #[] 0) :=
    Lib.hid ⟨by rw [← hs1]; exact hm2, keep2 hq hc1, hb1.trans (hq.mono (by omega)), by omega⟩
  obtain ⟨cb, hcb⟩ : ∃ cb, w.heap.size = cb := ⟨_, rfl⟩
  clear hc1 hb1 hs1 hm2 hq
  go_enter Tryz.func59, Tryz.ntmps59
  go_wp2_with fail
  obtain ⟨w2, hw2⟩ : ∃ W, (w.alloc (.cells #[.pointer (some ⟨R, 0, none⟩)] 85)).alloc (.map #[] 0) = W := ⟨_, rfl⟩
  rw [hw2] at HM ⊢
  rw [hcb] at HM
  clear hw2
  refine (OD.out _ _ _).mono ?_
  rintro e w3 ⟨n0, rfl, hnn, hcn, hb⟩
  have HM := Lib.hid (HM.out.on hb)
  have hput := map_put w3 (cb + 1) (#[] : Array MapEntry) 0 0 (clo cb n0) (by decide) HM.out.map rfl
  have HC0 := Lib.hid (setB_cell HM.out.map (.map ((#[] : Array MapEntry).push ⟨.int .i64 0, clo cb n0, 0⟩) (0 + 1)) hcn)
  have HM := Lib.hid (HM.out.put ⟨.int .i64 0, clo cb n0, 0⟩)
  obtain ⟨w4, hw⟩ : ∃ W, setBlock w3 (cb + 1) (.map ((#[] : Array MapEntry).push ⟨.int .i64 0, clo cb n0, 0⟩) (0 + 1)) = W := ⟨_, rfl⟩
  rw [hw] at hput HM HC0
  unfold clo at hput
  clear hw hb hcn hnn
  go_wp2_with fail
  clear hput
  refine (OD.out _ _ _).mono ?_
  rintro e w5 ⟨n1, rfl, hnn, hcn, hb⟩
  have HM := Lib.hid (HM.out.on hb)
  have HC0 := Lib.hid (keep2 hb HC0.out)
  have hput := map_put w5 (cb + 1) ((#[] : Array MapEntry).push ⟨.int .i64 0, clo cb n0, 0⟩) 1 1 (clo cb n1) (by decide) HM.out.map rfl
  have HC1 := Lib.hid (setB_cell HM.out.map (.map (((#[] : Array MapEntry).push ⟨.int .i64 0, clo cb n0, 0⟩).push ⟨.int .i64 1, clo cb n1, 1⟩) (1 + 1)) hcn)
  have HC0 := Lib.hid (setB_cell HM.out.map (.map (((#[] : Array MapEntry).push ⟨.int .i64 0, clo cb n0, 0⟩).push ⟨.int .i64 1, clo cb n1, 1⟩) (1 + 1)) HC0.out)
  have HM := Lib.hid (HM.out.put ⟨.int .i64 1, clo cb n1, 1⟩)
  obtain ⟨w6, hw⟩ : ∃ W, setBlock w5 (cb + 1) (.map (((#[] : Array MapEntry).push ⟨.int .i64 0, clo cb n0, 0⟩).push ⟨.int .i64 1, clo cb n1, 1⟩) (1 + 1)) = W := ⟨_, rfl⟩
  rw [hw] at hput HM HC0 HC1
  unfold clo at hput
  clear hw hb hcn hnn
  go_wp2_with fail
  clear hput
  refine (OD.out _ _ _).mono ?_
  rintro e w7 ⟨n2, rfl, hnn, hcn, hb⟩
  have HM := Lib.hid (HM.out.on hb)
  have HC0 := Lib.hid (keep2 hb HC0.out)
  have HC1 := Lib.hid (keep2 hb HC1.out)
  have hput := map_put w7 (cb + 1) (((#[] : Array MapEntry).push ⟨.int .i64 0, clo cb n0, 0⟩).push ⟨.int .i64 1, clo cb n1, 1⟩) 2 2 (clo cb n2) (by decide) HM.out.map rfl
  have HC2 := Lib.hid (setB_cell HM.out.map (.map ((((#[] : Array MapEntry).push ⟨.int .i64 0, clo cb n0, 0⟩).push ⟨.int .i64 1, clo cb n1, 1⟩).push ⟨.int .i64 2, clo cb n2, 2⟩) (2 + 1)) hcn)
  have HC0 := Lib.hid (setB_cell HM.out.map (.map ((((#[] : Array MapEntry).push ⟨.int .i64 0, clo cb n0, 0⟩).push ⟨.int .i64 1, clo cb n1, 1⟩).push ⟨.int .i64 2, clo cb n2, 2⟩) (2 + 1)) HC0.out)
  have HC1 := Lib.hid (setB_cell HM.out.map (.map ((((#[] : Array MapEntry).push ⟨.int .i64 0, clo cb n0, 0⟩).push ⟨.int .i64 1, clo cb n1, 1⟩).push ⟨.int .i64 2, clo cb n2, 2⟩) (2 + 1)) HC1.out)
  have HM := Lib.hid (HM.out.put ⟨.int .i64 2, clo cb n2, 2⟩)
  obtain ⟨w8, hw⟩ : ∃ W, setBlock w7 (cb + 1) (.map ((((#[] : Array MapEntry).push ⟨.int .i64 0, clo cb n0, 0⟩).push ⟨.int .i64 1, clo cb n1, 1⟩).push ⟨.int .i64 2, clo cb n2, 2⟩) (2 + 1)) = W := ⟨_, rfl⟩
  rw [hw] at hput HM HC0 HC1 HC2
  unfold clo at hput
  clear hw hb hcn hnn
  go_wp2_with fail
  clear hput
  go_ret
  refine ⟨_, cb, n0, n1, n2, rfl, ⟨?_, HM.out.cap, HC0.out, HC1.out, HC2.out⟩, HM.out.low⟩
  exact HM.out.map

end Go.Proofs.YtlcmgihaelgclaaGreat
