/- Merged: AnnP, AnnQ, AnnR. -/
import Derived.Test.YtmcagpcldjopjaaAn13
import Derived.Test.YtmcagpcldjopjaaAn14
import Derived.Maps.OwnOps
import Derived.Shelf.Abstract

/- Annuities: the program's price closures, the map that holds them, a price by its span. -/
namespace Go.Proofs.Ytmcagpcldjopjaa
open Go.ChangeShapes Go.WideShapes Go.ChangeAt Go.RowKit
open Go.ChangeMaps (setBlock heap_setBlock_same heap_setBlock_other)
set_option linter.unusedVariables false
set_option maxRecDepth 100000

/-- the price closure over a numerator -/
def clo (cb n : Nat) : Value := .func (.func 97) #[] #[.pointer (some ⟨cb, 0, none⟩), .pointer (some ⟨n, 0, none⟩)]

/-- a numerator over the columns -/
def nmr (fn : FuncId) (cb : Nat) : Value := .func (.func fn) #[] #[.pointer (some ⟨cb, 0, none⟩)]

def prV (d b u : Int) : Int := if d = 0 then 0 else upV b u d
def prE (d : Int) : Int := if d = 0 then 5 else 0

set_option maxHeartbeats 1000000 in
theorem price_any (fn : FuncId) (he : ∀ args (w : World), (callFunc fn args).run Try.prog w = .ok (.enter fn args) w) (r f : Int) (xs : List Int) (v : Value) (cb nb R : Nat) (x b n U : Int) (w : World) (hc : Cap w cb R) (hn : w.cell? ⟨nb, 0, none⟩ = some (nmr fn cb)) (h : Cols w R r f xs v) (ht : LTab f xs) (r0 : 0 ≤ r) (f0 : 0 ≤ f) (x0 : f ≤ x) (x1 : x ≤ 150)
    (b0 : 1 ≤ b) (b1 : b ≤ 1000000) (u0 : 0 ≤ U) (u1 : U ≤ cN r xs (x - f).toNat)
    (hnum : ∀ W, Below w.heap.size w W → Calls Try.prog fn #[.int .i64 x, .int .i64 n, .pointer (some ⟨cb, 0, none⟩)] W fun e w' => e = .returned (.int .i64 U) ∧ Below W.heap.size W w') :
    Calls Try.prog 97 #[.int .i64 x, .int .i64 b, .int .i64 n, .pointer (some ⟨cb, 0, none⟩), .pointer (some ⟨nb, 0, none⟩)] w (IIPost (prV (cD r xs (x - f).toNat) b U) (prE (cD r xs (x - f).toNat)) w) := by
  have HA := Lib.hid (at_cols r f xs v R x w h f0 x0 x1)
  have HN := Lib.hid hnum
  have hq := fun hd => ht.quot r r0 (x - f).toNat U b u0 u1 hd (by omega) b1
  obtain ⟨A, hA⟩ : ∃ A, cD r xs (x - f).toNat = A := ⟨_, rfl⟩
  obtain ⟨B, hB⟩ : ∃ A, cN r xs (x - f).toNat = A := ⟨_, rfl⟩
  obtain ⟨C, hC⟩ : ∃ A, cC r xs (x - f).toNat = A := ⟨_, rfl⟩
  obtain ⟨D, hD⟩ : ∃ A, cM r xs (x - f).toNat = A := ⟨_, rfl⟩
  rw [hA] at hq ⊢
  rw [hA, hB, hC, hD] at HA
  have hfl := fldD A B C D
  have HQ := Lib.hid hq
  unfold Cap at hc
  unfold nmr at hn
  unfold IIPost
  clear hA hB hC hD h ht hnum hq u1
  by_cases hz : A = 0
  · subst hz
    go_enter Try.func97, Try.ntmps97
    go_wp2_with fail
    refine HA.out.mono ?_
    rintro e w1 ⟨rfl, hb⟩
    have HB := Lib.hid hb
    clear hb
    go_wp2_with fail
    go_ret2
    exact ⟨rfl, HB.out⟩
  · have hz2 : (A == 0) = false := by simp [hz]
    obtain ⟨q1, q2, q3, q4⟩ := HQ.out hz
    have CT := Lib.hid (fun W => tu_any b U A W (by omega) (by omega) u0 q1 q2 q3 (by omega))
    have HV : Hid (prV A b U = upV b U A ∧ prE A = 0) := Lib.hid (by simp [prV, prE, hz])
    obtain ⟨Z, hZ⟩ : ∃ Z, upV b U A = Z := ⟨_, rfl⟩
    rw [hZ] at CT HV
    clear hZ hz q1 q2 q3 q4 HQ
    go_enter Try.func97, Try.ntmps97
    go_wp2_with fail
    refine HA.out.mono ?_
    rintro e w1 ⟨rfl, hb⟩
    have hn := keep2 hb hn
    have HB := Lib.hid hb
    clear hb hc
    go_wp2_with fail
    with_reducible refine (HN.out _ HB.out).mono ?_
    rintro e w2 ⟨rfl, hb⟩
    have HB2 := Lib.hid (HB.out.trans (hb.mono HB.out.size))
    clear hb
    go_wp2_with fail
    refine (CT.out _).mono ?_
    rintro e w3 ⟨rfl, hb⟩
    have HB3 := Lib.hid (HB2.out.trans (hb.mono HB2.out.size))
    clear hb
    go_wp2_with fail
    go_ret2
    exact ⟨ret_ii HV.out.1.symm HV.out.2.symm, HB3.out⟩

/-! ### the map -/

theorem und_map : Try.prog.underlying 88 = some (.map 70 87) := by kernel_rfl

theorem und_span : Try.prog.underlying 70 = some (.int .i64) := by kernel_rfl

theorem map_put (w : World) (b : Nat) (es : Array MapEntry) (clock : Nat) (k : Int) (v : Value) (hw : (Lit.int .i64 k).wf = true) (hb : w.heap[b]? = some (.map es clock)) (hn : Instr.findNow (.int .i64) (.int .i64 k) es.toList 0 = some none) :
    (Instr.mapUpdate 88 (.map (some b)) (.int .i64 k) v).run Try.prog w = .ok () (setBlock w b (.map (es.push ⟨.int .i64 k, v, clock⟩) (clock + 1))) := by
  have hck := (Go.Maps.int_keyed und_span).check w false (Go.Maps.keyOf_int_mk und_span hw)
  simp [Instr.mapUpdate, run_underlying und_map, MapKept.run_getObj_map hb, hck, Instr.findKey, run_underlying und_span, hn, MapKept.run_setObj_map _ hb, Result.andThen, setBlock]

theorem map_get (w : World) (b : Nat) (es : Array MapEntry) (clock : Nat) (k : Int) (v : Value) (i : Nat) (hw : (Lit.int .i64 k).wf = true) (hb : w.heap[b]? = some (.map es clock)) (hn : Instr.findNow (.int .i64) (.int .i64 k) es.toList 0 = some (some (i, v))) :
    (Instr.lookup 88 (.map (some b)) (.int .i64 k) false).run Try.prog w = .ok v w := by
  have hck := (Go.Maps.int_keyed und_span).check w (es.isEmpty) (Go.Maps.keyOf_int_mk und_span hw)
  simp [Instr.lookup, run_underlying und_map, MapKept.run_getObj_map hb, hck, Instr.findKey, run_underlying und_span, hn, Result.andThen]

theorem od_any (fn : FuncId) (cb : Nat) (w : World) :
    Calls Try.prog 96 #[nmr fn cb, .pointer (some ⟨cb, 0, none⟩)] w fun e w' => ∃ n, e = .returned (clo cb n) ∧ w.heap.size ≤ n ∧ w'.cell? ⟨n, 0, none⟩ = some (nmr fn cb) ∧ Below w.heap.size w w' := by
  have hmf : ∀ (fn : Fn) (first cap : Array Value) (w : World), (Instr.makeFunc fn first cap).run Try.prog w = .ok (.func fn first cap) w := fun _ _ _ _ => rfl
  unfold nmr clo
  go_enter Try.func96, Try.ntmps96
  go_wp2_with fail
  go_ret
  exact ⟨_, rfl, Nat.le_refl _, by go_simp, box_b _ _⟩

/-- the map of the three prices -/
def mapE (cb n0 n1 n2 : Nat) : Array MapEntry := #[⟨.int .i64 0, clo cb n0, 0⟩, ⟨.int .i64 1, clo cb n1, 1⟩, ⟨.int .i64 2, clo cb n2, 2⟩]

structure Pm (w : World) (B cb R n0 n1 n2 : Nat) : Prop where
  map : w.heap[B]? = some (.map (mapE cb n0 n1 n2) 3)
  cap : Cap w cb R
  m0 : w.cell? ⟨n0, 0, none⟩ = some (nmr 98 cb)
  m1 : w.cell? ⟨n1, 0, none⟩ = some (nmr 99 cb)
  m2 : w.cell? ⟨n2, 0, none⟩ = some (nmr 100 cb)

theorem map_lt {w : World} {B : Nat} {es : Array MapEntry} {c : Nat} (h : w.heap[B]? = some (.map es c)) : B < w.heap.size := by
  by_cases hb : B < w.heap.size
  · exact hb
  · have : w.heap[B]? = none := by simp; omega
    rw [this] at h; cases h

theorem Pm.on {w w' : World} {B cb R n0 n1 n2 : Nat} (h : Pm w B cb R n0 n1 n2) (hb : Below w.heap.size w w') : Pm w' B cb R n0 n1 n2 :=
  ⟨(hb.block B (map_lt h.map)).trans h.map, keep2 hb h.cap, keep2 hb h.m0, keep2 hb h.m1, keep2 hb h.m2⟩

theorem setB_cell {w : World} {b : Nat} {es : Array MapEntry} {c : Nat} (hb : w.heap[b]? = some (.map es c)) (o : Obj) {p : Addr} {v : Value} (h : w.cell? p = some v) : (setBlock w b o).cell? p = some v := by
  have hne : p.block ≠ b := by
    rintro rfl
    unfold World.cell? at h
    rw [hb] at h
    simp at h
  exact (World.cell?_of_block (w := w) (heap_setBlock_other hb o hne)).trans h

theorem setB_below {B : Nat} {w0 w : World} {b : Nat} {es : Array MapEntry} {c : Nat} (h : Below B w0 w) (hb : w.heap[b]? = some (.map es c)) (hB : B ≤ b) (o : Obj) : Below B w0 (setBlock w b o) :=
  h.trans ⟨rfl, rfl, rfl, by simp [setBlock], fun k hk => heap_setBlock_other hb o (by omega)⟩

theorem cap_new (R : Nat) (t : TypeId) (w : World) : Cap (w.alloc (.cells #[.pointer (some ⟨R, 0, none⟩)] t)) w.heap.size R := by
  unfold Cap; go_simp

theorem newMap (w : World) : (w.alloc (.map #[] 0)).heap[w.heap.size]? = some (.map #[] 0) := heap_alloc_new _ _

def PmPost (w : World) (R : Nat) (e : Ending) (w' : World) : Prop := ∃ B cb n0 n1 n2, e = .returned (.map (some B)) ∧ Pm w' B cb R n0 n1 n2 ∧ Below w.heap.size w w'

/-- a call between two entries: what the map and the boxes are -/
structure Mk (w : World) (W : World) (B cb R : Nat) (es : Array MapEntry) (c : Nat) : Prop where
  map : W.heap[B]? = some (.map es c)
  cap : Cap W cb R
  low : Below w.heap.size w W
  new : w.heap.size ≤ B

theorem Mk.on {w W W' : World} {B cb R : Nat} {es : Array MapEntry} {c : Nat} (h : Mk w W B cb R es c) (hb : Below W.heap.size W W') : Mk w W' B cb R es c :=
  ⟨(hb.block B (map_lt h.map)).trans h.map, keep2 hb h.cap, h.low.trans (hb.mono h.low.size), h.new⟩

theorem Mk.put {w W : World} {B cb R : Nat} {es : Array MapEntry} {c : Nat} (h : Mk w W B cb R es c) (e : MapEntry) : Mk w (setBlock W B (.map (es.push e) (c + 1))) B cb R (es.push e) (c + 1) :=
  ⟨heap_setBlock_same h.map _, setB_cell h.map _ h.cap, setB_below h.low h.map h.new _, h.new⟩

set_option maxHeartbeats 1000000 in
theorem prices_any (R : Nat) (w : World) : Calls Try.prog 77 #[.pointer (some ⟨R, 0, none⟩)] w (PmPost w R) := by
  have hmf : ∀ (fn : Fn) (first cap : Array Value) (w : World), (Instr.makeFunc fn first cap).run Try.prog w = .ok (.func fn first cap) w := fun _ _ _ _ => rfl
  have hmm := @run_makeMap Try.prog
  have OD := Lib.hid od_any
  unfold nmr clo at OD
  have hc1 := cap_new R 78 w
  have hb1 := box_b w (.cells #[.pointer (some ⟨R, 0, none⟩)] 78)
  have hs1 : (w.alloc (.cells #[.pointer (some ⟨R, 0, none⟩)] 78)).heap.size = w.heap.size + 1 := by simp
  have hm2 := newMap (w.alloc (.cells #[.pointer (some ⟨R, 0, none⟩)] 78))
  have hq := Below.alloc (Below.refl (w.alloc (.cells #[.pointer (some ⟨R, 0, none⟩)] 78)).heap.size (w.alloc (.cells #[.pointer (some ⟨R, 0, none⟩)] 78))) (Nat.le_refl _) (.map #[] 0)
  have HM : Hid (Mk w ((w.alloc (.cells #[.pointer (some ⟨R, 0, none⟩)] 78)).alloc (.map #[] 0)) (w.heap.size + 1) w.heap.size R #[] 0) :=
    Lib.hid ⟨by rw [← hs1]; exact hm2, keep2 hq hc1, hb1.trans (hq.mono (by omega)), by omega⟩
  obtain ⟨cb, hcb⟩ : ∃ cb, w.heap.size = cb := ⟨_, rfl⟩
  clear hc1 hb1 hs1 hm2 hq
  go_enter Try.func77, Try.ntmps77
  go_wp2_with fail
  obtain ⟨w2, hw2⟩ : ∃ W, (w.alloc (.cells #[.pointer (some ⟨R, 0, none⟩)] 78)).alloc (.map #[] 0) = W := ⟨_, rfl⟩
  rw [hw2] at HM ⊢
  rw [hcb] at HM
  clear hw2
  refine (OD.out _ _ _).mono ?_
  rintro e w3 ⟨n0, rfl, hnn, hcn, hb⟩
  have HM := Lib.hid (HM.out.on hb)
  have hput := map_put w3 (cb + 1) (#[] : Array MapEntry) 0 0 (clo cb n0) (by decide) HM.out.map rfl
  have HC0 := Lib.hid (setB_cell HM.out.map (.map ((#[] : Array MapEntry).push ⟨.int .i64 0, clo cb n0, 0⟩) (0 + 1)) hcn)
  have HM := Lib.hid (HM.out.put ⟨.int .i64 0, clo cb n0, 0⟩)
  obtain ⟨w4, hw⟩ : ∃ W, setBlock w3 (cb + 1) (.map ((#[] : Array MapEntry).push ⟨.int .i64 0, clo cb n0, 0⟩) (0 + 1)) = W := ⟨_, rfl⟩
  rw [hw] at hput HM HC0
  unfold clo at hput
  clear hw hb hcn hnn
  go_wp2_with fail
  clear hput
  refine (OD.out _ _ _).mono ?_
  rintro e w5 ⟨n1, rfl, hnn, hcn, hb⟩
  have HM := Lib.hid (HM.out.on hb)
  have HC0 := Lib.hid (keep2 hb HC0.out)
  have hput := map_put w5 (cb + 1) ((#[] : Array MapEntry).push ⟨.int .i64 0, clo cb n0, 0⟩) 1 1 (clo cb n1) (by decide) HM.out.map rfl
  have HC1 := Lib.hid (setB_cell HM.out.map (.map (((#[] : Array MapEntry).push ⟨.int .i64 0, clo cb n0, 0⟩).push ⟨.int .i64 1, clo cb n1, 1⟩) (1 + 1)) hcn)
  have HC0 := Lib.hid (setB_cell HM.out.map (.map (((#[] : Array MapEntry).push ⟨.int .i64 0, clo cb n0, 0⟩).push ⟨.int .i64 1, clo cb n1, 1⟩) (1 + 1)) HC0.out)
  have HM := Lib.hid (HM.out.put ⟨.int .i64 1, clo cb n1, 1⟩)
  obtain ⟨w6, hw⟩ : ∃ W, setBlock w5 (cb + 1) (.map (((#[] : Array MapEntry).push ⟨.int .i64 0, clo cb n0, 0⟩).push ⟨.int .i64 1, clo cb n1, 1⟩) (1 + 1)) = W := ⟨_, rfl⟩
  rw [hw] at hput HM HC0 HC1
  unfold clo at hput
  clear hw hb hcn hnn
  go_wp2_with fail
  clear hput
  refine (OD.out _ _ _).mono ?_
  rintro e w7 ⟨n2, rfl, hnn, hcn, hb⟩
  have HM := Lib.hid (HM.out.on hb)
  have HC0 := Lib.hid (keep2 hb HC0.out)
  have HC1 := Lib.hid (keep2 hb HC1.out)
  have hput := map_put w7 (cb + 1) (((#[] : Array MapEntry).push ⟨.int .i64 0, clo cb n0, 0⟩).push ⟨.int .i64 1, clo cb n1, 1⟩) 2 2 (clo cb n2) (by decide) HM.out.map rfl
  have HC2 := Lib.hid (setB_cell HM.out.map (.map ((((#[] : Array MapEntry).push ⟨.int .i64 0, clo cb n0, 0⟩).push ⟨.int .i64 1, clo cb n1, 1⟩).push ⟨.int .i64 2, clo cb n2, 2⟩) (2 + 1)) hcn)
  have HC0 := Lib.hid (setB_cell HM.out.map (.map ((((#[] : Array MapEntry).push ⟨.int .i64 0, clo cb n0, 0⟩).push ⟨.int .i64 1, clo cb n1, 1⟩).push ⟨.int .i64 2, clo cb n2, 2⟩) (2 + 1)) HC0.out)
  have HC1 := Lib.hid (setB_cell HM.out.map (.map ((((#[] : Array MapEntry).push ⟨.int .i64 0, clo cb n0, 0⟩).push ⟨.int .i64 1, clo cb n1, 1⟩).push ⟨.int .i64 2, clo cb n2, 2⟩) (2 + 1)) HC1.out)
  have HM := Lib.hid (HM.out.put ⟨.int .i64 2, clo cb n2, 2⟩)
  obtain ⟨w8, hw⟩ : ∃ W, setBlock w7 (cb + 1) (.map ((((#[] : Array MapEntry).push ⟨.int .i64 0, clo cb n0, 0⟩).push ⟨.int .i64 1, clo cb n1, 1⟩).push ⟨.int .i64 2, clo cb n2, 2⟩) (2 + 1)) = W := ⟨_, rfl⟩
  rw [hw] at hput HM HC0 HC1 HC2
  unfold clo at hput
  clear hw hb hcn hnn
  go_wp2_with fail
  clear hput
  go_ret
  refine ⟨_, cb, n0, n1, n2, rfl, ⟨?_, HM.out.cap, HC0.out, HC1.out, HC2.out⟩, HM.out.low⟩
  exact HM.out.map

end Go.Proofs.Ytmcagpcldjopjaa

/- Annuities: the program's prices. -/
namespace Go.Proofs.Ytmcagpcldjopjaa
open Go.ChangeShapes Go.WideShapes Go.ChangeAt Go.RowKit
set_option linter.unusedVariables false
set_option maxRecDepth 100000

def fnS (s : Int) : FuncId := if s = 0 then 98 else if s = 1 then 99 else 100

def numU (r f : Int) (xs : List Int) (x n s : Int) : Int := if s = 0 then cN r xs (x - f).toNat else if s = 1 then cN r xs (x - f).toNat - cN r xs (x + n - f).toNat else cN r xs (x + n - f).toNat

theorem fnS_enter (s : Int) (args : Array Value) (w : World) : (callFunc (fnS s) args).run Try.prog w = .ok (.enter (fnS s) args) w := by
  unfold fnS
  split
  · exact enters_of Try.func98 (by kernel_rfl) rfl args w
  · split
    · exact enters_of Try.func99 (by kernel_rfl) rfl args w
    · exact enters_of Try.func100 (by kernel_rfl) rfl args w

theorem numU_bd {f : Int} {xs : List Int} (h : LTab f xs) (r : Int) (r0 : 0 ≤ r) (x n s : Int) (x0 : f ≤ x) (n0 : 0 ≤ n) : 0 ≤ numU r f xs x n s ∧ numU r f xs x n s ≤ cN r xs (x - f).toNat := by
  obtain ⟨a, b⟩ := h.late r r0 x n x0 n0
  have := (h.cN_bd r r0 (x - f).toNat).1
  unfold numU
  split
  · omega
  · split <;> omega

theorem num_any (s r f : Int) (xs : List Int) (v : Value) (cb R : Nat) (x n : Int) (w : World) (hc : Cap w cb R) (h : Cols w R r f xs v) (ht : LTab f xs) (r0 : 0 ≤ r) (x0 : f ≤ x) (n0 : 0 ≤ n) (n1 : n ≤ 120) (x1 : x + n ≤ 150) :
    Calls Try.prog (fnS s) #[.int .i64 x, .int .i64 n, .pointer (some ⟨cb, 0, none⟩)] w fun e w' => e = .returned (.int .i64 (numU r f xs x n s)) ∧ Below w.heap.size w w' := by
  have f0 := ht.1.1
  unfold fnS numU
  split
  · exact num2_any r f xs v cb R x n w hc h f0 x0 (by omega)
  · split
    · exact num3_any r f xs v cb R x n w hc h ht r0 f0 x0 n0 n1 x1
    · exact num4_any r f xs v cb R x n w hc h f0 x0 n0 n1 x1

theorem Pm.get {w : World} {B cb R n0 n1 n2 : Nat} (h : Pm w B cb R n0 n1 n2) (s : Int) (hs : s = 0 ∨ s = 1 ∨ s = 2) :
    ∃ ns, (Instr.lookup 88 (.map (some B)) (.int .i64 s) false).run Try.prog w = .ok (clo cb ns) w ∧ w.cell? ⟨ns, 0, none⟩ = some (nmr (fnS s) cb) := by
  rcases hs with rfl | rfl | rfl
  · exact ⟨n0, map_get w B _ 3 0 _ 0 (by decide) h.map rfl, h.m0⟩
  · exact ⟨n1, map_get w B _ 3 1 _ 1 (by decide) h.map rfl, h.m1⟩
  · exact ⟨n2, map_get w B _ 3 2 _ 2 (by decide) h.map rfl, h.m2⟩

/-- a price of a span -/
def paV (r f : Int) (xs : List Int) (x b n s : Int) : Int := if anE r f xs x (inB b 1 1000000) n = 0 then upV b (numU r f xs x n s) (cD r xs (x - f).toNat) else 0

set_option maxHeartbeats 1000000 in
theorem pa_any (s r f : Int) (hs : s = 0 ∨ s = 1 ∨ s = 2) (xs : List Int) (a : Option Addr) (l c : Nat) (x b n : Int) (w : World) (h : Ints w a l xs) (hlc : l ≤ c) :
    Calls Try.prog 59 #[.int .i64 s, .agg #[.int .i64 f, .slice a l c], .int .i64 r, .int .i64 x, .int .i64 b, .int .i64 n] w (IIPost (paV r f xs x b n s) (anE r f xs x (inB b 1 1000000) n) w) := by
  have H := Lib.hid h
  have HS := Lib.hid hs
  have CK : Hid (∀ W, Hid (Below w.heap.size w W) → Calls Try.prog 76 #[.agg #[.int .i64 f, .slice a l c], .int .i64 r, .int .i64 x, .int .i64 b, .int .i64 n] W fun e w' => e = .returned (.int .i64 (akE r f xs x (inB b 1 1000000) n)) ∧ Below W.heap.size W w') :=
    Lib.hid (fun W hW => ackeck_any r f xs a l c x b n W (H.out.on hW.out) hlc)
  have HA := Lib.hid (anE_ak r f xs x (inB b 1 1000000) n)
  clear h hs
  obtain ⟨E, hE⟩ : ∃ E, akE r f xs x (inB b 1 1000000) n = E := ⟨_, rfl⟩
  rw [hE] at CK HA
  have HE := Lib.hid hE
  clear hE
  unfold IIPost
  by_cases hz : E = 0
  · subst hz
    obtain ⟨hc, hb, ⟨n0, n1⟩, xn⟩ := akE_iff.1 HE.out
    obtain ⟨ht, ⟨r0, r1⟩, x0, x1⟩ := coE_iff.1 hc
    obtain ⟨f0, f1⟩ := ht.1
    obtain ⟨b0, b1⟩ := (inB_iff _ _ _).1 hb
    obtain ⟨u0, u1⟩ := numU_bd ht r r0 x n s x0 n0
    have HV : Hid (paV r f xs x b n s = prV (cD r xs (x - f).toNat) b (numU r f xs x n s) ∧ anE r f xs x (inB b 1 1000000) n = prE (cD r xs (x - f).toNat)) := Lib.hid (by
      have := HA.out
      rw [if_pos rfl] at this
      unfold paV prV prE
      rw [this]
      by_cases hd : cD r xs (x - f).toNat = 0
      · simp [hd]
      · simp [hd])
    have CP : Hid (∀ cb nb R (W : World), Cap W cb R → W.cell? ⟨nb, 0, none⟩ = some (nmr (fnS s) cb) → Cols W R r f xs (.slice a l c) → Calls Try.prog 97 #[.int .i64 x, .int .i64 b, .int .i64 n, .pointer (some ⟨cb, 0, none⟩), .pointer (some ⟨nb, 0, none⟩)] W (IIPost (prV (cD r xs (x - f).toNat) b (numU r f xs x n s)) (prE (cD r xs (x - f).toNat)) W)) :=
      Lib.hid (fun cb nb R W h1 h2 h3 => price_any (fnS s) (fnS_enter s) r f xs _ cb nb R x b n (numU r f xs x n s) W h1 h2 h3 ht r0 f0 x0 x1 b0 b1 u0 u1 (fun W2 hW2 => num_any s r f xs _ cb R x n W2 (keep2 hW2 h1) (h3.on hW2) ht r0 x0 n0 n1 xn))
    obtain ⟨A, hA⟩ : ∃ y_, prV (cD r xs (x - f).toNat) b (numU r f xs x n s) = y_ := ⟨_, rfl⟩
    obtain ⟨D, hD⟩ : ∃ y_, prE (cD r xs (x - f).toNat) = y_ := ⟨_, rfl⟩
    rw [hA, hD] at HV CP
    unfold IIPost at CP
    have HT := Lib.hid ht
    clear hA hD hc hb u0 u1 HE HA ht
    go_enter Try.func59, Try.ntmps59
    go_wp2_with fail
    with_reducible refine (CK.out _ (Lib.hid (box_b _ _))).mono ?_
    rintro e w1 ⟨rfl, hb⟩
    obtain ⟨hB, hc0, hc1⟩ := box2 hb
    have HB := Lib.hid hB
    clear hB hb
    go_wp2_with fail
    with_reducible refine (co_any r f xs a l c _ (H.out.on HB.out) HT.out r0 r1).mono ?_
    rintro e w2 ⟨R, G, rfl, hR, hG, hGs, hb⟩
    have HB2 := Lib.hid (HB.out.trans (hb.mono HB.out.size))
    have HC : Hid (Cols w2 R r f xs (.slice a l c)) := Lib.hid ⟨G, hG, hGs⟩
    clear hG hGs hb hc0 hc1 HB hR
    go_wp2_with fail
    with_reducible refine (prices_any R _).mono ?_
    rintro e w3 ⟨B, cb, p0, p1, p2, rfl, hpm, hb⟩
    have HB3 := Lib.hid (HB2.out.trans (hb.mono HB2.out.size))
    have HC3 := Lib.hid (HC.out.on hb)
    obtain ⟨ns, hget, hns⟩ := hpm.get s HS.out
    have HCC := Lib.hid (CP.out cb ns R w3 hpm.cap hns HC3.out)
    unfold clo at hget
    clear hb hpm hns HC HB2
    go_wp2_with fail
    with_reducible refine HCC.out.mono ?_
    rintro e w4 ⟨rfl, hb⟩
    have HB4 := Lib.hid (HB3.out.trans (hb.mono HB3.out.size))
    clear hb hget HCC
    go_wp2_with fail
    go_ret2
    exact ⟨ret_ii HV.out.1.symm HV.out.2.symm, HB4.out⟩
  · have hne : (E != 0) = true := by simp [hz]
    have HV : Hid (paV r f xs x b n s = 0 ∧ anE r f xs x (inB b 1 1000000) n = E) := Lib.hid (by
      have := HA.out
      rw [if_neg hz] at this
      unfold paV
      rw [this, if_neg hz]
      exact ⟨rfl, rfl⟩)
    clear hz HE HA
    go_enter Try.func59, Try.ntmps59
    go_wp2_with fail
    with_reducible refine (CK.out _ (Lib.hid (box_b _ _))).mono ?_
    rintro e w1 ⟨rfl, hb⟩
    obtain ⟨hB, hc0, hc1⟩ := box2 hb
    have HB := Lib.hid hB
    clear hB hb
    go_wp2_with fail
    go_ret2
    exact ⟨ret_ii HV.out.1.symm HV.out.2.symm, HB.out⟩

end Go.Proofs.Ytmcagpcldjopjaa

/- Annuities: the program's LifeAnnuity, TermAnnuity, LateAnnuity, SureAnnuity, AmountFor. (Written by wip/gen/annr.py.) -/
namespace Go.Proofs.Ytmcagpcldjopjaa
open Go.ChangeShapes Go.WideShapes Go.ChangeAt Go.RowKit
set_option linter.unusedVariables false
set_option maxRecDepth 100000

theorem ilife_any (r f : Int) (xs : List Int) (a : Option Addr) (l c : Nat) (x b : Int) (w : World) (h : Ints w a l xs) (hlc : l ≤ c) :
    Calls Try.prog 27 #[.agg #[.int .i64 f, .slice a l c], .int .i64 r, .int .i64 x, .int .i64 b] w (IIPost (lifeV r f xs x b) (anE r f xs x (inB b 1 1000000) 0) w) := by
  have H := Lib.hid h
  have C : Hid (∀ W, Hid (Below w.heap.size w W) → Calls Try.prog 59 #[.int .i64 0, .agg #[.int .i64 f, .slice a l c], .int .i64 r, .int .i64 x, .int .i64 b, .int .i64 0] W (IIPost (lifeV r f xs x b) (anE r f xs x (inB b 1 1000000) 0) W)) :=
    Lib.hid (fun W hW => by
      have := pa_any 0 r f (by omega) xs a l c x b 0 W (H.out.on hW.out) hlc
      rw [show paV r f xs x b 0 0 = lifeV r f xs x b by unfold paV lifeV numU; simp] at this
      exact this)
  clear h
  obtain ⟨Z, hZ⟩ : ∃ y_, lifeV r f xs x b = y_ := ⟨_, rfl⟩
  obtain ⟨E, hE⟩ : ∃ y_, anE r f xs x (inB b 1 1000000) 0 = y_ := ⟨_, rfl⟩
  rw [hZ, hE] at C ⊢
  unfold IIPost at C ⊢
  clear hZ hE
  go_enter Try.func27, Try.ntmps27
  go_wp2_with fail
  with_reducible refine (C.out _ (Lib.hid (box_b _ _))).mono ?_
  rintro e w1 ⟨rfl, hb⟩
  obtain ⟨hB, hc0, hc1⟩ := box2 hb
  have HB := Lib.hid hB
  clear hB hb
  go_wp2_with fail
  go_ret2
  exact ⟨rfl, HB.out⟩

theorem iterm_any (r f : Int) (xs : List Int) (a : Option Addr) (l c : Nat) (x b n : Int) (w : World) (h : Ints w a l xs) (hlc : l ≤ c) :
    Calls Try.prog 21 #[.agg #[.int .i64 f, .slice a l c], .int .i64 r, .int .i64 x, .int .i64 b, .int .i64 n] w (IIPost (termV r f xs x b n) (anE r f xs x (inB b 1 1000000) n) w) := by
  have H := Lib.hid h
  have C : Hid (∀ W, Hid (Below w.heap.size w W) → Calls Try.prog 59 #[.int .i64 1, .agg #[.int .i64 f, .slice a l c], .int .i64 r, .int .i64 x, .int .i64 b, .int .i64 n] W (IIPost (termV r f xs x b n) (anE r f xs x (inB b 1 1000000) n) W)) :=
    Lib.hid (fun W hW => by
      have := pa_any 1 r f (by omega) xs a l c x b n W (H.out.on hW.out) hlc
      rw [show paV r f xs x b n 1 = termV r f xs x b n by unfold paV termV numU; simp] at this
      exact this)
  clear h
  obtain ⟨Z, hZ⟩ : ∃ y_, termV r f xs x b n = y_ := ⟨_, rfl⟩
  obtain ⟨E, hE⟩ : ∃ y_, anE r f xs x (inB b 1 1000000) n = y_ := ⟨_, rfl⟩
  rw [hZ, hE] at C ⊢
  unfold IIPost at C ⊢
  clear hZ hE
  go_enter Try.func21, Try.ntmps21
  go_wp2_with fail
  with_reducible refine (C.out _ (Lib.hid (box_b _ _))).mono ?_
  rintro e w1 ⟨rfl, hb⟩
  obtain ⟨hB, hc0, hc1⟩ := box2 hb
  have HB := Lib.hid hB
  clear hB hb
  go_wp2_with fail
  go_ret2
  exact ⟨rfl, HB.out⟩

theorem ilate_any (r f : Int) (xs : List Int) (a : Option Addr) (l c : Nat) (x b n : Int) (w : World) (h : Ints w a l xs) (hlc : l ≤ c) :
    Calls Try.prog 23 #[.agg #[.int .i64 f, .slice a l c], .int .i64 r, .int .i64 x, .int .i64 b, .int .i64 n] w (IIPost (lateV r f xs x b n) (anE r f xs x (inB b 1 1000000) n) w) := by
  have H := Lib.hid h
  have C : Hid (∀ W, Hid (Below w.heap.size w W) → Calls Try.prog 59 #[.int .i64 2, .agg #[.int .i64 f, .slice a l c], .int .i64 r, .int .i64 x, .int .i64 b, .int .i64 n] W (IIPost (lateV r f xs x b n) (anE r f xs x (inB b 1 1000000) n) W)) :=
    Lib.hid (fun W hW => by
      have := pa_any 2 r f (by omega) xs a l c x b n W (H.out.on hW.out) hlc
      rw [show paV r f xs x b n 2 = lateV r f xs x b n by unfold paV lateV numU; simp] at this
      exact this)
  clear h
  obtain ⟨Z, hZ⟩ : ∃ y_, lateV r f xs x b n = y_ := ⟨_, rfl⟩
  obtain ⟨E, hE⟩ : ∃ y_, anE r f xs x (inB b 1 1000000) n = y_ := ⟨_, rfl⟩
  rw [hZ, hE] at C ⊢
  unfold IIPost at C ⊢
  clear hZ hE
  go_enter Try.func23, Try.ntmps23
  go_wp2_with fail
  with_reducible refine (C.out _ (Lib.hid (box_b _ _))).mono ?_
  rintro e w1 ⟨rfl, hb⟩
  obtain ⟨hB, hc0, hc1⟩ := box2 hb
  have HB := Lib.hid hB
  clear hB hb
  go_wp2_with fail
  go_ret2
  exact ⟨rfl, HB.out⟩

theorem isure_any (r f : Int) (xs : List Int) (a : Option Addr) (l c : Nat) (x b n : Int) (w : World) (h : Ints w a l xs) (hlc : l ≤ c) :
    Calls Try.prog 25 #[.agg #[.int .i64 f, .slice a l c], .int .i64 r, .int .i64 x, .int .i64 b, .int .i64 n] w (IIPost (sureV r f xs x b n) (anE r f xs x (inB b 1 1000000) n) w) := by
  have H := Lib.hid h
  have C : Hid (∀ W, Hid (Below w.heap.size w W) → Calls Try.prog 23 #[.agg #[.int .i64 f, .slice a l c], .int .i64 r, .int .i64 x, .int .i64 b, .int .i64 n] W (IIPost (lateV r f xs x b n) (anE r f xs x (inB b 1 1000000) n) W)) :=
    Lib.hid (fun W hW => ilate_any r f xs a l c x b n W (H.out.on hW.out) hlc)
  clear h
  by_cases hz : anE r f xs x (inB b 1 1000000) n = 0
  · have HV : Hid (sureV r f xs x b n = upV b (dsum r 0 n.toNat) 1000000000 + lateV r f xs x b n) := Lib.hid (by unfold sureV lateV; rw [if_pos hz, if_pos hz])
    have HL : Hid (lateV r f xs x b n = upV b (cN r xs (x + n - f).toNat) (cD r xs (x - f).toNat)) := Lib.hid (by unfold lateV; rw [if_pos hz])
    obtain ⟨hc, hb, ⟨n0, n1⟩, xn, hd⟩ := anE_iff.1 hz
    obtain ⟨ht, ⟨r0, r1⟩, x0, x1⟩ := coE_iff.1 hc
    obtain ⟨f0, f1⟩ := ht.1
    obtain ⟨b0, b1⟩ := (inB_iff _ _ _).1 hb
    obtain ⟨l0, l1⟩ := ht.late r r0 x n x0 n0
    obtain ⟨q1, q2, q3, q4⟩ := ht.quot r r0 (x - f).toNat (cN r xs (x + n - f).toNat) b l0 l1 hd (by omega) b1
    obtain ⟨u0, u1⟩ := upV_bd b (cN r xs (x + n - f).toNat) (cD r xs (x - f).toNat) 152000000 (by omega) l0 q2 q4
    rw [← HL.out] at u0 u1
    obtain ⟨d0, d1, d2⟩ := sure_q r b n r0 n0 n1 (by omega) b1
    obtain ⟨v0, v1⟩ := upV_bd b (dsum r 0 n.toNat) 1000000000 120000000 (by omega) d0 (by omega) d2
    have CA : Hid (∀ W, Calls Try.prog 66 #[.int .i64 r, .int .i64 n] W fun e w' => e = .returned (.tuple #[.int .i64 (dsum r 0 n.toNat), .int .i64 0]) ∧ Below W.heap.size W w') := Lib.hid (fun W => by
      have := ca_impl r n W
      have hrt : rtB r n = true := (rtB_iff r n).2 ⟨⟨r0, r1⟩, n0, n1⟩
      unfold caV rtE at this
      rw [hrt, if_pos rfl, if_pos rfl] at this
      exact this)
    have CU := Lib.hid (fun W => tu_any b (dsum r 0 n.toNat) 1000000000 W (by omega) (by omega) d0 (by omega) (by omega) (by omega) (by omega))
    rw [hz] at C ⊢
    obtain ⟨U, hU⟩ : ∃ y_, upV b (dsum r 0 n.toNat) 1000000000 = y_ := ⟨_, rfl⟩
    rw [hU] at CU HV v0 v1
    obtain ⟨S, hS⟩ : ∃ y_, dsum r 0 n.toNat = y_ := ⟨_, rfl⟩
    rw [hS] at CU CA
    obtain ⟨L, hL⟩ : ∃ y_, lateV r f xs x b n = y_ := ⟨_, rfl⟩
    rw [hL] at C HV u0 u1
    have q5 : IntKind.i64.wrap (U + L) = U + L := IntWalk.i64_in _ (by omega)
    unfold IIPost at C ⊢
    clear hU hS hL hz hc hb hd ht l0 l1 q1 q2 q3 q4 d0 d1 d2 HL
    go_enter Try.func25, Try.ntmps25
    go_wp2_with fail
    with_reducible refine (C.out _ (Lib.hid (box_b _ _))).mono ?_
    rintro e w1 ⟨rfl, hb⟩
    obtain ⟨hB, hc0, hc1⟩ := box2 hb
    have HB := Lib.hid hB
    clear hB hb
    go_wp2_with fail
    with_reducible refine (CA.out _).mono ?_
    rintro e w2 ⟨rfl, hb⟩
    have HB2 := Lib.hid (HB.out.trans (hb.mono HB.out.size))
    clear hb
    go_wp2_with fail
    with_reducible refine (CU.out _).mono ?_
    rintro e w3 ⟨rfl, hb⟩
    have HB3 := Lib.hid (HB2.out.trans (hb.mono HB2.out.size))
    clear hb
    go_wp2_with fail
    go_ret2
    exact ⟨ret_ii HV.out.symm rfl, HB3.out⟩
  · have HV : Hid (sureV r f xs x b n = 0) := Lib.hid (by unfold sureV; rw [if_neg hz])
    obtain ⟨E, hE⟩ : ∃ y_, anE r f xs x (inB b 1 1000000) n = y_ := ⟨_, rfl⟩
    rw [hE] at C hz ⊢
    have hne : (E != 0) = true := by simp [hz]
    unfold IIPost at C ⊢
    clear hE hz
    go_enter Try.func25, Try.ntmps25
    go_wp2_with fail
    with_reducible refine (C.out _ (Lib.hid (box_b _ _))).mono ?_
    rintro e w1 ⟨rfl, hb⟩
    obtain ⟨hB, hc0, hc1⟩ := box2 hb
    have HB := Lib.hid hB
    clear hB hb
    go_wp2_with fail
    go_ret2
    exact ⟨ret_ii HV.out.symm rfl, HB.out⟩

set_option maxHeartbeats 1000000 in
theorem iamtf_any (r f : Int) (xs : List Int) (a : Option Addr) (l c : Nat) (x b : Int) (w : World) (h : Ints w a l xs) (hlc : l ≤ c) :
    Calls Try.prog 29 #[.agg #[.int .i64 f, .slice a l c], .int .i64 r, .int .i64 x, .int .i64 b] w (IIPost (amtV r f xs x b) (anE r f xs x (inB b 1 1000000000) 0) w) := by
  have H := Lib.hid h
  have CO : Hid (∀ W, Hid (Below w.heap.size w W) → Calls Try.prog 69 #[.agg #[.int .i64 f, .slice a l c], .int .i64 r, .int .i64 x] W fun e w' => e = .returned (.int .i64 (coE r f xs x)) ∧ Below W.heap.size W w') :=
    Lib.hid (fun W hW => icheck_any r f xs a l c x W (H.out.on hW.out) hlc)
  clear h
  unfold IIPost
  by_cases hz : coE r f xs x = 0
  case neg =>
    have HV : Hid (amtV r f xs x b = 0 ∧ anE r f xs x (inB b 1 1000000000) 0 = coE r f xs x) := Lib.hid (by
      have e : anE r f xs x (inB b 1 1000000000) 0 = coE r f xs x := by unfold anE; rw [if_neg hz]
      unfold amtV; rw [e, if_neg hz]; exact ⟨rfl, rfl⟩)
    obtain ⟨E, hE⟩ : ∃ y_, coE r f xs x = y_ := ⟨_, rfl⟩
    rw [hE] at CO hz HV
    have hne : (E != 0) = true := by simp [hz]
    clear hE hz
    go_enter Try.func29, Try.ntmps29
    go_wp2_with fail
    with_reducible refine (CO.out _ (Lib.hid (box_b _ _))).mono ?_
    rintro e w1 ⟨rfl, hb⟩
    obtain ⟨hB, hc0, hc1⟩ := box2 hb
    have HB := Lib.hid hB
    clear hB hb
    go_wp2_with fail
    go_ret2
    exact ⟨ret_ii HV.out.1.symm HV.out.2.symm, HB.out⟩
  obtain ⟨ht, ⟨r0, r1⟩, x0, x1⟩ := coE_iff.1 hz
  obtain ⟨f0, f1⟩ := ht.1
  rw [hz] at CO
  have HT := Lib.hid ht
  by_cases hb1 : inB b 1 1000000000 = true
  case neg =>
    have hb2 : inB b 1 1000000000 = false := by simpa using hb1
    have HV : Hid (amtV r f xs x b = 0 ∧ anE r f xs x (inB b 1 1000000000) 0 = 2) := Lib.hid (by
      have e : anE r f xs x (inB b 1 1000000000) 0 = 2 := by unfold anE; rw [if_pos hz, if_neg (fun h => hb1 h.1)]
      unfold amtV; rw [e, if_neg (by omega)]; exact ⟨rfl, rfl⟩)
    clear hz ht hb1
    go_enter Try.func29, Try.ntmps29
    go_wp2_with fail
    with_reducible refine (CO.out _ (Lib.hid (box_b _ _))).mono ?_
    rintro e w1 ⟨rfl, hb⟩
    obtain ⟨hB, hc0, hc1⟩ := box2 hb
    have HB := Lib.hid hB
    clear hB hb
    go_wp2_with (go_at_call 70; refine (within_any _ _ _ _).mono ?_; rintro e w' ⟨rfl, rfl⟩)
    go_ret2
    exact ⟨ret_ii HV.out.1.symm HV.out.2.symm, HB.out⟩
  obtain ⟨b0, b1⟩ := (inB_iff _ _ _).1 hb1
  have CT : Hid (∀ R (W : World), Cols W R r f xs (.slice a l c) → Calls Try.prog 72 #[.pointer (some ⟨R, 2, none⟩), .int .i64 x] W fun e w' => e = .returned (.agg #[.int .i64 (cD r xs (x - f).toNat), .int .i64 (cN r xs (x - f).toNat), .int .i64 (cC r xs (x - f).toNat), .int .i64 (cM r xs (x - f).toNat)]) ∧ Below W.heap.size W w') :=
    Lib.hid (fun R W hW => at_cols r f xs _ R x W hW f0 x0 x1)
  have HE : Hid (anE r f xs x (inB b 1 1000000000) 0 = if cD r xs (x - f).toNat = 0 then 5 else 0) := Lib.hid (by unfold anE; rw [if_pos hz, if_pos ⟨hb1, by omega, by omega⟩])
  have HV : Hid (amtV r f xs x b = if anE r f xs x (inB b 1 1000000000) 0 = 0 then b * cD r xs (x - f).toNat / cN r xs (x - f).toNat else 0) := Lib.hid rfl
  obtain ⟨e0, e1⟩ := ht.cD_bd r r0 (x - f).toNat
  have e2 := ht.cN_bd r r0 (x - f).toNat
  have e3 := ht.cN_ge r r0 (x - f).toNat
  obtain ⟨A, hA⟩ : ∃ A, cD r xs (x - f).toNat = A := ⟨_, rfl⟩
  obtain ⟨B, hB⟩ : ∃ A, cN r xs (x - f).toNat = A := ⟨_, rfl⟩
  obtain ⟨C3, hC⟩ : ∃ A, cC r xs (x - f).toNat = A := ⟨_, rfl⟩
  obtain ⟨D3, hD⟩ : ∃ A, cM r xs (x - f).toNat = A := ⟨_, rfl⟩
  rw [hA] at HE HV CT e0 e1 e3
  rw [hB] at HV CT e2 e3
  rw [hC, hD] at CT
  obtain ⟨E, hE⟩ : ∃ y_, anE r f xs x (inB b 1 1000000000) 0 = y_ := ⟨_, rfl⟩
  rw [hE] at HE HV ⊢
  clear hA hB hC hD hE hz ht b0 b1
  by_cases hd : A = 0
  · subst hd
    have HV2 : Hid (amtV r f xs x b = 0 ∧ E = 5) := Lib.hid (by
      have e := HE.out
      rw [if_pos rfl] at e
      have := HV.out
      rw [e, if_neg (by omega)] at this
      exact ⟨this, e⟩)
    clear HV HE
    go_enter Try.func29, Try.ntmps29
    go_wp2_with fail
    with_reducible refine (CO.out _ (Lib.hid (box_b _ _))).mono ?_
    rintro e w1 ⟨rfl, hb⟩
    obtain ⟨hB, hc0, hc1⟩ := box2 hb
    have HB := Lib.hid hB
    clear hB hb
    go_wp2_with (go_at_call 70; refine (within_any _ _ _ _).mono ?_; rintro e w' ⟨rfl, rfl⟩)
    with_reducible refine (co_any r f xs a l c _ (H.out.on HB.out) HT.out r0 r1).mono ?_
    rintro e w2 ⟨R, G, rfl, hR, hG, hGs, hb⟩
    have HB2 := Lib.hid (HB.out.trans (hb.mono HB.out.size))
    have HAT := Lib.hid (CT.out R w2 ⟨G, hG, hGs⟩)
    clear hG hGs hb hc0 hc1 HB hR
    go_wp2_with fail
    with_reducible refine HAT.out.mono ?_
    rintro e w3 ⟨rfl, hb⟩
    have HB3 := Lib.hid ((HB2.out.trans (hb.mono HB2.out.size)).alloc (by have := hb.size; have := HB2.out.size; omega) (.cells #[.int .i64 0, .int .i64 B, .int .i64 C3, .int .i64 D3] 77))
    obtain ⟨y0, y1, y2, y3⟩ := (q4_new w3 0 B C3 D3).cell
    clear hb HAT HB2 CT
    go_wp2_with fail
    go_ret2
    exact ⟨ret_ii HV2.out.1.symm HV2.out.2.symm, HB3.out⟩
  · have hd2 : (A == 0) = false := by simp [hd]
    obtain ⟨b0, b1⟩ := (inB_iff _ _ _).1 hb1
    have hq : b * A / B ≤ 1000000000 := by
      have h1 : b * A ≤ b * B := Int.mul_le_mul_of_nonneg_left e3 (by omega)
      have h2 : b * A / B ≤ b * B / B := Int.ediv_le_ediv (by omega) h1
      rw [Int.mul_ediv_cancel _ (by omega)] at h2
      omega
    have HV2 : Hid (amtV r f xs x b = b * A / B ∧ E = 0) := Lib.hid (by
      have e := HE.out
      rw [if_neg hd] at e
      have := HV.out
      rw [e, if_pos rfl] at this
      exact ⟨this, e⟩)
    have CU := Lib.hid (fun W => md_impl b A B W)
    have hin : mvIn b A B = true := (mvIn_iff b A B).2 ⟨⟨by omega, by omega⟩, ⟨by omega, by omega⟩, by omega, by omega⟩
    obtain ⟨g0, g1, g2⟩ := md_in hin (by omega)
    rw [g0, g1, g2] at CU
    obtain ⟨Q, hQ⟩ : ∃ y_, b * A / B = y_ := ⟨_, rfl⟩
    obtain ⟨Z, hZ⟩ : ∃ y_, b * A % B = y_ := ⟨_, rfl⟩
    rw [hQ] at CU HV2
    rw [hZ] at CU
    clear hQ hZ hq g0 g1 g2 hin HV HE hd e0 e1 e2 e3
    go_enter Try.func29, Try.ntmps29
    go_wp2_with fail
    with_reducible refine (CO.out _ (Lib.hid (box_b _ _))).mono ?_
    rintro e w1 ⟨rfl, hb⟩
    obtain ⟨hB, hc0, hc1⟩ := box2 hb
    have HB := Lib.hid hB
    clear hB hb
    go_wp2_with (go_at_call 70; refine (within_any _ _ _ _).mono ?_; rintro e w' ⟨rfl, rfl⟩)
    with_reducible refine (co_any r f xs a l c _ (H.out.on HB.out) HT.out r0 r1).mono ?_
    rintro e w2 ⟨R, G, rfl, hR, hG, hGs, hb⟩
    have HB2 := Lib.hid (HB.out.trans (hb.mono HB.out.size))
    have HAT := Lib.hid (CT.out R w2 ⟨G, hG, hGs⟩)
    clear hG hGs hb hc0 hc1 HB hR
    go_wp2_with fail
    with_reducible refine HAT.out.mono ?_
    rintro e w3 ⟨rfl, hb⟩
    have HB3 := Lib.hid ((HB2.out.trans (hb.mono HB2.out.size)).alloc (by have := hb.size; have := HB2.out.size; omega) (.cells #[.int .i64 A, .int .i64 B, .int .i64 C3, .int .i64 D3] 77))
    obtain ⟨y0, y1, y2, y3⟩ := (q4_new w3 A B C3 D3).cell
    clear hb HAT HB2 CT
    go_wp2_with fail
    with_reducible refine (CU.out _).mono ?_
    rintro e w4 ⟨rfl, hb⟩
    have HB4 := Lib.hid (HB3.out.trans (hb.mono HB3.out.size))
    clear hb
    go_wp2_with fail
    go_ret2
    exact ⟨ret_ii HV2.out.1.symm HV2.out.2.symm, HB4.out⟩

end Go.Proofs.Ytmcagpcldjopjaa
