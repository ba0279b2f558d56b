/- Policies as keys of a map. -/
import Derived.Test.YtnclncglmnbelaaGreatPos
import Derived.Test.YtnclncglmnbelaaGreatAnnI
import Derived.Maps.OwnOps
import Derived.DeepKeys4
namespace Go.Proofs.YtnclncglmnbelaaGreat
open Go.ChangeShapes Go.WideShapes Go.ChangeAt Go.RowKit
open Go.ChangeMaps (setBlock heap_setBlock_same heap_setBlock_other)
set_option linter.unusedVariables false
set_option maxRecDepth 100000

theorem laidAll0 : laidOutB Tryz.prog = true := by kernel_rfl

theorem pol_row : (30 : TypeId) < Tryz.prog.types.size := of_decide_eq_true (by kernel_rfl)

theorem pol_wide : (match Tryz.prog.underlying 30 with | some (.array _ _) | some (.struct _) => true | _ => false) = true := by rw [Tryz.underlying30]

theorem pol_keyed : Go.Maps.Keyed Tryz.prog 30 := Go.Maps.Keyed.of_law (deep_law_laid laidAll0 (m := 2) (by omega) pol_row (by kernel_rfl) pol_wide)

theorem pol_lit (k x n s u : Int) (w0 : (Lit.int .i64 k).wf = true) (w1 : (Lit.int .i64 x).wf = true) (w2 : (Lit.int .i64 n).wf = true) (w3 : (Lit.int .i64 s).wf = true) (w4 : (Lit.int .i64 u).wf = true) :
    ∃ l, keyOf Tryz.prog 30 (.agg #[.int .i64 k, .int .i64 x, .int .i64 n, .int .i64 s, .int .i64 u]) = some l := by
  have hk : Tryz.prog.keyType 30 = true := by kernel_rfl
  have hC : Tryz.prog.cellsOf 30 = 5 := by kernel_rfl
  have h1 : Tryz.prog.cellsOf 2 = 1 := by kernel_rfl
  obtain ⟨d, hd⟩ := Nat.exists_eq_succ_of_ne_zero (show Tryz.prog.types.size ≠ 0 from of_decide_eq_true (by kernel_rfl))
  have hi : ∀ z, (Lit.int .i64 z).wf = true → Tryz.prog.keyLits (d + 1) 2 [.int .i64 z] = some [.int .i64 z] := by
    intro z hz
    unfold Program.keyLits
    rw [Tryz.underlying2]
    simp [hz]
  have hL : Tryz.prog.keyLits (d + 1 + 1) 30 [.int .i64 k, .int .i64 x, .int .i64 n, .int .i64 s, .int .i64 u] = some [.int .i64 k, .int .i64 x, .int .i64 n, .int .i64 s, .int .i64 u] := by
    unfold Program.keyLits
    rw [Tryz.underlying30]
    simp [hC, h1, hi, w0, w1, w2, w3, w4]
  refine ⟨.string (keyBytes [.int .i64 k, .int .i64 x, .int .i64 n, .int .i64 s, .int .i64 u]), ?_⟩
  unfold keyOf
  rw [Tryz.underlying30]
  have hF : (Value.agg #[.int .i64 k, .int .i64 x, .int .i64 n, .int .i64 s, .int .i64 u]).formed Tryz.prog 30 = true := by simp [Value.formed, Tryz.underlying30, hC]
  simp only [hk, hF, hd, Value.cells, Bool.and_self, if_true]
  show (Tryz.prog.keyLits (d + 1 + 1) _ _).map _ = _
  rw [hL]
  rfl

theorem und_pm : Tryz.prog.underlying 98 = some (.map 30 2) := by kernel_rfl

/-- a map of policies: each sum with its premium -/
def PmOk (F : Int → Int) (k x n u : Int) (es : Array MapEntry) : Prop := ∀ e ∈ es.toList, ∃ t : Int, (1 ≤ t ∧ t ≤ 100000000) ∧ e.key = .agg #[.int .i64 k, .int .i64 x, .int .i64 n, .int .i64 t, .int .i64 u] ∧ e.val = .int .i64 (F t)

/-- the four other numbers of a policy fit -/
structure Wf4 (k x n u : Int) : Prop where
  k : (Lit.int .i64 k).wf = true
  x : (Lit.int .i64 x).wf = true
  n : (Lit.int .i64 n).wf = true
  u : (Lit.int .i64 u).wf = true

theorem wf_small {z : Int} (h0 : -9223372036854775808 ≤ z) (h1 : z ≤ 9223372036854775807) : (Lit.int .i64 z).wf = true := by
  have e1 : IntKind.i64.min = -9223372036854775808 := rfl
  have e2 : IntKind.i64.max = 9223372036854775807 := rfl
  simp [Lit.wf, e1, e2]
  omega

theorem Wf4.lit {k x n u : Int} (h : Wf4 k x n u) (t : Int) (t0 : 1 ≤ t) (t1 : t ≤ 100000000) : ∃ l, keyOf Tryz.prog 30 (.agg #[.int .i64 k, .int .i64 x, .int .i64 n, .int .i64 t, .int .i64 u]) = some l :=
  pol_lit k x n t u h.k h.x h.n (wf_small (by omega) (by omega)) h.u

theorem PmOk.lits {F : Int → Int} {k x n u : Int} {es : Array MapEntry} (h : PmOk F k x n u es) (hw : Wf4 k x n u) : ∀ e ∈ es.toList, ∃ l, keyOf Tryz.prog 30 e.key = some l := by
  intro e he
  obtain ⟨t, ⟨t0, t1⟩, hk, -⟩ := h e he
  rw [hk]
  exact hw.lit t t0 t1

/-- is a policy among the keys? -/
def PmIn (k x n u s : Int) (es : Array MapEntry) : Prop := ∃ e ∈ es.toList, e.key = .agg #[.int .i64 k, .int .i64 x, .int .i64 n, .int .i64 s, .int .i64 u]

theorem PmOk.hit {F : Int → Int} {k x n u : Int} {es : Array MapEntry} {c M : Nat} (h : PmOk F k x n u es) (hw : Wf4 k x n u) {s : Int} (s0 : 1 ≤ s) (s1 : s ≤ 100000000) (hin : PmIn k x n u s es) (W : World) (hm : W.heap[M]? = some (.map es c)) :
    (Instr.lookup 98 (.map (some M)) (.agg #[.int .i64 k, .int .i64 x, .int .i64 n, .int .i64 s, .int .i64 u]) true).run Tryz.prog W = .ok (.tuple #[.int .i64 (F s), .bool true]) W := by
  obtain ⟨l, hl⟩ := hw.lit s s0 s1
  have hck := pol_keyed.check W es.isEmpty hl
  rcases pol_keyed.find W hl es.toList (h.lits hw) with ⟨-, hno⟩ | ⟨j, e, hr, hj, hk⟩
  · obtain ⟨e, he, hk⟩ := hin
    exact absurd hk (hno e he)
  · obtain ⟨t, -, hkt, hv⟩ := h e (List.mem_of_getElem? hj)
    rw [hkt] at hk
    obtain rfl : t = s := by simpa using hk
    rw [hv] at hr
    simp [Instr.lookup, run_underlying und_pm, MapKept.run_getObj_map hm, hck, hr, Result.andThen]

theorem PmOk.miss {F : Int → Int} {k x n u : Int} {es : Array MapEntry} {c M : Nat} (h : PmOk F k x n u es) (hw : Wf4 k x n u) {s : Int} (s0 : 1 ≤ s) (s1 : s ≤ 100000000) (hin : ¬ PmIn k x n u s es) (W : World) (hm : W.heap[M]? = some (.map es c)) :
    (Instr.lookup 98 (.map (some M)) (.agg #[.int .i64 k, .int .i64 x, .int .i64 n, .int .i64 s, .int .i64 u]) true).run Tryz.prog W = .ok (.tuple #[.int .i64 0, .bool false]) W := by
  obtain ⟨l, hl⟩ := hw.lit s s0 s1
  have hck := pol_keyed.check W es.isEmpty hl
  rcases pol_keyed.find W hl es.toList (h.lits hw) with ⟨hr, -⟩ | ⟨j, e, hr, hj, hk⟩
  · simp [Instr.lookup, run_underlying und_pm, MapKept.run_getObj_map hm, hck, hr, Result.andThen]
  · exact absurd ⟨e, List.mem_of_getElem? hj, hk⟩ hin

theorem PmOk.put {F : Int → Int} {k x n u : Int} {es : Array MapEntry} {c M : Nat} (h : PmOk F k x n u es) (hw : Wf4 k x n u) {s : Int} (s0 : 1 ≤ s) (s1 : s ≤ 100000000) (hin : ¬ PmIn k x n u s es) (W : World) (hm : W.heap[M]? = some (.map es c)) (v : Value) :
    (Instr.mapUpdate 98 (.map (some M)) (.agg #[.int .i64 k, .int .i64 x, .int .i64 n, .int .i64 s, .int .i64 u]) v).run Tryz.prog W = .ok () (setBlock W M (.map (es.push ⟨.agg #[.int .i64 k, .int .i64 x, .int .i64 n, .int .i64 s, .int .i64 u], v, c⟩) (c + 1))) := by
  obtain ⟨l, hl⟩ := hw.lit s s0 s1
  have hck := pol_keyed.check W false hl
  rcases pol_keyed.find W hl es.toList (h.lits hw) with ⟨hr, -⟩ | ⟨j, e, hr, hj, hk⟩
  · simp [Instr.mapUpdate, run_underlying und_pm, MapKept.run_getObj_map hm, hck, hr, MapKept.run_setObj_map _ hm, Result.andThen, setBlock]
  · exact absurd ⟨e, List.mem_of_getElem? hj, hk⟩ hin

theorem PmOk.push {F : Int → Int} {k x n u : Int} {es : Array MapEntry} (h : PmOk F k x n u es) {s : Int} (s0 : 1 ≤ s) (s1 : s ≤ 100000000) (c : Nat) : PmOk F k x n u (es.push ⟨.agg #[.int .i64 k, .int .i64 x, .int .i64 n, .int .i64 s, .int .i64 u], .int .i64 (F s), c⟩) := by
  intro e he
  simp at he
  rcases he with he | rfl
  · exact h e (by simpa using he)
  · exact ⟨s, ⟨s0, s1⟩, rfl, rfl⟩

end Go.Proofs.YtnclncglmnbelaaGreat
