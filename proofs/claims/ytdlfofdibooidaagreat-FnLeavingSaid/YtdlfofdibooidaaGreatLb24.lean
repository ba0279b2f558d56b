/- Merged: AnnI, Pok. -/
import Derived.Test.YtdlfofdibooidaaGreatLb9
import Derived.Test.YtdlfofdibooidaaGreatLb11
import Derived.Test.YtdlfofdibooidaaGreatLb21
import Derived.Test.YtdlfofdibooidaaGreatLb23
import Derived.Deep.RegionHeld3
import Derived.Maps.OwnOps
import Derived.DeepKeys4

/- Annuities: the program's check, its rounding up, its numerators over the columns. -/
namespace Go.Proofs.YtdlfofdibooidaaGreat
open Go.ChangeShapes Go.WideShapes Go.ChangeAt Go.RowKit
set_option linter.unusedVariables false
set_option maxRecDepth 100000

theorem tu_any (a b c : Int) (w : World) (a0 : 0 ≤ a) (a1 : a ≤ 1000000000000) (b0 : 0 ≤ b) (b1 : b ≤ 1000000000000000000) (c0 : 1 ≤ c) (c1 : c ≤ 1000000000000000000) (hq : a * b / c ≤ 100000000000000000) :
    Calls Tryz.prog 69 #[.int .i64 a, .int .i64 b, .int .i64 c] w fun e w' => e = .returned (.int .i64 (upV a b c)) ∧ Below w.heap.size w w' := by
  have HC := Lib.hid (fun W => md_impl a b c W)
  have hin : mvIn a b c = true := (mvIn_iff a b c).2 ⟨⟨a0, a1⟩, ⟨b0, b1⟩, c0, c1⟩
  obtain ⟨e0, e1, e2⟩ := md_in hin (by omega)
  rw [e0, e1, e2] at HC
  obtain ⟨q, r, hq1, hr1, r0, r1, g1, g2⟩ := upV_eq a b c c0
  have q0 : 0 ≤ q := by rw [← hq1]; exact Int.ediv_nonneg (Int.mul_nonneg a0 b0) (by omega)
  rw [hq1, hr1] at HC
  rw [hq1] at hq
  clear e0 e1 e2 hq1 hr1 hin
  by_cases hz : r = 0
  · have G := Lib.hid (g1 hz)
    subst hz
    clear g1 g2
    go_enter Tryz.func69, Tryz.ntmps69
    go_wp2_with (go_at_call 108; refine (HC.out _).mono ?_; rintro e w2 ⟨rfl, hb⟩)
    go_ret
    exact ⟨ret_int (by rw [G.out]), hb⟩
  · have h1 : 0 < r := by omega
    have G := Lib.hid (g2 h1)
    clear g1 g2
    go_enter Tryz.func69, Tryz.ntmps69
    go_wp2_with (go_at_call 108; refine (HC.out _).mono ?_; rintro e w2 ⟨rfl, hb⟩)
    go_ret
    exact ⟨ret_int (by rw [G.out]), hb⟩

/-- the code of an annuity but for D -/
def akE (r f : Int) (xs : List Int) (x : Int) (b : Bool) (n : Int) : Int :=
  if coE r f xs x = 0 then (if b = true ∧ (0 ≤ n ∧ n ≤ 120) ∧ x + n ≤ 150 then 0 else 2) else coE r f xs x

theorem anE_ak (r f : Int) (xs : List Int) (x : Int) (b : Bool) (n : Int) : anE r f xs x b n = if akE r f xs x b n = 0 then (if cD r xs (x - f).toNat = 0 then 5 else 0) else akE r f xs x b n := by
  unfold anE akE
  by_cases h1 : coE r f xs x = 0
  · by_cases h2 : b = true ∧ (0 ≤ n ∧ n ≤ 120) ∧ x + n ≤ 150
    · simp only [if_pos h1, if_pos h2]; simp
    · simp only [if_pos h1, if_neg h2]; simp
  · simp only [if_neg h1]

theorem akE_iff {r f : Int} {xs : List Int} {x : Int} {b : Bool} {n : Int} : akE r f xs x b n = 0 ↔ coE r f xs x = 0 ∧ b = true ∧ (0 ≤ n ∧ n ≤ 120) ∧ x + n ≤ 150 := by
  unfold akE
  by_cases h1 : coE r f xs x = 0
  · by_cases h2 : b = true ∧ (0 ≤ n ∧ n ≤ 120) ∧ x + n ≤ 150
    · rw [if_pos h1, if_pos h2]; simp [h1, h2]
    · rw [if_pos h1, if_neg h2]
      constructor
      · intro h; omega
      · rintro ⟨_, a⟩; exact absurd a h2
  · rw [if_neg h1]
    constructor
    · intro h; exact absurd h h1
    · rintro ⟨h, _⟩; exact absurd h h1

/-- a table with its columns, told by the columns -/
def Cols (w : World) (R : Nat) (r f : Int) (xs : List Int) (v : Value) : Prop := ∃ G, CBX w R f v G ∧ ∀ m, f.toNat ≤ m → m ≤ 150 → G (m * 4) = cD r xs (m - f.toNat) ∧ G (m * 4 + 1) = cN r xs (m - f.toNat) ∧ G (m * 4 + 2) = cC r xs (m - f.toNat) ∧ G (m * 4 + 3) = cM r xs (m - f.toNat)

theorem Cols.lt {w : World} {R : Nat} {r f : Int} {xs : List Int} {v : Value} (h : Cols w R r f xs v) : R < w.heap.size := by
  obtain ⟨G, hG, _⟩ := h; exact hG.lt

theorem Cols.same {w w' : World} {R : Nat} {r f : Int} {xs : List Int} {v : Value} (h : Cols w R r f xs v) (hb : w'.heap[R]? = w.heap[R]?) : Cols w' R r f xs v := by
  obtain ⟨G, hG, hg⟩ := h; exact ⟨G, hG.same hb, hg⟩

theorem Cols.on {w w' : World} {R : Nat} {r f : Int} {xs : List Int} {v : Value} (h : Cols w R r f xs v) (hb : Below w.heap.size w w') : Cols w' R r f xs v := h.same (hb.block R h.lt)

theorem at_cols (r f : Int) (xs : List Int) (v : Value) (R : Nat) (x : Int) (w : World) (h : Cols w R r f xs v) (f0 : 0 ≤ f) (x0 : f ≤ x) (x1 : x ≤ 150) :
    Calls Tryz.prog 88 #[.pointer (some ⟨R, 2, none⟩), .int .i64 x] w fun e w' => e = .returned (.agg #[.int .i64 (cD r xs (x - f).toNat), .int .i64 (cN r xs (x - f).toNat), .int .i64 (cC r xs (x - f).toNat), .int .i64 (cM r xs (x - f).toNat)]) ∧ Below w.heap.size w w' := by
  obtain ⟨G, hG, hg⟩ := h
  obtain ⟨m, rfl⟩ : ∃ m : Nat, x = m := ⟨x.toNat, by omega⟩
  have := colat_any R f _ G m w hG (by omega)
  obtain ⟨e0, e1, e2, e3⟩ := hg m (by omega) (by omega)
  unfold AtG at this
  rw [e0, e1, e2, e3, show m - f.toNat = ((m : Int) - f).toNat by omega] at this
  exact this

/-- what the closures over the columns hold: the block that holds their pointer -/
def Cap (w : World) (cb R : Nat) : Prop := w.cell? ⟨cb, 0, none⟩ = some (.pointer (some ⟨R, 0, none⟩))

theorem fldD (A B C D : Int) (W : World) : (Instr.field 62 (.agg #[.int .i64 A, .int .i64 B, .int .i64 C, .int .i64 D]) 0).run Tryz.prog W = .ok (.int .i64 A) W := by kernel_rfl

theorem fldN (A B C D : Int) (W : World) : (Instr.field 62 (.agg #[.int .i64 A, .int .i64 B, .int .i64 C, .int .i64 D]) 1).run Tryz.prog W = .ok (.int .i64 B) W := by kernel_rfl

end Go.Proofs.YtdlfofdibooidaaGreat

/- Policies as keys of a map. -/
namespace Go.Proofs.YtdlfofdibooidaaGreat
open Go.ChangeShapes Go.WideShapes Go.ChangeAt Go.RowKit
open Go.ChangeMaps (setBlock heap_setBlock_same heap_setBlock_other)
set_option linter.unusedVariables false
set_option maxRecDepth 100000

theorem laidAll0 : laidOutB Tryz.prog = true := by kernel_rfl

theorem pol_row : (30 : TypeId) < Tryz.prog.types.size := of_decide_eq_true (by kernel_rfl)

theorem pol_wide : (match Tryz.prog.underlying 30 with | some (.array _ _) | some (.struct _) => true | _ => false) = true := by rw [Tryz.underlying30]

theorem pol_keyed : Go.Maps.Keyed Tryz.prog 30 := Go.Maps.Keyed.of_law (deep_law_laid laidAll0 (m := 2) (by omega) pol_row (by kernel_rfl) pol_wide)

theorem pol_lit (k x n s u : Int) (w0 : (Lit.int .i64 k).wf = true) (w1 : (Lit.int .i64 x).wf = true) (w2 : (Lit.int .i64 n).wf = true) (w3 : (Lit.int .i64 s).wf = true) (w4 : (Lit.int .i64 u).wf = true) :
    ∃ l, keyOf Tryz.prog 30 (.agg #[.int .i64 k, .int .i64 x, .int .i64 n, .int .i64 s, .int .i64 u]) = some l := by
  have hk : Tryz.prog.keyType 30 = true := by kernel_rfl
  have hC : Tryz.prog.cellsOf 30 = 5 := by kernel_rfl
  have h1 : Tryz.prog.cellsOf 2 = 1 := by kernel_rfl
  obtain ⟨d, hd⟩ := Nat.exists_eq_succ_of_ne_zero (show Tryz.prog.types.size ≠ 0 from of_decide_eq_true (by kernel_rfl))
  have hi : ∀ z, (Lit.int .i64 z).wf = true → Tryz.prog.keyLits (d + 1) 2 [.int .i64 z] = some [.int .i64 z] := by
    intro z hz
    unfold Program.keyLits
    rw [Tryz.underlying2]
    simp [hz]
  have hL : Tryz.prog.keyLits (d + 1 + 1) 30 [.int .i64 k, .int .i64 x, .int .i64 n, .int .i64 s, .int .i64 u] = some [.int .i64 k, .int .i64 x, .int .i64 n, .int .i64 s, .int .i64 u] := by
    unfold Program.keyLits
    rw [Tryz.underlying30]
    simp [hC, h1, hi, w0, w1, w2, w3, w4]
  refine ⟨.string (keyBytes [.int .i64 k, .int .i64 x, .int .i64 n, .int .i64 s, .int .i64 u]), ?_⟩
  unfold keyOf
  rw [Tryz.underlying30]
  have hF : (Value.agg #[.int .i64 k, .int .i64 x, .int .i64 n, .int .i64 s, .int .i64 u]).formed Tryz.prog 30 = true := by simp [Value.formed, Tryz.underlying30, hC]
  simp only [hk, hF, hd, Value.cells, Bool.and_self, if_true]
  show (Tryz.prog.keyLits (d + 1 + 1) _ _).map _ = _
  rw [hL]
  rfl

theorem und_pm : Tryz.prog.underlying 113 = some (.map 30 2) := by kernel_rfl

/-- a map of policies: each sum with its premium -/
def PmOk (F : Int → Int) (k x n u : Int) (es : Array MapEntry) : Prop := ∀ e ∈ es.toList, ∃ t : Int, (1 ≤ t ∧ t ≤ 100000000) ∧ e.key = .agg #[.int .i64 k, .int .i64 x, .int .i64 n, .int .i64 t, .int .i64 u] ∧ e.val = .int .i64 (F t)

/-- the four other numbers of a policy fit -/
structure Wf4 (k x n u : Int) : Prop where
  k : (Lit.int .i64 k).wf = true
  x : (Lit.int .i64 x).wf = true
  n : (Lit.int .i64 n).wf = true
  u : (Lit.int .i64 u).wf = true

theorem wf_small {z : Int} (h0 : -9223372036854775808 ≤ z) (h1 : z ≤ 9223372036854775807) : (Lit.int .i64 z).wf = true := by
  have e1 : IntKind.i64.min = -9223372036854775808 := rfl
  have e2 : IntKind.i64.max = 9223372036854775807 := rfl
  simp [Lit.wf, e1, e2]
  omega

theorem Wf4.lit {k x n u : Int} (h : Wf4 k x n u) (t : Int) (t0 : 1 ≤ t) (t1 : t ≤ 100000000) : ∃ l, keyOf Tryz.prog 30 (.agg #[.int .i64 k, .int .i64 x, .int .i64 n, .int .i64 t, .int .i64 u]) = some l :=
  pol_lit k x n t u h.k h.x h.n (wf_small (by omega) (by omega)) h.u

theorem PmOk.lits {F : Int → Int} {k x n u : Int} {es : Array MapEntry} (h : PmOk F k x n u es) (hw : Wf4 k x n u) : ∀ e ∈ es.toList, ∃ l, keyOf Tryz.prog 30 e.key = some l := by
  intro e he
  obtain ⟨t, ⟨t0, t1⟩, hk, -⟩ := h e he
  rw [hk]
  exact hw.lit t t0 t1

/-- is a policy among the keys? -/
def PmIn (k x n u s : Int) (es : Array MapEntry) : Prop := ∃ e ∈ es.toList, e.key = .agg #[.int .i64 k, .int .i64 x, .int .i64 n, .int .i64 s, .int .i64 u]

theorem PmOk.hit {F : Int → Int} {k x n u : Int} {es : Array MapEntry} {c M : Nat} (h : PmOk F k x n u es) (hw : Wf4 k x n u) {s : Int} (s0 : 1 ≤ s) (s1 : s ≤ 100000000) (hin : PmIn k x n u s es) (W : World) (hm : W.heap[M]? = some (.map es c)) :
    (Instr.lookup 113 (.map (some M)) (.agg #[.int .i64 k, .int .i64 x, .int .i64 n, .int .i64 s, .int .i64 u]) true).run Tryz.prog W = .ok (.tuple #[.int .i64 (F s), .bool true]) W := by
  obtain ⟨l, hl⟩ := hw.lit s s0 s1
  have hck := pol_keyed.check W es.isEmpty hl
  rcases pol_keyed.find W hl es.toList (h.lits hw) with ⟨-, hno⟩ | ⟨j, e, hr, hj, hk⟩
  · obtain ⟨e, he, hk⟩ := hin
    exact absurd hk (hno e he)
  · obtain ⟨t, -, hkt, hv⟩ := h e (List.mem_of_getElem? hj)
    rw [hkt] at hk
    obtain rfl : t = s := by simpa using hk
    rw [hv] at hr
    simp [Instr.lookup, run_underlying und_pm, MapKept.run_getObj_map hm, hck, hr, Result.andThen]

theorem PmOk.miss {F : Int → Int} {k x n u : Int} {es : Array MapEntry} {c M : Nat} (h : PmOk F k x n u es) (hw : Wf4 k x n u) {s : Int} (s0 : 1 ≤ s) (s1 : s ≤ 100000000) (hin : ¬ PmIn k x n u s es) (W : World) (hm : W.heap[M]? = some (.map es c)) :
    (Instr.lookup 113 (.map (some M)) (.agg #[.int .i64 k, .int .i64 x, .int .i64 n, .int .i64 s, .int .i64 u]) true).run Tryz.prog W = .ok (.tuple #[.int .i64 0, .bool false]) W := by
  obtain ⟨l, hl⟩ := hw.lit s s0 s1
  have hck := pol_keyed.check W es.isEmpty hl
  rcases pol_keyed.find W hl es.toList (h.lits hw) with ⟨hr, -⟩ | ⟨j, e, hr, hj, hk⟩
  · simp [Instr.lookup, run_underlying und_pm, MapKept.run_getObj_map hm, hck, hr, Result.andThen]
  · exact absurd ⟨e, List.mem_of_getElem? hj, hk⟩ hin

theorem PmOk.put {F : Int → Int} {k x n u : Int} {es : Array MapEntry} {c M : Nat} (h : PmOk F k x n u es) (hw : Wf4 k x n u) {s : Int} (s0 : 1 ≤ s) (s1 : s ≤ 100000000) (hin : ¬ PmIn k x n u s es) (W : World) (hm : W.heap[M]? = some (.map es c)) (v : Value) :
    (Instr.mapUpdate 113 (.map (some M)) (.agg #[.int .i64 k, .int .i64 x, .int .i64 n, .int .i64 s, .int .i64 u]) v).run Tryz.prog W = .ok () (setBlock W M (.map (es.push ⟨.agg #[.int .i64 k, .int .i64 x, .int .i64 n, .int .i64 s, .int .i64 u], v, c⟩) (c + 1))) := by
  obtain ⟨l, hl⟩ := hw.lit s s0 s1
  have hck := pol_keyed.check W false hl
  rcases pol_keyed.find W hl es.toList (h.lits hw) with ⟨hr, -⟩ | ⟨j, e, hr, hj, hk⟩
  · simp [Instr.mapUpdate, run_underlying und_pm, MapKept.run_getObj_map hm, hck, hr, MapKept.run_setObj_map _ hm, Result.andThen, setBlock]
  · exact absurd ⟨e, List.mem_of_getElem? hj, hk⟩ hin

theorem PmOk.push {F : Int → Int} {k x n u : Int} {es : Array MapEntry} (h : PmOk F k x n u es) {s : Int} (s0 : 1 ≤ s) (s1 : s ≤ 100000000) (c : Nat) : PmOk F k x n u (es.push ⟨.agg #[.int .i64 k, .int .i64 x, .int .i64 n, .int .i64 s, .int .i64 u], .int .i64 (F s), c⟩) := by
  intro e he
  simp at he
  rcases he with he | rfl
  · exact h e (by simpa using he)
  · exact ⟨s, ⟨s0, s1⟩, rfl, rfl⟩

end Go.Proofs.YtdlfofdibooidaaGreat
