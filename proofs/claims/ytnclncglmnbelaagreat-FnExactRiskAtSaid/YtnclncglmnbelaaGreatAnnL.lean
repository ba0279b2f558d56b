/- AnnuityPrices of the model. -/
import Derived.Test.YtnclncglmnbelaaGreatAnn
import Derived.Test.YtnclncglmnbelaaGreatColL
import Derived.Deep.RegionHeld3
namespace Go.Proofs.YtnclncglmnbelaaGreat
open Go.ChangeShapes Go.WideShapes Go.ChangeAt Go.RowKit
set_option linter.unusedVariables false
set_option maxRecDepth 100000

/-- append at a step of a region that draws its order -/
theorem step_app {w : World} {ops : Array Oper} {o : Oper} {a : Act} {K : Act → World → Prop} {Q : Exit → Act → World → Prop} {E : Prop} (hgd : o.guard = none) (s x : Operand)
    (ho : o.op = .call { callee := .builtin .append, args := #[s, x], argTypes := #[24, 24] })
    (base : Nat) (v : Value) (xs : List Int) (y : Int) (hs : a.eval s = v) (hown : OwnI base w v xs) (ad : Addr) (hx : a.eval x = .slice (some ad) 1 1) (hc : ∀ j u, [Value.int .i64 y][j]? = some u → w.cell? (ad.add j) = some u)
    (hlen : xs.length ≤ 4096) (hbase : base ≤ w.heap.size)
    (h : ∀ v' w', OwnI base w' v' (xs ++ [y]) → w.grownBy w' v.ownBlock → (v'.ownBlock = v.ownBlock ∨ v'.ownBlock = some w.heap.size) → K (a.put o.dst v') w') :
    if Region.wanted o (yielded ops a.tmps) = true then Oper.wp Tryz.prog o a w K Q else E := by
  obtain ⟨i0, hi, hz0, hz1, hz2⟩ := info_parts infoI
  have hm : maxLen = maxLen := rfl
  unfold maxLen at hm
  obtain ⟨v', w', hr, h2, h3, h4⟩ := run_append_own (P := Tryz.prog) w base 24 o.type 2 i0 (.int .i64 0) 1 8 Tryz.underlying24 hi hz0 hz1 hz2 rfl (by decide) v xs.length (xs.map (Value.int .i64)) hown ad 1 1 [.int .i64 y] rfl hc (by intro u hu; simp at hu; subst hu; rfl) (by unfold maxLen; omega) (by omega) hbase
  have h5 := append_where ad y hown hc hlen hbase v' w' o.type hr
  have h6 : OwnI base w' v' (xs ++ [y]) := by
    unfold OwnI
    rw [List.length_append, List.length_singleton, List.map_append]
    exact h2
  have hw : Region.wanted o (yielded ops a.tmps) = true := by simp [Region.wanted, hgd]
  rw [if_pos hw]
  unfold Oper.wp execOp
  simp only [ho, resolve, invoke, builtin, Sem.run_bind, Sem.run_pure, Result.andThen_ok, List.map_toArray, List.map_cons, List.map_nil, hs, hx, hr]
  exact h v' w' h6 h3 h5

/-- are all columns D not 0 while lives are left? -/
def apB (r : Int) (xs : List Int) : Bool := (List.range (xs.length - 1)).all fun k => decide (cD r xs k ≠ 0)

def apE (r f : Int) (xs : List Int) (b : Int) : Int := if anE r f xs f (inB b 1 1000000) 0 = 0 then (if apB r xs = true then 0 else 5) else anE r f xs f (inB b 1 1000000) 0

def apF (r : Int) (xs : List Int) (b : Int) (k : Nat) : Int := upV b (cN r xs k) (cD r xs k)

def apY (r f : Int) (xs : List Int) (b : Int) : List Int := if apE r f xs b = 0 then colL (apF r xs b) (xs.length - 1) else []

theorem apB_no {r : Int} {xs : List Int} {j : Nat} (hj : j < xs.length - 1) (h : cD r xs j = 0) : apB r xs = false := by
  unfold apB
  rw [List.all_eq_false]
  exact ⟨j, by simpa using hj, by simp [h]⟩

theorem apB_yes {r : Int} {xs : List Int} (h : ∀ k, k < xs.length - 1 → cD r xs k ≠ 0) : apB r xs = true := by
  unfold apB
  rw [List.all_eq_true]
  intro k hk
  simpa using h k (by simpa using hk)

theorem apB_iff {r : Int} {xs : List Int} : apB r xs = true ↔ ∀ k, k < xs.length - 1 → cD r xs k ≠ 0 := by
  refine ⟨fun h k hk e => ?_, apB_yes⟩
  rw [apB_no hk e] at h; cases h

end Go.Proofs.YtnclncglmnbelaaGreat
