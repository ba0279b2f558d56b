/- TableText of the model: what the calls return. -/
import Derived.Test.YtnppkdnmkhoeeaaDoorTabTx
namespace Go.Proofs.YtnppkdnmkhoeeaaDoor
open Go.ChangeShapes Go.WideShapes Go.ChangeAt Go.RowKit
set_option linter.unusedVariables false
set_option maxRecDepth 100000

theorem ownI_lit1 (w : World) (x : Int) : OwnI w.heap.size (w.alloc (.cells #[.int .i64 x] 2)) (.slice (some ⟨w.heap.size, 0, none⟩) 1 1) [x] :=
  World.ownsRow_lit w #[.int .i64 x] 1 (Nat.le_refl _) (by unfold maxLen; omega) rfl

/-- append of a whole list -/
theorem wpList_apps {w : World} {ops : Array Oper} {rest : List Oper} {o : Oper} {a : Act} {Q : Exit → Act → World → Prop} (hgd : o.guard = none) (s x : Operand)
    (ho : o.op = .call { callee := .builtin .append, args := #[s, x], argTypes := #[32, 32] })
    (base : Nat) (v : Value) (xs ys : List Int) (m cp : Nat) (hs : a.eval s = v) (hown : OwnI base w v xs) (ad : Addr) (hx : a.eval x = .slice (some ad) m cp) (hm : ys.length = m) (hc : ∀ j u, (ys.map (Value.int .i64))[j]? = some u → w.cell? (ad.add j) = some u)
    (hlen : xs.length + ys.length ≤ 4096) (hbase : base ≤ w.heap.size)
    (h : ∀ v' w', OwnI base w' v' (xs ++ ys) → w.grownBy w' v.ownBlock → wpList Tryd.prog ops Q rest (a.put o.dst v') w') : wpList Tryd.prog ops Q (o :: rest) a w := by
  obtain ⟨i0, hi, hz0, hz1, hz2⟩ := info_parts infoI
  have hmx : maxLen = maxLen := rfl
  unfold maxLen at hmx
  obtain ⟨v', w', hr, h2, h3, h4⟩ := run_append_own (P := Tryd.prog) w base 32 o.type 2 i0 (.int .i64 0) 1 8 Tryd.underlying32 hi hz0 hz1 hz2 rfl (by decide) v xs.length (xs.map (Value.int .i64)) hown ad m cp (ys.map (Value.int .i64)) (by simp [hm]) hc (by intro u hu; obtain ⟨q, _, rfl⟩ := List.mem_map.1 hu; rfl) (by unfold maxLen; omega) (by omega) hbase
  have h6 : OwnI base w' v' (xs ++ ys) := by
    unfold OwnI
    rw [List.length_append, List.map_append, hm]
    exact h2
  refine wpList_plain hgd fun _ hK => ?_
  unfold Oper.wp execOp
  simp only [ho, resolve, invoke, builtin, Sem.run_bind, Sem.run_pure, Result.andThen_ok, List.map_toArray, List.map_cons, List.map_nil, hs, hx, hr]
  exact hK _ _ (h v' w' h6 h3)

/-- the text of a table, and none of another value -/
def ttT (f : Int) (xs : List Int) : List UInt8 := if ltB f xs = true then jn (f :: xs) else []

theorem ttT_t {f : Int} {xs : List Int} (h : ltB f xs = true) : ttT f xs = jn (f :: xs) := by simp [ttT, h]

theorem ttT_f {f : Int} {xs : List Int} (h : ltB f xs = false) : ttT f xs = [] := by simp [ttT, h]

end Go.Proofs.YtnppkdnmkhoeeaaDoor
