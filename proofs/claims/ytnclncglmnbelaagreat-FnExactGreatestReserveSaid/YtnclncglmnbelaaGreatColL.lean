/- Lists of columns: the model's list and its four functions. -/
import Derived.Test.YtnclncglmnbelaaGreatCol
import Derived.Test.YtnclncglmnbelaaGreatDrawS
namespace Go.Proofs.YtnclncglmnbelaaGreat
open Go.ChangeShapes Go.WideShapes Go.ChangeAt Go.RowKit
set_option linter.unusedVariables false
set_option maxRecDepth 100000

/-- the first n values of a column -/
def colL (F : Nat → Int) (n : Nat) : List Int := (List.range n).map F

theorem colL_len (F : Nat → Int) (n : Nat) : (colL F n).length = n := by simp [colL]

theorem colL_snoc (F : Nat → Int) (n : Nat) : colL F (n + 1) = colL F n ++ [F n] := by simp [colL, List.range_succ]

theorem colL_get (F : Nat → Int) (n k : Nat) (h : k < n) : (colL F n).getD k 0 = F k := by simp [colL, List.getD, h]

theorem one_newC (w : World) (x : Int) : ∀ j u, [Value.int .i64 x][j]? = some u → (w.alloc (.cells #[.int .i64 x] 2)).cell? ((⟨w.heap.size, 0, none⟩ : Addr).add j) = some u := by
  intro j u hj
  match j, hj with
  | 0, hj => simp at hj; subst hj; simp [Addr.add]

theorem OwnI.on {base : Nat} {w w' : World} {v : Value} {xs : List Int} (h : OwnI base w v xs) (hb : Below w.heap.size w w') : OwnI base w' v xs :=
  h.same fun k _ hk => hb.block k hk

theorem own_tb {base : Nat} {w : World} {v : Value} {ys : List Int} (h : OwnI base w v ys) (hl : ys.length ≤ 4096) : ∃ a c, v = .slice a ys.length c ∧ TbR base w a ys.length ys := by
  have hh := h
  rcases h.2 with ⟨rfl, hn⟩ | ⟨g, cap, cur, rfl, hbg, hg, -⟩
  · refine ⟨none, 0, ?_, rfl, hl, .inl ⟨rfl, hn⟩⟩
    rw [hn]
  · exact ⟨_, cap, rfl, rfl, hl, .inr ⟨g, 0, rfl, hbg, (hh.lt g rfl).2, hh.row⟩⟩

theorem app_below {base : Nat} {wr w1 : World} {v : Value} {xs : List Int} {o : Obj} (hown : OwnI base wr v xs) (hbs : base ≤ wr.heap.size) (hg : (wr.alloc o).grownBy w1 v.ownBlock) : Below base wr w1 :=
  ((Below.refl _ _).alloc hbs o).grown hg (by simp; omega) fun k hk => (hown.lt k hk).1

/-- what the list of a column is: empty beside an error -/
def clY (F : Nat → Int) (r f : Int) (xs : List Int) : List Int := if coE r f xs f = 0 then colL F xs.length else []

theorem ls_cond {E : Int} {ys : List Int} {w w' : World} {v : Value} {base : Nat} (h : OwnI base w' v ys) (hl : ys.length ≤ 4096) (hb : Below w.heap.size w w') (hbs : w.heap.size ≤ base) (he : E = 0) {Y : List Int} (hY : Y = ys) :
    LsPost Y E w (.returned (.tuple #[v, .int .i64 0])) w' := by
  subst he; subst hY
  obtain ⟨a, c, rfl, ht⟩ := own_tb h hl
  exact ⟨a, _, c, rfl, ht.mono hbs, hb⟩

theorem ls_nil {E e : Int} {Y : List Int} {w w' : World} (hb : Below w.heap.size w w') (he : E = e) (hY : Y = []) : LsPost Y E w (.returned (.tuple #[.slice none 0 0, .int .i64 e])) w' := by
  subst he; subst hY
  exact ⟨none, 0, 0, rfl, ⟨rfl, by omega, .inl ⟨rfl, rfl⟩⟩, hb⟩

end Go.Proofs.YtnclncglmnbelaaGreat
