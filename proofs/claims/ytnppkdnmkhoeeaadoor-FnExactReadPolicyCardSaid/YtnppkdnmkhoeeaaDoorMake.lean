/- MakeTable of the program: what the calls return. -/
import Derived.Test.YtnppkdnmkhoeeaaDoorDrawS
import Derived.Test.YtnppkdnmkhoeeaaDoorTabE
namespace Go.Proofs.YtnppkdnmkhoeeaaDoor
open Go.ChangeShapes Go.WideShapes Go.ChangeAt Go.RowKit
set_option linter.unusedVariables false
set_option maxRecDepth 100000

theorem one_newT (w : World) (x : Int) : ∀ j u, [Value.int .i64 x][j]? = some u → (w.alloc (.cells #[.int .i64 x] 2)).cell? ((⟨w.heap.size, 0, none⟩ : Addr).add j) = some u := by
  intro j u hj
  match j, hj with
  | 0, hj => simp at hj; subst hj; simp [Addr.add]

theorem ownI_one (w : World) (x : Int) : OwnI w.heap.size (w.alloc (.cells #[.int .i64 x] 2)) (.slice (some ⟨w.heap.size, 0, none⟩) 1 1) [x] :=
  World.ownsRow_lit w #[.int .i64 x] 1 (Nat.le_refl _) (by unfold maxLen; omega) rfl

/-- a list that a call has made: where it lies, what it holds -/
def Made (w : World) (xs : List Int) (v : Value) (w' : World) : Prop := ∃ g c, v = .slice (some ⟨g, 0, none⟩) xs.length c ∧ xs.length ≤ c ∧ w.heap.size ≤ g ∧ RowI w' g 0 xs ∧ Below w.heap.size w w'

theorem OwnI.made {w w' : World} {v : Value} {xs : List Int} (h : OwnI w.heap.size w' v xs) (hb : Below w.heap.size w w') (hl : 0 < xs.length) : Made w xs v w' := by
  have hh := h
  obtain ⟨_, ⟨rfl, h0⟩ | ⟨g, cap, cur, rfl, hg, hc, hn, hcap, _⟩⟩ := h
  · omega
  · exact ⟨g, cap, rfl, hn, hg, hh.row, hb⟩

/-- rates of a table -/
def rtsB (rs : List Int) : Bool := rs.all fun r => inB r 0 1000

theorem rtsB_iff (rs : List Int) : rtsB rs = true ↔ ∀ r ∈ rs, 0 ≤ r ∧ r ≤ 1000 := by
  unfold rtsB; rw [List.all_eq_true]
  exact ⟨fun h r hr => (inB_iff _ _ _).1 (h r hr), fun h r hr => (inB_iff _ _ _).2 (h r hr)⟩

theorem du_1000 (a : Int) (h0 : 0 ≤ a) (h1 : a ≤ 1000000000) : duV a 1000 = up1000 a := by
  have : ddB a 1000 = true := (ddB_iff _ _).2 (by omega)
  simp [duV, this, up1000]

end Go.Proofs.YtnppkdnmkhoeeaaDoor
