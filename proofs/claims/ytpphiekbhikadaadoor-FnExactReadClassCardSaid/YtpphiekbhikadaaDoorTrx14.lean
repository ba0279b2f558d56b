/- Merged: Iter, ExpI. -/
import Derived.Test.YtpphiekbhikadaaDoorTrx7
import Derived.Test.YtpphiekbhikadaaDoorTrx9
import Derived.RangeFuncNested
import Derived.RangeFuncBound
import Derived.RangeFuncCalls
import Derived.RangeFuncLeaves
import Derived.RangeFuncFrom
import Derived.Shelf.Abstract
import Derived.OwnWalkIn
import Derived.TacticsInMore
import Derived.LoopNIn
import Derived.LoopIn

/- The ages behind an age, produced by a function that is ranged over: its contract. -/
namespace Go.Proofs.YtpphiekbhikadaaDoor
open Go.ChangeShapes Go.WideShapes Go.ChangeAt Go.RowKit Go.Shelf
set_option linter.unusedVariables false
attribute [local go_sem] Oper.semAt_some

theorem calls_of_wp_marks {f : FuncId} {fn : Func} {c : Code} {args : Array Value} {w : World} {R : Ending → World → Prop}
    (hf : Tryd.prog.funcs[f]? = some fn) (hb : fn.body = some c)
    (h : c.wp Tryd.prog (bodyPostM Fence.wide 9 Tryd.prog fn R) { tmps := args ++ Array.replicate (fn.ntmps - args.size) undef, defers := [] } w) : Calls Tryd.prog f args w R :=
  (callsIn_wide (n := 9)).1 (callsIn_of_wp_marks hf hb trivial (wpIn_wide.2 h) rfl)

/-- block B lies as it lay -/
def SameB (B : Nat) (W W' : World) : Prop := W'.heap[B]? = W.heap[B]?

theorem SameB.refl (B : Nat) (W : World) : SameB B W W := rfl

theorem SameB.trans {B : Nat} {W1 W2 W3 : World} (h : SameB B W1 W2) (k : SameB B W2 W3) : SameB B W1 W3 := Eq.trans k h

theorem SameB.cell {B : Nat} {W W' : World} (h : SameB B W W') (i : Nat) : W'.cell? ⟨B, i, none⟩ = W.cell? ⟨B, i, none⟩ := World.cell?_of_block (w := W) h

theorem SameB.put {B : Nat} (W : World) (l : Nat) (o : Obj) (h : B ≠ l) : SameB B W (W.putObj l o) := by
  unfold SameB
  exact World.putObj_heap_other h

/-- an age and the lives that are left at it -/
abbrev AL := { p : Int × Int // 0 ≤ p.2 ∧ p.2 ≤ 1000000 }

/-- the lives of an array -/
def Small (ys : List Int) : Prop := ∀ i, 0 ≤ ys.getD i 0 ∧ ys.getD i 0 ≤ 1000000

def elA (ys : List Int) (hs : Small ys) (n j : Nat) : AL := ⟨((n + 1 + j : Nat), ys.getD (n + 1 + j) 0), hs _⟩

def uptoA (ys : List Int) (hs : Small ys) (n k : Nat) : List AL := (List.range k).map (elA ys hs n)

theorem uptoA_succ (ys : List Int) (hs : Small ys) (n k : Nat) : uptoA ys hs n (k + 1) = uptoA ys hs n k ++ [elA ys hs n k] := by simp [uptoA, List.range_succ]

theorem uptoA_len (ys : List Int) (hs : Small ys) (n k : Nat) : (uptoA ys hs n k).length = k := by simp [uptoA]

end Go.Proofs.YtpphiekbhikadaaDoor

/- ExpectedYears of the program: what the calls return. | MeanPayments: the model's and the program's answer alike; what the years still lived are made of. -/
namespace Go.Proofs.YtpphiekbhikadaaDoor
open Go.ChangeShapes Go.WideShapes Go.ChangeAt Go.RowKit Go.Shelf
set_option linter.unusedVariables false
attribute [local go_sem] Oper.semAt_some

theorem byL_small {f : Int} {xs : List Int} (h : LTab f xs) : Small (byL f xs) := by
  intro i
  by_cases hi : f.toNat ≤ i
  · rw [byL_get _ _ _ hi]; exact ⟨h.nonneg _, h.le _⟩
  · unfold byL
    rw [List.getD_eq_getElem?_getD, List.getElem?_append_left (by simp; omega)]
    simp [show i < f.toNat by omega]

/-- the sum of what has come -/
def sumA (pre : List AL) : Int := (pre.map (fun p => p.1.2)).sum

theorem sumA_snoc (pre : List AL) (x : AL) : sumA (pre ++ [x]) = sumA pre + x.1.2 := by simp [sumA]

theorem sumA_bd (pre : List AL) : 0 ≤ sumA pre ∧ sumA pre ≤ pre.length * 1000000 := by
  induction pre with
  | nil => simp [sumA]
  | cons p r ih =>
    have := p.2
    simp only [sumA, List.map_cons, List.sum_cons, List.length_cons] at ih ⊢
    omega

theorem sumA_upto {f : Int} {xs : List Int} (h : LTab f xs) (hs : Small (byL f xs)) (n k : Nat) (hn : f ≤ n) : sumA (uptoA (byL f xs) hs n k) = partSum f xs n k := by
  induction k with
  | zero => simp [uptoA, sumA, partSum_zero]
  | succ k ih =>
    rw [uptoA_succ, sumA_snoc, ih, partSum_succ _ _ _ _ hn]
    congr 1
    show (byL f xs).getD (n + 1 + k) 0 = _
    have := h.by ((n : Int) + 1 + k) (by omega)
    rw [← this]
    congr 1

open Go.ChangeShapes Go.WideShapes Go.ChangeAt Go.RowKit

theorem ex_bd (f : Int) (xs : List Int) (x : Int) : (0 ≤ exN f xs x ∧ exN f xs x ≤ 120000000) ∧ 0 ≤ exD f xs x ∧ exD f xs x ≤ 1000000 := by
  by_cases h : clE f xs x 0 = 0
  · obtain ⟨ht, ⟨x0, x1⟩, _, _⟩ := clE_iff.1 h
    obtain ⟨a0, a1⟩ := ht.later_bd x x0
    obtain ⟨b0, b1⟩ := ht.lvs_bd x
    obtain ⟨e1, e2⟩ := ex_0 h rfl rfl
    have g0 : 0 ≤ gcdI (laterSum f xs x) (lvs f xs x) := by unfold gcdI; omega
    rw [e1, e2]
    have h1 := Int.ediv_nonneg a0 g0
    have h2 := Int.ediv_nonneg b0 g0
    have h3 := Int.ediv_le_self (gcdI (laterSum f xs x) (lvs f xs x)) a0
    have h4 := Int.ediv_le_self (gcdI (laterSum f xs x) (lvs f xs x)) b0
    omega
  · obtain ⟨e1, e2⟩ := ex_n h
    rw [e1, e2]; omega

/-- the later lives are the next ones and what comes behind them -/
theorem later_next (f : Int) (xs : List Int) (x : Int) (hx : f ≤ x) : laterSum f xs x = lvs f xs (x + 1) + laterSum f xs (x + 1) := by
  unfold laterSum lvs
  rw [show (x + 1 - f).toNat = (x - f).toNat + 1 by omega]
  obtain ⟨k, hk⟩ : ∃ k, (x - f).toNat + 1 = k := ⟨_, rfl⟩
  rw [hk]
  by_cases hl : k < xs.length
  · rw [List.drop_eq_getElem_cons hl, List.sum_cons, List.getD_eq_getElem?_getD, List.getElem?_eq_getElem hl]; rfl
  · rw [List.drop_of_length_le (by omega), List.drop_of_length_le (by omega), List.getD_eq_getElem?_getD, List.getElem?_eq_none (by omega)]; rfl

/-- a fraction in lowest terms, found again -/
theorem gcd_parts (u p : Int) (u0 : 0 ≤ u) (p0 : 1 ≤ p) : ∃ a b g : Int, u / gcdI u p = a ∧ p / gcdI u p = b ∧ 0 ≤ a ∧ 1 ≤ b ∧ p % b = 0 ∧ p / b = g ∧ a * g = u ∧ 1 ≤ g ∧ g ≤ p ∧ a ≤ u := by
  obtain ⟨m, rfl⟩ := Int.eq_ofNat_of_zero_le u0
  obtain ⟨n, rfl⟩ := Int.eq_ofNat_of_zero_le (show 0 ≤ p by omega)
  have hg : 0 < Nat.gcd m n := Nat.gcd_pos_of_pos_right m (by omega)
  have e : gcdI (m : Int) (n : Int) = ((Nat.gcd m n : Nat) : Int) := by simp [gcdI]
  obtain ⟨m', hm⟩ := Nat.gcd_dvd_left m n
  obtain ⟨n', hn⟩ := Nat.gcd_dvd_right m n
  rw [e]
  obtain ⟨g, hgg⟩ : ∃ g, Nat.gcd m n = g := ⟨_, rfl⟩
  rw [hgg] at hg hm hn ⊢
  have em : m / g = m' := Nat.div_eq_of_eq_mul_right hg hm
  have en : n / g = n' := Nat.div_eq_of_eq_mul_right hg hn
  have hn0 : 0 < n' := by
    by_cases h : n' = 0
    · subst h; omega
    · omega
  have eg : n / n' = g := Nat.div_eq_of_eq_mul_left hn0 hn
  have er : n % n' = 0 := by rw [hn]; exact Nat.mul_mod_left g n'
  refine ⟨(m' : Int), (n' : Int), (g : Int), by rw [← em]; rfl, by rw [← en]; rfl, by omega, by omega, by exact_mod_cast er, by rw [← eg]; rfl, ?_, by omega, ?_, ?_⟩
  · rw [hm]; push_cast; rw [Int.mul_comm]
  · have := Nat.le_of_dvd (show 0 < n by omega) (show g ∣ n from ⟨n', hn⟩); omega
  · have : m' ≤ m := by rw [← em]; exact Nat.div_le_self _ _
    omega

end Go.Proofs.YtpphiekbhikadaaDoor
