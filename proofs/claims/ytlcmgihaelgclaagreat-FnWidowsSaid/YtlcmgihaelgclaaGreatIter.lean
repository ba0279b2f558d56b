/- The ages behind an age, produced by a function that is ranged over: its contract. -/
import Derived.Test.YtlcmgihaelgclaaGreatTabE
import Derived.RangeFuncNested
import Derived.RangeFuncBound
import Derived.RangeFuncCalls
import Derived.RangeFuncLeaves
import Derived.RangeFuncFrom
import Derived.Shelf.Abstract
import Derived.OwnWalkIn
import Derived.TacticsInMore
import Derived.LoopNIn
import Derived.LoopIn
namespace Go.Proofs.YtlcmgihaelgclaaGreat
open Go.ChangeShapes Go.WideShapes Go.ChangeAt Go.RowKit Go.Shelf
set_option linter.unusedVariables false
attribute [local go_sem] Oper.semAt_some

theorem calls_of_wp_marks {f : FuncId} {fn : Func} {c : Code} {args : Array Value} {w : World} {R : Ending → World → Prop}
    (hf : Tryz.prog.funcs[f]? = some fn) (hb : fn.body = some c)
    (h : c.wp Tryz.prog (bodyPostM Fence.wide 9 Tryz.prog fn R) { tmps := args ++ Array.replicate (fn.ntmps - args.size) undef, defers := [] } w) : Calls Tryz.prog f args w R :=
  (callsIn_wide (n := 9)).1 (callsIn_of_wp_marks hf hb trivial (wpIn_wide.2 h) rfl)

/-- block B lies as it lay -/
def SameB (B : Nat) (W W' : World) : Prop := W'.heap[B]? = W.heap[B]?

theorem SameB.refl (B : Nat) (W : World) : SameB B W W := rfl

theorem SameB.trans {B : Nat} {W1 W2 W3 : World} (h : SameB B W1 W2) (k : SameB B W2 W3) : SameB B W1 W3 := Eq.trans k h

theorem SameB.cell {B : Nat} {W W' : World} (h : SameB B W W') (i : Nat) : W'.cell? ⟨B, i, none⟩ = W.cell? ⟨B, i, none⟩ := World.cell?_of_block (w := W) h

theorem SameB.put {B : Nat} (W : World) (l : Nat) (o : Obj) (h : B ≠ l) : SameB B W (W.putObj l o) := by
  unfold SameB
  exact World.putObj_heap_other h

/-- an age and the lives that are left at it -/
abbrev AL := { p : Int × Int // 0 ≤ p.2 ∧ p.2 ≤ 1000000 }

/-- the lives of an array -/
def Small (ys : List Int) : Prop := ∀ i, 0 ≤ ys.getD i 0 ∧ ys.getD i 0 ≤ 1000000

def elA (ys : List Int) (hs : Small ys) (n j : Nat) : AL := ⟨((n + 1 + j : Nat), ys.getD (n + 1 + j) 0), hs _⟩

def uptoA (ys : List Int) (hs : Small ys) (n k : Nat) : List AL := (List.range k).map (elA ys hs n)

theorem uptoA_succ (ys : List Int) (hs : Small ys) (n k : Nat) : uptoA ys hs n (k + 1) = uptoA ys hs n k ++ [elA ys hs n k] := by simp [uptoA, List.range_succ]

theorem uptoA_len (ys : List Int) (hs : Small ys) (n k : Nat) : (uptoA ys hs n k).length = k := by simp [uptoA]

set_option maxRecDepth 100000 in
set_option maxHeartbeats 2000000 in
theorem after1_in (ys : List Int) (hs : Small ys) (n : Nat) (hn : n ≤ 150) (l Ba By m : Nat) (hm : 1 ≤ m) (J Jx : List AL → World → Prop)
    (hY : ∀ pre x W, J pre W → pre.length < 150 - n → YieldAt Fence.wide (m - 1) Tryz.prog l #[.int .i64 x.1.1, .int .i64 x.1.2] W fun e W' =>
      (e = .returned (.bool true) ∧ J (pre ++ [x]) W' ∧ SameB By W W') ∨ (e = .returned (.bool false) ∧ Jx (pre ++ [x]) W'))
    (W : World) (ha : W.cell? ⟨Ba, 0, none⟩ = some (.int .i64 (n : Int))) (hc : ∀ i, i < 152 → W.cell? ⟨By, i, none⟩ = some (.int .i64 (ys.getD i 0))) (h0 : J [] W) :
    CallsIn Fence.wide m Tryz.prog 67 #[.func (.yield l) #[] #[], .pointer (some ⟨Ba, 0, none⟩), .pointer (some ⟨By, 0, none⟩)] W fun e W' => (∃ v, e = .returned v) ∧
      ((∃ xs, xs = uptoA ys hs n (150 - n) ∧ J xs W') ∨ (∃ pre, (∃ k, k ≤ 150 - n ∧ pre = uptoA ys hs n k) ∧ Jx pre W')) := by
  refine callsIn_of_wp Tryz.func67 rfl trivial ?_ rfl
  simp only [Tryz.ntmps67, List.size_toArray, List.length_cons, List.length_nil, Nat.reduceAdd, Nat.reduceSub, Array.replicate_succ, Array.replicate_zero, List.push_toArray, List.append_toArray, List.nil_append, List.cons_append]
  gi_wp2
  gi_loopw [4] (fun i wr => ∃ k : Nat, k ≤ 150 - n ∧ i = .int .i64 ((n : Int) + 1 + k) ∧ J (uptoA ys hs n k) wr ∧ SameB By W wr)
    (fun i _ => 152 - (intOf i).toNat)
  case atStart => exact ⟨0, Nat.zero_le _, by simp, h0, SameB.refl _ _⟩
  case round =>
    obtain ⟨k, hk, rfl, hJs, hnx⟩ := hrel
    by_cases hlt : k < 150 - n
    · have hcx := (hnx.cell (n + 1 + k)).trans (hc (n + 1 + k) (by omega))
      have hle : (n : Int) + 1 + k ≤ 150 := by omega
      have hcast : ((n : Int) + 1 + k).toNat = n + 1 + k := by omega
      obtain ⟨fn, tmps, assign, body, hy, hR⟩ := hY _ (elA ys hs n k) wr hJs (by rw [uptoA_len]; exact hlt)
      have he1 : (elA ys hs n k).1.1 = (n : Int) + 1 + k := by simp [elA]
      have he2 : (elA ys hs n k).1.2 = ys.getD (n + 1 + k) 0 := by simp [elA]
      obtain ⟨v, hv⟩ : ∃ v, ys.getD (n + 1 + k) 0 = v := ⟨_, rfl⟩
      rw [hv] at hcx he2
      rw [he1, he2] at hy
      clear he1 he2 hv
      gi_wp2
      refine hR.mono ?_
      rintro e W3 (⟨rfl, hJ3, hk3⟩ | ⟨rfl, hJx3⟩)
      · gi_wp2
        go_roundw
        case rel => exact ⟨k + 1, by omega, by congr 1; try omega, by rw [uptoA_succ]; exact hJ3, hnx.trans hk3⟩
        case measure => simp [intOf]; omega
      · gi_wp2
        refine bodyPost_ret (results_none rfl _ _ _) rfl ?_
        exact ⟨⟨_, rfl⟩, .inr ⟨_, ⟨k + 1, by omega, (uptoA_succ _ _ _ _).symm⟩, hJx3⟩⟩
    · obtain rfl : k = 150 - n := by omega
      have hle : ¬ (n : Int) + 1 + (150 - n : Nat) ≤ 150 := by omega
      gi_wp2
      go_end0
      first | exact ⟨⟨_, rfl⟩, .inl ⟨_, rfl, hJs⟩⟩ | exact ⟨⟨_, rfl⟩, .inl hJs⟩ | exact .inl hJs | exact hJs

/-- what comes: the ages n + 1, .., 150 and their lives -/
theorem after_stops (ys : List Int) (hs : Small ys) (n : Nat) (hn : n ≤ 150) (Ba By m : Nat) (hm : 1 ≤ m) (w : World) (hBa : Ba < w.heap.size) (hBy : By < w.heap.size)
    (ha : w.cell? ⟨Ba, 0, none⟩ = some (.int .i64 (n : Int))) (hc : ∀ i, i < 152 → w.cell? ⟨By, i, none⟩ = some (.int .i64 (ys.getD i 0))) :
    SeqStopsK Fence.wide m Tryz.prog 67 #[.pointer (some ⟨Ba, 0, none⟩), .pointer (some ⟨By, 0, none⟩)] (fun x : AL => #[Value.int .i64 x.1.1, Value.int .i64 x.1.2]) (SameB By) (fun xs => xs = uptoA ys hs n (150 - n)) (fun pre => ∃ k, k ≤ 150 - n ∧ pre = uptoA ys hs n k) (150 - n) w := fun l J Jx W hW _ _ hY h0 =>
  after1_in ys hs n hn l Ba By m hm J Jx hY W ((hW.cell (p := ⟨Ba, 0, none⟩) hBa).trans ha) (fun i hi => (hW.cell (p := ⟨By, i, none⟩) hBy).trans (hc i hi)) h0

end Go.Proofs.YtlcmgihaelgclaaGreat
