/- Merged: Dsum. -/
import Derived.Test.YtdlfofdibooidaaGreatLb4
import Derived.Deep.WholeRow

/- Sums of discounts; DiscountOf and CertainAnnuity of the program and of its model: one Lean function for both. -/
namespace Go.Proofs.YtdlfofdibooidaaGreat
open Go.ChangeShapes Go.WideShapes Go.ChangeAt Go.RowKit
set_option linter.unusedVariables false
set_option maxRecDepth 100000

/-- the sum of the discounts after m to m + n - 1 years -/
def dsum (r : Int) (m : Nat) : Nat → Int
  | 0 => 0
  | n + 1 => dsum r m n + disc r (m + n)

theorem dsum_bd (r : Int) (h : 0 ≤ r) (m n : Nat) : 0 ≤ dsum r m n ∧ dsum r m n ≤ n * 1000000000 := by
  induction n with
  | zero => simp [dsum]
  | succ n ih =>
    obtain ⟨h1, h2⟩ := disc_bd r h (m + n)
    rw [dsum]
    omega

/-- the walks' form of a step of a sum: both terms told -/
theorem dsum_step (r : Int) (h : 0 ≤ r) (m n : Nat) (hn : n ≤ 1000) : ∃ s d : Int, dsum r m n = s ∧ disc r (m + n) = d ∧ dsum r m (n + 1) = s + d ∧ 0 ≤ s ∧ s ≤ 1000000000000 ∧ 0 ≤ d ∧ d ≤ 1000000000 := by
  obtain ⟨h1, h2⟩ := disc_bd r h (m + n)
  obtain ⟨h3, h4⟩ := dsum_bd r h m n
  exact ⟨_, _, rfl, rfl, rfl, h3, by omega, h1, h2⟩

theorem sdisc_any (r : Int) (k : Nat) (w : World) (h0 : 0 ≤ r) (h1 : r ≤ 200) (hk : k ≤ 1000) :
    Calls Tryz.prog 72 #[.int .i64 r, .int .i64 k] w fun e w' => e = .returned (.int .i64 (disc r k)) ∧ w = w' := by
  go_enter Tryz.func72, Tryz.ntmps72
  go_wp2_with fail
  go_loopw [5, 6] (fun v i wr => ∃ j : Nat, j ≤ k ∧ i = .int .i64 j ∧ v = .int .i64 (disc r j) ∧ wr = w) (fun _ i _ => k - (intOf i).toNat)
  case atStart => exact ⟨0, by omega, rfl, rfl, rfl⟩
  case round =>
    obtain ⟨j, hj, rfl, rfl, rfl⟩ := hrel
    by_cases hlt : j < k
    · obtain ⟨b1, b2⟩ := disc_bd r h0 j
      have hq := disc_q r h0 j
      obtain ⟨D, hD⟩ : ∃ D, disc r j = D := ⟨_, rfl⟩
      rw [hD] at b1 b2 hq ⊢
      clear hD
      go_wp2_with fail
      go_roundw
      case rel => exact ⟨j + 1, by omega, by go_num, by first | rfl | go_num, by first | rfl | trivial⟩
      case measure => simp [intOf]; omega
    · go_wp2_with fail
      go_ret
      obtain rfl : j = k := by omega
      exact ⟨rfl, rfl⟩

def SumPost (B : Nat) (r v : Int) (w : World) (e : Ending) (w' : World) : Prop := e = .returned (.int .i64 v) ∧ DB w' B r ∧ Only B w w'

/-! ### the tests of the arguments -/

def rateB (r : Int) : Bool := inB r 0 200

def termB (n : Int) : Bool := inB n 0 120

theorem isRate_any (r : Int) (w : World) : Calls Tryz.prog 122 #[.int .i64 r] w fun e w' => e = .returned (.bool (rateB r)) ∧ w = w' := by
  go_enter Tryz.func122, Tryz.ntmps122
  go_wp2_with (go_at_call 87; refine (within_any _ _ _ _).mono ?_; rintro e w' ⟨rfl, rfl⟩)
  go_ret
  exact ⟨rfl, rfl⟩

theorem isTerm_any (n : Int) (w : World) : Calls Tryz.prog 123 #[.int .i64 n] w fun e w' => e = .returned (.bool (termB n)) ∧ w = w' := by
  go_enter Tryz.func123, Tryz.ntmps123
  go_wp2_with (go_at_call 87; refine (within_any _ _ _ _).mono ?_; rintro e w' ⟨rfl, rfl⟩)
  go_ret
  exact ⟨rfl, rfl⟩

theorem sRate_any (r : Int) (w : World) : Calls Tryz.prog 113 #[.int .i64 r] w fun e w' => e = .returned (.bool (rateB r)) ∧ w = w' := by
  go_enter Tryz.func113, Tryz.ntmps113
  go_wp2_with (go_at_call 82; refine (in_any _ _ _ _).mono ?_; rintro e w' ⟨rfl, rfl⟩)
  go_ret
  exact ⟨rfl, rfl⟩

def amtB (n : Int) : Bool := inB n 0 1000000000

/-! ### new discounts -/

/-- no discounts yet -/
def z121 : List Int := List.replicate 121 0

theorem zero_dsc : Tryz.zeroCells157 = dcells 0 0 0 z121 := by kernel_rfl

theorem zero_set (r : Int) : Tryz.zeroCells157.toList.set 0 (.int .i64 r) = (dcells r 0 0 z121).toList := by
  rw [zero_dsc]; rfl

theorem dcells_one (r d m : Int) (xs : List Int) : (dcells r d m xs).all (·.oneCell') = true := by
  simp [dcells, Value.oneCell']

theorem store_dsc (r : Int) (w : World) : (storeCells ⟨w.heap.size, 0, none⟩ (Tryz.zeroCells157.toList.set 0 (.int .i64 r))).run Tryz.prog (w.alloc (.cells Tryz.zeroCells157 157)) = .ok () (w.alloc (.cells (dcells r 0 0 z121) 157)) := by
  rw [zero_set]
  exact run_storeCells_new w 157 _ _ (by rw [show (dcells r 0 0 z121).size = 125 by simp [dcells, z121]]; kernel_rfl) (by rw [zero_dsc]; simp [dcells, z121]) (dcells_one _ _ _ _)

theorem db_new (r : Int) (w : World) : DB (w.alloc (.cells (dcells r 0 0 z121) 157)) w.heap.size r := by
  refine ⟨0, z121, by simp [z121], ?_, .inl rfl⟩
  unfold DBX
  show (w.heap.push _)[w.heap.size]? = _
  simp

theorem new_below {w w' : World} {o : Obj} (h : Only w.heap.size (w.alloc o) w') : Below w.heap.size w w' :=
  ((Below.refl w.heap.size w).alloc (Nat.le_refl _) _).trans (h.below (Nat.le_refl _))

/-! ### DiscountOf and CertainAnnuity -/

def rtB (r n : Int) : Bool := rateB r && termB n

def rtE (r n : Int) : Int := if rtB r n then 0 else 2

def doV (r n : Int) : Int := if rtB r n then disc r n.toNat else 0

def caV (r n : Int) : Int := if rtB r n then dsum r 0 n.toNat else 0

theorem rtB_iff (r n : Int) : rtB r n = true ↔ (0 ≤ r ∧ r ≤ 200) ∧ (0 ≤ n ∧ n ≤ 120) := by
  unfold rtB rateB termB; rw [Bool.and_eq_true, inB_iff, inB_iff]

end Go.Proofs.YtdlfofdibooidaaGreat
