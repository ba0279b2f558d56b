/- The comparison that giveCents hands to the sort: what a call answers. -/
import Derived.Test.YtalfbhkgjfkneaaRot
namespace Go.Proofs.Ytalfbhkgjfkneaa
open Go.ChangeShapes Go.WideShapes Go.ChangeAt Go.RowKit
set_option linter.unusedVariables false

/-- cmp.Compare's answer -/
def cmpI (x y : Int) : Int := if x < y then -1 else if y < x then 1 else 0

theorem nan_any (x : Int) (w : World) : Calls Try.prog 63 #[.int .i64 x] w fun e w' => e = .returned (.bool false) ∧ w = w' := by
  go_enter Try.func63, Try.ntmps63
  go_wp2
  go_ret
  exact ⟨ret_bool (by simp), rfl⟩

theorem compare_any (x y : Int) (w : World) : Calls Try.prog 59 #[.int .i64 x, .int .i64 y] w fun e w' => e = .returned (.int .i64 (cmpI x y)) ∧ w' = w := by
  by_cases h1 : x < y
  · go_enter Try.func59, Try.ntmps59
    go_wp2_with (go_at_call 63; refine (nan_any _ _).mono ?_; rintro e w' ⟨rfl, rfl⟩)
    go_ret
    exact ⟨ret_int (by unfold cmpI; rw [if_pos h1]), rfl⟩
  · by_cases h2 : y < x
    · go_enter Try.func59, Try.ntmps59
      go_wp2_with (go_at_call 63; refine (nan_any _ _).mono ?_; rintro e w' ⟨rfl, rfl⟩)
      go_ret
      exact ⟨ret_int (by unfold cmpI; rw [if_neg (by omega), if_pos h2]), rfl⟩
    · go_enter Try.func59, Try.ntmps59
      go_wp2_with (go_at_call 63; refine (nan_any _ _).mono ?_; rintro e w' ⟨rfl, rfl⟩)
      go_ret
      exact ⟨ret_int (by unfold cmpI; rw [if_neg (by omega), if_neg (by omega)]), rfl⟩

/-- what the comparison reads: the captured slice, and the remainders -/
structure Env (C R n c : Nat) (key : Nat → Int) (w : World) : Prop where
  cap : w.cell? ⟨C, 0, none⟩ = some (.slice (some ⟨R, 0, none⟩) n c)
  cells : ∀ i, i < n → w.cell? ⟨R, i, none⟩ = some (.int .i64 (key i))

theorem Env.drewN {C R n c : Nat} {key : Nat → Int} {w : World} (h : Env C R n c key w) (m : Nat) : Env C R n c key (w.drewN m) := ⟨h.cap, h.cells⟩

theorem Env.only {C R n c D : Nat} {key : Nat → Int} {w w' : World} (h : Env C R n c key w) (ho : Only D w w') (h1 : C ≠ D) (h2 : R ≠ D) : Env C R n c key w' :=
  ⟨(ho.cell (p := ⟨C, 0, none⟩) h1).trans h.cap, fun i hi => (ho.cell (p := ⟨R, i, none⟩) h2).trans (h.cells i hi)⟩

theorem clos_any (C R n c : Nat) (key : Nat → Int) (x y : Nat) (w : World) (h : Env C R n c key w) (hx : x < n) (hy : y < n) (hn : n ≤ 1073741824) :
    Calls Try.prog 58 #[.int .i64 x, .int .i64 y, .pointer (some ⟨C, 0, none⟩)] w fun e w' => e = .returned (.int .i64 (cmpI (key y) (key x))) ∧ ∃ m, w' = w.drewN m := by
  have c0 := h.cap
  have c1 := h.cells x hx
  have c2 := h.cells y hy
  clear h
  go_enter Try.func58, Try.ntmps58
  go_wp2_with fail
  go_quiet ((go_at_call 59; exact Calls.quiet_of_same (compare_any _ _ _)))
  go_wp2_with fail
  go_ret
  exact ⟨rfl, _, rfl⟩

/-- the function value that giveCents hands on -/
abbrev CV (C : Nat) : Value := .func (.func 58) #[] #[.pointer (some ⟨C, 0, none⟩)]

/-- the order of the sort: greater key first, of equal ones the lesser number -/
def Lt (key : Nat → Int) (x y : Nat) : Prop := key y < key x ∨ (key x = key y ∧ x < y)

theorem Lt.trans {key : Nat → Int} {x y z : Nat} (h1 : Lt key x y) (h2 : Lt key y z) : Lt key x z := by
  unfold Lt at *; omega

theorem Lt.irrefl {key : Nat → Int} {x : Nat} (h : Lt key x x) : False := by unfold Lt at h; omega

theorem Lt.asymm {key : Nat → Int} {x y : Nat} (h : Lt key x y) (g : Lt key y x) : False := (h.trans g).irrefl

theorem cmp_neg {key : Nat → Int} {x y : Nat} : cmpI (key y) (key x) < 0 ↔ key y < key x := by
  unfold cmpI; split <;> (try split) <;> omega

/-- places a .. b - 1 are in order -/
def Srt (key : Nat → Int) (a b : Nat) (f : Nat → Nat) : Prop := ∀ i j, a ≤ i → i < j → j < b → Lt key (f i) (f j)

/-- of equal keys the lesser number stands first, left of m against right of it -/
def Crs (key : Nat → Int) (a m b : Nat) (f : Nat → Nat) : Prop := ∀ i j, a ≤ i → i < m → m ≤ j → j < b → key (f i) = key (f j) → f i < f j

end Go.Proofs.Ytalfbhkgjfkneaa
