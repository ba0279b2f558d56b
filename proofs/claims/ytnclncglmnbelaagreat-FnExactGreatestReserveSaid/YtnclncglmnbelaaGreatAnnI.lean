/- Annuities: the program's check, its rounding up, its numerators over the columns. -/
import Derived.Test.YtnclncglmnbelaaGreatAnn
import Derived.Test.YtnclncglmnbelaaGreatComI
import Derived.Test.YtnclncglmnbelaaGreatMdD
import Derived.Deep.RegionHeld3
namespace Go.Proofs.YtnclncglmnbelaaGreat
open Go.ChangeShapes Go.WideShapes Go.ChangeAt Go.RowKit
set_option linter.unusedVariables false
set_option maxRecDepth 100000

theorem tu_any (a b c : Int) (w : World) (a0 : 0 ≤ a) (a1 : a ≤ 1000000000000) (b0 : 0 ≤ b) (b1 : b ≤ 1000000000000000000) (c0 : 1 ≤ c) (c1 : c ≤ 1000000000000000000) (hq : a * b / c ≤ 100000000000000000) :
    Calls Tryz.prog 117 #[.int .i64 a, .int .i64 b, .int .i64 c] w fun e w' => e = .returned (.int .i64 (upV a b c)) ∧ Below w.heap.size w w' := by
  have HC := Lib.hid (fun W => md_impl a b c W)
  have hin : mvIn a b c = true := (mvIn_iff a b c).2 ⟨⟨a0, a1⟩, ⟨b0, b1⟩, c0, c1⟩
  obtain ⟨e0, e1, e2⟩ := md_in hin (by omega)
  rw [e0, e1, e2] at HC
  obtain ⟨q, r, hq1, hr1, r0, r1, g1, g2⟩ := upV_eq a b c c0
  have q0 : 0 ≤ q := by rw [← hq1]; exact Int.ediv_nonneg (Int.mul_nonneg a0 b0) (by omega)
  rw [hq1, hr1] at HC
  rw [hq1] at hq
  clear e0 e1 e2 hq1 hr1 hin
  by_cases hz : r = 0
  · have G := Lib.hid (g1 hz)
    subst hz
    clear g1 g2
    go_enter Tryz.func117, Tryz.ntmps117
    go_wp2_with (go_at_call 128; refine (HC.out _).mono ?_; rintro e w2 ⟨rfl, hb⟩)
    go_ret
    exact ⟨ret_int (by rw [G.out]), hb⟩
  · have h1 : 0 < r := by omega
    have G := Lib.hid (g2 h1)
    clear g1 g2
    go_enter Tryz.func117, Tryz.ntmps117
    go_wp2_with (go_at_call 128; refine (HC.out _).mono ?_; rintro e w2 ⟨rfl, hb⟩)
    go_ret
    exact ⟨ret_int (by rw [G.out]), hb⟩

/-- the code of an annuity but for D -/
def akE (r f : Int) (xs : List Int) (x : Int) (b : Bool) (n : Int) : Int :=
  if coE r f xs x = 0 then (if b = true ∧ (0 ≤ n ∧ n ≤ 120) ∧ x + n ≤ 150 then 0 else 2) else coE r f xs x

theorem anE_ak (r f : Int) (xs : List Int) (x : Int) (b : Bool) (n : Int) : anE r f xs x b n = if akE r f xs x b n = 0 then (if cD r xs (x - f).toNat = 0 then 5 else 0) else akE r f xs x b n := by
  unfold anE akE
  by_cases h1 : coE r f xs x = 0
  · by_cases h2 : b = true ∧ (0 ≤ n ∧ n ≤ 120) ∧ x + n ≤ 150
    · simp only [if_pos h1, if_pos h2]; simp
    · simp only [if_pos h1, if_neg h2]; simp
  · simp only [if_neg h1]

theorem akE_iff {r f : Int} {xs : List Int} {x : Int} {b : Bool} {n : Int} : akE r f xs x b n = 0 ↔ coE r f xs x = 0 ∧ b = true ∧ (0 ≤ n ∧ n ≤ 120) ∧ x + n ≤ 150 := by
  unfold akE
  by_cases h1 : coE r f xs x = 0
  · by_cases h2 : b = true ∧ (0 ≤ n ∧ n ≤ 120) ∧ x + n ≤ 150
    · rw [if_pos h1, if_pos h2]; simp [h1, h2]
    · rw [if_pos h1, if_neg h2]
      constructor
      · intro h; omega
      · rintro ⟨_, a⟩; exact absurd a h2
  · rw [if_neg h1]
    constructor
    · intro h; exact absurd h h1
    · rintro ⟨h, _⟩; exact absurd h h1

/-- a table with its columns, told by the columns -/
def Cols (w : World) (R : Nat) (r f : Int) (xs : List Int) (v : Value) : Prop := ∃ G, CBX w R f v G ∧ ∀ m, f.toNat ≤ m → m ≤ 150 → G (m * 4) = cD r xs (m - f.toNat) ∧ G (m * 4 + 1) = cN r xs (m - f.toNat) ∧ G (m * 4 + 2) = cC r xs (m - f.toNat) ∧ G (m * 4 + 3) = cM r xs (m - f.toNat)

theorem Cols.lt {w : World} {R : Nat} {r f : Int} {xs : List Int} {v : Value} (h : Cols w R r f xs v) : R < w.heap.size := by
  obtain ⟨G, hG, _⟩ := h; exact hG.lt

theorem Cols.same {w w' : World} {R : Nat} {r f : Int} {xs : List Int} {v : Value} (h : Cols w R r f xs v) (hb : w'.heap[R]? = w.heap[R]?) : Cols w' R r f xs v := by
  obtain ⟨G, hG, hg⟩ := h; exact ⟨G, hG.same hb, hg⟩

theorem Cols.on {w w' : World} {R : Nat} {r f : Int} {xs : List Int} {v : Value} (h : Cols w R r f xs v) (hb : Below w.heap.size w w') : Cols w' R r f xs v := h.same (hb.block R h.lt)

theorem at_cols (r f : Int) (xs : List Int) (v : Value) (R : Nat) (x : Int) (w : World) (h : Cols w R r f xs v) (f0 : 0 ≤ f) (x0 : f ≤ x) (x1 : x ≤ 150) :
    Calls Tryz.prog 99 #[.pointer (some ⟨R, 2, none⟩), .int .i64 x] w fun e w' => e = .returned (.agg #[.int .i64 (cD r xs (x - f).toNat), .int .i64 (cN r xs (x - f).toNat), .int .i64 (cC r xs (x - f).toNat), .int .i64 (cM r xs (x - f).toNat)]) ∧ Below w.heap.size w w' := by
  obtain ⟨G, hG, hg⟩ := h
  obtain ⟨m, rfl⟩ : ∃ m : Nat, x = m := ⟨x.toNat, by omega⟩
  have := colat_any R f _ G m w hG (by omega)
  obtain ⟨e0, e1, e2, e3⟩ := hg m (by omega) (by omega)
  unfold AtG at this
  rw [e0, e1, e2, e3, show m - f.toNat = ((m : Int) - f).toNat by omega] at this
  exact this

/-- what the closures over the columns hold: the block that holds their pointer -/
def Cap (w : World) (cb R : Nat) : Prop := w.cell? ⟨cb, 0, none⟩ = some (.pointer (some ⟨R, 0, none⟩))

theorem fldD (A B C D : Int) (W : World) : (Instr.field 70 (.agg #[.int .i64 A, .int .i64 B, .int .i64 C, .int .i64 D]) 0).run Tryz.prog W = .ok (.int .i64 A) W := by kernel_rfl

theorem fldN (A B C D : Int) (W : World) : (Instr.field 70 (.agg #[.int .i64 A, .int .i64 B, .int .i64 C, .int .i64 D]) 1).run Tryz.prog W = .ok (.int .i64 B) W := by kernel_rfl

end Go.Proofs.YtnclncglmnbelaaGreat
