/- Merged: Base, Nums, Once. -/
import Derived.Test.YtdlfofdibooidaaGreatChecked
import Derived.WalkKit
import Derived.ProofKit
import Derived.OpenShut
import Derived.Lib.Hide
import Derived.IntWalk
import Derived.LoopTactic
import Derived.RegionTactic
import Derived.Deep.QuietTactic
import Derived.BigQuiet
import Derived.Outline
import Derived.WalkSmall
import Derived.Below
import Derived.WalkSpells
import Derived.OwnWalk
import Derived.Defers
import Derived.Laws.Pointers
import Derived.Laws.NewBlocks
import Derived.ChangeAlike

/- Small words for the walks: a row of integers that came in; a world of which one block alone has turned. -/
namespace Go.Proofs.YtdlfofdibooidaaGreat
open Go.ChangeShapes Go.WideShapes Go.ChangeAt Go.RowKit
set_option linter.unusedVariables false

/-- A slice of integers that came in: nil; or a row of cells. -/
def IsRow (k : IntKind) (w : World) (a : Option Addr) (len cap : Nat) (zs : List Int) : Prop :=
  (a = none ∧ len = 0 ∧ cap = 0 ∧ zs = []) ∨
  ∃ x, a = some x ∧ len ≤ cap ∧ cap ≤ maxLen ∧ zs.length = cap ∧ (∀ i, i < zs.length → w.cell? (x.add i) = some (.int k (zs.getD i 0))) ∧ ∀ n ∈ zs, (Lit.int k n).wf = true

/-- Only block B has turned: the streams, the number of blocks and every other block are as they were. -/
structure Only (B : Nat) (w w' : World) : Prop where
  os : w'.os = w.os
  tape : w'.tape = w.tape
  output : w'.output = w.output
  size : w'.heap.size = w.heap.size
  block : ∀ k, k ≠ B → w'.heap[k]? = w.heap[k]?

theorem Only.refl (B : Nat) (w : World) : Only B w w := ⟨rfl, rfl, rfl, rfl, fun _ _ => rfl⟩

theorem Only.trans {B : Nat} {a b c : World} (h : Only B a b) (k : Only B b c) : Only B a c :=
  ⟨k.os.trans h.os, k.tape.trans h.tape, k.output.trans h.output, k.size.trans h.size, fun i hi => (k.block i hi).trans (h.block i hi)⟩

theorem Only.drew {B : Nat} {a w : World} (h : Only B a w) : Only B a w.drew := ⟨h.os, h.tape, h.output, h.size, h.block⟩

theorem Only.drewN {B : Nat} {a w : World} (h : Only B a w) (n : Nat) : Only B a (w.drewN n) := ⟨h.os, h.tape, h.output, h.size, h.block⟩

theorem Only.setCell {B : Nat} {a w : World} (h : Only B a w) {p : Addr} (hp : p.block = B) (u : Value) : Only B a (w.setCell p u) :=
  h.trans ⟨rfl, rfl, rfl, by simp [World.setCell], fun k hk => Below.heap_setCell _ _ _ _ (by omega)⟩

theorem Only.below {A B : Nat} {w w' : World} (h : Only B w w') (hA : A ≤ B) : Below A w w' :=
  ⟨h.os, h.tape, h.output, by rw [h.size]; exact Nat.le_refl _, fun k hk => h.block k (by omega)⟩

theorem Only.cell {B : Nat} {w w' : World} (h : Only B w w') {p : Addr} (hp : p.block ≠ B) : w'.cell? p = w.cell? p := World.cell?_of_block (w := w) (h.block p.block hp)

theorem Only.frozen {B : Nat} {w w' : World} (h : Only B w w') {p : Addr} (hp : p.block ≠ B) : w'.frozen? p = w.frozen? p := World.frozen?_of_block (w := w) (h.block p.block hp)

/-- the row's cells lie in no block from B on -/
def Apart (a : Option Addr) (zs : List Int) (B : Nat) : Prop := ∀ x, a = some x → 0 < zs.length → x.block < B

theorem add_block (x : Addr) (i : Nat) : (x.add i).block = x.block := by
  unfold Addr.add; split <;> rfl

theorem IsRow.below {k : IntKind} {w w' : World} {a : Option Addr} {l c B : Nat} {zs : List Int} (h : IsRow k w a l c zs) (hb : Below B w w') (ha : Apart a zs B) : IsRow k w' a l c zs := by
  rcases h with ⟨h1, h2, h3, h4⟩ | ⟨x, rfl, h2, h3, h4, h5, h6⟩
  · exact .inl ⟨h1, h2, h3, h4⟩
  · exact .inr ⟨x, rfl, h2, h3, h4, fun i hi => by rw [hb.cell (p := x.add i) (by rw [add_block]; exact ha x rfl (by omega))]; exact h5 i hi, h6⟩

theorem IsRow.len_le {k : IntKind} {w : World} {a : Option Addr} {l c : Nat} {zs : List Int} (h : IsRow k w a l c zs) : l ≤ zs.length ∧ l ≤ c ∧ c ≤ maxLen := by
  rcases h with ⟨_, rfl, rfl, rfl⟩ | ⟨x, _, h2, h3, h4, _, _⟩
  · exact ⟨Nat.zero_le _, Nat.zero_le _, Nat.zero_le _⟩
  · exact ⟨by omega, h2, h3⟩

theorem block_lt {w : World} {p : Addr} {v : Value} (h : w.cell? p = some v) : p.block < w.heap.size := by
  by_cases hb : p.block < w.heap.size
  · exact hb
  · exfalso
    have : w.heap[p.block]? = none := by simp; omega
    simp [World.cell?, this] at h

theorem IsRow.apart {k : IntKind} {w : World} {a : Option Addr} {l c : Nat} {zs : List Int} (h : IsRow k w a l c zs) : Apart a zs w.heap.size := by
  rcases h with ⟨rfl, _, _, _⟩ | ⟨x, rfl, h2, h3, h4, h5, h6⟩
  · intro x hx; simp at hx
  · intro y hy hp
    obtain rfl : x = y := by simpa using hy
    have := block_lt (h5 0 hp)
    rwa [add_block] at this

theorem Apart.mono {a : Option Addr} {zs : List Int} {B C : Nat} (h : Apart a zs B) (hc : B ≤ C) : Apart a zs C := fun x hx hp => Nat.lt_of_lt_of_le (h x hx hp) hc

theorem ret_bool {a b : Bool} (h : a = b) : Ending.returned (.bool a) = .returned (.bool b) := by rw [h]

theorem ret_int {k : IntKind} {a b : Int} (h : a = b) : Ending.returned (.int k a) = .returned (.int k b) := by rw [h]

theorem ret_ii {a b c d : Int} (h : a = c) (g : b = d) : Ending.returned (.tuple #[.int .i64 a, .int .i64 b]) = .returned (.tuple #[.int .i64 c, .int .i64 d]) := by rw [h, g]

end Go.Proofs.YtdlfofdibooidaaGreat

/- The small functions of chapter 1 that compute with numbers (ranges, rounding): what each of their calls returns, and that it leaves memory as it was. | Lists of integers that are only read: sums, ranges, equality; what each call returns. | DivideDown, DivideUp and PerMille of the program and of its model: what each call returns, one Lean function for both. | CommonFactor of the program and of its model: what each call returns (the greatest common divisor), one Lean function for both. -/
namespace Go.Proofs.YtdlfofdibooidaaGreat
open Go.ChangeShapes Go.WideShapes Go.ChangeAt Go.RowKit
set_option linter.unusedVariables false


/-! ### plain numbers -/

theorem down_of (a b : Int) (hb : 1 ≤ b) : (a.tmod b < 0 → a.tdiv b - 1 = a / b) ∧ (¬ a.tmod b < 0 → a.tdiv b = a / b) := by
  have h1 := Int.mul_tdiv_add_tmod a b
  have h2 := Int.mul_ediv_add_emod a b
  have h3 := Int.emod_nonneg a (show b ≠ 0 by omega)
  have h4 := Int.emod_lt_of_pos a (show 0 < b by omega)
  have h5 : a.tmod b < b := Int.tmod_lt_of_pos a (by omega)
  have h6 : -b < a.tmod b := by
    have := Int.tmod_lt_of_pos (-a) (show 0 < b by omega)
    rw [Int.neg_tmod] at this; omega
  constructor
  · intro h
    have e : b * (a.tdiv b - 1 - a / b) = a % b - a.tmod b - b := by rw [Int.mul_sub, Int.mul_sub]; omega
    have l : a.tdiv b - 1 - a / b < 1 := by
      refine Int.lt_of_mul_lt_mul_left (a := b) ?_ (by omega); omega
    have g : -1 < a.tdiv b - 1 - a / b := by
      refine Int.lt_of_mul_lt_mul_left (a := b) ?_ (by omega); omega
    omega
  · intro h
    have e : b * (a.tdiv b - a / b) = a % b - a.tmod b := by rw [Int.mul_sub]; omega
    have l : a.tdiv b - a / b < 1 := by
      refine Int.lt_of_mul_lt_mul_left (a := b) ?_ (by omega); omega
    have g : -1 < a.tdiv b - a / b := by
      refine Int.lt_of_mul_lt_mul_left (a := b) ?_ (by omega); omega
    omega

theorem div_bd (a b M : Int) (hb : 1 ≤ b) (hM : 0 ≤ M) (h1 : -M ≤ a) (h2 : a ≤ M) : -M ≤ a / b ∧ a / b ≤ M := by
  constructor
  · rw [Int.le_ediv_iff_mul_le (by omega)]
    have : M * 1 ≤ M * b := Int.mul_le_mul_of_nonneg_left hb hM
    rw [Int.neg_mul]; omega
  · have := Int.ediv_le_ediv (show 0 < b by omega) h2
    have := Int.ediv_le_self b hM
    omega

theorem tdiv_bd (a b M : Int) (hb : 1 ≤ b) (hM : 0 ≤ M) (h1 : -M ≤ a) (h2 : a ≤ M) : -M ≤ a.tdiv b ∧ a.tdiv b ≤ M := by
  have h := Int.natAbs_tdiv_le_natAbs a b
  omega

/-! ### the walks -/

/-- whether a number lies in a range -/
def inB (n lo hi : Int) : Bool := decide (lo ≤ n) && decide (n ≤ hi)

theorem inB_t {n lo hi : Int} (h1 : lo ≤ n) (h2 : n ≤ hi) : inB n lo hi = true := by simp [inB, h1, h2]

theorem inB_f {n lo hi : Int} (h : ¬ (lo ≤ n ∧ n ≤ hi)) : inB n lo hi = false := by
  unfold inB; rw [Bool.eq_false_iff]; intro hh; simp at hh; exact h hh

theorem inB_iff (n lo hi : Int) : inB n lo hi = true ↔ lo ≤ n ∧ n ≤ hi := by simp [inB]

/-- whether a number is money -/
def monB (n : Int) : Bool := inB n (-1000000000000) 1000000000000

theorem monB_iff (n : Int) : monB n = true ↔ -1000000000000 ≤ n ∧ n ≤ 1000000000000 := inB_iff _ _ _

theorem in_any (n lo hi : Int) (w : World) : Calls Tryz.prog 82 #[.int .i64 n, .int .i64 lo, .int .i64 hi] w fun e w' => e = .returned (.bool (inB n lo hi)) ∧ w = w' := by
  by_cases h1 : lo ≤ n
  all_goals
    go_enter Tryz.func82, Tryz.ntmps82
    go_wp2
    go_ret
    exact ⟨ret_bool (by simp [inB]; omega), rfl⟩

theorem within_any (n lo hi : Int) (w : World) : Calls Tryz.prog 87 #[.int .i64 n, .int .i64 lo, .int .i64 hi] w fun e w' => e = .returned (.bool (inB n lo hi)) ∧ w = w' := by
  by_cases h1 : lo ≤ n
  all_goals
    go_enter Tryz.func87, Tryz.ntmps87
    go_wp2
    go_ret
    exact ⟨ret_bool (by simp [inB]; omega), rfl⟩

theorem partDown_any (m q b : Int) (w : World) (h1 : -1000000000000 ≤ m) (h2 : m ≤ 1000000000000) (h3 : 0 ≤ q) (h4 : q ≤ 1000) (h5 : 1 ≤ b) : Calls Tryz.prog 96 #[.int .i64 m, .int .i64 q, .int .i64 b] w fun e w' => e = .returned (.int .i64 (m * q / b)) ∧ w = w' := by
  have hp1 : -1000000000000000 ≤ m * q := by
    have := Int.mul_le_mul_of_nonneg_right h1 h3; omega
  have hp2 : m * q ≤ 1000000000000000 := by
    have := Int.mul_le_mul_of_nonneg_right h2 h3; omega
  have hd := down_of (m * q) b h5
  obtain ⟨hb1, hb2⟩ := tdiv_bd (m * q) b 1000000000000000 h5 (by omega) hp1 hp2
  obtain ⟨d1, d2⟩ := hd
  have D1 := Lib.hid d1
  have D2 := Lib.hid d2
  clear d1 d2
  by_cases hlt : (m * q).tmod b < 0
  all_goals
    go_enter Tryz.func96, Tryz.ntmps96
    go_wp2
    go_ret
  · exact ⟨ret_int (D1.out hlt), rfl⟩
  · exact ⟨ret_int (D2.out (by omega)), rfl⟩

theorem partUp_any (m q b : Int) (w : World) (h1 : -1000000000000 ≤ m) (h2 : m ≤ 1000000000000) (h3 : 0 ≤ q) (h4 : q ≤ 1000) (h5 : 1 ≤ b) : Calls Tryz.prog 90 #[.int .i64 m, .int .i64 q, .int .i64 b] w fun e w' => e = .returned (.int .i64 (-(-m * q / b))) ∧ w = w' := by
  have hp1 : -1000000000000000 ≤ -m * q := by
    have := Int.mul_le_mul_of_nonneg_right (show -1000000000000 ≤ -m by omega) h3; omega
  have hp2 : -m * q ≤ 1000000000000000 := by
    have := Int.mul_le_mul_of_nonneg_right (show -m ≤ 1000000000000 by omega) h3; omega
  obtain ⟨hb1, hb2⟩ := div_bd (-m * q) b 1000000000000000 h5 (by omega) hp1 hp2
  go_enter Tryz.func90, Tryz.ntmps90
  go_wp2_with (go_at_call 96; refine (partDown_any _ _ _ _ (by omega) (by omega) h3 h4 h5).mono ?_; rintro e w' ⟨rfl, rfl⟩)
  go_ret
  exact ⟨rfl, rfl⟩

theorem down_any (a b : Int) (w : World) (h1 : -1000000000000000 ≤ a) (h2 : a ≤ 1000000000000000) (h5 : 1 ≤ b) : Calls Tryz.prog 118 #[.int .i64 a, .int .i64 b] w fun e w' => e = .returned (.int .i64 (a / b)) ∧ w = w' := by
  obtain ⟨hb1, hb2⟩ := tdiv_bd a b 1000000000000000 h5 (by omega) h1 h2
  obtain ⟨d1, d2⟩ := down_of a b h5
  have D1 := Lib.hid d1
  have D2 := Lib.hid d2
  clear d1 d2
  by_cases hlt : a.tmod b < 0
  all_goals
    go_enter Tryz.func118, Tryz.ntmps118
    go_wp2
    go_ret
  · exact ⟨ret_int (D1.out hlt), rfl⟩
  · exact ⟨ret_int (D2.out (by omega)), rfl⟩

theorem up_any (a b : Int) (w : World) (h1 : -1000000000000000 ≤ a) (h2 : a ≤ 1000000000000000) (h5 : 1 ≤ b) : Calls Tryz.prog 86 #[.int .i64 a, .int .i64 b] w fun e w' => e = .returned (.int .i64 (-(-a / b))) ∧ w = w' := by
  obtain ⟨hb1, hb2⟩ := div_bd (-a) b 1000000000000000 h5 (by omega) (by omega) (by omega)
  go_enter Tryz.func86, Tryz.ntmps86
  go_wp2_with (go_at_call 118; refine (down_any _ _ _ (by omega) (by omega) h5).mono ?_; rintro e w' ⟨rfl, rfl⟩)
  go_ret
  exact ⟨rfl, rfl⟩

/-- The slice (a, l) holds the numbers xs. -/
structure Ints (w : World) (a : Option Addr) (l : Nat) (xs : List Int) : Prop where
  len : xs.length = l
  max : l ≤ 4611686018427387904
  cells : l = 0 ∨ ∃ b off, a = some ⟨b, off, none⟩ ∧ ∀ i, i < l → w.cell? ⟨b, off + i, none⟩ = some (.int .i64 (xs.getD i 0))

theorem Ints.below {w w' : World} {a : Option Addr} {l B : Nat} {xs : List Int} (h : Ints w a l xs) (hb : Below B w w') (hB : ∀ x, a = some x → 0 < l → x.block < B) : Ints w' a l xs := by
  refine ⟨h.len, h.max, ?_⟩
  rcases h.cells with h0 | ⟨b, off, rfl, hc⟩
  · exact .inl h0
  · by_cases hz : l = 0
    · exact .inl hz
    · exact .inr ⟨b, off, rfl, fun i hi => by rw [hb.cell (p := ⟨b, off + i, none⟩) (hB ⟨b, off, none⟩ rfl (by omega))]; exact hc i hi⟩

theorem Ints.drewN {w : World} {a : Option Addr} {l : Nat} {xs : List Int} (h : Ints w a l xs) (n : Nat) : Ints (w.drewN n) a l xs := ⟨h.len, h.max, h.cells⟩

/-- where its cells lie, there are blocks -/
theorem Ints.lt {w : World} {a : Option Addr} {l : Nat} {xs : List Int} (h : Ints w a l xs) : ∀ x, a = some x → 0 < l → x.block < w.heap.size := by
  intro x hx hl
  rcases h.cells with h0 | ⟨b, off, rfl, hc⟩
  · omega
  · obtain rfl : (⟨b, off, none⟩ : Addr) = x := by simpa using hx
    exact block_lt (p := ⟨b, off + 0, none⟩) (hc 0 hl)

theorem IsRow.ints {w : World} {a : Option Addr} {l c : Nat} {zs : List Int} (h : IsRow .i64 w a l c zs) (hl : l ≤ 4611686018427387904) : Ints w a l (zs.take l) := by
  rcases h with ⟨rfl, rfl, rfl, rfl⟩ | ⟨x, rfl, h2, h3, h4, h5, h6⟩
  · exact ⟨rfl, hl, .inl rfl⟩
  · refine ⟨by simp; omega, hl, ?_⟩
    by_cases hz : l = 0
    · exact .inl hz
    · obtain ⟨b, off, rfl, hc⟩ := ints_at h5 (by omega)
      refine .inr ⟨b, off, rfl, fun i hi => ?_⟩
      rw [hc i (by omega)]
      simp [List.getD, hi]

/-! ### plain lists -/

theorem sum_snoc (xs : List Int) (k : Nat) (h : k < xs.length) : (xs.take (k + 1)).sum = (xs.take k).sum + xs.getD k 0 := by
  rw [List.take_add_one, List.sum_append]
  simp [List.getD, List.getElem?_eq_getElem h]

theorem sum_bd (M : Int) (hM : 0 ≤ M) : ∀ (xs : List Int), (∀ x ∈ xs, -M ≤ x ∧ x ≤ M) → -(xs.length * M) ≤ xs.sum ∧ xs.sum ≤ xs.length * M := by
  intro xs
  induction xs with
  | nil => intro _; simp
  | cons x r ih =>
    intro h
    obtain ⟨h1, h2⟩ := ih fun y hy => h y (List.mem_cons_of_mem _ hy)
    obtain ⟨h3, h4⟩ := h x List.mem_cons_self
    rw [List.sum_cons, List.length_cons]
    have e : ((r.length + 1 : Nat) : Int) * M = r.length * M + M := by rw [Int.natCast_add, Int.add_mul]; simp
    omega

theorem sum_take_bd (M : Int) (hM : 0 ≤ M) (xs : List Int) (k n : Nat) (hn : xs.length ≤ n) (h : ∀ x ∈ xs.take k, -M ≤ x ∧ x ≤ M) : -(n * M) ≤ (xs.take k).sum ∧ (xs.take k).sum ≤ n * M := by
  obtain ⟨h1, h2⟩ := sum_bd M hM (xs.take k) h
  have hl : (xs.take k).length ≤ n := Nat.le_trans (List.length_take_le' _ _) hn
  have : ((xs.take k).length : Int) * M ≤ n * M := Int.mul_le_mul_of_nonneg_right (by omega) hM
  omega

theorem all_snoc (p : Int → Bool) (xs : List Int) (k : Nat) (h : k < xs.length) : (xs.take (k + 1)).all p = ((xs.take k).all p && p (xs.getD k 0)) := by
  rw [List.take_add_one, List.all_append]
  simp [List.getD, List.getElem?_eq_getElem h]

theorem all_take (p : Int → Bool) (xs : List Int) (k : Nat) (h : p (xs.getD k 0) = false) (hk : k < xs.length) : xs.all p = false := by
  rw [List.all_eq_false]
  refine ⟨xs[k], List.getElem_mem hk, ?_⟩
  simpa [List.getD, List.getElem?_eq_getElem hk] using h

/-! ### the walks -/

theorem inAll_any (xs : List Int) (a : Option Addr) (l c : Nat) (most lo hi : Int) (w : World) (h : Ints w a l xs) :
    Calls Tryz.prog 144 #[.slice a l c, .int .i64 most, .int .i64 lo, .int .i64 hi] w fun e w' => e = .returned (.bool (xs.all (fun x => inB x lo hi) && decide ((l : Int) ≤ most))) ∧ w = w' := by
  have hm := h.max
  have hl := Lib.hid h.len
  have H := Lib.hid h
  clear h
  go_enter Tryz.func144, Tryz.ntmps144
  go_wp2_with fail
  go_loop [9] (fun i => ∃ k : Nat, k ≤ l ∧ i = .int .i64 k ∧ Hid ((xs.take k).all (fun x => inB x lo hi) = true)) (fun i => l - (intOf i).toNat)
  case atStart => exact ⟨0, Nat.zero_le _, rfl, Lib.hid (by simp)⟩
  case round =>
    obtain ⟨k, hk, rfl, HA⟩ := hrel
    by_cases hlt : k < l
    · rcases H.out.cells with h0 | ⟨b, off, rfl, hc⟩
      · omega
      have hx := hc k hlt
      obtain ⟨v, hv⟩ : ∃ v, xs.getD k 0 = v := ⟨_, rfl⟩
      rw [hv] at hx
      have HV := Lib.hid hv
      have HC := Lib.hid hc
      clear hv hc
      by_cases hin : inB v lo hi = true
      · go_wp2_with (go_at_call 82; refine (in_any _ _ _ _).mono ?_; rintro e w' ⟨rfl, rfl⟩)
        go_round
        case rel => exact ⟨k + 1, by omega, by go_num, Lib.hid (by rw [all_snoc _ _ _ (by rw [hl.out]; exact hlt), HA.out, HV.out, hin]; rfl)⟩
        case measure => simp [intOf]; omega
      · go_wp2_with (go_at_call 82; refine (in_any _ _ _ _).mono ?_; rintro e w' ⟨rfl, rfl⟩)
        go_ret
        exact ⟨ret_bool (by rw [all_take _ xs k (by rw [HV.out]; simpa using hin) (by rw [hl.out]; exact hlt)]; rfl), rfl⟩
    · go_wp2_with fail
      go_ret
      obtain rfl : k = l := by omega
      have e : xs.take k = xs := List.take_of_length_le (by rw [hl.out]; exact Nat.le_refl _)
      have HA' := HA.out
      rw [e] at HA'
      exact ⟨ret_bool (by rw [HA']; rfl), rfl⟩

def ddB (a b : Int) : Bool := monB a && inB b 1 1000000000

def ddV (a b : Int) : Int := if ddB a b then a / b else 0

def ddE (a b : Int) : Int := if ddB a b then 0 else 2

def duV (a b : Int) : Int := if ddB a b then -(-a / b) else 0

def pmB (a r : Int) : Bool := monB a && inB r 0 1000

def pmV (a r : Int) : Int := if pmB a r then a * r / 1000 else 0

def pmE (a r : Int) : Int := if pmB a r then 0 else 2

theorem ddB_iff (a b : Int) : ddB a b = true ↔ (-1000000000000 ≤ a ∧ a ≤ 1000000000000) ∧ (1 ≤ b ∧ b ≤ 1000000000) := by
  unfold ddB; rw [Bool.and_eq_true, monB_iff, inB_iff]

theorem pmB_iff (a r : Int) : pmB a r = true ↔ (-1000000000000 ≤ a ∧ a ≤ 1000000000000) ∧ (0 ≤ r ∧ r ≤ 1000) := by
  unfold pmB; rw [Bool.and_eq_true, monB_iff, inB_iff]

def gcdI (a b : Int) : Int := ((Nat.gcd a.toNat b.toNat : Nat) : Int)

theorem gcdI_zero (a : Int) (h : 0 ≤ a) : gcdI a 0 = a := by unfold gcdI; simp; omega

theorem gcdI_step (a b : Int) (ha : 0 ≤ a) (hb : 0 < b) : gcdI b (a % b) = gcdI a b := by
  unfold gcdI
  obtain ⟨x, rfl⟩ := Int.eq_ofNat_of_zero_le ha
  obtain ⟨y, rfl⟩ := Int.eq_ofNat_of_zero_le (show 0 ≤ b by omega)
  have e : ((x : Int) % (y : Int)).toNat = x % y := by
    omega
  rw [e]
  simp only [Int.toNat_natCast]
  rw [Nat.gcd_comm y, ← Nat.gcd_rec, Nat.gcd_comm]

def cfB (a b : Int) : Bool := inB a 0 1000000000000 && inB b 0 1000000000000

def cfV (a b : Int) : Int := if cfB a b then gcdI a b else 0

def cfE (a b : Int) : Int := if cfB a b then 0 else 2

end Go.Proofs.YtdlfofdibooidaaGreat

/- sync.Once, one goroutine: the two calls that its slow road defers, and the lock, each a contract of its own. | Discounts: their plain facts, and the value of the program that holds all discounts of a rate, computed once. -/
namespace Go.Proofs.YtdlfofdibooidaaGreat
open Go.ChangeShapes Go.WideShapes Go.ChangeAt Go.RowKit
set_option linter.unusedVariables false
set_option maxRecDepth 100000

theorem on_disable (w : World) : (callFunc 153 #[]).run Tryz.prog w = .ok (.value (.tuple #[])) w := run_call_mark0 Tryz.func153 (by kernel_rfl) (by kernel_rfl) (by kernel_rfl) .disable (by kernel_rfl) w

theorem on_enable (w : World) : (callFunc 155 #[]).run Tryz.prog w = .ok (.value (.tuple #[])) w := run_call_mark0 Tryz.func155 (by kernel_rfl) (by kernel_rfl) (by kernel_rfl) .enable (by kernel_rfl) w

theorem on_acquire (a : Addr) (w : World) : (callFunc 156 #[.pointer (some a)]).run Tryz.prog w = .ok (.value (.tuple #[])) w := run_call_marked Tryz.func156 (by kernel_rfl) (by kernel_rfl) (by kernel_rfl) .acquire (by kernel_rfl) a w

theorem on_merge (a : Addr) (w : World) : (callFunc 158 #[.pointer (some a)]).run Tryz.prog w = .ok (.value (.tuple #[])) w := run_call_marked Tryz.func158 (by kernel_rfl) (by kernel_rfl) (by kernel_rfl) .releaseMerge (by kernel_rfl) a w

/-- (*sync/atomic.Bool).Store(true), entered as a deferred call -/
theorem store_deferred (a : Addr) (x : Value) (u : FrameMode) (w : World) (hc : w.cell? a = some x) (hz : w.frozen? a = false) :
    CallsD Tryz.prog 148 #[.pointer (some a), .bool true] u w fun e u' w' => u' = u ∧ (e = .returned (.tuple #[]) ∧ w' = w.drew.setCell a (.int .u32 1)) := by
  have hc' : w.drew.cell? a = some x := by go_simp
  have hz' : w.drew.frozen? a = false := by go_simp
  have hst := run_call_store (P := Tryz.prog) Tryz.func151 (by kernel_rfl) (by kernel_rfl) (by kernel_rfl) (by kernel_rfl) (k := .u32) (y := 1) hc' hz'
  go_enter_d Tryz.func148, Tryz.ntmps148
  go_wp2
  go_region_calls
  all_goals (go_end0; exact ⟨rfl, rfl⟩)

/-- (*sync.Mutex).Unlock, entered as a deferred call, the lock held and nobody waiting -/
theorem unlock_deferred (a : Addr) (u : FrameMode) (w : World) (hc : w.cell? a = some (.int .i32 1)) (hz : w.frozen? a = false) :
    CallsD Tryz.prog 147 #[.pointer (some a)] u w fun e u' w' => u' = u ∧ (e = .returned (.tuple #[]) ∧ w' = w.setCell a (.int .i32 0)) := by
  have hd := on_disable
  have he := on_enable
  have hr := on_merge
  have hadd := run_call_add (P := Tryz.prog) Tryz.func159 (by kernel_rfl) (by kernel_rfl) (by kernel_rfl) .i32 (by kernel_rfl) (y := -1) (s := 0) hc hz (by simp [go_sem]; rfl)
  have hcv := run_convert_to_unsafe (P := Tryz.prog) (src := 196) (dst := 200) Tryz.underlying196 Tryz.underlying200 (by kernel_rfl) hc
  go_enter_d Tryz.func147, Tryz.ntmps147
  go_wp2
  go_end0
  go_wp2
  go_end0
  exact ⟨rfl, rfl⟩

/-- (*sync.Mutex).Lock, the lock free -/
theorem lock_free (a : Addr) (w : World) (hc : w.cell? a = some (.int .i32 0)) (hz : w.frozen? a = false) :
    Calls Tryz.prog 146 #[.pointer (some a)] w fun e w' => e = .returned (.tuple #[]) ∧ w' = w.setCell a (.int .i32 1) := by
  have hd := on_disable
  have he := on_enable
  have ha := on_acquire
  have hcas := run_call_cas_hit (P := Tryz.prog) Tryz.func154 (by kernel_rfl) (by kernel_rfl) (by kernel_rfl) .i32 (by kernel_rfl) (y := 1) hc hz
  have hc' : (w.setCell a (.int .i32 1)).cell? a = some (.int .i32 1) := World.cell?_setCell_same w a _ hc
  have hcv := run_convert_to_unsafe (P := Tryz.prog) (src := 196) (dst := 200) Tryz.underlying196 Tryz.underlying200 (by kernel_rfl) hc'
  go_enter Tryz.func146, Tryz.ntmps146
  go_wp2
  first | go_end0 | (simp only [Exit.inBlock, Exit.then]; refine bodyPost_ret (results_none rfl _ _ _) rfl ?_) | refine bodyPost_ret (results_none rfl _ _ _) rfl ?_
  go_wp2
  go_end0
  exact ⟨rfl, rfl⟩

/-- the discount of rate r after k years -/
def disc (r : Int) : Nat → Int
  | 0 => 1000000000
  | k + 1 => disc r k * 1000 / (1000 + r)

/-- the first n discounts -/
def discs (r : Int) (n : Nat) : List Int := (List.range n).map (disc r)

theorem disc_bd (r : Int) (h : 0 ≤ r) (k : Nat) : 0 ≤ disc r k ∧ disc r k ≤ 1000000000 := by
  induction k with
  | zero => simp [disc]
  | succ k ih =>
    obtain ⟨h1, h2⟩ := ih
    rw [disc]
    refine ⟨Int.ediv_nonneg (by omega) (by omega), ?_⟩
    have h4 : disc r k * 1000 / (1000 + r) ≤ disc r k := by
      rw [← Int.mul_ediv_cancel (disc r k) (show (1000 + r) ≠ 0 by omega)]
      refine Int.ediv_le_ediv (by omega) ?_
      rw [Int.mul_ediv_cancel _ (by omega)]
      exact Int.mul_le_mul_of_nonneg_left (by omega) h1
    omega

theorem disc_le (r : Int) (h : 0 ≤ r) (k : Nat) : disc r (k + 1) ≤ disc r k := by
  obtain ⟨h1, h2⟩ := disc_bd r h k
  rw [disc, ← Int.mul_ediv_cancel (disc r k) (show (1000 + r) ≠ 0 by omega)]
  refine Int.ediv_le_ediv (by omega) ?_
  rw [Int.mul_ediv_cancel _ (by omega)]
  exact Int.mul_le_mul_of_nonneg_left (by omega) h1

theorem disc_q (r : Int) (h : 0 ≤ r) (k : Nat) : IntKind.i64.wrap ((disc r k * 1000).tdiv (1000 + r)) = disc r (k + 1) := by
  obtain ⟨h1, h2⟩ := disc_bd r h k
  obtain ⟨h3, h4⟩ := disc_bd r h (k + 1)
  rw [Int.tdiv_eq_ediv_of_nonneg (by omega)]
  exact IntWalk.i64_in _ (by rw [disc] at h3 h4; omega)

theorem discs_len (r : Int) (n : Nat) : (discs r n).length = n := by simp [discs]

theorem discs_get (r : Int) (n k : Nat) (h : k < n) : (discs r n).getD k 0 = disc r k := by
  simp [discs, List.getD, h]

theorem discs_set (r : Int) (k : Nat) (xs : List Int) (h : k < xs.length) : (discs r k ++ xs.drop k).set k (disc r k) = discs r (k + 1) ++ xs.drop (k + 1) := by
  rw [List.set_append_right _ _ (by rw [discs_len]; omega), discs_len, Nat.sub_self, List.drop_eq_getElem_cons h, List.set_cons_zero]
  simp [discs, List.range_succ]

/-- the cells of the program's discounts: the rate, whether they are computed, the lock, the discounts -/
def dcells (r d m : Int) (xs : List Int) : Array Value := (([Value.int .i64 r, Value.int .u32 d, Value.int .i32 m, Value.int .u32 0] : List Value) ++ xs.map (Value.int .i64)).toArray

def DBX (w : World) (B : Nat) (r d m : Int) (xs : List Int) : Prop := w.heap[B]? = some (.cells (dcells r d m xs) 157 (0, 0))

theorem DBX.lt {w : World} {B : Nat} {r d m : Int} {xs : List Int} (h : DBX w B r d m xs) : B < w.heap.size := by
  unfold DBX at h
  by_cases hb : B < w.heap.size
  · exact hb
  · have : w.heap[B]? = none := by simp; omega
    rw [this] at h; cases h

theorem DBX.rate {w : World} {B : Nat} {r d m : Int} {xs : List Int} (h : DBX w B r d m xs) : w.cell? ⟨B, 0, none⟩ = some (.int .i64 r) := by
  unfold DBX at h
  simp [World.cell?, h, dcells]

theorem DBX.done {w : World} {B : Nat} {r d m : Int} {xs : List Int} (h : DBX w B r d m xs) : w.cell? ⟨B, 1, none⟩ = some (.int .u32 d) := by
  unfold DBX at h
  simp [World.cell?, h, dcells]

theorem DBX.lock {w : World} {B : Nat} {r d m : Int} {xs : List Int} (h : DBX w B r d m xs) : w.cell? ⟨B, 2, none⟩ = some (.int .i32 m) := by
  unfold DBX at h
  simp [World.cell?, h, dcells]

theorem DBX.at {w : World} {B : Nat} {r d m : Int} {xs : List Int} (h : DBX w B r d m xs) (k : Nat) (hk : k < xs.length) : w.cell? ⟨B, 4 + k, none⟩ = some (.int .i64 (xs.getD k 0)) := by
  unfold DBX at h
  rw [Nat.add_comm]
  simp [World.cell?, h, dcells, List.getD, hk]

theorem DBX.free {w : World} {B : Nat} {r d m : Int} {xs : List Int} (h : DBX w B r d m xs) (i : Nat) : w.frozen? ⟨B, i, none⟩ = false := by
  unfold DBX at h
  simp [World.frozen?, h]

theorem DBX.setDone {w : World} {B : Nat} {r d m : Int} {xs : List Int} (h : DBX w B r d m xs) (v : Int) : DBX (w.setCell ⟨B, 1, none⟩ (.int .u32 v)) B r v m xs := by
  have hl := h.lt
  unfold DBX at h ⊢
  rw [Array.getElem?_eq_getElem hl] at h
  have h' : w.heap[B] = .cells (dcells r d m xs) 157 (0, 0) := by simpa using h
  show (w.heap.modify B _)[B]? = _
  rw [Array.getElem?_modify, if_pos rfl, Array.getElem?_eq_getElem hl, h']
  simp [dcells]

theorem DBX.setLock {w : World} {B : Nat} {r d m : Int} {xs : List Int} (h : DBX w B r d m xs) (v : Int) : DBX (w.setCell ⟨B, 2, none⟩ (.int .i32 v)) B r d v xs := by
  have hl := h.lt
  unfold DBX at h ⊢
  rw [Array.getElem?_eq_getElem hl] at h
  have h' : w.heap[B] = .cells (dcells r d m xs) 157 (0, 0) := by simpa using h
  show (w.heap.modify B _)[B]? = _
  rw [Array.getElem?_modify, if_pos rfl, Array.getElem?_eq_getElem hl, h']
  simp [dcells]

theorem DBX.setAt {w : World} {B : Nat} {r d m : Int} {xs : List Int} (h : DBX w B r d m xs) (k : Nat) (v : Int) : DBX (w.setCell ⟨B, 4 + k, none⟩ (.int .i64 v)) B r d m (xs.set k v) := by
  have hl := h.lt
  unfold DBX at h ⊢
  rw [Array.getElem?_eq_getElem hl] at h
  have h' : w.heap[B] = .cells (dcells r d m xs) 157 (0, 0) := by simpa using h
  show (w.heap.modify B _)[B]? = _
  rw [Array.getElem?_modify, if_pos rfl, Array.getElem?_eq_getElem hl, h', Nat.add_comm]
  simp [dcells]

theorem DBX.drew {w : World} {B : Nat} {r d m : Int} {xs : List Int} (h : DBX w B r d m xs) : DBX w.drew B r d m xs := h

theorem DBX.drewN {w : World} {B : Nat} {r d m : Int} {xs : List Int} (h : DBX w B r d m xs) (n : Nat) : DBX (w.drewN n) B r d m xs := h

def CompPost (B : Nat) (r d m : Int) (w : World) (e : Ending) (w' : World) : Prop := e = .returned (.tuple #[]) ∧ DBX w' B r d m (discs r 121) ∧ Only B w w'

theorem compute_any (B : Nat) (r d m : Int) (xs : List Int) (w : World) (hx : xs.length = 121) (h : DBX w B r d m xs) (h0 : 0 ≤ r) (h1 : r ≤ 200) :
    Calls Tryz.prog 136 #[.pointer (some ⟨B, 0, none⟩)] w (CompPost B r d m w) := by
  have H := Lib.hid h
  have HX := Lib.hid hx
  clear h hx
  go_enter Tryz.func136, Tryz.ntmps136
  go_wp2_with fail
  go_loopw [2, 4] (fun v i wr => ∃ k : Nat, k ≤ 121 ∧ i = .int .i64 k ∧ v = .int .i64 (disc r k) ∧ Hid (DBX wr B r d m (discs r k ++ xs.drop k)) ∧ Hid (Only B w wr)) (fun _ i _ => 121 - (intOf i).toNat)
  case atStart => exact ⟨0, by omega, rfl, rfl, Lib.hid (by simpa [discs] using H.out), Lib.hid (Only.refl _ _)⟩
  case round =>
    obtain ⟨k, hk, rfl, rfl, HB, HO⟩ := hrel
    by_cases hlt : k < 121
    · have hr := HB.out.rate
      have hy := HB.out.at k (by rw [List.length_append, discs_len, List.length_drop, HX.out]; omega)
      have hf := HB.out.free (4 + k)
      obtain ⟨u, hu⟩ : ∃ u, (discs r k ++ xs.drop k).getD k 0 = u := ⟨_, rfl⟩
      rw [hu] at hy
      clear hu
      obtain ⟨b1, b2⟩ := disc_bd r h0 k
      have hq := disc_q r h0 k
      obtain ⟨D, hD⟩ : ∃ D, disc r k = D := ⟨_, rfl⟩
      rw [hD] at b1 b2 hq ⊢
      have HD := Lib.hid hD
      clear hD
      have hB := HB.out.setAt k D
      have hr2 := hB.rate
      have HB2 := Lib.hid hB
      clear hB
      go_wp2_with fail
      go_roundw
      case rel => exact ⟨k + 1, by omega, by go_num, by first | rfl | go_num, Lib.hid (by have := HB2.out; rw [← HD.out, discs_set r k xs (by rw [HX.out]; exact hlt), HD.out] at this; exact this), Lib.hid (HO.out.setCell (p := ⟨B, 4 + k, none⟩) rfl _)⟩
      case measure => simp [intOf]; omega
    · go_wp2_with fail
      go_end0
      obtain rfl : k = 121 := by omega
      have hb := HB.out
      rw [List.drop_of_length_le (by rw [HX.out]; omega), List.append_nil] at hb
      exact ⟨rfl, hb, HO.out⟩

/-- what is left behind: the discounts of the block are computed; nothing else has turned -/
def OncePost (B : Nat) (r : Int) (w : World) (e : Ending) (w' : World) : Prop := e = .returned (.tuple #[]) ∧ DBX w' B r 1 0 (discs r 121) ∧ Only B w w'

theorem slow_any (B : Nat) (r : Int) (xs : List Int) (w : World) (hx : xs.length = 121) (h : DBX w B r 0 0 xs) (h0 : 0 ≤ r) (h1 : r ≤ 200) :
    Calls Tryz.prog 142 #[.pointer (some ⟨B, 1, none⟩), .func (.func 136) #[.pointer (some ⟨B, 0, none⟩)] #[]] w (OncePost B r w) := by
  have H := Lib.hid h
  have H1 := Lib.hid (h.setLock 1)
  have hl := run_call_load (P := Tryz.prog) Tryz.func145 (by kernel_rfl) (by kernel_rfl) (by kernel_rfl) .u32 (by kernel_rfl) (h.setLock 1).done
  have hnot : ∀ (x : Bool) (w : World), (Op.unary .not (.bool x)).run Tryz.prog w = .ok (.bool (!x)) w := fun _ _ => rfl
  have hk := h.lock
  have hz := h.free 2
  clear h
  go_enter_defers Tryz.func142, Tryz.ntmps142
  go_wp2_with (first | (go_at_call 146; refine (lock_free ⟨B, 2, none⟩ _ hk hz).mono ?_; rintro e w' ⟨rfl, rfl⟩) | (go_at_call 141; go_in) | (go_at_call 136; refine (compute_any B r 0 1 xs _ hx H1.out h0 h1).mono ?_; rintro e w2 ⟨rfl, hb, ho⟩))
  have HB := Lib.hid hb
  have HO := Lib.hid (((Only.refl B w).setCell (p := ⟨B, 2, none⟩) rfl (.int .i32 1)).trans ho)
  clear hb ho
  refine leaves_cons (f := 148) (args := #[.pointer (some ⟨B, 1, none⟩), .bool true]) (by simp) (by simp [go_sem]) ?_
  refine (store_deferred ⟨B, 1, none⟩ (.int .u32 0) .returning _ HB.out.done (HB.out.free 1)).mono ?_
  rintro e u' w'' ⟨rfl, rfl, rfl⟩
  refine leaves_cons (f := 147) (args := #[.pointer (some ⟨B, 2, none⟩)]) (by simp [settle]) (by simp [go_sem]) ?_
  refine (unlock_deferred ⟨B, 2, none⟩ _ _ (HB.out.drew.setDone 1).lock ((HB.out.drew.setDone 1).free 2)).mono ?_
  rintro e u' w'' ⟨rfl, rfl, rfl⟩
  have HF := Lib.hid ((HB.out.drew.setDone 1).setLock 0)
  have HG := Lib.hid ((HO.out.drew.setCell (p := ⟨B, 1, none⟩) rfl (.int .u32 1)).setCell (p := ⟨B, 2, none⟩) rfl (.int .i32 0))
  simp only [Leaves, settle, results, Tryz.results142]
  exact ⟨_, by simp, rfl, HF.out, HG.out⟩

theorem do_any (B : Nat) (r d : Int) (xs : List Int) (w : World) (hx : xs.length = 121) (h : DBX w B r d 0 xs) (hd : d = 0 ∨ d = 1 ∧ xs = discs r 121) (h0 : 0 ≤ r) (h1 : r ≤ 200) :
    Calls Tryz.prog 135 #[.pointer (some ⟨B, 1, none⟩), .func (.func 136) #[.pointer (some ⟨B, 0, none⟩)] #[]] w (OncePost B r w) := by
  have hl := run_call_load (P := Tryz.prog) Tryz.func145 (by kernel_rfl) (by kernel_rfl) (by kernel_rfl) .u32 (by kernel_rfl) h.done
  have hnot : ∀ (x : Bool) (w : World), (Op.unary .not (.bool x)).run Tryz.prog w = .ok (.bool (!x)) w := fun _ _ => rfl
  have H := Lib.hid h
  clear h
  rcases hd with rfl | ⟨rfl, hd⟩
  · go_enter Tryz.func135, Tryz.ntmps135
    go_wp2_with (first | (go_at_call 142; refine (slow_any B r xs _ hx H.out h0 h1).mono ?_; rintro e w2 ⟨rfl, hb, ho⟩) | (go_at_call 141; go_in))
    go_end0
    exact ⟨rfl, hb, ho⟩
  · have HD := Lib.hid hd
    clear hd
    have hn : ((1 : Int) != 0) = true := rfl
    go_enter Tryz.func135, Tryz.ntmps135
    go_wp2
    go_end0
    exact ⟨rfl, HD.out ▸ H.out, Only.refl _ _⟩

/-- block B holds the discounts of rate r, computed or not yet -/
def DB (w : World) (B : Nat) (r : Int) : Prop := ∃ (d : Int) (xs : List Int), xs.length = 121 ∧ DBX w B r d 0 xs ∧ (d = 0 ∨ d = 1 ∧ xs = discs r 121)

def AfterPost (B : Nat) (r v : Int) (w : World) (e : Ending) (w' : World) : Prop := e = .returned (.int .i64 v) ∧ DB w' B r ∧ Only B w w'

theorem after_any (B : Nat) (r : Int) (k : Nat) (w : World) (h : DB w B r) (h0 : 0 ≤ r) (h1 : r ≤ 200) (hk : k ≤ 120) :
    Calls Tryz.prog 124 #[.pointer (some ⟨B, 0, none⟩), .int .i64 k] w (AfterPost B r (disc r k) w) := by
  obtain ⟨d, xs, hx, hb, hd⟩ := h
  have H := Lib.hid hb
  clear hb
  have hmf : ∀ (fn : Fn) (first cap : Array Value) (w : World), (Instr.makeFunc fn first cap).run Tryz.prog w = .ok (.func fn first cap) w := fun _ _ _ _ => rfl
  go_enter Tryz.func124, Tryz.ntmps124
  go_wp2_with fail
  refine (do_any B r d xs _ hx H.out hd h0 h1).mono ?_
  rintro e w2 ⟨rfl, hb, ho⟩
  have hy := hb.at k (by rw [discs_len]; omega)
  rw [discs_get r 121 k (by omega)] at hy
  have HB := Lib.hid hb
  have HO := Lib.hid ho
  clear hb ho
  obtain ⟨D, hD⟩ : ∃ D, disc r k = D := ⟨_, rfl⟩
  rw [hD] at hy
  have HD := Lib.hid hD
  clear hD
  go_wp2
  go_ret
  exact ⟨ret_int HD.out.symm, ⟨1, discs r 121, discs_len r 121, HB.out, .inr ⟨rfl, rfl⟩⟩, HO.out⟩

end Go.Proofs.YtdlfofdibooidaaGreat
