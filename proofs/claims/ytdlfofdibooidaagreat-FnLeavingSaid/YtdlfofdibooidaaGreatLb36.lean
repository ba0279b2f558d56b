/- Merged: Dec, MonT, Ages. -/
import Derived.Test.YtdlfofdibooidaaGreatLb1
import Derived.Test.YtdlfofdibooidaaGreatLb5
import Derived.Lib.ItoaLen
import Derived.ShutString
import Derived.Lib.SmallJoins
import Derived.Lib.AppendIntMem
import Derived.Laws.IdiomStrings
import Derived.Deep.RegionWith

/- Decimals of the model. -/
namespace Go.Proofs.YtdlfofdibooidaaGreat
open Go.ChangeShapes Go.WideShapes Go.ChangeAt Go.RowKit
set_option linter.unusedVariables false

theorem ret_str {a b : ByteArray} (h : a.data.toList = b.data.toList) : Ending.returned (.string a) = .returned (.string b) := by
  obtain ⟨⟨a⟩⟩ := a
  obtain ⟨⟨b⟩⟩ := b
  simp at h
  rw [h]

theorem itoa_nat (u : Nat) : Lib.itoa (u : Int) = Lib.decDigits u := Lib.itoa_nonneg u

theorem dec_small (u : Nat) (h : u < 10) : Lib.decDigits u = [UInt8.ofNat (48 + u)] := by rw [Lib.decDigits, dif_pos h]

theorem dec_big (u : Nat) (h : ¬ u < 10) : Lib.decDigits u = Lib.decDigits (u / 10) ++ [UInt8.ofNat (48 + u % 10)] := by rw [Lib.decDigits, dif_neg h]

theorem dec_len (u : Nat) (h : u ≤ 9223372036854775807) : (Lib.decDigits u).length ≤ 21 := by
  have := Lib.itoa_length_le (u : Int) (by omega) (by omega)
  rwa [itoa_nat] at this

/-- 'string([]byte{v})' of a new block -/
theorem conv_one (v : Int) (h0 : 0 ≤ v) (h1 : v ≤ 255) (w : World) :
    (convert 22 9 (.slice (some ⟨w.heap.size, 0, none⟩) 1 1)).run Tryz.prog (w.alloc (.cells #[.int .u8 v] 5)) = .ok (.string ⟨#[UInt8.ofNat v.toNat]⟩) (w.alloc (.cells #[.int .u8 v] 5)) := by
  have h := run_convert_bytes_back (P := Tryz.prog) (w.alloc (.cells #[.int .u8 v] 5)) 22 9 5 ⟨w.heap.size, 0, none⟩ 1 [UInt8.ofNat v.toNat] Tryz.underlying22 Tryz.underlying5 Tryz.underlying9 (by
    intro j hj
    have hj0 : j = 0 := by simpa using hj
    subst hj0
    rw [show (⟨w.heap.size, 0, none⟩ : Addr).add 0 = ⟨w.heap.size, 0, none⟩ by simp [Addr.add], World.cell?_alloc_new]
    simp; omega)
  simpa using h

/-- .. of a block that lies there -/
theorem conv_at (B : Nat) (v : Int) (h0 : 0 ≤ v) (h1 : v ≤ 255) (w : World) (hc : w.cell? ⟨B, 0, none⟩ = some (.int .u8 v)) :
    (convert 22 9 (.slice (some ⟨B, 0, none⟩) 1 1)).run Tryz.prog w = .ok (.string ⟨#[UInt8.ofNat v.toNat]⟩) w := by
  have h := run_convert_bytes_back (P := Tryz.prog) w 22 9 5 ⟨B, 0, none⟩ 1 [UInt8.ofNat v.toNat] Tryz.underlying22 Tryz.underlying5 Tryz.underlying9 (by
    intro j hj
    have hj0 : j = 0 := by simpa using hj
    subst hj0
    rw [show (⟨B, 0, none⟩ : Addr).add 0 = ⟨B, 0, none⟩ by simp [Addr.add], hc]
    simp; omega)
  simpa using h

theorem dec_add (n : Int) (h : 0 ≤ n) : (48 + n).toNat = 48 + n.toNat := by omega

theorem dec_div (n : Int) : (n / 10).toNat = n.toNat / 10 := by omega

theorem dec_mod (n : Int) (h : 0 ≤ n) : (48 + n % 10).toNat = 48 + n.toNat % 10 := by omega

end Go.Proofs.YtdlfofdibooidaaGreat

/- The text of a month: what the program's and the model's functions return, one Lean function for both. -/
namespace Go.Proofs.YtdlfofdibooidaaGreat
open Go.ChangeShapes Go.WideShapes Go.ChangeAt Go.RowKit
set_option linter.unusedVariables false

/-- Block B holds just the bytes ys. -/
def Byt (w : World) (B : Nat) (ys : List Int) : Prop := ∃ T, w.heap[B]? = some (.cells (ys.map (Value.int .u8)).toArray T (0, 0))

theorem Byt.cell {w : World} {B : Nat} {ys : List Int} (h : Byt w B ys) (i : Nat) (hi : i < ys.length) : w.cell? ⟨B, i, none⟩ = some (.int .u8 (ys.getD i 0)) := by
  obtain ⟨T, h⟩ := h
  simp [World.cell?, h, List.getD, hi]

theorem Byt.free {w : World} {B : Nat} {ys : List Int} (h : Byt w B ys) (i : Nat) : w.frozen? ⟨B, i, none⟩ = false := by
  obtain ⟨T, h⟩ := h
  simp [World.frozen?, h]

theorem Byt.lt {w : World} {B : Nat} {ys : List Int} (h : Byt w B ys) : B < w.heap.size := by
  obtain ⟨T, h⟩ := h
  by_cases hb : B < w.heap.size
  · exact hb
  · have : w.heap[B]? = none := by simp; omega
    rw [this] at h; cases h

theorem Byt.set {w : World} {B : Nat} {ys : List Int} (h : Byt w B ys) (i : Nat) (v : Int) : Byt (w.setCell ⟨B, i, none⟩ (.int .u8 v)) B (ys.set i v) := by
  have hl := h.lt
  obtain ⟨T, h⟩ := h
  refine ⟨T, ?_⟩
  rw [Array.getElem?_eq_getElem hl] at h
  have h' : w.heap[B] = .cells (ys.map (Value.int .u8)).toArray T (0, 0) := by simpa using h
  show (w.heap.modify B _)[B]? = _
  rw [Array.getElem?_modify, if_pos rfl, Array.getElem?_eq_getElem hl, h']
  simp

theorem Byt.drewN {w : World} {B : Nat} {ys : List Int} (h : Byt w B ys) (n : Nat) : Byt (w.drewN n) B ys := h

theorem Byt.drew {w : World} {B : Nat} {ys : List Int} (h : Byt w B ys) : Byt w.drew B ys := h

/-- the last k digits of n, written from 'off' on -/
def put : List Int → Nat → Nat → Int → List Int
  | ys, _, 0, _ => ys
  | ys, off, k + 1, n => put (ys.set (off + k) (48 + n % 10)) off k (n / 10)

def PutPost (B : Nat) (zs : List Int) (w : World) (e : Ending) (w' : World) : Prop := e = .returned (.tuple #[]) ∧ Byt w' B zs ∧ Only B w w'

/-- the seven bytes of a month's text -/
def mtI (n : Int) : List Int := [48 + n / 12 / 1000 % 10, 48 + n / 12 / 100 % 10, 48 + n / 12 / 10 % 10, 48 + n / 12 % 10, 45, 48 + (n % 12 + 1) / 10 % 10, 48 + (n % 12 + 1) % 10]

theorem conv_byt (w : World) (B l : Nat) (ys : List Int) (h : Byt w B ys) (hl : ys.length = l) (hb : ∀ x ∈ ys, 0 ≤ x ∧ x ≤ 255) :
    (convert 22 9 (.slice (some ⟨B, 0, none⟩) l l)).run Tryz.prog w = .ok (.string ⟨(ys.map fun x => UInt8.ofNat x.toNat).toArray⟩) w := by
  have e := run_convert_bytes_back (P := Tryz.prog) w 22 9 5 ⟨B, 0, none⟩ l (ys.map fun x => UInt8.ofNat x.toNat) Tryz.underlying22 Tryz.underlying5 Tryz.underlying9 (by
    intro j hj
    simp at hj
    have hc := h.cell j hj
    have hm : ys.getD j 0 ∈ ys := by simp [List.getD, hj]
    have hr := hb _ hm
    have e1 : (ys.getD j 0) = ys[j] := by simp [List.getD, hj]
    rw [show (⟨B, 0, none⟩ : Addr).add j = ⟨B, j, none⟩ by simp [Addr.add]; omega, hc]
    rw [e1] at hr ⊢
    simp; omega)
  simpa [hl] using e

theorem put4 (y : Int) : put [0, 0, 0, 0, 45, 0, 0] 0 4 y = [48 + y / 10 / 10 / 10 % 10, 48 + y / 10 / 10 % 10, 48 + y / 10 % 10, 48 + y % 10, 45, 0, 0] := by
  simp [put]

theorem put2 (a b c d e : Int) (m : Int) : put [a, b, c, d, e, 0, 0] 5 2 m = [a, b, c, d, e, 48 + m / 10 % 10, 48 + m % 10] := by
  simp [put]

theorem mtI_eq (n : Int) : mtI n = [48 + n / 12 / 10 / 10 / 10 % 10, 48 + n / 12 / 10 / 10 % 10, 48 + n / 12 / 10 % 10, 48 + n / 12 % 10, 45, 48 + (n % 12 + 1) / 10 % 10, 48 + (n % 12 + 1) % 10] := by
  unfold mtI
  rw [show n / 12 / 1000 = n / 12 / 10 / 10 / 10 by omega, show n / 12 / 100 = n / 12 / 10 / 10 by omega]

theorem byt_new (w : World) (ys : List Int) (T : TypeId) : Byt (w.alloc (.cells (ys.map (Value.int .u8)).toArray T)) w.heap.size ys := by
  refine ⟨T, ?_⟩
  show (w.heap.push _)[w.heap.size]? = _
  simp

/-- what MonthText answers -/
def mtT (n : Int) : List UInt8 := if mthB n then (mtI n).map fun x => UInt8.ofNat x.toNat else []

theorem dig1 (x : Int) (h0 : 0 ≤ x) (h1 : x < 10) : Lib.decDigits x.toNat = [UInt8.ofNat (48 + x).toNat] := by
  rw [dec_small _ (by omega), show (48 + x).toNat = 48 + x.toNat by omega]

/-- the byte of a digit -/
def dgt (x : Int) : UInt8 := UInt8.ofNat (48 + x).toNat

theorem mtI_dgt (n : Int) (h0 : 0 ≤ n) (h1 : n ≤ 35999) : (mtI n).map (fun x => UInt8.ofNat x.toNat) = [dgt (n / 12 / 1000), dgt (n / 12 / 100 % 10), dgt (n / 12 / 10 % 10), dgt (n / 12 % 10), 45, dgt ((n % 12 + 1) / 10), dgt ((n % 12 + 1) % 10)] := by
  simp only [mtI, List.map_cons, List.map_nil]
  rw [show n / 12 / 1000 % 10 = n / 12 / 1000 by omega, show (n % 12 + 1) / 10 % 10 = (n % 12 + 1) / 10 by omega]
  rfl

end Go.Proofs.YtdlfofdibooidaaGreat

/- The law of chapter 2 on ages, over whatever the draws give. -/
namespace Go.Proofs.YtdlfofdibooidaaGreat
open Go.ChangeShapes Go.WideShapes Go.ChangeAt Go.RowKit
set_option linter.unusedVariables false

def PairPost (B : Nat) (a : Option Addr) (l c : Nat) (z : List Int) (w : World) (e : Ending) (w' : World) : Prop :=
  ∃ x y, e = .returned (.tuple #[.int .i64 x, .int .i64 y]) ∧ But B w w' ∧ Ready B a l c z w'

theorem big2_any (a : Option Addr) (l c : Nat) (w : World) : Calls Tryz.prog 11 #[.slice a l c] w fun e w' => e = .returned (.bool (decide (4096 < (l : Int)))) ∧ w = w' := by
  go_enter Tryz.func11, Tryz.ntmps11
  go_wp2
  go_ret
  exact ⟨rfl, rfl⟩

theorem fy_in (a b : Int) (h0 : 0 ≤ a) (h1 : a ≤ b) (h2 : b ≤ 35999) : fyE a b = 0 ∧ fyY a b = (b - a) / 12 ∧ fyM a b = (b - a) % 12 := by
  have e : fyE a b = 0 := by
    unfold fyE
    rw [if_pos ((mthB_iff _).2 ⟨h0, by omega⟩), if_pos ((mthB_iff _).2 ⟨by omega, h2⟩), if_neg (by omega)]
  exact ⟨e, by simp [fyY, e], by simp [fyM, e]⟩

theorem am_split (n k : Int) : (amE n k = 0 ∧ -36000 ≤ k ∧ k ≤ 36000 ∧ amV (amV n k) (-k) = n ∧ amE (amV n k) (-k) = 0) ∨ (amE n k == 0) = false := by
  by_cases h : amE n k = 0
  · left
    unfold amE amB at h
    split at h
    · next h1 =>
      rw [Bool.and_eq_true] at h1
      obtain ⟨n1, n2⟩ := (mthB_iff _).1 h1.1
      obtain ⟨k1, k2⟩ := (inB_iff _ _ _).1 h1.2
      split at h
      · next h2 =>
        have e : amV n k = n + k := by simp [amV, amB, h1, h2]
        have h3 : inB (-k) (-36000) 36000 = true := inB_t (by omega) (by omega)
        have h4 : n + k + -k = n := by omega
        refine ⟨by simp [amE, amB, h1, h2], k1, k2, ?_, ?_⟩
        · rw [e]; simp [amV, amB, h2, h3, h4, h1.1]
        · rw [e]; simp [amE, amB, h2, h3, h4, h1.1]
      · cases h
    · cases h
  · exact .inr (by simpa using h)

theorem nb_split (b n : Int) : (nbE b n = 0 ∧ fyE b n = 0 ∧ fyE b (nbV b n - 1) = 0 ∧ fyE b (nbV b n) = 0 ∧ fyY b (nbV b n - 1) = fyY b n ∧ fyY b (nbV b n) = fyY b n + 1 ∧ n < nbV b n ∧ 0 ≤ nbV b n ∧ nbV b n ≤ 35999 ∧ 0 ≤ fyY b n ∧ fyY b n ≤ 36000) ∨ (nbE b n == 0) = false := by
  by_cases h : nbE b n = 0
  · left
    rcases fy_split b n with ⟨h0, _, _, a1, a2, a3⟩ | ⟨h0, _, _⟩
    · have h' := h
      unfold nbE at h
      rw [if_pos h0] at h
      split at h
      · next hm =>
        obtain ⟨m1, m2⟩ := (mthB_iff _).1 hm
        have e : nbV b n = nbX b n := by simp [nbV, h0, hm]
        have ex : nbX b n = b + 12 * ((n - b) / 12 + 1) := rfl
        obtain ⟨x, hx⟩ : ∃ x, nbX b n = x := ⟨_, rfl⟩
        rw [e, hx]
        rw [hx] at ex m1 m2
        obtain ⟨f1, f2, f3⟩ := fy_in b n a1 a2 a3
        obtain ⟨g1, g2, g3⟩ := fy_in b (x - 1) a1 (by omega) (by omega)
        obtain ⟨k1, k2, k3⟩ := fy_in b x a1 (by omega) (by omega)
        refine ⟨h', h0, g1, k1, ?_, ?_, ?_, ?_, ?_, ?_, ?_⟩
        all_goals omega
      · cases h
    · exfalso
      unfold nbE at h
      rw [if_neg h0] at h
      exact h0 h
  · exact .inr (by simpa using h)

theorem ag_split (b n : Int) : (fyE b n = 0 ∧ 12 * fyY b n + fyM b n = n - b ∧ fyM b n < 12 ∧ 0 ≤ fyY b n ∧ fyY b n ≤ 3000 ∧ 0 ≤ fyM b n ∧ 0 ≤ b ∧ b ≤ n ∧ n ≤ 35999) ∨ (fyE b n != 0) = true := by
  rcases fy_split b n with ⟨h0, _, _, a1, a2, a3⟩ | ⟨h0, _, h2⟩
  · left
    obtain ⟨f1, f2, f3⟩ := fy_in b n a1 a2 a3
    refine ⟨h0, ?_, ?_, ?_, ?_, ?_, a1, a2, a3⟩
    all_goals omega
  · exact .inr h2

end Go.Proofs.YtdlfofdibooidaaGreat
