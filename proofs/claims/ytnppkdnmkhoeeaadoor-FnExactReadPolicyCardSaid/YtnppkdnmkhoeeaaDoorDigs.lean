/- The model's reading of digits: what each call returns. -/
import Derived.Test.YtnppkdnmkhoeeaaDoorParse
namespace Go.Proofs.YtnppkdnmkhoeeaaDoor
open Go.ChangeShapes Go.WideShapes Go.ChangeAt Go.RowKit
set_option linter.unusedVariables false

/-- what digits spell -/
def val (l : List UInt8) : Nat := l.foldl (fun n c => n * 10 + (c.toNat - 48)) 0

theorem val_snoc (l : List UInt8) (c : UInt8) : val (l ++ [c]) = val l * 10 + (c.toNat - 48) := by simp [val]

def isDig (c : UInt8) : Bool := decide (48 ≤ c.toNat ∧ c.toNat ≤ 57)

theorem fold_lt (l : List UInt8) : ∀ acc : Nat, l.all isDig = true → l.foldl (fun n c => n * 10 + (c.toNat - 48)) acc < (acc + 1) * 10 ^ l.length := by
  induction l with
  | nil => intro acc _; simp
  | cons c t ih =>
    intro acc h
    rw [List.all_cons, Bool.and_eq_true] at h
    have hc : 48 ≤ c.toNat ∧ c.toNat ≤ 57 := by simpa [isDig] using h.1
    have := ih (acc * 10 + (c.toNat - 48)) h.2
    rw [List.foldl_cons, List.length_cons, Nat.pow_succ]
    refine Nat.lt_of_lt_of_le this ?_
    rw [Nat.mul_comm (10 ^ t.length) 10, ← Nat.mul_assoc]
    exact Nat.mul_le_mul_right _ (by omega)

theorem val_lt (l : List UInt8) (h : l.all isDig = true) : val l < 10 ^ l.length := by
  have := fold_lt l 0 h
  simpa [val] using this

theorem val_le (l : List UInt8) (h : l.all isDig = true) (hl : l.length ≤ 13) : val l ≤ 9999999999999 := by
  have := val_lt l h
  have h2 : 10 ^ l.length ≤ 10 ^ 13 := Nat.pow_le_pow_right (by omega) hl
  have h3 : (10 : Nat) ^ 13 = 10000000000000 := by decide
  omega

def dgB (l : List UInt8) : Bool := decide (1 ≤ l.length ∧ l.length ≤ 13) && l.all isDig

def dgV (l : List UInt8) : Int := if dgB l then (val l : Int) else 0

def dgO (l : List UInt8) : Bool := dgB l && (Lib.decDigits (val l) == l)

theorem take_snoc8 (s : ByteArray) (k : Nat) (h : k < s.size) : s.data.toList.take (k + 1) = s.data.toList.take k ++ [s[k]] := by
  rw [List.take_succ_eq_append_getElem (by simpa using h)]; rfl

theorem all_false8 (s : ByteArray) (k : Nat) (h : k < s.size) (hc : isDig s[k] = false) : s.data.toList.all isDig = false := by
  rw [List.all_eq_false]
  exact ⟨s[k], by have : s[k] = s.data.toList[k]'(by simpa using h) := rfl; rw [this]; exact List.getElem_mem _, by simp [hc]⟩

def DgPost (l : List UInt8) (w : World) (e : Ending) (w' : World) : Prop := e = .returned (.tuple #[.int .i64 (dgV l), .bool (dgO l)]) ∧ Below w.heap.size w w'

theorem ret_ib' {a b : Int} {c d : Bool} (h : a = b) (g : c = d) : Ending.returned (.tuple #[.int .i64 a, .bool c]) = .returned (.tuple #[.int .i64 b, .bool d]) := by rw [h, g]

set_option maxHeartbeats 400000 in
theorem digs_any (s : ByteArray) (w : World) (hs : s.size ≤ 4611686018427387904) : Calls Tryd.prog 39 #[.string s] w (DgPost s.data.toList w) := by
  have hlen : s.data.toList.length = s.size := by simp
  have HL := Lib.hid hlen
  clear hlen
  by_cases h0 : (s.size : Int) < 1
  · have hb : dgB s.data.toList = false := by unfold dgB; rw [HL.out]; simp; omega
    go_enter Tryd.func39, Tryd.ntmps39
    go_wp2_with fail
    go_ret2
    exact ⟨ret_ib' (by simp [dgV, hb]) (by simp [dgO, hb]), Below.refl _ _⟩
  · by_cases h13 : (13 : Int) < s.size
    · have hb : dgB s.data.toList = false := by unfold dgB; rw [HL.out]; simp; omega
      go_enter Tryd.func39, Tryd.ntmps39
      go_wp2_with fail
      go_ret2
      exact ⟨ret_ib' (by simp [dgV, hb]) (by simp [dgO, hb]), Below.refl _ _⟩
    · go_enter Tryd.func39, Tryd.ntmps39
      go_wp2_with fail
      go_loop [4, 5] (fun n i => ∃ k : Nat, k ≤ s.size ∧ i = .int .i64 k ∧ n = .int .i64 (val (s.data.toList.take k) : Int) ∧ Hid ((s.data.toList.take k).all isDig = true)) (fun _ i => s.size - (intOf i).toNat)
      case atStart => exact ⟨0, Nat.zero_le _, rfl, by simp [val], Lib.hid (by simp)⟩
      case round =>
        obtain ⟨k, hk, rfl, rfl, HA⟩ := hrel
        have hv := val_le (s.data.toList.take k) HA.out (by simp; omega)
        by_cases hlt : k < s.size
        · have hts := take_snoc8 s k hlt
          by_cases hd : isDig s[k] = true
          · have hc : 48 ≤ s[k].toNat ∧ s[k].toNat ≤ 57 := by simpa [isDig] using hd
            obtain ⟨d1, d2⟩ := hc
            have HT := Lib.hid hts
            have HD := Lib.hid hd
            clear hts hd
            go_wp2_with fail
            go_round
            case rel => exact ⟨k + 1, by omega, by go_num, by rw [HT.out, val_snoc]; congr 1; omega, Lib.hid (by rw [HT.out, List.all_append, HA.out]; simp [HD.out])⟩
            case measure => simp [intOf]; omega
          · have hbad : dgB s.data.toList = false := by unfold dgB; rw [all_false8 s k hlt (by simpa using hd)]; simp
            have hcc : s[k].toNat < 48 ∨ 57 < s[k].toNat := by simp [isDig] at hd; omega
            clear hd hts
            rcases hcc with hc | hc
            all_goals
              go_wp2_with fail
              go_ret2
              exact ⟨ret_ib' (by simp [dgV, hbad]) (by simp [dgO, hbad]), Below.refl _ _⟩
        · obtain rfl : k = s.size := by omega
          have e : s.data.toList.take s.size = s.data.toList := List.take_of_length_le (by rw [HL.out]; exact Nat.le_refl _)
          have hA := HA.out
          rw [e] at hA hv ⊢
          have hb : dgB s.data.toList = true := by unfold dgB; rw [hA, HL.out]; simp; omega
          have HB := Lib.hid hb
          clear hb hA e
          obtain ⟨u, hu⟩ : ∃ u, val s.data.toList = u := ⟨_, rfl⟩
          rw [hu] at hv ⊢
          have HU := Lib.hid hu
          clear hu
          go_wp2_with fail
          refine (dec_any u (u : Int) _ (by omega) (by omega) (by omega)).mono ?_
          rintro e w1 ⟨rfl, hb⟩
          have HB1 := Lib.hid hb
          clear hb
          go_wp2_with fail
          go_ret2
          exact ⟨ret_ib' (by simp [dgV, HB.out, HU.out]) (by simp [dgO, HB.out, HU.out, toList_eq]), HB1.out⟩

end Go.Proofs.YtnppkdnmkhoeeaaDoor
