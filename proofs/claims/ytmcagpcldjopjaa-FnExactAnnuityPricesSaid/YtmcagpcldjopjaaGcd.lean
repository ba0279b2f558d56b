/- CommonFactor of the program and of its model: what each call returns (the greatest common divisor), one Lean function for both. -/
import Derived.Test.YtmcagpcldjopjaaDiv
namespace Go.Proofs.Ytmcagpcldjopjaa
open Go.ChangeShapes Go.WideShapes Go.ChangeAt Go.RowKit
set_option linter.unusedVariables false

def gcdI (a b : Int) : Int := ((Nat.gcd a.toNat b.toNat : Nat) : Int)

theorem gcdI_zero (a : Int) (h : 0 ≤ a) : gcdI a 0 = a := by unfold gcdI; simp; omega

theorem gcdI_step (a b : Int) (ha : 0 ≤ a) (hb : 0 < b) : gcdI b (a % b) = gcdI a b := by
  unfold gcdI
  obtain ⟨x, rfl⟩ := Int.eq_ofNat_of_zero_le ha
  obtain ⟨y, rfl⟩ := Int.eq_ofNat_of_zero_le (show 0 ≤ b by omega)
  have e : ((x : Int) % (y : Int)).toNat = x % y := by
    omega
  rw [e]
  simp only [Int.toNat_natCast]
  rw [Nat.gcd_comm y, ← Nat.gcd_rec, Nat.gcd_comm]

def cfB (a b : Int) : Bool := inB a 0 1000000000000 && inB b 0 1000000000000

def cfV (a b : Int) : Int := if cfB a b then gcdI a b else 0

def cfE (a b : Int) : Int := if cfB a b then 0 else 2

theorem factor_any (n : Nat) : ∀ (a b : Int) (w : World), b.toNat ≤ n → 0 ≤ a → 0 ≤ b → a ≤ 1000000000000 → b ≤ 1000000000000 →
    Calls Try.prog 85 #[.int .i64 a, .int .i64 b] w fun e w' => e = .returned (.int .i64 (gcdI a b)) ∧ w = w' := by
  induction n with
  | zero =>
    intro a b w hn h1 h2 h3 h4
    obtain rfl : b = 0 := by omega
    have G := Lib.hid (gcdI_zero a h1)
    go_enter Try.func85, Try.ntmps85
    go_wp2_with fail
    go_ret
    exact ⟨ret_int (G.out.symm), rfl⟩
  | succ n ih =>
    intro a b w hn h1 h2 h3 h4
    by_cases hb : b = 0
    · subst hb
      have G := Lib.hid (gcdI_zero a h1)
      go_enter Try.func85, Try.ntmps85
      go_wp2_with fail
      go_ret
      exact ⟨ret_int (G.out.symm), rfl⟩
    · have hp : 0 < b := by omega
      have G := Lib.hid (gcdI_step a b h1 hp)
      have m1 := Int.emod_nonneg a hb
      have m2 := Int.emod_lt_of_pos a hp
      go_enter Try.func85, Try.ntmps85
      go_wp2_with (go_at_call 85; refine (ih b (a % b) _ (by omega) (by omega) (by omega) (by omega) (by omega)).mono ?_; rintro e w' ⟨rfl, rfl⟩)
      go_ret
      exact ⟨ret_int G.out, rfl⟩

theorem cf_impl (a b : Int) (w : World) : Calls Try.prog 83 #[.int .i64 a, .int .i64 b] w fun e w' => e = .returned (.tuple #[.int .i64 (cfV a b), .int .i64 (cfE a b)]) ∧ ∃ n, w' = w.drewN n := by
  by_cases h1 : inB a 0 1000000000000 = true
  · obtain ⟨ha1, ha2⟩ := (inB_iff _ _ _).1 h1
    by_cases h2 : inB b 0 1000000000000 = true
    · obtain ⟨hb1, hb2⟩ := (inB_iff _ _ _).1 h2
      obtain ⟨G, hG⟩ : ∃ G, gcdI a b = G := ⟨_, rfl⟩
      have HV : Hid (cfV a b = G) := Lib.hid (by simp [cfV, cfB, h1, h2, hG])
      have HE : Hid (cfE a b = 0) := Lib.hid (by simp [cfE, cfB, h1, h2])
      have HG := Lib.hid hG
      clear hG
      go_enter Try.func83, Try.ntmps83
      go_wp2_with (go_at_call 70; refine (within_any _ _ _ _).mono ?_; rintro e w' ⟨rfl, rfl⟩)
      go_loopw [0, 1] (fun x y wr => ∃ p q : Int, x = .int .i64 p ∧ y = .int .i64 q ∧ 0 ≤ p ∧ 0 ≤ q ∧ p ≤ 1000000000000 ∧ q ≤ 1000000000000 ∧ Hid (gcdI p q = G) ∧ Hid (∃ n, wr = w.drewN n)) (fun _ y _ => (intOf y).toNat)
      case atStart => exact ⟨a, b, rfl, rfl, ha1, hb1, ha2, hb2, HG, Lib.hid ⟨0, by simp [World.drewN]⟩⟩
      case round =>
        obtain ⟨p, q, rfl, rfl, p1, q1, p2, q2, HP, HW⟩ := hrel
        by_cases hq : q = 0
        · subst hq
          have GZ := Lib.hid (gcdI_zero p p1)
          have W0 : Hid (∃ n, wr = w.drewN n) := HW
          go_wp2
          go_ret2
          exact ⟨ret_ii (by rw [HV.out, ← HP.out, GZ.out]) HE.out.symm, HW.out⟩
        · have hqp : 0 < q := by omega
          have m1 := Int.emod_nonneg p hq
          have m2 := Int.emod_lt_of_pos p hqp
          have GS := Lib.hid (gcdI_step p q p1 hqp)
          go_wp2
          go_quiet (fail)
          go_wp2
          go_roundw
          case rel => exact ⟨q, p % q, rfl, rfl, by omega, by omega, by omega, by omega, Lib.hid (by rw [GS.out, HP.out]), Lib.hid (by obtain ⟨n, hn⟩ := HW.out; exact ⟨n + nq, by rw [hn]; simp [World.drewN]; omega⟩)⟩
          case measure => simp [intOf]; omega
    · go_enter Try.func83, Try.ntmps83
      go_wp2_with (go_at_call 70; refine (within_any _ _ _ _).mono ?_; rintro e w' ⟨rfl, rfl⟩)
      go_ret2
      exact ⟨ret_ii (by simp [cfV, cfB, h1, h2]) (by simp [cfE, cfB, h1, h2]), 0, by simp [World.drewN]⟩
  · go_enter Try.func83, Try.ntmps83
    go_wp2_with (go_at_call 70; refine (within_any _ _ _ _).mono ?_; rintro e w' ⟨rfl, rfl⟩)
    go_ret2
    exact ⟨ret_ii (by simp [cfV, cfB, h1]) (by simp [cfE, cfB, h1]), 0, by simp [World.drewN]⟩

end Go.Proofs.Ytmcagpcldjopjaa
