/- SumOf of the program and of its model: what each call returns, one Lean function for both. -/
import Derived.Test.YtjcedfafeakikaaDoorList
namespace Go.Proofs.YtjcedfafeakikaaDoor
open Go.ChangeShapes Go.WideShapes Go.ChangeAt Go.RowKit
set_option linter.unusedVariables false

/-- every beginning of xs has a sum within 2^62 -/
def SumsFit (xs : List Int) : Prop := ∀ k, -4611686018427387904 ≤ (xs.take k).sum ∧ (xs.take k).sum ≤ 4611686018427387904

theorem sumL_any (xs : List Int) (a : Option Addr) (l c : Nat) (w : World) (h : Ints w a l xs) (hs : SumsFit xs) :
    Calls Tryd.prog 27 #[.slice a l c] w fun e w' => e = .returned (.int .i64 xs.sum) ∧ w = w' := by
  have hm := h.max
  have hl := Lib.hid h.len
  have H := Lib.hid h
  have HS := Lib.hid hs
  clear h hs
  go_enter Tryd.func27, Tryd.ntmps27
  go_wp2_with fail
  go_loop [3, 4] (fun s i => ∃ k : Nat, k ≤ l ∧ i = .int .i64 k ∧ s = .int .i64 (xs.take k).sum) (fun _ i => l - (intOf i).toNat)
  case atStart => exact ⟨0, Nat.zero_le _, rfl, by simp⟩
  case round =>
    obtain ⟨k, hk, rfl, rfl⟩ := hrel
    by_cases hlt : k < l
    · rcases H.out.cells with h0 | ⟨b, off, rfl, hc⟩
      · omega
      have hx := hc k hlt
      obtain ⟨v, hv⟩ : ∃ v, xs.getD k 0 = v := ⟨_, rfl⟩
      rw [hv] at hx
      obtain ⟨s1, s2⟩ := HS.out k
      have hn := sum_snoc xs k (by rw [hl.out]; exact hlt)
      obtain ⟨s3, s4⟩ := HS.out (k + 1)
      rw [hn, hv] at s3 s4
      rw [hv] at hn
      have HN := Lib.hid hn
      have HV := Lib.hid hv
      have HC := Lib.hid hc
      clear hv hc hn
      obtain ⟨s, hs⟩ : ∃ s, (xs.take k).sum = s := ⟨_, rfl⟩
      have HT := Lib.hid hs
      rw [hs] at s1 s2 s3 s4 ⊢
      clear hs
      go_wp2_with fail
      go_round
      case rel => exact ⟨k + 1, by omega, by go_num, by rw [HN.out, HT.out]⟩
      case measure => simp [intOf]; omega
    · go_wp2_with fail
      go_ret
      obtain rfl : k = l := by omega
      have e : xs.take k = xs := List.take_of_length_le (by rw [hl.out]; exact Nat.le_refl _)
      exact ⟨ret_int (by rw [e]), rfl⟩

def soB (xs : List Int) : Bool := xs.all (fun x => inB x (-1000000000000) 1000000000000) && decide ((xs.length : Int) ≤ 130)

def soV (xs : List Int) : Int := if soB xs then (if monB xs.sum then xs.sum else 0) else 0

def soE (xs : List Int) : Int := if soB xs then (if monB xs.sum then 0 else 3) else 2

theorem fit_of (xs : List Int) (h : soB xs = true) : SumsFit xs := by
  unfold soB at h
  rw [Bool.and_eq_true, List.all_eq_true, decide_eq_true_iff] at h
  intro k
  obtain ⟨h1, h2⟩ := sum_take_bd 1000000000000 (by omega) xs k 130 (by omega) fun x hx => (inB_iff _ _ _).1 (h.1 x (List.mem_of_mem_take hx))
  omega

theorem so_spec (xs : List Int) (a : Option Addr) (l c : Nat) (w : World) (h : Ints w a l xs) :
    Calls Tryd.prog 14 #[.slice a l c] w fun e w' => e = .returned (.tuple #[.int .i64 (soV xs), .int .i64 (soE xs)]) ∧ w = w' := by
  have H := Lib.hid h
  obtain rfl := h.len
  clear h
  by_cases hB : soB xs = true
  · have HF := Lib.hid (fit_of xs hB)
    have hB' : (xs.all (fun x => inB x (-1000000000000) 1000000000000) && decide ((xs.length : Int) ≤ 130)) = true := hB
    by_cases hM : monB xs.sum = true
    · go_enter Tryd.func14, Tryd.ntmps14
      go_wp2_with (first | (go_at_call 26; refine (inAll_any xs _ _ _ _ _ _ _ H.out).mono ?_; rintro e w' ⟨rfl, rfl⟩; rw [hB']) | (go_at_call 27; refine (sumL_any xs _ _ _ _ H.out HF.out).mono ?_; rintro e w' ⟨rfl, rfl⟩) | (go_at_call 25; refine (money_any _ _).mono ?_; rintro e w' ⟨rfl, rfl⟩))
      go_ret2
      exact ⟨ret_ii (by simp [soV, hB, hM]) (by simp [soE, hB, hM]), rfl⟩
    · go_enter Tryd.func14, Tryd.ntmps14
      go_wp2_with (first | (go_at_call 26; refine (inAll_any xs _ _ _ _ _ _ _ H.out).mono ?_; rintro e w' ⟨rfl, rfl⟩; rw [hB']) | (go_at_call 27; refine (sumL_any xs _ _ _ _ H.out HF.out).mono ?_; rintro e w' ⟨rfl, rfl⟩) | (go_at_call 25; refine (money_any _ _).mono ?_; rintro e w' ⟨rfl, rfl⟩))
      go_ret2
      exact ⟨ret_ii (by simp [soV, hB, hM]) (by simp [soE, hB, hM]), rfl⟩
  · have hB' : (xs.all (fun x => inB x (-1000000000000) 1000000000000) && decide ((xs.length : Int) ≤ 130)) = false := by simpa [soB] using hB
    go_enter Tryd.func14, Tryd.ntmps14
    go_wp2_with (go_at_call 26; refine (inAll_any xs _ _ _ _ _ _ _ H.out).mono ?_; rintro e w' ⟨rfl, rfl⟩; rw [hB'])
    go_ret2
    exact ⟨ret_ii (by simp [soV, hB]) (by simp [soE, hB]), rfl⟩

theorem so_impl (xs : List Int) (a : Option Addr) (l c : Nat) (w : World) (h : Ints w a l xs) :
    Calls Tryd.prog 13 #[.slice a l c] w fun e w' => e = .returned (.tuple #[.int .i64 (soV xs), .int .i64 (soE xs)]) ∧ w = w' := by
  have hm := h.max
  have H := Lib.hid h
  have hl := Lib.hid h.len
  clear h
  by_cases h130 : (130 : Int) < l
  · have hB : soB xs = false := by
      unfold soB; rw [Bool.and_eq_false_iff, decide_eq_false_iff_not]; right; rw [hl.out]; omega
    go_enter Tryd.func13, Tryd.ntmps13
    go_wp2_with fail
    go_ret2
    exact ⟨ret_ii (by simp [soV, hB]) (by simp [soE, hB]), rfl⟩
  · go_enter Tryd.func13, Tryd.ntmps13
    go_wp2_with fail
    go_loop [4, 12] (fun s i => ∃ k : Nat, k ≤ l ∧ i = .int .i64 k ∧ s = .int .i64 (xs.take k).sum ∧ Hid ((xs.take k).all (fun x => inB x (-1000000000000) 1000000000000) = true)) (fun _ i => l - (intOf i).toNat)
    case atStart => exact ⟨0, Nat.zero_le _, rfl, by simp, Lib.hid (by simp)⟩
    case round =>
      obtain ⟨k, hk, rfl, rfl, HA⟩ := hrel
      have hbd : -130000000000000 ≤ (xs.take k).sum ∧ (xs.take k).sum ≤ 130000000000000 := by
        have ha := HA.out
        rw [List.all_eq_true] at ha
        have := sum_take_bd 1000000000000 (by omega) xs k 130 (by rw [hl.out]; omega) fun x hx => (inB_iff _ _ _).1 (ha x hx)
        omega
      obtain ⟨b1, b2⟩ := hbd
      by_cases hlt : k < l
      · rcases H.out.cells with h0 | ⟨b, off, rfl, hc⟩
        · omega
        have hx := hc k hlt
        obtain ⟨v, hv⟩ : ∃ v, xs.getD k 0 = v := ⟨_, rfl⟩
        rw [hv] at hx
        have hn := sum_snoc xs k (by rw [hl.out]; exact hlt)
        rw [hv] at hn
        have HN := Lib.hid hn
        have HV := Lib.hid hv
        have HC := Lib.hid hc
        clear hv hc hn
        obtain ⟨s, hs⟩ : ∃ s, (xs.take k).sum = s := ⟨_, rfl⟩
        have HT := Lib.hid hs
        rw [hs] at b1 b2 ⊢
        clear hs
        by_cases hin : monB v = true
        · obtain ⟨v1, v2⟩ := (monB_iff v).1 hin
          go_wp2_with (go_at_call 18; refine (valid_any _ _).mono ?_; rintro e w' ⟨rfl, rfl⟩)
          go_round
          case rel => exact ⟨k + 1, by omega, by go_num, by rw [HN.out, HT.out], Lib.hid (by rw [all_snoc _ _ _ (by rw [hl.out]; exact hlt), HA.out, HV.out]; exact hin)⟩
          case measure => simp [intOf]; omega
        · have hB : soB xs = false := by
            unfold soB; rw [Bool.and_eq_false_iff]; left
            exact all_take _ xs k (by rw [HV.out]; simpa [monB] using hin) (by rw [hl.out]; exact hlt)
          go_wp2_with (go_at_call 18; refine (valid_any _ _).mono ?_; rintro e w' ⟨rfl, rfl⟩)
          go_ret2
          exact ⟨ret_ii (by simp [soV, hB]) (by simp [soE, hB]), rfl⟩
      · obtain rfl : k = l := by omega
        have e : xs.take k = xs := List.take_of_length_le (by rw [hl.out]; exact Nat.le_refl _)
        have HA' := HA.out
        rw [e] at HA' b1 b2 ⊢
        have hB : soB xs = true := by
          unfold soB; rw [HA', Bool.true_and, decide_eq_true_iff, hl.out]; omega
        have HB := Lib.hid hB
        clear HA' hB e
        by_cases hM : monB xs.sum = true
        · go_wp2_with (go_at_call 18; refine (valid_any _ _).mono ?_; rintro e w' ⟨rfl, rfl⟩)
          go_ret2
          exact ⟨ret_ii (by simp [soV, HB.out, hM]) (by simp [soE, HB.out, hM]), rfl⟩
        · go_wp2_with (go_at_call 18; refine (valid_any _ _).mono ?_; rintro e w' ⟨rfl, rfl⟩)
          go_ret2
          exact ⟨ret_ii (by simp [soV, HB.out, hM]) (by simp [soE, HB.out, hM]), rfl⟩

end Go.Proofs.YtjcedfafeakikaaDoor
