/- impl.ShareOut: plain facts on shares, and what a call does. -/
import Derived.Test.YtalfbhkgjfkneaaGive
import Derived.Test.YtalfbhkgjfkneaaSum
namespace Go.Proofs.Ytalfbhkgjfkneaa
open Go.ChangeShapes Go.WideShapes Go.ChangeAt Go.RowKit
set_option linter.unusedVariables false

def shS (A T : Int) (xs : List Int) : List Int := xs.map fun x => A * x / T

def reS (A T : Int) (xs : List Int) : List Int := xs.map fun x => A * x % T

theorem sh_sum (A T : Int) (xs : List Int) : A * xs.sum = T * (shS A T xs).sum + (reS A T xs).sum := by
  induction xs with
  | nil => simp [shS, reS]
  | cons x xs ih =>
    have h := Int.mul_ediv_add_emod (A * x) T
    simp only [shS, reS, List.map_cons, List.sum_cons] at ih ⊢
    rw [Int.mul_add, Int.mul_add, ih]
    omega

theorem mem_le_sum (xs : List Int) (h : ∀ x ∈ xs, 0 ≤ x) : 0 ≤ xs.sum ∧ ∀ x ∈ xs, x ≤ xs.sum := by
  induction xs with
  | nil => simp
  | cons y ys ih =>
    have h1 := h y (by simp)
    obtain ⟨h2, h3⟩ := ih fun x hx => h x (by simp [hx])
    rw [List.sum_cons]
    refine ⟨by omega, fun x hx => ?_⟩
    rcases List.mem_cons.1 hx with rfl | hx
    · omega
    · have := h3 x hx; omega

theorem re_sum (A T : Int) (hT : 0 < T) (xs : List Int) : 0 ≤ (reS A T xs).sum ∧ (reS A T xs).sum ≤ xs.length * T - xs.length := by
  induction xs with
  | nil => simp [reS]
  | cons x xs ih =>
    have h1 := Int.emod_nonneg (A * x) (show T ≠ 0 by omega)
    have h2 := Int.emod_lt_of_pos (A * x) hT
    simp only [reS, List.map_cons, List.sum_cons, List.length_cons] at ih ⊢
    rw [Int.natCast_add, Int.add_mul]
    omega

theorem left_bd (A : Int) (xs : List Int) (hT : 0 < xs.sum) : 0 ≤ A - (shS A xs.sum xs).sum ∧ A - (shS A xs.sum xs).sum ≤ xs.length := by
  have h1 := sh_sum A xs.sum xs
  obtain ⟨h2, h3⟩ := re_sum A xs.sum hT xs
  obtain ⟨s, hs⟩ : ∃ s, (shS A xs.sum xs).sum = s := ⟨_, rfl⟩
  obtain ⟨T, hTe⟩ : ∃ T, xs.sum = T := ⟨_, rfl⟩
  rw [hTe] at h1 h2 h3 hT hs ⊢
  rw [hs] at h1 ⊢
  have h4 : T * (A - s) = (reS A T xs).sum := by rw [Int.mul_sub, Int.mul_comm T A]; omega
  constructor
  · by_cases h : 0 ≤ A - s
    · exact h
    · exfalso
      have := Int.mul_neg_of_pos_of_neg hT (show A - s < 0 by omega)
      omega
  · by_cases h : A - s ≤ (xs.length : Int)
    · exact h
    · exfalso
      have h5 := Int.mul_le_mul_of_nonneg_left (show (xs.length : Int) + 1 ≤ A - s by omega) (show 0 ≤ T by omega)
      rw [Int.mul_add, Int.mul_one, Int.mul_comm T] at h5
      omega

theorem share_le (A x T : Int) (hA : 0 ≤ A) (hx : 0 ≤ x) (hxT : x ≤ T) (hT : 0 < T) : 0 ≤ A * x / T ∧ A * x / T ≤ A := by
  refine ⟨Int.ediv_nonneg (Int.mul_nonneg hA hx) (by omega), ?_⟩
  have h := Int.mul_le_mul_of_nonneg_left hxT hA
  have h2 := Int.ediv_le_ediv hT h
  rw [Int.mul_ediv_cancel A (by omega)] at h2
  exact h2

theorem sh_len (A T : Int) (xs : List Int) : (shS A T xs).length = xs.length := by simp [shS]

theorem re_len (A T : Int) (xs : List Int) : (reS A T xs).length = xs.length := by simp [reS]

theorem sh_get (A T : Int) (xs : List Int) (k : Nat) (h : k < xs.length) : (shS A T xs).getD k 0 = A * xs.getD k 0 / T := by
  simp [shS, List.getD, List.getElem?_eq_getElem h]

theorem re_get (A T : Int) (xs : List Int) (k : Nat) (h : k < xs.length) : (reS A T xs).getD k 0 = A * xs.getD k 0 % T := by
  simp [reS, List.getD, List.getElem?_eq_getElem h]

theorem sh_mem (A : Int) (xs : List Int) (hA : 0 ≤ A) (h : ∀ x ∈ xs, 0 ≤ x) (hT : 0 < xs.sum) : ∀ y ∈ shS A xs.sum xs, 0 ≤ y ∧ y ≤ A := by
  intro y hy
  obtain ⟨x, hx, rfl⟩ := List.mem_map.1 hy
  exact share_le A x xs.sum hA (h x hx) ((mem_le_sum xs h).2 x hx) hT

theorem getD_bd (xs : List Int) (M : Int) (hM : 0 ≤ M) (h : ∀ x ∈ xs, 0 ≤ x ∧ x ≤ M) (i : Nat) : 0 ≤ xs.getD i 0 ∧ xs.getD i 0 ≤ M := by
  by_cases hi : i < xs.length
  · have : xs.getD i 0 ∈ xs := by simp [List.getD, List.getElem?_eq_getElem hi]
    exact h _ this
  · simp [List.getD, List.getElem?_eq_none (Nat.le_of_not_lt hi)]; omega

theorem set_next (ys : List Int) (k : Nat) (h : k < ys.length) : (ys.take k ++ List.replicate (ys.length - k) 0).set k (ys.getD k 0) = ys.take (k + 1) ++ List.replicate (ys.length - (k + 1)) 0 := set_step ys k h

def shB (A : Int) (xs : List Int) : Bool := inB A 0 1000000000 && (xs.all (fun x => inB x 0 1000000000) && decide ((xs.length : Int) ≤ 130))

def ShGood (A : Int) (xs : List Int) (n : Nat) (w : World) (e : Ending) (w' : World) : Prop :=
  e = .returned (.tuple #[.slice (some ⟨w.heap.size, 0, none⟩) n n, .int .i64 0]) ∧ ∃ g, Prm 0 n id g ∧ Srt (keyOf (reS A xs.sum xs)) 0 n g ∧ Blk w' w.heap.size (bump (shS A xs.sum xs) g (A - (shS A xs.sum xs).sum).toNat) ∧ Below w.heap.size w w'

theorem shB_of {A : Int} {xs : List Int} (h : shB A xs = true) : 0 ≤ A ∧ A ≤ 1000000000 ∧ (∀ x ∈ xs, 0 ≤ x ∧ x ≤ 1000000000) ∧ xs.length ≤ 130 := by
  unfold shB at h
  rw [Bool.and_eq_true, Bool.and_eq_true, List.all_eq_true, decide_eq_true_iff, inB_iff] at h
  exact ⟨h.1.1, h.1.2, fun x hx => (inB_iff _ _ _).1 (h.2.1 x hx), by omega⟩

theorem sh_bad (A : Int) (xs : List Int) (a : Option Addr) (l c : Nat) (w : World) (h : Ints w a l xs) (hb : shB A xs = false) :
    Calls Try.prog 15 #[.int .i64 A, .slice a l c] w fun e w' => e = .returned (.tuple #[.slice none 0 0, .int .i64 2]) ∧ w = w' := by
  have hm := h.max
  have H := Lib.hid h
  have hl := Lib.hid h.len
  clear h
  by_cases hA : inB A 0 1000000000 = true
  · by_cases h130 : (130 : Int) < l
    · go_enter Try.func15, Try.ntmps15
      go_wp2_with (go_at_call 42; refine (within_any _ _ _ _).mono ?_; rintro e w' ⟨rfl, rfl⟩)
      go_ret2
      exact ⟨rfl, rfl⟩
    · go_enter Try.func15, Try.ntmps15
      go_wp2_with (go_at_call 42; refine (within_any _ _ _ _).mono ?_; rintro e w' ⟨rfl, rfl⟩)
      go_loop [6, 24] (fun s i => ∃ k : Nat, k ≤ l ∧ i = .int .i64 k ∧ s = .int .i64 (xs.take k).sum ∧ Hid ((xs.take k).all (fun x => inB x 0 1000000000) = true)) (fun _ i => l - (intOf i).toNat)
      case atStart => exact ⟨0, Nat.zero_le _, rfl, by simp, Lib.hid (by simp)⟩
      case round =>
        obtain ⟨k, hk, rfl, rfl, HA⟩ := hrel
        have hbd : -130000000000 ≤ (xs.take k).sum ∧ (xs.take k).sum ≤ 130000000000 := by
          have ha := HA.out
          rw [List.all_eq_true] at ha
          have := sum_take_bd 1000000000 (by omega) xs k 130 (by rw [hl.out]; omega) fun x hx => by
            have := (inB_iff _ _ _).1 (ha x hx); omega
          omega
        obtain ⟨b1, b2⟩ := hbd
        by_cases hlt : k < l
        · rcases H.out.cells with h0 | ⟨b, off, rfl, hc⟩
          · omega
          have hx := hc k hlt
          obtain ⟨v, hv⟩ : ∃ v, xs.getD k 0 = v := ⟨_, rfl⟩
          rw [hv] at hx
          have hn := sum_snoc xs k (by rw [hl.out]; exact hlt)
          rw [hv] at hn
          have HN := Lib.hid hn
          have HV := Lib.hid hv
          have HC := Lib.hid hc
          clear hv hc hn
          obtain ⟨s, hs⟩ : ∃ s, (xs.take k).sum = s := ⟨_, rfl⟩
          have HT := Lib.hid hs
          rw [hs] at b1 b2 ⊢
          clear hs
          by_cases hin : inB v 0 1000000000 = true
          · obtain ⟨v1, v2⟩ := (inB_iff _ _ _).1 hin
            go_wp2_with (go_at_call 42; refine (within_any _ _ _ _).mono ?_; rintro e w' ⟨rfl, rfl⟩)
            go_round
            case rel => exact ⟨k + 1, by omega, by go_num, by rw [HN.out, HT.out], Lib.hid (by rw [all_snoc _ _ _ (by rw [hl.out]; exact hlt), HA.out, HV.out]; exact hin)⟩
            case measure => simp [intOf]; omega
          · go_wp2_with (go_at_call 42; refine (within_any _ _ _ _).mono ?_; rintro e w' ⟨rfl, rfl⟩)
            go_ret2
            exact ⟨rfl, rfl⟩
        · exfalso
          obtain rfl : k = l := by omega
          have e : xs.take k = xs := List.take_of_length_le (by rw [hl.out]; exact Nat.le_refl _)
          have HA' := HA.out
          rw [e] at HA'
          have : shB A xs = true := by
            unfold shB; rw [HA', hA, Bool.true_and, Bool.true_and, decide_eq_true_iff, hl.out]; omega
          rw [this] at hb; exact Bool.noConfusion hb
  · go_enter Try.func15, Try.ntmps15
    go_wp2_with (go_at_call 42; refine (within_any _ _ _ _).mono ?_; rintro e w' ⟨rfl, rfl⟩)
    go_ret2
    exact ⟨rfl, rfl⟩

theorem sh_zero (A : Int) (xs : List Int) (a : Option Addr) (l c : Nat) (w : World) (h : Ints w a l xs) (hb : shB A xs = true) (hz : xs.sum = 0) :
    Calls Try.prog 15 #[.int .i64 A, .slice a l c] w fun e w' => e = .returned (.tuple #[.slice none 0 0, .int .i64 5]) ∧ w = w' := by
  have hm := h.max
  have H := Lib.hid h
  have hl := Lib.hid h.len
  obtain ⟨hA1, hA2, hX, h130⟩ := shB_of hb
  rw [hl.out] at h130
  have HX := Lib.hid hX
  have HZ := Lib.hid hz
  have hA : inB A 0 1000000000 = true := inB_t hA1 hA2
  clear h hX hb hz hA1 hA2
  go_enter Try.func15, Try.ntmps15
  go_wp2_with (go_at_call 42; refine (within_any _ _ _ _).mono ?_; rintro e w' ⟨rfl, rfl⟩)
  go_loop [6, 24] (fun s i => ∃ k : Nat, k ≤ l ∧ i = .int .i64 k ∧ s = .int .i64 (xs.take k).sum) (fun _ i => l - (intOf i).toNat)
  case atStart => exact ⟨0, Nat.zero_le _, rfl, by simp⟩
  case round =>
    obtain ⟨k, hk, rfl, rfl⟩ := hrel
    have hbd : -130000000000 ≤ (xs.take k).sum ∧ (xs.take k).sum ≤ 130000000000 := by
      have := sum_take_bd 1000000000 (by omega) xs k 130 (by rw [hl.out]; omega) fun x hx => by
        have := HX.out x (List.mem_of_mem_take hx); omega
      omega
    obtain ⟨b1, b2⟩ := hbd
    by_cases hlt : k < l
    · rcases H.out.cells with h0 | ⟨b, off, rfl, hc⟩
      · omega
      have hx := hc k hlt
      obtain ⟨v, hv⟩ : ∃ v, xs.getD k 0 = v := ⟨_, rfl⟩
      rw [hv] at hx
      have hn := sum_snoc xs k (by rw [hl.out]; exact hlt)
      rw [hv] at hn
      have hvb := getD_bd xs 1000000000 (by omega) HX.out k
      rw [hv] at hvb
      have HN := Lib.hid hn
      have HC := Lib.hid hc
      clear hv hc hn
      obtain ⟨s, hs⟩ : ∃ s, (xs.take k).sum = s := ⟨_, rfl⟩
      have HT := Lib.hid hs
      rw [hs] at b1 b2 ⊢
      clear hs
      obtain ⟨v1, v2⟩ := hvb
      have hin : inB v 0 1000000000 = true := inB_t v1 v2
      go_wp2_with (go_at_call 42; refine (within_any _ _ _ _).mono ?_; rintro e w' ⟨rfl, rfl⟩)
      go_round
      case rel => exact ⟨k + 1, by omega, by go_num, by rw [HN.out, HT.out]⟩
      case measure => simp [intOf]; omega
    · obtain rfl : k = l := by omega
      have e : xs.take k = xs := List.take_of_length_le (by rw [hl.out]; exact Nat.le_refl _)
      rw [e, HZ.out]
      clear e
      go_wp2_with fail
      go_ret2
      exact ⟨rfl, rfl⟩

end Go.Proofs.Ytalfbhkgjfkneaa
