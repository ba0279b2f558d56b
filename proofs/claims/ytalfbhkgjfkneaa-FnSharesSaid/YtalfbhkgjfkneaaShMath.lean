/- Plain facts on shares: they add up, and none is a cent or more away (no program in it). -/
import Derived.Test.YtalfbhkgjfkneaaBest
namespace Go.Proofs.Ytalfbhkgjfkneaa
set_option linter.unusedVariables false

theorem sum_set (xs : List Int) : ∀ (i : Nat) (v : Int), i < xs.length → (xs.set i v).sum = xs.sum - xs.getD i 0 + v := by
  induction xs with
  | nil => intro i v h; simp at h
  | cons x t ih =>
    intro i v h
    cases i with
    | zero => simp [List.getD]; omega
    | succ i =>
      have := ih i v (by simpa using h)
      simp only [List.set_cons_succ, List.sum_cons, this, List.getD_cons_succ]
      omega

theorem bump_sum (ss : List Int) (g : Nat → Nat) (k : Nat) (h : ∀ j, j < k → g j < ss.length) : (bump ss g k).sum = ss.sum + k := by
  induction k with
  | zero => simp [bump]
  | succ k ih =>
    rw [bump, sum_set _ _ _ (by rw [bump_len]; exact h k (by omega)), ih fun j hj => h j (by omega)]
    omega

theorem bump_get (ss : List Int) (g : Nat → Nat) (hg : ∀ i j, g i = g j → i = j) (k i : Nat) : (bump ss g k).getD i 0 = ss.getD i 0 ∨ ∃ j, j < k ∧ g j = i ∧ (bump ss g k).getD i 0 = ss.getD i 0 + 1 := by
  induction k generalizing i with
  | zero => exact .inl rfl
  | succ k ih =>
    simp only [bump]
    rw [getD_set]
    split
    · next h =>
      obtain ⟨rfl, h2⟩ := h
      right
      refine ⟨k, by omega, rfl, ?_⟩
      rcases ih (g k) with e | ⟨j, hj, hg2, _⟩
      · rw [e]
      · have := hg j k hg2; omega
    · rcases ih i with e | ⟨j, hj, hg2, e⟩
      · exact .inl e
      · exact .inr ⟨j, by omega, hg2, e⟩

theorem rest_le (rs : List Int) (g : Nat → Nat) (T : Int) (hT : 0 < T) (h : ∀ i, rs.getD i 0 < T) (k : Nat) : ∀ i, (rest rs g k).getD i 0 < T := by
  induction k with
  | zero => exact h
  | succ k ih =>
    intro i
    simp only [rest]
    rw [getD_set]
    split
    · omega
    · exact ih i

theorem rest_sum (rs : List Int) (g : Nat → Nat) (T : Int) (hT : 0 < T) (h : ∀ i, rs.getD i 0 < T) (k : Nat) (hg : ∀ j, j < k → g j < rs.length) : rs.sum ≤ (rest rs g k).sum + k * T := by
  induction k with
  | zero => simp [rest]
  | succ k ih =>
    have h1 := ih fun j hj => hg j (by omega)
    have h2 := rest_le rs g T hT h k (g k)
    have h3 : ((k + 1 : Nat) : Int) * T = k * T + T := by rw [Int.natCast_add, Int.add_mul]; omega
    simp only [rest]
    rw [sum_set _ _ _ (by rw [rest_len]; exact hg k (by omega)), h3]
    omega

theorem sum_nonpos (xs : List Int) (h : ∀ i, i < xs.length → xs.getD i 0 ≤ 0) : xs.sum ≤ 0 := by
  induction xs with
  | nil => simp
  | cons x t ih =>
    have h0 := h 0 (by simp)
    have h1 := ih fun i hi => by
      have := h (i + 1) (by simpa using hi)
      simpa using this
    simp at h0
    simp only [List.sum_cons]
    omega

/-- whoever gets one of the L cents has something left over -/
theorem pos_of {rs : List Int} {n L j : Nat} {g : Nat → Nat} {T : Int} (hp : Prm 0 n id g) (hs : Srt (keyOf rs) 0 n g) (hl : rs.length = n) (hpos : ∀ i, 0 ≤ rs.getD i 0) (hT : 0 < T) (hlt : ∀ i, rs.getD i 0 < T) (hsum : rs.sum = L * T) (hj : j < L) (hL : L ≤ n) : 0 < rs.getD (g j) 0 := by
  by_cases c : 0 < rs.getD (g j) 0
  · exact c
  · exfalso
    have h1 := rest_sum rs g T hT hlt j fun i hi => by rw [hl]; exact prm_lt hp i (by omega)
    have h2 : (rest rs g j).sum ≤ 0 := sum_nonpos _ fun i hi => by
      rw [rest_len, hl] at hi
      obtain ⟨m, hm, rfl⟩ := prm_onto hp i hi
      by_cases c1 : m < j
      · have := rest_in rs g n j hl (prm_lt hp) (by omega) m c1
        omega
      · rw [rest_out rs g j (g m) fun x hx e => by have := prm_inj hp x m e; omega]
        by_cases c2 : m = j
        · subst c2; omega
        · have h6 := hs j m (Nat.zero_le _) (by omega) hm
          unfold Lt keyOf at h6
          omega
    have h3 : ((j : Int) + 1) * T ≤ L * T := Int.mul_le_mul_of_nonneg_right (by omega) (by omega)
    rw [Int.add_mul] at h3
    omega

theorem shares_ok (A : Int) (xs : List Int) (n : Nat) (g : Nat → Nat) (hA1 : 0 ≤ A) (hX : ∀ x ∈ xs, 0 ≤ x) (hT : 0 < xs.sum) (hl : xs.length = n) (hp : Prm 0 n id g) (hs : Srt (keyOf (reS A xs.sum xs)) 0 n g) :
    (bump (shS A xs.sum xs) g (A - (shS A xs.sum xs).sum).toNat).sum = A ∧ (bump (shS A xs.sum xs) g (A - (shS A xs.sum xs).sum).toNat).length = n ∧
    ∀ i, i < n → -xs.sum < (bump (shS A xs.sum xs) g (A - (shS A xs.sum xs).sum).toNat).getD i 0 * xs.sum - A * xs.getD i 0 ∧ (bump (shS A xs.sum xs) g (A - (shS A xs.sum xs).sum).toNat).getD i 0 * xs.sum - A * xs.getD i 0 < xs.sum := by
  have hlb := left_bd A xs hT
  have hss := sh_sum A xs.sum xs
  obtain ⟨T, hTe⟩ : ∃ T, xs.sum = T := ⟨_, rfl⟩
  rw [hTe] at hT hlb hss hs ⊢
  obtain ⟨S, hS⟩ : ∃ S, (shS A T xs).sum = S := ⟨_, rfl⟩
  obtain ⟨L, hL⟩ : ∃ L : Nat, A - S = L := Int.eq_ofNat_of_zero_le (by rw [hS] at hlb; exact hlb.1)
  have hLn : L ≤ n := by rw [hS, hL, hl] at hlb; omega
  have hsum : (reS A T xs).sum = L * T := by
    rw [hS] at hss
    rw [← hL, Int.sub_mul, Int.mul_comm S T]
    omega
  rw [hS, hL]
  simp only [Int.toNat_natCast]
  have hrn : (reS A T xs).length = n := by rw [re_len]; exact hl
  have hrp : ∀ i, 0 ≤ (reS A T xs).getD i 0 ∧ (reS A T xs).getD i 0 < T := fun i => by
    by_cases hi : i < xs.length
    · rw [re_get A T xs i hi]
      exact ⟨Int.emod_nonneg _ (by omega), Int.emod_lt_of_pos _ hT⟩
    · have : (reS A T xs).getD i 0 = 0 := by simp [List.getD, reS, List.getElem?_eq_none (by simpa using hi)]
      omega
  refine ⟨?_, by rw [bump_len, sh_len]; exact hl, fun i hi => ?_⟩
  · rw [bump_sum _ _ _ fun j hj => by rw [sh_len, hl]; exact prm_lt hp j (by omega), hS]; omega
  · have h1 := sh_get A T xs i (by omega)
    have h2 := re_get A T xs i (by omega)
    have h3 := Int.mul_ediv_add_emod (A * xs.getD i 0) T
    rw [← h1, ← h2, Int.mul_comm] at h3
    obtain ⟨r0, r1⟩ := hrp i
    rcases bump_get (shS A T xs) g (prm_inj hp) L i with e | ⟨j, hj, rfl, e⟩
    · rw [e]; omega
    · have := pos_of hp hs hrn (fun i => (hrp i).1) hT (fun i => (hrp i).2) hsum hj hLn
      rw [e, Int.add_mul]
      omega

end Go.Proofs.Ytalfbhkgjfkneaa
