/- The model's choice of who gets the next cent, one by one, is the sorted order. -/
import Derived.Test.YtalfbhkgjfkneaaShareG
namespace Go.Proofs.Ytalfbhkgjfkneaa
set_option linter.unusedVariables false

def rest (rs : List Int) (g : Nat → Nat) : Nat → List Int
  | 0 => rs
  | k + 1 => (rest rs g k).set (g k) (-1)

theorem rest_len (rs : List Int) (g : Nat → Nat) (k : Nat) : (rest rs g k).length = rs.length := by
  induction k with
  | zero => rfl
  | succ k ih => rw [rest, List.length_set, ih]

theorem rest_in (rs : List Int) (g : Nat → Nat) (n k : Nat) (hl : rs.length = n) (hg : ∀ j, j < n → g j < n) (hk : k ≤ n) : ∀ j, j < k → (rest rs g k).getD (g j) 0 = -1 := by
  induction k with
  | zero => intro j hj; omega
  | succ k ih =>
    intro j hj
    simp only [rest]
    rw [getD_set]
    by_cases e : g j = g k
    · rw [if_pos ⟨e, by rw [rest_len, hl]; exact hg k (by omega)⟩]
    · rw [if_neg (fun h => e h.1)]
      by_cases c : j = k
      · subst c; exact absurd rfl e
      · exact ih (by omega) j (by omega)

theorem rest_out (rs : List Int) (g : Nat → Nat) (k i : Nat) (h : ∀ j, j < k → g j ≠ i) : (rest rs g k).getD i 0 = rs.getD i 0 := by
  induction k with
  | zero => rfl
  | succ k ih =>
    simp only [rest]
    rw [getD_set, if_neg (fun e => h k (by omega) e.1.symm)]
    exact ih fun j hj => h j (by omega)

def IsBest (ys : List Int) (n b : Nat) : Prop := b < n ∧ (∀ i, i < n → ys.getD i 0 ≤ ys.getD b 0) ∧ ∀ i, i < b → ys.getD i 0 < ys.getD b 0

theorem prm_inj {n : Nat} {g : Nat → Nat} (hp : Prm 0 n id g) : ∀ i j, g i = g j → i = j := by
  obtain ⟨p, q, a1, a2, a3, a4⟩ := hp
  intro i j h
  rw [a4, a4] at h
  have := congrArg q (show p i = p j from h)
  rw [a1, a1] at this; exact this

theorem prm_onto {n : Nat} {g : Nat → Nat} (hp : Prm 0 n id g) (b : Nat) (hb : b < n) : ∃ j, j < n ∧ g j = b := by
  obtain ⟨p, q, a1, a2, a3, a4⟩ := hp
  refine ⟨q b, ?_, by rw [a4]; exact a2 b⟩
  by_cases h : q b < n
  · exact h
  · have h1 := a3 (q b) (by omega)
    rw [a2] at h1; omega

theorem prm_lt {n : Nat} {g : Nat → Nat} (hp : Prm 0 n id g) : ∀ j, j < n → g j < n := hp.vals (Nat.le_refl _) (fun _ h => h)

theorem best_is {rs : List Int} {n k b : Nat} {g : Nat → Nat} (hp : Prm 0 n id g) (hs : Srt (keyOf rs) 0 n g) (hl : rs.length = n) (hpos : ∀ i, 0 ≤ rs.getD i 0) (hk : k < n) (hb : IsBest (rest rs g k) n b) : b = g k := by
  obtain ⟨h1, h2, h3⟩ := hb
  obtain ⟨j, hj, rfl⟩ := prm_onto hp b h1
  have hgk : (rest rs g k).getD (g k) 0 = rs.getD (g k) 0 := rest_out rs g k (g k) fun i hi e => by
    have := prm_inj hp i k e; omega
  have h4 := h2 (g k) (prm_lt hp k hk)
  have h5 := hpos (g k)
  by_cases c : j < k
  · have := rest_in rs g n k hl (prm_lt hp) (by omega) j c
    omega
  · by_cases c2 : j = k
    · subst c2; rfl
    · exfalso
      have hgj : (rest rs g k).getD (g j) 0 = rs.getD (g j) 0 := rest_out rs g k (g j) fun i hi e => by
        have := prm_inj hp i j e; omega
      have h6 := hs k j (Nat.zero_le _) (by omega) hj
      unfold Lt keyOf at h6
      rcases h6 with h6 | ⟨h6, h7⟩
      · omega
      · have := h3 (g k) h7; omega

end Go.Proofs.Ytalfbhkgjfkneaa
