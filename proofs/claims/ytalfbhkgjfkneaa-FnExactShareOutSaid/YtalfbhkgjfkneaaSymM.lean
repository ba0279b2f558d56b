/- Plain facts on merging two ordered runs by a rotation. -/
import Derived.Test.YtalfbhkgjfkneaaIns
namespace Go.Proofs.Ytalfbhkgjfkneaa
set_option linter.unusedVariables false

/-- the rotation that a merge makes parts the runs well: L1 before R2, R1 before L2 -/
def Parts (key : Nat → Int) (a s m e b : Nat) (f : Nat → Nat) : Prop :=
  (∀ i j, a ≤ i → i < s → e ≤ j → j < b → Lt key (f i) (f j)) ∧ (∀ i j, s ≤ i → i < m → m ≤ j → j < e → Lt key (f j) (f i))

theorem rot_sorted {key : Nat → Int} {a s m e b : Nat} {f : Nat → Nat} (h1 : a ≤ s) (h2 : s ≤ m) (h3 : m ≤ e) (h4 : e ≤ b) (hl : Srt key a m f) (hr : Srt key m b f) (hp : Parts key a s m e b f)
    (c1 : ∀ i j, a ≤ i → i < s → m ≤ j → j < e → Lt key (f i) (f j)) (c2 : ∀ i j, s ≤ i → i < m → e ≤ j → j < b → Lt key (f i) (f j)) : Srt key a b (rotF f s m e) := by
  intro i j hi hij hj
  obtain ⟨p1, p2⟩ := hp
  simp only [rotF]
  by_cases u1 : i < s <;> by_cases u2 : j < s
  all_goals
    repeat' split
  all_goals first
    | (exfalso; omega)
    | (apply hl <;> omega)
    | (apply hr <;> omega)
    | (apply p1 <;> omega)
    | (apply p2 <;> omega)
    | (apply c1 <;> omega)
    | (apply c2 <;> omega)

theorem rot_id_l (f : Nat → Nat) (m e : Nat) : rotF f m m e = f := by
  funext k
  simp only [rotF]
  repeat' split
  all_goals first | rfl | (exfalso; omega) | (congr 1; omega)

theorem rot_id_r (f : Nat → Nat) (s m : Nat) : rotF f s m m = f := by
  funext k
  simp only [rotF]
  repeat' split
  all_goals first | rfl | (exfalso; omega) | (congr 1; omega)

theorem rot_at1 (f : Nat → Nat) (s m e k : Nat) (h : k < s) : rotF f s m e k = f k := by
  simp only [rotF]; rw [if_neg (by omega), if_neg (by omega)]

theorem rot_at2 (f : Nat → Nat) (s m e k : Nat) (h1 : s ≤ k) (h2 : k < s + (e - m)) : rotF f s m e k = f (k - s + m) := by
  simp only [rotF]; rw [if_pos ⟨h1, h2⟩]

theorem rot_at3 (f : Nat → Nat) (s m e k : Nat) (h1 : s + (e - m) ≤ k) (h2 : k < e) : rotF f s m e k = f (k - (e - m)) := by
  simp only [rotF]; rw [if_neg (by omega), if_pos ⟨h1, h2⟩]

theorem rot_at4 (f : Nat → Nat) (s m e k : Nat) (h0 : s ≤ m) (h : e ≤ k) (hm : m ≤ e) : rotF f s m e k = f k := by
  simp only [rotF]; rw [if_neg (by omega), if_neg (by omega)]

/-- what stands before and behind the middle after the rotation -/
theorem split_lt {key : Nat → Int} {a s m e b d : Nat} {f : Nat → Nat} (h1 : a ≤ s) (h2 : s ≤ m) (h3 : m ≤ e) (h4 : e ≤ b) (hd : d + m = s + e) (hl : Srt key a m f) (hr : Srt key m b f) (hp : Parts key a s m e b f) :
    ∀ i j, a ≤ i → i < d → d ≤ j → j < b → Lt key (rotF f s m e i) (rotF f s m e j) := by
  intro i j hi1 hi2 hj1 hj2
  obtain ⟨p1, p2⟩ := hp
  simp only [rotF]
  repeat' split
  all_goals first
    | (exfalso; omega)
    | (apply hl <;> omega)
    | (apply hr <;> omega)
    | (apply p1 <;> omega)
    | (apply p2 <;> omega)

theorem rot_l1 {key : Nat → Int} {a s m e b : Nat} {f : Nat → Nat} (h2 : s ≤ m) (hl : Srt key a m f) : Srt key a s (rotF f s m e) := by
  intro i j h3 h4 h5
  rw [rot_at1 _ _ _ _ _ (by omega), rot_at1 _ _ _ _ _ h5]
  exact hl i j h3 h4 (by omega)

theorem rot_r1 {key : Nat → Int} {s m e b d : Nat} {f : Nat → Nat} (h3 : m ≤ e) (h4 : e ≤ b) (hd : d + m = s + e) (hr : Srt key m b f) : Srt key s d (rotF f s m e) := by
  intro i j h5 h6 h7
  rw [rot_at2 _ _ _ _ _ h5 (by omega), rot_at2 _ _ _ _ _ (by omega) (by omega)]
  exact hr _ _ (by omega) (by omega) (by omega)

theorem rot_l2 {key : Nat → Int} {a s m e d : Nat} {f : Nat → Nat} (h1 : a ≤ s) (h2 : s ≤ m) (h3 : m ≤ e) (hd : d + m = s + e) (hl : Srt key a m f) : Srt key d e (rotF f s m e) := by
  intro i j h5 h6 h7
  rw [rot_at3 _ _ _ _ _ (by omega) (by omega), rot_at3 _ _ _ _ _ (by omega) h7]
  exact hl _ _ (by omega) (by omega) (by omega)

theorem rot_r2 {key : Nat → Int} {s m e b : Nat} {f : Nat → Nat} (h2 : s ≤ m) (h3 : m ≤ e) (hr : Srt key m b f) : Srt key e b (rotF f s m e) := by
  intro i j h5 h6 h7
  rw [rot_at4 _ _ _ _ _ h2 h5 h3, rot_at4 _ _ _ _ _ h2 (by omega) h3]
  exact hr _ _ (by omega) h6 h7

theorem rot_c1 {key : Nat → Int} {a s m e b d : Nat} {f : Nat → Nat} (h2 : s ≤ m) (h3 : m ≤ e) (h4 : e ≤ b) (hd : d + m = s + e) (hc : Crs key a m b f) : Crs key a s d (rotF f s m e) := by
  intro i j h5 h6 h7 h8
  rw [rot_at1 _ _ _ _ _ h6, rot_at2 _ _ _ _ _ h7 (by omega)]
  exact hc _ _ h5 (by omega) (by omega) (by omega)

theorem rot_c2 {key : Nat → Int} {a s m e b d : Nat} {f : Nat → Nat} (h1 : a ≤ s) (h2 : s ≤ m) (h3 : m ≤ e) (hd : d + m = s + e) (hc : Crs key a m b f) : Crs key d e b (rotF f s m e) := by
  intro i j h5 h6 h7 h8
  rw [rot_at3 _ _ _ _ _ (by omega) h6, rot_at4 _ _ _ _ _ h2 h7 h3]
  exact hc _ _ (by omega) (by omega) (by omega) h8

/-- ordered before and behind d, and all before d before all behind it -/
theorem srt_join {key : Nat → Int} {a d b : Nat} {f : Nat → Nat} (h1 : Srt key a d f) (h2 : Srt key d b f) (h : ∀ i j, a ≤ i → i < d → d ≤ j → j < b → Lt key (f i) (f j)) : Srt key a b f := by
  intro i j h3 h4 h5
  by_cases c1 : j < d
  · exact h1 i j h3 h4 c1
  · by_cases c2 : d ≤ i
    · exact h2 i j c2 h4 h5
    · exact h i j h3 (by omega) (by omega) h5

/-- both halves put in order keep what stands between them -/
theorem lt_keep {key : Nat → Int} {a d b : Nat} {f g h : Nat → Nat} (h1 : Prm a d f g) (h2 : Prm d b g h) (hl : ∀ i j, a ≤ i → i < d → d ≤ j → j < b → Lt key (f i) (f j)) : ∀ i j, a ≤ i → i < d → d ≤ j → j < b → Lt key (h i) (h j) := by
  intro i j h3 h4 h5 h6
  rw [h2.out i (by omega)]
  obtain ⟨j', e1, e2, e3⟩ := h2.from j h5 h6
  obtain ⟨i', g1, g2, g3⟩ := h1.from i h3 h4
  rw [e3, g3, h1.out j' (by omega)]
  exact hl i' j' g1 g2 e1 e2

theorem srt_out {key : Nat → Int} {a b c d : Nat} {f g : Nat → Nat} (h : Srt key a b f) (hp : Prm c d f g) (hd : b ≤ c ∨ d ≤ a) : Srt key a b g := by
  intro i j h3 h4 h5
  rw [hp.out i (by omega), hp.out j (by omega)]
  exact h i j h3 h4 h5

theorem crs_out {key : Nat → Int} {a m b c d : Nat} {f g : Nat → Nat} (h : Crs key a m b f) (hp : Prm c d f g) (hd : b ≤ c ∨ d ≤ a) : Crs key a m b g := by
  intro i j h3 h4 h5 h6
  rw [hp.out i (by omega), hp.out j (by omega)]
  exact h i j h3 h4 h5 h6

/-- the binary search of the great case has found the place -/
theorem parts_of {key : Nat → Int} {a m b lo hi s nn : Nat} {f : Nat → Nat} (ham : a < m) (hmb : m < b) (hl : Srt key a m f) (hr : Srt key m b f) (hc : Crs key a m b f)
    (hlo : lo ≤ s) (hhi : s ≤ hi) (hlm : hi ≤ m) (hla : a ≤ lo) (hn1 : m + s ≤ nn) (hn2 : nn ≤ b + s) (e1 : lo = a ∨ nn = b + lo) (e2 : hi = m ∨ nn = m + hi)
    (b1 : ∀ c, lo ≤ c → c < s → ¬ key (f c) < key (f (nn - 1 - c))) (b2 : ∀ c, s ≤ c → c < hi → key (f c) < key (f (nn - 1 - c))) : Parts key a s m (nn - s) b f := by
  constructor
  · intro i j h1 h2 h3 h4
    have h5 : lo < s := by omega
    have hb := b1 (s - 1) (by omega) (by omega)
    rw [show nn - 1 - (s - 1) = nn - s by omega] at hb
    have hx : Lt key (f (s - 1)) (f (nn - s)) := by
      by_cases e : key (f (s - 1)) = key (f (nn - s))
      · exact .inr ⟨e, hc _ _ (by omega) (by omega) (by omega) (by omega) e⟩
      · exact .inl (by omega)
    have hy : Lt key (f i) (f (nn - s)) := by
      by_cases e : i = s - 1
      · subst e; exact hx
      · exact (hl i (s - 1) h1 (by omega) (by omega)).trans hx
    by_cases e : j = nn - s
    · subst e; exact hy
    · exact hy.trans (hr (nn - s) j (by omega) (by omega) h4)
  · intro i j h1 h2 h3 h4
    have h5 : s < hi := by omega
    have hb := b2 s (Nat.le_refl _) h5
    have hx : Lt key (f (nn - 1 - s)) (f s) := .inl hb
    have hy : Lt key (f j) (f s) := by
      by_cases e : j = nn - 1 - s
      · subst e; exact hx
      · exact (hr j (nn - 1 - s) h3 (by omega) (by omega)).trans hx
    by_cases e : i = s
    · subst e; exact hy
    · exact hy.trans (hl s i (by omega) (by omega) h2)

/-- keys fall along an ordered run -/
theorem srt_key {key : Nat → Int} {a b i j : Nat} {f : Nat → Nat} (h : Srt key a b f) (h1 : a ≤ i) (h2 : i ≤ j) (h3 : j < b) : key (f j) ≤ key (f i) := by
  by_cases e : i = j
  · subst e; exact Int.le_refl _
  · have := h i j h1 (by omega) h3
    unfold Lt at this; omega

end Go.Proofs.Ytalfbhkgjfkneaa
