/- slices.stable at []int: plain facts on its blocks, and symMerge at every size. -/
import Derived.Test.YtalfbhkgjfkneaaSymC
namespace Go.Proofs.Ytalfbhkgjfkneaa
set_option linter.unusedVariables false

theorem sym_any (key : Nat → Int) (C R D n c ck : Nat) (hn : n ≤ 1073741824) (hC : C ≠ D) (hR : R ≠ D) : ∀ N : Nat, SymHyp key C R D n c ck N := by
  intro N
  induction N with
  | zero => intro f a m b ia im ib w h; omega
  | succ N ih =>
    intro f a m b ia im ib w hN ea em eb hB hE hv hl hr hc h1 h2 h3
    subst ea; subst em; subst eb
    have ih' : SymHyp key C R D n c ck (b - a) := fun f' a' m' b' ia' im' ib' w' hN' => ih f' a' m' b' ia' im' ib' w' (by omega)
    by_cases e1 : m = a + 1
    · subst e1
      exact sym_a key C R D n c ck f a b _ w (by omega) (by omega) hB hE hv hr hc h2 h3 hn hC hR
    · by_cases e2 : b = m + 1
      · subst e2
        exact sym_b key C R D n c ck f a m _ w (by omega) (by omega) hB hE hv hl hc (by omega) h3 hn hC hR
      · exact sym_c key C R D n c ck f a m b ((a + b) / 2) w (by omega) hB hE hv hl hr hc (by omega) (by omega) h3 hn hC hR ih'

/-- the block of bs places from p on is in order, and holds its own numbers -/
def BlkS (key : Nat → Int) (n bs : Nat) (g : Nat → Nat) (p : Nat) : Prop :=
  (∀ k, p ≤ k → k < p + bs → k < n → p ≤ g k ∧ g k < p + bs) ∧ (∀ i j, p ≤ i → i < j → j < p + bs → j < n → Lt key (g i) (g j))

theorem BlkS.congr {key : Nat → Int} {n bs p : Nat} {g h : Nat → Nat} (H : BlkS key n bs g p) (e : ∀ k, p ≤ k → k < p + bs → h k = g k) : BlkS key n bs h p := by
  refine ⟨fun k h1 h2 h3 => ?_, fun i j h1 h2 h3 h4 => ?_⟩
  · rw [e k h1 h2]; exact H.1 k h1 h2 h3
  · rw [e i h1 (by omega), e j (by omega) h3]; exact H.2 i j h1 h2 h3 h4

theorem BlkS.far {key : Nat → Int} {n bs p : Nat} {g : Nat → Nat} (h : n ≤ p) : BlkS key n bs g p :=
  ⟨fun k h1 h2 h3 => by omega, fun i j h1 h2 h3 h4 => by omega⟩

def InsS (key : Nat → Int) (n a : Nat) (g : Nat → Nat) : Prop :=
  (∀ u, 20 * u + 20 ≤ a → BlkS key n 20 g (20 * u)) ∧ (∀ k, a ≤ k → k < n → g k = k)

theorem insS_asc {key : Nat → Int} {n a e : Nat} {g : Nat → Nat} (H : InsS key n a g) (he : e ≤ n) : Asc key a e g := by
  intro i j h1 h2 h3 _
  rw [H.2 i h1 (by omega), H.2 j (by omega) (by omega)]; exact h2

theorem insS_step {key : Nat → Int} {n a e t : Nat} {g h : Nat → Nat} (H : InsS key n a g) (ha : a = 20 * t) (he : e ≤ n) (h1 : e ≤ a + 20) (h2 : e = a + 20 ∨ e = n) (hp : Prm a e g h) (hs : Srt key a e h) : InsS key n (a + 20) h := by
  refine ⟨fun u hu => ?_, fun k h3 h4 => ?_⟩
  · by_cases c : 20 * u + 20 ≤ a
    · exact (H.1 u c).congr fun k h3 h4 => hp.out k (by omega)
    · obtain rfl : u = t := by omega
      refine ⟨fun k h3 h4 h5 => ?_, fun i j h3 h4 h5 h6 => hs i j (by omega) h4 (by omega)⟩
      obtain ⟨j, g1, g2, g3⟩ := hp.from k (by omega) (by omega)
      rw [g3, H.2 j g1 (by omega)]; omega
  · rw [hp.out k (by omega)]; exact H.2 k (by omega) h4

theorem insS_end {key : Nat → Int} {n a t : Nat} {g : Nat → Nat} (H : InsS key n (a + 20) g) (ha : a = 20 * t) (h : n ≤ a + 20) : ∀ u, BlkS key n 20 g (20 * u) := by
  intro u
  by_cases c : 20 * u + 20 ≤ a + 20
  · exact H.1 u c
  · exact BlkS.far (by omega)

def MidS (key : Nat → Int) (n bs a : Nat) (g : Nat → Nat) : Prop :=
  (∀ u, 2 * bs * u + 2 * bs ≤ a → BlkS key n (2 * bs) g (2 * bs * u)) ∧ (∀ u, a ≤ bs * u → BlkS key n bs g (bs * u))

theorem midS_start {key : Nat → Int} {n bs : Nat} {g : Nat → Nat} (h : 0 < bs) (H : ∀ u, BlkS key n bs g (bs * u)) : MidS key n bs 0 g :=
  ⟨fun u hu => by omega, fun u _ => H u⟩

theorem midS_l {key : Nat → Int} {n bs a t : Nat} {g : Nat → Nat} (H : MidS key n bs a g) (ha : a = 2 * bs * t) : BlkS key n bs g a := by
  have e : bs * (2 * t) = a := by rw [ha, Nat.mul_comm 2 bs, Nat.mul_assoc]
  have := H.2 (2 * t) (by omega)
  rw [e] at this; exact this

theorem midS_r {key : Nat → Int} {n bs a t : Nat} {g : Nat → Nat} (H : MidS key n bs a g) (ha : a = 2 * bs * t) : BlkS key n bs g (a + bs) := by
  have e : bs * (2 * t + 1) = a + bs := by rw [ha, Nat.mul_add, Nat.mul_one, Nat.mul_comm 2 bs, Nat.mul_assoc]
  have := H.2 (2 * t + 1) (by omega)
  rw [e] at this; exact this

theorem midS_req {key : Nat → Int} {n bs a e t : Nat} {g : Nat → Nat} (H : MidS key n bs a g) (ha : a = 2 * bs * t) (he : e ≤ n) (h1 : e ≤ a + 2 * bs) (h2 : a + bs < e) :
    Srt key a (a + bs) g ∧ Srt key (a + bs) e g ∧ Crs key a (a + bs) e g := by
  have L := midS_l H ha
  have R := midS_r H ha
  refine ⟨fun i j h3 h4 h5 => L.2 i j h3 h4 h5 (by omega), fun i j h3 h4 h5 => R.2 i j h3 h4 (by omega) (by omega), fun i j h3 h4 h5 h6 _ => ?_⟩
  have := L.1 i h3 h4 (by omega)
  have := R.1 j h5 (by omega) (by omega)
  omega

theorem mul_lt_step {d u t : Nat} (h : u < t) : d * u + d ≤ d * t := by
  have := Nat.mul_le_mul_left d (show u + 1 ≤ t from h)
  rw [Nat.mul_add, Nat.mul_one] at this; exact this

theorem midS_step {key : Nat → Int} {n bs a e t : Nat} {g h : Nat → Nat} (hb : 0 < bs) (H : MidS key n bs a g) (ha : a = 2 * bs * t) (he : e ≤ n) (h1 : e ≤ a + 2 * bs) (h2 : a + bs < e) (h0 : e = a + 2 * bs ∨ e = n)
    (hp : Prm a e g h) (hs : Srt key a e h) : MidS key n bs (a + 2 * bs) h := by
  have L := midS_l H ha
  have R := midS_r H ha
  refine ⟨fun u hu => ?_, fun u hu => (H.2 u (by omega)).congr fun k h3 h4 => hp.out k (by omega)⟩
  by_cases c : 2 * bs * u + 2 * bs ≤ a
  · exact (H.1 u c).congr fun k h3 h4 => hp.out k (by omega)
  · have hut : u = t := by
      by_cases c1 : u < t
      · have := mul_lt_step (d := 2 * bs) c1; omega
      · by_cases c2 : t < u
        · have := mul_lt_step (d := 2 * bs) c2; omega
        · omega
    subst hut
    rw [← ha]
    refine ⟨fun k h3 h4 h5 => ?_, fun i j h3 h4 h5 h6 => hs i j h3 h4 (by omega)⟩
    obtain ⟨j, g1, g2, g3⟩ := hp.from k h3 (by omega)
    rw [g3]
    by_cases c3 : j < a + bs
    · have := L.1 j g1 c3 (by omega); omega
    · have := R.1 j (by omega) (by omega) (by omega); omega

theorem midS_end {key : Nat → Int} {n bs a t : Nat} {g : Nat → Nat} (H : MidS key n bs (a + 2 * bs) g) (ha : a = 2 * bs * t) (h : n ≤ a + 2 * bs) : ∀ u, BlkS key n (2 * bs) g (2 * bs * u) := by
  intro u
  by_cases c : 2 * bs * u + 2 * bs ≤ a + 2 * bs
  · exact H.1 u c
  · by_cases c2 : t < u
    · have := mul_lt_step (d := 2 * bs) c2
      exact BlkS.far (by omega)
    · exfalso
      have := Nat.mul_le_mul_left (2 * bs) (show u ≤ t by omega)
      omega

theorem midS_short {key : Nat → Int} {n bs a t : Nat} {g : Nat → Nat} (H : MidS key n bs a g) (ha : a = 2 * bs * t) (h : n ≤ a + bs) : ∀ u, BlkS key n (2 * bs) g (2 * bs * u) := by
  intro u
  by_cases c : 2 * bs * u + 2 * bs ≤ a
  · exact H.1 u c
  · by_cases c2 : t < u
    · have := mul_lt_step (d := 2 * bs) c2
      exact BlkS.far (by omega)
    · have hut : u = t := by
        by_cases c1 : u < t
        · have := mul_lt_step (d := 2 * bs) c1; omega
        · omega
      subst hut
      rw [← ha]
      have L := midS_l H ha
      refine ⟨fun k h3 h4 h5 => ?_, fun i j h3 h4 h5 h6 => L.2 i j h3 h4 (by omega) h6⟩
      have := L.1 k h3 (by omega) h5; omega

theorem blkS_all {key : Nat → Int} {n bs : Nat} {g : Nat → Nat} (H : ∀ u, BlkS key n bs g (bs * u)) (h : n ≤ bs) : Srt key 0 n g := by
  intro i j h1 h2 h3
  have := H 0
  rw [Nat.mul_zero] at this
  exact this.2 i j h1 h2 (by omega) h3

end Go.Proofs.Ytalfbhkgjfkneaa
