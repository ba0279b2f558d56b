/- Merged: Ton, Once. -/
import Derived.Test.YtpphiekbhikadaaDoorTrx1
import Derived.Defers
import Derived.Laws.Pointers
import Derived.Laws.NewBlocks
import Derived.ChangeAlike

/- Tontines: numbers: who lives, what stays in the chest, what members get; the state behind some years. -/
namespace Go.Proofs.YtpphiekbhikadaaDoor
open Go.ChangeShapes Go.WideShapes Go.ChangeAt Go.RowKit
set_option linter.unusedVariables false

/-- strictly increasing behind p, below n -/
def incB (p n : Int) : List Int → Bool
  | [] => true
  | d :: ds => decide (p < d) && decide (d < n) && incB d n ds

/-- the last number, p if there is none -/
def lstI (p : Int) : List Int → Int
  | [] => p
  | d :: ds => lstI d ds

theorem lstI_snoc (xs : List Int) (x : Int) : ∀ p, lstI p (xs ++ [x]) = x := by
  induction xs with
  | nil => intro p; rfl
  | cons d ds ih => intro p; exact ih d

theorem lstI_take (p : Int) (xs : List Int) (k : Nat) (hk : k < xs.length) : lstI p (xs.take (k + 1)) = xs.getD k 0 := by
  rw [List.take_add_one, List.getElem?_eq_getElem hk, Option.toList_some, lstI_snoc]
  simp [List.getD, List.getElem?_eq_getElem hk]

theorem inc_snoc (n : Int) (xs : List Int) (x : Int) : ∀ p, incB p n (xs ++ [x]) = (incB p n xs && decide (lstI p xs < x) && decide (x < n)) := by
  induction xs with
  | nil =>
    intro p
    show (decide (p < x) && decide (x < n) && true) = (true && decide (p < x) && decide (x < n))
    rw [Bool.and_true, Bool.true_and]
  | cons d ds ih =>
    intro p
    show (decide (p < d) && decide (d < n) && incB d n (ds ++ [x])) = (decide (p < d) && decide (d < n) && incB d n ds && decide (lstI d ds < x) && decide (x < n))
    rw [ih d]
    simp only [Bool.and_assoc]

theorem inc_step (p n : Int) (xs : List Int) (k : Nat) (hk : k < xs.length) : incB p n (xs.take (k + 1)) = (incB p n (xs.take k) && decide (lstI p (xs.take k) < xs.getD k 0) && decide (xs.getD k 0 < n)) := by
  rw [List.take_add_one, List.getElem?_eq_getElem hk, Option.toList_some, inc_snoc]
  simp [List.getD, List.getElem?_eq_getElem hk]

theorem inc_pre (n : Int) (xs ys : List Int) : ∀ p, incB p n (xs ++ ys) = true → incB p n xs = true := by
  induction xs with
  | nil => intro p _; rfl
  | cons d ds ih =>
    intro p h
    simp [incB] at h ⊢
    exact ⟨h.1, ih d h.2⟩

theorem inc_bad {p n : Int} {xs : List Int} {k : Nat} (h : incB p n (xs.take k) = false) : incB p n xs = false := by
  cases hx : incB p n xs with
  | false => rfl
  | true =>
    have := inc_pre n (xs.take k) (xs.drop k) p (by rw [List.take_append_drop]; exact hx)
    rw [h] at this; cases this

theorem inc_iff (n : Int) (xs : List Int) : ∀ p, incB p n xs = true ↔ (∀ d ∈ xs, p < d ∧ d < n) ∧ xs.Pairwise (· < ·) := by
  induction xs with
  | nil => intro p; simp [incB]
  | cons d ds ih =>
    intro p
    simp only [incB, Bool.and_eq_true, decide_eq_true_iff, ih d, List.pairwise_cons, List.mem_cons, forall_eq_or_imp]
    constructor
    · rintro ⟨⟨h1, h2⟩, h3, h4⟩
      exact ⟨⟨⟨h1, h2⟩, fun a ha => ⟨by have := (h3 a ha).1; omega, (h3 a ha).2⟩⟩, fun a ha => (h3 a ha).1, h4⟩
    · rintro ⟨⟨⟨h1, h2⟩, h3⟩, h4, h5⟩
      exact ⟨⟨h1, h2⟩, fun a ha => ⟨h4 a ha, (h3 a ha).2⟩, h5⟩

theorem inc_len (n : Int) (xs : List Int) : ∀ p, p < n → incB p n xs = true → (xs.length : Int) ≤ n - 1 - p := by
  induction xs with
  | nil => intro p hp _; simp; omega
  | cons d ds ih =>
    intro p hp h
    simp [incB] at h
    have := ih d h.1.2 h.2
    simp only [List.length_cons]
    omega

theorem lst_ge (n : Int) (xs : List Int) : ∀ p, incB p n xs = true → p ≤ lstI p xs := by
  induction xs with
  | nil => intro p _; exact Int.le_refl _
  | cons d ds ih =>
    intro p h
    simp [incB] at h
    have := ih d h.2
    show p ≤ lstI d ds
    omega

/-- a valid class -/
def tcB (sh de : List Int) (ch : Int) : Bool :=
  inB sh.length 1 60 && inB ch 0 1000000000000 && sh.all (fun x => inB x 1 1000) && incB (-1) sh.length de

structure TcOk (sh de : List Int) (ch : Int) : Prop where
  n0 : 1 ≤ sh.length
  n1 : sh.length ≤ 60
  c0 : 0 ≤ ch
  c1 : ch ≤ 1000000000000
  s : ∀ x ∈ sh, 1 ≤ x ∧ x ≤ 1000
  d : incB (-1) sh.length de = true

theorem tc_iff {sh de : List Int} {ch : Int} : tcB sh de ch = true ↔ TcOk sh de ch := by
  unfold tcB
  simp only [Bool.and_eq_true, inB_iff, List.all_eq_true]
  constructor
  · rintro ⟨⟨⟨⟨h1, h2⟩, h3, h4⟩, h5⟩, h6⟩
    exact ⟨by omega, by omega, h3, h4, h5, h6⟩
  · rintro ⟨h1, h2, h3, h4, h5, h6⟩
    exact ⟨⟨⟨⟨by omega, by omega⟩, h3, h4⟩, h5⟩, h6⟩

theorem TcOk.dl {sh de : List Int} {ch : Int} (h : TcOk sh de ch) : de.length ≤ sh.length := by
  have h1 := inc_len _ _ _ (by have := h.n0; omega) h.d
  omega

theorem TcOk.get {sh de : List Int} {ch : Int} (h : TcOk sh de ch) (i : Nat) : 0 ≤ sh.getD i 0 ∧ sh.getD i 0 ≤ 1000 := by
  by_cases hi : i < sh.length
  · rw [List.getD_eq_getElem?_getD, List.getElem?_eq_getElem hi]
    have := h.s _ (List.getElem_mem hi)
    simp; omega
  · rw [List.getD_eq_getElem?_getD, List.getElem?_eq_none (by omega)]
    simp

theorem TcOk.mem {sh de : List Int} {ch : Int} (h : TcOk sh de ch) : ∀ d ∈ de, 0 ≤ d ∧ d < sh.length := fun d hd => by
  have := ((inc_iff _ _ _).1 h.d).1 d hd
  omega

/-- dead are those whom D tells -/
def hasD (D : List Int) (i : Nat) : Bool := decide ((i : Int) ∈ D)

/-- the numbers of the living below n -/
def livL (D : List Int) (n : Nat) : List Nat := (List.range n).filter fun i => !hasD D i

/-- the numbers of the dead below n, in order -/
def canD (D : List Int) (n : Nat) : List Int := ((List.range n).filter fun i => hasD D i).map fun i : Nat => (i : Int)

theorem liv_mem {D : List Int} {n i : Nat} : i ∈ livL D n ↔ i < n ∧ (i : Int) ∉ D := by
  simp [livL, hasD]

theorem can_mem {D : List Int} {n : Nat} {x : Int} : x ∈ canD D n ↔ (0 ≤ x ∧ x < n) ∧ x ∈ D := by
  simp only [canD, List.mem_map, List.mem_filter, List.mem_range, hasD, decide_eq_true_iff]
  constructor
  · rintro ⟨a, ⟨h1, h2⟩, rfl⟩
    exact ⟨⟨by omega, by omega⟩, h2⟩
  · rintro ⟨⟨h1, h2⟩, h3⟩
    exact ⟨x.toNat, ⟨by omega, by rw [Int.toNat_of_nonneg h1]; exact h3⟩, Int.toNat_of_nonneg h1⟩

theorem range_asc (n : Nat) : (List.range n).Pairwise (· < ·) := List.pairwise_lt_range

theorem liv_asc (D : List Int) (n : Nat) : (livL D n).Pairwise (· < ·) := (range_asc n).filter _

theorem can_asc (D : List Int) (n : Nat) : (canD D n).Pairwise (· < ·) := by
  unfold canD
  rw [List.pairwise_map]
  exact ((range_asc n).filter _).imp (fun h => by omega)

theorem asc_ext {α : Type} (r : α → α → Prop) (irr : ∀ a b, r a b → r b a → False) : ∀ xs ys : List α, xs.Pairwise r → ys.Pairwise r → (∀ a, a ∈ xs ↔ a ∈ ys) → xs = ys
  | [], [], _, _, _ => rfl
  | [], y :: ys, _, _, h => by have := (h y).2 (List.mem_cons_self ..); cases this
  | x :: xs, [], _, _, h => by have := (h x).1 (List.mem_cons_self ..); cases this
  | x :: xs, y :: ys, hx, hy, h => by
    rw [List.pairwise_cons] at hx hy
    have hxy : x = y := by
      rcases List.mem_cons.1 ((h x).1 (List.mem_cons_self ..)) with e | e
      · exact e
      · rcases List.mem_cons.1 ((h y).2 (List.mem_cons_self ..)) with f | f
        · exact f.symm
        · exact (irr _ _ (hx.1 y f) (hy.1 x e)).elim
    subst hxy
    rw [asc_ext r irr xs ys hx.2 hy.2 (fun a => ⟨fun ha => by
        rcases List.mem_cons.1 ((h a).1 (List.mem_cons_of_mem _ ha)) with e | e
        · subst e; exact (irr _ _ (hx.1 a ha) (hx.1 a ha)).elim
        · exact e, fun ha => by
        rcases List.mem_cons.1 ((h a).2 (List.mem_cons_of_mem _ ha)) with e | e
        · subst e; exact (irr _ _ (hy.1 a ha) (hy.1 a ha)).elim
        · exact e⟩)]

theorem asc_extI {xs ys : List Int} (hx : xs.Pairwise (· < ·)) (hy : ys.Pairwise (· < ·)) (h : ∀ a, a ∈ xs ↔ a ∈ ys) : xs = ys :=
  asc_ext (· < ·) (fun a b h1 h2 => by omega) xs ys hx hy h

theorem asc_extN {xs ys : List Nat} (hx : xs.Pairwise (· < ·)) (hy : ys.Pairwise (· < ·)) (h : ∀ a, a ∈ xs ↔ a ∈ ys) : xs = ys :=
  asc_ext (· < ·) (fun a b h1 h2 => by omega) xs ys hx hy h

theorem inc_can {n : Nat} {de : List Int} (h : incB (-1) n de = true) : canD de n = de := by
  obtain ⟨h1, h2⟩ := (inc_iff _ _ _).1 h
  refine asc_extI (can_asc _ _) h2 fun a => ?_
  rw [can_mem]
  exact ⟨fun ha => ha.2, fun ha => ⟨⟨by have := (h1 a ha).1; omega, (h1 a ha).2⟩, ha⟩⟩

theorem can_inc (D : List Int) (n : Nat) : incB (-1) n (canD D n) = true :=
  (inc_iff _ _ _).2 ⟨fun d hd => by have := (can_mem.1 hd).1; omega, can_asc _ _⟩

theorem can_same {D E : List Int} {n : Nat} (h : ∀ x, x ∈ D ↔ x ∈ E) : canD D n = canD E n := by
  refine asc_extI (can_asc _ _) (can_asc _ _) fun a => ?_
  rw [can_mem, can_mem, h]

/-- one more is put where it belongs -/
theorem can_ins {D : List Int} {n : Nat} {m : Int} {at_ : Nat} (hm : m ∉ D) (m0 : 0 ≤ m) (m1 : m < n) (ha : at_ ≤ (canD D n).length)
    (hb : ∀ k, k < at_ → (canD D n).getD k 0 < m) (hc : at_ < (canD D n).length → ¬ (canD D n).getD at_ 0 < m) :
    (canD D n).take at_ ++ m :: (canD D n).drop at_ = canD (D ++ [m]) n := by
  have hA := can_asc D n
  have hM : ∀ x, x ∈ canD D n ↔ (0 ≤ x ∧ x < n) ∧ x ∈ D := fun x => can_mem
  generalize canD D n = Z at *
  have hlo : ∀ x ∈ Z.take at_, x < m := by
    intro x hx
    obtain ⟨k, hk, rfl⟩ := List.getElem_of_mem hx
    have hk1 : k < at_ := by simp at hk; omega
    have hk2 : k < Z.length := by simp at hk; omega
    have := hb k hk1
    rw [List.getD_eq_getElem?_getD, List.getElem?_eq_getElem hk2] at this
    simpa using this
  have hhi : ∀ x ∈ Z.drop at_, m < x := by
    intro x hx
    obtain ⟨k, hk, rfl⟩ := List.getElem_of_mem hx
    simp at hk
    have h0 : at_ < Z.length := by omega
    have h1 := hc h0
    have h2 : Z[at_] ∈ D := ((hM _).1 (List.getElem_mem h0)).2
    rw [List.getD_eq_getElem?_getD, List.getElem?_eq_getElem h0] at h1
    simp at h1
    have h3 : Z[at_] ≠ m := fun e => hm (e ▸ h2)
    rw [List.getElem_drop]
    by_cases hk0 : k = 0
    · subst hk0; simp; omega
    · have := (List.pairwise_iff_getElem.1 hA) at_ (at_ + k) h0 (by omega) (by omega)
      omega
  refine asc_extI ?_ (can_asc _ _) fun a => ?_
  · rw [List.pairwise_append, List.pairwise_cons]
    refine ⟨hA.sublist (List.take_sublist _ _), ⟨hhi, hA.sublist (List.drop_sublist _ _)⟩, ?_⟩
    intro a ha b hb2
    have h1 := hlo a ha
    rcases List.mem_cons.1 hb2 with rfl | h2
    · exact h1
    · have := hhi b h2; omega
  · rw [can_mem, List.mem_append, List.mem_cons]
    have hz : a ∈ Z ↔ a ∈ Z.take at_ ∨ a ∈ Z.drop at_ := by rw [← List.mem_append, List.take_append_drop]
    have := hM a
    simp only [List.mem_append, List.mem_singleton]
    constructor
    · rintro (h | h | h)
      · have := this.1 (hz.2 (.inl h)); exact ⟨this.1, .inl this.2⟩
      · subst h; exact ⟨⟨m0, m1⟩, .inr rfl⟩
      · have := this.1 (hz.2 (.inr h)); exact ⟨this.1, .inl this.2⟩
    · rintro ⟨h1, h2 | h2⟩
      · rcases hz.1 (this.2 ⟨h1, h2⟩) with h | h
        · exact .inl h
        · exact .inr (.inr h)
      · exact .inr (.inl h2)

/-- who is unlinked lives no more -/
theorem liv_cut {D : List Int} {n j : Nat} (hj : j < (livL D n).length) :
    (livL D n).take j ++ (livL D n).drop (j + 1) = livL (D ++ [(((livL D n).getD j 0 : Nat) : Int)]) n := by
  have hA := liv_asc D n
  have hM : ∀ x, x ∈ livL D n ↔ x < n ∧ (x : Int) ∉ D := fun x => liv_mem
  generalize livL D n = Z at *
  rw [← List.eraseIdx_eq_take_drop_succ]
  have hg : Z.getD j 0 = Z[j] := by rw [List.getD_eq_getElem?_getD, List.getElem?_eq_getElem hj]; rfl
  rw [hg]
  have hP := List.pairwise_iff_getElem.1 hA
  refine asc_extN (hA.sublist (List.eraseIdx_sublist _ _)) (liv_asc _ _) fun a => ?_
  rw [liv_mem, List.mem_append, List.mem_singleton, List.mem_eraseIdx_iff_getElem?]
  constructor
  · rintro ⟨i, hi, he⟩
    rw [List.getElem?_eq_some_iff] at he
    obtain ⟨hl, rfl⟩ := he
    have h1 := (hM _).1 (List.getElem_mem hl)
    refine ⟨h1.1, ?_⟩
    rintro (h | h)
    · exact h1.2 h
    · rcases Nat.lt_or_gt_of_ne hi with h2 | h2
      · have := hP i j hl hj h2; omega
      · have := hP j i hj hl h2; omega
  · rintro ⟨h1, h2⟩
    obtain ⟨i, hl, rfl⟩ := List.getElem_of_mem ((hM a).2 ⟨h1, fun h => h2 (.inl h)⟩)
    exact ⟨i, fun e => h2 (.inr (by subst e; rfl)), List.getElem?_eq_getElem hl⟩

theorem liv_nil (n : Nat) : livL [] n = List.range n := by simp [livL, hasD]

/-- the shares of the living -/
def lsV (sh : List Int) (D : List Int) : Int := ((livL D sh.length).map fun i => sh.getD i 0).sum

theorem liv_step (D : List Int) (k : Nat) : livL D (k + 1) = livL D k ++ (if hasD D k = true then [] else [k]) := by
  simp only [livL, List.range_succ, List.filter_append]
  congr 1
  cases h : hasD D k <;> simp [h]

theorem liv_pre (D : List Int) (i : Nat) : ∀ n, i ≤ n → ∃ r, livL D n = livL D i ++ r
  | 0, h => ⟨[], by obtain rfl : i = 0 := by omega
                    simp⟩
  | n + 1, h => by
    by_cases e : i = n + 1
    · subst e; exact ⟨[], by simp⟩
    · obtain ⟨r, hr⟩ := liv_pre D i n (by omega)
      exact ⟨r ++ (if hasD D n = true then [] else [n]), by rw [liv_step, hr, List.append_assoc]⟩

theorem liv_at {D : List Int} {i n : Nat} (hi : i < n) (hd : (i : Int) ∉ D) : (livL D n)[(livL D i).length]? = some i ∧ (livL D (i + 1)).length = (livL D i).length + 1 := by
  obtain ⟨r, hr⟩ := liv_pre D (i + 1) n hi
  have hs : livL D (i + 1) = livL D i ++ [i] := by rw [liv_step, if_neg (by simp [hasD, hd])]
  rw [hr, hs]
  simp

theorem liv_not {D : List Int} {i n : Nat} (hd : (i : Int) ∈ D) (k : Nat) : (livL D n)[k]? ≠ some i ∧ (livL D (i + 1)).length = (livL D i).length := by
  refine ⟨fun h => (liv_mem.1 (List.mem_of_getElem? h)).2 hd, ?_⟩
  rw [liv_step, if_pos (by simp [hasD, hd])]
  simp

theorem can_step (D : List Int) (k : Nat) : canD D (k + 1) = canD D k ++ (if hasD D k = true then [(k : Int)] else []) := by
  simp only [canD, List.range_succ, List.filter_append, List.map_append]
  congr 1
  cases h : hasD D k <;> simp [h]

theorem sum_in {f : Nat → Int} {L : List Nat} (h0 : ∀ i ∈ L, 0 ≤ f i) : 0 ≤ (L.map f).sum := by
  induction L with
  | nil => simp
  | cons a r ih =>
    simp only [List.map_cons, List.sum_cons]
    have := ih fun i hi => h0 i (List.mem_cons_of_mem _ hi)
    have := h0 a (List.mem_cons_self ..)
    omega

theorem sum_most {f : Nat → Int} {L : List Nat} {M : Int} (h0 : ∀ i ∈ L, f i ≤ M) : (L.map f).sum ≤ L.length * M := by
  induction L with
  | nil => simp
  | cons a r ih =>
    simp only [List.map_cons, List.sum_cons, List.length_cons]
    have := ih fun i hi => h0 i (List.mem_cons_of_mem _ hi)
    have := h0 a (List.mem_cons_self ..)
    have e : ((r.length + 1 : Nat) : Int) * M = r.length * M + M := by rw [Int.natCast_add, Int.add_mul]; simp
    omega

theorem liv_len (D : List Int) (n : Nat) : (livL D n).length ≤ n := by
  have := List.length_filter_le (fun i => !hasD D i) (List.range n)
  simpa [livL] using this

theorem TcOk.part {sh de : List Int} {ch : Int} (h : TcOk sh de ch) (L : List Nat) (hL : L.length ≤ 60) : 0 ≤ (L.map fun i => sh.getD i 0).sum ∧ (L.map fun i => sh.getD i 0).sum ≤ 60000 := by
  have h1 := sum_in (f := fun i => sh.getD i 0) (L := L) fun i _ => (h.get i).1
  have h2 := sum_most (f := fun i => sh.getD i 0) (L := L) (M := 1000) fun i _ => (h.get i).2
  exact ⟨h1, by omega⟩

theorem TcOk.ls {sh de : List Int} {ch : Int} (h : TcOk sh de ch) (D : List Int) : 0 ≤ lsV sh D ∧ lsV sh D ≤ 60000 :=
  h.part _ (Nat.le_trans (liv_len _ _) h.n1)

theorem TcOk.pos {sh de : List Int} {ch : Int} (h : TcOk sh de ch) (D : List Int) (hl : livL D sh.length ≠ []) : 1 ≤ lsV sh D := by
  unfold lsV
  have hm : ∀ i ∈ livL D sh.length, i < sh.length := fun i hi => (liv_mem.1 hi).1
  generalize livL D sh.length = L at *
  match L, hl, hm with
  | a :: r, _, hm =>
    simp only [List.map_cons, List.sum_cons]
    have h1 := sum_in (f := fun i => sh.getD i 0) (L := r) fun i _ => (h.get i).1
    have h2 := hm a (List.mem_cons_self ..)
    have h3 := h.s _ (List.getElem_mem h2)
    rw [List.getD_eq_getElem?_getD, List.getElem?_eq_getElem h2]
    simp only [Option.getD_some]
    omega

theorem TcOk.none {sh de : List Int} {ch : Int} (h : TcOk sh de ch) (D : List Int) : livL D sh.length = [] ↔ lsV sh D = 0 := by
  constructor
  · intro e; unfold lsV; rw [e]; rfl
  · intro e
    cases hl : livL D sh.length with
    | nil => rfl
    | cons a r =>
      have := h.pos D (by rw [hl]; simp)
      omega

/-- what stays of t, and what each share gets -/
def chV (sh D : List Int) (t : Int) : Int := if lsV sh D = 0 then t else t % lsV sh D

def eaV (sh D : List Int) (t : Int) : Int := t / lsV sh D

/-- what the members have got, when those of L got e a share -/
def padL (sh : List Int) (L : List Nat) (e : Int) (Pd : List Int) : List Int :=
  (List.range Pd.length).map fun i => Pd.getD i 0 + if i ∈ L then e * sh.getD i 0 else 0

theorem padL_len (sh : List Int) (L : List Nat) (e : Int) (Pd : List Int) : (padL sh L e Pd).length = Pd.length := by simp [padL]

theorem padL_get (sh : List Int) (L : List Nat) (e : Int) (Pd : List Int) (i : Nat) (hi : i < Pd.length) : (padL sh L e Pd).getD i 0 = Pd.getD i 0 + if i ∈ L then e * sh.getD i 0 else 0 := by
  simp [padL, List.getD, hi]

theorem padL_nil (sh : List Int) (e : Int) (Pd : List Int) : padL sh [] e Pd = Pd := by
  apply List.ext_getElem
  · simp [padL]
  · intro i h1 h2
    simp [padL, List.getD, h2]

theorem padL_snoc (sh : List Int) (L : List Nat) (e : Int) (Pd : List Int) (k : Nat) (hk : k ∉ L) (hp : k < Pd.length) :
    (padL sh L e Pd).set k (Pd.getD k 0 + e * sh.getD k 0) = padL sh (L ++ [k]) e Pd := by
  apply List.ext_getElem
  · simp [padL]
  · intro i h1 h2
    have hi : i < Pd.length := by simpa [padL] using h2
    rw [List.getElem_set]
    by_cases he : k = i
    · subst he
      simp [padL]
    · rw [if_neg he]
      simp [padL, Ne.symm he]

/-- a year: the numbers of the dead, the chest, what has been paid -/
structure TSt where
  D : List Int
  ch : Int
  Pd : List Int

def buB (D : List Int) : List Int → Bool
  | [] => true
  | m :: ms => !decide (m ∈ D) && buB (D ++ [m]) ms

theorem bu_snoc (ms : List Int) (m : Int) : ∀ D, buB D (ms ++ [m]) = (buB D ms && !decide (m ∈ D ++ ms)) := by
  induction ms with
  | nil => intro D; simp [buB]
  | cons x xs ih =>
    intro D
    have := ih (D ++ [x])
    simp only [List.cons_append, buB, this, List.append_assoc, Bool.and_assoc, List.nil_append]

theorem bu_step (D ms : List Int) (k : Nat) (hk : k < ms.length) : buB D (ms.take (k + 1)) = (buB D (ms.take k) && !decide (ms.getD k 0 ∈ D ++ ms.take k)) := by
  rw [List.take_add_one, List.getElem?_eq_getElem hk, Option.toList_some, bu_snoc]
  simp [List.getD, List.getElem?_eq_getElem hk]

theorem bu_pre (xs ys : List Int) : ∀ D, buB D (xs ++ ys) = true → buB D xs = true := by
  induction xs with
  | nil => intro D _; rfl
  | cons x xs ih =>
    intro D h
    simp only [List.cons_append, buB, Bool.and_eq_true] at h ⊢
    exact ⟨h.1, ih _ h.2⟩

theorem bu_bad {D ms : List Int} {k : Nat} (h : buB D (ms.take k) = false) : buB D ms = false := by
  cases hx : buB D ms with
  | false => rfl
  | true =>
    have := bu_pre (ms.take k) (ms.drop k) D (by rw [List.take_append_drop]; exact hx)
    rw [h] at this; cases this

theorem bu_inc (n : Int) (ms : List Int) : ∀ p D, (∀ d ∈ D, d ≤ p) → incB p n ms = true → buB D ms = true := by
  induction ms with
  | nil => intro _ _ _ _; rfl
  | cons m ms ih =>
    intro p D hD h
    simp [incB] at h
    simp only [buB, Bool.and_eq_true, Bool.not_eq_true', decide_eq_false_iff_not]
    refine ⟨fun hm => by have := hD m hm; omega, ih m (D ++ [m]) ?_ h.2⟩
    intro d hd
    rcases List.mem_append.1 hd with h1 | h1
    · have := hD d h1; omega
    · simp at h1; omega

/-- a year's state and code -/
def tyV (sh : List Int) (s : TSt) (inc : Int) (ms : List Int) : TSt :=
  ⟨s.D ++ ms, chV sh (s.D ++ ms) (s.ch + inc), padL sh (livL (s.D ++ ms) sh.length) (eaV sh (s.D ++ ms) (s.ch + inc)) s.Pd⟩

def yrC (sh : List Int) (s : TSt) (inc : Int) (ms : List Int) : Int :=
  if buB s.D ms then (if chV sh (s.D ++ ms) (s.ch + inc) ≤ 1000000000000 then 0 else 3) else 5

/-- the state and the code behind k years -/
def rnV (sh : List Int) (s : TSt) (ins : List Int) (dss : List (List Int)) : Nat → TSt × Int
  | 0 => (s, 0)
  | k + 1 => if (rnV sh s ins dss k).2 = 0 then (tyV sh (rnV sh s ins dss k).1 (ins.getD k 0) (dss.getD k []), yrC sh (rnV sh s ins dss k).1 (ins.getD k 0) (dss.getD k [])) else rnV sh s ins dss k

theorem rn_good {sh : List Int} {s : TSt} {ins : List Int} {dss : List (List Int)} {k : Nat} (h : (rnV sh s ins dss k).2 = 0) : rnV sh s ins dss (k + 1) = (tyV sh (rnV sh s ins dss k).1 (ins.getD k 0) (dss.getD k []), yrC sh (rnV sh s ins dss k).1 (ins.getD k 0) (dss.getD k [])) := by
  show (if _ then _ else _) = _
  rw [if_pos h]

theorem rn_bad {sh : List Int} {s : TSt} {ins : List Int} {dss : List (List Int)} {k m : Nat} (h : (rnV sh s ins dss k).2 ≠ 0) (hk : k ≤ m) : (rnV sh s ins dss m).2 = (rnV sh s ins dss k).2 := by
  induction m with
  | zero => obtain rfl : k = 0 := by omega
            rfl
  | succ m ih =>
    by_cases e : k = m + 1
    · rw [e]
    · have h1 := ih (by omega)
      show (if _ then _ else _ : TSt × Int).2 = _
      rw [if_neg (by rw [h1]; exact h), h1]

/-- every state lies within bounds -/
structure TsOk (sh : List Int) (k : Nat) (s : TSt) : Prop where
  c0 : 0 ≤ s.ch
  c1 : s.ch ≤ 1000000000000
  p : s.Pd.length = sh.length
  p0 : ∀ i, 0 ≤ s.Pd.getD i 0 ∧ s.Pd.getD i 0 ≤ k * 1000100000000
  d : ∀ x ∈ s.D, 0 ≤ x ∧ x < sh.length

theorem ch_nums {sh de : List Int} {ch : Int} (h : TcOk sh de ch) (D : List Int) {t : Int} (t0 : 0 ≤ t) : 0 ≤ chV sh D t ∧ chV sh D t ≤ t ∧ (livL D sh.length ≠ [] → chV sh D t = t % lsV sh D ∧ chV sh D t < 60000) ∧ (livL D sh.length = [] → chV sh D t = t) := by
  unfold chV
  obtain ⟨h1, h2⟩ := h.ls D
  have h3 := h.none D
  by_cases hz : lsV sh D = 0
  · rw [if_pos hz]
    exact ⟨t0, Int.le_refl _, fun hn => absurd (h3.2 hz) hn, fun _ => rfl⟩
  · rw [if_neg hz]
    have m0 := Int.emod_nonneg t hz
    have m1 := Int.emod_lt_of_pos t (by omega : 0 < lsV sh D)
    have m2 := Int.emod_add_mul_ediv t (lsV sh D)
    have m3 : 0 ≤ lsV sh D * (t / lsV sh D) := Int.mul_nonneg h1 (Int.ediv_nonneg t0 h1)
    exact ⟨m0, by omega, fun _ => ⟨rfl, by omega⟩, fun e => absurd (h3.1 e) hz⟩

theorem ea_nums {sh de : List Int} {ch : Int} (h : TcOk sh de ch) (D : List Int) {t : Int} (t0 : 0 ≤ t) : 0 ≤ eaV sh D t ∧ eaV sh D t ≤ t ∧ ∀ i ∈ livL D sh.length, 0 ≤ eaV sh D t * sh.getD i 0 ∧ eaV sh D t * sh.getD i 0 ≤ t := by
  obtain ⟨h1, h2⟩ := h.ls D
  have e0 : 0 ≤ eaV sh D t := Int.ediv_nonneg t0 h1
  refine ⟨e0, Int.ediv_le_self _ t0, fun i hi => ⟨Int.mul_nonneg e0 (h.get i).1, ?_⟩⟩
  have hl : sh.getD i 0 ≤ lsV sh D := by
    unfold lsV
    obtain ⟨as_, bs, hL⟩ := List.append_of_mem hi
    rw [hL, List.map_append, List.sum_append, List.map_cons, List.sum_cons]
    have a0 := sum_in (f := fun i => sh.getD i 0) (L := as_) fun i _ => (h.get i).1
    have b0 := sum_in (f := fun i => sh.getD i 0) (L := bs) fun i _ => (h.get i).1
    omega
  have h4 : eaV sh D t * sh.getD i 0 ≤ eaV sh D t * lsV sh D := Int.mul_le_mul_of_nonneg_left hl e0
  have h5 : eaV sh D t * lsV sh D ≤ t := by
    unfold eaV
    by_cases hz : lsV sh D = 0
    · rw [hz]; simp; exact t0
    · exact Int.ediv_mul_le _ hz
  omega

theorem yr_ok {sh de : List Int} {ch : Int} (h : TcOk sh de ch) {k : Nat} {s : TSt} (hs : TsOk sh k s) {inc : Int} {ms : List Int} (i0 : 0 ≤ inc) (i1 : inc ≤ 100000000) (hm : ∀ x ∈ ms, 0 ≤ x ∧ x < sh.length)
    (hc : yrC sh s inc ms = 0) : TsOk sh (k + 1) (tyV sh s inc ms) := by
  have t0 : 0 ≤ s.ch + inc := by have := hs.c0; omega
  obtain ⟨c0, c1, -, -⟩ := ch_nums h (s.D ++ ms) t0
  obtain ⟨e0, e1, e2⟩ := ea_nums h (s.D ++ ms) t0
  refine ⟨c0, ?_, by simp only [tyV, padL_len]; exact hs.p, fun i => ?_, fun x hx => ?_⟩
  · unfold yrC at hc
    split at hc
    · split at hc
      · assumption
      · cases hc
    · cases hc
  · simp only [tyV]
    obtain ⟨q0, q1⟩ := hs.p0 i
    have := hs.c1
    by_cases hi : i < s.Pd.length
    · rw [padL_get _ _ _ _ _ hi]
      split
      · rename_i hl
        obtain ⟨g0, g1⟩ := e2 i hl
        constructor <;> omega
      · constructor <;> omega
    · rw [List.getD_eq_getElem?_getD, List.getElem?_eq_none (by rw [padL_len]; omega)]
      simp; omega
  · simp only [tyV] at hx
    rcases List.mem_append.1 hx with h1 | h1
    · exact hs.d x h1
    · exact hm x h1

theorem rn_ok {sh de : List Int} {ch : Int} (h : TcOk sh de ch) {s : TSt} (hs : TsOk sh 0 s) {ins : List Int} {dss : List (List Int)} (hi : ∀ i, 0 ≤ ins.getD i 0 ∧ ins.getD i 0 ≤ 100000000)
    (hd : ∀ i, ∀ x ∈ dss.getD i [], 0 ≤ x ∧ x < sh.length) : ∀ k, (rnV sh s ins dss k).2 = 0 → TsOk sh k (rnV sh s ins dss k).1
  | 0, _ => hs
  | k + 1, hc => by
    by_cases h0 : (rnV sh s ins dss k).2 = 0
    · have h1 := rn_ok h hs hi hd k h0
      rw [rn_good h0] at hc ⊢
      exact yr_ok h h1 (hi k).1 (hi k).2 (hd k) hc
    · exact absurd (by rw [← rn_bad h0 (Nat.le_succ k)]; exact hc) h0
theorem sum_setT (xs : List Int) : ∀ (k : Nat) (v : Int), k < xs.length → (xs.set k v).sum = xs.sum - xs.getD k 0 + v := by
  induction xs with
  | nil => intro k v h; simp at h
  | cons x xs ih =>
    intro k v h
    cases k with
    | zero => simp [List.getD]; omega
    | succ k =>
      have := ih k v (by simpa using h)
      simp only [List.set_cons_succ, List.sum_cons, this]
      simp [List.getD]; omega

theorem pad_sum (sh : List Int) (L : List Nat) (e : Int) (Pd : List Int) (hL : ∀ i ∈ L, i < Pd.length) (hA : L.Pairwise (· < ·)) : ∀ j, j ≤ L.length → (padL sh (L.take j) e Pd).sum = Pd.sum + e * ((L.take j).map fun i => sh.getD i 0).sum
  | 0, _ => by simp [padL_nil]
  | j + 1, h => by
    have hj : j < L.length := by omega
    have ih := pad_sum sh L e Pd hL hA j (by omega)
    have hm : L[j] ∉ L.take j := by
      intro hm
      obtain ⟨i, hi, he⟩ := List.getElem_of_mem hm
      simp at hi
      have := (List.pairwise_iff_getElem.1 hA) i j (by omega) hj (by omega)
      rw [List.getElem_take] at he
      omega
    have hp : L[j] < Pd.length := hL _ (List.getElem_mem hj)
    rw [List.take_add_one, List.getElem?_eq_getElem hj, Option.toList_some, ← padL_snoc sh (L.take j) e Pd L[j] hm hp, sum_setT _ _ _ (by rw [padL_len]; exact hp), ih, padL_get _ _ _ _ _ hp, if_neg hm,
      List.map_append, List.sum_append, Int.mul_add]
    simp
    omega

theorem yr_sum {sh de : List Int} {ch : Int} (h : TcOk sh de ch) {s : TSt} (hp : s.Pd.length = sh.length) (inc : Int) (ms : List Int) : (tyV sh s inc ms).Pd.sum + (tyV sh s inc ms).ch = s.Pd.sum + s.ch + inc := by
  have h1 := pad_sum sh (livL (s.D ++ ms) sh.length) (eaV sh (s.D ++ ms) (s.ch + inc)) s.Pd (fun i hi => by rw [hp]; exact (liv_mem.1 hi).1) (liv_asc _ _) _ (Nat.le_refl _)
  rw [List.take_of_length_le (Nat.le_refl _)] at h1
  simp only [tyV]
  rw [h1]
  change s.Pd.sum + eaV sh (s.D ++ ms) (s.ch + inc) * lsV sh (s.D ++ ms) + chV sh (s.D ++ ms) (s.ch + inc) = _
  unfold eaV chV
  by_cases hz : lsV sh (s.D ++ ms) = 0
  · rw [if_pos hz, hz]; simp; omega
  · rw [if_neg hz]
    have := Int.mul_ediv_add_emod (s.ch + inc) (lsV sh (s.D ++ ms))
    rw [Int.mul_comm] at this
    omega

theorem rn_sum {sh de : List Int} {ch : Int} (h : TcOk sh de ch) {s : TSt} (hs : TsOk sh 0 s) {ins : List Int} {dss : List (List Int)} (hi : ∀ i, 0 ≤ ins.getD i 0 ∧ ins.getD i 0 ≤ 100000000)
    (hd : ∀ i, ∀ x ∈ dss.getD i [], 0 ≤ x ∧ x < sh.length) : ∀ k, k ≤ ins.length → (rnV sh s ins dss k).2 = 0 → (rnV sh s ins dss k).1.Pd.sum + (rnV sh s ins dss k).1.ch = s.Pd.sum + s.ch + (ins.take k).sum
  | 0, _, _ => by simp [rnV]
  | k + 1, hk, hc => by
    by_cases h0 : (rnV sh s ins dss k).2 = 0
    · have h1 := rn_sum h hs hi hd k (by omega) h0
      have h2 := rn_ok h hs hi hd k h0
      rw [rn_good h0, yr_sum h h2.p, h1, sum_snoc _ _ (by omega : k < ins.length)]
      omega
    · exact absurd (by rw [← rn_bad h0 (Nat.le_succ k)]; exact hc) h0

theorem ls_cut {sh D : List Int} {m : Int} (hm : m ∉ D) (m0 : 0 ≤ m) (m1 : m < sh.length) : lsV sh (D ++ [m]) = lsV sh D - sh.getD m.toNat 0 ∧ (livL (D ++ [m]) sh.length).length + 1 = (livL D sh.length).length := by
  have hl : m.toNat ∈ livL D sh.length := liv_mem.2 ⟨by omega, by rw [Int.toNat_of_nonneg m0]; exact hm⟩
  obtain ⟨j, hj, he⟩ := List.getElem_of_mem hl
  have h1 := liv_cut hj
  have hg : (livL D sh.length).getD j 0 = m.toNat := by rw [List.getD_eq_getElem?_getD, List.getElem?_eq_getElem hj]; exact he
  rw [hg, Int.toNat_of_nonneg m0] at h1
  have h2 : livL D sh.length = (livL D sh.length).take j ++ m.toNat :: (livL D sh.length).drop (j + 1) := by
    rw [← he]; simp
  refine ⟨?_, ?_⟩
  · unfold lsV
    rw [← h1]
    generalize hZ : livL D sh.length = Z at *
    conv => rhs; rw [h2]
    simp only [List.map_append, List.sum_append, List.map_cons, List.sum_cons]
    omega
  · rw [← h1]
    simp
    omega

theorem liv_can (D : List Int) (n : Nat) : (livL D n).length + (canD D n).length = n := by
  induction n with
  | zero => simp [livL, canD]
  | succ n ih =>
    rw [liv_step, can_step]
    cases h : hasD D n <;> simp <;> omega

theorem bu_take_sum (sh : List Int) (ms : List Int) : ∀ D, buB D ms = true → (∀ x ∈ ms, 0 ≤ x ∧ x < sh.length) → lsV sh (D ++ ms) = lsV sh D - (ms.map fun m => sh.getD m.toNat 0).sum ∧ (livL (D ++ ms) sh.length).length + ms.length = (livL D sh.length).length := by
  induction ms with
  | nil => intro D _ _; simp
  | cons m ms ih =>
    intro D h hm
    simp only [buB, Bool.and_eq_true, Bool.not_eq_true', decide_eq_false_iff_not] at h
    obtain ⟨m0, m1⟩ := hm m (List.mem_cons_self ..)
    obtain ⟨h1, h2⟩ := ls_cut h.1 m0 m1
    obtain ⟨h3, h4⟩ := ih (D ++ [m]) h.2 fun x hx => hm x (List.mem_cons_of_mem _ hx)
    have e : D ++ m :: ms = D ++ [m] ++ ms := by simp
    rw [e]
    refine ⟨?_, ?_⟩
    · rw [h3, h1]; simp only [List.map_cons, List.sum_cons]; omega
    · simp only [List.length_cons]; omega

theorem can_grow {sh D ms : List Int} (h : buB D ms = true) (hm : ∀ x ∈ ms, 0 ≤ x ∧ x < sh.length) : (canD (D ++ ms) sh.length).length = (canD D sh.length).length + ms.length := by
  have h1 := (bu_take_sum sh ms D h hm).2
  have h2 := liv_can D sh.length
  have h3 := liv_can (D ++ ms) sh.length
  omega

end Go.Proofs.YtpphiekbhikadaaDoor

/- sync.Once, one goroutine: the two calls that its slow road defers, and the lock, each a contract of its own. | Discounts: their plain facts, and the value of the program that holds all discounts of a rate, computed once. -/
namespace Go.Proofs.YtpphiekbhikadaaDoor
open Go.ChangeShapes Go.WideShapes Go.ChangeAt Go.RowKit
set_option linter.unusedVariables false
set_option maxRecDepth 100000

/-- the discount of rate r after k years -/
def disc (r : Int) : Nat → Int
  | 0 => 1000000000
  | k + 1 => disc r k * 1000 / (1000 + r)

/-- the first n discounts -/
def discs (r : Int) (n : Nat) : List Int := (List.range n).map (disc r)

theorem disc_bd (r : Int) (h : 0 ≤ r) (k : Nat) : 0 ≤ disc r k ∧ disc r k ≤ 1000000000 := by
  induction k with
  | zero => simp [disc]
  | succ k ih =>
    obtain ⟨h1, h2⟩ := ih
    rw [disc]
    refine ⟨Int.ediv_nonneg (by omega) (by omega), ?_⟩
    have h4 : disc r k * 1000 / (1000 + r) ≤ disc r k := by
      rw [← Int.mul_ediv_cancel (disc r k) (show (1000 + r) ≠ 0 by omega)]
      refine Int.ediv_le_ediv (by omega) ?_
      rw [Int.mul_ediv_cancel _ (by omega)]
      exact Int.mul_le_mul_of_nonneg_left (by omega) h1
    omega

theorem disc_le (r : Int) (h : 0 ≤ r) (k : Nat) : disc r (k + 1) ≤ disc r k := by
  obtain ⟨h1, h2⟩ := disc_bd r h k
  rw [disc, ← Int.mul_ediv_cancel (disc r k) (show (1000 + r) ≠ 0 by omega)]
  refine Int.ediv_le_ediv (by omega) ?_
  rw [Int.mul_ediv_cancel _ (by omega)]
  exact Int.mul_le_mul_of_nonneg_left (by omega) h1

theorem disc_q (r : Int) (h : 0 ≤ r) (k : Nat) : IntKind.i64.wrap ((disc r k * 1000).tdiv (1000 + r)) = disc r (k + 1) := by
  obtain ⟨h1, h2⟩ := disc_bd r h k
  obtain ⟨h3, h4⟩ := disc_bd r h (k + 1)
  rw [Int.tdiv_eq_ediv_of_nonneg (by omega)]
  exact IntWalk.i64_in _ (by rw [disc] at h3 h4; omega)

theorem discs_len (r : Int) (n : Nat) : (discs r n).length = n := by simp [discs]

theorem discs_get (r : Int) (n k : Nat) (h : k < n) : (discs r n).getD k 0 = disc r k := by
  simp [discs, List.getD, h]

theorem discs_set (r : Int) (k : Nat) (xs : List Int) (h : k < xs.length) : (discs r k ++ xs.drop k).set k (disc r k) = discs r (k + 1) ++ xs.drop (k + 1) := by
  rw [List.set_append_right _ _ (by rw [discs_len]; omega), discs_len, Nat.sub_self, List.drop_eq_getElem_cons h, List.set_cons_zero]
  simp [discs, List.range_succ]

/-- the cells of the program's discounts: the rate, whether they are computed, the lock, the discounts -/
def dcells (r d m : Int) (xs : List Int) : Array Value := (([Value.int .i64 r, Value.int .u32 d, Value.int .i32 m, Value.int .u32 0] : List Value) ++ xs.map (Value.int .i64)).toArray

end Go.Proofs.YtpphiekbhikadaaDoor
