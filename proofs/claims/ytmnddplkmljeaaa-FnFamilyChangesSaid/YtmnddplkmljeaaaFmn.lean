/- Families: numbers: valid families, pensions of a month, events, changes, ends. -/
import Derived.Test.YtmnddplkmljeaaaMon
namespace Go.Proofs.Ytmnddplkmljeaaa
open Go.ChangeShapes Go.WideShapes Go.ChangeAt Go.RowKit
set_option linter.unusedVariables false
set_option linter.unusedSimpArgs false

/-- a valid family: the month of the death, of the marriage, of the claim, of its end; the births -/
def FmOk (d m w l : Int) (ch : List Int) : Prop :=
  (0 ≤ d ∧ d ≤ 35999) ∧ (m = -1 ∨ (0 ≤ m ∧ m ≤ 35999)) ∧ (w = -1 ∨ (w = d + 1 ∧ w ≤ 35999 ∧ 0 ≤ m ∧ m ≤ d)) ∧ (l = -1 ∨ (w ≠ -1 ∧ w ≤ l ∧ l ≤ 35999)) ∧ ch.length ≤ 12 ∧ (∀ b ∈ ch, 0 ≤ b ∧ b ≤ 35999 ∧ b ≤ d + 9) ∧ ch.Pairwise (· ≤ ·)

def fmB (d m w l : Int) (ch : List Int) : Bool :=
  decide ((0 ≤ d ∧ d ≤ 35999) ∧ (m = -1 ∨ (0 ≤ m ∧ m ≤ 35999)) ∧ (w = -1 ∨ (w = d + 1 ∧ w ≤ 35999 ∧ 0 ≤ m ∧ m ≤ d)) ∧ (l = -1 ∨ (w ≠ -1 ∧ w ≤ l ∧ l ≤ 35999)) ∧ ch.length ≤ 12 ∧ (∀ b ∈ ch, 0 ≤ b ∧ b ≤ 35999 ∧ b ≤ d + 9) ∧ ch.Pairwise (· ≤ ·))

theorem fm_iff (d m w l : Int) (ch : List Int) : fmB d m w l ch = true ↔ FmOk d m w l ch := by
  unfold fmB FmOk
  exact decide_eq_true_iff

theorem fm_no {d m w l : Int} {ch : List Int} (h : ¬ FmOk d m w l ch) : fmB d m w l ch = false := by
  rw [Bool.eq_false_iff]
  exact fun e => h ((fm_iff ..).1 e)

/-- a month or none -/
def opB (n : Int) : Bool := decide (n = -1) || mthB n

theorem opB_iff (n : Int) : opB n = true ↔ n = -1 ∨ (0 ≤ n ∧ n ≤ 35999) := by
  unfold opB
  rw [Bool.or_eq_true, decide_eq_true_iff, mthB_iff]

theorem FmOk.op {d m w l : Int} {ch : List Int} (h : FmOk d m w l ch) : opB w = true ∧ opB l = true := by
  obtain ⟨h1, h2, h3, h4, -⟩ := h
  rw [opB_iff, opB_iff]
  omega

/-- the widow or widower gets the pension -/
def wdB (w l n : Int) : Bool := decide (w ≠ -1 ∧ w ≤ n ∧ (l = -1 ∨ n < l))

def sumI (xs : List Int) : Int := xs.foldr (· + ·) 0

theorem sumI_nil : sumI [] = 0 := rfl

theorem sumI_cons (x : Int) (xs : List Int) : sumI (x :: xs) = x + sumI xs := rfl

theorem sumI_app (xs ys : List Int) : sumI (xs ++ ys) = sumI xs + sumI ys := by
  induction xs with
  | nil => simp [sumI_nil]
  | cons x r ih => rw [List.cons_append, sumI_cons, sumI_cons, ih]; omega

/-- a child gets a pension -/
def orC (d n b : Int) : Int := if d < n ∧ b ≤ n ∧ n - b < 192 then 1 else 0

theorem orC_bd (d n b : Int) : 0 ≤ orC d n b ∧ orC d n b ≤ 1 := by
  unfold orC; split <;> omega

/-- how many children get a pension -/
def orN (d : Int) (ch : List Int) (n : Int) : Int := sumI (ch.map (orC d n))

theorem orN_bd (d n : Int) (ch : List Int) : 0 ≤ orN d ch n ∧ orN d ch n ≤ ch.length := by
  unfold orN
  induction ch with
  | nil => simp [sumI_nil]
  | cons x r ih =>
    have := orC_bd d n x
    rw [List.map_cons, sumI_cons, List.length_cons]
    omega

theorem take_snoc' {α : Type} (xs : List α) (k : Nat) (z : α) (h : k < xs.length) : xs.take (k + 1) = xs.take k ++ [xs.getD k z] := by
  rw [List.take_add_one, List.getElem?_eq_getElem h, Option.toList_some]
  simp [List.getD, h]

theorem orN_step (d n : Int) (ch : List Int) (k : Nat) (h : k < ch.length) : orN d (ch.take (k + 1)) n = orN d (ch.take k) n + orC d n (ch.getD k 0) := by
  unfold orN
  rw [take_snoc' ch k 0 h, List.map_append, sumI_app]
  simp [sumI_cons, sumI_nil]

/-- an event: its month, and how many more pensions there are from it on: a widow's, orphans' -/
abbrev Ev := Int × Int × Int

/-- the sums over the events up to a month -/
def psW (es : List Ev) (n : Int) : Int := sumI (es.map fun e => if e.1 ≤ n then e.2.1 else 0)

def psO (es : List Ev) (n : Int) : Int := sumI (es.map fun e => if e.1 ≤ n then e.2.2 else 0)

theorem psW_app (xs ys : List Ev) (n : Int) : psW (xs ++ ys) n = psW xs n + psW ys n := by
  unfold psW; rw [List.map_append, sumI_app]

theorem psO_app (xs ys : List Ev) (n : Int) : psO (xs ++ ys) n = psO xs n + psO ys n := by
  unfold psO; rw [List.map_append, sumI_app]

theorem psW_step (es : List Ev) (n : Int) (k : Nat) (h : k < es.length) : psW (es.take (k + 1)) n = psW (es.take k) n + (if (es.getD k (0, 0, 0)).1 ≤ n then (es.getD k (0, 0, 0)).2.1 else 0) := by
  rw [take_snoc' es k (0, 0, 0) h, psW_app]
  simp [psW, sumI_cons, sumI_nil]

theorem psO_step (es : List Ev) (n : Int) (k : Nat) (h : k < es.length) : psO (es.take (k + 1)) n = psO (es.take k) n + (if (es.getD k (0, 0, 0)).1 ≤ n then (es.getD k (0, 0, 0)).2.2 else 0) := by
  rw [take_snoc' es k (0, 0, 0) h, psO_app]
  simp [psO, sumI_cons, sumI_nil]

/-- events whose numbers are small -/
def SmE (es : List Ev) : Prop := es.length ≤ 64 ∧ ∀ e ∈ es, (0 ≤ e.1 ∧ e.1 ≤ 40000) ∧ (-1 ≤ e.2.1 ∧ e.2.1 ≤ 1) ∧ (-1 ≤ e.2.2 ∧ e.2.2 ≤ 1)

theorem ps_bd (es : List Ev) (n : Int) (h : ∀ e ∈ es, (0 ≤ e.1 ∧ e.1 ≤ 40000) ∧ (-1 ≤ e.2.1 ∧ e.2.1 ≤ 1) ∧ (-1 ≤ e.2.2 ∧ e.2.2 ≤ 1)) : -(es.length : Int) ≤ psW es n ∧ psW es n ≤ es.length ∧ -(es.length : Int) ≤ psO es n ∧ psO es n ≤ es.length := by
  induction es with
  | nil => simp [psW, psO, sumI_nil]
  | cons e r ih =>
    have h1 := ih fun x hx => h x (List.mem_cons_of_mem _ hx)
    have h2 := h e (List.mem_cons_self ..)
    have e1 : psW (e :: r) n = (if e.1 ≤ n then e.2.1 else 0) + psW r n := rfl
    have e2 : psO (e :: r) n = (if e.1 ≤ n then e.2.2 else 0) + psO r n := rfl
    rw [e1, e2, List.length_cons]
    split <;> omega

theorem ps_take (es : List Ev) (n : Int) (k : Nat) (h : SmE es) : (-64 ≤ psW (es.take k) n ∧ psW (es.take k) n ≤ 64) ∧ (-64 ≤ psO (es.take k) n ∧ psO (es.take k) n ≤ 64) := by
  have h1 := ps_bd (es.take k) n fun e he => h.2 e (List.mem_of_mem_take he)
  have h2 : (es.take k).length ≤ 64 := Nat.le_trans (by rw [List.length_take]; exact Nat.min_le_right _ _) h.1
  omega

theorem SmE.get {es : List Ev} (h : SmE es) (k : Nat) (hk : k < es.length) : (0 ≤ (es.getD k (0, 0, 0)).1 ∧ (es.getD k (0, 0, 0)).1 ≤ 40000) ∧ (-1 ≤ (es.getD k (0, 0, 0)).2.1 ∧ (es.getD k (0, 0, 0)).2.1 ≤ 1) ∧ (-1 ≤ (es.getD k (0, 0, 0)).2.2 ∧ (es.getD k (0, 0, 0)).2.2 ≤ 1) := by
  rw [List.getD_eq_getElem?_getD, List.getElem?_eq_getElem hk]
  exact h.2 _ (List.getElem_mem _)

/-- a month in a list, empty for -1 -/
def tellL (n : Int) : List Int := if n = -1 then [] else [n]

/-- a kind's events -/
def kdE (ms : List Int) (a b : Int) : List Ev := ms.map fun n => (n, a, b)

/-- the months at which the children are so old, or the first one after the death -/
def chA (d age : Int) (ch : List Int) : List Int := ch.map fun b => max (b + age) (d + 1)

/-- all events -/
def evs (d w l : Int) (ch : List Int) : List Ev := kdE (tellL w) 1 0 ++ (kdE (tellL l) (-1) 0 ++ (kdE (chA d 0 ch) 0 1 ++ kdE (chA d 192 ch) 0 (-1)))

theorem tell_len (n : Int) : (tellL n).length ≤ 1 := by unfold tellL; split <;> simp

theorem evs_sm {d m w l : Int} {ch : List Int} (h : FmOk d m w l ch) : SmE (evs d w l ch) ∧ (evs d w l ch).length ≤ 26 := by
  obtain ⟨h1, h2, h3, h4, h5, h6, h7⟩ := h
  have t1 := tell_len w
  have t2 := tell_len l
  have hl : (evs d w l ch).length ≤ 26 := by
    unfold evs kdE chA
    simp only [List.length_append, List.length_map]
    omega
  refine ⟨⟨by omega, fun e he => ?_⟩, hl⟩
  unfold evs kdE chA at he
  simp only [List.mem_append, List.mem_map] at he
  rcases he with ⟨n, hn, rfl⟩ | ⟨n, hn, rfl⟩ | ⟨n, ⟨b, hb, rfl⟩, rfl⟩ | ⟨n, ⟨b, hb, rfl⟩, rfl⟩
  · unfold tellL at hn
    split at hn
    · cases hn
    · simp at hn; subst hn; simp only []; omega
  · unfold tellL at hn
    split at hn
    · cases hn
    · simp at hn; subst hn; simp only []; omega
  · have := h6 b hb; simp only []; omega
  · have := h6 b hb; simp only []; omega

theorem psW_zero (ms : List Int) (b n : Int) : psW (kdE ms 0 b) n = 0 := by
  unfold psW kdE
  induction ms with
  | nil => rfl
  | cons x r ih =>
    rw [List.map_cons, List.map_cons, sumI_cons, ih]
    simp

theorem psO_zero (ms : List Int) (a n : Int) : psO (kdE ms a 0) n = 0 := by
  unfold psO kdE
  induction ms with
  | nil => rfl
  | cons x r ih =>
    rw [List.map_cons, List.map_cons, sumI_cons, ih]
    simp

theorem psW_tell (x a n : Int) : psW (kdE (tellL x) a 0) n = if x ≠ -1 ∧ x ≤ n then a else 0 := by
  unfold psW kdE tellL
  by_cases h : x = -1
  · simp [h, sumI_nil]
  · by_cases h2 : x ≤ n <;> simp [h, h2, sumI_cons, sumI_nil]

theorem psW_evs {d m w l : Int} {ch : List Int} (h : FmOk d m w l ch) (n : Int) : psW (evs d w l ch) n = if wdB w l n = true then 1 else 0 := by
  obtain ⟨h1, h2, h3, h4, h5, h6, h7⟩ := h
  unfold evs wdB
  rw [psW_app, psW_app, psW_app, psW_zero, psW_zero, psW_tell, psW_tell]
  simp only [decide_eq_true_iff]
  by_cases e1 : w = -1
  · have e2 : l = -1 := by omega
    simp [e1, e2]
  · by_cases e2 : l = -1
    · simp [e1, e2]
    · by_cases e3 : w ≤ n
      · by_cases e4 : l ≤ n
        · simp [e1, e2, e3, e4]
        · have e5 : n < l := by omega
          simp [e1, e2, e3, e4, e5]
      · have e4 : ¬ l ≤ n := by omega
        simp [e1, e2, e3, e4]

theorem psO_evs (d w l : Int) (ch : List Int) (n : Int) : psO (evs d w l ch) n = orN d ch n := by
  unfold evs
  rw [psO_app, psO_app, psO_app, psO_zero, psO_zero]
  have key : ∀ ch : List Int, psO (kdE (chA d 0 ch) 0 1) n + psO (kdE (chA d 192 ch) 0 (-1)) n = orN d ch n := by
    intro ch
    induction ch with
    | nil => rfl
    | cons b r ih =>
      have e1 : psO (kdE (chA d 0 (b :: r)) 0 1) n = (if max (b + 0) (d + 1) ≤ n then 1 else 0) + psO (kdE (chA d 0 r) 0 1) n := rfl
      have e2 : psO (kdE (chA d 192 (b :: r)) 0 (-1)) n = (if max (b + 192) (d + 1) ≤ n then -1 else 0) + psO (kdE (chA d 192 r) 0 (-1)) n := rfl
      have e3 : orN d (b :: r) n = orC d n b + orN d r n := rfl
      rw [e1, e2, e3]
      have e4 : (if max (b + 0) (d + 1) ≤ n then (1 : Int) else 0) + (if max (b + 192) (d + 1) ≤ n then -1 else 0) = orC d n b := by
        unfold orC
        split <;> split <;> split <;> omega
      omega
  have := key ch
  omega

/-- pensions differ from the month before -/
def chB (d w l : Int) (ch : List Int) (n : Int) : Bool := decide (¬ (wdB w l n = wdB w l (n - 1) ∧ orN d ch n = orN d ch (n - 1)))

/-- the events' sums differ from the month before -/
def evB (es : List Ev) (n : Int) : Bool := decide (¬ (psW es n = psW es (n - 1) ∧ psO es n = psO es (n - 1)))

theorem evB_evs {d m w l : Int} {ch : List Int} (h : FmOk d m w l ch) (n : Int) : evB (evs d w l ch) n = chB d w l ch n := by
  unfold evB chB
  rw [psW_evs h, psW_evs h, psO_evs, psO_evs, decide_eq_decide]
  have : ((if wdB w l n = true then (1 : Int) else 0) = if wdB w l (n - 1) = true then 1 else 0) ↔ wdB w l n = wdB w l (n - 1) := by
    cases wdB w l n <;> cases wdB w l (n - 1) <;> simp
  rw [this]

/-- where the sums differ something happens -/
theorem evB_ev {es : List Ev} {n : Int} (h : evB es n = true) : ∃ e ∈ es, e.1 = n := by
  unfold evB at h
  rw [decide_eq_true_iff] at h
  refine Classical.byContradiction fun hne => h ?_
  have key : ∀ e ∈ es, (e.1 ≤ n ↔ e.1 ≤ n - 1) := fun e he => by
    have : e.1 ≠ n := fun e1 => hne ⟨e, he, e1⟩
    omega
  unfold psW psO
  constructor
  · congr 1
    exact List.map_congr_left fun e he => by simp only [key e he]
  · congr 1
    exact List.map_congr_left fun e he => by simp only [key e he]

/-- the least later month of an event for which p holds, 36000 for none -/
def nxL (p : Int → Bool) (n : Int) (es : List Ev) : Int := es.foldl (fun x e => if n < e.1 ∧ e.1 < x ∧ p e.1 = true then e.1 else x) 36000

theorem nxL_step (p : Int → Bool) (n : Int) (es : List Ev) (k : Nat) (h : k < es.length) : nxL p n (es.take (k + 1)) = (if n < (es.getD k (0, 0, 0)).1 ∧ (es.getD k (0, 0, 0)).1 < nxL p n (es.take k) ∧ p (es.getD k (0, 0, 0)).1 = true then (es.getD k (0, 0, 0)).1 else nxL p n (es.take k)) := by
  rw [take_snoc' es k (0, 0, 0) h]
  unfold nxL
  rw [List.foldl_append]
  rfl

theorem nxL_char (p : Int → Bool) (n : Int) (es : List Ev) (x : Int) : es.foldl (fun x e => if n < e.1 ∧ e.1 < x ∧ p e.1 = true then e.1 else x) x ≤ x ∧ (es.foldl (fun x e => if n < e.1 ∧ e.1 < x ∧ p e.1 = true then e.1 else x) x = x ∨ (n < es.foldl (fun x e => if n < e.1 ∧ e.1 < x ∧ p e.1 = true then e.1 else x) x ∧ p (es.foldl (fun x e => if n < e.1 ∧ e.1 < x ∧ p e.1 = true then e.1 else x) x) = true)) ∧ ∀ e ∈ es, n < e.1 → p e.1 = true → es.foldl (fun x e => if n < e.1 ∧ e.1 < x ∧ p e.1 = true then e.1 else x) x ≤ e.1 := by
  induction es generalizing x with
  | nil => exact ⟨Int.le_refl _, .inl rfl, fun e he => by cases he⟩
  | cons e r ih =>
    rw [List.foldl_cons]
    by_cases hc : n < e.1 ∧ e.1 < x ∧ p e.1 = true
    · rw [if_pos hc]
      obtain ⟨a, b, c⟩ := ih e.1
      refine ⟨by omega, .inr ?_, fun y hy h1 h2 => ?_⟩
      · rcases b with b | b
        · rw [b]; exact ⟨hc.1, hc.2.2⟩
        · exact b
      · rcases List.mem_cons.1 hy with rfl | hy
        · exact a
        · exact c y hy h1 h2
    · rw [if_neg hc]
      obtain ⟨a, b, c⟩ := ih x
      refine ⟨a, b, fun y hy h1 h2 => ?_⟩
      rcases List.mem_cons.1 hy with rfl | hy
      · have : ¬ y.1 < x := fun h => hc ⟨h1, h, h2⟩
        omega
      · exact c y hy h1 h2

theorem nxL_le (p : Int → Bool) (n : Int) (es : List Ev) : nxL p n es ≤ 36000 := (nxL_char p n es 36000).1

theorem nxL_cases (p : Int → Bool) (n : Int) (es : List Ev) : nxL p n es = 36000 ∨ (n < nxL p n es ∧ nxL p n es < 36000 ∧ p (nxL p n es) = true) := by
  obtain ⟨a, b, c⟩ := nxL_char p n es 36000
  unfold nxL
  rcases b with b | b
  · exact .inl b
  · by_cases h : es.foldl (fun x e => if n < e.1 ∧ e.1 < x ∧ p e.1 = true then e.1 else x) 36000 = 36000
    · exact .inl h
    · exact .inr ⟨b.1, by omega, b.2⟩

/-- the next change -/
def nxV (d w l : Int) (ch : List Int) (n : Int) : Int := nxL (chB d w l ch) n (evs d w l ch)

theorem nx_hit {d m w l : Int} {ch : List Int} (h : FmOk d m w l ch) {n k : Int} (hn : n < k) (hk : k < 36000) (hno : ∀ j, n < j → j < k → chB d w l ch j = false) (hyes : chB d w l ch k = true) : nxV d w l ch n = k := by
  obtain ⟨a, b, c⟩ := nxL_char (chB d w l ch) n (evs d w l ch) 36000
  obtain ⟨e, he, e1⟩ := evB_ev (by rw [evB_evs h]; exact hyes)
  have h1 := c e he (by omega) (by rw [e1]; exact hyes)
  rw [e1] at h1
  have h2 : n < nxV d w l ch n ∧ chB d w l ch (nxV d w l ch n) = true := by
    rcases b with b | b
    · exfalso; omega
    · exact b
  have h3 : ¬ nxV d w l ch n < k := fun hl => by
    have := hno _ h2.1 hl
    rw [h2.2] at this
    cases this
  have h4 : nxV d w l ch n ≤ k := h1
  omega

theorem nx_none {d m w l : Int} {ch : List Int} (h : FmOk d m w l ch) {n : Int} (hno : ∀ j, n < j → j < 36000 → chB d w l ch j = false) : nxV d w l ch n = 36000 := by
  rcases nxL_cases (chB d w l ch) n (evs d w l ch) with b | b
  · exact b
  · have := hno _ b.1 b.2.1
    rw [b.2.2] at this
    cases this

/-- what the next change says of the months ahead of it -/
theorem nx_before {d m w l : Int} {ch : List Int} (h : FmOk d m w l ch) {n j : Int} (h1 : n < j) (h2 : j < nxV d w l ch n) : chB d w l ch j = false := by
  rw [Bool.eq_false_iff]
  intro hj
  obtain ⟨a, b, c⟩ := nxL_char (chB d w l ch) n (evs d w l ch) 36000
  obtain ⟨e, he, e1⟩ := evB_ev (by rw [evB_evs h]; exact hj)
  have h3 : nxV d w l ch n ≤ e.1 := c e he (by omega) (by rw [e1]; exact hj)
  omega

/-- the greatest of a number and numbers -/
def mxF (x : Int) (xs : List Int) : Int := xs.foldl max x

theorem mxF_le (x y : Int) (xs : List Int) : mxF x xs ≤ y ↔ x ≤ y ∧ ∀ z ∈ xs, z ≤ y := by
  unfold mxF
  induction xs generalizing x with
  | nil => simp
  | cons a r ih =>
    rw [List.foldl_cons, ih]
    simp only [List.mem_cons, forall_eq_or_imp]
    constructor
    · rintro ⟨p, q⟩; exact ⟨by omega, by omega, q⟩
    · rintro ⟨p, q, s⟩; exact ⟨by omega, s⟩

theorem mxF_step (x : Int) (xs : List Int) (k : Nat) (h : k < xs.length) : mxF x (xs.take (k + 1)) = max (mxF x (xs.take k)) (xs.getD k 0) := by
  rw [take_snoc' xs k 0 h]
  unfold mxF
  rw [List.foldl_append]
  rfl

theorem mxF_ge (x : Int) (xs : List Int) : x ≤ mxF x xs := ((mxF_le x _ xs).1 (Int.le_refl _)).1

/-- the end of all pensions, by the births -/
def enM (d l : Int) (ch : List Int) : Int := mxF (max (d + 1) l) (ch.map (· + 192))

/-- the end of all pensions, by the events -/
def enV (d w l : Int) (ch : List Int) : Int := mxF (d + 1) ((evs d w l ch).map (·.1))

theorem en_eq {d m w l : Int} {ch : List Int} (h : FmOk d m w l ch) : enM d l ch = enV d w l ch := by
  obtain ⟨h1, h2, h3, h4, h5, h6, h7⟩ := h
  have key : ∀ y, enM d l ch ≤ y ↔ enV d w l ch ≤ y := by
    intro y
    unfold enM enV
    rw [mxF_le, mxF_le]
    constructor
    · rintro ⟨a, b⟩
      refine ⟨by omega, fun z hz => ?_⟩
      unfold evs kdE chA at hz
      simp only [List.mem_map, List.mem_append] at hz
      obtain ⟨e, he, rfl⟩ := hz
      have hb : ∀ c ∈ ch, c + 192 ≤ y := fun c hc => b _ (List.mem_map.2 ⟨c, hc, rfl⟩)
      rcases he with ⟨n, hn, rfl⟩ | ⟨n, hn, rfl⟩ | ⟨n, ⟨c, hc, rfl⟩, rfl⟩ | ⟨n, ⟨c, hc, rfl⟩, rfl⟩
      · unfold tellL at hn
        split at hn
        · cases hn
        · simp at hn; subst hn; simp only []; omega
      · unfold tellL at hn
        split at hn
        · cases hn
        · simp at hn; subst hn; simp only []; omega
      · have := hb c hc; simp only []; omega
      · have := hb c hc; simp only []; omega
    · rintro ⟨a, b⟩
      have hev : ∀ e ∈ evs d w l ch, e.1 ≤ y := fun e he => b _ (List.mem_map.2 ⟨e, he, rfl⟩)
      refine ⟨?_, fun z hz => ?_⟩
      · by_cases e2 : l = -1
        · omega
        · have := hev (l, -1, 0) (by unfold evs kdE tellL; simp [e2])
          simp only [] at this
          omega
      · obtain ⟨c, hc, rfl⟩ := List.mem_map.1 hz
        have := hev (max (c + 192) (d + 1), 0, -1) (by
          unfold evs
          simp only [List.mem_append]
          exact .inr (.inr (.inr (List.mem_map.2 ⟨_, List.mem_map.2 ⟨c, hc, rfl⟩, rfl⟩))))
        simp only [] at this
        omega
  have e1 := (key (enM d l ch)).1 (Int.le_refl _)
  have e2 := (key (enV d w l ch)).2 (Int.le_refl _)
  omega

theorem en_bd {d m w l : Int} {ch : List Int} (h : FmOk d m w l ch) : d + 1 ≤ enM d l ch ∧ l ≤ enM d l ch ∧ enM d l ch ≤ 40000 ∧ ∀ b ∈ ch, b + 192 ≤ enM d l ch := by
  obtain ⟨h1, h2, h3, h4, h5, h6, h7⟩ := h
  have a := (mxF_le (max (d + 1) l) (enM d l ch) (ch.map (· + 192))).1 (Int.le_refl _)
  have b : enM d l ch ≤ 40000 := (mxF_le _ _ _).2 ⟨by omega, fun z hz => by
    obtain ⟨c, hc, rfl⟩ := List.mem_map.1 hz
    have := h6 c hc
    omega⟩
  exact ⟨by omega, by omega, b, fun c hc => a.2 _ (List.mem_map.2 ⟨c, hc, rfl⟩)⟩

/-- rates -/
def rtP (W O : Int) : Bool := inB W 0 1000000 && inB O 0 1000000

/-- what a family gets in a month -/
def pnV (d w l : Int) (ch : List Int) (n W O : Int) : Int := O * orN d ch n + (if wdB w l n = true then W else 0)

theorem pn_bd {d w l : Int} {ch : List Int} {n W O : Int} (hr : rtP W O = true) (hl : ch.length ≤ 12) : 0 ≤ O * orN d ch n ∧ O * orN d ch n ≤ 12000000 ∧ 0 ≤ pnV d w l ch n W O ∧ pnV d w l ch n W O ≤ 13000000 := by
  unfold rtP at hr
  rw [Bool.and_eq_true, inB_iff, inB_iff] at hr
  have h1 := orN_bd d n ch
  have h2 : 0 ≤ O * orN d ch n := Int.mul_nonneg (by omega) (by omega)
  have h3 : O * orN d ch n ≤ 1000000 * 12 := Int.mul_le_mul (by omega) (by omega) (by omega) (by omega)
  unfold pnV
  split <;> omega

/-- what it gets in k months from a month on -/
def pbS (d w l : Int) (ch : List Int) (W O f : Int) : Nat → Int
  | 0 => 0
  | k + 1 => pbS d w l ch W O f k + pnV d w l ch (f + k) W O

theorem pbS_bd {d w l : Int} {ch : List Int} {W O : Int} (hr : rtP W O = true) (hl : ch.length ≤ 12) (f : Int) (k : Nat) : 0 ≤ pbS d w l ch W O f k ∧ pbS d w l ch W O f k ≤ 13000000 * k := by
  induction k with
  | zero => simp [pbS]
  | succ k ih =>
    have := pn_bd (d := d) (w := w) (l := l) (n := f + k) hr hl
    unfold pbS
    omega

theorem pbS_add (d w l : Int) (ch : List Int) (W O f : Int) (j k : Nat) : pbS d w l ch W O f (j + k) = pbS d w l ch W O f j + pbS d w l ch W O (f + j) k := by
  induction k with
  | zero => simp [pbS]
  | succ k ih =>
    have e : f + ((j + k : Nat) : Int) = f + j + k := by omega
    show pbS d w l ch W O f (j + k) + pnV d w l ch (f + ((j + k : Nat) : Int)) W O = pbS d w l ch W O f j + (pbS d w l ch W O (f + j) k + pnV d w l ch (f + j + k) W O)
    rw [ih, e]
    omega

/-- the code of a family and of arguments in range or not -/
def fmE (B R : Bool) : Int := if B = true then (if R = true then 0 else 2) else 1

end Go.Proofs.Ytmnddplkmljeaaa
