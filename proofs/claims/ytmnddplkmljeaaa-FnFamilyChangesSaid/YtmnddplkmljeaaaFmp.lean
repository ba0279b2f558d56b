/- Families: numbers: between two changes nothing changes, at the end nothing is paid, who remarries gets nothing. -/
import Derived.Test.YtmnddplkmljeaaaFmx
import Derived.Test.YtmnddplkmljeaaaFmr
namespace Go.Proofs.Ytmnddplkmljeaaa
open Go.ChangeShapes Go.WideShapes Go.ChangeAt Go.RowKit
set_option linter.unusedVariables false
set_option linter.unusedSimpArgs false

theorem end_quiet {d m w l : Int} {ch : List Int} (h : FmOk d m w l ch) (hw : ¬ (w ≠ -1 ∧ l = -1)) {k : Int} (hk : enM d l ch ≤ k) : wdB w l k = false ∧ orN d ch k = 0 := by
  obtain ⟨b1, b2, b3, b4⟩ := en_bd h
  constructor
  · unfold wdB
    rw [decide_eq_false_iff_not]
    omega
  · have key : ∀ xs : List Int, (∀ b ∈ xs, b + 192 ≤ k) → orN d xs k = 0 := by
      intro xs hx
      induction xs with
      | nil => rfl
      | cons b r ih =>
        have e3 : orN d (b :: r) k = orC d k b + orN d r k := rfl
        have h1 := hx b (List.mem_cons_self ..)
        have h2 : orC d k b = 0 := by unfold orC; rw [if_neg]; omega
        rw [e3, h2, ih (fun y hy => hx y (List.mem_cons_of_mem _ hy))]
        rfl
    exact key ch fun b hb => by have := b4 b hb; omega

theorem enE_zero {B : Bool} {v l V : Int} (h : enE B v l V = 0) : B = true ∧ ¬ (v ≠ -1 ∧ l = -1) ∧ mthB V = true := by
  unfold enE at h
  split at h
  · rename_i hB
    split at h
    · cases h
    · rename_i hv
      unfold mzE at h
      split at h
      · rename_i hm; exact ⟨hB, hv, hm⟩
      · cases h
  · cases h

theorem nxE_zero {E V : Int} (h : nxE E V = 0) : E = 0 ∧ V ≠ 36000 := by
  unfold nxE at h
  split at h
  · rename_i hE
    split at h
    · cases h
    · rename_i hv; exact ⟨hE, hv⟩
  · rename_i hE; exact absurd h hE

theorem rmE_zero {E : Int} {g : Bool} (h : rmE E g = 0) : E = 0 ∧ g = true := by
  unfold rmE at h
  split at h
  · rename_i hE
    split at h
    · rename_i hv; exact ⟨hE, hv⟩
    · cases h
  · rename_i hE; exact absurd h hE

/-- at the end nothing is paid, and nothing changes later -/
theorem fam_end (d m v l : Int) (ch : List Int) (h : enE (fmB d m v l ch) v l (enM d l ch) = 0) :
    fmE (fmB d m v l ch) (mthB (fV (enE (fmB d m v l ch) v l (enM d l ch)) (enM d l ch)) && rtP 1 1) = 0 ∧ pnV d v l ch (fV (enE (fmB d m v l ch) v l (enM d l ch)) (enM d l ch)) 1 1 = 0 ∧ nxE (fmE (fmB d m v l ch) (mthB (fV (enE (fmB d m v l ch) v l (enM d l ch)) (enM d l ch)))) (nxV d v l ch (fV (enE (fmB d m v l ch) v l (enM d l ch)) (enM d l ch))) = 4 := by
  rw [h]
  have e1 : fV 0 (enM d l ch) = enM d l ch := rfl
  rw [e1]
  obtain ⟨hB, hv, hm⟩ := enE_zero h
  have hf := (fm_iff ..).1 hB
  have q := end_quiet hf hv (Int.le_refl _)
  have hn : nxV d v l ch (enM d l ch) = 36000 := nx_none hf fun j h1 h2 => by
    have q1 := end_quiet hf hv (k := j) (by omega)
    have q2 := end_quiet hf hv (k := j - 1) (by omega)
    unfold chB
    rw [decide_eq_false_iff_not, q1.1, q1.2, q2.1, q2.2]
    simp
  have hE : fmE (fmB d m v l ch) (mthB (enM d l ch)) = 0 := fmE_iff.2 ⟨hB, hm⟩
  refine ⟨fmE_iff.2 ⟨hB, ?_⟩, ?_, ?_⟩
  · rw [hm]; decide
  · unfold pnV; rw [q.1, q.2]; simp
  · rw [hn, hE]; rfl

/-- who remarries gets nothing more -/
theorem fam_wed (d m v l k : Int) (ch : List Int) (E : Int) (hE : rmE (fmE (fmB d m v l ch) (mthB k)) (wdB v l k) = E) (h : E = 0) :
    fmE (fmB (fV E d) (fV E m) (fV E v) (fV E k) (fL E ch)) (mthB k) = 0 ∧ wdB (fV E v) (fV E k) k = false ∧ fmB (fV E d) (fV E m) (fV E v) (fV E k) (fL E ch) = true := by
  subst h
  obtain ⟨h1, h2⟩ := rmE_zero hE
  obtain ⟨hB, hm⟩ := fmE_iff.1 h1
  obtain ⟨f1, f2, f3, f4, f5⟩ := (fm_iff ..).1 hB
  have hk := (mthB_iff _).1 hm
  unfold wdB at h2
  rw [decide_eq_true_iff] at h2
  have e1 : fmB (fV 0 d) (fV 0 m) (fV 0 v) (fV 0 k) (fL 0 ch) = true := (fm_iff ..).2 (by
    show FmOk d m v k ch
    exact ⟨f1, f2, f3, by omega, f5⟩)
  refine ⟨fmE_iff.2 ⟨e1, hm⟩, ?_, e1⟩
  show wdB v k k = false
  unfold wdB
  rw [decide_eq_false_iff_not]
  omega

/-- between two changes nothing changes -/
theorem fam_still (d m v l k : Int) (ch : List Int) (h : nxE (fmE (fmB d m v l ch) (mthB k)) (nxV d v l ch k) = 0) :
    0 ≤ k ∧ k < nxV d v l ch k ∧ nxV d v l ch k < 36000 ∧ ∀ j, k ≤ j → j < nxV d v l ch k → fmE (fmB d m v l ch) (mthB j) = 0 ∧ wdB v l j = wdB v l k ∧ orN d ch j = orN d ch k := by
  obtain ⟨hE, hV⟩ := nxE_zero h
  obtain ⟨hB, hm⟩ := fmE_iff.1 hE
  have hf := (fm_iff ..).1 hB
  have hk := (mthB_iff _).1 hm
  have hc := nxL_cases (chB d v l ch) k (evs d v l ch)
  have hV' : nxL (chB d v l ch) k (evs d v l ch) ≠ 36000 := hV
  have hlt : k < nxV d v l ch k ∧ nxV d v l ch k < 36000 := by
    rcases hc with c | c
    · exact absurd c hV'
    · exact ⟨c.1, c.2.1⟩
  have key : ∀ i : Nat, k + i < nxV d v l ch k → wdB v l (k + i) = wdB v l k ∧ orN d ch (k + i) = orN d ch k := by
    intro i
    induction i with
    | zero => intro _; simp
    | succ i ih =>
      intro hi
      have h1 := ih (by omega)
      have h2 := nx_before hf (n := k) (j := k + ((i + 1 : Nat) : Int)) (by omega) hi
      unfold chB at h2
      rw [decide_eq_false_iff_not, Classical.not_not] at h2
      have e : k + ((i + 1 : Nat) : Int) - 1 = k + i := by omega
      rw [e] at h2
      exact ⟨h2.1.trans h1.1, h2.2.trans h1.2⟩
  refine ⟨hk.1, hlt.1, hlt.2, fun j h1 h2 => ?_⟩
  have := key (j - k).toNat (by omega)
  have e : k + ((j - k).toNat : Int) = j := by omega
  rw [e] at this
  exact ⟨fmE_iff.2 ⟨hB, (mthB_iff _).2 (by omega)⟩, this.1, this.2⟩

end Go.Proofs.Ytmnddplkmljeaaa
