/- SumOf of the program and of its model: what each call returns, one Lean function for both. -/
import Derived.Test.YtlcmgihaelgclaaNums
namespace Go.Proofs.Ytlcmgihaelgclaa
open Go.ChangeShapes Go.WideShapes Go.ChangeAt Go.RowKit
set_option linter.unusedVariables false

/-- every beginning of xs has a sum within 2^62 -/
def SumsFit (xs : List Int) : Prop := ∀ k, -4611686018427387904 ≤ (xs.take k).sum ∧ (xs.take k).sum ≤ 4611686018427387904

def soB (xs : List Int) : Bool := xs.all (fun x => inB x (-1000000000000) 1000000000000) && decide ((xs.length : Int) ≤ 130)

def soV (xs : List Int) : Int := if soB xs then (if monB xs.sum then xs.sum else 0) else 0

def soE (xs : List Int) : Int := if soB xs then (if monB xs.sum then 0 else 3) else 2

theorem fit_of (xs : List Int) (h : soB xs = true) : SumsFit xs := by
  unfold soB at h
  rw [Bool.and_eq_true, List.all_eq_true, decide_eq_true_iff] at h
  intro k
  obtain ⟨h1, h2⟩ := sum_take_bd 1000000000000 (by omega) xs k 130 (by omega) fun x hx => (inB_iff _ _ _).1 (h.1 x (List.mem_of_mem_take hx))
  omega

end Go.Proofs.Ytlcmgihaelgclaa
