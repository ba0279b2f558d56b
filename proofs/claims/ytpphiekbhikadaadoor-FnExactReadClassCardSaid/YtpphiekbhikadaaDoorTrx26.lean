/- Merged: Pti, Ptj. -/
import Derived.Test.YtpphiekbhikadaaDoorTrx19
import Derived.Test.YtpphiekbhikadaaDoorTrx21
import Derived.Test.YtpphiekbhikadaaDoorTrx22
import Derived.Lib.Join

/- Policies: the program's text of a policy. -/
namespace Go.Proofs.YtpphiekbhikadaaDoor
open Go.ChangeShapes Go.WideShapes Go.ChangeAt Go.RowKit
set_option linter.unusedVariables false
set_option maxRecDepth 100000

theorem OwnS.on {base : Nat} {w w' : World} {v : Value} {xs : List ByteArray} (h : OwnS base w v xs) (hb : Below w.heap.size w w') : OwnS base w' v xs := by
  obtain ⟨h0, h1 | ⟨g, cap, cur, hv, hg, hh, r⟩⟩ := h
  · exact ⟨h0, .inl h1⟩
  · have hlt : g < w.heap.size := by
      by_cases hl : g < w.heap.size
      · exact hl
      · have : w.heap[g]? = none := by simp; omega
        rw [this] at hh; cases hh
    exact ⟨h0, .inr ⟨g, cap, cur, hv, hg, by rw [hb.block g hlt]; exact hh, r⟩⟩

/-- the words of numbers -/
def itB (xs : List Int) : List ByteArray := xs.map fun m => ⟨(Lib.itoa m).toArray⟩

theorem itB_len (xs : List Int) : (itB xs).length = xs.length := by simp [itB]

theorem itB_take (xs : List Int) (k : Nat) (hk : k < xs.length) : itB (xs.take (k + 1)) = itB (xs.take k) ++ [⟨(Lib.itoa (xs.getD k 0)).toArray⟩] := by
  rw [List.take_add_one, List.getElem?_eq_getElem hk]
  unfold itB
  rw [List.map_append]
  simp [List.getD, hk]

theorem itB_data (xs : List Int) : (itB xs).map (fun b : ByteArray => b.data.toList) = xs.map Lib.itoa := by
  simp [itB, List.map_map, Function.comp_def]

theorem join_jc (n : Int) (r : List Int) : Lib.join ((n :: r).map Lib.itoa) [44] = jc (n :: r) := by
  rw [List.map_cons, Lib.join_cons]
  simp [jc, tailC, Lib.joinTail, List.flatMap, List.map_map, Function.comp_def]

theorem ptB_at {k x n s u : Int} (h : ptB k x n s u = true) (i : Nat) (hi : i < 5) : inB ([k, x, n, s, u].getD i 0) (-1000000000000) 1000000000000 = true := by
  unfold ptB at h
  rw [List.all_eq_true] at h
  exact h _ (by rw [List.getD_eq_getElem?_getD, List.getElem?_eq_getElem (by simpa using hi)]; exact List.getElem_mem _)

end Go.Proofs.YtpphiekbhikadaaDoor

/- Policies: the program's text of a policy: what the call returns. -/
namespace Go.Proofs.YtpphiekbhikadaaDoor
open Go.ChangeShapes Go.WideShapes Go.ChangeAt Go.RowKit
set_option linter.unusedVariables false
set_option maxRecDepth 100000

theorem OwnS.part {base : Nat} {w : World} {v : Value} {xs : List ByteArray} (h : OwnS base w v xs) (hl : 0 < xs.length) : ∃ g c, v = .slice (some ⟨g, 0, none⟩) xs.length c ∧ g < w.heap.size ∧ xs.length ≤ c ∧ ∀ (i : Nat) y, xs[i]? = some y → w.cell? ⟨g, 0 + i, none⟩ = some (.string y) := by
  obtain ⟨g, c, hv, hg, hc⟩ := h.cells hl
  have h2 := h
  obtain ⟨h0, ⟨h1, h3⟩ | ⟨g2, cap, cur, hv2, hg2, hh, hn, r⟩⟩ := h2
  · omega
  · rw [hv] at hv2
    injection hv2 with e1 e2 e3
    injection e1 with e4
    injection e4 with e5
    subst e5 e3
    refine ⟨g, c, hv, ?_, hn, ?_⟩
    · by_cases hl : g < w.heap.size
      · exact hl
      · have : w.heap[g]? = none := by simp; omega
        rw [this] at hh; cases hh
    · intro i y hy
      have hi : i < xs.length := by
        by_cases h : i < xs.length
        · exact h
        · rw [List.getElem?_eq_none (by omega)] at hy; cases hy
      rw [Nat.zero_add, hc i hi]
      rw [List.getElem?_eq_getElem hi] at hy
      injection hy with hy
      rw [List.getD_eq_getElem?_getD, List.getElem?_eq_getElem hi, ← hy]
      rfl

end Go.Proofs.YtpphiekbhikadaaDoor
