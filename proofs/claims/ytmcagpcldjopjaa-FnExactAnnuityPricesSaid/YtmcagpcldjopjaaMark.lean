/- Slices of integers marked and looked at again: what each call returns. -/
import Derived.Test.YtmcagpcldjopjaaEq
namespace Go.Proofs.Ytmcagpcldjopjaa
open Go.ChangeShapes Go.WideShapes Go.ChangeAt Go.RowKit
set_option linter.unusedVariables false

/-- k, k + 1, .. : n numbers -/
def marks (k : Int) (n : Nat) : List Int := (List.range n).map fun (j : Nat) => k + (j : Int)

theorem marks_len (k : Int) (n : Nat) : (marks k n).length = n := by simp [marks]

theorem marks_get (k : Int) (n j : Nat) (h : j < n) : (marks k n).getD j 0 = k + j := by simp [marks, List.getD, h]

theorem marks_snoc (k : Int) (n : Nat) : marks k (n + 1) = marks k n ++ [k + n] := by simp [marks, List.range_succ]

theorem mark_step (ys : List Int) (k : Nat) (q : Int) (h : k < ys.length) : (marks q k ++ ys.drop k).set k (q + k) = marks q (k + 1) ++ ys.drop (k + 1) := by
  rw [List.set_append_right _ _ (by rw [marks_len]; exact Nat.le_refl _), marks_len, Nat.sub_self, marks_snoc, List.append_assoc]
  congr 1
  rw [List.drop_eq_getElem_cons h]
  rfl

theorem mark_any (ys : List Int) (B l c : Nat) (q : Int) (w : World) (h : Blk w B ys) (hy : ys.length = l) (hl : l ≤ 1048576) (q0 : 0 ≤ q) (q1 : q ≤ 1099511627776) :
    Calls Try.prog 41 #[.slice (some ⟨B, 0, none⟩) l c, .int .i64 q] w fun e w' => e = .returned (.int .i64 (q + l)) ∧ Blk w' B (marks q l) ∧ Only B w w' := by
  have HY := Lib.hid hy
  have H := Lib.hid h
  clear h hy
  go_enter Try.func41, Try.ntmps41
  go_wp2_with fail
  go_loopw [1, 5] (fun s i wr => ∃ k : Nat, k ≤ l ∧ i = .int .i64 k ∧ s = .int .i64 (q + k) ∧ Hid (Blk wr B (marks q k ++ ys.drop k)) ∧ Hid (Only B w wr)) (fun _ i _ => l - (intOf i).toNat)
  case atStart => exact ⟨0, Nat.zero_le _, rfl, by simp, Lib.hid (by simpa [marks] using H.out), Lib.hid (Only.refl _ _)⟩
  case round =>
    obtain ⟨k, hk, rfl, rfl, HB, HO⟩ := hrel
    by_cases hlt : k < l
    · have hx := HB.out.cell k (by simp [marks_len]; have := HY.out; omega)
      have hf := HB.out.free k
      obtain ⟨u, hu⟩ : ∃ u, (marks q k ++ ys.drop k).getD k 0 = u := ⟨_, rfl⟩
      rw [hu] at hx
      clear hu
      go_wp2_with fail
      go_roundw
      case rel => exact ⟨k + 1, by omega, by go_num, by go_num, Lib.hid (by have := HB.out.set k (q + k); rw [mark_step _ _ _ (by rw [HY.out]; exact hlt)] at this; exact this), Lib.hid (HO.out.setCell (p := ⟨B, k, none⟩) rfl _)⟩
      case measure => simp [intOf]; omega
    · go_wp2_with fail
      go_ret
      obtain rfl : k = l := by omega
      refine ⟨rfl, ?_, HO.out⟩
      have := HB.out
      rw [List.drop_of_length_le (by rw [HY.out]; exact Nat.le_refl _), List.append_nil] at this
      exact this

theorem mark_nil (a : Option Addr) (c : Nat) (q : Int) (w : World) :
    Calls Try.prog 41 #[.slice a 0 c, .int .i64 q] w fun e w' => e = .returned (.int .i64 q) ∧ w = w' := by
  go_enter Try.func41, Try.ntmps41
  go_wp2_with fail
  go_loop [1, 5] (fun s i => i = .int .i64 0 ∧ s = .int .i64 q) (fun _ _ => 0)
  case atStart => exact ⟨rfl, rfl⟩
  case round =>
    obtain ⟨rfl, rfl⟩ := hrel
    go_wp2_with fail
    go_ret
    exact ⟨rfl, rfl⟩

theorem held_any (a : Option Addr) (l c : Nat) (q : Int) (w : World) (h : Ints w a l (marks q l)) (hl : l ≤ 1048576) (q0 : 0 ≤ q) (q1 : q ≤ 1099511627776) :
    Calls Try.prog 42 #[.slice a l c, .int .i64 q] w fun e w' => e = .returned (.int .i64 (q + l)) ∧ w = w' := by
  have H := Lib.hid h
  clear h
  go_enter Try.func42, Try.ntmps42
  go_wp2_with fail
  go_loop [1, 5] (fun s i => ∃ k : Nat, k ≤ l ∧ i = .int .i64 k ∧ s = .int .i64 (q + k)) (fun _ i => l - (intOf i).toNat)
  case atStart => exact ⟨0, Nat.zero_le _, rfl, by simp⟩
  case round =>
    obtain ⟨k, hk, rfl, rfl⟩ := hrel
    by_cases hlt : k < l
    · rcases H.out.cells with h0 | ⟨b, off, rfl, hc⟩
      · omega
      have hx := hc k hlt
      rw [marks_get _ _ _ hlt] at hx
      have HC := Lib.hid hc
      clear hc
      go_wp2_with fail
      go_round
      case rel => exact ⟨k + 1, by omega, by go_num, by go_num⟩
      case measure => simp [intOf]; omega
    · go_wp2_with fail
      go_ret
      obtain rfl : k = l := by omega
      exact ⟨rfl, rfl⟩

end Go.Proofs.Ytmcagpcldjopjaa
