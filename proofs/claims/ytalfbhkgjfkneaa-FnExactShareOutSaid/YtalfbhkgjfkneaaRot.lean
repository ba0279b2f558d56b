/- slices.rotate at []int: what a call does. -/
import Derived.Test.YtalfbhkgjfkneaaPerm
namespace Go.Proofs.Ytalfbhkgjfkneaa
open Go.ChangeShapes Go.WideShapes Go.ChangeAt Go.RowKit
set_option linter.unusedVariables false

/-- places m .. b - 1 first, then a .. m - 1 -/
def rotF (f : Nat → Nat) (a m b : Nat) : Nat → Nat := fun k => if a ≤ k ∧ k < a + (b - m) then f (k - a + m) else if a + (b - m) ≤ k ∧ k < b then f (k - (b - m)) else f k

theorem rot_more (f : Nat → Nat) (m i j : Nat) (hi : i ≤ m) (hj : 0 < j) (h : j < i) : rotF (swr f (m - i) m j) (m - i + j) m (m + j) = rotF f (m - i) m (m + j) := by
  funext k
  simp only [rotF, swr]
  repeat' split
  all_goals first | rfl | (exfalso; omega) | (congr 1; omega)

theorem rot_less (f : Nat → Nat) (m i j : Nat) (hi : i ≤ m) (hi0 : 0 < i) (h : i < j) : rotF (swr f (m - i) (m + j - i) i) (m - i) m (m + j - i) = rotF f (m - i) m (m + j) := by
  funext k
  simp only [rotF, swr]
  repeat' split
  all_goals first | rfl | (exfalso; omega) | (congr 1; omega)

theorem rot_same (f : Nat → Nat) (m i : Nat) (hi : i ≤ m) : swr f (m - i) m i = rotF f (m - i) m (m + i) := by
  funext k
  simp only [rotF, swr]
  repeat' split
  all_goals first | rfl | (exfalso; omega) | (congr 1; omega)

theorem prm_rot (f : Nat → Nat) (a m b : Nat) (h1 : a ≤ m) (h2 : m ≤ b) : Prm a b f (rotF f a m b) := by
  refine ⟨fun k => if a ≤ k ∧ k < a + (b - m) then k - a + m else if a + (b - m) ≤ k ∧ k < b then k - (b - m) else k,
    fun k => if a ≤ k ∧ k < m then k + (b - m) else if m ≤ k ∧ k < b then k - m + a else k, fun k => ?_, fun k => ?_, fun k hk => ?_, fun k => ?_⟩
  · simp only
    repeat' split
    all_goals omega
  · simp only
    repeat' split
    all_goals omega
  · simp only
    repeat' split
    all_goals omega
  · simp only [rotF]
    repeat' split
    all_goals rfl

set_option maxHeartbeats 400000 in
theorem rot_any (D n c : Nat) (f : Nat → Nat) (a m b : Nat) (cv : Value) (w : World) (h : BlkF w D n f) (h1 : a < m) (h2 : m < b) (h3 : b ≤ n) (hn : n ≤ 1073741824) :
    Calls Try.prog 66 #[.slice (some ⟨D, 0, none⟩) n c, .int .i64 a, .int .i64 m, .int .i64 b, cv] w (SwrPost D n (rotF f a m b) w) := by
  have H := Lib.hid h
  clear h
  go_enter Try.func66, Try.ntmps66
  go_wp2_with fail
  go_loopw [10, 11] (fun x y wr => ∃ i j : Nat, ∃ g, x = .int .i64 i ∧ y = .int .i64 j ∧ 0 < i ∧ 0 < j ∧ i ≤ m ∧ m + j ≤ n ∧ BlkF wr D n g ∧ Hid (rotF g (m - i) m (m + j) = rotF f a m b) ∧ Hid (Only D w wr)) (fun x y _ => (intOf x + intOf y).toNat)
  case atStart => exact ⟨m - a, b - m, f, by go_num, by go_num, by omega, by omega, by omega, by omega, H.out, Lib.hid (by rw [show m - (m - a) = a by omega, show m + (b - m) = b by omega]), Lib.hid (Only.refl _ _)⟩
  case round =>
    obtain ⟨i, j, g, rfl, rfl, i0, j0, im, jn, HB, HR, HO⟩ := hrel
    have HB := Lib.hid HB
    by_cases hij : i = j
    · subst hij
      go_wp2_with fail
      refine (swr_i D n c g (m - i) m i _ _ _ cv wr HB.out (by omega) rfl rfl (by omega) (by omega) hn).mono ?_
      rintro e w1 ⟨rfl, hb, ho⟩
      have HB1 := Lib.hid hb
      have HO1 := Lib.hid (HO.out.trans ho)
      clear hb ho
      go_wp2_with fail
      go_end0
      exact ⟨rfl, by rw [← HR.out, ← rot_same g m i im]; exact HB1.out, HO1.out⟩
    · by_cases hgt : j < i
      · go_wp2_with fail
        refine (swr_i D n c g (m - i) m j _ _ _ cv wr HB.out (by omega) rfl rfl (by omega) (by omega) hn).mono ?_
        rintro e w1 ⟨rfl, hb, ho⟩
        have HB1 := Lib.hid hb
        have HO1 := Lib.hid (HO.out.trans ho)
        clear hb ho
        go_wp2_with fail
        go_roundw
        case rel => exact ⟨i - j, j, _, by go_num, rfl, by omega, by omega, by omega, by omega, HB1.out, Lib.hid (by rw [← HR.out, show m - (i - j) = m - i + j by omega]; exact rot_more g m i j im j0 hgt), HO1⟩
        case measure => simp [intOf]; omega
      · have hlt : i < j := by omega
        go_wp2_with fail
        refine (swr_i D n c g (m - i) (m + j - i) i _ _ _ cv wr HB.out (by omega) (by omega) rfl (by omega) (by omega) hn).mono ?_
        rintro e w1 ⟨rfl, hb, ho⟩
        have HB1 := Lib.hid hb
        have HO1 := Lib.hid (HO.out.trans ho)
        clear hb ho
        go_wp2_with fail
        go_roundw
        case rel => exact ⟨i, j - i, _, rfl, by go_num, by omega, by omega, by omega, by omega, HB1.out, Lib.hid (by rw [← HR.out, show m + (j - i) = m + j - i by omega]; exact rot_less g m i j im i0 hlt), HO1⟩
        case measure => simp [intOf]; omega

end Go.Proofs.Ytalfbhkgjfkneaa
