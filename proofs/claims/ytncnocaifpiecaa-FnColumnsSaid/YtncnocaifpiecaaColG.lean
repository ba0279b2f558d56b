/- ColumnsAt of the model, where it answers columns. -/
import Derived.Test.YtncnocaifpiecaaColA
namespace Go.Proofs.Ytncnocaifpiecaa
open Go.ChangeShapes Go.WideShapes Go.ChangeAt Go.RowKit
set_option linter.unusedVariables false
set_option maxRecDepth 100000

set_option maxHeartbeats 20000000 in
theorem at_specG (r f : Int) (xs : List Int) (a : Option Addr) (l c : Nat) (x : Int) (w : World) (h : Ints w a l xs) (hz : coE r f xs x = 0) :
    Calls Try.prog 14 #[.agg #[.int .i64 f, .slice a l c], .int .i64 r, .int .i64 x] w (atPost r f xs x w) := by
  have H := Lib.hid h
  have CO : Hid (∀ W, Hid (Below w.heap.size w W) → Calls Try.prog 42 #[.agg #[.int .i64 f, .slice a l c], .int .i64 r, .int .i64 x] W fun e w' => e = .returned (.int .i64 (coE r f xs x)) ∧ Below W.heap.size W w') :=
    Lib.hid (fun W hW => scode_any r f xs a l c x W (H.out.on hW.out))
  clear h
  obtain ⟨E, hE⟩ : ∃ E, coE r f xs x = E := ⟨_, rfl⟩
  rw [hE] at CO hz
  have HE := Lib.hid hE
  clear hE
  subst hz
  obtain ⟨ht, ⟨r0, r1⟩, x0, x1⟩ := coE_iff.1 HE.out
  obtain ⟨A, hA⟩ : ∃ A, cD r xs (x - f).toNat = A := ⟨_, rfl⟩
  obtain ⟨B, hB⟩ : ∃ B, cN r xs (x - f).toNat = B := ⟨_, rfl⟩
  obtain ⟨C, hC⟩ : ∃ C, cC r xs (x - f).toNat = C := ⟨_, rfl⟩
  obtain ⟨D, hD⟩ : ∃ D, cM r xs (x - f).toNat = D := ⟨_, rfl⟩
  have C1 : Hid (∀ W, Hid (Below w.heap.size w W) → Calls Try.prog 43 #[.agg #[.int .i64 f, .slice a l c], .int .i64 r, .int .i64 x] W fun e w' => e = .returned (.int .i64 A) ∧ Below W.heap.size W w') :=
    Lib.hid (fun W hW => by have := sD_any r f xs a l c x W (H.out.on hW.out) ht r0 r1 x0 (by omega); rw [hA] at this; exact this)
  have C2 : Hid (∀ W, Hid (Below w.heap.size w W) → Calls Try.prog 44 #[.agg #[.int .i64 f, .slice a l c], .int .i64 r, .int .i64 x] W fun e w' => e = .returned (.int .i64 B) ∧ Below W.heap.size W w') :=
    Lib.hid (fun W hW => by have := sN_any r f xs a l c x W (H.out.on hW.out) ht r0 r1 x0 (by omega); rw [hB] at this; exact this)
  have C3 : Hid (∀ W, Hid (Below w.heap.size w W) → Calls Try.prog 45 #[.agg #[.int .i64 f, .slice a l c], .int .i64 r, .int .i64 x] W fun e w' => e = .returned (.int .i64 C) ∧ Below W.heap.size W w') :=
    Lib.hid (fun W hW => by have := sC_any r f xs a l c x W (H.out.on hW.out) ht r0 r1 x0 (by omega); rw [hC] at this; exact this)
  have C4 : Hid (∀ W, Hid (Below w.heap.size w W) → Calls Try.prog 46 #[.agg #[.int .i64 f, .slice a l c], .int .i64 r, .int .i64 x] W fun e w' => e = .returned (.int .i64 D) ∧ Below W.heap.size W w') :=
    Lib.hid (fun W hW => by have := sM_any r f xs a l c x W (H.out.on hW.out) ht r0 r1 x0 (by omega); rw [hD] at this; exact this)
  have HP : Hid (atV r f xs x (cD r xs) = A ∧ atV r f xs x (cN r xs) = B ∧ atV r f xs x (cC r xs) = C ∧ atV r f xs x (cM r xs) = D) := Lib.hid (by simp only [atV, HE.out, if_true]; exact ⟨hA, hB, hC, hD⟩)
  clear hA hB hC hD ht
  go_enter Try.func14, Try.ntmps14
  go_wp2_with fail
  with_reducible refine (CO.out _ (Lib.hid ((box_b _ _).alloc (by simp) _))).mono ?_
  rintro e w1 ⟨rfl, hb⟩
  have hc0 : w1.cell? ⟨w.heap.size, 0, none⟩ = some (.int .i64 f) := (hb.cell (p := ⟨w.heap.size, 0, none⟩) (by simp; omega)).trans (by go_simp)
  have hc1 : w1.cell? ⟨w.heap.size, 1, none⟩ = some (.slice a l c) := (hb.cell (p := ⟨w.heap.size, 1, none⟩) (by simp; omega)).trans (by go_simp)
  have hy0 : w1.cell? ⟨w.heap.size + 1, 0, none⟩ = some (.int .i64 0) := (hb.cell (p := ⟨w.heap.size + 1, 0, none⟩) (by simp)).trans (by go_simp)
  have hy1 : w1.cell? ⟨w.heap.size + 1, 1, none⟩ = some (.int .i64 0) := (hb.cell (p := ⟨w.heap.size + 1, 1, none⟩) (by simp)).trans (by go_simp)
  have hy2 : w1.cell? ⟨w.heap.size + 1, 2, none⟩ = some (.int .i64 0) := (hb.cell (p := ⟨w.heap.size + 1, 2, none⟩) (by simp)).trans (by go_simp)
  have hy3 : w1.cell? ⟨w.heap.size + 1, 3, none⟩ = some (.int .i64 0) := (hb.cell (p := ⟨w.heap.size + 1, 3, none⟩) (by simp)).trans (by go_simp)
  have hz0 : w1.frozen? ⟨w.heap.size + 1, 0, none⟩ = false := (hb.frozen (p := ⟨w.heap.size + 1, 0, none⟩) (by simp)).trans (by go_simp)
  have hz1 : w1.frozen? ⟨w.heap.size + 1, 1, none⟩ = false := (hb.frozen (p := ⟨w.heap.size + 1, 1, none⟩) (by simp)).trans (by go_simp)
  have hz2 : w1.frozen? ⟨w.heap.size + 1, 2, none⟩ = false := (hb.frozen (p := ⟨w.heap.size + 1, 2, none⟩) (by simp)).trans (by go_simp)
  have hz3 : w1.frozen? ⟨w.heap.size + 1, 3, none⟩ = false := (hb.frozen (p := ⟨w.heap.size + 1, 3, none⟩) (by simp)).trans (by go_simp)
  have HB1 := Lib.hid (((box_b w (.cells #[.int .i64 f, .slice a l c] 26)).alloc (by simp) _).trans (hb.mono (by simp; omega)))
  clear hb
  go_wp2_with fail
  have hc0 : w1.drew.cell? ⟨w.heap.size, 0, none⟩ = some (.int .i64 f) := hc0
  have hc1 : w1.drew.cell? ⟨w.heap.size, 1, none⟩ = some (.slice a l c) := hc1
  have hy0 : w1.drew.cell? ⟨w.heap.size + 1, 0, none⟩ = some (.int .i64 0) := hy0
  have hy1 : w1.drew.cell? ⟨w.heap.size + 1, 1, none⟩ = some (.int .i64 0) := hy1
  have hy2 : w1.drew.cell? ⟨w.heap.size + 1, 2, none⟩ = some (.int .i64 0) := hy2
  have hy3 : w1.drew.cell? ⟨w.heap.size + 1, 3, none⟩ = some (.int .i64 0) := hy3
  have hz0 : w1.drew.frozen? ⟨w.heap.size + 1, 0, none⟩ = false := hz0
  have hz1 : w1.drew.frozen? ⟨w.heap.size + 1, 1, none⟩ = false := hz1
  have hz2 : w1.drew.frozen? ⟨w.heap.size + 1, 2, none⟩ = false := hz2
  have hz3 : w1.drew.frozen? ⟨w.heap.size + 1, 3, none⟩ = false := hz3
  have HB := Lib.hid HB1.out.drew
  clear HB1
  go_region_held3 (fun w' => w'.cell? ⟨w.heap.size, 0, none⟩ = some (.int .i64 f) ∧ w'.cell? ⟨w.heap.size, 1, none⟩ = some (.slice a l c) ∧ Hid (Below w.heap.size w w'))
    (first
      | (go_split_ands; exact ⟨by with_reducible assumption, by with_reducible assumption, by with_reducible assumption⟩)
      | (go_split_ands; exact ⟨keep2 hb (by with_reducible assumption), keep2 hb (by with_reducible assumption), Lib.hid (Below.trans (Hid.out (by with_reducible assumption)) (Below.mono hb (Below.size (Hid.out (by with_reducible assumption)))))⟩)
      | (go_split_ands; exact ⟨by go_simp, by go_simp, Lib.hid (Below.setCell (Below.setCell (Below.setCell (Below.setCell (Hid.out (by with_reducible assumption)) (by simp) _) (by simp) _) (by simp) _) (by simp) _)⟩))
    (first
      | (go_split_ands; go_at_call 43; ((with_reducible refine (C1.out _ (by with_reducible assumption)).mono ?_); rintro e w' ⟨rfl, hb⟩; replace hz0 := (hb.frozen (block_lt hy0)).trans hz0; replace hz1 := (hb.frozen (block_lt hy1)).trans hz1; replace hz2 := (hb.frozen (block_lt hy2)).trans hz2; replace hz3 := (hb.frozen (block_lt hy3)).trans hz3; replace hy0 := keep2 hb hy0; replace hy1 := keep2 hb hy1; replace hy2 := keep2 hb hy2; replace hy3 := keep2 hb hy3))
      | (go_split_ands; go_at_call 44; ((with_reducible refine (C2.out _ (by with_reducible assumption)).mono ?_); rintro e w' ⟨rfl, hb⟩; replace hz0 := (hb.frozen (block_lt hy0)).trans hz0; replace hz1 := (hb.frozen (block_lt hy1)).trans hz1; replace hz2 := (hb.frozen (block_lt hy2)).trans hz2; replace hz3 := (hb.frozen (block_lt hy3)).trans hz3; replace hy0 := keep2 hb hy0; replace hy1 := keep2 hb hy1; replace hy2 := keep2 hb hy2; replace hy3 := keep2 hb hy3))
      | (go_split_ands; go_at_call 45; ((with_reducible refine (C3.out _ (by with_reducible assumption)).mono ?_); rintro e w' ⟨rfl, hb⟩; replace hz0 := (hb.frozen (block_lt hy0)).trans hz0; replace hz1 := (hb.frozen (block_lt hy1)).trans hz1; replace hz2 := (hb.frozen (block_lt hy2)).trans hz2; replace hz3 := (hb.frozen (block_lt hy3)).trans hz3; replace hy0 := keep2 hb hy0; replace hy1 := keep2 hb hy1; replace hy2 := keep2 hb hy2; replace hy3 := keep2 hb hy3))
      | (go_split_ands; go_at_call 46; ((with_reducible refine (C4.out _ (by with_reducible assumption)).mono ?_); rintro e w' ⟨rfl, hb⟩; replace hz0 := (hb.frozen (block_lt hy0)).trans hz0; replace hz1 := (hb.frozen (block_lt hy1)).trans hz1; replace hz2 := (hb.frozen (block_lt hy2)).trans hz2; replace hz3 := (hb.frozen (block_lt hy3)).trans hz3; replace hy0 := keep2 hb hy0; replace hy1 := keep2 hb hy1; replace hy2 := keep2 hb hy2; replace hy3 := keep2 hb hy3)))
  all_goals
    go_split_ands
    go_wp2_with fail
    obtain ⟨p1, p2, p3, p4⟩ := HP.out
    refine bodyPost_ret (v := .tuple #[.agg #[.int .i64 A, .int .i64 B, .int .i64 C, .int .i64 D], .int .i64 0]) ?_ rfl ⟨ret_at p1.symm p2.symm p3.symm p4.symm HE.out.symm, ?_⟩
    · simp [results, Try.results14, go_sem, hy0, hy1, hy2, hy3]
    · exact Hid.out (by with_reducible assumption)

end Go.Proofs.Ytncnocaifpiecaa
