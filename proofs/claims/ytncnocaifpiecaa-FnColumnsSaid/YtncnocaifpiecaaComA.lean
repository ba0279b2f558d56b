/- The program's ColumnsAt. -/
import Derived.Test.YtncnocaifpiecaaComI
import Derived.Test.YtncnocaifpiecaaColG
namespace Go.Proofs.Ytncnocaifpiecaa
open Go.ChangeShapes Go.WideShapes Go.ChangeAt Go.RowKit
set_option linter.unusedVariables false
set_option maxRecDepth 100000

theorem at_spec (r f : Int) (xs : List Int) (a : Option Addr) (l c : Nat) (x : Int) (w : World) (h : Ints w a l xs) :
    Calls Try.prog 14 #[.agg #[.int .i64 f, .slice a l c], .int .i64 r, .int .i64 x] w (atPost r f xs x w) := by
  by_cases hz : coE r f xs x = 0
  · exact at_specG r f xs a l c x w h hz
  · exact at_specE r f xs a l c x w h hz

set_option maxHeartbeats 1000000 in
theorem at_impl (r f : Int) (xs : List Int) (a : Option Addr) (l c : Nat) (x : Int) (w : World) (h : Ints w a l xs) (hlc : l ≤ c) :
    Calls Try.prog 13 #[.agg #[.int .i64 f, .slice a l c], .int .i64 r, .int .i64 x] w (atPost r f xs x w) := by
  have H := Lib.hid h
  have CO : Hid (∀ W, Hid (Below w.heap.size w W) → Calls Try.prog 39 #[.agg #[.int .i64 f, .slice a l c], .int .i64 r, .int .i64 x] W fun e w' => e = .returned (.int .i64 (coE r f xs x)) ∧ Below W.heap.size W w') :=
    Lib.hid (fun W hW => icheck_any r f xs a l c x W (H.out.on hW.out) hlc)
  clear h
  obtain ⟨E, hE⟩ : ∃ E, coE r f xs x = E := ⟨_, rfl⟩
  rw [hE] at CO
  have HE := Lib.hid hE
  clear hE
  by_cases hz : E = 0
  · subst hz
    obtain ⟨ht, ⟨r0, r1⟩, x0, x1⟩ := coE_iff.1 HE.out
    obtain ⟨f0, f1⟩ := ht.1
    obtain ⟨A, hA⟩ : ∃ A, cD r xs (x - f).toNat = A := ⟨_, rfl⟩
    obtain ⟨B, hB⟩ : ∃ B, cN r xs (x - f).toNat = B := ⟨_, rfl⟩
    obtain ⟨C, hC⟩ : ∃ C, cC r xs (x - f).toNat = C := ⟨_, rfl⟩
    obtain ⟨D, hD⟩ : ∃ D, cM r xs (x - f).toNat = D := ⟨_, rfl⟩
    obtain ⟨m, rfl⟩ : ∃ m : Nat, x = m := ⟨x.toNat, by omega⟩
    have HT := Lib.hid ht
    have HP : Hid (atV r f xs m (cD r xs) = A ∧ atV r f xs m (cN r xs) = B ∧ atV r f xs m (cC r xs) = C ∧ atV r f xs m (cM r xs) = D) := Lib.hid (by simp only [atV, HE.out, if_true]; exact ⟨hA, hB, hC, hD⟩)
    have HQ : Hid (∀ R G (W : World), CBX W R f (.slice a l c) G → (∀ m, f.toNat ≤ m → m ≤ 150 → G (m * 4) = cD r xs (m - f.toNat) ∧ G (m * 4 + 1) = cN r xs (m - f.toNat) ∧ G (m * 4 + 2) = cC r xs (m - f.toNat) ∧ G (m * 4 + 3) = cM r xs (m - f.toNat)) → Calls Try.prog 41 #[.pointer (some ⟨R, 2, none⟩), .int .i64 m] W fun e w' => e = .returned (.agg #[.int .i64 A, .int .i64 B, .int .i64 C, .int .i64 D]) ∧ Below W.heap.size W w') := Lib.hid (by
      intro R G W hg hgs
      have := colat_any R f _ G m W hg (by omega)
      obtain ⟨e0, e1, e2, e3⟩ := hgs m (by omega) (by omega)
      unfold AtG at this
      rw [e0, e1, e2, e3, show m - f.toNat = ((m : Int) - f).toNat by omega, hA, hB, hC, hD] at this
      exact this)
    clear hA hB hC hD ht
    go_enter Try.func13, Try.ntmps13
    go_wp2_with fail
    with_reducible refine (CO.out _ (Lib.hid ((box_b _ _).alloc (by simp) _))).mono ?_
    rintro e w1 ⟨rfl, hb⟩
    have hc0 : w1.cell? ⟨w.heap.size, 0, none⟩ = some (.int .i64 f) := (hb.cell (p := ⟨w.heap.size, 0, none⟩) (by simp; omega)).trans (by go_simp)
    have hc1 : w1.cell? ⟨w.heap.size, 1, none⟩ = some (.slice a l c) := (hb.cell (p := ⟨w.heap.size, 1, none⟩) (by simp; omega)).trans (by go_simp)
    have hq : Q4 w1 (w.heap.size + 1) 0 0 0 0 := (by have := q4_new (w.alloc (.cells #[.int .i64 f, .slice a l c] 26)) 0 0 0 0; rw [World.size_alloc] at this; exact this : Q4 ((w.alloc (.cells #[.int .i64 f, .slice a l c] 26)).alloc (.cells #[.int .i64 0, .int .i64 0, .int .i64 0, .int .i64 0] 30)) (w.heap.size + 1) 0 0 0 0).same (hb.block _ (by simp))
    have HB := Lib.hid (((box_b w (.cells #[.int .i64 f, .slice a l c] 26)).alloc (by simp) _).trans (hb.mono (by simp; omega)))
    have HQ4 := Lib.hid hq
    clear hb hq
    go_wp2_with fail
    with_reducible refine (co_any r f xs a l c _ (H.out.on HB.out) HT.out r0 r1).mono ?_
    rintro e w2 ⟨R, G, rfl, hR, hG, hGs, hb⟩
    have HB2 := Lib.hid (HB.out.trans (hb.mono HB.out.size))
    have HQ5 := Lib.hid (HQ4.out.same (hb.block _ HQ4.out.lt))
    have HAT := Lib.hid (HQ.out R G w2 hG hGs)
    have hc0 := keep2 hb hc0
    have hc1 := keep2 hb hc1
    clear hG hGs hb HB HQ4
    go_wp2_with fail
    with_reducible refine HAT.out.mono ?_
    rintro e w3 ⟨rfl, hb⟩
    have HB3 := Lib.hid (HB2.out.trans (hb.mono HB2.out.size))
    have hq := HQ5.out.same (hb.block _ HQ5.out.lt)
    obtain ⟨hy0, hy1, hy2, hy3⟩ := hq.cell
    have hz0 := hq.free 0
    have hz1 := hq.free 1
    have hz2 := hq.free 2
    have hz3 := hq.free 3
    clear hb hq HAT HB2 HQ5 hc0 hc1
    go_wp2_with fail
    obtain ⟨p1, p2, p3, p4⟩ := HP.out
    refine bodyPost_ret (v := .tuple #[.agg #[.int .i64 A, .int .i64 B, .int .i64 C, .int .i64 D], .int .i64 0]) ?_ rfl ⟨ret_at p1.symm p2.symm p3.symm p4.symm HE.out.symm, ?_⟩
    · simp [results, Try.results13, go_sem, hy0, hy1, hy2, hy3]
    · exact (((HB3.out.setCell (by simp) _).setCell (by simp) _).setCell (by simp) _).setCell (by simp) _
  · have hne : (E != 0) = true := by simp [hz]
    have HP : Hid (atV r f xs x (cD r xs) = 0 ∧ atV r f xs x (cN r xs) = 0 ∧ atV r f xs x (cC r xs) = 0 ∧ atV r f xs x (cM r xs) = 0) := Lib.hid (by simp [atV, HE.out, hz])
    clear hz
    go_enter Try.func13, Try.ntmps13
    go_wp2_with fail
    with_reducible refine (CO.out _ (Lib.hid ((box_b _ _).alloc (by simp) _))).mono ?_
    rintro e w1 ⟨rfl, hb⟩
    have hq : Q4 w1 (w.heap.size + 1) 0 0 0 0 := (by have := q4_new (w.alloc (.cells #[.int .i64 f, .slice a l c] 26)) 0 0 0 0; rw [World.size_alloc] at this; exact this : Q4 ((w.alloc (.cells #[.int .i64 f, .slice a l c] 26)).alloc (.cells #[.int .i64 0, .int .i64 0, .int .i64 0, .int .i64 0] 30)) (w.heap.size + 1) 0 0 0 0).same (hb.block _ (by simp))
    obtain ⟨hy0, hy1, hy2, hy3⟩ := hq.cell
    have hz0 := hq.free 0
    have hz1 := hq.free 1
    have hz2 := hq.free 2
    have hz3 := hq.free 3
    have HB := Lib.hid (((box_b w (.cells #[.int .i64 f, .slice a l c] 26)).alloc (by simp) _).trans (hb.mono (by simp; omega)))
    clear hb hq
    go_wp2_with fail
    obtain ⟨p1, p2, p3, p4⟩ := HP.out
    refine bodyPost_ret (v := .tuple #[.agg #[.int .i64 0, .int .i64 0, .int .i64 0, .int .i64 0], .int .i64 E]) ?_ rfl ⟨ret_at p1.symm p2.symm p3.symm p4.symm HE.out.symm, ?_⟩
    · simp [results, Try.results13, go_sem, hy0, hy1, hy2, hy3]
    · exact (((HB.out.setCell (by simp) _).setCell (by simp) _).setCell (by simp) _).setCell (by simp) _

end Go.Proofs.Ytncnocaifpiecaa
