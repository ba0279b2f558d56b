/- Two lives: the chances that the program reckons. (Written by wip/gen/jpc.py.) -/
import Derived.Test.YtlcmgihaelgclaaJpi
import Derived.Test.YtlcmgihaelgclaaExpI
import Derived.Deep.RegionHeld3
namespace Go.Proofs.Ytlcmgihaelgclaa
open Go.ChangeShapes Go.WideShapes Go.ChangeAt Go.RowKit
set_option linter.unusedVariables false
set_option linter.unusedSimpArgs false
set_option maxRecDepth 100000

theorem c1_any (NB : Nat) (n f : Int) (xs : List Int) (a : Option Addr) (l c : Nat) (x : Int) (w : World) (h : Ints w a l xs) (hlc : l ≤ c) (hc : w.cell? ⟨NB, 0, none⟩ = some (.int .i64 n)) :
    Calls Try.prog 81 #[.agg #[.int .i64 f, .slice a l c], .int .i64 x, .pointer (some ⟨NB, 0, none⟩)] w fun e w' => e = .returned (.tuple #[.agg #[.int .i64 (svN f xs x n), .int .i64 (svD f xs x n)], .int .i64 (clE f xs x n)]) ∧ Below w.heap.size w w' := by
  have hb0 := box_b w (.cells #[.int .i64 f, .slice a l c] 26)
  have hb1 := box_b (w.alloc (.cells #[.int .i64 f, .slice a l c] 26)) (.cells #[.int .i64 0, .int .i64 0] 65)
  have HC := Lib.hid (sv_impl f xs a l c x n _ ((h.on hb0).on hb1) hlc)
  have hc2 := keep2 hb1 (keep2 hb0 hc)
  have hq := Bx.new (w.alloc (.cells #[.int .i64 f, .slice a l c] 26)) [.int .i64 0, .int .i64 0] 65
  rw [World.size_alloc] at hq
  have HQ : Hid (Bx ((w.alloc (.cells #[.int .i64 f, .slice a l c] 26)).alloc (.cells #[.int .i64 0, .int .i64 0] 65)) (w.heap.size + 1) [.int .i64 0, .int .i64 0]) := Lib.hid hq
  have HB : Hid (Below w.heap.size w ((w.alloc (.cells #[.int .i64 f, .slice a l c] 26)).alloc (.cells #[.int .i64 0, .int .i64 0] 65))) := Lib.hid (hb0.trans (hb1.mono (by simp)))
  obtain ⟨N, hN⟩ : ∃ y_, svN f xs x n = y_ := ⟨_, rfl⟩
  obtain ⟨D, hD⟩ : ∃ y_, svD f xs x n = y_ := ⟨_, rfl⟩
  obtain ⟨E, hE⟩ : ∃ y_, clE f xs x n = y_ := ⟨_, rfl⟩
  rw [hN, hD, hE] at HC
  rw [hN, hD, hE]
  clear hN hD hE h hq hb0 hb1
  go_enter Try.func81, Try.ntmps81
  go_wp2_with fail
  refine HC.out.mono ?_
  rintro e w1 ⟨rfl, hb⟩
  have hq := HQ.out.on hb
  have HB1 := Lib.hid (HB.out.trans (hb.mono HB.out.size))
  obtain ⟨q0, q1⟩ := hq.two
  have m0 := hq.free 0
  have m1 := hq.free 1
  clear hb hq
  go_wp2_with fail
  refine bodyPost_ret (v := .tuple #[.agg #[.int .i64 N, .int .i64 D], .int .i64 E]) (by simp [results, Try.results81, go_sem, q0, q1]) rfl ⟨rfl, ?_⟩
  exact (HB1.out.setCell (p := ⟨w.heap.size + 1, 0, none⟩) (by show w.heap.size ≤ w.heap.size + 1; omega) _).setCell (p := ⟨w.heap.size + 1, 1, none⟩) (by show w.heap.size ≤ w.heap.size + 1; omega) _

/-- the chances of each, where there is no error -/
def chU (E v : Int) : Int := if E = 0 then v else 0

def ChPost (A B C D E : Int) (w : World) (e : Ending) (w' : World) : Prop := e = .returned (.tuple #[.agg #[.int .i64 (chU E A), .int .i64 (chU E B), .int .i64 (chU E C), .int .i64 (chU E D)], .int .i64 E]) ∧ Below w.heap.size w w'

theorem set4_b {w w1 : World} {B : Nat} (h : Below w.heap.size w w1) (hB : w.heap.size ≤ B) (x0 x1 x2 x3 : Value) : Below w.heap.size w ((((w1.setCell ⟨B, 0, none⟩ x0).setCell ⟨B, 1, none⟩ x1).setCell ⟨B, 2, none⟩ x2).setCell ⟨B, 3, none⟩ x3) :=
  (((h.setCell (p := ⟨B, 0, none⟩) hB _).setCell (p := ⟨B, 1, none⟩) hB _).setCell (p := ⟨B, 2, none⟩) hB _).setCell (p := ⟨B, 3, none⟩) hB _

set_option maxHeartbeats 4000000 in
theorem askf_any (NB : Nat) (f : Int) (xs : List Int) (a : Option Addr) (l c : Nat) (x : Int) (g : Int) (ys : List Int) (b : Option Addr) (m d : Nat) (y : Int) (n : Int) (w : World) (h : Ints w a l xs) (k : Ints w b m ys) (hlc : l ≤ c) (hmd : m ≤ d) (hc : w.cell? ⟨NB, 0, none⟩ = some (.int .i64 n)) :
    Calls Try.prog 80 #[.agg #[.int .i64 f, .slice a l c], .int .i64 x, .agg #[.int .i64 g, .slice b m d], .int .i64 y, .func (.func 81) #[] #[.pointer (some ⟨NB, 0, none⟩)]] w (ChPost (svN f xs x n) (svD f xs x n) (svN g ys y n) (svD g ys y n) (twE f xs x g ys y (inB n 0 150)) w) := by
  have H := Lib.hid h
  have KK := Lib.hid k
  have H0 := Lib.hid (K2.rbi (w := w) (f := f) (sa := .slice a l c) (g := g) (sb := .slice b m d) 26 26 67 [.int .i64 0, .int .i64 0, .int .i64 0, .int .i64 0])
  have HK := Lib.hid H0.out.1
  have HR := Lib.hid H0.out.2
  have HN := Lib.hid hc
  have hNB : NB < w.heap.size := block_lt hc
  have HFE : Hid (feE x (clE f xs x n) (clE g ys y n) = twE f xs x g ys y (inB n 0 150)) := Lib.hid (fe_cl n)
  have C1 : Hid (∀ W, Hid (K2 w f (.slice a l c) g (.slice b m d) W) → Calls Try.prog 81 #[.agg #[.int .i64 f, .slice a l c], .int .i64 x, .pointer (some ⟨NB, 0, none⟩)] W fun e w' => e = .returned (.tuple #[.agg #[.int .i64 (svN f xs x n), .int .i64 (svD f xs x n)], .int .i64 (clE f xs x n)]) ∧ Below W.heap.size W w') :=
    Lib.hid (fun W hW => c1_any NB n f xs a l c x W (H.out.on hW.out.low) hlc ((hW.out.low.cell (p := ⟨NB, 0, none⟩) hNB).trans HN.out))
  have C2 : Hid (∀ W, Hid (K2 w f (.slice a l c) g (.slice b m d) W) → Calls Try.prog 81 #[.agg #[.int .i64 g, .slice b m d], .int .i64 y, .pointer (some ⟨NB, 0, none⟩)] W fun e w' => e = .returned (.tuple #[.agg #[.int .i64 (svN g ys y n), .int .i64 (svD g ys y n)], .int .i64 (clE g ys y n)]) ∧ Below W.heap.size W w') :=
    Lib.hid (fun W hW => c1_any NB n g ys b m d y W (KK.out.on hW.out.low) hmd ((hW.out.low.cell (p := ⟨NB, 0, none⟩) hNB).trans HN.out))
  unfold ChPost
  obtain ⟨E1, hE1⟩ : ∃ y_, clE f xs x n = y_ := ⟨_, rfl⟩
  obtain ⟨E2, hE2⟩ : ∃ y_, clE g ys y n = y_ := ⟨_, rfl⟩
  obtain ⟨E, hE⟩ : ∃ y_, twE f xs x g ys y (inB n 0 150) = y_ := ⟨_, rfl⟩
  obtain ⟨A, hA⟩ : ∃ y_, svN f xs x n = y_ := ⟨_, rfl⟩
  obtain ⟨B, hB⟩ : ∃ y_, svD f xs x n = y_ := ⟨_, rfl⟩
  obtain ⟨C, hC⟩ : ∃ y_, svN g ys y n = y_ := ⟨_, rfl⟩
  obtain ⟨D, hD⟩ : ∃ y_, svD g ys y n = y_ := ⟨_, rfl⟩
  rw [hE1, hA, hB] at C1
  rw [hE2, hC, hD] at C2
  rw [hE1, hE2, hE] at HFE
  rw [hE, hA, hB, hC, hD]
  have CF : Hid (∀ W, Calls Try.prog 76 #[.int .i64 x, .agg #[.int .i64 E1, .int .i64 E2]] W fun e w' => e = .returned (.int .i64 E) ∧ Below W.heap.size W w') := Lib.hid (fun W => by have := first_any x E1 E2 W; rw [HFE.out] at this; exact this)
  clear hE1 hE2 hE h k H0 HFE hA hB hC hD hc
  by_cases hz : E = 0
  · subst hz
    go_enter Try.func80, Try.ntmps80
    go_wp2_with fail
    with_reducible refine (C1.out _ HK).mono ?_
    rintro e w1 ⟨rfl, hb⟩
    have hb2 := hb.trans ((box_b w1 (.cells #[.int .i64 A, .int .i64 B] 65)).mono hb.size)
    have HK := Lib.hid (HK.out.on hb2)
    have HR := Lib.hid (HR.out.on hb2)
    have hj := Bx.new w1 [.int .i64 A, .int .i64 B] 65
    have hj : Bx (w1.alloc (.cells #[.int .i64 A, .int .i64 B] 65)) w1.heap.size [.int .i64 A, .int .i64 B] := hj
    obtain ⟨k0, k1, k2, k3, _⟩ := HK.out
    clear hb hb2
    obtain ⟨J, hJ⟩ : ∃ y_, w1.heap.size = y_ := ⟨_, rfl⟩
    rw [hJ] at hj
    go_wp2_with fail
    (try rw [hJ])
    generalize (w1.alloc (.cells #[.int .i64 A, .int .i64 B] 65)) = v1 at HK HR hj k0 k1 k2 k3 ⊢
    clear hJ
    with_reducible refine (C2.out _ HK).mono ?_
    rintro e w2 ⟨rfl, hb⟩
    have hbx := box_b w2 (.cells #[.int .i64 C, .int .i64 D] 65)
    have hb2 := hb.trans (hbx.mono hb.size)
    have HK := Lib.hid (HK.out.on hb2)
    have HR := Lib.hid (HR.out.on hb2)
    have hj := hj.on hb2
    have hi : Bx (w2.alloc (.cells #[.int .i64 C, .int .i64 D] 65)) w2.heap.size [.int .i64 C, .int .i64 D] := Bx.new w2 [.int .i64 C, .int .i64 D] 65
    clear hb hb2 hbx k0 k1 k2 k3
    obtain ⟨I, hI⟩ : ∃ y_, w2.heap.size = y_ := ⟨_, rfl⟩
    rw [hI] at hi
    go_wp2_with fail
    (try rw [hI])
    generalize (w2.alloc (.cells #[.int .i64 C, .int .i64 D] 65)) = v2 at HK HR hj hi ⊢
    clear hI
    with_reducible refine (CF.out _).mono ?_
    rintro e w3 ⟨rfl, hb⟩
    have HK := Lib.hid (HK.out.on hb)
    have HR := Lib.hid (HR.out.on hb)
    have hj := hj.on hb
    have hi := hi.on hb
    obtain ⟨j0, j1⟩ := hj.two
    obtain ⟨i0, i1⟩ := hi.two
    obtain ⟨r0, r1, r2, r3⟩ := HR.out.four
    have f0 := HR.out.free 0
    have f1 := HR.out.free 1
    have f2 := HR.out.free 2
    have f3 := HR.out.free 3
    clear hb hj hi
    go_wp2_with fail
    exact bodyPost_ret (v := .tuple #[.agg #[.int .i64 A, .int .i64 B, .int .i64 C, .int .i64 D], .int .i64 0]) (by simp [results, Try.results80, go_sem, r0, r1, r2, r3]) rfl ⟨by simp [chU], set4_b HK.out.low (by omega) _ _ _ _⟩
  · have hne : (E != 0) = true := by simpa using hz
    have hz3 : (E = 0) = False := by simpa using hz
    clear hz
    go_enter Try.func80, Try.ntmps80
    go_wp2_with fail
    with_reducible refine (C1.out _ HK).mono ?_
    rintro e w1 ⟨rfl, hb⟩
    have hb2 := hb.trans ((box_b w1 (.cells #[.int .i64 A, .int .i64 B] 65)).mono hb.size)
    have HK := Lib.hid (HK.out.on hb2)
    have HR := Lib.hid (HR.out.on hb2)
    have hj := Bx.new w1 [.int .i64 A, .int .i64 B] 65
    have hj : Bx (w1.alloc (.cells #[.int .i64 A, .int .i64 B] 65)) w1.heap.size [.int .i64 A, .int .i64 B] := hj
    obtain ⟨k0, k1, k2, k3, _⟩ := HK.out
    clear hb hb2
    obtain ⟨J, hJ⟩ : ∃ y_, w1.heap.size = y_ := ⟨_, rfl⟩
    rw [hJ] at hj
    go_wp2_with fail
    (try rw [hJ])
    generalize (w1.alloc (.cells #[.int .i64 A, .int .i64 B] 65)) = v1 at HK HR hj k0 k1 k2 k3 ⊢
    clear hJ
    with_reducible refine (C2.out _ HK).mono ?_
    rintro e w2 ⟨rfl, hb⟩
    have hbx := box_b w2 (.cells #[.int .i64 C, .int .i64 D] 65)
    have hb2 := hb.trans (hbx.mono hb.size)
    have HK := Lib.hid (HK.out.on hb2)
    have HR := Lib.hid (HR.out.on hb2)
    have hj := hj.on hb2
    have hi : Bx (w2.alloc (.cells #[.int .i64 C, .int .i64 D] 65)) w2.heap.size [.int .i64 C, .int .i64 D] := Bx.new w2 [.int .i64 C, .int .i64 D] 65
    clear hb hb2 hbx k0 k1 k2 k3
    obtain ⟨I, hI⟩ : ∃ y_, w2.heap.size = y_ := ⟨_, rfl⟩
    rw [hI] at hi
    go_wp2_with fail
    (try rw [hI])
    generalize (w2.alloc (.cells #[.int .i64 C, .int .i64 D] 65)) = v2 at HK HR hj hi ⊢
    clear hI
    with_reducible refine (CF.out _).mono ?_
    rintro e w3 ⟨rfl, hb⟩
    have HK := Lib.hid (HK.out.on hb)
    have HR := Lib.hid (HR.out.on hb)
    have hj := hj.on hb
    have hi := hi.on hb
    obtain ⟨j0, j1⟩ := hj.two
    obtain ⟨i0, i1⟩ := hi.two
    obtain ⟨r0, r1, r2, r3⟩ := HR.out.four
    have f0 := HR.out.free 0
    have f1 := HR.out.free 1
    have f2 := HR.out.free 2
    have f3 := HR.out.free 3
    clear hb hj hi
    go_wp2_with fail
    exact bodyPost_ret (v := .tuple #[.agg #[.int .i64 0, .int .i64 0, .int .i64 0, .int .i64 0], .int .i64 E]) (by simp [results, Try.results80, go_sem, r0, r1, r2, r3]) rfl ⟨by simp [chU, hz3], set4_b HK.out.low (by omega) _ _ _ _⟩

end Go.Proofs.Ytlcmgihaelgclaa
