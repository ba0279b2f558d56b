/- Two lives: WidowYears and the annuities of the program. (Written by wip/gen/jpe.py.) -/
import Derived.Test.YtlcmgihaelgclaaGreatJpj
import Derived.Test.YtlcmgihaelgclaaGreatJmo
import Derived.Test.YtlcmgihaelgclaaGreatExpI
namespace Go.Proofs.YtlcmgihaelgclaaGreat
open Go.ChangeShapes Go.WideShapes Go.ChangeAt Go.RowKit
set_option linter.unusedVariables false
set_option linter.unusedSimpArgs false
set_option maxRecDepth 100000

theorem jp_yes {f : Int} {xs : List Int} {x g : Int} {ys : List Int} {y : Int} (h : twE f xs x g ys y true = 0) : jpF f xs x g ys y = x ∧ jpY f xs x g ys y = jtL f xs x g ys y := by simp [jpF, jpY, h]

set_option maxHeartbeats 8000000 in
theorem iwid_any (f : Int) (xs : List Int) (a : Option Addr) (l c : Nat) (x : Int) (g : Int) (ys : List Int) (b : Option Addr) (m d : Nat) (y : Int) (w : World) (h : Ints w a l xs) (k : Ints w b m ys) (hlc : l ≤ c) (hmd : m ≤ d) :
    Calls Tryz.prog 12 #[.agg #[.int .i64 f, .slice a l c], .int .i64 x, .agg #[.int .i64 g, .slice b m d], .int .i64 y] w (IIIPost8 (wyN f xs x g ys y) (wyD f xs x g ys y) (twE f xs x g ys y true) w) := by
  have H := Lib.hid h
  have KK := Lib.hid k
  have HK : Hid (K2 w f (.slice a l c) g (.slice b m d) ((w.alloc (.cells #[.int .i64 f, .slice a l c] 26)).alloc (.cells #[.int .i64 g, .slice b m d] 26))) := Lib.hid (K2.new _ _ _ _ _ _ _)
  have CJ : Hid (∀ W, Hid (K2 w f (.slice a l c) g (.slice b m d) W) → Calls Tryz.prog 22 #[.agg #[.int .i64 f, .slice a l c], .int .i64 x, .agg #[.int .i64 g, .slice b m d], .int .i64 y] W (JpPost (jpF f xs x g ys y) (jpY f xs x g ys y) (twE f xs x g ys y true) W)) := Lib.hid (fun W hW => ijt_any f xs a l c x g ys b m d y W (H.out.on hW.out.low) (KK.out.on hW.out.low) hlc hmd)
  unfold IIIPost8
  unfold JpPost at CJ
  have HB0 : Hid (twE f xs x g ys y true ≠ 0 → wyN f xs x g ys y = 0 ∧ wyD f xs x g ys y = 0) := Lib.hid (fun e => by simp [wyN, wyD, e])
  have HJP : Hid (twE f xs x g ys y true = 0 → jpF f xs x g ys y = x ∧ jpY f xs x g ys y = jtL f xs x g ys y) := Lib.hid jp_yes
  by_cases hz : twE f xs x g ys y true = 0
  case neg =>
    obtain ⟨v1, v2⟩ := HB0.out hz
    have HV := Lib.hid v1
    have HV2 := Lib.hid v2
    obtain ⟨E, hE⟩ : ∃ y_, twE f xs x g ys y true = y_ := ⟨_, rfl⟩
    rw [hE] at CJ hz ⊢
    have hne : (E != 0) = true := by simpa using hz
    obtain ⟨F, hF⟩ : ∃ y_, jpF f xs x g ys y = y_ := ⟨_, rfl⟩
    rw [hF] at CJ
    clear hz v1 v2 HB0 hE hF HJP h k
    go_enter Tryz.func12, Tryz.ntmps12
    go_wp2_with fail
    refine (CJ.out _ HK).mono ?_
    rintro e w1 ⟨ja, jb, jc, rfl, -, -, hb⟩
    have HB := Lib.hid ((HK.out.on hb).low.trans ((box_b w1 (.cells #[.int .i64 F, .slice ja jb jc] 26)).mono (HK.out.on hb).low.size))
    clear hb
    go_wp2_with fail
    go_ret3
    exact ⟨ret_iii HV.out.symm HV2.out.symm rfl, HB.out⟩
  obtain ⟨hjF, hjY⟩ := HJP.out hz
  rw [hjF, hjY] at CJ
  have hD := (tw_iff.1 hz).1
  have CU : Hid (∀ W, Hid (K2 w f (.slice a l c) g (.slice b m d) W) → Calls Tryz.prog 23 #[.agg #[.int .i64 g, .slice b m d], .int .i64 y] W fun e w' => e = .returned (.tuple #[.int .i64 (exN g ys y), .int .i64 (exD g ys y), .int .i64 0]) ∧ Below W.heap.size W w') :=
    Lib.hid (fun W hW => by have := ex_impl g ys b m d y W (KK.out.on hW.out.low) hmd; rw [hD.cl_u] at this; exact this)
  have CX : Hid (∀ W ja jb jc, Ints W ja jb (jtL f xs x g ys y) → jb ≤ jc → Calls Tryz.prog 23 #[.agg #[.int .i64 x, .slice ja jb jc], .int .i64 x] W fun e w' => e = .returned (.tuple #[.int .i64 (exN x (jtL f xs x g ys y) x), .int .i64 (exD x (jtL f xs x g ys y) x), .int .i64 0]) ∧ Below W.heap.size W w') :=
    Lib.hid (fun W ja jb jc hj hl => by have := ex_impl x (jtL f xs x g ys y) ja jb jc x W hj hl; rw [hD.cl_j] at this; exact this)
  obtain ⟨⟨a0, a1⟩, a2, a3⟩ := ex_bd g ys y
  obtain ⟨⟨c0, c1⟩, c2, c3⟩ := ex_bd x (jtL f xs x g ys y) x
  have b0 := ex_pos hD.cl_u
  have d0 := ex_pos hD.cl_j
  obtain ⟨⟨e1, e2⟩, ⟨e3, e4⟩, e5, e6⟩ := wy_bd _ _ _ _ a0 a1 b0 a3 c0 c1 d0 c3
  have HV : Hid (wyN f xs x g ys y = wyA f xs x g ys y / gcdI (wyA f xs x g ys y) (wyB f xs x g ys y) ∧ wyD f xs x g ys y = wyB f xs x g ys y / gcdI (wyA f xs x g ys y) (wyB f xs x g ys y)) := Lib.hid (by simp [wyN, wyD, hz])
  have hA0 : wyA f xs x g ys y = max 0 (exN g ys y * exD x (jtL f xs x g ys y) x - exN x (jtL f xs x g ys y) x * exD g ys y) := rfl
  have hB0 : wyB f xs x g ys y = exD g ys y * exD x (jtL f xs x g ys y) x := rfl
  obtain ⟨A, hA⟩ : ∃ y_, exN g ys y = y_ := ⟨_, rfl⟩
  obtain ⟨B, hB⟩ : ∃ y_, exD g ys y = y_ := ⟨_, rfl⟩
  obtain ⟨C, hC⟩ : ∃ y_, exN x (jtL f xs x g ys y) x = y_ := ⟨_, rfl⟩
  obtain ⟨D, hDD⟩ : ∃ y_, exD x (jtL f xs x g ys y) x = y_ := ⟨_, rfl⟩
  obtain ⟨YA, hYA⟩ : ∃ y_, wyA f xs x g ys y = y_ := ⟨_, rfl⟩
  obtain ⟨YB, hYB⟩ : ∃ y_, wyB f xs x g ys y = y_ := ⟨_, rfl⟩
  rw [hA, hC, hB, hDD, hYA] at hA0
  rw [hB, hDD, hYB] at hB0
  rw [hYA, hYB] at HV
  rw [hA, hB] at CU
  rw [hC, hDD] at CX
  rw [hA, hDD] at e1 e2
  rw [hC, hB] at e3 e4
  rw [hB, hDD] at e5 e6
  have CM := Lib.hid (fun W => minus_any A B C D W (by omega) (by omega) (by omega) (by omega) (by omega) (by omega))
  obtain ⟨U, hU⟩ : ∃ y_, A * D - C * B = y_ := ⟨_, rfl⟩
  rw [hU] at CM hA0
  rw [← hB0] at CM e5 e6
  have CF := Lib.hid (fun W => lowest_any YA YB W (by omega) (by omega) e5 (by omega))
  obtain ⟨y1, hy1⟩ : ∃ y_, YA / gcdI YA YB = y_ := ⟨_, rfl⟩
  obtain ⟨y2, hy2⟩ : ∃ y_, YB / gcdI YA YB = y_ := ⟨_, rfl⟩
  rw [hy1, hy2] at CF HV
  rw [hz] at CJ ⊢
  have hM : (0 < U ∧ YA = U) ∨ (U < 0 ∧ YA = 0) ∨ (U = 0 ∧ YA = 0) := by omega
  obtain ⟨YL, hYL⟩ : ∃ y_, jtL f xs x g ys y = y_ := ⟨_, rfl⟩
  rw [hYL] at CJ CX
  clear hA0 hB0 hA hB hC hDD hYA hYB hy1 hy2 hU e1 e2 e3 e4 e5 e6 a0 a1 a2 a3 b0 c0 c1 c2 c3 d0 hD hz hjF hjY HB0 HJP hYL h k
  rcases hM with ⟨hs, rfl⟩ | ⟨hs, rfl⟩ | ⟨rfl, rfl⟩
  all_goals
    go_enter Tryz.func12, Tryz.ntmps12
    go_wp2_with fail
    refine (CJ.out _ HK).mono ?_
    rintro e w1 ⟨ja, jb, jc, rfl, hT, hjl, hb⟩
    have hbx := box_b w1 (.cells #[.int .i64 x, .slice ja jb jc] 26)
    have hj : Bx (w1.alloc (.cells #[.int .i64 x, .slice ja jb jc] 26)) w1.heap.size [.int .i64 x, .slice ja jb jc] := Bx.new w1 _ _
    have HK := Lib.hid ((HK.out.on hb).on hbx)
    have HI := Lib.hid (hT.ints.on hbx)
    obtain ⟨k0, k1, k2, k3, _⟩ := HK.out
    obtain ⟨J, hJ⟩ : ∃ y_, w1.heap.size = y_ := ⟨_, rfl⟩
    rw [hJ] at hj
    clear hT hb hbx
    go_wp2_with fail
    (try rw [hJ])
    generalize (w1.alloc (.cells #[.int .i64 x, .slice ja jb jc] 26)) = v1 at HK HI hj k0 k1 k2 k3 ⊢
    clear hJ
    refine (CU.out _ HK).mono ?_
    rintro e w2 ⟨rfl, hb⟩
    have HK := Lib.hid (HK.out.on hb)
    have HI := Lib.hid (HI.out.on hb)
    have hj := hj.on hb
    obtain ⟨j0, j1⟩ := hj.two
    clear hb k0 k1 k2 k3
    go_wp2_with fail
    refine (CX.out _ _ _ _ HI.out hjl).mono ?_
    rintro e w3 ⟨rfl, hb⟩
    have HB := Lib.hid (HK.out.on hb).low
    clear hb hj j0 j1
    go_wp2_with fail
    refine (CM.out _).mono ?_
    rintro e w4 ⟨rfl, hb⟩
    have HB := Lib.hid (HB.out.trans (hb.mono HB.out.size))
    clear hb
    go_wp2_with fail
    refine (CF.out _).mono ?_
    rintro e w5 ⟨rfl, hb⟩
    have HB := Lib.hid ((HB.out.alloc HB.out.size _).trans (hb.mono (by have := HB.out.size; simp; omega)))
    clear hb
    go_wp2_with fail
    go_ret3
    exact ⟨ret_iii HV.out.1.symm HV.out.2.symm rfl, HB.out⟩

end Go.Proofs.YtlcmgihaelgclaaGreat
