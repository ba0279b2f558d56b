/- Two lives: BothAlive and OneAlive of the program. (Written by wip/gen/jpd.py.) -/
import Derived.Test.YtlcmgihaelgclaaJpc
import Derived.Test.YtlcmgihaelgclaaJmm
namespace Go.Proofs.Ytlcmgihaelgclaa
open Go.ChangeShapes Go.WideShapes Go.ChangeAt Go.RowKit
set_option linter.unusedVariables false
set_option linter.unusedSimpArgs false
set_option maxRecDepth 100000

set_option maxHeartbeats 4000000 in
theorem chof_any (f : Int) (xs : List Int) (a : Option Addr) (l c : Nat) (x : Int) (g : Int) (ys : List Int) (b : Option Addr) (m d : Nat) (y : Int) (n : Int) (w : World) (h : Ints w a l xs) (k : Ints w b m ys) (hlc : l ≤ c) (hmd : m ≤ d) :
    Calls Try.prog 48 #[.agg #[.int .i64 f, .slice a l c], .int .i64 x, .agg #[.int .i64 g, .slice b m d], .int .i64 y, .int .i64 n] w (ChPost (svN f xs x n) (svD f xs x n) (svN g ys y n) (svD g ys y n) (twE f xs x g ys y (inB n 0 150)) w) := by
  have hmf : ∀ (fn : Fn) (first cap : Array Value) (w : World), (Instr.makeFunc fn first cap).run Try.prog w = .ok (.func fn first cap) w := fun _ _ _ _ => rfl
  have H := Lib.hid h
  have KK := Lib.hid k
  have H0 := K2.rbi (w := w) (f := f) (sa := .slice a l c) (g := g) (sb := .slice b m d) 26 26 2 [.int .i64 n]
  generalize e1 : (((w.alloc (.cells #[.int .i64 f, .slice a l c] 26)).alloc (.cells #[.int .i64 g, .slice b m d] 26)).alloc (.cells [.int .i64 n].toArray 2)) = W1 at H0
  have s1 : W1.heap.size = w.heap.size + 3 := by rw [← e1]; simp
  have hr := Bx.new W1 [.int .i64 0, .int .i64 0, .int .i64 0, .int .i64 0] 67
  rw [s1] at hr
  have hN1 : W1.cell? ⟨w.heap.size + 2, 0, none⟩ = some (.int .i64 n) := by obtain ⟨T, h9⟩ := H0.2; simp [World.cell?, h9]
  have hbx := box_b W1 (.cells ([.int .i64 0, .int .i64 0, .int .i64 0, .int .i64 0] : List Value).toArray 67)
  have HK : Hid (K2 w f (.slice a l c) g (.slice b m d) (W1.alloc (.cells ([.int .i64 0, .int .i64 0, .int .i64 0, .int .i64 0] : List Value).toArray 67))) := Lib.hid (H0.1.on hbx)
  have HN : Hid ((W1.alloc (.cells ([.int .i64 0, .int .i64 0, .int .i64 0, .int .i64 0] : List Value).toArray 67)).cell? ⟨w.heap.size + 2, 0, none⟩ = some (.int .i64 n)) := Lib.hid (keep2 hbx hN1)
  have HR : Hid (Bx (W1.alloc (.cells ([.int .i64 0, .int .i64 0, .int .i64 0, .int .i64 0] : List Value).toArray 67)) (w.heap.size + 3) [.int .i64 0, .int .i64 0, .int .i64 0, .int .i64 0]) := Lib.hid hr
  subst e1
  clear H0 s1 hr hN1 hbx
  have CA : Hid (∀ W, Hid (K2 w f (.slice a l c) g (.slice b m d) W) → Hid (W.cell? ⟨w.heap.size + 2, 0, none⟩ = some (.int .i64 n)) → Calls Try.prog 80 #[.agg #[.int .i64 f, .slice a l c], .int .i64 x, .agg #[.int .i64 g, .slice b m d], .int .i64 y, .func (.func 81) #[] #[.pointer (some ⟨w.heap.size + 2, 0, none⟩)]] W (ChPost (svN f xs x n) (svD f xs x n) (svN g ys y n) (svD g ys y n) (twE f xs x g ys y (inB n 0 150)) W)) :=
    Lib.hid (fun W hW hn => askf_any (w.heap.size + 2) f xs a l c x g ys b m d y n W (H.out.on hW.out.low) (KK.out.on hW.out.low) hlc hmd hn.out)
  unfold ChPost at CA ⊢
  obtain ⟨E, hE⟩ : ∃ y_, twE f xs x g ys y (inB n 0 150) = y_ := ⟨_, rfl⟩
  rw [hE] at CA ⊢
  obtain ⟨A, hA⟩ : ∃ y_, chU E (svN f xs x n) = y_ := ⟨_, rfl⟩
  obtain ⟨B, hB⟩ : ∃ y_, chU E (svD f xs x n) = y_ := ⟨_, rfl⟩
  obtain ⟨C, hC⟩ : ∃ y_, chU E (svN g ys y n) = y_ := ⟨_, rfl⟩
  obtain ⟨D, hD⟩ : ∃ y_, chU E (svD g ys y n) = y_ := ⟨_, rfl⟩
  rw [hA, hB, hC, hD] at CA ⊢
  clear hE hA hB hC hD h k
  go_enter Try.func48, Try.ntmps48
  go_wp2_with fail
  refine (CA.out _ HK HN).mono ?_
  rintro e w1 ⟨rfl, hb⟩
  have HK := Lib.hid (HK.out.on hb)
  have HR := Lib.hid (HR.out.on hb)
  obtain ⟨r0, r1, r2, r3⟩ := HR.out.four
  have f0 := HR.out.free 0
  have f1 := HR.out.free 1
  have f2 := HR.out.free 2
  have f3 := HR.out.free 3
  clear hb
  go_wp2_with fail
  exact bodyPost_ret (v := .tuple #[.agg #[.int .i64 A, .int .i64 B, .int .i64 C, .int .i64 D], .int .i64 E]) (by simp [results, Try.results48, go_sem, r0, r1, r2, r3]) rfl ⟨rfl, set4_b HK.out.low (by omega) _ _ _ _⟩

/-- a share of lives in lowest terms -/
theorem sv_parts {f : Int} {xs : List Int} {x n : Int} (h : clE f xs x n = 0) : ∃ G, 1 ≤ G ∧ svN f xs x n * G = lvs f xs (x + n) ∧ svD f xs x n * G = lvs f xs x ∧ (0 ≤ svN f xs x n ∧ svN f xs x n ≤ svD f xs x n) ∧ 1 ≤ svD f xs x n ∧ svD f xs x n ≤ 1000000 := by
  obtain ⟨ht, ⟨x0, x1⟩, ⟨n0, n1⟩, hz⟩ := clE_iff.1 h
  obtain ⟨a0, a1⟩ := ht.lvs_bd (x + n)
  obtain ⟨b0, b1⟩ := ht.lvs_bd x
  have hm := ht.lvs_mono x (x + n) (by omega)
  obtain ⟨e1, e2⟩ := sv_0 h rfl rfl
  obtain ⟨p, q, G, h1, h2, h3, h4, h5, h6, h7, h8, _⟩ := gcd_parts (lvs f xs (x + n)) (lvs f xs x) a0 (by omega)
  rw [e1, e2, h1, h2]
  have h9 : q * G = lvs f xs x := by
    have := Int.mul_ediv_add_emod (lvs f xs x) q
    rw [h5, h6] at this
    omega
  refine ⟨G, h8, h7, h9, ⟨h3, ?_⟩, h4, ?_⟩
  · refine Int.le_of_mul_le_mul_right (a := G) ?_ (by omega)
    rw [h7, h9]; exact hm
  · have := Int.mul_le_mul_of_nonneg_left h8 (show 0 ≤ q by omega)
    rw [h9] at this
    omega

/-- two shares -/
theorem two_parts {f : Int} {xs : List Int} {x g : Int} {ys : List Int} {y n : Int} (h : twE f xs x g ys y (inB n 0 150) = 0) {A B C D : Int} (hA : svN f xs x n = A) (hB : svD f xs x n = B) (hC : svN g ys y n = C) (hD : svD g ys y n = D) :
    (0 ≤ A ∧ A ≤ B) ∧ (1 ≤ B ∧ B ≤ 1000000) ∧ (0 ≤ C ∧ C ≤ D) ∧ (1 ≤ D ∧ D ≤ 1000000) ∧
    (boN f xs x g ys y n = A * C / gcdI (A * C) (B * D) ∧ boD f xs x g ys y n = B * D / gcdI (A * C) (B * D)) ∧
    (onN f xs x g ys y n = (B * D - (B - A) * (D - C)) / gcdI (B * D - (B - A) * (D - C)) (B * D) ∧ onD f xs x g ys y n = B * D / gcdI (B * D - (B - A) * (D - C)) (B * D)) := by
  obtain ⟨hd, hn⟩ := tw_iff.1 h
  obtain ⟨n0, n1⟩ := (inB_iff _ _ _).1 hn
  have c1 : clE f xs x n = 0 := clE_iff.2 ⟨hd.t, ⟨hd.x0, by have := hd.x1; omega⟩, ⟨n0, n1⟩, by have := hd.tx; omega⟩
  have c2 : clE g ys y n = 0 := clE_iff.2 ⟨hd.u, ⟨hd.y0, hd.y1⟩, ⟨n0, n1⟩, by have := hd.uy; omega⟩
  obtain ⟨G, g1, g2, g3, ⟨g4, g5⟩, g6, g7⟩ := sv_parts c1
  obtain ⟨F, f1, f2, f3, ⟨f4, f5⟩, f6, f7⟩ := sv_parts c2
  rw [hA] at g2 g4 g5
  rw [hB] at g3 g5 g6 g7
  rw [hC] at f2 f4 f5
  rw [hD] at f3 f5 f6 f7
  have hgf : 1 ≤ G * F := by have := Int.mul_le_mul g1 f1 (show (0 : Int) ≤ 1 by omega) (by omega); omega
  have e1 : lvs f xs (x + n) * lvs g ys (y + n) = A * C * (G * F) := by rw [← g2, ← f2]; simp only [Int.mul_assoc, Int.mul_left_comm, Int.mul_comm]
  have e2 : lvs f xs x * lvs g ys y = B * D * (G * F) := by rw [← g3, ← f3]; simp only [Int.mul_assoc, Int.mul_left_comm, Int.mul_comm]
  have e3 : onE (lvs f xs x) (lvs g ys y) (lvs f xs (x + n)) (lvs g ys (y + n)) = (B * D - (B - A) * (D - C)) * (G * F) := by
    unfold onE
    rw [e2, ← g2, ← f2, ← g3, ← f3, ← Int.sub_mul, ← Int.sub_mul, Int.sub_mul (B * D)]
    congr 1
    simp only [Int.mul_assoc, Int.mul_left_comm, Int.mul_comm]
  have hq : 1 ≤ B * D := by have := Int.mul_le_mul g6 f6 (show (0 : Int) ≤ 1 by omega) (by omega); omega
  have h1 : 0 ≤ A * C := Int.mul_nonneg g4 f4
  have h2 : (B - A) * (D - C) ≤ B * D := Int.mul_le_mul (by omega) (by omega) (by omega) (by omega)
  obtain ⟨m1, m2⟩ := frac_mul (A * C) (B * D) (G * F) h1 hq hgf
  obtain ⟨m3, m4⟩ := frac_mul (B * D - (B - A) * (D - C)) (B * D) (G * F) (by omega) hq hgf
  refine ⟨⟨g4, g5⟩, ⟨g6, g7⟩, ⟨f4, f5⟩, ⟨f6, f7⟩, ⟨?_, ?_⟩, ?_, ?_⟩
  · unfold boN; rw [if_pos h, e1, e2]; exact m1
  · unfold boD; rw [if_pos h, e1, e2]; exact m2
  · unfold onN; rw [if_pos h, e3, e2]; exact m3
  · unfold onD; rw [if_pos h, e3, e2]; exact m4

set_option maxHeartbeats 8000000 in
theorem iboth_any (f : Int) (xs : List Int) (a : Option Addr) (l c : Nat) (x : Int) (g : Int) (ys : List Int) (b : Option Addr) (m d : Nat) (y : Int) (n : Int) (w : World) (h : Ints w a l xs) (k : Ints w b m ys) (hlc : l ≤ c) (hmd : m ≤ d) :
    Calls Try.prog 16 #[.agg #[.int .i64 f, .slice a l c], .int .i64 x, .agg #[.int .i64 g, .slice b m d], .int .i64 y, .int .i64 n] w (IIIPost8 (boN f xs x g ys y n) (boD f xs x g ys y n) (twE f xs x g ys y (inB n 0 150)) w) := by
  have H := Lib.hid h
  have KK := Lib.hid k
  have HK : Hid (K2 w f (.slice a l c) g (.slice b m d) ((w.alloc (.cells #[.int .i64 f, .slice a l c] 26)).alloc (.cells #[.int .i64 g, .slice b m d] 26))) := Lib.hid (K2.new _ _ _ _ _ _ _)
  have CA : Hid (∀ W, Hid (K2 w f (.slice a l c) g (.slice b m d) W) → Calls Try.prog 48 #[.agg #[.int .i64 f, .slice a l c], .int .i64 x, .agg #[.int .i64 g, .slice b m d], .int .i64 y, .int .i64 n] W (ChPost (svN f xs x n) (svD f xs x n) (svN g ys y n) (svD g ys y n) (twE f xs x g ys y (inB n 0 150)) W)) :=
    Lib.hid (fun W hW => chof_any f xs a l c x g ys b m d y n W (H.out.on hW.out.low) (KK.out.on hW.out.low) hlc hmd)
  unfold ChPost at CA
  unfold IIIPost8
  have HTP := Lib.hid (fun e => two_parts (f := f) (xs := xs) (x := x) (g := g) (ys := ys) (y := y) (n := n) e rfl rfl rfl rfl)
  have HB0 : Hid (twE f xs x g ys y (inB n 0 150) ≠ 0 → boN f xs x g ys y n = 0 ∧ boD f xs x g ys y n = 0) := Lib.hid (fun e => by simp [boN, boD, e])
  obtain ⟨E, hE⟩ : ∃ y_, twE f xs x g ys y (inB n 0 150) = y_ := ⟨_, rfl⟩
  rw [hE] at CA HTP HB0 ⊢
  clear hE h k
  by_cases hz : E = 0
  case neg =>
    obtain ⟨v1, v2⟩ := HB0.out hz
    have HV := Lib.hid v1
    have HV2 := Lib.hid v2
    have hne : (E != 0) = true := by simpa using hz
    have hc : ∀ v, chU E v = 0 := fun v => by simp [chU, hz]
    rw [hc, hc, hc, hc] at CA
    clear hz v1 v2 HTP HB0 hc
    go_enter Try.func16, Try.ntmps16
    go_wp2_with fail
    refine (CA.out _ HK).mono ?_
    rintro e w1 ⟨rfl, hb⟩
    have HB := Lib.hid ((HK.out.on hb).low.trans ((box_b w1 (.cells #[.int .i64 0, .int .i64 0, .int .i64 0, .int .i64 0] 67)).mono (HK.out.on hb).low.size))
    clear hb
    go_wp2_with fail
    go_ret3
    exact ⟨ret_iii HV.out.symm HV2.out.symm rfl, HB.out⟩
  subst hz
  have hc : ∀ v, chU 0 v = v := fun v => by simp [chU]
  rw [hc, hc, hc, hc] at CA
  obtain ⟨⟨a0, a1⟩, ⟨b0, b1⟩, ⟨c0, c1⟩, ⟨d0, d1⟩, hbo, hon⟩ := HTP.out rfl
  obtain ⟨A, hA⟩ : ∃ y_, svN f xs x n = y_ := ⟨_, rfl⟩
  obtain ⟨B, hB⟩ : ∃ y_, svD f xs x n = y_ := ⟨_, rfl⟩
  obtain ⟨C, hC⟩ : ∃ y_, svN g ys y n = y_ := ⟨_, rfl⟩
  obtain ⟨D, hD⟩ : ∃ y_, svD g ys y n = y_ := ⟨_, rfl⟩
  rw [hA, hB, hC, hD] at CA hbo hon
  rw [hA] at a0 a1
  rw [hB] at a1 b0 b1
  rw [hC] at c0 c1
  rw [hD] at c1 d0 d1
  have e1 : 0 ≤ A * C := Int.mul_nonneg a0 c0
  have e2 : A * C ≤ B * D := Int.mul_le_mul a1 c1 c0 (by omega)
  have e3 : 1 ≤ B * D := by have := Int.mul_le_mul b0 d0 (show (0 : Int) ≤ 1 by omega) (by omega); omega
  have e4 : B * D ≤ 1000000000000 := by have := Int.mul_le_mul b1 d1 (by omega) (show (0 : Int) ≤ 1000000 by omega); omega
  have e5 : 0 ≤ (B - A) * (D - C) := Int.mul_nonneg (by omega) (by omega)
  have e6 : (B - A) * (D - C) ≤ B * D := Int.mul_le_mul (by omega) (by omega) (by omega) (by omega)
  have HV := Lib.hid hbo
  have CT := Lib.hid (fun W => ftm_any A B C D W (by omega) (by omega) (by omega) (by omega))
  have CL := Lib.hid (fun W => lowest_any (A * C) (B * D) W e1 (by omega) e3 (by omega))
  obtain ⟨U, hU⟩ : ∃ y_, A * C = y_ := ⟨_, rfl⟩
  obtain ⟨V, hV⟩ : ∃ y_, B * D = y_ := ⟨_, rfl⟩
  rw [hU, hV] at CT CL HV
  obtain ⟨y1, hy1⟩ : ∃ y_, U / gcdI U V = y_ := ⟨_, rfl⟩
  obtain ⟨y2, hy2⟩ : ∃ y_, V / gcdI U V = y_ := ⟨_, rfl⟩
  rw [hy1, hy2] at CL HV
  clear hA hB hC hD hbo hon hc e1 e2 e3 e4 e5 e6 hU hV hy1 hy2 HTP HB0 a0 a1 b0 b1 c0 c1 d0 d1
  go_enter Try.func16, Try.ntmps16
  go_wp2_with fail
  refine (CA.out _ HK).mono ?_
  rintro e w1 ⟨rfl, hb⟩
  have hb2 := hb.trans ((box_b w1 (.cells #[.int .i64 A, .int .i64 B, .int .i64 C, .int .i64 D] 67)).mono hb.size)
  have HB := Lib.hid (HK.out.on hb2).low
  have hj : Bx (w1.alloc (.cells #[.int .i64 A, .int .i64 B, .int .i64 C, .int .i64 D] 67)) w1.heap.size [.int .i64 A, .int .i64 B, .int .i64 C, .int .i64 D] := Bx.new w1 _ _
  clear hb hb2
  obtain ⟨J, hJ⟩ : ∃ y_, w1.heap.size = y_ := ⟨_, rfl⟩
  rw [hJ] at hj
  obtain ⟨j0, j1, j2, j3⟩ := hj.four
  go_wp2_with fail
  (try rw [hJ])
  refine (CT.out _).mono ?_
  rintro e w2 ⟨rfl, hb⟩
  have HB := Lib.hid (HB.out.trans (hb.mono HB.out.size))
  clear hb
  go_wp2_with fail
  refine (CL.out _).mono ?_
  rintro e w3 ⟨rfl, hb⟩
  have HB := Lib.hid (HB.out.trans (hb.mono HB.out.size))
  clear hb
  go_wp2_with fail
  go_ret3
  exact ⟨ret_iii HV.out.1.symm HV.out.2.symm rfl, HB.out⟩

theorem keepJ {w W W' : World} {J : Nat} {A B C D : Int} (h : W.cell? ⟨J, 0, none⟩ = some (.int .i64 A) ∧ W.cell? ⟨J, 1, none⟩ = some (.int .i64 B) ∧ W.cell? ⟨J, 2, none⟩ = some (.int .i64 C) ∧ W.cell? ⟨J, 3, none⟩ = some (.int .i64 D) ∧ Hid (Below w.heap.size w W)) (hb : Below W.heap.size W W') :
    W'.cell? ⟨J, 0, none⟩ = some (.int .i64 A) ∧ W'.cell? ⟨J, 1, none⟩ = some (.int .i64 B) ∧ W'.cell? ⟨J, 2, none⟩ = some (.int .i64 C) ∧ W'.cell? ⟨J, 3, none⟩ = some (.int .i64 D) ∧ Hid (Below w.heap.size w W') :=
  ⟨keep2 hb h.1, keep2 hb h.2.1, keep2 hb h.2.2.1, keep2 hb h.2.2.2.1, Lib.hid (h.2.2.2.2.out.trans (hb.mono h.2.2.2.2.out.size))⟩

theorem setFar2 {w : World} {p : Addr} {B k : Nat} {v u : Value} (hn : p.block ≠ B) (h : w.cell? p = some u) : (w.setCell ⟨B, k, none⟩ v).cell? p = some u :=
  (World.cell?_of_block (w := w) (far_setCell w ⟨B, k, none⟩ v p.block hn)).trans h

theorem keepS {w W : World} {J I : Nat} {A B C D : Int} {x y : Value} (hn : J ≠ I) (hI : w.heap.size ≤ I) (h : W.cell? ⟨J, 0, none⟩ = some (.int .i64 A) ∧ W.cell? ⟨J, 1, none⟩ = some (.int .i64 B) ∧ W.cell? ⟨J, 2, none⟩ = some (.int .i64 C) ∧ W.cell? ⟨J, 3, none⟩ = some (.int .i64 D) ∧ Hid (Below w.heap.size w W)) :
    ((W.setCell ⟨I, 0, none⟩ x).setCell ⟨I, 1, none⟩ y).cell? ⟨J, 0, none⟩ = some (.int .i64 A) ∧ ((W.setCell ⟨I, 0, none⟩ x).setCell ⟨I, 1, none⟩ y).cell? ⟨J, 1, none⟩ = some (.int .i64 B) ∧ ((W.setCell ⟨I, 0, none⟩ x).setCell ⟨I, 1, none⟩ y).cell? ⟨J, 2, none⟩ = some (.int .i64 C) ∧ ((W.setCell ⟨I, 0, none⟩ x).setCell ⟨I, 1, none⟩ y).cell? ⟨J, 3, none⟩ = some (.int .i64 D) ∧ Hid (Below w.heap.size w ((W.setCell ⟨I, 0, none⟩ x).setCell ⟨I, 1, none⟩ y)) :=
  ⟨setFar2 hn (setFar2 hn h.1), setFar2 hn (setFar2 hn h.2.1), setFar2 hn (setFar2 hn h.2.2.1), setFar2 hn (setFar2 hn h.2.2.2.1), Lib.hid ((h.2.2.2.2.out.setCell (p := ⟨I, 0, none⟩) hI _).setCell (p := ⟨I, 1, none⟩) hI _)⟩

set_option maxHeartbeats 8000000 in
theorem ione_any (f : Int) (xs : List Int) (a : Option Addr) (l c : Nat) (x : Int) (g : Int) (ys : List Int) (b : Option Addr) (m d : Nat) (y : Int) (n : Int) (w : World) (h : Ints w a l xs) (k : Ints w b m ys) (hlc : l ≤ c) (hmd : m ≤ d) :
    Calls Try.prog 18 #[.agg #[.int .i64 f, .slice a l c], .int .i64 x, .agg #[.int .i64 g, .slice b m d], .int .i64 y, .int .i64 n] w (IIIPost8 (onN f xs x g ys y n) (onD f xs x g ys y n) (twE f xs x g ys y (inB n 0 150)) w) := by
  have H := Lib.hid h
  have KK := Lib.hid k
  have HK : Hid (K2 w f (.slice a l c) g (.slice b m d) ((w.alloc (.cells #[.int .i64 f, .slice a l c] 26)).alloc (.cells #[.int .i64 g, .slice b m d] 26))) := Lib.hid (K2.new _ _ _ _ _ _ _)
  have CA : Hid (∀ W, Hid (K2 w f (.slice a l c) g (.slice b m d) W) → Calls Try.prog 48 #[.agg #[.int .i64 f, .slice a l c], .int .i64 x, .agg #[.int .i64 g, .slice b m d], .int .i64 y, .int .i64 n] W (ChPost (svN f xs x n) (svD f xs x n) (svN g ys y n) (svD g ys y n) (twE f xs x g ys y (inB n 0 150)) W)) :=
    Lib.hid (fun W hW => chof_any f xs a l c x g ys b m d y n W (H.out.on hW.out.low) (KK.out.on hW.out.low) hlc hmd)
  unfold ChPost at CA
  unfold IIIPost8
  have HTP := Lib.hid (fun e => two_parts (f := f) (xs := xs) (x := x) (g := g) (ys := ys) (y := y) (n := n) e rfl rfl rfl rfl)
  have HB0 : Hid (twE f xs x g ys y (inB n 0 150) ≠ 0 → onN f xs x g ys y n = 0 ∧ onD f xs x g ys y n = 0) := Lib.hid (fun e => by simp [onN, onD, e])
  obtain ⟨E, hE⟩ : ∃ y_, twE f xs x g ys y (inB n 0 150) = y_ := ⟨_, rfl⟩
  rw [hE] at CA HTP HB0 ⊢
  clear hE h k
  by_cases hz : E = 0
  case neg =>
    obtain ⟨v1, v2⟩ := HB0.out hz
    have HV := Lib.hid v1
    have HV2 := Lib.hid v2
    have hne : (E != 0) = true := by simpa using hz
    have hc : ∀ v, chU E v = 0 := fun v => by simp [chU, hz]
    rw [hc, hc, hc, hc] at CA
    clear hz v1 v2 HTP HB0 hc
    go_enter Try.func18, Try.ntmps18
    go_wp2_with fail
    refine (CA.out _ HK).mono ?_
    rintro e w1 ⟨rfl, hb⟩
    have HB := Lib.hid ((HK.out.on hb).low.trans ((box_b w1 (.cells #[.int .i64 0, .int .i64 0, .int .i64 0, .int .i64 0] 67)).mono (HK.out.on hb).low.size))
    clear hb
    go_wp2_with fail
    go_ret3
    exact ⟨ret_iii HV.out.symm HV2.out.symm rfl, HB.out⟩
  subst hz
  have hc : ∀ v, chU 0 v = v := fun v => by simp [chU]
  rw [hc, hc, hc, hc] at CA
  obtain ⟨⟨a0, a1⟩, ⟨b0, b1⟩, ⟨c0, c1⟩, ⟨d0, d1⟩, hbo, hon⟩ := HTP.out rfl
  obtain ⟨A, hA⟩ : ∃ y_, svN f xs x n = y_ := ⟨_, rfl⟩
  obtain ⟨B, hB⟩ : ∃ y_, svD f xs x n = y_ := ⟨_, rfl⟩
  obtain ⟨C, hC⟩ : ∃ y_, svN g ys y n = y_ := ⟨_, rfl⟩
  obtain ⟨D, hD⟩ : ∃ y_, svD g ys y n = y_ := ⟨_, rfl⟩
  rw [hA, hB, hC, hD] at CA hbo hon
  rw [hA] at a0 a1
  rw [hB] at a1 b0 b1
  rw [hC] at c0 c1
  rw [hD] at c1 d0 d1
  have e1 : 0 ≤ A * C := Int.mul_nonneg a0 c0
  have e2 : A * C ≤ B * D := Int.mul_le_mul a1 c1 c0 (by omega)
  have e3 : 1 ≤ B * D := by have := Int.mul_le_mul b0 d0 (show (0 : Int) ≤ 1 by omega) (by omega); omega
  have e4 : B * D ≤ 1000000000000 := by have := Int.mul_le_mul b1 d1 (by omega) (show (0 : Int) ≤ 1000000 by omega); omega
  have e5 : 0 ≤ (B - A) * (D - C) := Int.mul_nonneg (by omega) (by omega)
  have e6 : (B - A) * (D - C) ≤ B * D := Int.mul_le_mul (by omega) (by omega) (by omega) (by omega)
  have HV := Lib.hid hon
  have R1 := Lib.hid (fun W => rest_any A B W (by omega) (by omega) (by omega) (by omega))
  have R2 := Lib.hid (fun W => rest_any C D W (by omega) (by omega) (by omega) (by omega))
  have CT := Lib.hid (fun W => ftm_any (B - A) B (D - C) D W (by omega) (by omega) (by omega) (by omega))
  have R3 := Lib.hid (fun W => rest_any ((B - A) * (D - C)) (B * D) W (by omega) (by omega) (by omega) (by omega))
  have CL := Lib.hid (fun W => lowest_any (B * D - (B - A) * (D - C)) (B * D) W (by omega) (by omega) e3 (by omega))
  obtain ⟨U, hU⟩ : ∃ y_, (B - A) * (D - C) = y_ := ⟨_, rfl⟩
  obtain ⟨V, hV⟩ : ∃ y_, B * D = y_ := ⟨_, rfl⟩
  obtain ⟨P1, hP1⟩ : ∃ y_, B - A = y_ := ⟨_, rfl⟩
  obtain ⟨P2, hP2⟩ : ∃ y_, D - C = y_ := ⟨_, rfl⟩
  rw [hU, hV] at CT R3 CL HV
  obtain ⟨X, hX⟩ : ∃ y_, V - U = y_ := ⟨_, rfl⟩
  rw [hX] at R3 CL HV
  rw [hP1] at R1 CT
  rw [hP2] at R2 CT
  obtain ⟨y1, hy1⟩ : ∃ y_, X / gcdI X V = y_ := ⟨_, rfl⟩
  obtain ⟨y2, hy2⟩ : ∃ y_, V / gcdI X V = y_ := ⟨_, rfl⟩
  rw [hy1, hy2] at CL HV
  clear hA hB hC hD hbo hon hc e1 e2 e3 e4 e5 e6 hU hV hy1 hy2 HTP HB0 a0 a1 b0 b1 c0 c1 d0 d1 hX hP1 hP2
  go_enter Try.func18, Try.ntmps18
  go_wp2_with fail
  refine (CA.out _ HK).mono ?_
  rintro e w1 ⟨rfl, hb⟩
  have hb2 := hb.trans ((box_b w1 (.cells #[.int .i64 A, .int .i64 B, .int .i64 C, .int .i64 D] 67)).mono hb.size)
  have HB := Lib.hid (HK.out.on hb2).low
  have hj : Bx (w1.alloc (.cells #[.int .i64 A, .int .i64 B, .int .i64 C, .int .i64 D] 67)) w1.heap.size [.int .i64 A, .int .i64 B, .int .i64 C, .int .i64 D] := Bx.new w1 _ _
  clear hb hb2
  obtain ⟨J, hJ⟩ : ∃ y_, w1.heap.size = y_ := ⟨_, rfl⟩
  rw [hJ] at hj
  obtain ⟨j0, j1, j2, j3⟩ := hj.four
  go_wp2_with fail
  (try rw [hJ])
  generalize (w1.alloc (.cells #[.int .i64 A, .int .i64 B, .int .i64 C, .int .i64 D] 67)) = v1 at HB j0 j1 j2 j3 ⊢
  clear hj hJ
  refine wp_region_held_drew (S := fun w' => w'.cell? ⟨J, 0, none⟩ = some (.int .i64 A) ∧ w'.cell? ⟨J, 1, none⟩ = some (.int .i64 B) ∧ w'.cell? ⟨J, 2, none⟩ = some (.int .i64 C) ∧ w'.cell? ⟨J, 3, none⟩ = some (.int .i64 D) ∧ Hid (Below w.heap.size w w')) (by kernel_rfl) ⟨cell_drew j0, cell_drew j1, cell_drew j2, cell_drew j3, Lib.hid HB.out.drew⟩ (fun hHeld => ?_)
  refine wpAnyH_take (i := 0) (v := ?_) rfl (by kernel_rfl) (by kernel_rfl) (by kernel_rfl) (fun _ _ _ h => h) (Or.inl ⟨by rfl, ?_⟩) (by assumption) ?_
  rotate_left
  · (intro w hSw; (try dsimp only at hSw); go_simp; try with_reducible rfl)
  try simp only [Act.put, List.setIfInBounds_toArray, List.set_cons_zero, List.set_cons_succ]
  refine wpAnyH_take (i := 1) (v := ?_) rfl (by kernel_rfl) (by kernel_rfl) (by kernel_rfl) (fun _ _ _ h => h) (Or.inl ⟨by rfl, ?_⟩) (by assumption) ?_
  rotate_left
  · (intro w hSw; (try dsimp only at hSw); go_simp; try with_reducible rfl)
  try simp only [Act.put, List.setIfInBounds_toArray, List.set_cons_zero, List.set_cons_succ]
  refine wpAnyH_take (i := 3) (v := ?_) rfl (by kernel_rfl) (by kernel_rfl) (by kernel_rfl) (fun _ _ _ h => h) (Or.inl ⟨by rfl, ?_⟩) (by assumption) ?_
  rotate_left
  · (intro w hSw; (try dsimp only at hSw); go_simp; try with_reducible rfl)
  try simp only [Act.put, List.setIfInBounds_toArray, List.set_cons_zero, List.set_cons_succ]
  refine wpAnyH_take (i := 4) (v := ?_) rfl (by kernel_rfl) (by kernel_rfl) (by kernel_rfl) (fun _ _ _ h => h) (Or.inl ⟨by rfl, ?_⟩) (by assumption) ?_
  rotate_left
  · (intro w hSw; (try dsimp only at hSw); go_simp; try with_reducible rfl)
  try simp only [Act.put, List.setIfInBounds_toArray, List.set_cons_zero, List.set_cons_succ]
  refine wpAnyH_ready (rs := [2, 7]) (by kernel_rfl) (by simp) ?_
  refine AllReadyH.cons (o := _) rfl (fun K hK => ?_) ?_
  · go_simp
    refine (R1.out _).mono ?_
    rintro e w9 ⟨rfl, hb⟩
    refine hK.out _ _ ?_ (fun hHeld => ?_)
    · exact keepJ hHeld hb
    clear hK K
    try simp only [Act.put, List.setIfInBounds_toArray, List.set_cons_zero, List.set_cons_succ]
    refine wpAnyH_ready (rs := [5, 7]) (by kernel_rfl) (by simp) ?_
    refine AllReadyH.cons (o := _) rfl (fun K hK => ?_) ?_
    · go_simp
      refine (R2.out _).mono ?_
      rintro e w9 ⟨rfl, hb⟩
      refine hK.out _ _ ?_ (fun hHeld => ?_)
      · exact keepJ hHeld hb
      clear hK K
      try simp only [Act.put, List.setIfInBounds_toArray, List.set_cons_zero, List.set_cons_succ]
      refine wpAnyH_ready (rs := [6, 7]) (by kernel_rfl) (by simp) ?_
      refine AllReadyH.cons (o := _) rfl (fun K hK => ?_) ?_
      · go_simp
        refine (CT.out _).mono ?_
        rintro e w9 ⟨rfl, hb⟩
        refine hK.out _ _ ?_ (fun hHeld => ?_)
        · exact keepJ hHeld hb
        clear hK K
        try simp only [Act.put, List.setIfInBounds_toArray, List.set_cons_zero, List.set_cons_succ]
        refine wpAnyH_ready (rs := [7]) (by kernel_rfl) (by simp) ?_
        refine AllReadyH.cons (o := _) rfl (fun K hK => ?_) ?_
        · have hOld := hHeld
          have hJI : J ≠ w9.heap.size := by have := block_lt hHeld.1; exact Nat.ne_of_lt this
          have hIw : w.heap.size ≤ w9.heap.size := hHeld.2.2.2.2.out.size
          go_simp
          refine hK.out _ _ ?_ (fun hHeld => ?_)
          · exact keepJ hHeld (box_b _ _)
          have hq : Bx (w9.alloc (.cells #[.int .i64 0, .int .i64 0] 65)) w9.heap.size [.int .i64 0, .int .i64 0] := Bx.new w9 _ _
          clear hK K
          try simp only [Act.put, List.setIfInBounds_toArray, List.set_cons_zero, List.set_cons_succ]
          obtain ⟨n0, n1⟩ := hq.two
          have m0 := hq.free 0
          have m1 := hq.free 1
          refine wpAnyH_ready (rs := [8]) (by kernel_rfl) (by simp) ?_
          refine AllReadyH.cons (o := _) rfl (fun K hK => ?_) AllReadyH.nil
          have hPre := hHeld
          go_simp
          refine hK.out _ _ ?_ (fun hHeld => ?_)
          · exact keepJ hOld (box_b _ _)
          clear hK K
          try simp only [Act.put, List.setIfInBounds_toArray, List.set_cons_zero, List.set_cons_succ]
          refine wpAnyH_done (by kernel_rfl) ?_ _
          have HB := hHeld.2.2.2.2
          clear hHeld hPre m0 m1
          go_wp2_with fail
          refine (R3.out _).mono ?_
          rintro e w3 ⟨rfl, hb⟩
          have HB := Lib.hid (HB.out.trans (hb.mono HB.out.size))
          clear hb
          go_wp2_with fail
          refine (CL.out _).mono ?_
          rintro e w4 ⟨rfl, hb⟩
          have HB := Lib.hid (HB.out.trans (hb.mono HB.out.size))
          clear hb
          go_wp2_with fail
          go_ret3
          exact ⟨ret_iii HV.out.1.symm HV.out.2.symm rfl, HB.out⟩
        exact AllReadyH.nil
      refine AllReadyH.cons (o := _) rfl (fun K hK => ?_) ?_
      · have hOld := hHeld
        have hJI : J ≠ w9.heap.size := by have := block_lt hHeld.1; exact Nat.ne_of_lt this
        have hIw : w.heap.size ≤ w9.heap.size := hHeld.2.2.2.2.out.size
        go_simp
        refine hK.out _ _ ?_ (fun hHeld => ?_)
        · exact keepJ hHeld (box_b _ _)
        have hq : Bx (w9.alloc (.cells #[.int .i64 0, .int .i64 0] 65)) w9.heap.size [.int .i64 0, .int .i64 0] := Bx.new w9 _ _
        clear hK K
        try simp only [Act.put, List.setIfInBounds_toArray, List.set_cons_zero, List.set_cons_succ]
        refine wpAnyH_ready (rs := [6]) (by kernel_rfl) (by simp) ?_
        refine AllReadyH.cons (o := _) rfl (fun K hK => ?_) ?_
        · go_simp
          refine (CT.out _).mono ?_
          rintro e w9 ⟨rfl, hb⟩
          refine hK.out _ _ ?_ (fun hHeld => ?_)
          · exact keepJ hHeld hb
          have hq := hq.on hb
          clear hK K
          try simp only [Act.put, List.setIfInBounds_toArray, List.set_cons_zero, List.set_cons_succ]
          obtain ⟨n0, n1⟩ := hq.two
          have m0 := hq.free 0
          have m1 := hq.free 1
          refine wpAnyH_ready (rs := [8]) (by kernel_rfl) (by simp) ?_
          refine AllReadyH.cons (o := _) rfl (fun K hK => ?_) AllReadyH.nil
          have hPre := hHeld
          go_simp
          refine hK.out _ _ ?_ (fun hHeld => ?_)
          · exact keepS hJI hIw hPre
          clear hK K
          try simp only [Act.put, List.setIfInBounds_toArray, List.set_cons_zero, List.set_cons_succ]
          refine wpAnyH_done (by kernel_rfl) ?_ _
          have HB := hHeld.2.2.2.2
          clear hHeld hPre m0 m1
          go_wp2_with fail
          refine (R3.out _).mono ?_
          rintro e w3 ⟨rfl, hb⟩
          have HB := Lib.hid (HB.out.trans (hb.mono HB.out.size))
          clear hb
          go_wp2_with fail
          refine (CL.out _).mono ?_
          rintro e w4 ⟨rfl, hb⟩
          have HB := Lib.hid (HB.out.trans (hb.mono HB.out.size))
          clear hb
          go_wp2_with fail
          go_ret3
          exact ⟨ret_iii HV.out.1.symm HV.out.2.symm rfl, HB.out⟩
        exact AllReadyH.nil
      exact AllReadyH.nil
    refine AllReadyH.cons (o := _) rfl (fun K hK => ?_) ?_
    · have hOld := hHeld
      have hJI : J ≠ w9.heap.size := by have := block_lt hHeld.1; exact Nat.ne_of_lt this
      have hIw : w.heap.size ≤ w9.heap.size := hHeld.2.2.2.2.out.size
      go_simp
      refine hK.out _ _ ?_ (fun hHeld => ?_)
      · exact keepJ hHeld (box_b _ _)
      have hq : Bx (w9.alloc (.cells #[.int .i64 0, .int .i64 0] 65)) w9.heap.size [.int .i64 0, .int .i64 0] := Bx.new w9 _ _
      clear hK K
      try simp only [Act.put, List.setIfInBounds_toArray, List.set_cons_zero, List.set_cons_succ]
      refine wpAnyH_ready (rs := [5]) (by kernel_rfl) (by simp) ?_
      refine AllReadyH.cons (o := _) rfl (fun K hK => ?_) ?_
      · go_simp
        refine (R2.out _).mono ?_
        rintro e w9 ⟨rfl, hb⟩
        refine hK.out _ _ ?_ (fun hHeld => ?_)
        · exact keepJ hHeld hb
        have hq := hq.on hb
        clear hK K
        try simp only [Act.put, List.setIfInBounds_toArray, List.set_cons_zero, List.set_cons_succ]
        refine wpAnyH_ready (rs := [6]) (by kernel_rfl) (by simp) ?_
        refine AllReadyH.cons (o := _) rfl (fun K hK => ?_) ?_
        · go_simp
          refine (CT.out _).mono ?_
          rintro e w9 ⟨rfl, hb⟩
          refine hK.out _ _ ?_ (fun hHeld => ?_)
          · exact keepJ hHeld hb
          have hq := hq.on hb
          clear hK K
          try simp only [Act.put, List.setIfInBounds_toArray, List.set_cons_zero, List.set_cons_succ]
          obtain ⟨n0, n1⟩ := hq.two
          have m0 := hq.free 0
          have m1 := hq.free 1
          refine wpAnyH_ready (rs := [8]) (by kernel_rfl) (by simp) ?_
          refine AllReadyH.cons (o := _) rfl (fun K hK => ?_) AllReadyH.nil
          have hPre := hHeld
          go_simp
          refine hK.out _ _ ?_ (fun hHeld => ?_)
          · exact keepS hJI hIw hPre
          clear hK K
          try simp only [Act.put, List.setIfInBounds_toArray, List.set_cons_zero, List.set_cons_succ]
          refine wpAnyH_done (by kernel_rfl) ?_ _
          have HB := hHeld.2.2.2.2
          clear hHeld hPre m0 m1
          go_wp2_with fail
          refine (R3.out _).mono ?_
          rintro e w3 ⟨rfl, hb⟩
          have HB := Lib.hid (HB.out.trans (hb.mono HB.out.size))
          clear hb
          go_wp2_with fail
          refine (CL.out _).mono ?_
          rintro e w4 ⟨rfl, hb⟩
          have HB := Lib.hid (HB.out.trans (hb.mono HB.out.size))
          clear hb
          go_wp2_with fail
          go_ret3
          exact ⟨ret_iii HV.out.1.symm HV.out.2.symm rfl, HB.out⟩
        exact AllReadyH.nil
      exact AllReadyH.nil
    exact AllReadyH.nil
  refine AllReadyH.cons (o := _) rfl (fun K hK => ?_) ?_
  · have hOld := hHeld
    have hJI : J ≠ v1.heap.size := by have := block_lt hHeld.1; exact Nat.ne_of_lt this
    have hIw : w.heap.size ≤ v1.heap.size := hHeld.2.2.2.2.out.size
    go_simp
    refine hK.out _ _ ?_ (fun hHeld => ?_)
    · exact keepJ hHeld (box_b _ _)
    have hq : Bx (v1.drew.alloc (.cells #[.int .i64 0, .int .i64 0] 65)) v1.heap.size [.int .i64 0, .int .i64 0] := Bx.new v1.drew _ _
    clear hK K
    try simp only [Act.put, List.setIfInBounds_toArray, List.set_cons_zero, List.set_cons_succ]
    refine wpAnyH_ready (rs := [2]) (by kernel_rfl) (by simp) ?_
    refine AllReadyH.cons (o := _) rfl (fun K hK => ?_) ?_
    · go_simp
      refine (R1.out _).mono ?_
      rintro e w9 ⟨rfl, hb⟩
      refine hK.out _ _ ?_ (fun hHeld => ?_)
      · exact keepJ hHeld hb
      have hq := hq.on hb
      clear hK K
      try simp only [Act.put, List.setIfInBounds_toArray, List.set_cons_zero, List.set_cons_succ]
      refine wpAnyH_ready (rs := [5]) (by kernel_rfl) (by simp) ?_
      refine AllReadyH.cons (o := _) rfl (fun K hK => ?_) ?_
      · go_simp
        refine (R2.out _).mono ?_
        rintro e w9 ⟨rfl, hb⟩
        refine hK.out _ _ ?_ (fun hHeld => ?_)
        · exact keepJ hHeld hb
        have hq := hq.on hb
        clear hK K
        try simp only [Act.put, List.setIfInBounds_toArray, List.set_cons_zero, List.set_cons_succ]
        refine wpAnyH_ready (rs := [6]) (by kernel_rfl) (by simp) ?_
        refine AllReadyH.cons (o := _) rfl (fun K hK => ?_) ?_
        · go_simp
          refine (CT.out _).mono ?_
          rintro e w9 ⟨rfl, hb⟩
          refine hK.out _ _ ?_ (fun hHeld => ?_)
          · exact keepJ hHeld hb
          have hq := hq.on hb
          clear hK K
          try simp only [Act.put, List.setIfInBounds_toArray, List.set_cons_zero, List.set_cons_succ]
          obtain ⟨n0, n1⟩ := hq.two
          have m0 := hq.free 0
          have m1 := hq.free 1
          refine wpAnyH_ready (rs := [8]) (by kernel_rfl) (by simp) ?_
          refine AllReadyH.cons (o := _) rfl (fun K hK => ?_) AllReadyH.nil
          have hPre := hHeld
          go_simp
          refine hK.out _ _ ?_ (fun hHeld => ?_)
          · exact keepS hJI hIw hPre
          clear hK K
          try simp only [Act.put, List.setIfInBounds_toArray, List.set_cons_zero, List.set_cons_succ]
          refine wpAnyH_done (by kernel_rfl) ?_ _
          have HB := hHeld.2.2.2.2
          clear hHeld hPre m0 m1
          go_wp2_with fail
          refine (R3.out _).mono ?_
          rintro e w3 ⟨rfl, hb⟩
          have HB := Lib.hid (HB.out.trans (hb.mono HB.out.size))
          clear hb
          go_wp2_with fail
          refine (CL.out _).mono ?_
          rintro e w4 ⟨rfl, hb⟩
          have HB := Lib.hid (HB.out.trans (hb.mono HB.out.size))
          clear hb
          go_wp2_with fail
          go_ret3
          exact ⟨ret_iii HV.out.1.symm HV.out.2.symm rfl, HB.out⟩
        exact AllReadyH.nil
      exact AllReadyH.nil
    exact AllReadyH.nil
  exact AllReadyH.nil

end Go.Proofs.Ytlcmgihaelgclaa
