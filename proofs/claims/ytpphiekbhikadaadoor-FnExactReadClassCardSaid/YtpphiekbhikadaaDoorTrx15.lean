/- Merged: Jpc, Jmm, Jpd, Jtx. -/
import Derived.Test.YtpphiekbhikadaaDoorTrx9
import Derived.Test.YtpphiekbhikadaaDoorTrx11
import Derived.Test.YtpphiekbhikadaaDoorTrx14
import Derived.Deep.RegionHeld3

/- Two lives: the chances that the program reckons. (Written by wip/gen/jpc.py.) -/
namespace Go.Proofs.YtpphiekbhikadaaDoor
open Go.ChangeShapes Go.WideShapes Go.ChangeAt Go.RowKit
set_option linter.unusedVariables false
set_option linter.unusedSimpArgs false
set_option maxRecDepth 100000

/-- the chances of each, where there is no error -/
def chU (E v : Int) : Int := if E = 0 then v else 0

def ChPost (A B C D E : Int) (w : World) (e : Ending) (w' : World) : Prop := e = .returned (.tuple #[.agg #[.int .i64 (chU E A), .int .i64 (chU E B), .int .i64 (chU E C), .int .i64 (chU E D)], .int .i64 E]) ∧ Below w.heap.size w w'

theorem set4_b {w w1 : World} {B : Nat} (h : Below w.heap.size w w1) (hB : w.heap.size ≤ B) (x0 x1 x2 x3 : Value) : Below w.heap.size w ((((w1.setCell ⟨B, 0, none⟩ x0).setCell ⟨B, 1, none⟩ x1).setCell ⟨B, 2, none⟩ x2).setCell ⟨B, 3, none⟩ x3) :=
  (((h.setCell (p := ⟨B, 0, none⟩) hB _).setCell (p := ⟨B, 1, none⟩) hB _).setCell (p := ⟨B, 2, none⟩) hB _).setCell (p := ⟨B, 3, none⟩) hB _

end Go.Proofs.YtpphiekbhikadaaDoor

/- Two lives: the functions of the model. (Written by wip/gen/jmm.py.) -/
namespace Go.Proofs.YtpphiekbhikadaaDoor
open Go.ChangeShapes Go.WideShapes Go.ChangeAt Go.RowKit
set_option linter.unusedVariables false
set_option maxRecDepth 100000

/-- a number of lives times one of others -/
theorem lv_mul {f : Int} {xs : List Int} {g : Int} {ys : List Int} (t : LTab f xs) (u : LTab g ys) (x y : Int) : 0 ≤ lvs f xs x * lvs g ys y ∧ lvs f xs x * lvs g ys y ≤ 1000000000000 := by
  obtain ⟨a0, a1⟩ := t.lvs_bd x
  obtain ⟨b0, b1⟩ := u.lvs_bd y
  have := Int.mul_nonneg a0 b0
  have := Int.mul_le_mul a1 b1 b0 (show (0 : Int) ≤ 1000000 by omega)
  omega

/-- the chance that at least one lives, times all pairs -/
def onE (A B C D : Int) : Int := A * B - (A - C) * (B - D)

theorem on_bd (A B C D : Int) (a0 : 0 ≤ A) (a1 : A ≤ 1000000) (b0 : 0 ≤ B) (b1 : B ≤ 1000000) (c0 : 0 ≤ C) (c1 : C ≤ A) (d0 : 0 ≤ D) (d1 : D ≤ B) : (0 ≤ (A - C) * (B - D) ∧ (A - C) * (B - D) ≤ A * B) ∧ 0 ≤ A * B ∧ A * B ≤ 1000000000000 := by
  have e1 : 0 ≤ (A - C) * (B - D) := Int.mul_nonneg (by omega) (by omega)
  have e2 : (A - C) * (B - D) ≤ A * B := Int.mul_le_mul (by omega) (by omega) (by omega) a0
  have e3 := Int.mul_le_mul a1 b1 b0 (show (0 : Int) ≤ 1000000 by omega)
  omega

/-- what JointTable hands over -/
def jtF (f : Int) (xs : List Int) (x g : Int) (ys : List Int) (y : Int) : Int := if twE f xs x g ys y true = 0 then x else 0

def jtY (f : Int) (xs : List Int) (x g : Int) (ys : List Int) (y : Int) : List Int := if twE f xs x g ys y true = 0 then jtL f xs x g ys y else []

/-- chances in lowest terms -/
def boN (f : Int) (xs : List Int) (x g : Int) (ys : List Int) (y n : Int) : Int := if twE f xs x g ys y (inB n 0 150) = 0 then lvs f xs (x + n) * lvs g ys (y + n) / gcdI (lvs f xs (x + n) * lvs g ys (y + n)) (lvs f xs x * lvs g ys y) else 0

def boD (f : Int) (xs : List Int) (x g : Int) (ys : List Int) (y n : Int) : Int := if twE f xs x g ys y (inB n 0 150) = 0 then lvs f xs x * lvs g ys y / gcdI (lvs f xs (x + n) * lvs g ys (y + n)) (lvs f xs x * lvs g ys y) else 0

def onN (f : Int) (xs : List Int) (x g : Int) (ys : List Int) (y n : Int) : Int := if twE f xs x g ys y (inB n 0 150) = 0 then onE (lvs f xs x) (lvs g ys y) (lvs f xs (x + n)) (lvs g ys (y + n)) / gcdI (onE (lvs f xs x) (lvs g ys y) (lvs f xs (x + n)) (lvs g ys (y + n))) (lvs f xs x * lvs g ys y) else 0

def onD (f : Int) (xs : List Int) (x g : Int) (ys : List Int) (y n : Int) : Int := if twE f xs x g ys y (inB n 0 150) = 0 then lvs f xs x * lvs g ys y / gcdI (onE (lvs f xs x) (lvs g ys y) (lvs f xs (x + n)) (lvs g ys (y + n))) (lvs f xs x * lvs g ys y) else 0

def IIIPost8 (u v E : Int) (w : World) (e : Ending) (w' : World) : Prop := e = .returned (.tuple #[.int .i64 u, .int .i64 v, .int .i64 E]) ∧ Below w.heap.size w w'


end Go.Proofs.YtpphiekbhikadaaDoor

/- Two lives: BothAlive and OneAlive of the program. (Written by wip/gen/jpd.py.) -/
namespace Go.Proofs.YtpphiekbhikadaaDoor
open Go.ChangeShapes Go.WideShapes Go.ChangeAt Go.RowKit
set_option linter.unusedVariables false
set_option linter.unusedSimpArgs false
set_option maxRecDepth 100000

/-- a share of lives in lowest terms -/
theorem sv_parts {f : Int} {xs : List Int} {x n : Int} (h : clE f xs x n = 0) : ∃ G, 1 ≤ G ∧ svN f xs x n * G = lvs f xs (x + n) ∧ svD f xs x n * G = lvs f xs x ∧ (0 ≤ svN f xs x n ∧ svN f xs x n ≤ svD f xs x n) ∧ 1 ≤ svD f xs x n ∧ svD f xs x n ≤ 1000000 := by
  obtain ⟨ht, ⟨x0, x1⟩, ⟨n0, n1⟩, hz⟩ := clE_iff.1 h
  obtain ⟨a0, a1⟩ := ht.lvs_bd (x + n)
  obtain ⟨b0, b1⟩ := ht.lvs_bd x
  have hm := ht.lvs_mono x (x + n) (by omega)
  obtain ⟨e1, e2⟩ := sv_0 h rfl rfl
  obtain ⟨p, q, G, h1, h2, h3, h4, h5, h6, h7, h8, _⟩ := gcd_parts (lvs f xs (x + n)) (lvs f xs x) a0 (by omega)
  rw [e1, e2, h1, h2]
  have h9 : q * G = lvs f xs x := by
    have := Int.mul_ediv_add_emod (lvs f xs x) q
    rw [h5, h6] at this
    omega
  refine ⟨G, h8, h7, h9, ⟨h3, ?_⟩, h4, ?_⟩
  · refine Int.le_of_mul_le_mul_right (a := G) ?_ (by omega)
    rw [h7, h9]; exact hm
  · have := Int.mul_le_mul_of_nonneg_left h8 (show 0 ≤ q by omega)
    rw [h9] at this
    omega

/-- two shares -/
theorem two_parts {f : Int} {xs : List Int} {x g : Int} {ys : List Int} {y n : Int} (h : twE f xs x g ys y (inB n 0 150) = 0) {A B C D : Int} (hA : svN f xs x n = A) (hB : svD f xs x n = B) (hC : svN g ys y n = C) (hD : svD g ys y n = D) :
    (0 ≤ A ∧ A ≤ B) ∧ (1 ≤ B ∧ B ≤ 1000000) ∧ (0 ≤ C ∧ C ≤ D) ∧ (1 ≤ D ∧ D ≤ 1000000) ∧
    (boN f xs x g ys y n = A * C / gcdI (A * C) (B * D) ∧ boD f xs x g ys y n = B * D / gcdI (A * C) (B * D)) ∧
    (onN f xs x g ys y n = (B * D - (B - A) * (D - C)) / gcdI (B * D - (B - A) * (D - C)) (B * D) ∧ onD f xs x g ys y n = B * D / gcdI (B * D - (B - A) * (D - C)) (B * D)) := by
  obtain ⟨hd, hn⟩ := tw_iff.1 h
  obtain ⟨n0, n1⟩ := (inB_iff _ _ _).1 hn
  have c1 : clE f xs x n = 0 := clE_iff.2 ⟨hd.t, ⟨hd.x0, by have := hd.x1; omega⟩, ⟨n0, n1⟩, by have := hd.tx; omega⟩
  have c2 : clE g ys y n = 0 := clE_iff.2 ⟨hd.u, ⟨hd.y0, hd.y1⟩, ⟨n0, n1⟩, by have := hd.uy; omega⟩
  obtain ⟨G, g1, g2, g3, ⟨g4, g5⟩, g6, g7⟩ := sv_parts c1
  obtain ⟨F, f1, f2, f3, ⟨f4, f5⟩, f6, f7⟩ := sv_parts c2
  rw [hA] at g2 g4 g5
  rw [hB] at g3 g5 g6 g7
  rw [hC] at f2 f4 f5
  rw [hD] at f3 f5 f6 f7
  have hgf : 1 ≤ G * F := by have := Int.mul_le_mul g1 f1 (show (0 : Int) ≤ 1 by omega) (by omega); omega
  have e1 : lvs f xs (x + n) * lvs g ys (y + n) = A * C * (G * F) := by rw [← g2, ← f2]; simp only [Int.mul_assoc, Int.mul_left_comm, Int.mul_comm]
  have e2 : lvs f xs x * lvs g ys y = B * D * (G * F) := by rw [← g3, ← f3]; simp only [Int.mul_assoc, Int.mul_left_comm, Int.mul_comm]
  have e3 : onE (lvs f xs x) (lvs g ys y) (lvs f xs (x + n)) (lvs g ys (y + n)) = (B * D - (B - A) * (D - C)) * (G * F) := by
    unfold onE
    rw [e2, ← g2, ← f2, ← g3, ← f3, ← Int.sub_mul, ← Int.sub_mul, Int.sub_mul (B * D)]
    congr 1
    simp only [Int.mul_assoc, Int.mul_left_comm, Int.mul_comm]
  have hq : 1 ≤ B * D := by have := Int.mul_le_mul g6 f6 (show (0 : Int) ≤ 1 by omega) (by omega); omega
  have h1 : 0 ≤ A * C := Int.mul_nonneg g4 f4
  have h2 : (B - A) * (D - C) ≤ B * D := Int.mul_le_mul (by omega) (by omega) (by omega) (by omega)
  obtain ⟨m1, m2⟩ := frac_mul (A * C) (B * D) (G * F) h1 hq hgf
  obtain ⟨m3, m4⟩ := frac_mul (B * D - (B - A) * (D - C)) (B * D) (G * F) (by omega) hq hgf
  refine ⟨⟨g4, g5⟩, ⟨g6, g7⟩, ⟨f4, f5⟩, ⟨f6, f7⟩, ⟨?_, ?_⟩, ?_, ?_⟩
  · unfold boN; rw [if_pos h, e1, e2]; exact m1
  · unfold boD; rw [if_pos h, e1, e2]; exact m2
  · unfold onN; rw [if_pos h, e3, e2]; exact m3
  · unfold onD; rw [if_pos h, e3, e2]; exact m4

theorem keepJ {w W W' : World} {J : Nat} {A B C D : Int} (h : W.cell? ⟨J, 0, none⟩ = some (.int .i64 A) ∧ W.cell? ⟨J, 1, none⟩ = some (.int .i64 B) ∧ W.cell? ⟨J, 2, none⟩ = some (.int .i64 C) ∧ W.cell? ⟨J, 3, none⟩ = some (.int .i64 D) ∧ Hid (Below w.heap.size w W)) (hb : Below W.heap.size W W') :
    W'.cell? ⟨J, 0, none⟩ = some (.int .i64 A) ∧ W'.cell? ⟨J, 1, none⟩ = some (.int .i64 B) ∧ W'.cell? ⟨J, 2, none⟩ = some (.int .i64 C) ∧ W'.cell? ⟨J, 3, none⟩ = some (.int .i64 D) ∧ Hid (Below w.heap.size w W') :=
  ⟨keep2 hb h.1, keep2 hb h.2.1, keep2 hb h.2.2.1, keep2 hb h.2.2.2.1, Lib.hid (h.2.2.2.2.out.trans (hb.mono h.2.2.2.2.out.size))⟩

theorem setFar2 {w : World} {p : Addr} {B k : Nat} {v u : Value} (hn : p.block ≠ B) (h : w.cell? p = some u) : (w.setCell ⟨B, k, none⟩ v).cell? p = some u :=
  (World.cell?_of_block (w := w) (far_setCell w ⟨B, k, none⟩ v p.block hn)).trans h

theorem keepS {w W : World} {J I : Nat} {A B C D : Int} {x y : Value} (hn : J ≠ I) (hI : w.heap.size ≤ I) (h : W.cell? ⟨J, 0, none⟩ = some (.int .i64 A) ∧ W.cell? ⟨J, 1, none⟩ = some (.int .i64 B) ∧ W.cell? ⟨J, 2, none⟩ = some (.int .i64 C) ∧ W.cell? ⟨J, 3, none⟩ = some (.int .i64 D) ∧ Hid (Below w.heap.size w W)) :
    ((W.setCell ⟨I, 0, none⟩ x).setCell ⟨I, 1, none⟩ y).cell? ⟨J, 0, none⟩ = some (.int .i64 A) ∧ ((W.setCell ⟨I, 0, none⟩ x).setCell ⟨I, 1, none⟩ y).cell? ⟨J, 1, none⟩ = some (.int .i64 B) ∧ ((W.setCell ⟨I, 0, none⟩ x).setCell ⟨I, 1, none⟩ y).cell? ⟨J, 2, none⟩ = some (.int .i64 C) ∧ ((W.setCell ⟨I, 0, none⟩ x).setCell ⟨I, 1, none⟩ y).cell? ⟨J, 3, none⟩ = some (.int .i64 D) ∧ Hid (Below w.heap.size w ((W.setCell ⟨I, 0, none⟩ x).setCell ⟨I, 1, none⟩ y)) :=
  ⟨setFar2 hn (setFar2 hn h.1), setFar2 hn (setFar2 hn h.2.1), setFar2 hn (setFar2 hn h.2.2.1), setFar2 hn (setFar2 hn h.2.2.2.1), Lib.hid ((h.2.2.2.2.out.setCell (p := ⟨I, 0, none⟩) hI _).setCell (p := ⟨I, 1, none⟩) hI _)⟩

end Go.Proofs.YtpphiekbhikadaaDoor

/- The exact laws on BothAlive, OneAlive and WidowYears. (Written by wip/gen/jtx.py.) -/
namespace Go.Proofs.YtpphiekbhikadaaDoor
open Go.ChangeShapes Go.WideShapes Go.ChangeAt Go.RowKit
set_option linter.unusedVariables false
set_option maxRecDepth 100000

/-- what a law on two tables keeps: their boxes, what they are -/
structure D2 (w : World) (f : Int) (a : Option Addr) (l c : Nat) (g : Int) (b : Option Addr) (m d : Nat) (xs ys : List Int) (W : World) : Prop where
  k2 : K2 w f (.slice a l c) g (.slice b m d) W
  xx : Ints W a l xs
  yy : Ints W b m ys

theorem D2.on {w : World} {f : Int} {a : Option Addr} {l c : Nat} {g : Int} {b : Option Addr} {m d : Nat} {xs ys : List Int} {W W' : World} (h : D2 w f a l c g b m d xs ys W) (hb : Below W.heap.size W W') : D2 w f a l c g b m d xs ys W' := ⟨h.k2.on hb, h.xx.on hb, h.yy.on hb⟩

theorem D2.drew {w : World} {f : Int} {a : Option Addr} {l c : Nat} {g : Int} {b : Option Addr} {m d : Nat} {xs ys : List Int} {W : World} (h : D2 w f a l c g b m d xs ys W) : D2 w f a l c g b m d xs ys W.drew := h.on (Below.drew (Below.refl _ _))

theorem d2S {w : World} {f : Int} {a : Option Addr} {l c : Nat} {g : Int} {b : Option Addr} {m d : Nat} {xs ys : List Int} {W : World} (h : D2 w f a l c g b m d xs ys W) :
    W.cell? ⟨w.heap.size, 0, none⟩ = some (.int .i64 f) ∧ W.cell? ⟨w.heap.size, 1, none⟩ = some (.slice a l c) ∧ W.cell? ⟨w.heap.size + 1, 0, none⟩ = some (.int .i64 g) ∧ W.cell? ⟨w.heap.size + 1, 1, none⟩ = some (.slice b m d) ∧ Hid (D2 w f a l c g b m d xs ys W) := ⟨h.k2.t0, h.k2.t1, h.k2.u0, h.k2.u1, Lib.hid h⟩

/-- .. and the copies with which the program is called -/
structure E2 (w : World) (f : Int) (a : Option Addr) (l c : Nat) (g : Int) (b : Option Addr) (m d : Nat) (xs ys : List Int) (P1 P2 B1 B2 : Nat) (W : World) : Prop where
  d2 : D2 w f a l c g b m d xs ys W
  p1 : Bx W P1 [.int .i64 f, .slice (some ⟨B1, 0, none⟩) l l]
  p2 : Bx W P2 [.int .i64 g, .slice (some ⟨B2, 0, none⟩) m m]
  b1 : Blk W B1 xs
  b2 : Blk W B2 ys

theorem E2.on {w : World} {f : Int} {a : Option Addr} {l c : Nat} {g : Int} {b : Option Addr} {m d : Nat} {xs ys : List Int} {P1 P2 B1 B2 : Nat} {W W' : World} (h : E2 w f a l c g b m d xs ys P1 P2 B1 B2 W) (hb : Below W.heap.size W W') : E2 w f a l c g b m d xs ys P1 P2 B1 B2 W' := ⟨h.d2.on hb, h.p1.on hb, h.p2.on hb, h.b1.step hb, h.b2.step hb⟩

theorem e2S {w : World} {f : Int} {a : Option Addr} {l c : Nat} {g : Int} {b : Option Addr} {m d : Nat} {xs ys : List Int} {P1 P2 B1 B2 : Nat} {W : World} (h : E2 w f a l c g b m d xs ys P1 P2 B1 B2 W) :
    W.cell? ⟨w.heap.size, 0, none⟩ = some (.int .i64 f) ∧ W.cell? ⟨w.heap.size, 1, none⟩ = some (.slice a l c) ∧ W.cell? ⟨w.heap.size + 1, 0, none⟩ = some (.int .i64 g) ∧ W.cell? ⟨w.heap.size + 1, 1, none⟩ = some (.slice b m d) ∧ W.cell? ⟨P1, 0, none⟩ = some (.int .i64 f) ∧ W.cell? ⟨P1, 1, none⟩ = some (.slice (some ⟨B1, 0, none⟩) l l) ∧ W.cell? ⟨P2, 0, none⟩ = some (.int .i64 g) ∧ W.cell? ⟨P2, 1, none⟩ = some (.slice (some ⟨B2, 0, none⟩) m m) ∧ Hid (E2 w f a l c g b m d xs ys P1 P2 B1 B2 W) :=
  ⟨h.d2.k2.t0, h.d2.k2.t1, h.d2.k2.u0, h.d2.k2.u1, h.p1.two.1, h.p1.two.2, h.p2.two.1, h.p2.two.2, Lib.hid h⟩

end Go.Proofs.YtpphiekbhikadaaDoor
