/- Two lives: the functions of the model. (Written by wip/gen/jmm.py.) -/
import Derived.Test.YtlcmgihaelgclaaJmj
import Derived.Test.YtlcmgihaelgclaaTabN
import Derived.Test.YtlcmgihaelgclaaExpI
import Derived.Test.YtlcmgihaelgclaaMakeL
namespace Go.Proofs.Ytlcmgihaelgclaa
open Go.ChangeShapes Go.WideShapes Go.ChangeAt Go.RowKit
set_option linter.unusedVariables false
set_option maxRecDepth 100000

theorem k2S {w : World} {f : Int} {sa : Value} {g : Int} {sb : Value} {W : World} (h : K2 w f sa g sb W) :
    W.cell? ⟨w.heap.size, 0, none⟩ = some (.int .i64 f) ∧ W.cell? ⟨w.heap.size, 1, none⟩ = some sa ∧ W.cell? ⟨w.heap.size + 1, 0, none⟩ = some (.int .i64 g) ∧ W.cell? ⟨w.heap.size + 1, 1, none⟩ = some sb ∧ Hid (K2 w f sa g sb W) := ⟨h.t0, h.t1, h.u0, h.u1, Lib.hid h⟩

theorem K2.drew {w : World} {f : Int} {sa : Value} {g : Int} {sb : Value} {W : World} (h : K2 w f sa g sb W) : K2 w f sa g sb W.drew := ⟨cell_drew h.t0, cell_drew h.t1, cell_drew h.u0, cell_drew h.u1, h.low.drew⟩

/-- a number of lives times one of others -/
theorem lv_mul {f : Int} {xs : List Int} {g : Int} {ys : List Int} (t : LTab f xs) (u : LTab g ys) (x y : Int) : 0 ≤ lvs f xs x * lvs g ys y ∧ lvs f xs x * lvs g ys y ≤ 1000000000000 := by
  obtain ⟨a0, a1⟩ := t.lvs_bd x
  obtain ⟨b0, b1⟩ := u.lvs_bd y
  have := Int.mul_nonneg a0 b0
  have := Int.mul_le_mul a1 b1 b0 (show (0 : Int) ≤ 1000000 by omega)
  omega

/-- the chance that at least one lives, times all pairs -/
def onE (A B C D : Int) : Int := A * B - (A - C) * (B - D)

theorem on_bd (A B C D : Int) (a0 : 0 ≤ A) (a1 : A ≤ 1000000) (b0 : 0 ≤ B) (b1 : B ≤ 1000000) (c0 : 0 ≤ C) (c1 : C ≤ A) (d0 : 0 ≤ D) (d1 : D ≤ B) : (0 ≤ (A - C) * (B - D) ∧ (A - C) * (B - D) ≤ A * B) ∧ 0 ≤ A * B ∧ A * B ≤ 1000000000000 := by
  have e1 : 0 ≤ (A - C) * (B - D) := Int.mul_nonneg (by omega) (by omega)
  have e2 : (A - C) * (B - D) ≤ A * B := Int.mul_le_mul (by omega) (by omega) (by omega) a0
  have e3 := Int.mul_le_mul a1 b1 b0 (show (0 : Int) ≤ 1000000 by omega)
  omega

/-- what JointTable hands over -/
def jtF (f : Int) (xs : List Int) (x g : Int) (ys : List Int) (y : Int) : Int := if twE f xs x g ys y true = 0 then x else 0

def jtY (f : Int) (xs : List Int) (x g : Int) (ys : List Int) (y : Int) : List Int := if twE f xs x g ys y true = 0 then jtL f xs x g ys y else []

theorem K2.rb {w : World} {f : Int} {sa : Value} {g : Int} {sb : Value} (T U V : TypeId) (vs : List Value) : K2 w f sa g sb (((w.alloc (.cells #[.int .i64 f, sa] T)).alloc (.cells #[.int .i64 g, sb] U)).alloc (.cells vs.toArray V)) ∧ Bx (((w.alloc (.cells #[.int .i64 f, sa] T)).alloc (.cells #[.int .i64 g, sb] U)).alloc (.cells vs.toArray V)) (w.heap.size + 2) vs := by
  have h1 := K2.new w f sa g sb T U
  have h2 := Bx.new ((w.alloc (.cells #[.int .i64 f, sa] T)).alloc (.cells #[.int .i64 g, sb] U)) vs V
  rw [World.size_alloc, World.size_alloc] at h2
  exact ⟨h1.on (box_b _ _), h2⟩

set_option maxHeartbeats 2000000 in
theorem sjt_any (f : Int) (xs : List Int) (a : Option Addr) (l c : Nat) (x : Int) (g : Int) (ys : List Int) (b : Option Addr) (m d : Nat) (y : Int) (w : World) (h : Ints w a l xs) (k : Ints w b m ys) :
    Calls Try.prog 14 #[.agg #[.int .i64 f, .slice a l c], .int .i64 x, .agg #[.int .i64 g, .slice b m d], .int .i64 y] w (TbPost (jtF f xs x g ys y) (jtY f xs x g ys y) (twE f xs x g ys y true) w) := by
  have H := Lib.hid h
  have KK := Lib.hid k
  clear h k
  have C1 : Hid (∀ W, Hid (K2 w f (.slice a l c) g (.slice b m d) W) → Calls Try.prog 44 #[.agg #[.int .i64 f, .slice a l c], .int .i64 x, .agg #[.int .i64 g, .slice b m d], .int .i64 y, .bool true] W fun e w' => e = .returned (.int .i64 (twE f xs x g ys y true)) ∧ Below W.heap.size W w') :=
    Lib.hid (fun W hW => twcode_any f xs a l c x g ys b m d y true W (H.out.on hW.out.low) (KK.out.on hW.out.low))
  have H0 := Lib.hid (K2.rb (w := w) (f := f) (sa := .slice a l c) (g := g) (sb := .slice b m d) 26 26 26 [.int .i64 0, .slice none 0 0])
  have HK := Lib.hid H0.out.1
  have HR := Lib.hid H0.out.2
  have HE : Hid (twE f xs x g ys y true = twE f xs x g ys y true) := Lib.hid rfl
  obtain ⟨E, hE⟩ : ∃ y_, twE f xs x g ys y true = y_ := ⟨_, rfl⟩
  rw [hE] at C1 HE
  clear H0
  by_cases hz : E = 0
  · subst hz
    have hD := (tw_iff.1 hE).1
    have CJ : Hid (∀ W, Hid (K2 w f (.slice a l c) g (.slice b m d) W) → Calls Try.prog 45 #[.agg #[.int .i64 f, .slice a l c], .int .i64 x, .agg #[.int .i64 g, .slice b m d], .int .i64 y] W (JtPost x (jtL f xs x g ys y) W)) := Lib.hid (fun W hW => sjoint_any f xs a l c x g ys b m d y W (H.out.on hW.out.low) (KK.out.on hW.out.low) hD)
    have HF : Hid (jtF f xs x g ys y = x ∧ jtY f xs x g ys y = jtL f xs x g ys y) := Lib.hid (by simp [jtF, jtY, hE])
    rw [hE]
    clear hE hD
    go_enter Try.func14, Try.ntmps14
    go_wp2_with fail
    with_reducible refine (C1.out _ HK).mono ?_
    rintro e w1 ⟨rfl, hb⟩
    have HK := Lib.hid (HK.out.on hb)
    have HR := Lib.hid (HR.out.on hb)
    obtain ⟨k0, k1, k2, k3, _⟩ := HK.out
    clear hb
    go_wp2_with fail
    with_reducible refine (CJ.out _ HK).mono ?_
    rintro e w2 ⟨ja, jb, jc, rfl, hT, hb⟩
    have HB := Lib.hid (HK.out.low.trans (hb.mono HK.out.low.size))
    have HR2 := Lib.hid (HR.out.on hb)
    have HT := Lib.hid (hT.mono (b2 := w.heap.size + 3) (by have := HR.out.lt; omega))
    have hr0 := HR2.out.two.1
    have hr1 := HR2.out.two.2
    have hf0 := HR2.out.free 0
    have hf1 := HR2.out.free 1
    clear hb hT k0 k1 k2 k3
    go_wp2_with fail
    refine bodyPost_ret (v := .tuple #[.agg #[.int .i64 x, .slice ja jb jc], .int .i64 0]) (by simp [results, Try.results14, go_sem, hr0, hr1]) rfl ?_
    have ho : Only (w.heap.size + 2) w2 ((w2.setCell ⟨w.heap.size + 2, 0, none⟩ (.int .i64 x)).setCell ⟨w.heap.size + 2, 1, none⟩ (.slice ja jb jc)) := ((Only.refl _ w2).setCell (p := ⟨w.heap.size + 2, 0, none⟩) rfl _).setCell (p := ⟨w.heap.size + 2, 1, none⟩) rfl _
    refine ⟨ja, jb, jc, by rw [HF.out.1], ?_, HB.out.trans (ho.below (by omega))⟩
    rw [HF.out.2]
    exact (HT.out.only ho (fun z hz => by have := HT.out.far z hz; omega)).mono (by omega)
  · have hne : (E != 0) = true := by simpa using hz
    have HF : Hid (jtF f xs x g ys y = 0 ∧ jtY f xs x g ys y = []) := Lib.hid (by simp [jtF, jtY, hE, hz])
    rw [hE]
    clear hE hz
    go_enter Try.func14, Try.ntmps14
    go_wp2_with fail
    with_reducible refine (C1.out _ HK).mono ?_
    rintro e w1 ⟨rfl, hb⟩
    have HK := Lib.hid (HK.out.on hb)
    have HR := Lib.hid (HR.out.on hb)
    have hr0 := HR.out.two.1
    have hr1 := HR.out.two.2
    have hf0 := HR.out.free 0
    have hf1 := HR.out.free 1
    clear hb
    go_wp2_with fail
    refine bodyPost_ret (v := .tuple #[.agg #[.int .i64 0, .slice none 0 0], .int .i64 E]) (by simp [results, Try.results14, go_sem, hr0, hr1]) rfl ?_
    refine ⟨none, 0, 0, by rw [HF.out.1], ?_, (HK.out.low.setCell (p := ⟨w.heap.size + 2, 0, none⟩) (by show w.heap.size ≤ w.heap.size + 2; omega) _).setCell (p := ⟨w.heap.size + 2, 1, none⟩) (by show w.heap.size ≤ w.heap.size + 2; omega) _⟩
    rw [HF.out.2]
    exact ⟨rfl, by omega, .inl ⟨rfl, rfl⟩⟩

set_option maxHeartbeats 4000000 in
theorem schan_any (f : Int) (xs : List Int) (a : Option Addr) (l c : Nat) (x : Int) (g : Int) (ys : List Int) (b : Option Addr) (m d : Nat) (y : Int) (n : Int) (w : World) (h : Ints w a l xs) (k : Ints w b m ys) (hD : Duo f xs x g ys y) (n0 : 0 ≤ n) (n1 : n ≤ 150) :
    Calls Try.prog 52 #[.agg #[.int .i64 f, .slice a l c], .int .i64 x, .agg #[.int .i64 g, .slice b m d], .int .i64 y, .int .i64 n] w fun e w' => e = .returned (.tuple #[.int .i64 (lvs f xs (x + n) * lvs g ys (y + n)), .int .i64 (onE (lvs f xs x) (lvs g ys y) (lvs f xs (x + n)) (lvs g ys (y + n))), .int .i64 (lvs f xs x * lvs g ys y)]) ∧ Below w.heap.size w w' := by
  have H := Lib.hid h
  have KK := Lib.hid k
  clear h k
  have x0 := hD.x0
  have x1 := hD.x1
  have y0 := hD.y0
  have y1 := hD.y1
  have f0 := hD.t.1.1
  have g0 := hD.u.1.1
  have C1 : Hid (∀ W, Hid (K2 w f (.slice a l c) g (.slice b m d) W) → Calls Try.prog 79 #[.agg #[.int .i64 f, .slice a l c], .int .i64 x] W fun e w' => e = .returned (.int .i64 (lvs f xs x)) ∧ Below W.heap.size W w') :=
    Lib.hid (fun W hW => lives_any f xs a l c x W (H.out.on hW.out.low) hD.t.1.1 hD.t.1.2 (by omega) (by omega))
  have C2 : Hid (∀ W, Hid (K2 w f (.slice a l c) g (.slice b m d) W) → Calls Try.prog 79 #[.agg #[.int .i64 g, .slice b m d], .int .i64 y] W fun e w' => e = .returned (.int .i64 (lvs g ys y)) ∧ Below W.heap.size W w') :=
    Lib.hid (fun W hW => lives_any g ys b m d y W (KK.out.on hW.out.low) hD.u.1.1 hD.u.1.2 (by omega) (by omega))
  have C3 : Hid (∀ W, Hid (K2 w f (.slice a l c) g (.slice b m d) W) → Calls Try.prog 79 #[.agg #[.int .i64 f, .slice a l c], .int .i64 (x + n)] W fun e w' => e = .returned (.int .i64 (lvs f xs (x + n))) ∧ Below W.heap.size W w') :=
    Lib.hid (fun W hW => lives_any f xs a l c (x + n) W (H.out.on hW.out.low) hD.t.1.1 hD.t.1.2 (by omega) (by omega))
  have C4 : Hid (∀ W, Hid (K2 w f (.slice a l c) g (.slice b m d) W) → Calls Try.prog 79 #[.agg #[.int .i64 g, .slice b m d], .int .i64 (y + n)] W fun e w' => e = .returned (.int .i64 (lvs g ys (y + n))) ∧ Below W.heap.size W w') :=
    Lib.hid (fun W hW => lives_any g ys b m d (y + n) W (KK.out.on hW.out.low) hD.u.1.1 hD.u.1.2 (by omega) (by omega))
  have HK : Hid (K2 w f (.slice a l c) g (.slice b m d) ((w.alloc (.cells #[.int .i64 f, .slice a l c] 26)).alloc (.cells #[.int .i64 g, .slice b m d] 26))) := Lib.hid (K2.new _ _ _ _ _ _ _)
  obtain ⟨a0, a1⟩ := hD.t.lvs_bd x
  obtain ⟨b0, b1⟩ := hD.u.lvs_bd y
  obtain ⟨c0, c1⟩ := hD.t.lvs_bd (x + n)
  obtain ⟨d0, d1⟩ := hD.u.lvs_bd (y + n)
  have c2 := hD.t.lvs_mono x (x + n) (by omega)
  have d2 := hD.u.lvs_mono y (y + n) (by omega)
  obtain ⟨A, hA⟩ : ∃ y_, lvs f xs x = y_ := ⟨_, rfl⟩
  obtain ⟨B, hB⟩ : ∃ y_, lvs g ys y = y_ := ⟨_, rfl⟩
  obtain ⟨C, hC⟩ : ∃ y_, lvs f xs (x + n) = y_ := ⟨_, rfl⟩
  obtain ⟨D, hDD⟩ : ∃ y_, lvs g ys (y + n) = y_ := ⟨_, rfl⟩
  rw [hA] at a0 a1 c2 C1
  rw [hB] at b0 b1 d2 C2
  rw [hC] at c0 c1 c2 C3
  rw [hDD] at d0 d1 d2 C4
  rw [hA, hB, hC, hDD]
  obtain ⟨⟨e1, e2⟩, e3, e4⟩ := on_bd A B C D a0 a1 b0 b1 c0 c2 d0 d2
  have e5 : 0 ≤ C * D := Int.mul_nonneg c0 d0
  have e6 : C * D ≤ 1000000000000 := by
    have := Int.mul_le_mul c1 d1 d0 (show (0 : Int) ≤ 1000000 by omega); omega
  unfold onE
  have q1 : IntKind.i64.wrap (x + n) = x + n := IntWalk.i64_in _ (by omega)
  have q2 : IntKind.i64.wrap (y + n) = y + n := IntWalk.i64_in _ (by omega)
  clear hA hB hC hDD hD
  go_enter Try.func52, Try.ntmps52
  go_wp2_with fail
  go_region_held3 (fun w' => w'.cell? ⟨w.heap.size, 0, none⟩ = some (.int .i64 f) ∧ w'.cell? ⟨w.heap.size, 1, none⟩ = some (.slice a l c) ∧ w'.cell? ⟨w.heap.size + 1, 0, none⟩ = some (.int .i64 g) ∧ w'.cell? ⟨w.heap.size + 1, 1, none⟩ = some (.slice b m d) ∧ Hid (K2 w f (.slice a l c) g (.slice b m d) w'))
    (first
      | (go_split_ands; exact k2S (Hid.out (by with_reducible assumption)))
      | (go_split_ands; exact k2S (K2.on (Hid.out (by with_reducible assumption)) hb))
      | (go_split_ands; exact k2S (K2.drew (Hid.out (by with_reducible assumption))))
      | fail)
    (first
      | (go_split_ands; go_at_call 79; ((with_reducible refine (C1.out _ (by with_reducible assumption)).mono ?_); rintro e w' ⟨rfl, hb⟩))
      | (go_split_ands; go_at_call 79; ((with_reducible refine (C2.out _ (by with_reducible assumption)).mono ?_); rintro e w' ⟨rfl, hb⟩))
      | fail)
  all_goals
    go_split_ands
    go_wp2_with fail
    go_region_held3 (fun w' => w'.cell? ⟨w.heap.size, 0, none⟩ = some (.int .i64 f) ∧ w'.cell? ⟨w.heap.size, 1, none⟩ = some (.slice a l c) ∧ w'.cell? ⟨w.heap.size + 1, 0, none⟩ = some (.int .i64 g) ∧ w'.cell? ⟨w.heap.size + 1, 1, none⟩ = some (.slice b m d) ∧ Hid (K2 w f (.slice a l c) g (.slice b m d) w'))
      (first
        | (go_split_ands; exact k2S (Hid.out (by with_reducible assumption)))
        | (go_split_ands; exact k2S (K2.on (Hid.out (by with_reducible assumption)) hb))
        | (go_split_ands; exact k2S (K2.drew (Hid.out (by with_reducible assumption))))
        | fail)
      (first
        | (go_split_ands; go_at_call 79; ((with_reducible refine (C3.out _ (by with_reducible assumption)).mono ?_); rintro e w' ⟨rfl, hb⟩))
        | (go_split_ands; go_at_call 79; ((with_reducible refine (C4.out _ (by with_reducible assumption)).mono ?_); rintro e w' ⟨rfl, hb⟩))
        | fail)
    all_goals
      go_split_ands
      go_wp2_with fail
      go_ret3
      exact ⟨rfl, K2.low (Hid.out (by with_reducible assumption))⟩

/-- chances in lowest terms -/
def boN (f : Int) (xs : List Int) (x g : Int) (ys : List Int) (y n : Int) : Int := if twE f xs x g ys y (inB n 0 150) = 0 then lvs f xs (x + n) * lvs g ys (y + n) / gcdI (lvs f xs (x + n) * lvs g ys (y + n)) (lvs f xs x * lvs g ys y) else 0

def boD (f : Int) (xs : List Int) (x g : Int) (ys : List Int) (y n : Int) : Int := if twE f xs x g ys y (inB n 0 150) = 0 then lvs f xs x * lvs g ys y / gcdI (lvs f xs (x + n) * lvs g ys (y + n)) (lvs f xs x * lvs g ys y) else 0

def onN (f : Int) (xs : List Int) (x g : Int) (ys : List Int) (y n : Int) : Int := if twE f xs x g ys y (inB n 0 150) = 0 then onE (lvs f xs x) (lvs g ys y) (lvs f xs (x + n)) (lvs g ys (y + n)) / gcdI (onE (lvs f xs x) (lvs g ys y) (lvs f xs (x + n)) (lvs g ys (y + n))) (lvs f xs x * lvs g ys y) else 0

def onD (f : Int) (xs : List Int) (x g : Int) (ys : List Int) (y n : Int) : Int := if twE f xs x g ys y (inB n 0 150) = 0 then lvs f xs x * lvs g ys y / gcdI (onE (lvs f xs x) (lvs g ys y) (lvs f xs (x + n)) (lvs g ys (y + n))) (lvs f xs x * lvs g ys y) else 0

def IIIPost8 (u v E : Int) (w : World) (e : Ending) (w' : World) : Prop := e = .returned (.tuple #[.int .i64 u, .int .i64 v, .int .i64 E]) ∧ Below w.heap.size w w'

set_option maxHeartbeats 4000000 in
theorem sboth_any (f : Int) (xs : List Int) (a : Option Addr) (l c : Nat) (x : Int) (g : Int) (ys : List Int) (b : Option Addr) (m d : Nat) (y : Int) (n : Int) (w : World) (h : Ints w a l xs) (k : Ints w b m ys) :
    Calls Try.prog 17 #[.agg #[.int .i64 f, .slice a l c], .int .i64 x, .agg #[.int .i64 g, .slice b m d], .int .i64 y, .int .i64 n] w (IIIPost8 (boN f xs x g ys y n) (boD f xs x g ys y n) (twE f xs x g ys y (inB n 0 150)) w) := by
  have H := Lib.hid h
  have KK := Lib.hid k
  clear h k
  have C1 : Hid (∀ W, Hid (K2 w f (.slice a l c) g (.slice b m d) W) → Calls Try.prog 44 #[.agg #[.int .i64 f, .slice a l c], .int .i64 x, .agg #[.int .i64 g, .slice b m d], .int .i64 y, .bool (inB n 0 150)] W fun e w' => e = .returned (.int .i64 (twE f xs x g ys y (inB n 0 150))) ∧ Below W.heap.size W w') :=
    Lib.hid (fun W hW => twcode_any f xs a l c x g ys b m d y _ W (H.out.on hW.out.low) (KK.out.on hW.out.low))
  have HK : Hid (K2 w f (.slice a l c) g (.slice b m d) ((w.alloc (.cells #[.int .i64 f, .slice a l c] 26)).alloc (.cells #[.int .i64 g, .slice b m d] 26))) := Lib.hid (K2.new _ _ _ _ _ _ _)
  unfold IIIPost8
  obtain ⟨E, hE⟩ : ∃ y_, twE f xs x g ys y (inB n 0 150) = y_ := ⟨_, rfl⟩
  rw [hE] at C1
  by_cases hz : E = 0
  · subst hz
    obtain ⟨hD, hn⟩ := tw_iff.1 hE
    obtain ⟨n0, n1⟩ := (inB_iff _ _ _).1 hn
    have CC : Hid (∀ W, Hid (K2 w f (.slice a l c) g (.slice b m d) W) → Calls Try.prog 52 #[.agg #[.int .i64 f, .slice a l c], .int .i64 x, .agg #[.int .i64 g, .slice b m d], .int .i64 y, .int .i64 n] W fun e w' => e = .returned (.tuple #[.int .i64 (lvs f xs (x + n) * lvs g ys (y + n)), .int .i64 (onE (lvs f xs x) (lvs g ys y) (lvs f xs (x + n)) (lvs g ys (y + n))), .int .i64 (lvs f xs x * lvs g ys y)]) ∧ Below W.heap.size W w') :=
      Lib.hid (fun W hW => schan_any f xs a l c x g ys b m d y n W (H.out.on hW.out.low) (KK.out.on hW.out.low) hD n0 n1)
    have HV : Hid (boN f xs x g ys y n = lvs f xs (x + n) * lvs g ys (y + n) / gcdI (lvs f xs (x + n) * lvs g ys (y + n)) (lvs f xs x * lvs g ys y) ∧ boD f xs x g ys y n = lvs f xs x * lvs g ys y / gcdI (lvs f xs (x + n) * lvs g ys (y + n)) (lvs f xs x * lvs g ys y)) := Lib.hid (by simp [boN, boD, hE])
    obtain ⟨a0, a1⟩ := hD.t.lvs_bd x
    obtain ⟨b0, b1⟩ := hD.u.lvs_bd y
    obtain ⟨c0, c1⟩ := hD.t.lvs_bd (x + n)
    obtain ⟨d0, d1⟩ := hD.u.lvs_bd (y + n)
    obtain ⟨⟨r1, r2⟩, r3, r4⟩ := on_bd _ _ _ _ a0 a1 b0 b1 c0 (hD.t.lvs_mono x (x + n) (by omega)) d0 (hD.u.lvs_mono y (y + n) (by omega))
    obtain ⟨p1, p2⟩ := lv_mul hD.t hD.u (x + n) (y + n)
    have p3 : 1 ≤ lvs f xs x * lvs g ys y := by
      have := Int.mul_le_mul hD.tx hD.uy (show (0 : Int) ≤ 1 by omega) a0
      omega
    have CF := Lib.hid (fun W => frac_any (lvs f xs (x + n) * lvs g ys (y + n)) (lvs f xs x * lvs g ys y) W (by unfold onE at *; omega) (by unfold onE at *; omega) p3 r4)
    obtain ⟨U, hU⟩ : ∃ y_, lvs f xs (x + n) * lvs g ys (y + n) = y_ := ⟨_, rfl⟩
    obtain ⟨V, hV⟩ : ∃ y_, onE (lvs f xs x) (lvs g ys y) (lvs f xs (x + n)) (lvs g ys (y + n)) = y_ := ⟨_, rfl⟩
    obtain ⟨X, hX⟩ : ∃ y_, lvs f xs x * lvs g ys y = y_ := ⟨_, rfl⟩
    rw [hU, hV, hX] at CC
    (try rw [hU] at CF HV)
    (try rw [hV] at CF HV)
    rw [hX] at CF HV
    obtain ⟨y1, hy1⟩ : ∃ y_, U / gcdI U X = y_ := ⟨_, rfl⟩
    obtain ⟨y2, hy2⟩ : ∃ y_, X / gcdI U X = y_ := ⟨_, rfl⟩
    rw [hy1, hy2] at CF HV
    rw [hE]
    clear hE hD hn hU hV hX hy1 hy2 a0 a1 b0 b1 c0 c1 d0 d1 r1 r2 r3 r4 p1 p2 p3
    go_enter Try.func17, Try.ntmps17
    go_wp2_with fail
    go_region_held3 (fun w' => w'.cell? ⟨w.heap.size, 0, none⟩ = some (.int .i64 f) ∧ w'.cell? ⟨w.heap.size, 1, none⟩ = some (.slice a l c) ∧ w'.cell? ⟨w.heap.size + 1, 0, none⟩ = some (.int .i64 g) ∧ w'.cell? ⟨w.heap.size + 1, 1, none⟩ = some (.slice b m d) ∧ Hid (K2 w f (.slice a l c) g (.slice b m d) w'))
      (first
        | (go_split_ands; exact k2S (Hid.out (by with_reducible assumption)))
        | (go_split_ands; exact k2S (K2.on (Hid.out (by with_reducible assumption)) hb))
        | (go_split_ands; exact k2S (K2.drew (Hid.out (by with_reducible assumption))))
        | fail)
      (first
        | (go_split_ands; go_at_call 51; ((with_reducible refine (in_any _ _ _ _).mono ?_); rintro e w' ⟨rfl, rfl⟩))
        | (go_split_ands; go_at_call 44; ((with_reducible refine (C1.out _ (by with_reducible assumption)).mono ?_); rintro e w' ⟨rfl, hb⟩))
        | fail)
    all_goals
      go_split_ands
      have HK : Hid (K2 w f (.slice a l c) g (.slice b m d) _) := (by with_reducible assumption)
      go_wp2_with fail
      with_reducible refine (CC.out _ HK).mono ?_
      rintro e w2 ⟨rfl, hb⟩
      have HK := Lib.hid (HK.out.on hb)
      clear hb
      go_wp2_with fail
      with_reducible refine (CF.out _).mono ?_
      rintro e w3 ⟨rfl, nd, rfl⟩
      go_wp2_with fail
      go_ret3
      exact ⟨ret_iii HV.out.1.symm HV.out.2.symm rfl, below_drewN HK.out.low _⟩
  · have hne : (E != 0) = true := by simpa using hz
    have HV : Hid (boN f xs x g ys y n = 0 ∧ boD f xs x g ys y n = 0) := Lib.hid (by simp [boN, boD, hE, hz])
    rw [hE]
    clear hE hz
    go_enter Try.func17, Try.ntmps17
    go_wp2_with fail
    go_region_held3 (fun w' => w'.cell? ⟨w.heap.size, 0, none⟩ = some (.int .i64 f) ∧ w'.cell? ⟨w.heap.size, 1, none⟩ = some (.slice a l c) ∧ w'.cell? ⟨w.heap.size + 1, 0, none⟩ = some (.int .i64 g) ∧ w'.cell? ⟨w.heap.size + 1, 1, none⟩ = some (.slice b m d) ∧ Hid (K2 w f (.slice a l c) g (.slice b m d) w'))
      (first
        | (go_split_ands; exact k2S (Hid.out (by with_reducible assumption)))
        | (go_split_ands; exact k2S (K2.on (Hid.out (by with_reducible assumption)) hb))
        | (go_split_ands; exact k2S (K2.drew (Hid.out (by with_reducible assumption))))
        | fail)
      (first
        | (go_split_ands; go_at_call 51; ((with_reducible refine (in_any _ _ _ _).mono ?_); rintro e w' ⟨rfl, rfl⟩))
        | (go_split_ands; go_at_call 44; ((with_reducible refine (C1.out _ (by with_reducible assumption)).mono ?_); rintro e w' ⟨rfl, hb⟩))
        | fail)
    all_goals
      go_split_ands
      go_wp2_with fail
      go_ret3
      exact ⟨ret_iii HV.out.1.symm HV.out.2.symm rfl, K2.low (Hid.out (by with_reducible assumption))⟩

set_option maxHeartbeats 4000000 in
theorem sone_any (f : Int) (xs : List Int) (a : Option Addr) (l c : Nat) (x : Int) (g : Int) (ys : List Int) (b : Option Addr) (m d : Nat) (y : Int) (n : Int) (w : World) (h : Ints w a l xs) (k : Ints w b m ys) :
    Calls Try.prog 19 #[.agg #[.int .i64 f, .slice a l c], .int .i64 x, .agg #[.int .i64 g, .slice b m d], .int .i64 y, .int .i64 n] w (IIIPost8 (onN f xs x g ys y n) (onD f xs x g ys y n) (twE f xs x g ys y (inB n 0 150)) w) := by
  have H := Lib.hid h
  have KK := Lib.hid k
  clear h k
  have C1 : Hid (∀ W, Hid (K2 w f (.slice a l c) g (.slice b m d) W) → Calls Try.prog 44 #[.agg #[.int .i64 f, .slice a l c], .int .i64 x, .agg #[.int .i64 g, .slice b m d], .int .i64 y, .bool (inB n 0 150)] W fun e w' => e = .returned (.int .i64 (twE f xs x g ys y (inB n 0 150))) ∧ Below W.heap.size W w') :=
    Lib.hid (fun W hW => twcode_any f xs a l c x g ys b m d y _ W (H.out.on hW.out.low) (KK.out.on hW.out.low))
  have HK : Hid (K2 w f (.slice a l c) g (.slice b m d) ((w.alloc (.cells #[.int .i64 f, .slice a l c] 26)).alloc (.cells #[.int .i64 g, .slice b m d] 26))) := Lib.hid (K2.new _ _ _ _ _ _ _)
  unfold IIIPost8
  obtain ⟨E, hE⟩ : ∃ y_, twE f xs x g ys y (inB n 0 150) = y_ := ⟨_, rfl⟩
  rw [hE] at C1
  by_cases hz : E = 0
  · subst hz
    obtain ⟨hD, hn⟩ := tw_iff.1 hE
    obtain ⟨n0, n1⟩ := (inB_iff _ _ _).1 hn
    have CC : Hid (∀ W, Hid (K2 w f (.slice a l c) g (.slice b m d) W) → Calls Try.prog 52 #[.agg #[.int .i64 f, .slice a l c], .int .i64 x, .agg #[.int .i64 g, .slice b m d], .int .i64 y, .int .i64 n] W fun e w' => e = .returned (.tuple #[.int .i64 (lvs f xs (x + n) * lvs g ys (y + n)), .int .i64 (onE (lvs f xs x) (lvs g ys y) (lvs f xs (x + n)) (lvs g ys (y + n))), .int .i64 (lvs f xs x * lvs g ys y)]) ∧ Below W.heap.size W w') :=
      Lib.hid (fun W hW => schan_any f xs a l c x g ys b m d y n W (H.out.on hW.out.low) (KK.out.on hW.out.low) hD n0 n1)
    have HV : Hid (onN f xs x g ys y n = onE (lvs f xs x) (lvs g ys y) (lvs f xs (x + n)) (lvs g ys (y + n)) / gcdI (onE (lvs f xs x) (lvs g ys y) (lvs f xs (x + n)) (lvs g ys (y + n))) (lvs f xs x * lvs g ys y) ∧ onD f xs x g ys y n = lvs f xs x * lvs g ys y / gcdI (onE (lvs f xs x) (lvs g ys y) (lvs f xs (x + n)) (lvs g ys (y + n))) (lvs f xs x * lvs g ys y)) := Lib.hid (by simp [onN, onD, hE])
    obtain ⟨a0, a1⟩ := hD.t.lvs_bd x
    obtain ⟨b0, b1⟩ := hD.u.lvs_bd y
    obtain ⟨c0, c1⟩ := hD.t.lvs_bd (x + n)
    obtain ⟨d0, d1⟩ := hD.u.lvs_bd (y + n)
    obtain ⟨⟨r1, r2⟩, r3, r4⟩ := on_bd _ _ _ _ a0 a1 b0 b1 c0 (hD.t.lvs_mono x (x + n) (by omega)) d0 (hD.u.lvs_mono y (y + n) (by omega))
    obtain ⟨p1, p2⟩ := lv_mul hD.t hD.u (x + n) (y + n)
    have p3 : 1 ≤ lvs f xs x * lvs g ys y := by
      have := Int.mul_le_mul hD.tx hD.uy (show (0 : Int) ≤ 1 by omega) a0
      omega
    have CF := Lib.hid (fun W => frac_any (onE (lvs f xs x) (lvs g ys y) (lvs f xs (x + n)) (lvs g ys (y + n))) (lvs f xs x * lvs g ys y) W (by unfold onE at *; omega) (by unfold onE at *; omega) p3 r4)
    obtain ⟨U, hU⟩ : ∃ y_, lvs f xs (x + n) * lvs g ys (y + n) = y_ := ⟨_, rfl⟩
    obtain ⟨V, hV⟩ : ∃ y_, onE (lvs f xs x) (lvs g ys y) (lvs f xs (x + n)) (lvs g ys (y + n)) = y_ := ⟨_, rfl⟩
    obtain ⟨X, hX⟩ : ∃ y_, lvs f xs x * lvs g ys y = y_ := ⟨_, rfl⟩
    rw [hU, hV, hX] at CC
    (try rw [hU] at CF HV)
    (try rw [hV] at CF HV)
    rw [hX] at CF HV
    obtain ⟨y1, hy1⟩ : ∃ y_, V / gcdI V X = y_ := ⟨_, rfl⟩
    obtain ⟨y2, hy2⟩ : ∃ y_, X / gcdI V X = y_ := ⟨_, rfl⟩
    rw [hy1, hy2] at CF HV
    rw [hE]
    clear hE hD hn hU hV hX hy1 hy2 a0 a1 b0 b1 c0 c1 d0 d1 r1 r2 r3 r4 p1 p2 p3
    go_enter Try.func19, Try.ntmps19
    go_wp2_with fail
    go_region_held3 (fun w' => w'.cell? ⟨w.heap.size, 0, none⟩ = some (.int .i64 f) ∧ w'.cell? ⟨w.heap.size, 1, none⟩ = some (.slice a l c) ∧ w'.cell? ⟨w.heap.size + 1, 0, none⟩ = some (.int .i64 g) ∧ w'.cell? ⟨w.heap.size + 1, 1, none⟩ = some (.slice b m d) ∧ Hid (K2 w f (.slice a l c) g (.slice b m d) w'))
      (first
        | (go_split_ands; exact k2S (Hid.out (by with_reducible assumption)))
        | (go_split_ands; exact k2S (K2.on (Hid.out (by with_reducible assumption)) hb))
        | (go_split_ands; exact k2S (K2.drew (Hid.out (by with_reducible assumption))))
        | fail)
      (first
        | (go_split_ands; go_at_call 51; ((with_reducible refine (in_any _ _ _ _).mono ?_); rintro e w' ⟨rfl, rfl⟩))
        | (go_split_ands; go_at_call 44; ((with_reducible refine (C1.out _ (by with_reducible assumption)).mono ?_); rintro e w' ⟨rfl, hb⟩))
        | fail)
    all_goals
      go_split_ands
      have HK : Hid (K2 w f (.slice a l c) g (.slice b m d) _) := (by with_reducible assumption)
      go_wp2_with fail
      with_reducible refine (CC.out _ HK).mono ?_
      rintro e w2 ⟨rfl, hb⟩
      have HK := Lib.hid (HK.out.on hb)
      clear hb
      go_wp2_with fail
      with_reducible refine (CF.out _).mono ?_
      rintro e w3 ⟨rfl, nd, rfl⟩
      go_wp2_with fail
      go_ret3
      exact ⟨ret_iii HV.out.1.symm HV.out.2.symm rfl, below_drewN HK.out.low _⟩
  · have hne : (E != 0) = true := by simpa using hz
    have HV : Hid (onN f xs x g ys y n = 0 ∧ onD f xs x g ys y n = 0) := Lib.hid (by simp [onN, onD, hE, hz])
    rw [hE]
    clear hE hz
    go_enter Try.func19, Try.ntmps19
    go_wp2_with fail
    go_region_held3 (fun w' => w'.cell? ⟨w.heap.size, 0, none⟩ = some (.int .i64 f) ∧ w'.cell? ⟨w.heap.size, 1, none⟩ = some (.slice a l c) ∧ w'.cell? ⟨w.heap.size + 1, 0, none⟩ = some (.int .i64 g) ∧ w'.cell? ⟨w.heap.size + 1, 1, none⟩ = some (.slice b m d) ∧ Hid (K2 w f (.slice a l c) g (.slice b m d) w'))
      (first
        | (go_split_ands; exact k2S (Hid.out (by with_reducible assumption)))
        | (go_split_ands; exact k2S (K2.on (Hid.out (by with_reducible assumption)) hb))
        | (go_split_ands; exact k2S (K2.drew (Hid.out (by with_reducible assumption))))
        | fail)
      (first
        | (go_split_ands; go_at_call 51; ((with_reducible refine (in_any _ _ _ _).mono ?_); rintro e w' ⟨rfl, rfl⟩))
        | (go_split_ands; go_at_call 44; ((with_reducible refine (C1.out _ (by with_reducible assumption)).mono ?_); rintro e w' ⟨rfl, hb⟩))
        | fail)
    all_goals
      go_split_ands
      go_wp2_with fail
      go_ret3
      exact ⟨ret_iii HV.out.1.symm HV.out.2.symm rfl, K2.low (Hid.out (by with_reducible assumption))⟩


end Go.Proofs.Ytlcmgihaelgclaa
