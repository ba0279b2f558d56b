/- Two lives: the years of a widow and the annuities of the model. (Written by wip/gen/jmo.py.) | Two lives: the annuities of the model. (Written by wip/gen/jmq.py.) -/
import Derived.Test.YtlcmgihaelgclaaGreatJmm
namespace Go.Proofs.YtlcmgihaelgclaaGreat
open Go.ChangeShapes Go.WideShapes Go.ChangeAt Go.RowKit
set_option linter.unusedVariables false
set_option linter.unusedSimpArgs false
set_option maxRecDepth 100000

theorem factor_big (a b : Int) (w : World) (a0 : 0 ≤ a) (a1 : a ≤ 1000000000000000) (b0 : 1 ≤ b) (b1 : b ≤ 1000000000000) :
    Calls Tryz.prog 56 #[.int .i64 a, .int .i64 b] w fun e w' => e = .returned (.int .i64 (gcdI a b)) ∧ w = w' := by
  have hb : ¬ b = 0 := by omega
  have hp : 0 < b := by omega
  have G := Lib.hid (gcdI_step a b a0 hp)
  have m1 := Int.emod_nonneg a hb
  have m2 := Int.emod_lt_of_pos a hp
  go_enter Tryz.func56, Tryz.ntmps56
  go_wp2_with (go_at_call 56; refine (factor_any (a % b).toNat b (a % b) _ (Nat.le_refl _) (by omega) (by omega) (by omega) (by omega)).mono ?_; rintro e w' ⟨rfl, rfl⟩)
  go_ret
  exact ⟨ret_int G.out, rfl⟩

theorem frac_big (a b : Int) (w : World) (a0 : 0 ≤ a) (a1 : a ≤ 1000000000000000) (b0 : 1 ≤ b) (b1 : b ≤ 1000000000000) :
    Calls Tryz.prog 29 #[.int .i64 a, .int .i64 b] w fun e w' => e = .returned (.tuple #[.int .i64 (a / gcdI a b), .int .i64 (b / gcdI a b)]) ∧ ∃ n, w' = w.drewN n := by
  have g0 := gcdI_pos a b a0 b0
  have hc := factor_big a b w a0 a1 b0 b1
  obtain ⟨g, hg⟩ : ∃ g, gcdI a b = g := ⟨_, rfl⟩
  rw [hg] at g0 hc ⊢
  have HC := Lib.hid hc
  clear hc hg
  obtain ⟨d0, d1⟩ := div_in a g _ a0 a1 g0
  obtain ⟨d2, d3⟩ := div_in b g 1000000000000 (by omega) b1 g0
  have q1 : IntKind.i64.wrap (a.tdiv g) = a / g := by rw [Int.tdiv_eq_ediv_of_nonneg a0]; exact IntWalk.i64_in _ (by omega)
  have q2 : IntKind.i64.wrap (b.tdiv g) = b / g := by rw [Int.tdiv_eq_ediv_of_nonneg (by omega)]; exact IntWalk.i64_in _ (by omega)
  have hp : 0 < g := by omega
  go_enter Tryz.func29, Tryz.ntmps29
  go_wp2_with (go_at_call 56; refine HC.out.mono ?_; rintro e w' ⟨rfl, rfl⟩)
  go_quiet (fail)
  go_wp2_with fail
  go_ret2
  exact ⟨rfl, nq, rfl⟩

/-- the years of a widow, not in lowest terms -/
def wyA (f : Int) (xs : List Int) (x g : Int) (ys : List Int) (y : Int) : Int := max 0 (exN g ys y * exD x (jtL f xs x g ys y) x - exN x (jtL f xs x g ys y) x * exD g ys y)

def wyB (f : Int) (xs : List Int) (x g : Int) (ys : List Int) (y : Int) : Int := exD g ys y * exD x (jtL f xs x g ys y) x

def wyN (f : Int) (xs : List Int) (x g : Int) (ys : List Int) (y : Int) : Int := if twE f xs x g ys y true = 0 then wyA f xs x g ys y / gcdI (wyA f xs x g ys y) (wyB f xs x g ys y) else 0

def wyD (f : Int) (xs : List Int) (x g : Int) (ys : List Int) (y : Int) : Int := if twE f xs x g ys y true = 0 then wyB f xs x g ys y / gcdI (wyA f xs x g ys y) (wyB f xs x g ys y) else 0

theorem ex_pos {f : Int} {xs : List Int} {x : Int} (h : clE f xs x 0 = 0) : 1 ≤ exD f xs x := by
  obtain ⟨ht, ⟨x0, x1⟩, _, hz⟩ := clE_iff.1 h
  obtain ⟨a0, a1⟩ := ht.later_bd x x0
  obtain ⟨b0, b1⟩ := ht.lvs_bd x
  obtain ⟨e1, e2⟩ := ex_0 h rfl rfl
  obtain ⟨p, q, r, _, h2, _, h3, _⟩ := gcd_parts (laterSum f xs x) (lvs f xs x) a0 (by omega)
  rw [e2, h2]; exact h3

theorem Duo.cl_u {f : Int} {xs : List Int} {x g : Int} {ys : List Int} {y : Int} (h : Duo f xs x g ys y) : clE g ys y 0 = 0 := clE_iff.2 ⟨h.u, ⟨h.y0, h.y1⟩, by omega, by have := h.uy; omega⟩

theorem Duo.cl_j {f : Int} {xs : List Int} {x g : Int} {ys : List Int} {y : Int} (h : Duo f xs x g ys y) : clE x (jtL f xs x g ys y) x 0 = 0 := clE_iff.2 ⟨h.ltab, ⟨Int.le_refl _, by have := h.x1; omega⟩, by omega, by rw [h.jx]; have := h.tx; omega⟩

/-- what the parts of wyA and wyB are -/
theorem wy_bd (A B C D : Int) (a0 : 0 ≤ A) (a1 : A ≤ 120000000) (b0 : 1 ≤ B) (b1 : B ≤ 1000000) (c0 : 0 ≤ C) (c1 : C ≤ 120000000) (d0 : 1 ≤ D) (d1 : D ≤ 1000000) : (0 ≤ A * D ∧ A * D ≤ 120000000000000) ∧ (0 ≤ C * B ∧ C * B ≤ 120000000000000) ∧ 1 ≤ B * D ∧ B * D ≤ 1000000000000 := by
  have e1 : 0 ≤ A * D := Int.mul_nonneg a0 (by omega)
  have e2 := Int.mul_le_mul a1 d1 (by omega) (show (0 : Int) ≤ 120000000 by omega)
  have e3 : 0 ≤ C * B := Int.mul_nonneg c0 (by omega)
  have e4 := Int.mul_le_mul c1 b1 (by omega) (show (0 : Int) ≤ 120000000 by omega)
  have e5 := Int.mul_le_mul b0 d0 (show (0 : Int) ≤ 1 by omega) (by omega)
  have e6 := Int.mul_le_mul b1 d1 (by omega) (show (0 : Int) ≤ 1000000 by omega)
  omega

set_option maxHeartbeats 4000000 in
theorem swid_any (f : Int) (xs : List Int) (a : Option Addr) (l c : Nat) (x : Int) (g : Int) (ys : List Int) (b : Option Addr) (m d : Nat) (y : Int) (w : World) (h : Ints w a l xs) (k : Ints w b m ys) :
    Calls Tryz.prog 13 #[.agg #[.int .i64 f, .slice a l c], .int .i64 x, .agg #[.int .i64 g, .slice b m d], .int .i64 y] w (IIIPost8 (wyN f xs x g ys y) (wyD f xs x g ys y) (twE f xs x g ys y true) w) := by
  have H := Lib.hid h
  have KK := Lib.hid k
  clear h k
  have C1 : Hid (∀ W, Hid (K2 w f (.slice a l c) g (.slice b m d) W) → Calls Tryz.prog 26 #[.agg #[.int .i64 f, .slice a l c], .int .i64 x, .agg #[.int .i64 g, .slice b m d], .int .i64 y, .bool true] W fun e w' => e = .returned (.int .i64 (twE f xs x g ys y true)) ∧ Below W.heap.size W w') :=
    Lib.hid (fun W hW => twcode_any f xs a l c x g ys b m d y true W (H.out.on hW.out.low) (KK.out.on hW.out.low))
  have HK : Hid (K2 w f (.slice a l c) g (.slice b m d) ((w.alloc (.cells #[.int .i64 f, .slice a l c] 26)).alloc (.cells #[.int .i64 g, .slice b m d] 26))) := Lib.hid (K2.new _ _ _ _ _ _ _)
  unfold IIIPost8
  obtain ⟨E, hE⟩ : ∃ y_, twE f xs x g ys y true = y_ := ⟨_, rfl⟩
  rw [hE] at C1
  by_cases hz : E = 0
  · subst hz
    have hD := (tw_iff.1 hE).1
    have CJ : Hid (∀ W, Hid (K2 w f (.slice a l c) g (.slice b m d) W) → Calls Tryz.prog 28 #[.agg #[.int .i64 f, .slice a l c], .int .i64 x, .agg #[.int .i64 g, .slice b m d], .int .i64 y] W (JtPost x (jtL f xs x g ys y) W)) := Lib.hid (fun W hW => sjoint_any f xs a l c x g ys b m d y W (H.out.on hW.out.low) (KK.out.on hW.out.low) hD)
    have CU : Hid (∀ W, Hid (K2 w f (.slice a l c) g (.slice b m d) W) → Calls Tryz.prog 27 #[.agg #[.int .i64 g, .slice b m d], .int .i64 y] W fun e w' => e = .returned (.tuple #[.int .i64 (exN g ys y), .int .i64 (exD g ys y), .int .i64 0]) ∧ Below W.heap.size W w') :=
      Lib.hid (fun W hW => by have := ex_spec g ys b m d y W (KK.out.on hW.out.low); rw [hD.cl_u] at this; exact this)
    have CX : Hid (∀ W ja jb jc, Ints W ja jb (jtL f xs x g ys y) → Calls Tryz.prog 27 #[.agg #[.int .i64 x, .slice ja jb jc], .int .i64 x] W fun e w' => e = .returned (.tuple #[.int .i64 (exN x (jtL f xs x g ys y) x), .int .i64 (exD x (jtL f xs x g ys y) x), .int .i64 0]) ∧ Below W.heap.size W w') :=
      Lib.hid (fun W ja jb jc hj => by have := ex_spec x (jtL f xs x g ys y) ja jb jc x W hj; rw [hD.cl_j] at this; exact this)
    obtain ⟨⟨a0, a1⟩, a2, a3⟩ := ex_bd g ys y
    obtain ⟨⟨c0, c1⟩, c2, c3⟩ := ex_bd x (jtL f xs x g ys y) x
    have b0 := ex_pos hD.cl_u
    have d0 := ex_pos hD.cl_j
    obtain ⟨⟨e1, e2⟩, ⟨e3, e4⟩, e5, e6⟩ := wy_bd _ _ _ _ a0 a1 b0 a3 c0 c1 d0 c3
    have HV : Hid (wyN f xs x g ys y = wyA f xs x g ys y / gcdI (wyA f xs x g ys y) (wyB f xs x g ys y) ∧ wyD f xs x g ys y = wyB f xs x g ys y / gcdI (wyA f xs x g ys y) (wyB f xs x g ys y)) := Lib.hid (by simp [wyN, wyD, hE])
    have HA : Hid (wyA f xs x g ys y = max 0 (exN g ys y * exD x (jtL f xs x g ys y) x - exN x (jtL f xs x g ys y) x * exD g ys y)) := Lib.hid rfl
    have HB : Hid (wyB f xs x g ys y = exD g ys y * exD x (jtL f xs x g ys y) x) := Lib.hid rfl
    obtain ⟨A, hA⟩ : ∃ y_, exN g ys y = y_ := ⟨_, rfl⟩
    obtain ⟨B, hB⟩ : ∃ y_, exD g ys y = y_ := ⟨_, rfl⟩
    obtain ⟨C, hC⟩ : ∃ y_, exN x (jtL f xs x g ys y) x = y_ := ⟨_, rfl⟩
    obtain ⟨D, hDD⟩ : ∃ y_, exD x (jtL f xs x g ys y) x = y_ := ⟨_, rfl⟩
    obtain ⟨YA, hYA⟩ : ∃ y_, wyA f xs x g ys y = y_ := ⟨_, rfl⟩
    obtain ⟨YB, hYB⟩ : ∃ y_, wyB f xs x g ys y = y_ := ⟨_, rfl⟩
    rw [hA, hC, hB, hDD, hYA] at HA
    rw [hB, hDD, hYB] at HB
    rw [hYA, hYB] at HV
    rw [hA, hB] at CU
    rw [hC, hDD] at CX
    rw [hA, hDD] at e1 e2
    rw [hC, hB] at e3 e4
    rw [hB, hDD] at e5 e6
    have HYB := HB.out
    have CF : Hid (∀ W, Calls Tryz.prog 29 #[.int .i64 YA, .int .i64 YB] W fun e w' => e = .returned (.tuple #[.int .i64 (YA / gcdI YA YB), .int .i64 (YB / gcdI YA YB)]) ∧ ∃ n, w' = W.drewN n) := Lib.hid (fun W => frac_big YA YB W (by have := HA.out; omega) (by have := HA.out; omega) (by omega) (by omega))
    have q1 : IntKind.i64.wrap (A * D) = A * D := IntWalk.i64_in _ (by omega)
    have q2 : IntKind.i64.wrap (C * B) = C * B := IntWalk.i64_in _ (by omega)
    have q3 : IntKind.i64.wrap (B * D) = YB := by rw [← HYB]; exact IntWalk.i64_in _ (by omega)
    obtain ⟨y1, hy1⟩ : ∃ y_, YA / gcdI YA YB = y_ := ⟨_, rfl⟩
    obtain ⟨y2, hy2⟩ : ∃ y_, YB / gcdI YA YB = y_ := ⟨_, rfl⟩
    rw [hy1, hy2] at CF HV
    rw [hE]
    have hYA2 := HA.out
    clear hE hD hA hB hC hDD hYA hYB hy1 hy2 HYB
    obtain ⟨U, hU⟩ : ∃ y_, A * D = y_ := ⟨_, rfl⟩
    obtain ⟨V, hV⟩ : ∃ y_, C * B = y_ := ⟨_, rfl⟩
    rw [hU] at q1 e1 e2 hYA2
    rw [hV] at q2 e3 e4 hYA2
    rw [← hU] at q1
    rw [← hV] at q2
    have q4 : IntKind.i64.wrap (A * D) = U := q1.trans hU
    have q5 : IntKind.i64.wrap (C * B) = V := q2.trans hV
    clear q1 q2 hU hV
    have hM : (0 < U - V ∧ YA = U - V) ∨ (U - V ≤ 0 ∧ YA = 0) := by omega
    clear hYA2
    rcases hM with ⟨hs, rfl⟩ | ⟨hs, rfl⟩
    all_goals
      go_enter Tryz.func13, Tryz.ntmps13
      go_wp2_with fail
      with_reducible refine (C1.out _ HK).mono ?_
      rintro e w1 ⟨rfl, hb⟩
      have HK := Lib.hid (HK.out.on hb)
      obtain ⟨k0, k1, k2, k3, _⟩ := HK.out
      clear hb
      go_wp2_with fail
      with_reducible refine (CU.out _ HK).mono ?_
      rintro e w2 ⟨rfl, hb⟩
      have HK := Lib.hid (HK.out.on hb)
      clear hb k0 k1 k2 k3
      obtain ⟨k0, k1, k2, k3, _⟩ := HK.out
      go_wp2_with fail
      with_reducible refine (CJ.out _ HK).mono ?_
      rintro e w3 ⟨ja, jb, jc, rfl, hT, hb⟩
      have HK := Lib.hid (HK.out.on hb)
      have HJ := Lib.hid hT.ints
      clear hb hT k0 k1 k2 k3
      go_wp2_with fail
      with_reducible refine (CX.out _ _ _ _ HJ.out).mono ?_
      rintro e w4 ⟨rfl, hb⟩
      have HK := Lib.hid (HK.out.on hb)
      clear hb
      go_wp2_with fail
      with_reducible refine (CF.out _).mono ?_
      rintro e w5 ⟨rfl, nd, rfl⟩
      go_wp2_with fail
      go_ret3
      exact ⟨ret_iii HV.out.1.symm HV.out.2.symm rfl, below_drewN HK.out.low _⟩
  · have hne : (E != 0) = true := by simpa using hz
    have HV : Hid (wyN f xs x g ys y = 0 ∧ wyD f xs x g ys y = 0) := Lib.hid (by simp [wyN, wyD, hE, hz])
    rw [hE]
    clear hE hz
    go_enter Tryz.func13, Tryz.ntmps13
    go_wp2_with fail
    with_reducible refine (C1.out _ HK).mono ?_
    rintro e w1 ⟨rfl, hb⟩
    have HK := Lib.hid (HK.out.on hb)
    clear hb
    go_wp2_with fail
    go_ret3
    exact ⟨ret_iii HV.out.1.symm HV.out.2.symm rfl, HK.out.low⟩

theorem disc_first (r : Int) : disc r 0 = 1000000000 := rfl

theorem Duo.cDj {f : Int} {xs : List Int} {x g : Int} {ys : List Int} {y : Int} (h : Duo f xs x g ys y) (r : Int) : cD r (jtL f xs x g ys y) 0 ≠ 0 := by
  unfold cD
  rw [h.get, h.jv0, disc_first]
  have := h.tx
  omega

theorem Duo.anj {f : Int} {xs : List Int} {x g : Int} {ys : List Int} {y : Int} (h : Duo f xs x g ys y) {r z : Int} (r0 : 0 ≤ r) (r1 : r ≤ 200) (hz : inB z 1 1000000 = true) : anE r x (jtL f xs x g ys y) x (inB z 1 1000000) 0 = 0 := by
  rw [anE_iff, coE_iff]
  have h1 := h.x1
  refine ⟨⟨h.ltab, ⟨r0, r1⟩, Int.le_refl _, by omega⟩, hz, by omega, by omega, ?_⟩
  rw [show (x - x).toNat = 0 by omega]
  exact h.cDj r

/-- the price of payments as long as both live -/
def togV (r f : Int) (xs : List Int) (x g : Int) (ys : List Int) (y z : Int) : Int := upV z (cN r (jtL f xs x g ys y) 0) (cD r (jtL f xs x g ys y) 0)

/-- the price of payments as long as one of them lives -/
def priceV (r f : Int) (xs : List Int) (x z : Int) : Int := upV z (cN r xs (x - f).toNat) (cD r xs (x - f).toNat)

def jaV (r f : Int) (xs : List Int) (x g : Int) (ys : List Int) (y z : Int) : Int := if moE r f xs x g ys y (inB z 1 1000000) = 0 then togV r f xs x g ys y z else 0

def waV (r f : Int) (xs : List Int) (x g : Int) (ys : List Int) (y z : Int) : Int := if moE r f xs x g ys y (inB z 1 1000000) = 0 then priceV r g ys y z + 1 - togV r f xs x g ys y z else 0

def lastV (r f : Int) (xs : List Int) (x g : Int) (ys : List Int) (y z : Int) : Int := if moE r f xs x g ys y (inB z 1 1000000) = 0 then priceV r f xs x z + waV r f xs x g ys y z else 0

theorem price_bd {f : Int} {xs : List Int} (h : LTab f xs) {r z : Int} (r0 : 0 ≤ r) (k : Nat) (hd : cD r xs k ≠ 0) (z0 : 1 ≤ z) (z1 : z ≤ 1000000) : 0 ≤ upV z (cN r xs k) (cD r xs k) ∧ upV z (cN r xs k) (cD r xs k) ≤ 152000001 := by
  obtain ⟨q1, q2, q3, q4⟩ := h.quot r r0 k (cN r xs k) z (h.cN_bd r r0 k).1 (Int.le_refl _) hd (by omega) z1
  exact upV_bd z _ _ 152000000 (by omega) (h.cN_bd r r0 k).1 q2 q4

set_option maxHeartbeats 4000000 in
theorem smoney_any (f : Int) (xs : List Int) (a : Option Addr) (l c : Nat) (x : Int) (g : Int) (ys : List Int) (b : Option Addr) (m d : Nat) (y : Int) (r z : Int) (w : World) (h : Ints w a l xs) (k : Ints w b m ys) :
    Calls Tryz.prog 20 #[.agg #[.int .i64 f, .slice a l c], .int .i64 x, .agg #[.int .i64 g, .slice b m d], .int .i64 y, .int .i64 r, .int .i64 z] w fun e w' => e = .returned (.int .i64 (moE r f xs x g ys y (inB z 1 1000000))) ∧ Below w.heap.size w w' := by
  have H := Lib.hid h
  have KK := Lib.hid k
  clear h k
  have C1 : Hid (∀ (q : Bool) W, Hid (K2 w f (.slice a l c) g (.slice b m d) W) → Calls Tryz.prog 26 #[.agg #[.int .i64 f, .slice a l c], .int .i64 x, .agg #[.int .i64 g, .slice b m d], .int .i64 y, .bool q] W fun e w' => e = .returned (.int .i64 (twE f xs x g ys y q)) ∧ Below W.heap.size W w') :=
    Lib.hid (fun q W hW => twcode_any f xs a l c x g ys b m d y q W (H.out.on hW.out.low) (KK.out.on hW.out.low))
  have HK : Hid (K2 w f (.slice a l c) g (.slice b m d) ((w.alloc (.cells #[.int .i64 f, .slice a l c] 26)).alloc (.cells #[.int .i64 g, .slice b m d] 26))) := Lib.hid (K2.new _ _ _ _ _ _ _)
  have HM : Hid (moE r f xs x g ys y (inB z 1 1000000) = if twE f xs x g ys y (rateB r && inB z 1 1000000) = 0 ∧ (cD r xs (x - f).toNat = 0 ∨ cD r ys (y - g).toNat = 0) then 5 else twE f xs x g ys y (rateB r && inB z 1 1000000)) := Lib.hid rfl
  by_cases hr : rateB r = true
  case neg =>
    have hr2 : rateB r = false := by simpa using hr
    rw [hr2] at HM
    have C2 := Lib.hid (C1.out false)
    have hn : twE f xs x g ys y false ≠ 0 := fun e => by have := (tw_iff.1 e).2; cases this
    obtain ⟨E, hE⟩ : ∃ y_, twE f xs x g ys y false = y_ := ⟨_, rfl⟩
    rw [hE] at hn C2
    have HM2 : Hid (moE r f xs x g ys y (inB z 1 1000000) = E) := Lib.hid (by rw [HM.out, Bool.false_and, hE, if_neg (fun e => hn e.1)])
    have hne : (E == 0) = false := by simpa using hn
    clear hr hE hn HM
    go_enter Tryz.func20, Tryz.ntmps20
    go_wp2_with fail
    refine wp_region_held_drew (S := (fun w' => w'.cell? ⟨w.heap.size, 0, none⟩ = some (.int .i64 f) ∧ w'.cell? ⟨w.heap.size, 1, none⟩ = some (.slice a l c) ∧ w'.cell? ⟨w.heap.size + 1, 0, none⟩ = some (.int .i64 g) ∧ w'.cell? ⟨w.heap.size + 1, 1, none⟩ = some (.slice b m d) ∧ Hid (K2 w f (.slice a l c) g (.slice b m d) w'))) (by kernel_rfl) (k2S HK.out.drew) (fun hHeld => ?_)
    refine wpAnyH_take (i := 0) (v := ?_) rfl (by kernel_rfl) (by kernel_rfl) (by kernel_rfl) (fun _ _ _ h => h) (Or.inl ⟨by rfl, ?_⟩) (by assumption) ?_
    rotate_left
    · (intro w hSw; (try dsimp only at hSw); go_simp; try with_reducible rfl)
    try simp only [Act.put, List.setIfInBounds_toArray, List.set_cons_zero, List.set_cons_succ]
    refine wpAnyH_take (i := 1) (v := ?_) rfl (by kernel_rfl) (by kernel_rfl) (by kernel_rfl) (fun _ _ _ h => h) (Or.inl ⟨by rfl, ?_⟩) (by assumption) ?_
    rotate_left
    · (intro w hSw; (try dsimp only at hSw); go_simp; try with_reducible rfl)
    try simp only [Act.put, List.setIfInBounds_toArray, List.set_cons_zero, List.set_cons_succ]
    refine wpAnyH_take (i := 2) (v := ?_) rfl (by kernel_rfl) (by kernel_rfl) (by kernel_rfl) (fun _ _ _ h => h) (Or.inl ⟨by rfl, ?_⟩) (by assumption) ?_
    rotate_left
    · (intro w hSw; (try dsimp only at hSw); go_simp; try with_reducible rfl)
    try simp only [Act.put, List.setIfInBounds_toArray, List.set_cons_zero, List.set_cons_succ]
    refine wpAnyH_take (i := 3) (v := ?_) rfl (by kernel_rfl) (by kernel_rfl) (by kernel_rfl) (fun _ _ _ h => h) (Or.inl ⟨by rfl, ?_⟩) (by assumption) ?_
    rotate_left
    · (intro w hSw; (try dsimp only at hSw); go_simp; try with_reducible rfl)
    try simp only [Act.put, List.setIfInBounds_toArray, List.set_cons_zero, List.set_cons_succ]
    refine wpAnyH_take (i := 4) (v := ?_) rfl (by kernel_rfl) (by kernel_rfl) (by kernel_rfl) (fun _ _ _ h => h) (Or.inl ⟨by rfl, ?_⟩) (by assumption) ?_
    rotate_left
    · (intro w hSw; (try dsimp only at hSw); go_simp; try with_reducible rfl)
    try simp only [Act.put, List.setIfInBounds_toArray, List.set_cons_zero, List.set_cons_succ]
    refine wpAnyH_ready (rs := [5]) (by kernel_rfl) (by simp) ?_
    refine AllReadyH.cons (o := _) rfl (fun K hK => ?_) AllReadyH.nil
    go_simp
    with_reducible refine (sRate_any _ _).mono ?_
    rintro e w' ⟨rfl, rfl⟩
    refine hK.out _ _ ?_ (fun hHeld => ?_)
    · exact hHeld
    clear hK K
    try simp only [Act.put, List.setIfInBounds_toArray, List.set_cons_zero, List.set_cons_succ]
    refine wpAnyH_take (i := 6) (v := ?_) rfl (by kernel_rfl) (by kernel_rfl) (by kernel_rfl) (fun _ _ _ h => h) (Or.inl ⟨by rfl, ?_⟩) (by assumption) ?_
    rotate_left
    · (intro w hSw; (try dsimp only at hSw); go_simp; try with_reducible rfl)
    try simp only [Act.put, List.setIfInBounds_toArray, List.set_cons_zero, List.set_cons_succ]
    refine wpAnyH_take (i := 7) (v := undef) rfl (by kernel_rfl) (by kernel_rfl) (by kernel_rfl) (fun _ _ _ h => h) (Or.inr ⟨by rfl, rfl⟩) (by assumption) ?_
    try simp only [Act.put, List.setIfInBounds_toArray, List.set_cons_zero, List.set_cons_succ]
    refine wpAnyH_take (i := 8) (v := undef) rfl (by kernel_rfl) (by kernel_rfl) (by kernel_rfl) (fun _ _ _ h => h) (Or.inr ⟨by rfl, rfl⟩) (by assumption) ?_
    try simp only [Act.put, List.setIfInBounds_toArray, List.set_cons_zero, List.set_cons_succ]
    refine wpAnyH_take (i := 9) (v := ?_) rfl (by kernel_rfl) (by kernel_rfl) (by kernel_rfl) (fun _ _ _ h => h) (Or.inl ⟨by rfl, ?_⟩) (by assumption) ?_
    rotate_left
    · (intro w hSw; (try dsimp only at hSw); go_simp; try with_reducible rfl)
    try simp only [Act.put, List.setIfInBounds_toArray, List.set_cons_zero, List.set_cons_succ]
    refine wpAnyH_ready (rs := [10]) (by kernel_rfl) (by simp) ?_
    refine AllReadyH.cons (o := _) rfl (fun K hK => ?_) AllReadyH.nil
    go_simp
    with_reducible refine (C2.out _ (Lib.hid HK.out.drew)).mono ?_
    rintro e w' ⟨rfl, hb⟩
    refine hK.out _ _ ?_ (fun hHeld => ?_)
    · exact k2S (HK.out.drew.on hb)
    clear hK K
    try simp only [Act.put, List.setIfInBounds_toArray, List.set_cons_zero, List.set_cons_succ]
    have HB := Lib.hid hHeld.2.2.2.2.out.low
    refine wpAnyH_take (i := 11) (v := ?_) rfl (by kernel_rfl) (by kernel_rfl) (by kernel_rfl) (fun _ _ _ h => h) (Or.inl ⟨by rfl, ?_⟩) (by assumption) ?_
    rotate_left
    · (intro w hSw; (try dsimp only at hSw); go_simp; try with_reducible rfl)
    try simp only [Act.put, List.setIfInBounds_toArray, List.set_cons_zero, List.set_cons_succ]
    refine wpAnyH_done (by kernel_rfl) ?_ _
    go_wp2_with fail
    go_ret
    exact ⟨ret_int HM2.out.symm, HB.out⟩
  rw [hr, Bool.true_and] at HM
  have C2 := Lib.hid (C1.out (inB z 1 1000000))
  have hd0 : Hid (twE f xs x g ys y (inB z 1 1000000) = 0 → Duo f xs x g ys y ∧ inB z 1 1000000 = true) := Lib.hid tw_iff.1
  obtain ⟨E, hE⟩ : ∃ y_, twE f xs x g ys y (inB z 1 1000000) = y_ := ⟨_, rfl⟩
  rw [hE] at C2 HM hd0
  obtain ⟨r0, r1⟩ := rateB_iff2.1 hr
  by_cases hz : E = 0
  case neg =>
    have HM2 : Hid (moE r f xs x g ys y (inB z 1 1000000) = E) := Lib.hid (by rw [HM.out, if_neg (fun e => hz e.1)])
    have hne : (E == 0) = false := by simpa using hz
    clear hE hz HM hd0
    go_enter Tryz.func20, Tryz.ntmps20
    go_wp2_with fail
    go_region_held3 (fun w' => w'.cell? ⟨w.heap.size, 0, none⟩ = some (.int .i64 f) ∧ w'.cell? ⟨w.heap.size, 1, none⟩ = some (.slice a l c) ∧ w'.cell? ⟨w.heap.size + 1, 0, none⟩ = some (.int .i64 g) ∧ w'.cell? ⟨w.heap.size + 1, 1, none⟩ = some (.slice b m d) ∧ Hid (K2 w f (.slice a l c) g (.slice b m d) w'))
      (first
        | (go_split_ands; exact k2S (Hid.out (by with_reducible assumption)))
        | (go_split_ands; exact k2S (K2.on (Hid.out (by with_reducible assumption)) hb))
        | (go_split_ands; exact k2S (K2.drew (Hid.out (by with_reducible assumption))))
        | fail)
      (first
        | (go_split_ands; go_at_call 41; ((with_reducible refine (sRate_any _ _).mono ?_); rintro e w' ⟨rfl, rfl⟩))
        | (go_split_ands; go_at_call 42; ((with_reducible refine (samt_any _ _).mono ?_); rintro e w' ⟨rfl, rfl⟩))
        | (go_split_ands; go_at_call 26; ((with_reducible refine (C2.out _ (by with_reducible assumption)).mono ?_); rintro e w' ⟨rfl, hb⟩))
        | fail)
    all_goals
      go_split_ands
      go_wp2_with fail
      go_ret
      exact ⟨ret_int HM2.out.symm, K2.low (Hid.out (by with_reducible assumption))⟩
  subst hz
  obtain ⟨hD, hzz⟩ := hd0.out rfl
  have x0 := hD.x0
  have x1 := hD.x1
  have y0 := hD.y0
  have y1 := hD.y1
  have D1 : Hid (∀ W, Hid (K2 w f (.slice a l c) g (.slice b m d) W) → Calls Tryz.prog 19 #[.agg #[.int .i64 f, .slice a l c], .int .i64 r, .int .i64 x] W fun e w' => e = .returned (.int .i64 (cD r xs (x - f).toNat)) ∧ Below W.heap.size W w') :=
    Lib.hid (fun W hW => sD_any r f xs a l c x W (H.out.on hW.out.low) hD.t r0 r1 hD.x0 (by omega))
  have D2 : Hid (∀ W, Hid (K2 w f (.slice a l c) g (.slice b m d) W) → Calls Tryz.prog 19 #[.agg #[.int .i64 g, .slice b m d], .int .i64 r, .int .i64 y] W fun e w' => e = .returned (.int .i64 (cD r ys (y - g).toNat)) ∧ Below W.heap.size W w') :=
    Lib.hid (fun W hW => sD_any r g ys b m d y W (KK.out.on hW.out.low) hD.u r0 r1 hD.y0 (by omega))
  obtain ⟨A, hA⟩ : ∃ y_, cD r xs (x - f).toNat = y_ := ⟨_, rfl⟩
  obtain ⟨B, hB⟩ : ∃ y_, cD r ys (y - g).toNat = y_ := ⟨_, rfl⟩
  rw [hA] at D1 HM
  rw [hB] at D2 HM
  clear hA hB hE hd0 hD hzz
  by_cases ha : A = 0
  · have HM2 : Hid (moE r f xs x g ys y (inB z 1 1000000) = 5) := Lib.hid (by rw [HM.out, if_pos ⟨rfl, .inl ha⟩])
    subst ha
    clear HM D2
    go_enter Tryz.func20, Tryz.ntmps20
    go_wp2_with fail
    go_region_held3 (fun w' => w'.cell? ⟨w.heap.size, 0, none⟩ = some (.int .i64 f) ∧ w'.cell? ⟨w.heap.size, 1, none⟩ = some (.slice a l c) ∧ w'.cell? ⟨w.heap.size + 1, 0, none⟩ = some (.int .i64 g) ∧ w'.cell? ⟨w.heap.size + 1, 1, none⟩ = some (.slice b m d) ∧ Hid (K2 w f (.slice a l c) g (.slice b m d) w'))
      (first
        | (go_split_ands; exact k2S (Hid.out (by with_reducible assumption)))
        | (go_split_ands; exact k2S (K2.on (Hid.out (by with_reducible assumption)) hb))
        | (go_split_ands; exact k2S (K2.drew (Hid.out (by with_reducible assumption))))
        | fail)
      (first
        | (go_split_ands; go_at_call 41; ((with_reducible refine (sRate_any _ _).mono ?_); rintro e w' ⟨rfl, rfl⟩))
        | (go_split_ands; go_at_call 42; ((with_reducible refine (samt_any _ _).mono ?_); rintro e w' ⟨rfl, rfl⟩))
        | (go_split_ands; go_at_call 26; ((with_reducible refine (C2.out _ (by with_reducible assumption)).mono ?_); rintro e w' ⟨rfl, hb⟩))
        | fail)
    all_goals
      go_split_ands
      have HK : Hid (K2 w f (.slice a l c) g (.slice b m d) _) := (by with_reducible assumption)
      obtain ⟨k0, k1, k2, k3, _⟩ := HK.out
      go_wp2_with fail
      with_reducible refine (D1.out _ HK).mono ?_
      rintro e w2 ⟨rfl, hb⟩
      have HK := Lib.hid (HK.out.on hb)
      clear hb k0 k1 k2 k3
      obtain ⟨k0, k1, k2, k3, _⟩ := HK.out
      go_wp2_with fail
      go_ret
      exact ⟨ret_int HM2.out.symm, HK.out.low⟩
  have ha2 : (A == 0) = false := by simpa using ha
  by_cases hb0 : B = 0
  · have HM2 : Hid (moE r f xs x g ys y (inB z 1 1000000) = 5) := Lib.hid (by rw [HM.out, if_pos ⟨rfl, .inr hb0⟩])
    subst hb0
    clear HM ha
    go_enter Tryz.func20, Tryz.ntmps20
    go_wp2_with fail
    go_region_held3 (fun w' => w'.cell? ⟨w.heap.size, 0, none⟩ = some (.int .i64 f) ∧ w'.cell? ⟨w.heap.size, 1, none⟩ = some (.slice a l c) ∧ w'.cell? ⟨w.heap.size + 1, 0, none⟩ = some (.int .i64 g) ∧ w'.cell? ⟨w.heap.size + 1, 1, none⟩ = some (.slice b m d) ∧ Hid (K2 w f (.slice a l c) g (.slice b m d) w'))
      (first
        | (go_split_ands; exact k2S (Hid.out (by with_reducible assumption)))
        | (go_split_ands; exact k2S (K2.on (Hid.out (by with_reducible assumption)) hb))
        | (go_split_ands; exact k2S (K2.drew (Hid.out (by with_reducible assumption))))
        | fail)
      (first
        | (go_split_ands; go_at_call 41; ((with_reducible refine (sRate_any _ _).mono ?_); rintro e w' ⟨rfl, rfl⟩))
        | (go_split_ands; go_at_call 42; ((with_reducible refine (samt_any _ _).mono ?_); rintro e w' ⟨rfl, rfl⟩))
        | (go_split_ands; go_at_call 26; ((with_reducible refine (C2.out _ (by with_reducible assumption)).mono ?_); rintro e w' ⟨rfl, hb⟩))
        | fail)
    all_goals
      go_split_ands
      have HK : Hid (K2 w f (.slice a l c) g (.slice b m d) _) := (by with_reducible assumption)
      obtain ⟨k0, k1, k2, k3, _⟩ := HK.out
      go_wp2_with fail
      with_reducible refine (D1.out _ HK).mono ?_
      rintro e w2 ⟨rfl, hb⟩
      have HK := Lib.hid (HK.out.on hb)
      clear hb k0 k1 k2 k3
      obtain ⟨k0, k1, k2, k3, _⟩ := HK.out
      go_wp2_with fail
      with_reducible refine (D2.out _ HK).mono ?_
      rintro e w2 ⟨rfl, hb⟩
      have HK := Lib.hid (HK.out.on hb)
      clear hb k0 k1 k2 k3
      obtain ⟨k0, k1, k2, k3, _⟩ := HK.out
      go_wp2_with fail
      go_ret
      exact ⟨ret_int HM2.out.symm, HK.out.low⟩
  · have hb2 : (B == 0) = false := by simpa using hb0
    have HM2 : Hid (moE r f xs x g ys y (inB z 1 1000000) = 0) := Lib.hid (by rw [HM.out, if_neg (fun e => e.2.elim ha hb0)])
    clear HM ha hb0
    go_enter Tryz.func20, Tryz.ntmps20
    go_wp2_with fail
    go_region_held3 (fun w' => w'.cell? ⟨w.heap.size, 0, none⟩ = some (.int .i64 f) ∧ w'.cell? ⟨w.heap.size, 1, none⟩ = some (.slice a l c) ∧ w'.cell? ⟨w.heap.size + 1, 0, none⟩ = some (.int .i64 g) ∧ w'.cell? ⟨w.heap.size + 1, 1, none⟩ = some (.slice b m d) ∧ Hid (K2 w f (.slice a l c) g (.slice b m d) w'))
      (first
        | (go_split_ands; exact k2S (Hid.out (by with_reducible assumption)))
        | (go_split_ands; exact k2S (K2.on (Hid.out (by with_reducible assumption)) hb))
        | (go_split_ands; exact k2S (K2.drew (Hid.out (by with_reducible assumption))))
        | fail)
      (first
        | (go_split_ands; go_at_call 41; ((with_reducible refine (sRate_any _ _).mono ?_); rintro e w' ⟨rfl, rfl⟩))
        | (go_split_ands; go_at_call 42; ((with_reducible refine (samt_any _ _).mono ?_); rintro e w' ⟨rfl, rfl⟩))
        | (go_split_ands; go_at_call 26; ((with_reducible refine (C2.out _ (by with_reducible assumption)).mono ?_); rintro e w' ⟨rfl, hb⟩))
        | fail)
    all_goals
      go_split_ands
      have HK : Hid (K2 w f (.slice a l c) g (.slice b m d) _) := (by with_reducible assumption)
      obtain ⟨k0, k1, k2, k3, _⟩ := HK.out
      go_wp2_with fail
      with_reducible refine (D1.out _ HK).mono ?_
      rintro e w2 ⟨rfl, hb⟩
      have HK := Lib.hid (HK.out.on hb)
      clear hb k0 k1 k2 k3
      obtain ⟨k0, k1, k2, k3, _⟩ := HK.out
      go_wp2_with fail
      with_reducible refine (D2.out _ HK).mono ?_
      rintro e w2 ⟨rfl, hb⟩
      have HK := Lib.hid (HK.out.on hb)
      clear hb k0 k1 k2 k3
      obtain ⟨k0, k1, k2, k3, _⟩ := HK.out
      go_wp2_with fail
      go_ret
      exact ⟨ret_int HM2.out.symm, HK.out.low⟩

set_option maxHeartbeats 4000000 in
theorem stog_any (f : Int) (xs : List Int) (a : Option Addr) (l c : Nat) (x : Int) (g : Int) (ys : List Int) (b : Option Addr) (m d : Nat) (y : Int) (r z : Int) (w : World) (h : Ints w a l xs) (k : Ints w b m ys) (hD : Duo f xs x g ys y) (r0 : 0 ≤ r) (r1 : r ≤ 200) (z0 : 1 ≤ z) (z1 : z ≤ 1000000) :
    Calls Tryz.prog 21 #[.agg #[.int .i64 f, .slice a l c], .int .i64 x, .agg #[.int .i64 g, .slice b m d], .int .i64 y, .int .i64 r, .int .i64 z] w fun e w' => e = .returned (.int .i64 (togV r f xs x g ys y z)) ∧ Below w.heap.size w w' := by
  have H := Lib.hid h
  have KK := Lib.hid k
  clear h k
  have HK : Hid (K2 w f (.slice a l c) g (.slice b m d) ((w.alloc (.cells #[.int .i64 f, .slice a l c] 26)).alloc (.cells #[.int .i64 g, .slice b m d] 26))) := Lib.hid (K2.new _ _ _ _ _ _ _)
  have CJ : Hid (∀ W, Hid (K2 w f (.slice a l c) g (.slice b m d) W) → Calls Tryz.prog 28 #[.agg #[.int .i64 f, .slice a l c], .int .i64 x, .agg #[.int .i64 g, .slice b m d], .int .i64 y] W (JtPost x (jtL f xs x g ys y) W)) := Lib.hid (fun W hW => sjoint_any f xs a l c x g ys b m d y W (H.out.on hW.out.low) (KK.out.on hW.out.low) hD)
  have ht := hD.ltab
  have x1 := hD.x1
  have x2 := ht.1.1
  obtain ⟨q1, q2, q3, q4⟩ := ht.quot r r0 0 (cN r (jtL f xs x g ys y) 0) z (ht.cN_bd r r0 0).1 (Int.le_refl _) (hD.cDj r) (by omega) z1
  have n0 := (ht.cN_bd r r0 0).1
  have HV : Hid (togV r f xs x g ys y z = upV z (cN r (jtL f xs x g ys y) 0) (cD r (jtL f xs x g ys y) 0)) := Lib.hid rfl
  have CN : Hid (∀ W ja jb jc, Hid (Ints W ja jb (jtL f xs x g ys y)) → Calls Tryz.prog 18 #[.agg #[.int .i64 x, .slice ja jb jc], .int .i64 r, .int .i64 x] W fun e w' => e = .returned (.int .i64 (cN r (jtL f xs x g ys y) 0)) ∧ Below W.heap.size W w') :=
    Lib.hid (fun W ja jb jc hj => by have := sN_any r x (jtL f xs x g ys y) ja jb jc x W hj.out ht r0 r1 (Int.le_refl _) (by omega); rw [show (x - x).toNat = 0 by omega] at this; exact this)
  have CD : Hid (∀ W ja jb jc, Hid (Ints W ja jb (jtL f xs x g ys y)) → Calls Tryz.prog 19 #[.agg #[.int .i64 x, .slice ja jb jc], .int .i64 r, .int .i64 x] W fun e w' => e = .returned (.int .i64 (cD r (jtL f xs x g ys y) 0)) ∧ Below W.heap.size W w') :=
    Lib.hid (fun W ja jb jc hj => by have := sD_any r x (jtL f xs x g ys y) ja jb jc x W hj.out ht r0 r1 (Int.le_refl _) (by omega); rw [show (x - x).toNat = 0 by omega] at this; exact this)
  obtain ⟨N, hN⟩ : ∃ y_, cN r (jtL f xs x g ys y) 0 = y_ := ⟨_, rfl⟩
  obtain ⟨D, hDD⟩ : ∃ y_, cD r (jtL f xs x g ys y) 0 = y_ := ⟨_, rfl⟩
  rw [hN] at CN q1 q4 n0 HV
  rw [hDD] at CD q2 q3 q4 HV
  have CU := Lib.hid (fun W => sup_any z N D W (by omega) (by omega) n0 q1 q2 q3 (by omega))
  obtain ⟨U, hU⟩ : ∃ y_, upV z N D = y_ := ⟨_, rfl⟩
  rw [hU] at CU HV
  obtain ⟨Y, hY⟩ : ∃ y_, jtL f xs x g ys y = y_ := ⟨_, rfl⟩
  rw [hY] at CJ CN CD
  clear hN hDD hU hY q1 q2 q3 q4 n0 ht hD
  go_enter Tryz.func21, Tryz.ntmps21
  go_wp2_with fail
  with_reducible refine (CJ.out _ HK).mono ?_
  rintro e w1 ⟨ja, jb, jc, rfl, hT, hb⟩
  have hq := box_b w1 (.cells #[.int .i64 x, .slice ja jb jc] 26)
  have HB : Hid (Below w.heap.size w (w1.alloc (.cells #[.int .i64 x, .slice ja jb jc] 26))) := Lib.hid ((HK.out.on hb).low.trans (hq.mono (HK.out.on hb).low.size))
  have HJ : Hid (Ints (w1.alloc (.cells #[.int .i64 x, .slice ja jb jc] 26)) ja jb Y) := Lib.hid (hT.ints.on hq)
  have hj := Bx.new w1 [.int .i64 x, .slice ja jb jc] 26
  have hj0 : (w1.alloc (.cells #[.int .i64 x, .slice ja jb jc] 26)).cell? ⟨w1.heap.size, 0, none⟩ = some (.int .i64 x) := hj.two.1
  have hj1 : (w1.alloc (.cells #[.int .i64 x, .slice ja jb jc] 26)).cell? ⟨w1.heap.size, 1, none⟩ = some (.slice ja jb jc) := hj.two.2
  obtain ⟨J, hJ⟩ : ∃ y_, w1.heap.size = y_ := ⟨_, rfl⟩
  rw [hJ] at hj0 hj1
  clear hb hT hq hj
  go_wp2_with fail
  (try rw [hJ])
  generalize (w1.alloc (.cells #[.int .i64 x, .slice ja jb jc] 26)) = w2 at HB HJ hj0 hj1 ⊢
  clear hJ
  go_region_held3 (fun w' => w'.cell? ⟨J, 0, none⟩ = some (.int .i64 x) ∧ w'.cell? ⟨J, 1, none⟩ = some (.slice ja jb jc) ∧ Hid (Ints w' ja jb Y) ∧ Hid (Below w.heap.size w w'))
    (first
      | (go_split_ands; exact ⟨by with_reducible assumption, by with_reducible assumption, by with_reducible assumption, by with_reducible assumption⟩)
      | (go_split_ands; exact ⟨keep2 hb (by with_reducible assumption), keep2 hb (by with_reducible assumption), Lib.hid (Ints.on (Hid.out (by with_reducible assumption)) hb), Lib.hid (Below.trans (Hid.out (by with_reducible assumption)) (Below.mono hb (Below.size (Hid.out (by with_reducible assumption)))))⟩)
      | (go_split_ands; exact ⟨cell_drew (by with_reducible assumption), cell_drew (by with_reducible assumption), Lib.hid (Ints.on (Hid.out (by with_reducible assumption)) (Below.drew (Below.refl _ _))), Lib.hid (Below.drew (Hid.out (by with_reducible assumption)))⟩)
      | fail)
    (first
      | (go_split_ands; go_at_call 18; ((with_reducible refine (CN.out _ _ _ _ (by with_reducible assumption)).mono ?_); rintro e w' ⟨rfl, hb⟩))
      | (go_split_ands; go_at_call 19; ((with_reducible refine (CD.out _ _ _ _ (by with_reducible assumption)).mono ?_); rintro e w' ⟨rfl, hb⟩))
      | (go_split_ands; go_at_call 17; ((with_reducible refine (CU.out _).mono ?_); rintro e w' ⟨rfl, rfl⟩))
      | fail)
  all_goals
    go_split_ands
    go_wp2_with fail
    go_ret
    exact ⟨ret_int HV.out.symm, Hid.out (by with_reducible assumption)⟩

theorem moDuo {r f : Int} {xs : List Int} {x g : Int} {ys : List Int} {y z : Int} (h : moE r f xs x g ys y (inB z 1 1000000) = 0) : Duo f xs x g ys y ∧ (0 ≤ r ∧ r ≤ 200) ∧ (1 ≤ z ∧ z ≤ 1000000) ∧ cD r xs (x - f).toNat ≠ 0 ∧ cD r ys (y - g).toNat ≠ 0 := by
  obtain ⟨h1, h2, h3, h4, h5⟩ := mo_iff.1 h
  exact ⟨h1, h2, (inB_iff _ _ _).1 h3, h4, h5⟩

theorem tog_bd {r f : Int} {xs : List Int} {x g : Int} {ys : List Int} {y z : Int} (h : Duo f xs x g ys y) (r0 : 0 ≤ r) (z0 : 1 ≤ z) (z1 : z ≤ 1000000) : 0 ≤ togV r f xs x g ys y z ∧ togV r f xs x g ys y z ≤ 152000001 := price_bd h.ltab r0 0 (h.cDj r) z0 z1

set_option maxHeartbeats 4000000 in
theorem sja_any (f : Int) (xs : List Int) (a : Option Addr) (l c : Nat) (x : Int) (g : Int) (ys : List Int) (b : Option Addr) (m d : Nat) (y : Int) (r z : Int) (w : World) (h : Ints w a l xs) (k : Ints w b m ys) :
    Calls Tryz.prog 11 #[.agg #[.int .i64 f, .slice a l c], .int .i64 x, .agg #[.int .i64 g, .slice b m d], .int .i64 y, .int .i64 r, .int .i64 z] w (IIPost (jaV r f xs x g ys y z) (moE r f xs x g ys y (inB z 1 1000000)) w) := by
  have H := Lib.hid h
  have KK := Lib.hid k
  clear h k
  have HK : Hid (K2 w f (.slice a l c) g (.slice b m d) ((w.alloc (.cells #[.int .i64 f, .slice a l c] 26)).alloc (.cells #[.int .i64 g, .slice b m d] 26))) := Lib.hid (K2.new _ _ _ _ _ _ _)
  unfold IIPost
  have CM : Hid (∀ W, Hid (K2 w f (.slice a l c) g (.slice b m d) W) → Calls Tryz.prog 20 #[.agg #[.int .i64 f, .slice a l c], .int .i64 x, .agg #[.int .i64 g, .slice b m d], .int .i64 y, .int .i64 r, .int .i64 z] W fun e w' => e = .returned (.int .i64 (moE r f xs x g ys y (inB z 1 1000000))) ∧ Below W.heap.size W w') :=
    Lib.hid (fun W hW => smoney_any f xs a l c x g ys b m d y r z W (H.out.on hW.out.low) (KK.out.on hW.out.low))
  obtain ⟨E, hE⟩ : ∃ y_, moE r f xs x g ys y (inB z 1 1000000) = y_ := ⟨_, rfl⟩
  rw [hE] at CM
  by_cases hz : E = 0
  · subst hz
    obtain ⟨hD, ⟨r0, r1⟩, ⟨z0, z1⟩, hd1, hd2⟩ := moDuo hE
    have x0 := hD.x0
    have x1 := hD.x1
    have y0 := hD.y0
    have y1 := hD.y1
    have CT : Hid (∀ W, Hid (K2 w f (.slice a l c) g (.slice b m d) W) → Calls Tryz.prog 21 #[.agg #[.int .i64 f, .slice a l c], .int .i64 x, .agg #[.int .i64 g, .slice b m d], .int .i64 y, .int .i64 r, .int .i64 z] W fun e w' => e = .returned (.int .i64 (togV r f xs x g ys y z)) ∧ Below W.heap.size W w') := Lib.hid (fun W hW => stog_any f xs a l c x g ys b m d y r z W (H.out.on hW.out.low) (KK.out.on hW.out.low) hD r0 r1 z0 z1)
    have HV : Hid (jaV r f xs x g ys y z = togV r f xs x g ys y z) := Lib.hid (by simp [jaV, hE])
    obtain ⟨T, hT⟩ : ∃ y_, togV r f xs x g ys y z = y_ := ⟨_, rfl⟩
    rw [hT] at CT HV
    rw [hE]
    clear hE hD hT hd1 hd2
    go_enter Tryz.func11, Tryz.ntmps11
    go_wp2_with fail
    with_reducible refine (CM.out _ HK).mono ?_
    rintro e w1 ⟨rfl, hb⟩
    have HK := Lib.hid (HK.out.on hb)
    obtain ⟨k0, k1, k2, k3, _⟩ := HK.out
    clear hb
    go_wp2_with fail
    with_reducible refine (CT.out _ HK).mono ?_
    rintro e w1 ⟨rfl, hb⟩
    have HK := Lib.hid (HK.out.on hb)
    clear hb
    go_wp2_with fail
    go_ret2
    exact ⟨ret_ii HV.out.symm rfl, HK.out.low⟩
  · have hne : (E != 0) = true := by simpa using hz
    have HV : Hid (jaV r f xs x g ys y z = 0) := Lib.hid (by simp [jaV, hE, hz])
    rw [hE]
    clear hE hz
    go_enter Tryz.func11, Tryz.ntmps11
    go_wp2_with fail
    with_reducible refine (CM.out _ HK).mono ?_
    rintro e w1 ⟨rfl, hb⟩
    have HK := Lib.hid (HK.out.on hb)
    clear hb
    go_wp2_with fail
    go_ret2
    exact ⟨ret_ii HV.out.symm rfl, HK.out.low⟩

set_option maxHeartbeats 4000000 in
theorem swa_any (f : Int) (xs : List Int) (a : Option Addr) (l c : Nat) (x : Int) (g : Int) (ys : List Int) (b : Option Addr) (m d : Nat) (y : Int) (r z : Int) (w : World) (h : Ints w a l xs) (k : Ints w b m ys) :
    Calls Tryz.prog 9 #[.agg #[.int .i64 f, .slice a l c], .int .i64 x, .agg #[.int .i64 g, .slice b m d], .int .i64 y, .int .i64 r, .int .i64 z] w (IIPost (waV r f xs x g ys y z) (moE r f xs x g ys y (inB z 1 1000000)) w) := by
  have H := Lib.hid h
  have KK := Lib.hid k
  clear h k
  have HK : Hid (K2 w f (.slice a l c) g (.slice b m d) ((w.alloc (.cells #[.int .i64 f, .slice a l c] 26)).alloc (.cells #[.int .i64 g, .slice b m d] 26))) := Lib.hid (K2.new _ _ _ _ _ _ _)
  unfold IIPost
  have CM : Hid (∀ W, Hid (K2 w f (.slice a l c) g (.slice b m d) W) → Calls Tryz.prog 20 #[.agg #[.int .i64 f, .slice a l c], .int .i64 x, .agg #[.int .i64 g, .slice b m d], .int .i64 y, .int .i64 r, .int .i64 z] W fun e w' => e = .returned (.int .i64 (moE r f xs x g ys y (inB z 1 1000000))) ∧ Below W.heap.size W w') :=
    Lib.hid (fun W hW => smoney_any f xs a l c x g ys b m d y r z W (H.out.on hW.out.low) (KK.out.on hW.out.low))
  obtain ⟨E, hE⟩ : ∃ y_, moE r f xs x g ys y (inB z 1 1000000) = y_ := ⟨_, rfl⟩
  rw [hE] at CM
  by_cases hz : E = 0
  · subst hz
    obtain ⟨hD, ⟨r0, r1⟩, ⟨z0, z1⟩, hd1, hd2⟩ := moDuo hE
    have x0 := hD.x0
    have x1 := hD.x1
    have y0 := hD.y0
    have y1 := hD.y1
    have CT : Hid (∀ W, Hid (K2 w f (.slice a l c) g (.slice b m d) W) → Calls Tryz.prog 21 #[.agg #[.int .i64 f, .slice a l c], .int .i64 x, .agg #[.int .i64 g, .slice b m d], .int .i64 y, .int .i64 r, .int .i64 z] W fun e w' => e = .returned (.int .i64 (togV r f xs x g ys y z)) ∧ Below W.heap.size W w') := Lib.hid (fun W hW => stog_any f xs a l c x g ys b m d y r z W (H.out.on hW.out.low) (KK.out.on hW.out.low) hD r0 r1 z0 z1)
    have HV : Hid (waV r f xs x g ys y z = upV z (cN r ys (y - g).toNat) (cD r ys (y - g).toNat) + 1 - togV r f xs x g ys y z) := Lib.hid (by simp [waV, priceV, hE])
    have CN : Hid (∀ W, Hid (K2 w f (.slice a l c) g (.slice b m d) W) → Calls Tryz.prog 18 #[.agg #[.int .i64 g, .slice b m d], .int .i64 r, .int .i64 y] W fun e w' => e = .returned (.int .i64 (cN r ys (y - g).toNat)) ∧ Below W.heap.size W w') := Lib.hid (fun W hW => sN_any r g ys b m d y W (KK.out.on hW.out.low) hD.u r0 r1 hD.y0 (by omega))
    have CD : Hid (∀ W, Hid (K2 w f (.slice a l c) g (.slice b m d) W) → Calls Tryz.prog 19 #[.agg #[.int .i64 g, .slice b m d], .int .i64 r, .int .i64 y] W fun e w' => e = .returned (.int .i64 (cD r ys (y - g).toNat)) ∧ Below W.heap.size W w') := Lib.hid (fun W hW => sD_any r g ys b m d y W (KK.out.on hW.out.low) hD.u r0 r1 hD.y0 (by omega))
    obtain ⟨q1, q2, q3, q4⟩ := hD.u.quot r r0 (y - g).toNat (cN r ys (y - g).toNat) z (hD.u.cN_bd r r0 _).1 (Int.le_refl _) hd2 (by omega) z1
    have n0 := (hD.u.cN_bd r r0 (y - g).toNat).1
    obtain ⟨p0, p1⟩ := price_bd hD.u r0 (y - g).toNat hd2 z0 z1
    obtain ⟨N, hN⟩ : ∃ y_, cN r ys (y - g).toNat = y_ := ⟨_, rfl⟩
    obtain ⟨D, hDD⟩ : ∃ y_, cD r ys (y - g).toNat = y_ := ⟨_, rfl⟩
    rw [hN] at CN q1 q4 n0 HV p0 p1
    rw [hDD] at CD q2 q3 q4 HV p0 p1
    have CU := Lib.hid (fun W => sup_any z N D W (by omega) (by omega) n0 q1 q2 q3 (by omega))
    obtain ⟨U, hU⟩ : ∃ y_, upV z N D = y_ := ⟨_, rfl⟩
    rw [hU] at CU HV p0 p1
    obtain ⟨t0, t1⟩ := tog_bd hD r0 z0 z1
    obtain ⟨T, hT⟩ : ∃ y_, togV r f xs x g ys y z = y_ := ⟨_, rfl⟩
    rw [hT] at CT HV t0 t1
    rw [hE]
    clear hE hD hT hd1 hd2 hN hDD hU q1 q2 q3 q4 n0
    have q5 : IntKind.i64.wrap (U + 1) = U + 1 := IntWalk.i64_in _ (by omega)
    have q6 : IntKind.i64.wrap (U + 1 - T) = U + 1 - T := IntWalk.i64_in _ (by omega)
    go_enter Tryz.func9, Tryz.ntmps9
    go_wp2_with fail
    with_reducible refine (CM.out _ HK).mono ?_
    rintro e w1 ⟨rfl, hb⟩
    have HK := Lib.hid (HK.out.on hb)
    obtain ⟨k0, k1, k2, k3, _⟩ := HK.out
    clear hb
    go_wp2_with fail
    go_region_held3 (fun w' => w'.cell? ⟨w.heap.size, 0, none⟩ = some (.int .i64 f) ∧ w'.cell? ⟨w.heap.size, 1, none⟩ = some (.slice a l c) ∧ w'.cell? ⟨w.heap.size + 1, 0, none⟩ = some (.int .i64 g) ∧ w'.cell? ⟨w.heap.size + 1, 1, none⟩ = some (.slice b m d) ∧ Hid (K2 w f (.slice a l c) g (.slice b m d) w'))
      (first
        | (go_split_ands; exact k2S (Hid.out (by with_reducible assumption)))
        | (go_split_ands; exact k2S (K2.on (Hid.out (by with_reducible assumption)) hb))
        | (go_split_ands; exact k2S (K2.drew (Hid.out (by with_reducible assumption))))
        | fail)
      (first
        | (go_split_ands; go_at_call 18; ((with_reducible refine (CN.out _ (by with_reducible assumption)).mono ?_); rintro e w' ⟨rfl, hb⟩))
        | (go_split_ands; go_at_call 19; ((with_reducible refine (CD.out _ (by with_reducible assumption)).mono ?_); rintro e w' ⟨rfl, hb⟩))
        | (go_split_ands; go_at_call 17; ((with_reducible refine (CU.out _).mono ?_); rintro e w' ⟨rfl, rfl⟩))
        | (go_split_ands; go_at_call 21; ((with_reducible refine (CT.out _ (by with_reducible assumption)).mono ?_); rintro e w' ⟨rfl, hb⟩))
        | fail)
    all_goals
      go_split_ands
      go_wp2_with fail
      go_ret2
      exact ⟨ret_ii HV.out.symm rfl, K2.low (Hid.out (by with_reducible assumption))⟩
  · have hne : (E != 0) = true := by simpa using hz
    have HV : Hid (waV r f xs x g ys y z = 0) := Lib.hid (by simp [waV, hE, hz])
    rw [hE]
    clear hE hz
    go_enter Tryz.func9, Tryz.ntmps9
    go_wp2_with fail
    with_reducible refine (CM.out _ HK).mono ?_
    rintro e w1 ⟨rfl, hb⟩
    have HK := Lib.hid (HK.out.on hb)
    clear hb
    go_wp2_with fail
    go_ret2
    exact ⟨ret_ii HV.out.symm rfl, HK.out.low⟩

set_option maxHeartbeats 4000000 in
theorem sla_any (f : Int) (xs : List Int) (a : Option Addr) (l c : Nat) (x : Int) (g : Int) (ys : List Int) (b : Option Addr) (m d : Nat) (y : Int) (r z : Int) (w : World) (h : Ints w a l xs) (k : Ints w b m ys) :
    Calls Tryz.prog 7 #[.agg #[.int .i64 f, .slice a l c], .int .i64 x, .agg #[.int .i64 g, .slice b m d], .int .i64 y, .int .i64 r, .int .i64 z] w (IIPost (lastV r f xs x g ys y z) (moE r f xs x g ys y (inB z 1 1000000)) w) := by
  have H := Lib.hid h
  have KK := Lib.hid k
  clear h k
  have HK : Hid (K2 w f (.slice a l c) g (.slice b m d) ((w.alloc (.cells #[.int .i64 f, .slice a l c] 26)).alloc (.cells #[.int .i64 g, .slice b m d] 26))) := Lib.hid (K2.new _ _ _ _ _ _ _)
  unfold IIPost
  have CM : Hid (∀ W, Hid (K2 w f (.slice a l c) g (.slice b m d) W) → Calls Tryz.prog 9 #[.agg #[.int .i64 f, .slice a l c], .int .i64 x, .agg #[.int .i64 g, .slice b m d], .int .i64 y, .int .i64 r, .int .i64 z] W fun e w' => e = .returned (.tuple #[.int .i64 (waV r f xs x g ys y z), .int .i64 (moE r f xs x g ys y (inB z 1 1000000))]) ∧ Below W.heap.size W w') :=
    Lib.hid (fun W hW => swa_any f xs a l c x g ys b m d y r z W (H.out.on hW.out.low) (KK.out.on hW.out.low))
  obtain ⟨E, hE⟩ : ∃ y_, moE r f xs x g ys y (inB z 1 1000000) = y_ := ⟨_, rfl⟩
  rw [hE] at CM
  by_cases hz : E = 0
  · subst hz
    obtain ⟨hD, ⟨r0, r1⟩, ⟨z0, z1⟩, hd1, hd2⟩ := moDuo hE
    have x0 := hD.x0
    have x1 := hD.x1
    have y0 := hD.y0
    have y1 := hD.y1
    have CT0 : Hid (∀ W, Hid (K2 w f (.slice a l c) g (.slice b m d) W) → Calls Tryz.prog 21 #[.agg #[.int .i64 f, .slice a l c], .int .i64 x, .agg #[.int .i64 g, .slice b m d], .int .i64 y, .int .i64 r, .int .i64 z] W fun e w' => e = .returned (.int .i64 (togV r f xs x g ys y z)) ∧ Below W.heap.size W w') := Lib.hid (fun W hW => stog_any f xs a l c x g ys b m d y r z W (H.out.on hW.out.low) (KK.out.on hW.out.low) hD r0 r1 z0 z1)
    have HV : Hid (lastV r f xs x g ys y z = upV z (cN r xs (x - f).toNat) (cD r xs (x - f).toNat) + waV r f xs x g ys y z) := Lib.hid (by simp [lastV, priceV, hE])
    have CN : Hid (∀ W, Hid (K2 w f (.slice a l c) g (.slice b m d) W) → Calls Tryz.prog 18 #[.agg #[.int .i64 f, .slice a l c], .int .i64 r, .int .i64 x] W fun e w' => e = .returned (.int .i64 (cN r xs (x - f).toNat)) ∧ Below W.heap.size W w') := Lib.hid (fun W hW => sN_any r f xs a l c x W (H.out.on hW.out.low) hD.t r0 r1 hD.x0 (by omega))
    have CD : Hid (∀ W, Hid (K2 w f (.slice a l c) g (.slice b m d) W) → Calls Tryz.prog 19 #[.agg #[.int .i64 f, .slice a l c], .int .i64 r, .int .i64 x] W fun e w' => e = .returned (.int .i64 (cD r xs (x - f).toNat)) ∧ Below W.heap.size W w') := Lib.hid (fun W hW => sD_any r f xs a l c x W (H.out.on hW.out.low) hD.t r0 r1 hD.x0 (by omega))
    obtain ⟨q1, q2, q3, q4⟩ := hD.t.quot r r0 (x - f).toNat (cN r xs (x - f).toNat) z (hD.t.cN_bd r r0 _).1 (Int.le_refl _) hd1 (by omega) z1
    have n0 := (hD.t.cN_bd r r0 (x - f).toNat).1
    obtain ⟨p0, p1⟩ := price_bd hD.t r0 (x - f).toNat hd1 z0 z1
    obtain ⟨N, hN⟩ : ∃ y_, cN r xs (x - f).toNat = y_ := ⟨_, rfl⟩
    obtain ⟨D, hDD⟩ : ∃ y_, cD r xs (x - f).toNat = y_ := ⟨_, rfl⟩
    rw [hN] at CN q1 q4 n0 HV p0 p1
    rw [hDD] at CD q2 q3 q4 HV p0 p1
    have CU := Lib.hid (fun W => sup_any z N D W (by omega) (by omega) n0 q1 q2 q3 (by omega))
    obtain ⟨U, hU⟩ : ∃ y_, upV z N D = y_ := ⟨_, rfl⟩
    rw [hU] at CU HV p0 p1
    obtain ⟨t0, t1⟩ := tog_bd hD r0 z0 z1
    obtain ⟨s0, s1⟩ := price_bd hD.u r0 (y - g).toNat hd2 z0 z1
    have hw : waV r f xs x g ys y z = priceV r g ys y z + 1 - togV r f xs x g ys y z := by simp [waV, hE]
    unfold priceV at hw
    have w0 : -152000001 ≤ waV r f xs x g ys y z := by omega
    have w1 : waV r f xs x g ys y z ≤ 152000002 := by omega
    obtain ⟨T, hT⟩ : ∃ y_, waV r f xs x g ys y z = y_ := ⟨_, rfl⟩
    rw [hT] at CM HV w0 w1
    rw [hE]
    clear hE hD hT hd1 hd2 hN hDD hU q1 q2 q3 q4 n0 t0 t1 s0 s1 hw CT0
    have q6 : IntKind.i64.wrap (U + T) = U + T := IntWalk.i64_in _ (by omega)
    go_enter Tryz.func7, Tryz.ntmps7
    go_wp2_with fail
    with_reducible refine (CM.out _ HK).mono ?_
    rintro e w1 ⟨rfl, hb⟩
    have HK := Lib.hid (HK.out.on hb)
    obtain ⟨k0, k1, k2, k3, _⟩ := HK.out
    clear hb
    go_wp2_with fail
    go_region_held3 (fun w' => w'.cell? ⟨w.heap.size, 0, none⟩ = some (.int .i64 f) ∧ w'.cell? ⟨w.heap.size, 1, none⟩ = some (.slice a l c) ∧ w'.cell? ⟨w.heap.size + 1, 0, none⟩ = some (.int .i64 g) ∧ w'.cell? ⟨w.heap.size + 1, 1, none⟩ = some (.slice b m d) ∧ Hid (K2 w f (.slice a l c) g (.slice b m d) w'))
      (first
        | (go_split_ands; exact k2S (Hid.out (by with_reducible assumption)))
        | (go_split_ands; exact k2S (K2.on (Hid.out (by with_reducible assumption)) hb))
        | (go_split_ands; exact k2S (K2.drew (Hid.out (by with_reducible assumption))))
        | fail)
      (first
        | (go_split_ands; go_at_call 18; ((with_reducible refine (CN.out _ (by with_reducible assumption)).mono ?_); rintro e w' ⟨rfl, hb⟩))
        | (go_split_ands; go_at_call 19; ((with_reducible refine (CD.out _ (by with_reducible assumption)).mono ?_); rintro e w' ⟨rfl, hb⟩))
        | (go_split_ands; go_at_call 17; ((with_reducible refine (CU.out _).mono ?_); rintro e w' ⟨rfl, rfl⟩))
        | fail)
    all_goals
      go_split_ands
      go_wp2_with fail
      go_ret2
      exact ⟨ret_ii HV.out.symm rfl, K2.low (Hid.out (by with_reducible assumption))⟩
  · have hne : (E != 0) = true := by simpa using hz
    have HV : Hid (lastV r f xs x g ys y z = 0) := Lib.hid (by simp [lastV, hE, hz])
    obtain ⟨T, hT⟩ : ∃ y_, waV r f xs x g ys y z = y_ := ⟨_, rfl⟩
    rw [hT] at CM
    rw [hE]
    clear hT
    clear hE hz
    go_enter Tryz.func7, Tryz.ntmps7
    go_wp2_with fail
    with_reducible refine (CM.out _ HK).mono ?_
    rintro e w1 ⟨rfl, hb⟩
    have HK := Lib.hid (HK.out.on hb)
    clear hb
    go_wp2_with fail
    go_ret2
    exact ⟨ret_ii HV.out.symm rfl, HK.out.low⟩

end Go.Proofs.YtlcmgihaelgclaaGreat
