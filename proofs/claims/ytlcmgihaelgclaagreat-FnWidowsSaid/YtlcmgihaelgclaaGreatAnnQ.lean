/- Annuities: the program's prices. | Annuities: the program's LifeAnnuity, TermAnnuity, LateAnnuity, SureAnnuity, AmountFor. (Written by wip/gen/annr.py.) -/
import Derived.Test.YtlcmgihaelgclaaGreatAnnP
import Derived.Shelf.Abstract
namespace Go.Proofs.YtlcmgihaelgclaaGreat
open Go.ChangeShapes Go.WideShapes Go.ChangeAt Go.RowKit
set_option linter.unusedVariables false
set_option maxRecDepth 100000

def fnS (s : Int) : FuncId := if s = 0 then 77 else if s = 1 then 78 else 79

def numU (r f : Int) (xs : List Int) (x n s : Int) : Int := if s = 0 then cN r xs (x - f).toNat else if s = 1 then cN r xs (x - f).toNat - cN r xs (x + n - f).toNat else cN r xs (x + n - f).toNat

theorem fnS_enter (s : Int) (args : Array Value) (w : World) : (callFunc (fnS s) args).run Tryz.prog w = .ok (.enter (fnS s) args) w := by
  unfold fnS
  split
  · exact enters_of Tryz.func77 (by kernel_rfl) rfl args w
  · split
    · exact enters_of Tryz.func78 (by kernel_rfl) rfl args w
    · exact enters_of Tryz.func79 (by kernel_rfl) rfl args w

theorem numU_bd {f : Int} {xs : List Int} (h : LTab f xs) (r : Int) (r0 : 0 ≤ r) (x n s : Int) (x0 : f ≤ x) (n0 : 0 ≤ n) : 0 ≤ numU r f xs x n s ∧ numU r f xs x n s ≤ cN r xs (x - f).toNat := by
  obtain ⟨a, b⟩ := h.late r r0 x n x0 n0
  have := (h.cN_bd r r0 (x - f).toNat).1
  unfold numU
  split
  · omega
  · split <;> omega

theorem num_any (s r f : Int) (xs : List Int) (v : Value) (cb R : Nat) (x n : Int) (w : World) (hc : Cap w cb R) (h : Cols w R r f xs v) (ht : LTab f xs) (r0 : 0 ≤ r) (x0 : f ≤ x) (n0 : 0 ≤ n) (n1 : n ≤ 120) (x1 : x + n ≤ 150) :
    Calls Tryz.prog (fnS s) #[.int .i64 x, .int .i64 n, .pointer (some ⟨cb, 0, none⟩)] w fun e w' => e = .returned (.int .i64 (numU r f xs x n s)) ∧ Below w.heap.size w w' := by
  have f0 := ht.1.1
  unfold fnS numU
  split
  · exact num2_any r f xs v cb R x n w hc h f0 x0 (by omega)
  · split
    · exact num3_any r f xs v cb R x n w hc h ht r0 f0 x0 n0 n1 x1
    · exact num4_any r f xs v cb R x n w hc h f0 x0 n0 n1 x1

theorem Pm.get {w : World} {B cb R n0 n1 n2 : Nat} (h : Pm w B cb R n0 n1 n2) (s : Int) (hs : s = 0 ∨ s = 1 ∨ s = 2) :
    ∃ ns, (Instr.lookup 84 (.map (some B)) (.int .i64 s) false).run Tryz.prog w = .ok (clo cb ns) w ∧ w.cell? ⟨ns, 0, none⟩ = some (nmr (fnS s) cb) := by
  rcases hs with rfl | rfl | rfl
  · exact ⟨n0, map_get w B _ 3 0 _ 0 (by decide) h.map rfl, h.m0⟩
  · exact ⟨n1, map_get w B _ 3 1 _ 1 (by decide) h.map rfl, h.m1⟩
  · exact ⟨n2, map_get w B _ 3 2 _ 2 (by decide) h.map rfl, h.m2⟩

/-- a price of a span -/
def paV (r f : Int) (xs : List Int) (x b n s : Int) : Int := if anE r f xs x (inB b 1 1000000) n = 0 then upV b (numU r f xs x n s) (cD r xs (x - f).toNat) else 0

set_option maxHeartbeats 1000000 in
theorem pa_any (s r f : Int) (hs : s = 0 ∨ s = 1 ∨ s = 2) (xs : List Int) (a : Option Addr) (l c : Nat) (x b n : Int) (w : World) (h : Ints w a l xs) (hlc : l ≤ c) :
    Calls Tryz.prog 30 #[.int .i64 s, .agg #[.int .i64 f, .slice a l c], .int .i64 r, .int .i64 x, .int .i64 b, .int .i64 n] w (IIPost (paV r f xs x b n s) (anE r f xs x (inB b 1 1000000) n) w) := by
  have H := Lib.hid h
  have HS := Lib.hid hs
  have CK : Hid (∀ W, Hid (Below w.heap.size w W) → Calls Tryz.prog 57 #[.agg #[.int .i64 f, .slice a l c], .int .i64 r, .int .i64 x, .int .i64 b, .int .i64 n] W fun e w' => e = .returned (.int .i64 (akE r f xs x (inB b 1 1000000) n)) ∧ Below W.heap.size W w') :=
    Lib.hid (fun W hW => ackeck_any r f xs a l c x b n W (H.out.on hW.out) hlc)
  have HA := Lib.hid (anE_ak r f xs x (inB b 1 1000000) n)
  clear h hs
  obtain ⟨E, hE⟩ : ∃ E, akE r f xs x (inB b 1 1000000) n = E := ⟨_, rfl⟩
  rw [hE] at CK HA
  have HE := Lib.hid hE
  clear hE
  unfold IIPost
  by_cases hz : E = 0
  · subst hz
    obtain ⟨hc, hb, ⟨n0, n1⟩, xn⟩ := akE_iff.1 HE.out
    obtain ⟨ht, ⟨r0, r1⟩, x0, x1⟩ := coE_iff.1 hc
    obtain ⟨f0, f1⟩ := ht.1
    obtain ⟨b0, b1⟩ := (inB_iff _ _ _).1 hb
    obtain ⟨u0, u1⟩ := numU_bd ht r r0 x n s x0 n0
    have HV : Hid (paV r f xs x b n s = prV (cD r xs (x - f).toNat) b (numU r f xs x n s) ∧ anE r f xs x (inB b 1 1000000) n = prE (cD r xs (x - f).toNat)) := Lib.hid (by
      have := HA.out
      rw [if_pos rfl] at this
      unfold paV prV prE
      rw [this]
      by_cases hd : cD r xs (x - f).toNat = 0
      · simp [hd]
      · simp [hd])
    have CP : Hid (∀ cb nb R (W : World), Cap W cb R → W.cell? ⟨nb, 0, none⟩ = some (nmr (fnS s) cb) → Cols W R r f xs (.slice a l c) → Calls Tryz.prog 74 #[.int .i64 x, .int .i64 b, .int .i64 n, .pointer (some ⟨cb, 0, none⟩), .pointer (some ⟨nb, 0, none⟩)] W (IIPost (prV (cD r xs (x - f).toNat) b (numU r f xs x n s)) (prE (cD r xs (x - f).toNat)) W)) :=
      Lib.hid (fun cb nb R W h1 h2 h3 => price_any (fnS s) (fnS_enter s) r f xs _ cb nb R x b n (numU r f xs x n s) W h1 h2 h3 ht r0 f0 x0 x1 b0 b1 u0 u1 (fun W2 hW2 => num_any s r f xs _ cb R x n W2 (keep2 hW2 h1) (h3.on hW2) ht r0 x0 n0 n1 xn))
    obtain ⟨A, hA⟩ : ∃ y_, prV (cD r xs (x - f).toNat) b (numU r f xs x n s) = y_ := ⟨_, rfl⟩
    obtain ⟨D, hD⟩ : ∃ y_, prE (cD r xs (x - f).toNat) = y_ := ⟨_, rfl⟩
    rw [hA, hD] at HV CP
    unfold IIPost at CP
    have HT := Lib.hid ht
    clear hA hD hc hb u0 u1 HE HA ht
    go_enter Tryz.func30, Tryz.ntmps30
    go_wp2_with fail
    with_reducible refine (CK.out _ (Lib.hid (box_b _ _))).mono ?_
    rintro e w1 ⟨rfl, hb⟩
    obtain ⟨hB, hc0, hc1⟩ := box2 hb
    have HB := Lib.hid hB
    clear hB hb
    go_wp2_with fail
    with_reducible refine (co_any r f xs a l c _ (H.out.on HB.out) HT.out r0 r1).mono ?_
    rintro e w2 ⟨R, G, rfl, hR, hG, hGs, hb⟩
    have HB2 := Lib.hid (HB.out.trans (hb.mono HB.out.size))
    have HC : Hid (Cols w2 R r f xs (.slice a l c)) := Lib.hid ⟨G, hG, hGs⟩
    clear hG hGs hb hc0 hc1 HB hR
    go_wp2_with fail
    with_reducible refine (prices_any R _).mono ?_
    rintro e w3 ⟨B, cb, p0, p1, p2, rfl, hpm, hb⟩
    have HB3 := Lib.hid (HB2.out.trans (hb.mono HB2.out.size))
    have HC3 := Lib.hid (HC.out.on hb)
    obtain ⟨ns, hget, hns⟩ := hpm.get s HS.out
    have HCC := Lib.hid (CP.out cb ns R w3 hpm.cap hns HC3.out)
    unfold clo at hget
    clear hb hpm hns HC HB2
    go_wp2_with fail
    with_reducible refine HCC.out.mono ?_
    rintro e w4 ⟨rfl, hb⟩
    have HB4 := Lib.hid (HB3.out.trans (hb.mono HB3.out.size))
    clear hb hget HCC
    go_wp2_with fail
    go_ret2
    exact ⟨ret_ii HV.out.1.symm HV.out.2.symm, HB4.out⟩
  · have hne : (E != 0) = true := by simp [hz]
    have HV : Hid (paV r f xs x b n s = 0 ∧ anE r f xs x (inB b 1 1000000) n = E) := Lib.hid (by
      have := HA.out
      rw [if_neg hz] at this
      unfold paV
      rw [this, if_neg hz]
      exact ⟨rfl, rfl⟩)
    clear hz HE HA
    go_enter Tryz.func30, Tryz.ntmps30
    go_wp2_with fail
    with_reducible refine (CK.out _ (Lib.hid (box_b _ _))).mono ?_
    rintro e w1 ⟨rfl, hb⟩
    obtain ⟨hB, hc0, hc1⟩ := box2 hb
    have HB := Lib.hid hB
    clear hB hb
    go_wp2_with fail
    go_ret2
    exact ⟨ret_ii HV.out.1.symm HV.out.2.symm, HB.out⟩

theorem ilife_any (r f : Int) (xs : List Int) (a : Option Addr) (l c : Nat) (x b : Int) (w : World) (h : Ints w a l xs) (hlc : l ≤ c) :
    Calls Tryz.prog 14 #[.agg #[.int .i64 f, .slice a l c], .int .i64 r, .int .i64 x, .int .i64 b] w (IIPost (lifeV r f xs x b) (anE r f xs x (inB b 1 1000000) 0) w) := by
  have H := Lib.hid h
  have C : Hid (∀ W, Hid (Below w.heap.size w W) → Calls Tryz.prog 30 #[.int .i64 0, .agg #[.int .i64 f, .slice a l c], .int .i64 r, .int .i64 x, .int .i64 b, .int .i64 0] W (IIPost (lifeV r f xs x b) (anE r f xs x (inB b 1 1000000) 0) W)) :=
    Lib.hid (fun W hW => by
      have := pa_any 0 r f (by omega) xs a l c x b 0 W (H.out.on hW.out) hlc
      rw [show paV r f xs x b 0 0 = lifeV r f xs x b by unfold paV lifeV numU; simp] at this
      exact this)
  clear h
  obtain ⟨Z, hZ⟩ : ∃ y_, lifeV r f xs x b = y_ := ⟨_, rfl⟩
  obtain ⟨E, hE⟩ : ∃ y_, anE r f xs x (inB b 1 1000000) 0 = y_ := ⟨_, rfl⟩
  rw [hZ, hE] at C ⊢
  unfold IIPost at C ⊢
  clear hZ hE
  go_enter Tryz.func14, Tryz.ntmps14
  go_wp2_with fail
  with_reducible refine (C.out _ (Lib.hid (box_b _ _))).mono ?_
  rintro e w1 ⟨rfl, hb⟩
  obtain ⟨hB, hc0, hc1⟩ := box2 hb
  have HB := Lib.hid hB
  clear hB hb
  go_wp2_with fail
  go_ret2
  exact ⟨rfl, HB.out⟩

end Go.Proofs.YtlcmgihaelgclaaGreat
