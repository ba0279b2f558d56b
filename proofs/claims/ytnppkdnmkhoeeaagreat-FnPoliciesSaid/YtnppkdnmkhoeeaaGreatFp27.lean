/- Merged: Fpo. -/
import Derived.Test.YtnppkdnmkhoeeaaGreatFp16
import Derived.Test.YtnppkdnmkhoeeaaGreatFp25
import Derived.Test.YtnppkdnmkhoeeaaGreatFp26

/- The law on policies: a net premium is worth the benefits and less than a cent more for each payment. (Written by wip/gen/fpo.py.) -/
namespace Go.Proofs.YtnppkdnmkhoeeaaGreat
open Go.ChangeShapes Go.WideShapes Go.ChangeAt Go.RowKit
set_option linter.unusedVariables false

/-- the payments of some years are at most so many times the first -/
theorem LTab.cN_years {f : Int} {xs : List Int} (h : LTab f xs) (r : Int) (r0 : 0 ≤ r) (k n : Nat) : cN r xs k - cN r xs (k + n) ≤ n * cD r xs k := by
  induction n with
  | zero => simp
  | succ n ih =>
    have e := h.cN_step r (k + n)
    have m := h.cD_mono r r0 k n
    rw [show k + (n + 1) = k + n + 1 by omega, show ((n + 1 : Nat) : Int) = n + 1 by omega, Int.add_mul]
    omega

/-- the payments are at most as many as the duration has years -/
theorem dur_pay {r f : Int} {xs : List Int} {k x n s u : Int} (hp : poB r f xs k x n s u = true) : asB r f xs k x n ≤ durN f xs k x n * cD r xs (x - f).toNat ∧ 0 ≤ durN f xs k x n ∧ durN f xs k x n ≤ 1000 := by
  have hz := (poB_iff.1 hp).1
  unfold asE at hz
  obtain ⟨-, -, ht, ⟨r0, -⟩, ⟨x0, x1⟩, ⟨n0, n1⟩, -, hd⟩ := as_in hz
  obtain ⟨f0, f1⟩ := ht.1
  have hs := ht.2.1
  unfold asB durN
  by_cases hk : k = 0
  · rw [if_pos hk, if_pos hk]
    have hlt : (x - f).toNat < xs.length - 1 := by
      by_cases hlt : (x - f).toNat < xs.length - 1
      · exact hlt
      · exact absurd (ht.cD_far r _ (by omega)) hd
    obtain ⟨m, hm⟩ : ∃ m : Nat, (x - f).toNat + m = xs.length - 1 := ⟨xs.length - 1 - (x - f).toNat, by omega⟩
    have h1 := ht.cN_years r r0 (x - f).toNat m
    rw [hm, ht.cN_far r _ (Nat.le_refl _)] at h1
    have hmm : (m : Int) = f + xs.length - 1 - x := by omega
    rw [← hmm]
    omega
  · rw [if_neg hk, if_neg hk]
    have h1 := ht.cN_years r r0 (x - f).toNat n.toNat
    rw [show (x - f).toNat + n.toNat = (x + n - f).toNat by omega, show (n.toNat : Int) = n by omega] at h1
    omega

/-- what the law asks of a valid policy -/
theorem pol_facts {r f : Int} {xs : List Int} {k x n s u : Int} (hp : poB r f xs k x n s u = true) :
    ∃ q m p o d : Int, gnQV r f xs k x n s u = q ∧ gnRV r f xs k x n s u = m ∧ netV r f xs k x n s u = p ∧ offV r f xs k x n s u = o ∧ durV r f xs k x n s u = d ∧ levV r f xs k x n s = p ∧ asE r f xs k x n s = 0 ∧
      0 ≤ q ∧ q < d ∧ 0 ≤ m ∧ p ≤ o ∧ 0 ≤ p ∧ p ≤ 100000001 ∧ o - p ≤ 100000001 ∧ 0 ≤ p * u ∧ p * u ≤ 100000001000 ∧ p * u ≤ 1000 * (o - p) ∧ 1000 * (o - p - 1) < p * u := by
  obtain ⟨t, c, b, p, e1, e2, e3, e4, t0, t1, d0, d1, b0, b1, p0, p1, g0, g1, -, -⟩ := po_nums hp
  obtain ⟨p', e4', -, -, o3, o4, u0, u1, o1, o2⟩ := off_nums hp
  obtain rfl : p = p' := e4.symm.trans e4'
  obtain ⟨h1, h2, h3⟩ := dur_pay hp
  rw [e2, e3] at h1
  have hz := (poB_iff.1 hp).1
  have hgq : gnQV r f xs k x n s u = (p * b - s * t) / c := by unfold gnQV gnQ; rw [if_pos hp, e1, e2, e3, e4]
  have hgr : gnRV r f xs k x n s u = (p * b - s * t) % c := by unfold gnRV gnR; rw [if_pos hp, e1, e2, e3, e4]
  have hn : netV r f xs k x n s u = p := by unfold netV; rw [if_pos hp, e4]
  have ho : offV r f xs k x n s u = offN p u := by unfold offV; rw [if_pos hp, e4]
  have hdv : durV r f xs k x n s u = durN f xs k x n := by unfold durV; rw [if_pos hp]
  have hl : levV r f xs k x n s = p := by unfold levV; rw [if_pos hz, ← e4]; rfl
  refine ⟨_, _, p, _, _, hgq, hgr, hn, ho, hdv, hl, hz, Int.ediv_nonneg (by omega) (by omega), Int.ediv_lt_of_lt_mul (by omega) (by omega), Int.emod_nonneg _ (by omega), o1, p0, p1, by omega, o3, o4, ?_, ?_⟩
  · unfold offN; omega
  · unfold offN; omega

/-- what the law keeps -/
structure LQ (w : World) (X Y : Nat) (F : Int) (ta : Option Addr) (tn tc : Nat) (xs : List Int) (r k x n s u : Int) (W : World) : Prop where
  b : Bx W X [.int .i64 F, .slice ta tn tc, .int .i64 r]
  p : Bx W Y [.int .i64 k, .int .i64 x, .int .i64 n, .int .i64 s, .int .i64 u]
  ints : Ints W ta tn xs
  low : Below w.heap.size w W

theorem LQ.on {w : World} {X Y : Nat} {F : Int} {ta : Option Addr} {tn tc : Nat} {xs : List Int} {r k x n s u : Int} {W W' : World} (h : LQ w X Y F ta tn tc xs r k x n s u W) (hb : Below W.heap.size W W') : LQ w X Y F ta tn tc xs r k x n s u W' := ⟨h.b.on hb, h.p.on hb, h.ints.on hb, h.low.trans (hb.mono h.low.size)⟩

theorem lqC {w : World} {X Y : Nat} {F : Int} {ta : Option Addr} {tn tc : Nat} {xs : List Int} {r k x n s u : Int} {W : World} (h : LQ w X Y F ta tn tc xs r k x n s u W) :
    W.cell? ⟨X, 0, none⟩ = some (.int .i64 F) ∧ W.cell? ⟨X, 1, none⟩ = some (.slice ta tn tc) ∧ W.cell? ⟨X, 2, none⟩ = some (.int .i64 r) ∧ W.cell? ⟨Y, 0, none⟩ = some (.int .i64 k) ∧ W.cell? ⟨Y, 1, none⟩ = some (.int .i64 x) ∧ W.cell? ⟨Y, 2, none⟩ = some (.int .i64 n) ∧ W.cell? ⟨Y, 3, none⟩ = some (.int .i64 s) ∧ W.cell? ⟨Y, 4, none⟩ = some (.int .i64 u) := by
  obtain ⟨c0, c1, c2⟩ := h.b.three0
  obtain ⟨d0, d1, d2, d3, d4⟩ := h.p.five9
  exact ⟨c0, c1, c2, d0, d1, d2, d3, d4⟩

/-- .. and the second basis -/
structure LR (w : World) (X Y : Nat) (F : Int) (ta : Option Addr) (tn tc : Nat) (xs : List Int) (r k x n s u : Int) (Z : Nat) (G : Int) (ga : Option Addr) (gn gc : Nat) (ys : List Int) (q2 : Int) (W : World) : Prop where
  lq : LQ w X Y F ta tn tc xs r k x n s u W
  g : Bx W Z [.int .i64 G, .slice ga gn gc, .int .i64 q2]
  gi : Ints W ga gn ys

theorem LR.on {w : World} {X Y : Nat} {F : Int} {ta : Option Addr} {tn tc : Nat} {xs : List Int} {r k x n s u : Int} {Z : Nat} {G : Int} {ga : Option Addr} {gn gc : Nat} {ys : List Int} {q2 : Int} {W W' : World} (h : LR w X Y F ta tn tc xs r k x n s u Z G ga gn gc ys q2 W) (hb : Below W.heap.size W W') : LR w X Y F ta tn tc xs r k x n s u Z G ga gn gc ys q2 W' := ⟨h.lq.on hb, h.g.on hb, h.gi.on hb⟩

theorem LR.drew {w : World} {X Y : Nat} {F : Int} {ta : Option Addr} {tn tc : Nat} {xs : List Int} {r k x n s u : Int} {Z : Nat} {G : Int} {ga : Option Addr} {gn gc : Nat} {ys : List Int} {q2 : Int} {W : World} (h : LR w X Y F ta tn tc xs r k x n s u Z G ga gn gc ys q2 W) : LR w X Y F ta tn tc xs r k x n s u Z G ga gn gc ys q2 W.drew := h.on (Below.drew (Below.refl _ _))

theorem lrS {w : World} {X Y : Nat} {F : Int} {ta : Option Addr} {tn tc : Nat} {xs : List Int} {r k x n s u : Int} {Z : Nat} {G : Int} {ga : Option Addr} {gn gc : Nat} {ys : List Int} {q2 : Int} {W : World} (h : LR w X Y F ta tn tc xs r k x n s u Z G ga gn gc ys q2 W) :
    W.cell? ⟨X, 0, none⟩ = some (.int .i64 F) ∧ W.cell? ⟨X, 1, none⟩ = some (.slice ta tn tc) ∧ W.cell? ⟨X, 2, none⟩ = some (.int .i64 r) ∧ W.cell? ⟨Y, 0, none⟩ = some (.int .i64 k) ∧ W.cell? ⟨Y, 1, none⟩ = some (.int .i64 x) ∧ W.cell? ⟨Y, 2, none⟩ = some (.int .i64 n) ∧ W.cell? ⟨Y, 3, none⟩ = some (.int .i64 s) ∧ W.cell? ⟨Y, 4, none⟩ = some (.int .i64 u) ∧ W.cell? ⟨Z, 0, none⟩ = some (.int .i64 G) ∧ W.cell? ⟨Z, 1, none⟩ = some (.slice ga gn gc) ∧ W.cell? ⟨Z, 2, none⟩ = some (.int .i64 q2) ∧ Hid (LR w X Y F ta tn tc xs r k x n s u Z G ga gn gc ys q2 W) := by
  obtain ⟨c0, c1, c2, d0, d1, d2, d3, d4⟩ := lqC h.lq
  obtain ⟨g0, g1, g2⟩ := h.g.three0
  exact ⟨c0, c1, c2, d0, d1, d2, d3, d4, g0, g1, g2, Lib.hid h⟩

set_option maxRecDepth 2000000 in
set_option maxHeartbeats 16000000 in
theorem fnPolicies_walk (a0 : Option Addr) (len0 cap0 : Nat) (z0 : List Int) (w : World) (w0 : IsRow .u8 w a0 len0 cap0 z0) :
    Calls Tryz.prog 3 #[.slice a0 len0 cap0] w fun e w' => e = .returned (.bool true) ∧ Below w.heap.size w w' := by
  by_cases hbig : 4096 < (len0 : Int)
  · go_enter Tryz.func3, Tryz.ntmps3
    go_wp2_with (go_at_call 6; refine (big2_any _ _ _ _).mono ?_; rintro e w' ⟨rfl, rfl⟩)
    go_ret
    exact ⟨rfl, Below.refl _ _⟩
  · have hW := Lib.hid w0
    go_enter Tryz.func3, Tryz.ntmps3
    go_wp2_with (go_at_call 6; refine (big2_any _ _ _ _).mono ?_; rintro e w' ⟨rfl, rfl⟩)
    refine (drawPG a0 len0 cap0 z0 _ w0).mono ?_
    rintro e w1 ⟨F, ta, tn, tc, xs, r, k, x, n, s, u, rfl, hI, htc, htn, hb⟩
    have HTC := Lib.hid (And.intro htc htn)
    have q1 := box_b w1 (.cells #[.int .i64 F, .slice ta tn tc, .int .i64 r] 28)
    have q2 := box_b (w1.alloc (.cells #[.int .i64 F, .slice ta tn tc, .int .i64 r] 28)) (.cells #[.int .i64 k, .int .i64 x, .int .i64 n, .int .i64 s, .int .i64 u] 30)
    have HQ : Hid (LQ w w1.heap.size (w1.heap.size + 1) F ta tn tc xs r k x n s u ((w1.alloc (.cells #[.int .i64 F, .slice ta tn tc, .int .i64 r] 28)).alloc (.cells #[.int .i64 k, .int .i64 x, .int .i64 n, .int .i64 s, .int .i64 u] 30))) := Lib.hid (by
      have y := Bx.new (w1.alloc (.cells #[.int .i64 F, .slice ta tn tc, .int .i64 r] 28)) [.int .i64 k, .int .i64 x, .int .i64 n, .int .i64 s, .int .i64 u] 30
      rw [World.size_alloc] at y
      exact ⟨(Bx.new w1 [.int .i64 F, .slice ta tn tc, .int .i64 r] 28).on q2, y, (hI.on q1).on q2, (hb.trans (q1.mono hb.size)).trans (q2.mono (by have := hb.size; simp; omega))⟩)
    clear hb hI q1 q2 htc htn
    go_wp2_with fail
    obtain ⟨W1, hW1⟩ : ∃ y_, (w1.alloc (.cells #[.int .i64 F, .slice ta tn tc, .int .i64 r] 28)).alloc (.cells #[.int .i64 k, .int .i64 x, .int .i64 n, .int .i64 s, .int .i64 u] 30) = y_ := ⟨_, rfl⟩
    obtain ⟨X, hX⟩ : ∃ y_, w1.heap.size = y_ := ⟨_, rfl⟩
    obtain ⟨Y, hY⟩ : ∃ y_, X + 1 = y_ := ⟨_, rfl⟩
    rw [hW1, hX, hY] at HQ
    (try rw [hW1])
    (try rw [hX])
    (try rw [hY])
    clear hW1 hX hY
    have I0 : Hid (∀ W, LQ w X Y F ta tn tc xs r k x n s u W → Calls Tryz.prog 8 #[.agg #[.int .i64 F, .slice ta tn tc, .int .i64 r], .agg #[.int .i64 k, .int .i64 x, .int .i64 n, .int .i64 s, .int .i64 u]] W (IIIPost (gnQV r F xs k x n s u) (gnRV r F xs k x n s u) (poE r F xs k x n s u) W)) := Lib.hid (fun W hW => ipg_any r F xs ta tn tc k x n s u W hW.ints HTC.out.1)
    have S0 : Hid (∀ W, LQ w X Y F ta tn tc xs r k x n s u W → Calls Tryz.prog 9 #[.agg #[.int .i64 F, .slice ta tn tc, .int .i64 r], .agg #[.int .i64 k, .int .i64 x, .int .i64 n, .int .i64 s, .int .i64 u]] W (IIIPost (gnQV r F xs k x n s u) (gnRV r F xs k x n s u) (poE r F xs k x n s u) W)) := Lib.hid (fun W hW => spg_any r F xs ta tn tc k x n s u W hW.ints)
    have I1 : Hid (∀ W, LQ w X Y F ta tn tc xs r k x n s u W → Calls Tryz.prog 10 #[.agg #[.int .i64 F, .slice ta tn tc, .int .i64 r], .agg #[.int .i64 k, .int .i64 x, .int .i64 n, .int .i64 s, .int .i64 u]] W (IIPost (netV r F xs k x n s u) (poE r F xs k x n s u) W)) := Lib.hid (fun W hW => inp_any r F xs ta tn tc k x n s u W hW.ints HTC.out.1)
    have S1 : Hid (∀ W, LQ w X Y F ta tn tc xs r k x n s u W → Calls Tryz.prog 11 #[.agg #[.int .i64 F, .slice ta tn tc, .int .i64 r], .agg #[.int .i64 k, .int .i64 x, .int .i64 n, .int .i64 s, .int .i64 u]] W (IIPost (netV r F xs k x n s u) (poE r F xs k x n s u) W)) := Lib.hid (fun W hW => snp_any r F xs ta tn tc k x n s u W hW.ints)
    have I2 : Hid (∀ W, LQ w X Y F ta tn tc xs r k x n s u W → Calls Tryz.prog 12 #[.agg #[.int .i64 F, .slice ta tn tc, .int .i64 r], .agg #[.int .i64 k, .int .i64 x, .int .i64 n, .int .i64 s, .int .i64 u]] W (IIPost (offV r F xs k x n s u) (poE r F xs k x n s u) W)) := Lib.hid (fun W hW => iop_any r F xs ta tn tc k x n s u W hW.ints HTC.out.1)
    have S2 : Hid (∀ W, LQ w X Y F ta tn tc xs r k x n s u W → Calls Tryz.prog 13 #[.agg #[.int .i64 F, .slice ta tn tc, .int .i64 r], .agg #[.int .i64 k, .int .i64 x, .int .i64 n, .int .i64 s, .int .i64 u]] W (IIPost (offV r F xs k x n s u) (poE r F xs k x n s u) W)) := Lib.hid (fun W hW => sop_any r F xs ta tn tc k x n s u W hW.ints)
    have I3 : Hid (∀ W, LQ w X Y F ta tn tc xs r k x n s u W → Calls Tryz.prog 14 #[.agg #[.int .i64 F, .slice ta tn tc, .int .i64 r], .agg #[.int .i64 k, .int .i64 x, .int .i64 n, .int .i64 s, .int .i64 u]] W (IIPost (durV r F xs k x n s u) (poE r F xs k x n s u) W)) := Lib.hid (fun W hW => ido_any r F xs ta tn tc k x n s u W hW.ints HTC.out.1)
    have S3 : Hid (∀ W, LQ w X Y F ta tn tc xs r k x n s u W → Calls Tryz.prog 15 #[.agg #[.int .i64 F, .slice ta tn tc, .int .i64 r], .agg #[.int .i64 k, .int .i64 x, .int .i64 n, .int .i64 s, .int .i64 u]] W (IIPost (durV r F xs k x n s u) (poE r F xs k x n s u) W)) := Lib.hid (fun W hW => sdo_any r F xs ta tn tc k x n s u W hW.ints)
    have IP : Hid (∀ W, LQ w X Y F ta tn tc xs r k x n s u W → Calls Tryz.prog 17 #[.agg #[.int .i64 F, .slice ta tn tc, .int .i64 r], .agg #[.int .i64 k, .int .i64 x, .int .i64 n, .int .i64 s, .int .i64 u]] W fun e w' => e = .returned (.bool (poB r F xs k x n s u)) ∧ Below W.heap.size W w') := Lib.hid (fun W hW => ipol_any r F xs ta tn tc k x n s u W hW.ints HTC.out.1)
    have IL : Hid (∀ W, LQ w X Y F ta tn tc xs r k x n s u W → Calls Tryz.prog 20 #[.agg #[.int .i64 F, .slice ta tn tc], .int .i64 r, .int .i64 k, .int .i64 x, .int .i64 n, .int .i64 s] W (IIPost (levV r F xs k x n s) (asE r F xs k x n s) W)) := Lib.hid (fun W hW => ilev_any r F xs ta tn tc k x n s W hW.ints HTC.out.1)
    unfold IIIPost at I0 S0
    unfold IIPost at I1 S1 I2 S2 I3 S3 IL
    obtain ⟨c0, c1, c2, d0, d1, d2, d3, d4⟩ := lqC HQ.out
    by_cases hp : poB r F xs k x n s u = true
    · obtain ⟨Gq, Gm, Gp, Go, Gd, v0, v1, v2, v3, v4, v5, v6, k0, k1, k2, k3, k4, k5, k6, k7, k8, k9, k10⟩ := pol_facts hp
      rw [v0, v1, poE_yes hp] at I0 S0
      rw [v2, poE_yes hp] at I1 S1
      rw [v3, poE_yes hp] at I2 S2
      rw [v4, poE_yes hp] at I3 S3
      rw [v5, v6] at IL
      rw [hp] at IP
      have r1 : IntKind.i64.wrap (Go - Gp) = Go - Gp := IntWalk.i64_in _ (by omega)
      have r2 : IntKind.i64.wrap (1000 * (Go - Gp)) = 1000 * (Go - Gp) := IntWalk.i64_in _ (by omega)
      have r3 : IntKind.i64.wrap (Gp * u) = Gp * u := IntWalk.i64_in _ (by omega)
      have r4 : IntKind.i64.wrap (Go - Gp - 1) = Go - Gp - 1 := IntWalk.i64_in _ (by omega)
      have r5 : IntKind.i64.wrap (1000 * (Go - Gp - 1)) = 1000 * (Go - Gp - 1) := IntWalk.i64_in _ (by omega)
      clear v0 v1 v2 v3 v4 v5 v6 hp
      with_reducible refine (I0.out _ HQ.out).mono ?_
      rintro e v0 ⟨rfl, hb⟩
      have HQ := Lib.hid (HQ.out.on hb)
      clear hb c0 c1 c2 d0 d1 d2 d3 d4
      obtain ⟨c0, c1, c2, d0, d1, d2, d3, d4⟩ := lqC HQ.out
      go_wp2_with fail
      with_reducible refine (S0.out _ HQ.out).mono ?_
      rintro e v1 ⟨rfl, hb⟩
      have HQ := Lib.hid (HQ.out.on hb)
      clear hb c0 c1 c2 d0 d1 d2 d3 d4
      obtain ⟨c0, c1, c2, d0, d1, d2, d3, d4⟩ := lqC HQ.out
      go_wp2_with fail
      with_reducible refine (I1.out _ HQ.out).mono ?_
      rintro e v2 ⟨rfl, hb⟩
      have HQ := Lib.hid (HQ.out.on hb)
      clear hb c0 c1 c2 d0 d1 d2 d3 d4
      obtain ⟨c0, c1, c2, d0, d1, d2, d3, d4⟩ := lqC HQ.out
      go_wp2_with fail
      with_reducible refine (S1.out _ HQ.out).mono ?_
      rintro e v3 ⟨rfl, hb⟩
      have HQ := Lib.hid (HQ.out.on hb)
      clear hb c0 c1 c2 d0 d1 d2 d3 d4
      obtain ⟨c0, c1, c2, d0, d1, d2, d3, d4⟩ := lqC HQ.out
      go_wp2_with fail
      with_reducible refine (I2.out _ HQ.out).mono ?_
      rintro e v4 ⟨rfl, hb⟩
      have HQ := Lib.hid (HQ.out.on hb)
      clear hb c0 c1 c2 d0 d1 d2 d3 d4
      obtain ⟨c0, c1, c2, d0, d1, d2, d3, d4⟩ := lqC HQ.out
      go_wp2_with fail
      with_reducible refine (S2.out _ HQ.out).mono ?_
      rintro e v5 ⟨rfl, hb⟩
      have HQ := Lib.hid (HQ.out.on hb)
      clear hb c0 c1 c2 d0 d1 d2 d3 d4
      obtain ⟨c0, c1, c2, d0, d1, d2, d3, d4⟩ := lqC HQ.out
      go_wp2_with fail
      with_reducible refine (I3.out _ HQ.out).mono ?_
      rintro e v6 ⟨rfl, hb⟩
      have HQ := Lib.hid (HQ.out.on hb)
      clear hb c0 c1 c2 d0 d1 d2 d3 d4
      obtain ⟨c0, c1, c2, d0, d1, d2, d3, d4⟩ := lqC HQ.out
      go_wp2_with fail
      with_reducible refine (S3.out _ HQ.out).mono ?_
      rintro e v7 ⟨rfl, hb⟩
      have HQ := Lib.hid (HQ.out.on hb)
      clear hb c0 c1 c2 d0 d1 d2 d3 d4
      obtain ⟨c0, c1, c2, d0, d1, d2, d3, d4⟩ := lqC HQ.out
      go_wp2_with fail
      refine (drawIB a0 len0 cap0 z0 _ (w0.below HQ.out.low w0.apart)).mono ?_
      rintro e v9 ⟨G, ga, gn, gc, ys, q2, rfl, hI2, hgc, hgn, hb⟩
      have hbx := box_b v9 (.cells #[.int .i64 G, .slice ga gn gc, .int .i64 q2] 28)
      have HG : Hid (Bx (v9.alloc (.cells #[.int .i64 G, .slice ga gn gc, .int .i64 q2] 28)) v9.heap.size [.int .i64 G, .slice ga gn gc, .int .i64 q2] ∧ Ints (v9.alloc (.cells #[.int .i64 G, .slice ga gn gc, .int .i64 q2] 28)) ga gn ys) := Lib.hid ⟨Bx.new v9 _ _, hI2.on hbx⟩
      have HQ := Lib.hid ((HQ.out.on hb).on hbx)
      have HGC := Lib.hid hgc
      clear hb hbx hI2 hgn hgc c0 c1 c2 d0 d1 d2 d3 d4
      obtain ⟨V9, hV9⟩ : ∃ y_, v9.alloc (.cells #[.int .i64 G, .slice ga gn gc, .int .i64 q2] 28) = y_ := ⟨_, rfl⟩
      obtain ⟨Z9, hZ9⟩ : ∃ y_, v9.heap.size = y_ := ⟨_, rfl⟩
      rw [hV9] at HQ HG
      rw [hZ9] at HG
      obtain ⟨c0, c1, c2, d0, d1, d2, d3, d4⟩ := lqC HQ.out
      obtain ⟨g0, g1, g2⟩ := HG.out.1.three0
      go_wp2_with fail
      (try rw [hV9])
      (try rw [hZ9])
      simp only [List.append]
      clear hV9 hZ9 c0 c1 c2 d0 d1 d2 d3 d4 g0 g1 g2
      have HR : Hid (LR w X Y F ta tn tc xs r k x n s u Z9 G ga gn gc ys q2 V9) := Lib.hid ⟨HQ.out, HG.out.1, HG.out.2⟩
      have IP9 : Hid (∀ W, Hid (LR w X Y F ta tn tc xs r k x n s u Z9 G ga gn gc ys q2 W) → Calls Tryz.prog 17 #[.agg #[.int .i64 F, .slice ta tn tc, .int .i64 r], .agg #[.int .i64 k, .int .i64 x, .int .i64 n, .int .i64 s, .int .i64 u]] W fun e w' => e = .returned (.bool true) ∧ Below W.heap.size W w') := Lib.hid (fun W hW => IP.out W hW.out.lq)
      have IB9 : Hid (∀ W, Hid (LR w X Y F ta tn tc xs r k x n s u Z9 G ga gn gc ys q2 W) → Calls Tryz.prog 18 #[.agg #[.int .i64 G, .slice ga gn gc, .int .i64 q2]] W fun e w' => e = .returned (.bool (baB q2 G ys)) ∧ Below W.heap.size W w') := Lib.hid (fun W hW => ibas_any q2 G ys ga gn gc W hW.out.gi HGC.out)
      have SB9 : Hid (∀ W, Hid (LR w X Y F ta tn tc xs r k x n s u Z9 G ga gn gc ys q2 W) → Calls Tryz.prog 19 #[.agg #[.int .i64 G, .slice ga gn gc, .int .i64 q2]] W fun e w' => e = .returned (.bool (baB q2 G ys)) ∧ Below W.heap.size W w') := Lib.hid (fun W hW => sbas_any q2 G ys ga gn gc W hW.out.gi)
      obtain ⟨bb, hbb⟩ : ∃ y_, baB q2 G ys = y_ := ⟨_, rfl⟩
      rw [hbb] at IB9 SB9
      obtain ⟨c0, c1, c2, d0, d1, d2, d3, d4, g0, g1, g2, -⟩ := lrS HR.out
      clear hbb HG HQ
      go_region_held3 (fun W9 => W9.cell? ⟨X, 0, none⟩ = some (.int .i64 F) ∧ W9.cell? ⟨X, 1, none⟩ = some (.slice ta tn tc) ∧ W9.cell? ⟨X, 2, none⟩ = some (.int .i64 r) ∧ W9.cell? ⟨Y, 0, none⟩ = some (.int .i64 k) ∧ W9.cell? ⟨Y, 1, none⟩ = some (.int .i64 x) ∧ W9.cell? ⟨Y, 2, none⟩ = some (.int .i64 n) ∧ W9.cell? ⟨Y, 3, none⟩ = some (.int .i64 s) ∧ W9.cell? ⟨Y, 4, none⟩ = some (.int .i64 u) ∧ W9.cell? ⟨Z9, 0, none⟩ = some (.int .i64 G) ∧ W9.cell? ⟨Z9, 1, none⟩ = some (.slice ga gn gc) ∧ W9.cell? ⟨Z9, 2, none⟩ = some (.int .i64 q2) ∧ Hid (LR w X Y F ta tn tc xs r k x n s u Z9 G ga gn gc ys q2 W9))
        (first
          | (go_split_ands; with_reducible exact lrS (Hid.out (by with_reducible assumption)))
          | (go_split_ands; with_reducible exact lrS (LR.on (Hid.out (by with_reducible assumption)) hb))
          | (go_split_ands; with_reducible exact lrS (LR.drew (Hid.out (by with_reducible assumption))))
          | fail)
        (first
          | (go_split_ands; go_at_call 17; ((with_reducible refine (IP9.out _ (by with_reducible assumption)).mono ?_); rintro e w' ⟨rfl, hb⟩))
          | (go_split_ands; go_at_call 18; ((with_reducible refine (IB9.out _ (by with_reducible assumption)).mono ?_); rintro e w' ⟨rfl, hb⟩))
          | (go_split_ands; go_at_call 19; ((with_reducible refine (SB9.out _ (by with_reducible assumption)).mono ?_); rintro e w' ⟨rfl, hb⟩))
          | fail)
      all_goals
        go_split_ands
        have HR9 : Hid (LR w X Y F ta tn tc xs r k x n s u Z9 G ga gn gc ys q2 w') := by with_reducible assumption
        clear HR c0 c1 c2 d0 d1 d2 d3 d4 g0 g1 g2
        obtain ⟨c0, c1, c2, d0, d1, d2, d3, d4, -⟩ := lrS HR9.out
        have HQ := Lib.hid HR9.out.lq
        go_wp2_with fail
        refine (IL.out _ HQ.out).mono ?_
        rintro e u4 ⟨rfl, hb⟩
        have HQ := Lib.hid (HQ.out.on hb)
        clear hb c0 c1 c2 d0 d1 d2 d3 d4
        obtain ⟨c0, c1, c2, d0, d1, d2, d3, d4⟩ := lqC HQ.out
        go_wp2_with fail
        go_ret
        exact ⟨rfl, HQ.out.low⟩
    · have hp2 : poB r F xs k x n s u = false := by simpa using hp
      rw [poE_no hp2] at I0 S0 I1 S1 I2 S2 I3 S3
      rw [hp2] at IP
      obtain ⟨Gq, v0⟩ : ∃ y_, gnQV r F xs k x n s u = y_ := ⟨_, rfl⟩
      obtain ⟨Gm, v1⟩ : ∃ y_, gnRV r F xs k x n s u = y_ := ⟨_, rfl⟩
      obtain ⟨Gp, v2⟩ : ∃ y_, netV r F xs k x n s u = y_ := ⟨_, rfl⟩
      obtain ⟨Go, v3⟩ : ∃ y_, offV r F xs k x n s u = y_ := ⟨_, rfl⟩
      obtain ⟨Gd, v4⟩ : ∃ y_, durV r F xs k x n s u = y_ := ⟨_, rfl⟩
      rw [v0, v1] at I0 S0
      rw [v2] at I1 S1
      rw [v3] at I2 S2
      rw [v4] at I3 S3
      clear v0 v1 v2 v3 v4 hp hp2
      with_reducible refine (I0.out _ HQ.out).mono ?_
      rintro e v0 ⟨rfl, hb⟩
      have HQ := Lib.hid (HQ.out.on hb)
      clear hb c0 c1 c2 d0 d1 d2 d3 d4
      obtain ⟨c0, c1, c2, d0, d1, d2, d3, d4⟩ := lqC HQ.out
      go_wp2_with fail
      with_reducible refine (S0.out _ HQ.out).mono ?_
      rintro e v1 ⟨rfl, hb⟩
      have HQ := Lib.hid (HQ.out.on hb)
      clear hb c0 c1 c2 d0 d1 d2 d3 d4
      obtain ⟨c0, c1, c2, d0, d1, d2, d3, d4⟩ := lqC HQ.out
      go_wp2_with fail
      with_reducible refine (I1.out _ HQ.out).mono ?_
      rintro e v2 ⟨rfl, hb⟩
      have HQ := Lib.hid (HQ.out.on hb)
      clear hb c0 c1 c2 d0 d1 d2 d3 d4
      obtain ⟨c0, c1, c2, d0, d1, d2, d3, d4⟩ := lqC HQ.out
      go_wp2_with fail
      with_reducible refine (S1.out _ HQ.out).mono ?_
      rintro e v3 ⟨rfl, hb⟩
      have HQ := Lib.hid (HQ.out.on hb)
      clear hb c0 c1 c2 d0 d1 d2 d3 d4
      obtain ⟨c0, c1, c2, d0, d1, d2, d3, d4⟩ := lqC HQ.out
      go_wp2_with fail
      with_reducible refine (I2.out _ HQ.out).mono ?_
      rintro e v4 ⟨rfl, hb⟩
      have HQ := Lib.hid (HQ.out.on hb)
      clear hb c0 c1 c2 d0 d1 d2 d3 d4
      obtain ⟨c0, c1, c2, d0, d1, d2, d3, d4⟩ := lqC HQ.out
      go_wp2_with fail
      with_reducible refine (S2.out _ HQ.out).mono ?_
      rintro e v5 ⟨rfl, hb⟩
      have HQ := Lib.hid (HQ.out.on hb)
      clear hb c0 c1 c2 d0 d1 d2 d3 d4
      obtain ⟨c0, c1, c2, d0, d1, d2, d3, d4⟩ := lqC HQ.out
      go_wp2_with fail
      with_reducible refine (I3.out _ HQ.out).mono ?_
      rintro e v6 ⟨rfl, hb⟩
      have HQ := Lib.hid (HQ.out.on hb)
      clear hb c0 c1 c2 d0 d1 d2 d3 d4
      obtain ⟨c0, c1, c2, d0, d1, d2, d3, d4⟩ := lqC HQ.out
      go_wp2_with fail
      with_reducible refine (S3.out _ HQ.out).mono ?_
      rintro e v7 ⟨rfl, hb⟩
      have HQ := Lib.hid (HQ.out.on hb)
      clear hb c0 c1 c2 d0 d1 d2 d3 d4
      obtain ⟨c0, c1, c2, d0, d1, d2, d3, d4⟩ := lqC HQ.out
      go_wp2_with fail
      refine (drawIB a0 len0 cap0 z0 _ (w0.below HQ.out.low w0.apart)).mono ?_
      rintro e v9 ⟨G, ga, gn, gc, ys, q2, rfl, hI2, hgc, hgn, hb⟩
      have hbx := box_b v9 (.cells #[.int .i64 G, .slice ga gn gc, .int .i64 q2] 28)
      have HG : Hid (Bx (v9.alloc (.cells #[.int .i64 G, .slice ga gn gc, .int .i64 q2] 28)) v9.heap.size [.int .i64 G, .slice ga gn gc, .int .i64 q2] ∧ Ints (v9.alloc (.cells #[.int .i64 G, .slice ga gn gc, .int .i64 q2] 28)) ga gn ys) := Lib.hid ⟨Bx.new v9 _ _, hI2.on hbx⟩
      have HQ := Lib.hid ((HQ.out.on hb).on hbx)
      have HGC := Lib.hid hgc
      clear hb hbx hI2 hgn hgc c0 c1 c2 d0 d1 d2 d3 d4
      obtain ⟨V9, hV9⟩ : ∃ y_, v9.alloc (.cells #[.int .i64 G, .slice ga gn gc, .int .i64 q2] 28) = y_ := ⟨_, rfl⟩
      obtain ⟨Z9, hZ9⟩ : ∃ y_, v9.heap.size = y_ := ⟨_, rfl⟩
      rw [hV9] at HQ HG
      rw [hZ9] at HG
      obtain ⟨c0, c1, c2, d0, d1, d2, d3, d4⟩ := lqC HQ.out
      obtain ⟨g0, g1, g2⟩ := HG.out.1.three0
      go_wp2_with fail
      (try rw [hV9])
      (try rw [hZ9])
      simp only [List.append]
      clear hV9 hZ9 c0 c1 c2 d0 d1 d2 d3 d4 g0 g1 g2
      have HR : Hid (LR w X Y F ta tn tc xs r k x n s u Z9 G ga gn gc ys q2 V9) := Lib.hid ⟨HQ.out, HG.out.1, HG.out.2⟩
      have IP9 : Hid (∀ W, Hid (LR w X Y F ta tn tc xs r k x n s u Z9 G ga gn gc ys q2 W) → Calls Tryz.prog 17 #[.agg #[.int .i64 F, .slice ta tn tc, .int .i64 r], .agg #[.int .i64 k, .int .i64 x, .int .i64 n, .int .i64 s, .int .i64 u]] W fun e w' => e = .returned (.bool false) ∧ Below W.heap.size W w') := Lib.hid (fun W hW => IP.out W hW.out.lq)
      have IB9 : Hid (∀ W, Hid (LR w X Y F ta tn tc xs r k x n s u Z9 G ga gn gc ys q2 W) → Calls Tryz.prog 18 #[.agg #[.int .i64 G, .slice ga gn gc, .int .i64 q2]] W fun e w' => e = .returned (.bool (baB q2 G ys)) ∧ Below W.heap.size W w') := Lib.hid (fun W hW => ibas_any q2 G ys ga gn gc W hW.out.gi HGC.out)
      have SB9 : Hid (∀ W, Hid (LR w X Y F ta tn tc xs r k x n s u Z9 G ga gn gc ys q2 W) → Calls Tryz.prog 19 #[.agg #[.int .i64 G, .slice ga gn gc, .int .i64 q2]] W fun e w' => e = .returned (.bool (baB q2 G ys)) ∧ Below W.heap.size W w') := Lib.hid (fun W hW => sbas_any q2 G ys ga gn gc W hW.out.gi)
      obtain ⟨bb, hbb⟩ : ∃ y_, baB q2 G ys = y_ := ⟨_, rfl⟩
      rw [hbb] at IB9 SB9
      obtain ⟨c0, c1, c2, d0, d1, d2, d3, d4, g0, g1, g2, -⟩ := lrS HR.out
      clear hbb HG HQ
      go_region_held3 (fun W9 => W9.cell? ⟨X, 0, none⟩ = some (.int .i64 F) ∧ W9.cell? ⟨X, 1, none⟩ = some (.slice ta tn tc) ∧ W9.cell? ⟨X, 2, none⟩ = some (.int .i64 r) ∧ W9.cell? ⟨Y, 0, none⟩ = some (.int .i64 k) ∧ W9.cell? ⟨Y, 1, none⟩ = some (.int .i64 x) ∧ W9.cell? ⟨Y, 2, none⟩ = some (.int .i64 n) ∧ W9.cell? ⟨Y, 3, none⟩ = some (.int .i64 s) ∧ W9.cell? ⟨Y, 4, none⟩ = some (.int .i64 u) ∧ W9.cell? ⟨Z9, 0, none⟩ = some (.int .i64 G) ∧ W9.cell? ⟨Z9, 1, none⟩ = some (.slice ga gn gc) ∧ W9.cell? ⟨Z9, 2, none⟩ = some (.int .i64 q2) ∧ Hid (LR w X Y F ta tn tc xs r k x n s u Z9 G ga gn gc ys q2 W9))
        (first
          | (go_split_ands; with_reducible exact lrS (Hid.out (by with_reducible assumption)))
          | (go_split_ands; with_reducible exact lrS (LR.on (Hid.out (by with_reducible assumption)) hb))
          | (go_split_ands; with_reducible exact lrS (LR.drew (Hid.out (by with_reducible assumption))))
          | fail)
        (first
          | (go_split_ands; go_at_call 17; ((with_reducible refine (IP9.out _ (by with_reducible assumption)).mono ?_); rintro e w' ⟨rfl, hb⟩))
          | (go_split_ands; go_at_call 18; ((with_reducible refine (IB9.out _ (by with_reducible assumption)).mono ?_); rintro e w' ⟨rfl, hb⟩))
          | (go_split_ands; go_at_call 19; ((with_reducible refine (SB9.out _ (by with_reducible assumption)).mono ?_); rintro e w' ⟨rfl, hb⟩))
          | fail)
      all_goals
        go_split_ands
        have HR9 : Hid (LR w X Y F ta tn tc xs r k x n s u Z9 G ga gn gc ys q2 w') := by with_reducible assumption
        clear HR c0 c1 c2 d0 d1 d2 d3 d4 g0 g1 g2
        obtain ⟨c0, c1, c2, d0, d1, d2, d3, d4, -⟩ := lrS HR9.out
        have HQ := Lib.hid HR9.out.lq
        go_wp2_with fail
        go_ret
        exact ⟨rfl, HQ.out.low⟩

end Go.Proofs.YtnppkdnmkhoeeaaGreat
