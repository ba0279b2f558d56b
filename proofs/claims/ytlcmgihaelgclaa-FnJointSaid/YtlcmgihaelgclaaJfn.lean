/- The law on the joint table and the chances of two lives. (Written by wip/gen/jfn.py.) -/
import Derived.Test.YtlcmgihaelgclaaJpd
import Derived.Test.YtlcmgihaelgclaaJpj
import Derived.Test.YtlcmgihaelgclaaDrj
import Derived.Deep.CutRange
namespace Go.Proofs.Ytlcmgihaelgclaa
open Go.ChangeShapes Go.WideShapes Go.ChangeAt Go.RowKit
set_option linter.unusedVariables false
set_option maxRecDepth 100000

/-- a table in its box -/
structure T1 (T : Nat) (F : Int) (ta : Option Addr) (tn tc : Nat) (xs : List Int) (w W : World) : Prop where
  low : Below w.heap.size w W
  bt : Bx W T [.int .i64 F, .slice ta tn tc]
  ii : Ints W ta tn xs

theorem T1.on {T : Nat} {F : Int} {ta : Option Addr} {tn tc : Nat} {xs : List Int} {w W W' : World} (h : T1 T F ta tn tc xs w W) (hb : Below W.heap.size W W') : T1 T F ta tn tc xs w W' := ⟨h.low.trans (hb.mono h.low.size), h.bt.on hb, h.ii.on hb⟩

theorem T1.new {F : Int} {ta : Option Addr} {tn tc : Nat} {xs : List Int} {w W : World} {ty : TypeId} (hl : Below w.heap.size w W) (hi : Ints W ta tn xs) : T1 W.heap.size F ta tn tc xs w (W.alloc (.cells #[.int .i64 F, .slice ta tn tc] ty)) := ⟨hl.trans ((box_b _ _).mono hl.size), Bx.new W _ _, hi.on (box_b _ _)⟩

theorem T1.two {F : Int} {ta : Option Addr} {tn tc : Nat} {xs : List Int} {G : Int} {ua : Option Addr} {un uc : Nat} {ys : List Int} {w W : World} {t1 t2 : TypeId} (hl : Below w.heap.size w W) (h1 : Ints W ta tn xs) (h2 : Ints W ua un ys) : T1 W.heap.size F ta tn tc xs w ((W.alloc (.cells #[.int .i64 F, .slice ta tn tc] t1)).alloc (.cells #[.int .i64 G, .slice ua un uc] t2)) ∧ T1 (W.heap.size + 1) G ua un uc ys w ((W.alloc (.cells #[.int .i64 F, .slice ta tn tc] t1)).alloc (.cells #[.int .i64 G, .slice ua un uc] t2)) := by
  have hq := box_b W (.cells #[.int .i64 F, .slice ta tn tc] t1)
  have hx := T1.new (F := G) (tc := uc) (ty := t2) (hl.trans (hq.mono hl.size)) (h2.on hq)
  rw [World.size_alloc] at hx
  exact ⟨(T1.new hl h1).on (box_b _ _), hx⟩

theorem two_same (p1 p2 : Prop) (h1 : p1) (h2 : p2) : p1 ∧ p2 := ⟨h1, h2⟩

/-- at least one of them lives as soon as both do -/
theorem both_le_one {A B C D : Int} (a0 : 0 ≤ A) (a1 : A ≤ B) (b0 : 1 ≤ B) (c0 : 0 ≤ C) (c1 : C ≤ D) (d0 : 1 ≤ D) : ∃ P Q R S, A * C / gcdI (A * C) (B * D) = P ∧ B * D / gcdI (A * C) (B * D) = Q ∧ (B * D - (B - A) * (D - C)) / gcdI (B * D - (B - A) * (D - C)) (B * D) = R ∧ B * D / gcdI (B * D - (B - A) * (D - C)) (B * D) = S ∧ 0 ≤ P ∧ P ≤ Q ∧ 0 ≤ R ∧ R ≤ S ∧ P * S ≤ R * Q := by
  have e1 : 0 ≤ A * C := Int.mul_nonneg a0 c0
  have e2 : A * C ≤ B * D := Int.mul_le_mul a1 c1 c0 (by omega)
  have e3 : 1 ≤ B * D := by have := Int.mul_le_mul b0 d0 (show (0 : Int) ≤ 1 by omega) (by omega); omega
  have e5 : 0 ≤ (B - A) * (D - C) := Int.mul_nonneg (by omega) (by omega)
  have e6 : (B - A) * (D - C) = B * D - A * D - B * C + A * C := by rw [Int.sub_mul, Int.mul_sub, Int.mul_sub]; omega
  have e7 : A * C ≤ A * D := Int.mul_le_mul_of_nonneg_left c1 a0
  have e8 : A * C ≤ B * C := Int.mul_le_mul_of_nonneg_right a1 c0
  obtain ⟨U, hU⟩ : ∃ y_, A * C = y_ := ⟨_, rfl⟩
  obtain ⟨M, hM⟩ : ∃ y_, B * D = y_ := ⟨_, rfl⟩
  obtain ⟨N, hN⟩ : ∃ y_, (B - A) * (D - C) = y_ := ⟨_, rfl⟩
  simp only [hU, hM, hN] at e1 e2 e3 e5 e6 e7 e8 ⊢
  obtain ⟨R0, hR⟩ : ∃ y_, M - N = y_ := ⟨_, rfl⟩
  rw [hR]
  have r0 : 0 ≤ R0 := by omega
  have r1 : R0 ≤ M := by omega
  have r2 : U ≤ R0 := by omega
  obtain ⟨p, q, G, h1, h2, h3, h4, h5, h6, h7, h8, _⟩ := gcd_parts U M e1 (by omega)
  obtain ⟨r, s, K, k1, k2, k3, k4, k5, k6, k7, k8, _⟩ := gcd_parts R0 M r0 (by omega)
  have h9 : q * G = M := by
    have := Int.mul_ediv_add_emod M q
    rw [h5, h6] at this
    omega
  have k9 : s * K = M := by
    have := Int.mul_ediv_add_emod M s
    rw [k5, k6] at this
    omega
  refine ⟨p, q, r, s, h1, h2, k1, k2, h3, ?_, k3, ?_, ?_⟩
  · refine Int.le_of_mul_le_mul_right (a := G) ?_ (by omega)
    rw [h7, h9]; exact e2
  · refine Int.le_of_mul_le_mul_right (a := K) ?_ (by omega)
    rw [k7, k9]; exact r1
  · have hgk : 0 < G * K := Int.mul_pos (by omega) (by omega)
    refine Int.le_of_mul_le_mul_right (a := G * K) ?_ hgk
    have x1 : p * s * (G * K) = U * M := by rw [← h7, ← k9]; simp only [Int.mul_left_comm, Int.mul_comm]
    have x2 : r * q * (G * K) = R0 * M := by rw [← k7, ← h9]; simp only [Int.mul_left_comm, Int.mul_comm]
    rw [x1, x2]
    exact Int.mul_le_mul_of_nonneg_right r2 (by omega)

theorem joint_facts {f : Int} {xs : List Int} {x g : Int} {ys : List Int} {y n : Int} (h : twE f xs x g ys y (inB n 0 150) = 0) : ∃ P Q R S, boN f xs x g ys y n = P ∧ boD f xs x g ys y n = Q ∧ onN f xs x g ys y n = R ∧ onD f xs x g ys y n = S ∧ 0 ≤ P ∧ P ≤ Q ∧ 0 ≤ R ∧ R ≤ S ∧ P * S ≤ R * Q := by
  obtain ⟨⟨a0, a1⟩, ⟨b0, b1⟩, ⟨c0, c1⟩, ⟨d0, d1⟩, ⟨p1, p2⟩, ⟨q1, q2⟩⟩ := two_parts h rfl rfl rfl rfl
  rw [p1, p2, q1, q2]
  exact both_le_one a0 a1 b0 c0 c1 d0

/-- what the law asks of a joint table -/
theorem jt_facts {f : Int} {xs : List Int} {x g : Int} {ys : List Int} {y : Int} (h : twE f xs x g ys y true = 0) : jpF f xs x g ys y = x ∧ ltB x (jpY f xs x g ys y) = true ∧ LTab f xs ∧ f ≤ x ∧ 0 ≤ f ∧ x ≤ 100 ∧ (jpY f xs x g ys y).length ≤ 121 ∧ ∀ k : Nat, 0 ≤ (jpY f xs x g ys y).getD k 0 ∧ (jpY f xs x g ys y).getD k 0 ≤ lvs f xs (x + k) ∧ lvs f xs (x + k) ≤ 1000000 := by
  have hd := (tw_iff.1 h).1
  have hy : jpY f xs x g ys y = jtL f xs x g ys y := by simp [jpY, h]
  have hl := hd.jn_le
  refine ⟨by simp [jpF, h], by rw [hy]; exact ltB_t hd.ltab, hd.t, hd.x0, hd.t.1.1, hd.x1, by rw [hy, jtL_len]; omega, fun k => ?_⟩
  rw [hy, hd.get]
  exact ⟨(hd.jv_bd k).1, (hd.jv_bd k).2, (hd.t.lvs_bd _).2⟩

set_option maxHeartbeats 16000000 in
theorem fnJoint_walk (a0 : Option Addr) (len0 cap0 : Nat) (z0 : List Int) (w : World) (w0 : IsRow .u8 w a0 len0 cap0 z0) :
    Calls Try.prog 3 #[.slice a0 len0 cap0] w fun e w' => e = .returned (.bool true) ∧ Below w.heap.size w w' := by
  by_cases hbig : (4096 : Int) < len0
  · go_enter Try.func3, Try.ntmps3
    go_wp2_with (go_at_call 11; refine (bigT_any _ _ _ _).mono ?_; rintro e w' ⟨rfl, rfl⟩)
    go_ret
    exact ⟨rfl, Below.refl _ _⟩
  have HR := Lib.hid w0
  clear w0
  go_enter Try.func3, Try.ntmps3
  go_wp2_with (go_at_call 11; refine (bigT_any _ _ _ _).mono ?_; rintro e w' ⟨rfl, rfl⟩)
  refine (drawJT _ _ _ _ _ HR.out).mono ?_
  rintro e w1 ⟨F, ta, tn, tc, xs, x, G, ua, un, uc, ys, y, rfl, ⟨hI1, hI2, hb⟩, htc, huc⟩
  obtain ⟨hp, hq⟩ := T1.two (w := w) (W := w1) (F := F) (tc := tc) (G := G) (uc := uc) (t1 := 26) (t2 := 26) hb hI1 hI2
  have H1 := Lib.hid hp
  have H2 := Lib.hid hq
  obtain ⟨t0, t1⟩ := hp.bt.two
  obtain ⟨u0, u1⟩ := hq.bt.two
  clear hp hq hI1 hI2
  clear hb
  go_wp2_with fail
  obtain ⟨T, hT⟩ : ∃ T, w1.heap.size = T := ⟨_, rfl⟩
  rw [hT] at H1 H2 t0 t1 u0 u1
  (try rw [hT])
  obtain ⟨U, hU⟩ : ∃ U, T + 1 = U := ⟨_, rfl⟩
  rw [hU] at H2 u0 u1
  (try rw [hU])
  generalize ((w1.alloc (.cells #[.int .i64 F, .slice ta tn tc] 26)).alloc (.cells #[.int .i64 G, .slice ua un uc] 26)) = w2 at H1 H2 t0 t1 u0 u1 ⊢
  clear hT hU
  have HE1 := Lib.hid (fun e => jt_facts (f := F) (xs := xs) (x := x) (g := G) (ys := ys) (y := y) e)
  obtain ⟨A, hA⟩ : ∃ A, jpF F xs x G ys y = A := ⟨_, rfl⟩
  obtain ⟨Y, hY⟩ : ∃ Y, jpY F xs x G ys y = Y := ⟨_, rfl⟩
  obtain ⟨E1, hE⟩ : ∃ E, twE F xs x G ys y true = E := ⟨_, rfl⟩
  have IJ := Lib.hid (fun W (h1 : Ints W ta tn xs) (h2 : Ints W ua un ys) => ijt_any F xs ta tn tc x G ys ua un uc y W h1 h2 htc huc)
  have SJ := Lib.hid (fun W (h1 : Ints W ta tn xs) (h2 : Ints W ua un ys) => sjt_any F xs ta tn tc x G ys ua un uc y W h1 h2)
  rw [hA, hY, hE] at IJ HE1
  rw [show jtF F xs x G ys y = A from hA, show jtY F xs x G ys y = Y from hY, hE] at SJ
  clear hA hY hE
  refine (IJ.out _ H1.out.ii H2.out.ii).mono ?_
  rintro e w3 ⟨ja, jm, jc, rfl, hT, hjc, hb⟩
  have H1 := Lib.hid (H1.out.on hb)
  have H2 := Lib.hid (H2.out.on hb)
  have hl := H1.out.low
  have H3 : Hid (T1 w3.heap.size A ja jm jc Y w (w3.alloc (.cells #[.int .i64 A, .slice ja jm jc] 26))) := Lib.hid (T1.new hl hT.ints)
  have hbx := box_b w3 (.cells #[.int .i64 A, .slice ja jm jc] 26)
  have H1 := Lib.hid (H1.out.on hbx)
  have H2 := Lib.hid (H2.out.on hbx)
  have hjm : jm ≤ 4096 := hT.2.1
  clear hb hT hbx hl t0 t1 u0 u1 IJ
  obtain ⟨t0, t1⟩ := H1.out.bt.two
  obtain ⟨u0, u1⟩ := H2.out.bt.two
  go_wp2_with fail
  obtain ⟨J, hJ⟩ : ∃ J, w3.heap.size = J := ⟨_, rfl⟩
  rw [hJ] at H3
  (try rw [hJ])
  generalize (w3.alloc (.cells #[.int .i64 A, .slice ja jm jc] 26)) = w4 at H1 H2 H3 t0 t1 u0 u1 ⊢
  clear hJ
  refine (SJ.out _ H1.out.ii H2.out.ii).mono ?_
  rintro e w5 ⟨ma, mn, mc, rfl, hT, hb⟩
  have H1 := Lib.hid (H1.out.on hb)
  have H3 := Lib.hid (H3.out.on hb)
  have hl := H1.out.low
  have H4 : Hid (T1 w5.heap.size A ma mn mc Y w (w5.alloc (.cells #[.int .i64 A, .slice ma mn mc] 26))) := Lib.hid (T1.new hl hT.ints)
  have hbx := box_b w5 (.cells #[.int .i64 A, .slice ma mn mc] 26)
  have H1 := Lib.hid (H1.out.on hbx)
  have H3 := Lib.hid (H3.out.on hbx)
  clear hb hT hbx hl t0 t1 u0 u1 SJ H2
  go_wp2_with fail
  obtain ⟨M, hM⟩ : ∃ M, w5.heap.size = M := ⟨_, rfl⟩
  rw [hM] at H4
  (try rw [hM])
  generalize (w5.alloc (.cells #[.int .i64 A, .slice ma mn mc] 26)) = w6 at H1 H3 H4 ⊢
  clear hM
  refine (drawBA _ _ _ _ _ (HR.out.below H1.out.low HR.out.apart)).mono ?_
  rintro e w7 ⟨F2, va, vn, vc, us, x2, G2, oa, on, oc, vs, y2, n, rfl, ⟨hI1, hI2, hb⟩, hvc, hoc⟩
  have hl := H1.out.low.trans (hb.mono H1.out.low.size)
  obtain ⟨hp, hq⟩ := T1.two (w := w) (W := w7) (F := F2) (tc := vc) (G := G2) (uc := oc) (t1 := 26) (t2 := 26) hl hI1 hI2
  have hbx := (hb.trans ((box_b w7 (.cells #[.int .i64 F2, .slice va vn vc] 26)).mono hb.size)).trans ((box_b (w7.alloc (.cells #[.int .i64 F2, .slice va vn vc] 26)) (.cells #[.int .i64 G2, .slice oa on oc] 26)).mono (by simp only [World.size_alloc]; have := hb.size; omega))
  have H1 := Lib.hid (H1.out.on hbx)
  have H3 := Lib.hid (H3.out.on hbx)
  have H4 := Lib.hid (H4.out.on hbx)
  have H5 := Lib.hid hp
  have H6 := Lib.hid hq
  clear hb hbx hl hp hq hI1 hI2
  obtain ⟨v0, v1⟩ := H5.out.bt.two
  obtain ⟨o0, o1⟩ := H6.out.bt.two
  go_wp2_with fail
  obtain ⟨V, hV⟩ : ∃ V, w7.heap.size = V := ⟨_, rfl⟩
  rw [hV] at H5 H6 v0 v1 o0 o1
  (try rw [hV])
  obtain ⟨O, hO⟩ : ∃ O, V + 1 = O := ⟨_, rfl⟩
  rw [hO] at H6 o0 o1
  (try rw [hO])
  generalize ((w7.alloc (.cells #[.int .i64 F2, .slice va vn vc] 26)).alloc (.cells #[.int .i64 G2, .slice oa on oc] 26)) = w8 at H1 H3 H4 H5 H6 v0 v1 o0 o1 ⊢
  clear hV hO
  have HE2 := Lib.hid (fun e => joint_facts (f := F2) (xs := us) (x := x2) (g := G2) (ys := vs) (y := y2) (n := n) e)
  obtain ⟨P, hP⟩ : ∃ y_, boN F2 us x2 G2 vs y2 n = y_ := ⟨_, rfl⟩
  obtain ⟨Q, hQ⟩ : ∃ y_, boD F2 us x2 G2 vs y2 n = y_ := ⟨_, rfl⟩
  obtain ⟨R, hR⟩ : ∃ y_, onN F2 us x2 G2 vs y2 n = y_ := ⟨_, rfl⟩
  obtain ⟨S, hS⟩ : ∃ y_, onD F2 us x2 G2 vs y2 n = y_ := ⟨_, rfl⟩
  obtain ⟨E2, hE⟩ : ∃ y_, twE F2 us x2 G2 vs y2 (inB n 0 150) = y_ := ⟨_, rfl⟩
  have B1 := Lib.hid (fun W (h1 : Ints W va vn us) (h2 : Ints W oa on vs) => iboth_any F2 us va vn vc x2 G2 vs oa on oc y2 n W h1 h2 hvc hoc)
  have B2 := Lib.hid (fun W (h1 : Ints W va vn us) (h2 : Ints W oa on vs) => sboth_any F2 us va vn vc x2 G2 vs oa on oc y2 n W h1 h2)
  have O1 := Lib.hid (fun W (h1 : Ints W va vn us) (h2 : Ints W oa on vs) => ione_any F2 us va vn vc x2 G2 vs oa on oc y2 n W h1 h2 hvc hoc)
  have O2 := Lib.hid (fun W (h1 : Ints W va vn us) (h2 : Ints W oa on vs) => sone_any F2 us va vn vc x2 G2 vs oa on oc y2 n W h1 h2)
  unfold IIIPost8 at B1 B2 O1 O2
  rw [hP, hQ, hE] at B1 B2
  rw [hR, hS, hE] at O1 O2
  rw [hP, hQ, hR, hS, hE] at HE2
  clear hP hQ hR hS hE
  refine (B1.out _ H5.out.ii H6.out.ii).mono ?_
  rintro e w9 ⟨rfl, hb⟩
  have H1 := Lib.hid (H1.out.on hb)
  have H3 := Lib.hid (H3.out.on hb)
  have H4 := Lib.hid (H4.out.on hb)
  have H5 := Lib.hid (H5.out.on hb)
  have H6 := Lib.hid (H6.out.on hb)
  clear hb
  clear v0 v1 o0 o1
  obtain ⟨v0, v1⟩ := H5.out.bt.two
  obtain ⟨o0, o1⟩ := H6.out.bt.two
  go_wp2_with fail
  refine (B2.out _ H5.out.ii H6.out.ii).mono ?_
  rintro e w10 ⟨rfl, hb⟩
  have H1 := Lib.hid (H1.out.on hb)
  have H3 := Lib.hid (H3.out.on hb)
  have H4 := Lib.hid (H4.out.on hb)
  have H5 := Lib.hid (H5.out.on hb)
  have H6 := Lib.hid (H6.out.on hb)
  clear hb
  clear v0 v1 o0 o1
  obtain ⟨v0, v1⟩ := H5.out.bt.two
  obtain ⟨o0, o1⟩ := H6.out.bt.two
  go_wp2_with fail
  refine (O1.out _ H5.out.ii H6.out.ii).mono ?_
  rintro e w11 ⟨rfl, hb⟩
  have H1 := Lib.hid (H1.out.on hb)
  have H3 := Lib.hid (H3.out.on hb)
  have H4 := Lib.hid (H4.out.on hb)
  have H5 := Lib.hid (H5.out.on hb)
  have H6 := Lib.hid (H6.out.on hb)
  clear hb
  clear v0 v1 o0 o1
  obtain ⟨v0, v1⟩ := H5.out.bt.two
  obtain ⟨o0, o1⟩ := H6.out.bt.two
  go_wp2_with fail
  refine (O2.out _ H5.out.ii H6.out.ii).mono ?_
  rintro e w12 ⟨rfl, hb⟩
  have H1 := Lib.hid (H1.out.on hb)
  have H3 := Lib.hid (H3.out.on hb)
  have H4 := Lib.hid (H4.out.on hb)
  have H5 := Lib.hid (H5.out.on hb)
  have H6 := Lib.hid (H6.out.on hb)
  clear hb
  clear v0 v1 o0 o1 B1 B2 O1 O2 H5 H6
  obtain ⟨j0, j1⟩ := H3.out.bt.two
  obtain ⟨m0, m1⟩ := H4.out.bt.two
  go_wp2_with fail
  refine (likeT_same A Y _ _ _ _ _ _ _ H3.out.ii H4.out.ii).mono ?_
  rintro e w13 ⟨rfl, hb⟩
  have H1 := Lib.hid (H1.out.on hb)
  have H3 := Lib.hid (H3.out.on hb)
  clear hb
  clear H4 j0 j1 m0 m1
  go_upto_region 13 with fail
  go_cut [166] from 148 to 166 (fun v wx => v = .bool false ∧ wx = w13)
  case first =>
    by_cases hz : E2 = 0
    case neg =>
      have hz1 : (E2 == 0) = false := by simpa using hz
      clear HE2 hz
      go_wp2_with fail
      go_meet
      case rel => exact ⟨rfl, rfl⟩
    subst hz
    obtain ⟨P', Q', R', S', e1, e2, e3, e4, p0, p1, r0, r1, hps⟩ := HE2.out rfl
    subst e1 e2 e3 e4
    by_cases hq : Q ≤ 1000000000
    case neg =>
      clear HE2 hps
      go_wp2_with fail
      go_meet
      case rel => exact ⟨rfl, rfl⟩
    by_cases hs : S ≤ 1000000000
    case neg =>
      clear HE2 hps
      go_wp2_with fail
      go_meet
      case rel => exact ⟨rfl, rfl⟩
    have m1 : 0 ≤ P * S := Int.mul_nonneg p0 (by omega)
    have m2 : P * S ≤ 1000000000000000000 := by have := Int.mul_le_mul (show P ≤ 1000000000 by omega) hs (show 0 ≤ S by omega) (show (0 : Int) ≤ 1000000000 by omega); omega
    have m3 : R * Q ≤ 1000000000000000000 := by have := Int.mul_le_mul (show R ≤ 1000000000 by omega) hq (show 0 ≤ Q by omega) (show (0 : Int) ≤ 1000000000 by omega); omega
    obtain ⟨u, hu⟩ : ∃ y_, P * S = y_ := ⟨_, rfl⟩
    obtain ⟨v, hv⟩ : ∃ y_, R * Q = y_ := ⟨_, rfl⟩
    rw [hu] at m1 m2 hps
    rw [hv] at m3 hps
    have q1 : IntKind.i64.wrap (P * S) = u := by rw [hu]; exact IntWalk.i64_in _ (by omega)
    have q2 : IntKind.i64.wrap (R * Q) = v := by rw [hv]; exact IntWalk.i64_in _ (by omega)
    have q3 : ¬ v < u := by omega
    clear HE2 hu hv
    go_wp2_with fail
    go_meet
    case rel => exact ⟨rfl, rfl⟩
  case rest =>
    obtain ⟨rfl, rfl⟩ := hcut
    clear HE2
    by_cases hz : E1 = 0
    case neg =>
      have hz1 : (E1 != 0) = true := by simpa using hz
      clear HE1 hz
      go_wp2_with fail
      go_ret
      exact ⟨rfl, H1.out.low⟩
    subst hz
    obtain ⟨hA, hlt, ht, x0, f0, x1, hyl, hyk⟩ := HE1.out rfl
    subst hA
    have HLT := Lib.hid hlt
    have HYK := Lib.hid hyk
    have HLN := Lib.hid H3.out.ii.len
    have hjl : jm ≤ 121 := by have := HLN.out; omega
    have LA : Hid (∀ (k : Nat) L W, A + k ≤ 150 → lvs F xs (A + k) = L → Hid (T1 T F ta tn tc xs w W) → Calls Try.prog 21 #[.agg #[.int .i64 F, .slice ta tn tc], .int .i64 (A + k)] W fun e w' => e = .returned (.tuple #[.int .i64 L, .int .i64 0]) ∧ Below W.heap.size W w') :=
      Lib.hid (fun k L W hk hL hW => (la_impl F xs ta tn tc (A + k) W hW.out.ii htc).mono fun e w' ⟨he, hb⟩ => ⟨by
        have ha : ageE F xs (A + k) = 0 := ageE_iff.2 ⟨ht, by omega, hk⟩
        rw [he, ha]; simp [laV, ha, hL], hb⟩)
    obtain ⟨j0, j1⟩ := H3.out.bt.two
    clear HE1 hlt hyk ht hyl
    go_wp2_with fail
    go_loopw [28] (fun i wr => ∃ k : Nat, k ≤ jm ∧ i = .int .i64 k ∧ Hid (T1 T F ta tn tc xs w wr) ∧ Hid (T1 J A ja jm jc Y w wr)) (fun i _ => (jm - intOf i).toNat)
    case atStart => exact ⟨0, by omega, rfl, H1, H3⟩
    case round =>
      clear H1 H3 j0 j1
      obtain ⟨k, hk, rfl, H1, H3⟩ := hrel
      obtain ⟨j0, j1⟩ := H3.out.bt.two
      obtain ⟨t0, t1⟩ := H1.out.bt.two
      have q1 : IntKind.i64.wrap (A + (k : Int)) = A + (k : Int) := IntWalk.i64_in _ (by omega)
      by_cases hlt : (k : Int) < jm
      case neg =>
        clear LA HYK
        go_wp2_with fail
        refine (isL_impl A Y _ _ _ _ H3.out.ii hjc).mono ?_
        rintro e w21 ⟨rfl, hb⟩
        rw [HLT.out]
        have H3 := Lib.hid (H3.out.on hb)
        clear hb j0 j1
        obtain ⟨j0, j1⟩ := H3.out.bt.two
        go_wp2_with fail
        go_ret
        exact ⟨rfl, H3.out.low⟩
      by_cases h150 : 150 < A + (k : Int)
      · clear LA HYK
        go_wp2_with fail
        refine (isL_impl A Y _ _ _ _ H3.out.ii hjc).mono ?_
        rintro e w21 ⟨rfl, hb⟩
        rw [HLT.out]
        have H3 := Lib.hid (H3.out.on hb)
        clear hb j0 j1
        obtain ⟨j0, j1⟩ := H3.out.bt.two
        go_wp2_with fail
        go_ret
        exact ⟨rfl, H3.out.low⟩
      · obtain ⟨y0, y1, y2⟩ := HYK.out k
        obtain ⟨L, hL⟩ : ∃ y_, lvs F xs (A + k) = y_ := ⟨_, rfl⟩
        obtain ⟨N, hN⟩ : ∃ y_, Y.getD k 0 = y_ := ⟨_, rfl⟩
        rw [hL] at y1 y2
        rw [hN] at y0 y1
        have CL := Lib.hid (fun W hW => LA.out k L W (by omega) hL hW)
        have HN := Lib.hid hN
        clear hL hN
        go_wp2_with fail
        with_reducible refine (CL.out _ H1).mono ?_
        rintro e w15 ⟨rfl, hb⟩
        have H1 := Lib.hid (H1.out.on hb)
        have H3 := Lib.hid (H3.out.on hb)
        clear hb t0 t1 j0 j1
        obtain ⟨j0, j1⟩ := H3.out.bt.two
        obtain ⟨b, o, hja, hb, hc⟩ := H3.out.ii.at (by omega)
        subst hja
        have hx := hc k (by omega)
        rw [HN.out] at hx
        clear hc hb CL HN
        go_wp2_with fail
        go_roundw
        case rel => exact ⟨k + 1, by omega, by go_num, H1, H3⟩
        case measure => simp [intOf]; omega

end Go.Proofs.Ytlcmgihaelgclaa
