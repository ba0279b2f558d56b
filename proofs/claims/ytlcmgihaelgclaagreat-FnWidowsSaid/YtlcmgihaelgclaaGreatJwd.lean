/- The law on the annuities of two lives. (Written by wip/gen/jwd.py.) -/
import Derived.Test.YtlcmgihaelgclaaGreatJpe
import Derived.Test.YtlcmgihaelgclaaGreatJpf
import Derived.Test.YtlcmgihaelgclaaGreatDrk
namespace Go.Proofs.YtlcmgihaelgclaaGreat
open Go.ChangeShapes Go.WideShapes Go.ChangeAt Go.RowKit
set_option linter.unusedVariables false
set_option maxRecDepth 100000

/-- a table in its box -/
structure T1 (T : Nat) (F : Int) (ta : Option Addr) (tn tc : Nat) (xs : List Int) (w W : World) : Prop where
  low : Below w.heap.size w W
  bt : Bx W T [.int .i64 F, .slice ta tn tc]
  ii : Ints W ta tn xs

theorem T1.on {T : Nat} {F : Int} {ta : Option Addr} {tn tc : Nat} {xs : List Int} {w W W' : World} (h : T1 T F ta tn tc xs w W) (hb : Below W.heap.size W W') : T1 T F ta tn tc xs w W' := ⟨h.low.trans (hb.mono h.low.size), h.bt.on hb, h.ii.on hb⟩

theorem T1.new {F : Int} {ta : Option Addr} {tn tc : Nat} {xs : List Int} {w W : World} {ty : TypeId} (hl : Below w.heap.size w W) (hi : Ints W ta tn xs) : T1 W.heap.size F ta tn tc xs w (W.alloc (.cells #[.int .i64 F, .slice ta tn tc] ty)) := ⟨hl.trans ((box_b _ _).mono hl.size), Bx.new W _ _, hi.on (box_b _ _)⟩

theorem T1.two {F : Int} {ta : Option Addr} {tn tc : Nat} {xs : List Int} {G : Int} {ua : Option Addr} {un uc : Nat} {ys : List Int} {w W : World} {t1 t2 : TypeId} (hl : Below w.heap.size w W) (h1 : Ints W ta tn xs) (h2 : Ints W ua un ys) : T1 W.heap.size F ta tn tc xs w ((W.alloc (.cells #[.int .i64 F, .slice ta tn tc] t1)).alloc (.cells #[.int .i64 G, .slice ua un uc] t2)) ∧ T1 (W.heap.size + 1) G ua un uc ys w ((W.alloc (.cells #[.int .i64 F, .slice ta tn tc] t1)).alloc (.cells #[.int .i64 G, .slice ua un uc] t2)) := by
  have hq := box_b W (.cells #[.int .i64 F, .slice ta tn tc] t1)
  have hx := T1.new (F := G) (tc := uc) (ty := t2) (hl.trans (hq.mono hl.size)) (h2.on hq)
  rw [World.size_alloc] at hx
  exact ⟨(T1.new hl h1).on (box_b _ _), hx⟩

theorem mo_an {r f : Int} {xs : List Int} {x g : Int} {ys : List Int} {y z : Int} (h : moE r f xs x g ys y (inB z 1 1000000) = 0) : anE r f xs x (inB z 1 1000000) 0 = 0 ∧ anE r g ys y (inB z 1 1000000) 0 = 0 := by
  obtain ⟨hD, hr, hz, d1, d2⟩ := mo_iff.1 h
  have x1 := hD.x1
  have y1 := hD.y1
  exact ⟨anE_iff.2 ⟨coE_iff.2 ⟨hD.t, hr, hD.x0, by omega⟩, hz, by omega, by omega, d1⟩, anE_iff.2 ⟨coE_iff.2 ⟨hD.u, hr, hD.y0, hD.y1⟩, hz, by omega, by omega, d2⟩⟩

/-- what the law asks of the prices -/
theorem wid_facts {r f : Int} {xs : List Int} {x g : Int} {ys : List Int} {y z : Int} (h : moE r f xs x g ys y (inB z 1 1000000) = 0) : ∃ A B C : Int, lifeV r f xs x z = A ∧ lifeV r g ys y z = B ∧ jaV r f xs x g ys y z = C ∧ waV r f xs x g ys y z = B + 1 - C ∧ lastV r f xs x g ys y z = A + (B + 1 - C) ∧ (0 ≤ A ∧ A ≤ 152000001) ∧ (0 ≤ B ∧ B ≤ 152000001) ∧ (0 ≤ C ∧ C ≤ 152000001) ∧ anE r f xs x (inB z 1 1000000) 0 = 0 ∧ anE r g ys y (inB z 1 1000000) 0 = 0 ∧ twE f xs x g ys y true = 0 ∧ 0 ≤ wyN f xs x g ys y ∧ 1 ≤ wyD f xs x g ys y := by
  obtain ⟨hD, ⟨r0, r1⟩, ⟨z0, z1⟩, d1, d2⟩ := moDuo h
  obtain ⟨l1, l2, _⟩ := mo_life h
  obtain ⟨n1, n2⟩ := mo_an h
  have hw : waV r f xs x g ys y z = priceV r g ys y z + 1 - togV r f xs x g ys y z := by simp [waV, h]
  have ht : twE f xs x g ys y true = 0 := tw_iff.2 ⟨hD, rfl⟩
  have e1 := ex_pos hD.cl_u
  have e2 := ex_pos hD.cl_j
  have hB : 1 ≤ wyB f xs x g ys y := by unfold wyB; have := Int.mul_le_mul e1 e2 (show (0 : Int) ≤ 1 by omega) (by omega); omega
  have hA : 0 ≤ wyA f xs x g ys y := by unfold wyA; omega
  obtain ⟨p, q, G, h1, h2, h3, h4, _⟩ := gcd_parts (wyA f xs x g ys y) (wyB f xs x g ys y) hA hB
  refine ⟨_, _, _, l1, l2, by simp [jaV, h], hw, by simp [lastV, h, hw], price_bd hD.t r0 _ d1 z0 z1, price_bd hD.u r0 _ d2 z0 z1, tog_bd hD r0 z0 z1, n1, n2, ht, ?_, ?_⟩
  · simp only [wyN, ht, if_pos, h1]; exact h3
  · simp only [wyD, ht, if_pos, h2]; exact h4

set_option maxRecDepth 2000000 in
set_option maxHeartbeats 16000000 in
theorem fnWidows_walk (a0 : Option Addr) (len0 cap0 : Nat) (z0 : List Int) (w : World) (w0 : IsRow .u8 w a0 len0 cap0 z0) :
    Calls Tryz.prog 3 #[.slice a0 len0 cap0] w fun e w' => e = .returned (.bool true) ∧ Below w.heap.size w w' := by
  by_cases hbig : (4096 : Int) < len0
  · go_enter Tryz.func3, Tryz.ntmps3
    go_wp2_with (go_at_call 4; refine (bigI_any _ _ _ _).mono ?_; rintro e w' ⟨rfl, rfl⟩)
    go_ret
    exact ⟨rfl, Below.refl _ _⟩
  have HR := Lib.hid w0
  clear w0
  go_enter Tryz.func3, Tryz.ntmps3
  go_wp2_with (go_at_call 4; refine (bigI_any _ _ _ _).mono ?_; rintro e w' ⟨rfl, rfl⟩)
  refine (drawLA9 _ _ _ _ _ HR.out).mono ?_
  rintro e w1 ⟨F, ta, tn, tc, xs, x, G, ua, un, uc, ys, y, r, z, rfl, ⟨hI1, hI2, hb⟩, htc, huc, -, -⟩
  obtain ⟨hp, hq⟩ := T1.two (w := w) (W := w1) (F := F) (tc := tc) (G := G) (uc := uc) (t1 := 26) (t2 := 26) hb hI1 hI2
  have H1 := Lib.hid hp
  have H2 := Lib.hid hq
  obtain ⟨t0, t1⟩ := hp.bt.two
  obtain ⟨u0, u1⟩ := hq.bt.two
  clear hp hq hI1 hI2 hb
  go_wp2_with fail
  obtain ⟨T, hT⟩ : ∃ T, w1.heap.size = T := ⟨_, rfl⟩
  rw [hT] at H1 H2 t0 t1 u0 u1
  (try rw [hT])
  obtain ⟨U, hU⟩ : ∃ U, T + 1 = U := ⟨_, rfl⟩
  rw [hU] at H2 u0 u1
  (try rw [hU])
  generalize ((w1.alloc (.cells #[.int .i64 F, .slice ta tn tc] 26)).alloc (.cells #[.int .i64 G, .slice ua un uc] 26)) = w2 at H1 H2 t0 t1 u0 u1 ⊢
  clear hT hU
  have HE := Lib.hid (fun e => wid_facts (r := r) (f := F) (xs := xs) (x := x) (g := G) (ys := ys) (y := y) (z := z) e)
  obtain ⟨L, hL⟩ : ∃ y_, lastV r F xs x G ys y z = y_ := ⟨_, rfl⟩
  obtain ⟨W, hW⟩ : ∃ y_, waV r F xs x G ys y z = y_ := ⟨_, rfl⟩
  obtain ⟨J, hJ⟩ : ∃ y_, jaV r F xs x G ys y z = y_ := ⟨_, rfl⟩
  obtain ⟨N, hN⟩ : ∃ y_, wyN F xs x G ys y = y_ := ⟨_, rfl⟩
  obtain ⟨D, hD⟩ : ∃ y_, wyD F xs x G ys y = y_ := ⟨_, rfl⟩
  obtain ⟨E1, hE1⟩ : ∃ y_, moE r F xs x G ys y (inB z 1 1000000) = y_ := ⟨_, rfl⟩
  obtain ⟨E2, hE2⟩ : ∃ y_, twE F xs x G ys y true = y_ := ⟨_, rfl⟩
  obtain ⟨A, hA⟩ : ∃ y_, lifeV r F xs x z = y_ := ⟨_, rfl⟩
  obtain ⟨B, hB⟩ : ∃ y_, lifeV r G ys y z = y_ := ⟨_, rfl⟩
  obtain ⟨E3, hE3⟩ : ∃ y_, anE r F xs x (inB z 1 1000000) 0 = y_ := ⟨_, rfl⟩
  obtain ⟨E4, hE4⟩ : ∃ y_, anE r G ys y (inB z 1 1000000) 0 = y_ := ⟨_, rfl⟩
  have I1 := Lib.hid (fun V (h1 : Ints V ta tn xs) (h2 : Ints V ua un ys) => ila_any F xs ta tn tc x G ys ua un uc y r z V h1 h2 htc huc)
  have I2 := Lib.hid (fun V (h1 : Ints V ta tn xs) (h2 : Ints V ua un ys) => sla_any F xs ta tn tc x G ys ua un uc y r z V h1 h2)
  have I3 := Lib.hid (fun V (h1 : Ints V ta tn xs) (h2 : Ints V ua un ys) => iwa_any F xs ta tn tc x G ys ua un uc y r z V h1 h2 htc huc)
  have I4 := Lib.hid (fun V (h1 : Ints V ta tn xs) (h2 : Ints V ua un ys) => swa_any F xs ta tn tc x G ys ua un uc y r z V h1 h2)
  have I5 := Lib.hid (fun V (h1 : Ints V ta tn xs) (h2 : Ints V ua un ys) => ija_any F xs ta tn tc x G ys ua un uc y r z V h1 h2 htc huc)
  have I6 := Lib.hid (fun V (h1 : Ints V ta tn xs) (h2 : Ints V ua un ys) => sja_any F xs ta tn tc x G ys ua un uc y r z V h1 h2)
  have I7 := Lib.hid (fun V (h1 : Ints V ta tn xs) (h2 : Ints V ua un ys) => iwid_any F xs ta tn tc x G ys ua un uc y V h1 h2 htc huc)
  have I8 := Lib.hid (fun V (h1 : Ints V ta tn xs) (h2 : Ints V ua un ys) => swid_any F xs ta tn tc x G ys ua un uc y V h1 h2)
  have K1 := Lib.hid (fun V (h1 : Ints V ta tn xs) => ilife_any r F xs ta tn tc x z V h1 htc)
  have K2 := Lib.hid (fun V (h2 : Ints V ua un ys) => ilife_any r G ys ua un uc y z V h2 huc)
  unfold IIPost at I1 I2 I3 I4 I5 I6 K1 K2
  unfold IIIPost8 at I7 I8
  rw [hL, hE1] at I1 I2
  rw [hW, hE1] at I3 I4
  rw [hJ, hE1] at I5 I6
  rw [hN, hD, hE2] at I7 I8
  rw [hA, hE3] at K1
  rw [hB, hE4] at K2
  rw [hE1, hE2, hA, hB, hJ, hW, hL, hE3, hE4, hN, hD] at HE
  clear hL hW hJ hN hD hE1 hE2 hA hB hE3 hE4
  refine (I1.out _ H1.out.ii H2.out.ii).mono ?_
  rintro e w3 ⟨rfl, hb⟩
  have H1 := Lib.hid (H1.out.on hb)
  have H2 := Lib.hid (H2.out.on hb)
  clear hb
  clear t0 t1 u0 u1 I1
  obtain ⟨t0, t1⟩ := H1.out.bt.two
  obtain ⟨u0, u1⟩ := H2.out.bt.two
  go_wp2_with fail
  refine (I2.out _ H1.out.ii H2.out.ii).mono ?_
  rintro e w4 ⟨rfl, hb⟩
  have H1 := Lib.hid (H1.out.on hb)
  have H2 := Lib.hid (H2.out.on hb)
  clear hb
  clear t0 t1 u0 u1 I2
  obtain ⟨t0, t1⟩ := H1.out.bt.two
  obtain ⟨u0, u1⟩ := H2.out.bt.two
  go_wp2_with fail
  refine (I3.out _ H1.out.ii H2.out.ii).mono ?_
  rintro e w5 ⟨rfl, hb⟩
  have H1 := Lib.hid (H1.out.on hb)
  have H2 := Lib.hid (H2.out.on hb)
  clear hb
  clear t0 t1 u0 u1 I3
  obtain ⟨t0, t1⟩ := H1.out.bt.two
  obtain ⟨u0, u1⟩ := H2.out.bt.two
  go_wp2_with fail
  refine (I4.out _ H1.out.ii H2.out.ii).mono ?_
  rintro e w6 ⟨rfl, hb⟩
  have H1 := Lib.hid (H1.out.on hb)
  have H2 := Lib.hid (H2.out.on hb)
  clear hb
  clear t0 t1 u0 u1 I4
  obtain ⟨t0, t1⟩ := H1.out.bt.two
  obtain ⟨u0, u1⟩ := H2.out.bt.two
  go_wp2_with fail
  refine (I5.out _ H1.out.ii H2.out.ii).mono ?_
  rintro e w7 ⟨rfl, hb⟩
  have H1 := Lib.hid (H1.out.on hb)
  have H2 := Lib.hid (H2.out.on hb)
  clear hb
  clear t0 t1 u0 u1 I5
  obtain ⟨t0, t1⟩ := H1.out.bt.two
  obtain ⟨u0, u1⟩ := H2.out.bt.two
  go_wp2_with fail
  refine (I6.out _ H1.out.ii H2.out.ii).mono ?_
  rintro e w8 ⟨rfl, hb⟩
  have H1 := Lib.hid (H1.out.on hb)
  have H2 := Lib.hid (H2.out.on hb)
  clear hb
  clear t0 t1 u0 u1 I6
  obtain ⟨t0, t1⟩ := H1.out.bt.two
  obtain ⟨u0, u1⟩ := H2.out.bt.two
  go_wp2_with fail
  refine (I7.out _ H1.out.ii H2.out.ii).mono ?_
  rintro e w9 ⟨rfl, hb⟩
  have H1 := Lib.hid (H1.out.on hb)
  have H2 := Lib.hid (H2.out.on hb)
  clear hb
  clear t0 t1 u0 u1 I7
  obtain ⟨t0, t1⟩ := H1.out.bt.two
  obtain ⟨u0, u1⟩ := H2.out.bt.two
  go_wp2_with fail
  refine (I8.out _ H1.out.ii H2.out.ii).mono ?_
  rintro e w10 ⟨rfl, hb⟩
  have H1 := Lib.hid (H1.out.on hb)
  have H2 := Lib.hid (H2.out.on hb)
  clear hb
  clear t0 t1 u0 u1 I8
  by_cases hz : E1 = 0
  case neg =>
    have hz1 : (E1 != 0) = true := by simpa using hz
    clear HE hz
    go_wp2_with fail
    go_ret
    exact ⟨rfl, H1.out.low⟩
  subst hz
  obtain ⟨A', B', C', e1, e2, e3, e4, e5, ⟨a0, a1⟩, ⟨b0, b1⟩, ⟨c0, c1⟩, e6, e7, e8, n0, d0⟩ := HE.out rfl
  subst e1 e2 e3 e6 e7 e8
  have w0 : -152000001 ≤ W ∧ W ≤ 152000002 := by omega
  have q2 : IntKind.i64.wrap (B + 1) = B + 1 := IntWalk.i64_in _ (by omega)
  have q3 : IntKind.i64.wrap (B + 1 - J) = W := by rw [e4]; exact IntWalk.i64_in _ (by omega)
  have q1 : IntKind.i64.wrap (A + W) = L := by rw [e5, e4]; exact IntWalk.i64_in _ (by omega)
  clear HE e4 e5
  obtain ⟨t0, t1⟩ := H1.out.bt.two
  obtain ⟨u0, u1⟩ := H2.out.bt.two
  go_wp2_with fail
  refine (K1.out _ H1.out.ii).mono ?_
  rintro e w11 ⟨rfl, hb⟩
  have H1 := Lib.hid (H1.out.on hb)
  have H2 := Lib.hid (H2.out.on hb)
  clear hb
  clear t0 t1 u0 u1 K1
  obtain ⟨t0, t1⟩ := H1.out.bt.two
  obtain ⟨u0, u1⟩ := H2.out.bt.two
  go_wp2_with fail
  refine (K2.out _ H2.out.ii).mono ?_
  rintro e w12 ⟨rfl, hb⟩
  have H1 := Lib.hid (H1.out.on hb)
  have H2 := Lib.hid (H2.out.on hb)
  clear hb
  clear t0 t1 u0 u1 K2
  go_wp2_with fail
  go_ret
  exact ⟨rfl, H1.out.low⟩

end Go.Proofs.YtlcmgihaelgclaaGreat
