/- Merged: SnL. -/
import Derived.Test.YtpdmbmfjeankbaaGreatDoorSn16
import Derived.Test.YtpdmbmfjeankbaaGreatDoorSn19
import Derived.Test.YtpdmbmfjeankbaaGreatDoorSn21
import Derived.Test.YtpdmbmfjeankbaaGreatDoorSn29

/- FnSickness: a longer time never costs less, and a sickness table is found from its text. (Written by wip/gen/snl.py.) -/
namespace Go.Proofs.YtpdmbmfjeankbaaGreatDoor
open Go.ChangeShapes Go.WideShapes Go.ChangeAt Go.RowKit
set_option linter.unusedVariables false
set_option linter.unusedSimpArgs false
set_option maxRecDepth 2000000

/-- the two tables' boxes -/
structure N2 (T U : Nat) (F : Int) (ta : Option Addr) (tn tc : Nat) (xs : List Int) (G : Int) (ua : Option Addr) (un uc : Nat) (ys : List Int) (w W : World) : Prop where
  t : T1 T F ta tn tc xs w W
  s : T1 U G ua un uc ys w W

theorem N2.step {T U : Nat} {F : Int} {ta : Option Addr} {tn tc : Nat} {xs : List Int} {G : Int} {ua : Option Addr} {un uc : Nat} {ys : List Int} {w W W' : World} (h : N2 T U F ta tn tc xs G ua un uc ys w W) (hb : Below W.heap.size W W') : N2 T U F ta tn tc xs G ua un uc ys w W' := ⟨h.t.on hb, h.s.on hb⟩

/-- .. and the boxes of what was read -/
structure N5 (T U X Y Z : Nat) (F : Int) (ta : Option Addr) (tn tc : Nat) (xs : List Int) (G : Int) (ua : Option Addr) (un uc : Nat) (ys : List Int) (H : Int) (ya : Option Addr) (yn yc : Nat) (zs : List Int) (I : Int) (aa : Option Addr) (an ac : Nat) (ba : Option Addr) (bn bc : Nat) (vs : List Int) (w W : World) : Prop where
  n : N2 T U F ta tn tc xs G ua un uc ys w W
  y : T1 X H ya yn yc zs w W
  a : T1 Y I aa an ac vs w W
  b : T1 Z I ba bn bc vs w W

theorem N5.step {T U X Y Z : Nat} {F : Int} {ta : Option Addr} {tn tc : Nat} {xs : List Int} {G : Int} {ua : Option Addr} {un uc : Nat} {ys : List Int} {H : Int} {ya : Option Addr} {yn yc : Nat} {zs : List Int} {I : Int} {aa : Option Addr} {an ac : Nat} {ba : Option Addr} {bn bc : Nat} {vs : List Int} {w W W' : World} (h : N5 T U X Y Z F ta tn tc xs G ua un uc ys H ya yn yc zs I aa an ac ba bn bc vs w W) (hb : Below W.heap.size W W') : N5 T U X Y Z F ta tn tc xs G ua un uc ys H ya yn yc zs I aa an ac ba bn bc vs w W' := ⟨h.n.step hb, h.y.on hb, h.a.on hb, h.b.on hb⟩

set_option maxHeartbeats 4000000 in
theorem fnSickness_walk (a0 : Option Addr) (len0 cap0 : Nat) (z0 : List Int) (w : World) (hr : IsRow .u8 w a0 len0 cap0 z0) (ht : Tab w) (hsh : w.ShapedOpen Tryz.prog) (h1 : ErrIs w "strconv.ErrSyntax") (h2 : ErrIs w "strconv.ErrRange") :
    Calls Tryz.prog 3 #[.slice a0 len0 cap0] w fun e w' => e = .returned (.bool true) ∧ Below w.heap.size w w' := by
  have HA := Lib.hid (AskT.mk ht ⟨h1, h2, hsh⟩)
  clear ht hsh h1 h2
  by_cases hbig : (4096 : Int) < len0
  · go_enter Tryz.func3, Tryz.ntmps3
    go_wp2_with (go_at_call 4; refine (bigT_any _ _ _ _).mono ?_; rintro e w' ⟨rfl, rfl⟩)
    go_ret
    exact ⟨rfl, Below.refl _ _⟩
  have HR := Lib.hid hr
  have HRA := Lib.hid hr.apart
  clear hr
  go_enter Tryz.func3, Tryz.ntmps3
  go_wp2_with (go_at_call 4; refine (bigT_any _ _ _ _).mono ?_; rintro e w' ⟨rfl, rfl⟩)
  refine (drawSK _ _ _ _ _ HR.out).mono ?_
  rintro e w1 ⟨F, ta, tn, tc, xs, G, ua, un, uc, ys, r, x, n, q, rfl, ⟨hI1, hI2, hb⟩, htc, huc⟩
  have HN : Hid (N2 w1.heap.size (w1.heap.size + 1) F ta tn tc xs G ua un uc ys w ((w1.alloc (.cells #[.int .i64 F, .slice ta tn tc] 26)).alloc (.cells #[.int .i64 G, .slice ua un uc] 28))) := Lib.hid ⟨(T1.two hb hI1 hI2).1, (T1.two hb hI1 hI2).2⟩
  clear hI1 hI2 hb
  go_wp2_with fail
  obtain ⟨T, hT⟩ : ∃ T, w1.heap.size = T := ⟨_, rfl⟩
  rw [hT] at HN
  (try rw [hT])
  obtain ⟨U, hU⟩ : ∃ U, T + 1 = U := ⟨_, rfl⟩
  rw [hU] at HN
  (try rw [hU])
  clear hT hU
  have k0 := HN.out.t.bt.two.1
  have k1 := HN.out.t.bt.two.2
  have k2 := HN.out.s.bt.two.1
  have k3 := HN.out.s.bt.two.2
  generalize ((w1.alloc (.cells #[.int .i64 F, .slice ta tn tc] 26)).alloc (.cells #[.int .i64 G, .slice ua un uc] 28)) = v2 at HN k0 k1 k2 k3 ⊢
  have IV : Hid (∀ W, Hid (N2 T U F ta tn tc xs G ua un uc ys w W) → Calls Tryz.prog 6 #[.agg #[.int .i64 F, .slice ta tn tc], .agg #[.int .i64 G, .slice ua un uc], .int .i64 r, .int .i64 x, .int .i64 n, .int .i64 q] W fun e w' => e = .returned (.tuple #[.int .i64 (svV r F xs G ys x n q), .int .i64 (skE r F xs G ys x n q)]) ∧ Hid (N2 T U F ta tn tc xs G ua un uc ys w w')) :=
    Lib.hid (fun W hW => (isv_any r F xs ta tn tc G ys ua un uc x n q W hW.out.t.ii hW.out.s.ii htc huc).mono fun e w' ⟨he, hb⟩ => ⟨he, Lib.hid (hW.out.step hb)⟩)
  have SV9 : Hid (∀ W, Hid (N2 T U F ta tn tc xs G ua un uc ys w W) → Calls Tryz.prog 7 #[.agg #[.int .i64 F, .slice ta tn tc], .agg #[.int .i64 G, .slice ua un uc], .int .i64 r, .int .i64 x, .int .i64 n, .int .i64 q] W fun e w' => e = .returned (.tuple #[.int .i64 (svV r F xs G ys x n q), .int .i64 (skE r F xs G ys x n q)]) ∧ Hid (N2 T U F ta tn tc xs G ua un uc ys w w')) :=
    Lib.hid (fun W hW => (ssv_any r F xs ta tn tc G ys ua un uc x n q W hW.out.t.ii hW.out.s.ii).mono fun e w' ⟨he, hb⟩ => ⟨he, Lib.hid (hW.out.step hb)⟩)
  have IP : Hid (∀ W, Hid (N2 T U F ta tn tc xs G ua un uc ys w W) → Calls Tryz.prog 8 #[.agg #[.int .i64 F, .slice ta tn tc], .agg #[.int .i64 G, .slice ua un uc], .int .i64 r, .int .i64 x, .int .i64 n, .int .i64 q] W fun e w' => e = .returned (.tuple #[.int .i64 (spV r F xs G ys x n q), .int .i64 (skE r F xs G ys x n q)]) ∧ Hid (N2 T U F ta tn tc xs G ua un uc ys w w')) :=
    Lib.hid (fun W hW => (isp_any r F xs ta tn tc G ys ua un uc x n q W hW.out.t.ii hW.out.s.ii htc huc).mono fun e w' ⟨he, hb⟩ => ⟨he, Lib.hid (hW.out.step hb)⟩)
  have SP : Hid (∀ W, Hid (N2 T U F ta tn tc xs G ua un uc ys w W) → Calls Tryz.prog 9 #[.agg #[.int .i64 F, .slice ta tn tc], .agg #[.int .i64 G, .slice ua un uc], .int .i64 r, .int .i64 x, .int .i64 n, .int .i64 q] W fun e w' => e = .returned (.tuple #[.int .i64 (spV r F xs G ys x n q), .int .i64 (skE r F xs G ys x n q)]) ∧ Hid (N2 T U F ta tn tc xs G ua un uc ys w w')) :=
    Lib.hid (fun W hW => (ssp_any r F xs ta tn tc G ys ua un uc x n q W hW.out.t.ii hW.out.s.ii).mono fun e w' ⟨he, hb⟩ => ⟨he, Lib.hid (hW.out.step hb)⟩)
  have IL1 : Hid (∀ W, Hid (N2 T U F ta tn tc xs G ua un uc ys w W) → Calls Tryz.prog 6 #[.agg #[.int .i64 F, .slice ta tn tc], .agg #[.int .i64 G, .slice ua un uc], .int .i64 r, .int .i64 x, .int .i64 (n - 1), .int .i64 q] W fun e w' => e = .returned (.tuple #[.int .i64 (svV r F xs G ys x (n - 1) q), .int .i64 (skE r F xs G ys x (n - 1) q)]) ∧ Below W.heap.size W w') :=
    Lib.hid (fun W hW => isv_any r F xs ta tn tc G ys ua un uc x (n - 1) q W hW.out.t.ii hW.out.s.ii htc huc)
  have HLS : Hid (skE r F xs G ys x n q = 0 → n ≠ 1 → skE r F xs G ys x (n - 1) q = 0 ∧ svV r F xs G ys x (n - 1) q ≤ svV r F xs G ys x n q ∧ spV r F xs G ys x n q ≤ svV r F xs G ys x n q) := Lib.hid (fun h hn => (skE_iff.1 h).less hn)
  have HOK : Hid (skE r F xs G ys x n q = 0 → skB G ys = true ∧ 1 ≤ n ∧ n ≤ 60) := Lib.hid (fun h => ⟨(skB_iff _ _).2 (skE_iff.1 h).st, (skE_iff.1 h).n0, (skE_iff.1 h).n1⟩)
  obtain ⟨E, hE⟩ : ∃ E, skE r F xs G ys x n q = E := ⟨_, rfl⟩
  obtain ⟨V, hV⟩ : ∃ V, svV r F xs G ys x n q = V := ⟨_, rfl⟩
  obtain ⟨Q, hQ⟩ : ∃ Q, spV r F xs G ys x n q = Q := ⟨_, rfl⟩
  obtain ⟨E1, hE1⟩ : ∃ E, skE r F xs G ys x (n - 1) q = E := ⟨_, rfl⟩
  obtain ⟨V1, hV1⟩ : ∃ V, svV r F xs G ys x (n - 1) q = V := ⟨_, rfl⟩
  rw [hE] at IV SV9 IP SP HLS HOK
  rw [hV] at IV SV9 HLS
  rw [hQ] at IP SP HLS
  rw [hE1] at IL1 HLS
  rw [hV1] at IL1 HLS
  clear hE hV hQ hE1 hV1
  go_wp2_with (first
    | (go_at_call 6; with_reducible refine (IV.out _ HN).mono ?_; rintro e w' ⟨rfl, HN⟩; have k0 := HN.out.t.bt.two.1; have k1 := HN.out.t.bt.two.2; have k2 := HN.out.s.bt.two.1; have k3 := HN.out.s.bt.two.2)
    | (go_at_call 7; with_reducible refine (SV9.out _ HN).mono ?_; rintro e w' ⟨rfl, HN⟩; have k0 := HN.out.t.bt.two.1; have k1 := HN.out.t.bt.two.2; have k2 := HN.out.s.bt.two.1; have k3 := HN.out.s.bt.two.2)
    | (go_at_call 8; with_reducible refine (IP.out _ HN).mono ?_; rintro e w' ⟨rfl, HN⟩; have k0 := HN.out.t.bt.two.1; have k1 := HN.out.t.bt.two.2; have k2 := HN.out.s.bt.two.1; have k3 := HN.out.s.bt.two.2)
    | (go_at_call 9; with_reducible refine (SP.out _ HN).mono ?_; rintro e w' ⟨rfl, HN⟩; have k0 := HN.out.t.bt.two.1; have k1 := HN.out.t.bt.two.2; have k2 := HN.out.s.bt.two.1; have k3 := HN.out.s.bt.two.2))
  clear IV SV9 IP SP
  have HTB := Lib.hid (HA.out.step HN.out.t.low).tab
  refine (ist_impl G ys ua un uc _ HN.out.s.ii huc HTB.out).mono ?_
  rintro e w3 ⟨rfl, hb3⟩
  have HN := Lib.hid (HN.out.step hb3)
  have k0 := HN.out.t.bt.two.1
  have k1 := HN.out.t.bt.two.2
  have k2 := HN.out.s.bt.two.1
  have k3 := HN.out.s.bt.two.2
  have htl := skT_len G ys
  obtain ⟨t, htt⟩ : ∃ t : ByteArray, (⟨(skT G ys).toArray⟩ : ByteArray) = t := ⟨_, rfl⟩
  have hts : t.size ≤ 3000 := by rw [← htt]; show (skT G ys).toArray.size ≤ 3000; simpa using htl
  have hdt : t.data.toList = skT G ys := by rw [← htt]
  have HTT := Lib.hid htt
  rw [htt]
  clear hb3 htl htt HTB
  have RT := Lib.hid (rk_impl t w3 (by omega) (HA.out.step HN.out.t.low))
  have HO1 := Lib.hid (rk_skT G ys)
  unfold TkPost at RT
  rw [hdt] at RT
  rw [HO1.out.1] at RT
  obtain ⟨H, hH⟩ : ∃ G', tkF (skT G ys) = G' := ⟨_, rfl⟩
  obtain ⟨zs, hZ⟩ : ∃ zs, tkY (skT G ys) = zs := ⟨_, rfl⟩
  rw [hH, hZ] at RT HO1
  clear hH hZ
  go_wp2_with fail
  refine RT.out.mono ?_
  rintro e w4 ⟨ya, yn, yc, rfl, _, hT4, hb4⟩
  have HN := Lib.hid (HN.out.step hb4)
  have hlo := HN.out.t.low
  have hn4 : T1 w4.heap.size H ya yn yc zs w (w4.alloc (.cells #[.int .i64 H, .slice ya yn yc] 28)) := T1.new hlo hT4.ints
  have hq4 := box_b w4 (.cells #[.int .i64 H, .slice ya yn yc] 28)
  have HN := Lib.hid (HN.out.step hq4)
  clear RT hT4 hb4 k0 k1 k2 k3 hq4 hlo
  go_wp2_with fail
  obtain ⟨X, hX⟩ : ∃ X, w4.heap.size = X := ⟨_, rfl⟩
  rw [hX] at hn4
  (try rw [hX])
  clear hX
  have HX := Lib.hid hn4
  generalize (w4.alloc (.cells #[.int .i64 H, .slice ya yn yc] 28)) = v4 at HN HX ⊢
  clear hn4
  refine (drawRK _ _ _ _ _ (HR.out.below HN.out.t.low HRA.out)).mono ?_
  rintro e w5 ⟨p, rfl, hps, hb5⟩
  have HN := Lib.hid (HN.out.step hb5)
  have HX := Lib.hid (HX.out.on hb5)
  have RI := Lib.hid (rk_impl p w5 (by omega) (HA.out.step HN.out.t.low))
  have RS := Lib.hid (fun W => rk_spec p W (by omega))
  have HO2 : Hid (rkO p.data.toList = true → (⟨(skT (tkF p.data.toList) (tkY p.data.toList)).toArray⟩ : ByteArray) = p) := Lib.hid (fun h => by rw [(text_rk h).1])
  unfold TkPost at RI RS
  obtain ⟨I, hI⟩ : ∃ G, tkF p.data.toList = G := ⟨_, rfl⟩
  obtain ⟨vs, hvs⟩ : ∃ ys, tkY p.data.toList = ys := ⟨_, rfl⟩
  obtain ⟨o2, ho2⟩ : ∃ o, rkO p.data.toList = o := ⟨_, rfl⟩
  rw [hI, hvs, ho2] at RI RS HO2
  clear hb5 hI hvs ho2
  go_wp2_with fail
  refine RI.out.mono ?_
  rintro e w6 ⟨aa, an, ac, rfl, hnc6, hT6, hb6⟩
  have HN := Lib.hid (HN.out.step hb6)
  have HX := Lib.hid (HX.out.on hb6)
  have hlo := HN.out.t.low
  have hn6 : T1 w6.heap.size I aa an ac vs w (w6.alloc (.cells #[.int .i64 I, .slice aa an ac] 28)) := T1.new hlo hT6.ints
  have hq6 := box_b w6 (.cells #[.int .i64 I, .slice aa an ac] 28)
  have HYC : Hid (an ≤ ac) := Lib.hid hnc6
  have HN := Lib.hid (HN.out.step hq6)
  have HX := Lib.hid (HX.out.on hq6)
  clear RI hT6 hb6 hq6 hlo
  go_wp2_with fail
  obtain ⟨Y, hY⟩ : ∃ X, w6.heap.size = X := ⟨_, rfl⟩
  rw [hY] at hn6
  (try rw [hY])
  clear hY
  have HY := Lib.hid hn6
  generalize (w6.alloc (.cells #[.int .i64 I, .slice aa an ac] 28)) = v6 at HN HX HY ⊢
  clear hn6
  refine (RS.out _).mono ?_
  rintro e w7 ⟨ba, bn, bc, rfl, _, hT7, hb7⟩
  have HN := Lib.hid (HN.out.step hb7)
  have HX := Lib.hid (HX.out.on hb7)
  have HY := Lib.hid (HY.out.on hb7)
  have hlo := HN.out.t.low
  have hn7 : T1 w7.heap.size I ba bn bc vs w (w7.alloc (.cells #[.int .i64 I, .slice ba bn bc] 28)) := T1.new hlo hT7.ints
  have hq7 := box_b w7 (.cells #[.int .i64 I, .slice ba bn bc] 28)
  have HN : Hid (N5 T U X Y w7.heap.size F ta tn tc xs G ua un uc ys H ya yn yc zs I aa an ac ba bn bc vs w (w7.alloc (.cells #[.int .i64 I, .slice ba bn bc] 28))) := Lib.hid ⟨HN.out.step hq7, HX.out.on hq7, HY.out.on hq7, hn7⟩
  clear RS hT7 hb7 hq7 hlo HX HY hn7
  obtain ⟨Z, hZ⟩ : ∃ X, w7.heap.size = X := ⟨_, rfl⟩
  rw [hZ] at HN
  have k0 := HN.out.n.t.bt.two.1
  have k1 := HN.out.n.t.bt.two.2
  have k2 := HN.out.n.s.bt.two.1
  have k3 := HN.out.n.s.bt.two.2
  have q0 := HN.out.y.bt.two.1
  have q1 := HN.out.y.bt.two.2
  have q2 := HN.out.a.bt.two.1
  have q3 := HN.out.a.bt.two.2
  have q4 := HN.out.b.bt.two.1
  have q5 := HN.out.b.bt.two.2
  have TS : Hid (∀ W, Hid (N5 T U X Y Z F ta tn tc xs G ua un uc ys H ya yn yc zs I aa an ac ba bn bc vs w W) → Calls Tryz.prog 14 #[.agg #[.int .i64 G, .slice ua un uc]] W fun e w' => e = .returned (.string t) ∧ Hid (N5 T U X Y Z F ta tn tc xs G ua un uc ys H ya yn yc zs I aa an ac ba bn bc vs w w')) :=
    Lib.hid (fun W hW => (sst_spec G ys ua un uc W hW.out.n.s.ii).mono fun e w' ⟨he, hb⟩ => ⟨by rw [he, HTT.out], Lib.hid (hW.out.step hb)⟩)
  have C1 : Hid (∀ W, skB G ys = true → Hid (N5 T U X Y Z F ta tn tc xs G ua un uc ys H ya yn yc zs I aa an ac ba bn bc vs w W) → Calls Tryz.prog 15 #[.agg #[.int .i64 H, .slice ya yn yc], .agg #[.int .i64 G, .slice ua un uc]] W fun e w' => e = .returned (.bool true) ∧ Hid (N5 T U X Y Z F ta tn tc xs G ua un uc ys H ya yn yc zs I aa an ac ba bn bc vs w w')) :=
    Lib.hid (fun W hl hW => by
      obtain ⟨e1, e2⟩ := HO1.out.2.1 hl
      have hx := hW.out.y.ii
      rw [e2] at hx
      have hk : Calls Tryz.prog 15 #[.agg #[.int .i64 H, .slice ya yn yc], .agg #[.int .i64 G, .slice ua un uc]] W fun e w' => e = .returned (.bool true) ∧ Below W.heap.size W w' := by
        rw [e1]; exact likeK_same G ys ya ua yn un yc uc W hx hW.out.n.s.ii
      exact hk.mono fun e w' ⟨he, hb⟩ => ⟨he, Lib.hid (hW.out.step hb)⟩)
  have C2 : Hid (∀ W, Hid (N5 T U X Y Z F ta tn tc xs G ua un uc ys H ya yn yc zs I aa an ac ba bn bc vs w W) → Calls Tryz.prog 15 #[.agg #[.int .i64 I, .slice aa an ac], .agg #[.int .i64 I, .slice ba bn bc]] W fun e w' => e = .returned (.bool true) ∧ Hid (N5 T U X Y Z F ta tn tc xs G ua un uc ys H ya yn yc zs I aa an ac ba bn bc vs w w')) :=
    Lib.hid (fun W hW => (likeK_same I vs aa ba an bn ac bc W hW.out.a.ii hW.out.b.ii).mono fun e w' ⟨he, hb⟩ => ⟨he, Lib.hid (hW.out.step hb)⟩)
  have TY : Hid (∀ W, o2 = true → Hid (N5 T U X Y Z F ta tn tc xs G ua un uc ys H ya yn yc zs I aa an ac ba bn bc vs w W) → Calls Tryz.prog 10 #[.agg #[.int .i64 I, .slice aa an ac]] W fun e w' => e = .returned (.string p) ∧ Hid (N5 T U X Y Z F ta tn tc xs G ua un uc ys H ya yn yc zs I aa an ac ba bn bc vs w w')) :=
    Lib.hid (fun W ho hW => (ist_impl I vs aa an ac W hW.out.a.ii HYC.out (HA.out.step hW.out.n.t.low).tab).mono fun e w' ⟨he, hb⟩ => ⟨by rw [he, HO2.out ho], Lib.hid (hW.out.step hb)⟩)
  have IL : Hid (∀ W, Hid (N5 T U X Y Z F ta tn tc xs G ua un uc ys H ya yn yc zs I aa an ac ba bn bc vs w W) → Calls Tryz.prog 16 #[.agg #[.int .i64 G, .slice ua un uc]] W fun e w' => e = .returned (.bool (skB G ys)) ∧ Hid (N5 T U X Y Z F ta tn tc xs G ua un uc ys H ya yn yc zs I aa an ac ba bn bc vs w w')) :=
    Lib.hid (fun W hW => (isS_impl G ys ua un uc W hW.out.n.s.ii huc).mono fun e w' ⟨he, hb⟩ => ⟨he, Lib.hid (hW.out.step hb)⟩)
  have IVL : Hid (∀ W, Hid (N5 T U X Y Z F ta tn tc xs G ua un uc ys H ya yn yc zs I aa an ac ba bn bc vs w W) → Calls Tryz.prog 6 #[.agg #[.int .i64 F, .slice ta tn tc], .agg #[.int .i64 G, .slice ua un uc], .int .i64 r, .int .i64 x, .int .i64 (n - 1), .int .i64 q] W fun e w' => e = .returned (.tuple #[.int .i64 V1, .int .i64 E1]) ∧ Hid (N5 T U X Y Z F ta tn tc xs G ua un uc ys H ya yn yc zs I aa an ac ba bn bc vs w w')) :=
    Lib.hid (fun W hW => (IL1.out W (Lib.hid hW.out.n)).mono fun e w' ⟨he, hb⟩ => ⟨he, Lib.hid (hW.out.step hb)⟩)
  have HTN : Hid (t = ⟨#[]⟩ ↔ skB G ys = false) := Lib.hid (by
    rw [← HO1.out.2.2, ← hdt]
    constructor
    · intro e; rw [e]
    · intro e; apply ByteArray.ext; apply Array.toList_inj.1; rw [e])
  go_wp2_with fail
  clear hZ
  generalize (w7.alloc (.cells #[.int .i64 I, .slice ba bn bc] 28)) = v7 at HN k0 k1 k2 k3 q0 q1 q2 q3 q4 q5 ⊢
  obtain ⟨o1, ho1⟩ : ∃ o, skB G ys = o := ⟨_, rfl⟩
  rw [ho1] at C1 IL HTN HOK
  (try rw [ho1])
  have HTE : Hid (t.toList = [] ↔ o1 = false) := Lib.hid (by
    rw [toList_eq, ← HTN.out]
    constructor
    · intro h; apply ByteArray.ext; apply Array.toList_inj.1; rw [h]
    · intro h; rw [h])
  clear ho1 hdt HTN HTT HO1 HO2 hts IL1
  by_cases hE0 : E = 0
  · subst hE0
    obtain ⟨ho1, hn0, hn1⟩ := HOK.out rfl
    subst ho1
    have hte : ¬ t.toList = [] := fun h => by have := HTE.out.1 h; cases this
    have hte2 : t.toList.isEmpty = false := by cases h : t.toList with | nil => exact absurd h hte | cons => rfl
    have KA := Lib.hid (fun W hW => C1.out W rfl hW)
    have q9 : IntKind.i64.wrap (n - 1) = n - 1 := IntWalk.i64_in _ (by omega)
    clear C1
    by_cases hn : n = 1
    · subst hn
      cases o2
      all_goals
        try have TA := Lib.hid (fun W hW => TY.out W rfl hW)
        clear TY
        go_wp2_with (first
          | (go_at_call 14; with_reducible refine (TS.out _ HN).mono ?_; rintro e w' ⟨rfl, HN⟩; have k0 := HN.out.n.t.bt.two.1; have k1 := HN.out.n.t.bt.two.2; have k2 := HN.out.n.s.bt.two.1; have k3 := HN.out.n.s.bt.two.2; have q0 := HN.out.y.bt.two.1; have q1 := HN.out.y.bt.two.2; have q2 := HN.out.a.bt.two.1; have q3 := HN.out.a.bt.two.2; have q4 := HN.out.b.bt.two.1; have q5 := HN.out.b.bt.two.2)
          | (go_at_call 15; ((first | (with_reducible refine (C2.out _ HN).mono ?_) | (with_reducible refine (KA.out _ HN).mono ?_))); rintro e w' ⟨rfl, HN⟩; have k0 := HN.out.n.t.bt.two.1; have k1 := HN.out.n.t.bt.two.2; have k2 := HN.out.n.s.bt.two.1; have k3 := HN.out.n.s.bt.two.2; have q0 := HN.out.y.bt.two.1; have q1 := HN.out.y.bt.two.2; have q2 := HN.out.a.bt.two.1; have q3 := HN.out.a.bt.two.2; have q4 := HN.out.b.bt.two.1; have q5 := HN.out.b.bt.two.2)
          | (go_at_call 10; with_reducible refine (TA.out _ HN).mono ?_; rintro e w' ⟨rfl, HN⟩; have k0 := HN.out.n.t.bt.two.1; have k1 := HN.out.n.t.bt.two.2; have k2 := HN.out.n.s.bt.two.1; have k3 := HN.out.n.s.bt.two.2; have q0 := HN.out.y.bt.two.1; have q1 := HN.out.y.bt.two.2; have q2 := HN.out.a.bt.two.1; have q3 := HN.out.a.bt.two.2; have q4 := HN.out.b.bt.two.1; have q5 := HN.out.b.bt.two.2)
          | (go_at_call 16; with_reducible refine (IL.out _ HN).mono ?_; rintro e w' ⟨rfl, HN⟩; have k0 := HN.out.n.t.bt.two.1; have k1 := HN.out.n.t.bt.two.2; have k2 := HN.out.n.s.bt.two.1; have k3 := HN.out.n.s.bt.two.2; have q0 := HN.out.y.bt.two.1; have q1 := HN.out.y.bt.two.2; have q2 := HN.out.a.bt.two.1; have q3 := HN.out.a.bt.two.2; have q4 := HN.out.b.bt.two.1; have q5 := HN.out.b.bt.two.2)
          | (go_at_call 6; with_reducible refine (IVL.out _ HN).mono ?_; rintro e w' ⟨rfl, HN⟩; have k0 := HN.out.n.t.bt.two.1; have k1 := HN.out.n.t.bt.two.2; have k2 := HN.out.n.s.bt.two.1; have k3 := HN.out.n.s.bt.two.2; have q0 := HN.out.y.bt.two.1; have q1 := HN.out.y.bt.two.2; have q2 := HN.out.a.bt.two.1; have q3 := HN.out.a.bt.two.2; have q4 := HN.out.b.bt.two.1; have q5 := HN.out.b.bt.two.2))
        go_ret
        exact ⟨rfl, HN.out.n.t.low⟩
    · obtain ⟨g0, g1, g2⟩ := HLS.out rfl hn
      subst g0
      have hnb : (n == 1) = false := by simpa using hn
      cases o2
      all_goals
        try have TA := Lib.hid (fun W hW => TY.out W rfl hW)
        clear TY
        go_wp2_with (first
          | (go_at_call 14; with_reducible refine (TS.out _ HN).mono ?_; rintro e w' ⟨rfl, HN⟩; have k0 := HN.out.n.t.bt.two.1; have k1 := HN.out.n.t.bt.two.2; have k2 := HN.out.n.s.bt.two.1; have k3 := HN.out.n.s.bt.two.2; have q0 := HN.out.y.bt.two.1; have q1 := HN.out.y.bt.two.2; have q2 := HN.out.a.bt.two.1; have q3 := HN.out.a.bt.two.2; have q4 := HN.out.b.bt.two.1; have q5 := HN.out.b.bt.two.2)
          | (go_at_call 15; ((first | (with_reducible refine (C2.out _ HN).mono ?_) | (with_reducible refine (KA.out _ HN).mono ?_))); rintro e w' ⟨rfl, HN⟩; have k0 := HN.out.n.t.bt.two.1; have k1 := HN.out.n.t.bt.two.2; have k2 := HN.out.n.s.bt.two.1; have k3 := HN.out.n.s.bt.two.2; have q0 := HN.out.y.bt.two.1; have q1 := HN.out.y.bt.two.2; have q2 := HN.out.a.bt.two.1; have q3 := HN.out.a.bt.two.2; have q4 := HN.out.b.bt.two.1; have q5 := HN.out.b.bt.two.2)
          | (go_at_call 10; with_reducible refine (TA.out _ HN).mono ?_; rintro e w' ⟨rfl, HN⟩; have k0 := HN.out.n.t.bt.two.1; have k1 := HN.out.n.t.bt.two.2; have k2 := HN.out.n.s.bt.two.1; have k3 := HN.out.n.s.bt.two.2; have q0 := HN.out.y.bt.two.1; have q1 := HN.out.y.bt.two.2; have q2 := HN.out.a.bt.two.1; have q3 := HN.out.a.bt.two.2; have q4 := HN.out.b.bt.two.1; have q5 := HN.out.b.bt.two.2)
          | (go_at_call 16; with_reducible refine (IL.out _ HN).mono ?_; rintro e w' ⟨rfl, HN⟩; have k0 := HN.out.n.t.bt.two.1; have k1 := HN.out.n.t.bt.two.2; have k2 := HN.out.n.s.bt.two.1; have k3 := HN.out.n.s.bt.two.2; have q0 := HN.out.y.bt.two.1; have q1 := HN.out.y.bt.two.2; have q2 := HN.out.a.bt.two.1; have q3 := HN.out.a.bt.two.2; have q4 := HN.out.b.bt.two.1; have q5 := HN.out.b.bt.two.2)
          | (go_at_call 6; with_reducible refine (IVL.out _ HN).mono ?_; rintro e w' ⟨rfl, HN⟩; have k0 := HN.out.n.t.bt.two.1; have k1 := HN.out.n.t.bt.two.2; have k2 := HN.out.n.s.bt.two.1; have k3 := HN.out.n.s.bt.two.2; have q0 := HN.out.y.bt.two.1; have q1 := HN.out.y.bt.two.2; have q2 := HN.out.a.bt.two.1; have q3 := HN.out.a.bt.two.2; have q4 := HN.out.b.bt.two.1; have q5 := HN.out.b.bt.two.2))
        go_ret
        exact ⟨ret_bool (by simp), HN.out.n.t.low⟩
  · have hE1 : (E == 0) = false := by simpa using hE0
    cases o1 with
    | true =>
      have hte : ¬ t.toList = [] := fun h => by have := HTE.out.1 h; cases this
      have hte2 : t.toList.isEmpty = false := by cases h : t.toList with | nil => exact absurd h hte | cons => rfl
      have KA := Lib.hid (fun W hW => C1.out W rfl hW)
      clear C1
      cases o2
      all_goals
        try have TA := Lib.hid (fun W hW => TY.out W rfl hW)
        clear TY
        go_wp2_with (first
          | (go_at_call 14; with_reducible refine (TS.out _ HN).mono ?_; rintro e w' ⟨rfl, HN⟩; have k0 := HN.out.n.t.bt.two.1; have k1 := HN.out.n.t.bt.two.2; have k2 := HN.out.n.s.bt.two.1; have k3 := HN.out.n.s.bt.two.2; have q0 := HN.out.y.bt.two.1; have q1 := HN.out.y.bt.two.2; have q2 := HN.out.a.bt.two.1; have q3 := HN.out.a.bt.two.2; have q4 := HN.out.b.bt.two.1; have q5 := HN.out.b.bt.two.2)
          | (go_at_call 15; ((first | (with_reducible refine (C2.out _ HN).mono ?_) | (with_reducible refine (KA.out _ HN).mono ?_))); rintro e w' ⟨rfl, HN⟩; have k0 := HN.out.n.t.bt.two.1; have k1 := HN.out.n.t.bt.two.2; have k2 := HN.out.n.s.bt.two.1; have k3 := HN.out.n.s.bt.two.2; have q0 := HN.out.y.bt.two.1; have q1 := HN.out.y.bt.two.2; have q2 := HN.out.a.bt.two.1; have q3 := HN.out.a.bt.two.2; have q4 := HN.out.b.bt.two.1; have q5 := HN.out.b.bt.two.2)
          | (go_at_call 10; with_reducible refine (TA.out _ HN).mono ?_; rintro e w' ⟨rfl, HN⟩; have k0 := HN.out.n.t.bt.two.1; have k1 := HN.out.n.t.bt.two.2; have k2 := HN.out.n.s.bt.two.1; have k3 := HN.out.n.s.bt.two.2; have q0 := HN.out.y.bt.two.1; have q1 := HN.out.y.bt.two.2; have q2 := HN.out.a.bt.two.1; have q3 := HN.out.a.bt.two.2; have q4 := HN.out.b.bt.two.1; have q5 := HN.out.b.bt.two.2)
          | (go_at_call 16; with_reducible refine (IL.out _ HN).mono ?_; rintro e w' ⟨rfl, HN⟩; have k0 := HN.out.n.t.bt.two.1; have k1 := HN.out.n.t.bt.two.2; have k2 := HN.out.n.s.bt.two.1; have k3 := HN.out.n.s.bt.two.2; have q0 := HN.out.y.bt.two.1; have q1 := HN.out.y.bt.two.2; have q2 := HN.out.a.bt.two.1; have q3 := HN.out.a.bt.two.2; have q4 := HN.out.b.bt.two.1; have q5 := HN.out.b.bt.two.2)
          | (go_at_call 6; with_reducible refine (IVL.out _ HN).mono ?_; rintro e w' ⟨rfl, HN⟩; have k0 := HN.out.n.t.bt.two.1; have k1 := HN.out.n.t.bt.two.2; have k2 := HN.out.n.s.bt.two.1; have k3 := HN.out.n.s.bt.two.2; have q0 := HN.out.y.bt.two.1; have q1 := HN.out.y.bt.two.2; have q2 := HN.out.a.bt.two.1; have q3 := HN.out.a.bt.two.2; have q4 := HN.out.b.bt.two.1; have q5 := HN.out.b.bt.two.2))
        go_ret
        exact ⟨rfl, HN.out.n.t.low⟩
    | false =>
      have hte : t.toList = [] := HTE.out.2 rfl
      have hte2 : t.toList.isEmpty = true := by rw [hte]; rfl
      cases o2
      all_goals
        try have TA := Lib.hid (fun W hW => TY.out W rfl hW)
        clear TY
        go_wp2_with (first
          | (go_at_call 14; with_reducible refine (TS.out _ HN).mono ?_; rintro e w' ⟨rfl, HN⟩; have k0 := HN.out.n.t.bt.two.1; have k1 := HN.out.n.t.bt.two.2; have k2 := HN.out.n.s.bt.two.1; have k3 := HN.out.n.s.bt.two.2; have q0 := HN.out.y.bt.two.1; have q1 := HN.out.y.bt.two.2; have q2 := HN.out.a.bt.two.1; have q3 := HN.out.a.bt.two.2; have q4 := HN.out.b.bt.two.1; have q5 := HN.out.b.bt.two.2)
          | (go_at_call 15; ((first | (with_reducible refine (C2.out _ HN).mono ?_) | (with_reducible refine (KA.out _ HN).mono ?_))); rintro e w' ⟨rfl, HN⟩; have k0 := HN.out.n.t.bt.two.1; have k1 := HN.out.n.t.bt.two.2; have k2 := HN.out.n.s.bt.two.1; have k3 := HN.out.n.s.bt.two.2; have q0 := HN.out.y.bt.two.1; have q1 := HN.out.y.bt.two.2; have q2 := HN.out.a.bt.two.1; have q3 := HN.out.a.bt.two.2; have q4 := HN.out.b.bt.two.1; have q5 := HN.out.b.bt.two.2)
          | (go_at_call 10; with_reducible refine (TA.out _ HN).mono ?_; rintro e w' ⟨rfl, HN⟩; have k0 := HN.out.n.t.bt.two.1; have k1 := HN.out.n.t.bt.two.2; have k2 := HN.out.n.s.bt.two.1; have k3 := HN.out.n.s.bt.two.2; have q0 := HN.out.y.bt.two.1; have q1 := HN.out.y.bt.two.2; have q2 := HN.out.a.bt.two.1; have q3 := HN.out.a.bt.two.2; have q4 := HN.out.b.bt.two.1; have q5 := HN.out.b.bt.two.2)
          | (go_at_call 16; with_reducible refine (IL.out _ HN).mono ?_; rintro e w' ⟨rfl, HN⟩; have k0 := HN.out.n.t.bt.two.1; have k1 := HN.out.n.t.bt.two.2; have k2 := HN.out.n.s.bt.two.1; have k3 := HN.out.n.s.bt.two.2; have q0 := HN.out.y.bt.two.1; have q1 := HN.out.y.bt.two.2; have q2 := HN.out.a.bt.two.1; have q3 := HN.out.a.bt.two.2; have q4 := HN.out.b.bt.two.1; have q5 := HN.out.b.bt.two.2)
          | (go_at_call 6; with_reducible refine (IVL.out _ HN).mono ?_; rintro e w' ⟨rfl, HN⟩; have k0 := HN.out.n.t.bt.two.1; have k1 := HN.out.n.t.bt.two.2; have k2 := HN.out.n.s.bt.two.1; have k3 := HN.out.n.s.bt.two.2; have q0 := HN.out.y.bt.two.1; have q1 := HN.out.y.bt.two.2; have q2 := HN.out.a.bt.two.1; have q3 := HN.out.a.bt.two.2; have q4 := HN.out.b.bt.two.1; have q5 := HN.out.b.bt.two.2))
        go_ret
        exact ⟨rfl, HN.out.n.t.low⟩

end Go.Proofs.YtpdmbmfjeankbaaGreatDoor
