/- Merged: LTLaw. -/
import Derived.Test.YtonkaoacohocjaaDoorLt10
import Derived.Test.YtonkaoacohocjaaDoorLt12

/- FnLifeTables: lives and deaths add up, a life table is found from its text. -/
namespace Go.Proofs.YtonkaoacohocjaaDoor
open Go.ChangeShapes Go.WideShapes Go.ChangeAt Go.RowKit
set_option linter.unusedVariables false
set_option maxRecDepth 100000

/-! ### plain facts -/

theorem sgs_jn (F : Int) (xs : List Int) (h : Nums (F :: xs)) : sgs (jn (F :: xs)) = F :: xs ∧ (sp (jn (F :: xs))).all sgO = true ∧ (sp (jn (F :: xs))).length = xs.length + 1 := by
  have hs : sp (jn (F :: xs)) = (F :: xs).map Lib.itoa := sp_jn F xs fun x hx => (h x hx).1
  refine ⟨?_, ?_, ?_⟩
  · unfold sgs
    rw [hs, List.map_map]
    conv => rhs; rw [← List.map_id (F :: xs)]
    refine List.map_congr_left fun x hx => ?_
    have := h x hx
    exact (sg_itoa x this.1 (by omega)).2
  · rw [hs, List.all_eq_true]
    intro w hw
    obtain ⟨x, hx, rfl⟩ := List.mem_map.1 hw
    have := h x hx
    exact (sg_itoa x this.1 (by omega)).1
  · rw [hs]; simp

/-- a life table is found from its text -/
theorem rt_text {F : Int} {xs : List Int} (h : ltB F xs = true) : rtO (jn (F :: xs)) = true ∧ trF (jn (F :: xs)) = F ∧ trY (jn (F :: xs)) = xs := by
  have ht := (ltB_iff _ _).1 h
  obtain ⟨h1, h2, h3⟩ := sgs_jn F xs ht.nums
  have hr : rtO (jn (F :: xs)) = true := by
    rw [← st_eq]
    unfold stO
    rw [h1, h2, h3]
    have := ht.2.1
    simp [h]
    omega
  have h4 := (rt_st hr).2
  rw [h1] at h4
  injection h4 with h5 h6
  exact ⟨hr, by simp [trF, hr, ← h5], by simp [trY, hr, ← h6]⟩

theorem rt_nil : rtO [] = false := by
  rw [← st_eq]
  unfold stO
  simp [sp]

theorem itoa_ne (n : Int) (h : 0 ≤ n) : Lib.itoa n ≠ [] := by
  obtain ⟨u, rfl⟩ := Int.eq_ofNat_of_zero_le h
  rw [itoa_nat]; exact dig_ne_nil u

/-- the text of the table that was found is the text that was read -/
theorem text_rt {l : List UInt8} (h : rtO l = true) : ttT (trF l) (trY l) = l ∧ ltB (trF l) (trY l) = true := by
  have h' := h
  unfold rtO rnO at h'
  rw [Bool.and_eq_true, Bool.and_eq_true] at h'
  obtain ⟨⟨_, h2⟩, h3⟩ := h'
  have e1 : trF l = rnF l := by simp [trF, h]
  have e2 : trY l = rnL l := by simp [trY, h]
  rw [e1, e2]
  exact ⟨by rw [ttT_t h3]; simpa using h2, h3⟩

/-! ### tables that lie in a box -/

structure HT (w : World) (T : Nat) (f : Int) (a : Option Addr) (n c : Nat) (xs : List Int) : Prop where
  c0 : w.cell? ⟨T, 0, none⟩ = some (.int .i64 f)
  c1 : w.cell? ⟨T, 1, none⟩ = some (.slice a n c)
  ints : Ints w a n xs

theorem HT.step {w1 w2 : World} {T : Nat} {f : Int} {a : Option Addr} {n c : Nat} {xs : List Int} (h : HT w1 T f a n c xs) (hb : Below w1.heap.size w1 w2) : HT w2 T f a n c xs :=
  ⟨keep2 hb h.c0, keep2 hb h.c1, h.ints.on hb⟩

theorem HT.new {w : World} {f : Int} {a : Option Addr} {n c : Nat} {xs : List Int} (h : Ints w a n xs) : HT (w.alloc (.cells #[.int .i64 f, .slice a n c] 26)) w.heap.size f a n c xs :=
  ⟨World.cell?_alloc_new _ _ _ _, World.cell?_alloc_new _ _ _ _, h.on (box_b _ _)⟩

/-- one table's box -/
structure B1 (w w' : World) (T : Nat) (F : Int) (ta : Option Addr) (tn tc : Nat) (xs : List Int) : Prop where
  low : Below w.heap.size w w'
  t : HT w' T F ta tn tc xs

theorem B1.step {w w1 w2 : World} {T : Nat} {F : Int} {ta : Option Addr} {tn tc : Nat} {xs : List Int} (h : B1 w w1 T F ta tn tc xs) (hb : Below w1.heap.size w1 w2) : B1 w w2 T F ta tn tc xs :=
  ⟨h.low.trans (hb.mono h.low.size), h.t.step hb⟩

/-- four tables' boxes -/
structure B4 (w w' : World) (T X Y Z : Nat) (F : Int) (ta : Option Addr) (tn tc : Nat) (xs : List Int) (G : Int) (ga : Option Addr) (gn gc : Nat) (ys : List Int) (H : Int) (ha : Option Addr) (hn hc : Nat) (ia : Option Addr) (nn ic : Nat) (zs : List Int) : Prop where
  low : Below w.heap.size w w'
  t : HT w' T F ta tn tc xs
  x : HT w' X G ga gn gc ys
  y : HT w' Y H ha hn hc zs
  z : HT w' Z H ia nn ic zs

theorem B4.step {w w1 w2 : World} {T X Y Z : Nat} {F : Int} {ta : Option Addr} {tn tc : Nat} {xs : List Int} {G : Int} {ga : Option Addr} {gn gc : Nat} {ys : List Int} {H : Int} {ha : Option Addr} {hn hc : Nat} {ia : Option Addr} {nn ic : Nat} {zs : List Int} (h : B4 w w1 T X Y Z F ta tn tc xs G ga gn gc ys H ha hn hc ia nn ic zs) (hb : Below w1.heap.size w1 w2) : B4 w w2 T X Y Z F ta tn tc xs G ga gn gc ys H ha hn hc ia nn ic zs :=
  ⟨h.low.trans (hb.mono h.low.size), h.t.step hb, h.x.step hb, h.y.step hb, h.z.step hb⟩

theorem B1.ask {w w1 : World} {T : Nat} {F : Int} {ta : Option Addr} {tn tc : Nat} {xs : List Int} (h : B1 w w1 T F ta tn tc xs) (ha : AskT w) : AskT w1 := ha.step h.low

set_option maxHeartbeats 4000000 in
theorem fnLifeTables_walk (a0 : Option Addr) (len0 cap0 : Nat) (z0 : List Int) (w : World) (hr : IsRow .u8 w a0 len0 cap0 z0) (ht : Tab w) (hsh : w.ShapedOpen Tryd.prog) (h1 : ErrIs w "strconv.ErrSyntax") (h2 : ErrIs w "strconv.ErrRange") :
    Calls Tryd.prog 3 #[.slice a0 len0 cap0] w fun e w' => e = .returned (.bool true) ∧ Below w.heap.size w w' := by
  have HA := Lib.hid (AskT.mk ht ⟨h1, h2, hsh⟩)
  clear ht hsh h1 h2
  by_cases hbig : (4096 : Int) < len0
  · go_enter Tryd.func3, Tryd.ntmps3
    go_wp2_with (go_at_call 6; refine (bigT_any _ _ _ _).mono ?_; rintro e w' ⟨rfl, rfl⟩)
    go_ret
    exact ⟨rfl, Below.refl _ _⟩
  have HR := Lib.hid hr
  have HRA := Lib.hid hr.apart
  clear hr
  go_enter Tryd.func3, Tryd.ntmps3
  go_wp2_with (go_at_call 6; refine (bigT_any _ _ _ _).mono ?_; rintro e w' ⟨rfl, rfl⟩)
  refine (drawDA _ _ _ _ _ HR.out).mono ?_
  rintro e w1 ⟨F, ta, tn, tc, xs, x, rfl, hI, htc, htn, _, hb⟩
  have hN := HT.new (f := F) (c := tc) hI
  have hq := box_b w1 (.cells #[.int .i64 F, .slice ta tn tc] 26)
  have HF : Hid (B1 w (w1.alloc (.cells #[.int .i64 F, .slice ta tn tc] 26)) w1.heap.size F ta tn tc xs) := Lib.hid ⟨hb.trans (hq.mono hb.size), hN⟩
  clear hb hI hN hq
  go_wp2_with fail
  obtain ⟨T, hT⟩ : ∃ T, w1.heap.size = T := ⟨_, rfl⟩
  rw [hT] at HF
  (try rw [hT])
  clear hT
  have k0 := HF.out.t.c0
  have k1 := HF.out.t.c1
  generalize (w1.alloc (.cells #[.int .i64 F, .slice ta tn tc] 26)) = v2 at HF k0 k1 ⊢
  have DI : Hid (∀ y W, Hid (B1 w W T F ta tn tc xs) → Calls Tryd.prog 8 #[.agg #[.int .i64 F, .slice ta tn tc], .int .i64 y] W fun e w' => e = .returned (.tuple #[.int .i64 (daV F xs y), .int .i64 (ageE F xs y)]) ∧ Hid (B1 w w' T F ta tn tc xs)) :=
    Lib.hid (fun y W hW => (da_impl F xs ta tn tc y W hW.out.t.ints htc).mono fun e w' ⟨he, hb⟩ => ⟨he, Lib.hid (hW.out.step hb)⟩)
  have DS : Hid (∀ W, Hid (B1 w W T F ta tn tc xs) → Calls Tryd.prog 9 #[.agg #[.int .i64 F, .slice ta tn tc], .int .i64 x] W fun e w' => e = .returned (.tuple #[.int .i64 (daV F xs x), .int .i64 (ageE F xs x)]) ∧ Hid (B1 w w' T F ta tn tc xs)) :=
    Lib.hid (fun W hW => (da_spec F xs ta tn tc x W hW.out.t.ints).mono fun e w' ⟨he, hb⟩ => ⟨he, Lib.hid (hW.out.step hb)⟩)
  have LI : Hid (∀ W, Hid (B1 w W T F ta tn tc xs) → Calls Tryd.prog 10 #[.agg #[.int .i64 F, .slice ta tn tc], .int .i64 x] W fun e w' => e = .returned (.tuple #[.int .i64 (laV F xs x), .int .i64 (ageE F xs x)]) ∧ Hid (B1 w w' T F ta tn tc xs)) :=
    Lib.hid (fun W hW => (la_impl F xs ta tn tc x W hW.out.t.ints htc).mono fun e w' ⟨he, hb⟩ => ⟨he, Lib.hid (hW.out.step hb)⟩)
  have LS : Hid (∀ W, Hid (B1 w W T F ta tn tc xs) → Calls Tryd.prog 11 #[.agg #[.int .i64 F, .slice ta tn tc], .int .i64 x] W fun e w' => e = .returned (.tuple #[.int .i64 (laV F xs x), .int .i64 (ageE F xs x)]) ∧ Hid (B1 w w' T F ta tn tc xs)) :=
    Lib.hid (fun W hW => (la_spec F xs ta tn tc x W hW.out.t.ints).mono fun e w' ⟨he, hb⟩ => ⟨he, Lib.hid (hW.out.step hb)⟩)
  have DE : Hid (∀ y, ltB F xs = true → F ≤ y → y ≤ 150 → daV F xs y = lvs F xs y - lvs F xs (y + 1) ∧ ageE F xs y = 0) := Lib.hid (fun y h1 h2 h3 => by
    have e := ageE_0 (x := y) h1 ⟨h2, h3⟩
    exact ⟨by simp [daV, e], e⟩)
  obtain ⟨E, hE⟩ : ∃ E, ageE F xs x = E := ⟨_, rfl⟩
  obtain ⟨L, hL⟩ : ∃ L, laV F xs x = L := ⟨_, rfl⟩
  obtain ⟨D, hD⟩ : ∃ D, daV F xs x = D := ⟨_, rfl⟩
  have DX := Lib.hid (DI.out x)
  rw [hE, hD] at DX DS
  rw [hE, hL] at LI LS
  have HE := Lib.hid hE
  have HL := Lib.hid hL
  clear hE hL hD
  go_wp2_with (first
    | (go_at_call 8; refine (DX.out _ HF).mono ?_; rintro e w' ⟨rfl, HF⟩; have k0 := HF.out.t.c0; have k1 := HF.out.t.c1)
    | (go_at_call 9; refine (DS.out _ HF).mono ?_; rintro e w' ⟨rfl, HF⟩; have k0 := HF.out.t.c0; have k1 := HF.out.t.c1)
    | (go_at_call 10; refine (LI.out _ HF).mono ?_; rintro e w' ⟨rfl, HF⟩; have k0 := HF.out.t.c0; have k1 := HF.out.t.c1)
    | (go_at_call 11; refine (LS.out _ HF).mono ?_; rintro e w' ⟨rfl, HF⟩; have k0 := HF.out.t.c0; have k1 := HF.out.t.c1))
  have HTB := Lib.hid (HF.out.ask HA.out).tab
  clear DX DS LI LS
  refine (tt_impl F xs ta tn tc _ HF.out.t.ints htc HTB.out).mono ?_
  rintro e w3 ⟨rfl, hb3⟩
  have HF := Lib.hid (HF.out.step hb3)
  have k0 := HF.out.t.c0
  have k1 := HF.out.t.c1
  have htl := ttT_len F xs
  obtain ⟨t, htt⟩ : ∃ t : ByteArray, (⟨(ttT F xs).toArray⟩ : ByteArray) = t := ⟨_, rfl⟩
  have hts : t.size ≤ 3000 := by rw [← htt]; show (ttT F xs).toArray.size ≤ 3000; simpa using htl
  have hdt : t.data.toList = ttT F xs := by rw [← htt]
  have HTT := Lib.hid htt
  rw [htt]
  clear hb3 htl htt HTB
  have RT := Lib.hid (rt_impl t w3 (by omega) (HF.out.ask HA.out))
  have HO1 : Hid (rtO (ttT F xs) = ltB F xs ∧ (ltB F xs = true → trF (ttT F xs) = F ∧ trY (ttT F xs) = xs)) := Lib.hid (by
    cases h : ltB F xs with
    | true => rw [ttT_t h]; exact ⟨(rt_text h).1, fun _ => (rt_text h).2⟩
    | false => rw [ttT_f h]; exact ⟨rt_nil, fun h => by cases h⟩)
  unfold TrPost at RT
  rw [hdt] at RT
  rw [HO1.out.1] at RT
  obtain ⟨G, hG⟩ : ∃ G, trF (ttT F xs) = G := ⟨_, rfl⟩
  obtain ⟨ys, hY⟩ : ∃ ys, trY (ttT F xs) = ys := ⟨_, rfl⟩
  rw [hG, hY] at RT HO1
  clear hG hY
  go_wp2_with fail
  refine RT.out.mono ?_
  rintro e w4 ⟨ga, gn, gc, rfl, _, hT4, hb4⟩
  have HF := Lib.hid (HF.out.step hb4)
  have HX := Lib.hid hT4.ints
  clear RT hT4 hb4 k0 k1
  have hn4 := HT.new (f := G) (c := gc) HX.out
  have hq4 := box_b w4 (.cells #[.int .i64 G, .slice ga gn gc] 26)
  have HF := Lib.hid (HF.out.step hq4)
  clear HX hq4
  go_wp2_with fail
  obtain ⟨X, hX⟩ : ∃ X, w4.heap.size = X := ⟨_, rfl⟩
  rw [hX] at hn4
  (try rw [hX])
  clear hX
  have HX := Lib.hid hn4
  generalize (w4.alloc (.cells #[.int .i64 G, .slice ga gn gc] 26)) = v4 at HF HX ⊢
  clear hn4
  refine (drawRT _ _ _ _ _ (HR.out.below HF.out.low HRA.out)).mono ?_
  rintro e w5 ⟨r, rfl, hrs, hb5⟩
  have HF := Lib.hid (HF.out.step hb5)
  have HX := Lib.hid (HX.out.step hb5)
  have RI := Lib.hid (rt_impl r w5 (by omega) (HF.out.ask HA.out))
  have RS := Lib.hid (fun W => rt_spec r W (by omega))
  have HO2 : Hid (rtO r.data.toList = true → (⟨(ttT (trF r.data.toList) (trY r.data.toList)).toArray⟩ : ByteArray) = r) := Lib.hid (fun h => by rw [(text_rt h).1])
  have HO3 : Hid (trF r.data.toList = 0 ∧ trY r.data.toList = [] ∨ rtO r.data.toList = true) := Lib.hid (by
    cases h : rtO r.data.toList with
    | true => exact .inr rfl
    | false => exact .inl ⟨by simp [trF, h], by simp [trY, h]⟩)
  unfold TrPost at RI RS
  obtain ⟨H, hH⟩ : ∃ G, trF r.data.toList = G := ⟨_, rfl⟩
  obtain ⟨zs, hZ⟩ : ∃ ys, trY r.data.toList = ys := ⟨_, rfl⟩
  obtain ⟨o2, ho2⟩ : ∃ o, rtO r.data.toList = o := ⟨_, rfl⟩
  rw [hH, hZ, ho2] at RI RS HO2 HO3
  clear hb5 hH hZ ho2
  go_wp2_with fail
  refine RI.out.mono ?_
  rintro e w6 ⟨ha, hn, hc, rfl, hnc6, hT6, hb6⟩
  have HF := Lib.hid (HF.out.step hb6)
  have HX := Lib.hid (HX.out.step hb6)
  have hn6 := HT.new (f := H) (c := hc) hT6.ints
  have hq6 := box_b w6 (.cells #[.int .i64 H, .slice ha hn hc] 26)
  have HYC : Hid (hn ≤ hc) := Lib.hid hnc6
  have HF := Lib.hid (HF.out.step hq6)
  have HX := Lib.hid (HX.out.step hq6)
  clear RI hT6 hb6 hq6
  go_wp2_with fail
  obtain ⟨Y, hY⟩ : ∃ X, w6.heap.size = X := ⟨_, rfl⟩
  rw [hY] at hn6
  (try rw [hY])
  clear hY
  have HY := Lib.hid hn6
  generalize (w6.alloc (.cells #[.int .i64 H, .slice ha hn hc] 26)) = v6 at HF HX HY ⊢
  clear hn6
  refine (RS.out _).mono ?_
  rintro e w7 ⟨ia, nn, ic, rfl, _, hT7, hb7⟩
  have HF := Lib.hid (HF.out.step hb7)
  have HX := Lib.hid (HX.out.step hb7)
  have HY := Lib.hid (HY.out.step hb7)
  have hn7 := HT.new (f := H) (c := ic) hT7.ints
  have hq7 := box_b w7 (.cells #[.int .i64 H, .slice ia nn ic] 26)
  have HF := Lib.hid (HF.out.step hq7)
  have HX := Lib.hid (HX.out.step hq7)
  have HY := Lib.hid (HY.out.step hq7)
  clear RS hT7 hb7 hq7
  have H4 : Hid (B4 w (w7.alloc (.cells #[.int .i64 H, .slice ia nn ic] 26)) T X Y w7.heap.size F ta tn tc xs G ga gn gc ys H ha hn hc ia nn ic zs) := Lib.hid ⟨HF.out.low, HF.out.t, HX.out, HY.out, hn7⟩
  obtain ⟨Z, hZ⟩ : ∃ X, w7.heap.size = X := ⟨_, rfl⟩
  rw [hZ] at H4
  clear HF HX HY hn7
  have q0 := H4.out.t.c0
  have q1 := H4.out.t.c1
  have q2 := H4.out.x.c0
  have q3 := H4.out.x.c1
  have q4 := H4.out.y.c0
  have q5 := H4.out.y.c1
  have q6 := H4.out.z.c0
  have q7 := H4.out.z.c1
  have TS : Hid (∀ W, Hid (B4 w W T X Y Z F ta tn tc xs G ga gn gc ys H ha hn hc ia nn ic zs) → Calls Tryd.prog 16 #[.agg #[.int .i64 F, .slice ta tn tc]] W fun e w' => e = .returned (.string t) ∧ Hid (B4 w w' T X Y Z F ta tn tc xs G ga gn gc ys H ha hn hc ia nn ic zs)) :=
    Lib.hid (fun W hW => (tt_spec F xs ta tn tc W hW.out.t.ints).mono fun e w' ⟨he, hb⟩ => ⟨by rw [he, HTT.out], Lib.hid (hW.out.step hb)⟩)
  have K1 : Hid (∀ W, ltB F xs = true → Hid (B4 w W T X Y Z F ta tn tc xs G ga gn gc ys H ha hn hc ia nn ic zs) → Calls Tryd.prog 17 #[.agg #[.int .i64 G, .slice ga gn gc], .agg #[.int .i64 F, .slice ta tn tc]] W fun e w' => e = .returned (.bool true) ∧ Hid (B4 w w' T X Y Z F ta tn tc xs G ga gn gc ys H ha hn hc ia nn ic zs)) :=
    Lib.hid (fun W hl hW => by
      obtain ⟨e1, e2⟩ := HO1.out.2 hl
      have hx := hW.out.x.ints
      rw [e2] at hx
      have hk : Calls Tryd.prog 17 #[.agg #[.int .i64 G, .slice ga gn gc], .agg #[.int .i64 F, .slice ta tn tc]] W fun e w' => e = .returned (.bool true) ∧ Below W.heap.size W w' := by
        rw [e1]; exact likeT_same F xs ga ta gn tn gc tc W hx hW.out.t.ints
      exact hk.mono fun e w' ⟨he, hb⟩ => ⟨he, Lib.hid (hW.out.step hb)⟩)
  have K2 : Hid (∀ W, Hid (B4 w W T X Y Z F ta tn tc xs G ga gn gc ys H ha hn hc ia nn ic zs) → Calls Tryd.prog 17 #[.agg #[.int .i64 H, .slice ha hn hc], .agg #[.int .i64 H, .slice ia nn ic]] W fun e w' => e = .returned (.bool true) ∧ Hid (B4 w w' T X Y Z F ta tn tc xs G ga gn gc ys H ha hn hc ia nn ic zs)) :=
    Lib.hid (fun W hW => (likeT_same H zs ha ia hn nn hc ic W hW.out.y.ints hW.out.z.ints).mono fun e w' ⟨he, hb⟩ => ⟨he, Lib.hid (hW.out.step hb)⟩)
  have TY : Hid (∀ W, o2 = true → Hid (B4 w W T X Y Z F ta tn tc xs G ga gn gc ys H ha hn hc ia nn ic zs) → Calls Tryd.prog 12 #[.agg #[.int .i64 H, .slice ha hn hc]] W fun e w' => e = .returned (.string r) ∧ Hid (B4 w w' T X Y Z F ta tn tc xs G ga gn gc ys H ha hn hc ia nn ic zs)) :=
    Lib.hid (fun W ho hW => (tt_impl H zs ha hn hc W hW.out.y.ints HYC.out (HA.out.step hW.out.low).tab).mono fun e w' ⟨he, hb⟩ => ⟨by rw [he, HO2.out ho], Lib.hid (hW.out.step hb)⟩)
  have IL : Hid (∀ W, Hid (B4 w W T X Y Z F ta tn tc xs G ga gn gc ys H ha hn hc ia nn ic zs) → Calls Tryd.prog 18 #[.agg #[.int .i64 F, .slice ta tn tc]] W fun e w' => e = .returned (.bool (ltB F xs)) ∧ Hid (B4 w w' T X Y Z F ta tn tc xs G ga gn gc ys H ha hn hc ia nn ic zs)) :=
    Lib.hid (fun W hW => (isL_impl F xs ta tn tc W hW.out.t.ints htc).mono fun e w' ⟨he, hb⟩ => ⟨he, Lib.hid (hW.out.step hb)⟩)
  have HTN : Hid (t = ⟨#[]⟩ ↔ ltB F xs = false) := Lib.hid (by
    cases hl : ltB F xs with
    | true =>
      have hne : t.data.toList ≠ [] := by
        rw [hdt, ttT_t hl]
        have := itoa_ne F ((ltB_iff _ _).1 hl).1.1
        simp [jn, this]
      constructor
      · intro e; rw [e] at hne; exact absurd rfl hne
      · intro e; cases e
    | false =>
      have : t = ⟨#[]⟩ := by
        rw [← HTT.out, ttT_f hl]
      simp [this])
  go_wp2_with fail
  clear hZ
  generalize (w7.alloc (.cells #[.int .i64 H, .slice ia nn ic] 26)) = v7 at H4 q0 q1 q2 q3 q4 q5 q6 q7 ⊢
  obtain ⟨o1, ho1⟩ : ∃ o, ltB F xs = o := ⟨_, rfl⟩
  have HL1 := Lib.hid ho1
  rw [ho1] at K1 IL HTN
  (try rw [ho1])
  have HTE : Hid (t.toList = [] ↔ o1 = false) := Lib.hid (by
    rw [toList_eq, ← HTN.out]
    constructor
    · intro h; apply ByteArray.ext; apply Array.toList_inj.1; rw [h]
    · intro h; rw [h])
  clear ho1 hdt HTN HTT HO1 HO2 HO3 hts
  by_cases hE0 : E = 0
  · subst hE0
    obtain ⟨hlt, hx0, hx1⟩ := ageE_iff.1 HE.out
    have hl1 : o1 = true := by rw [← HL1.out]; exact ltB_t hlt
    subst hl1
    have hLL : L = lvs F xs x := by rw [← HL.out]; simp [laV, HE.out]
    subst hLL
    have HLT := Lib.hid hlt
    have hbd := hlt.lvs_bd x
    clear hlt HL
    have hte : ¬ t.toList = [] := fun h => by have := HTE.out.1 h; cases this
    have hte2 : t.toList.isEmpty = false := by cases h : t.toList with | nil => exact absurd h hte | cons => rfl
    have KA := Lib.hid (fun W hW => K1.out W rfl hW)
    clear K1
    cases o2
    all_goals
      try have TA := Lib.hid (fun W hW => TY.out W rfl hW)
      clear TY
      go_wp2_with (first
        | (go_at_call 16; refine (TS.out _ H4).mono ?_; rintro e w' ⟨rfl, H4⟩; have q0 := H4.out.t.c0; have q1 := H4.out.t.c1; have q2 := H4.out.x.c0; have q3 := H4.out.x.c1; have q4 := H4.out.y.c0; have q5 := H4.out.y.c1; have q6 := H4.out.z.c0; have q7 := H4.out.z.c1)
        | (go_at_call 17; ((first | (with_reducible refine (K2.out _ H4).mono ?_) | (with_reducible refine (KA.out _ H4).mono ?_)); rintro e w' ⟨rfl, H4⟩; have q0 := H4.out.t.c0; have q1 := H4.out.t.c1; have q2 := H4.out.x.c0; have q3 := H4.out.x.c1; have q4 := H4.out.y.c0; have q5 := H4.out.y.c1; have q6 := H4.out.z.c0; have q7 := H4.out.z.c1))
        | (go_at_call 12; refine (TA.out _ H4).mono ?_; rintro e w' ⟨rfl, H4⟩; have q0 := H4.out.t.c0; have q1 := H4.out.t.c1; have q2 := H4.out.x.c0; have q3 := H4.out.x.c1; have q4 := H4.out.y.c0; have q5 := H4.out.y.c1; have q6 := H4.out.z.c0; have q7 := H4.out.z.c1)
        | (go_at_call 18; refine (IL.out _ H4).mono ?_; rintro e w' ⟨rfl, H4⟩; have q0 := H4.out.t.c0; have q1 := H4.out.t.c1; have q2 := H4.out.x.c0; have q3 := H4.out.x.c1; have q4 := H4.out.y.c0; have q5 := H4.out.y.c1; have q6 := H4.out.z.c0; have q7 := H4.out.z.c1))
      clear KA K2 TS IL
      have HB1 : Hid (B1 w _ T F ta tn tc xs) := Lib.hid ⟨H4.out.low, H4.out.t⟩
      obtain ⟨p, hp⟩ : ∃ p, lvs F xs x = p := ⟨_, rfl⟩
      rw [hp] at hbd
      (try rw [hp])
      have HP := Lib.hid hp
      clear hp H4 q0 q1 q2 q3 q4 q5 q6 q7
      go_loopw [21, 22] (fun s a wr => ∃ (k : Nat) (u : Int), x + (k : Int) ≤ 151 ∧ a = .int .i64 (x + k) ∧ s = .int .i64 (p - u) ∧ 0 ≤ u ∧ u ≤ p ∧ Hid (lvs F xs (x + k) = u) ∧ Hid (B1 w wr T F ta tn tc xs)) (fun _ a _ => (151 - intOf a).toNat)
      case atStart => exact ⟨0, p, by omega, by simp, by simp, by omega, by omega, Lib.hid (by simpa using HP.out), HB1⟩
      case round =>
        obtain ⟨k, u, hk, rfl, rfl, u0, u1, HU, HB1⟩ := hrel
        have k0 := HB1.out.t.c0
        have k1 := HB1.out.t.c1
        have hv := HLT.out.lvs_bd (x + k + 1)
        have hvu := HLT.out.lvs_mono (x + k) (x + k + 1) (by omega)
        have f0 := HLT.out.1.1
        have hfar := HLT.out.2.2.1
        by_cases hle : x + (k : Int) ≤ 150
        · obtain ⟨e1, e2⟩ := DE.out (x + k) (ltB_t HLT.out) (by omega) hle
          have DK := Lib.hid (DI.out (x + k))
          rw [e1, e2, HU.out] at DK
          rw [HU.out] at hvu
          obtain ⟨v, hv0⟩ : ∃ v, lvs F xs (x + k + 1) = v := ⟨_, rfl⟩
          rw [hv0] at DK hv hvu
          have HV := Lib.hid hv0
          clear e1 e2 hv0
          go_wp2_with (first
            | (go_at_call 8; refine (DK.out _ HB1).mono ?_; rintro e w' ⟨rfl, HB1⟩; have k0 := HB1.out.t.c0; have k1 := HB1.out.t.c1))
          go_roundw
          case rel => exact ⟨k + 1, v, by omega, by go_num, by go_num, by omega, by omega, Lib.hid (by rw [← HV.out]; congr 1; omega), HB1⟩
          case measure => simp [intOf]; omega
        · have hu0 : u = 0 := by rw [← HU.out]; exact HLT.out.lvs_zero _ (by omega)
          subst hu0
          clear hv hvu
          go_wp2_with fail
          go_ret
          exact ⟨ret_bool (by simp), HB1.out.low⟩
  · have hE1 : (E == 0) = false := by simpa using hE0
    cases o1 with
    | true =>
      have hte : ¬ t.toList = [] := fun h => by have := HTE.out.1 h; cases this
      have hte2 : t.toList.isEmpty = false := by cases h : t.toList with | nil => exact absurd h hte | cons => rfl
      have KA := Lib.hid (fun W hW => K1.out W rfl hW)
      clear K1
      cases o2
      all_goals
        try have TA := Lib.hid (fun W hW => TY.out W rfl hW)
        clear TY
        go_wp2_with (first
          | (go_at_call 16; refine (TS.out _ H4).mono ?_; rintro e w' ⟨rfl, H4⟩; have q0 := H4.out.t.c0; have q1 := H4.out.t.c1; have q2 := H4.out.x.c0; have q3 := H4.out.x.c1; have q4 := H4.out.y.c0; have q5 := H4.out.y.c1; have q6 := H4.out.z.c0; have q7 := H4.out.z.c1)
          | (go_at_call 17; ((first | (with_reducible refine (K2.out _ H4).mono ?_) | (with_reducible refine (KA.out _ H4).mono ?_)); rintro e w' ⟨rfl, H4⟩; have q0 := H4.out.t.c0; have q1 := H4.out.t.c1; have q2 := H4.out.x.c0; have q3 := H4.out.x.c1; have q4 := H4.out.y.c0; have q5 := H4.out.y.c1; have q6 := H4.out.z.c0; have q7 := H4.out.z.c1))
          | (go_at_call 12; refine (TA.out _ H4).mono ?_; rintro e w' ⟨rfl, H4⟩; have q0 := H4.out.t.c0; have q1 := H4.out.t.c1; have q2 := H4.out.x.c0; have q3 := H4.out.x.c1; have q4 := H4.out.y.c0; have q5 := H4.out.y.c1; have q6 := H4.out.z.c0; have q7 := H4.out.z.c1)
          | (go_at_call 18; refine (IL.out _ H4).mono ?_; rintro e w' ⟨rfl, H4⟩; have q0 := H4.out.t.c0; have q1 := H4.out.t.c1; have q2 := H4.out.x.c0; have q3 := H4.out.x.c1; have q4 := H4.out.y.c0; have q5 := H4.out.y.c1; have q6 := H4.out.z.c0; have q7 := H4.out.z.c1))
        go_ret
        exact ⟨rfl, H4.out.low⟩
    | false =>
      have hte : t.toList = [] := HTE.out.2 rfl
      have hte2 : t.toList.isEmpty = true := by rw [hte]; rfl
      cases o2
      all_goals
        try have TA := Lib.hid (fun W hW => TY.out W rfl hW)
        clear TY
        go_wp2_with (first
          | (go_at_call 16; refine (TS.out _ H4).mono ?_; rintro e w' ⟨rfl, H4⟩; have q0 := H4.out.t.c0; have q1 := H4.out.t.c1; have q2 := H4.out.x.c0; have q3 := H4.out.x.c1; have q4 := H4.out.y.c0; have q5 := H4.out.y.c1; have q6 := H4.out.z.c0; have q7 := H4.out.z.c1)
          | (go_at_call 17; ((first | (with_reducible refine (K2.out _ H4).mono ?_) | (with_reducible refine (KA.out _ H4).mono ?_)); rintro e w' ⟨rfl, H4⟩; have q0 := H4.out.t.c0; have q1 := H4.out.t.c1; have q2 := H4.out.x.c0; have q3 := H4.out.x.c1; have q4 := H4.out.y.c0; have q5 := H4.out.y.c1; have q6 := H4.out.z.c0; have q7 := H4.out.z.c1))
          | (go_at_call 12; refine (TA.out _ H4).mono ?_; rintro e w' ⟨rfl, H4⟩; have q0 := H4.out.t.c0; have q1 := H4.out.t.c1; have q2 := H4.out.x.c0; have q3 := H4.out.x.c1; have q4 := H4.out.y.c0; have q5 := H4.out.y.c1; have q6 := H4.out.z.c0; have q7 := H4.out.z.c1)
          | (go_at_call 18; refine (IL.out _ H4).mono ?_; rintro e w' ⟨rfl, H4⟩; have q0 := H4.out.t.c0; have q1 := H4.out.t.c1; have q2 := H4.out.x.c0; have q3 := H4.out.x.c1; have q4 := H4.out.y.c0; have q5 := H4.out.y.c1; have q6 := H4.out.z.c0; have q7 := H4.out.z.c1))
        go_ret
        exact ⟨rfl, H4.out.low⟩

end Go.Proofs.YtonkaoacohocjaaDoor
