/- The exact law on MakeTable: the program answers as its model, what it hands over is its own. -/
import Derived.Test.YtonkaoacohocjaaMakeL
namespace Go.Proofs.Ytonkaoacohocjaa
open Go.ChangeShapes Go.WideShapes Go.ChangeAt Go.RowKit
set_option linter.unusedVariables false

theorem Ints.onlyT {w w' : World} {a : Option Addr} {l B : Nat} {xs : List Int} (h : Ints w a l xs) (ho : Only B w w') (hne : ∀ x, a = some x → x.block ≠ B) : Ints w' a l xs := by
  refine ⟨h.len, h.max, ?_⟩
  rcases h.cells with h0 | ⟨b, off, rfl, hc⟩
  · exact .inl h0
  · exact .inr ⟨b, off, rfl, fun i hi => (ho.cell (p := ⟨b, off + i, none⟩) (hne ⟨b, off, none⟩ rfl)).trans (hc i hi)⟩

theorem TbR.only {base n B : Nat} {w w' : World} {a : Option Addr} {ys : List Int} (h : TbR base w a n ys) (ho : Only B w w') (hne : ∀ x, a = some x → x.block ≠ B) : TbR base w' a n ys := by
  obtain ⟨h1, h2, h3 | ⟨g, off, rfl, hb1, hg, hr⟩⟩ := h
  · exact ⟨h1, h2, .inl h3⟩
  · exact ⟨h1, h2, .inr ⟨g, off, rfl, hb1, by rw [ho.size]; exact hg, hr.only ho (hne _ rfl)⟩⟩

theorem Ints.butA {w w' : World} {a g : Option Addr} {l : Nat} {xs : List Int} (h : Ints w a l xs) (ho : ButA g w w') (hne : ∀ x y, a = some x → g = some y → y.block ≠ x.block) : Ints w' a l xs := by
  refine ⟨h.len, h.max, ?_⟩
  rcases h.cells with h0 | ⟨b, off, rfl, hc⟩
  · exact .inl h0
  · exact .inr ⟨b, off, rfl, fun i hi => ho.cell (hc i hi) (fun y hy => hne ⟨b, off, none⟩ y rfl hy)⟩

set_option maxRecDepth 100000 in
set_option maxHeartbeats 4000000 in
theorem fnExactMakeTable_walk (a0 : Int) (a1 : Int) (a2 : Option Addr) (len2 cap2 : Nat) (z2 : List Int) (w : World) (w0 : (Lit.int .i64 a0).wf = true) (w1 : (Lit.int .i64 a1).wf = true) (w2 : IsRow .i64 w a2 len2 cap2 z2) :
    Calls Try.prog 11 #[.int .i64 a0, .int .i64 a1, .slice a2 len2 cap2] w fun e w' => e = .returned (.bool true) ∧ Below w.heap.size w w' := by
  by_cases hbig : (1048576 : Int) < len2
  · have := w2.len_le
    unfold maxLen at this
    go_enter Try.func11, Try.ntmps11
    go_wp2_with fail
    go_ret
    exact ⟨rfl, Below.refl _ _⟩
  · have h0 := w2.ints (by omega)
    obtain ⟨rs, hxs⟩ : ∃ rs, z2.take len2 = rs := ⟨_, rfl⟩
    rw [hxs] at h0
    have H := Lib.hid h0
    have HL := Lib.hid h0.len
    clear h0 w2 hxs w0 w1
    obtain ⟨F, hF⟩ : ∃ F, mkF a0 a1 rs = F := ⟨_, rfl⟩
    obtain ⟨Y, hY⟩ : ∃ Y, mkY a0 a1 rs = Y := ⟨_, rfl⟩
    obtain ⟨E, hE⟩ : ∃ E, mkE a0 a1 rs = E := ⟨_, rfl⟩
    have CS : Hid (∀ (b : Option Addr) (d : Nat) (W : World), Ints W b len2 rs → Calls Try.prog 22 #[.int .i64 a0, .int .i64 a1, .slice b len2 d] W (TbPost F Y E W)) := Lib.hid (fun b d W hW => (mk_spec a0 a1 rs b len2 d W hW).mono fun e w' hh => by have := mk_tb hh; rw [hF, hY, hE] at this; exact this)
    have CI : Hid (∀ (b : Option Addr) (d : Nat) (W : World), Ints W b len2 rs → Calls Try.prog 21 #[.int .i64 a0, .int .i64 a1, .slice b len2 d] W (TbPost F Y E W)) := Lib.hid (fun b d W hW => (mk_impl a0 a1 rs b len2 d W hW).mono fun e w' hh => by have := mk_tb hh; rw [hF, hY, hE] at this; exact this)
    clear hF hY hE
    go_enter Try.func11, Try.ntmps11
    go_wp2_with fail
    refine (toS_any rs _ _ _ _ H.out (by omega)).mono ?_
    rintro e w1 ⟨rfl, hb1, hz1, hB1⟩
    have HB := Lib.hid hB1
    have HK := Lib.hid (hb1.ints HL.out (by omega))
    have hs1 : w.heap.size < w1.heap.size := by omega
    clear hb1 hz1 hB1
    go_wp2_with fail
    refine (CS.out _ _ _ HK.out).mono ?_
    rintro e w2 ⟨sa, sn, sc, rfl, hT, hb⟩
    have HB2 := Lib.hid (HB.out.trans (hb.mono HB.out.size))
    have hs2 : w1.heap.size ≤ w2.heap.size := hb.size
    have HS2 := Lib.hid hT.ints
    have HSA := Lib.hid hT.far
    have HWT : Hid (w.heap.size ≤ w2.heap.size) := Lib.hid (by omega)
    clear hb hT HB HK
    go_wp2_with fail
    obtain ⟨T7, hT7⟩ : ∃ T, w2.heap.size = T := ⟨_, rfl⟩
    have ht0 : (w2.alloc (.cells #[.int .i64 F, .slice sa sn sc] 26)).cell? ⟨T7, 0, none⟩ = some (.int .i64 F) := by subst hT7; go_simp
    have ht1 : (w2.alloc (.cells #[.int .i64 F, .slice sa sn sc] 26)).cell? ⟨T7, 1, none⟩ = some (.slice sa sn sc) := by subst hT7; go_simp
    have hB2 : Below w.heap.size w (w2.alloc (.cells #[.int .i64 F, .slice sa sn sc] 26)) := HB2.out.alloc HB2.out.size _
    have hI2 : Ints (w2.alloc (.cells #[.int .i64 F, .slice sa sn sc] 26)) sa sn Y := HS2.out.on (box_b _ _)
    have hz2 : (w2.alloc (.cells #[.int .i64 F, .slice sa sn sc] 26)).heap.size = T7 + 1 := by rw [World.size_alloc, hT7]
    rw [hT7] at HSA HWT hs2
    (try rw [hT7])
    clear HB2 HS2 hT7
    generalize (w2.alloc (.cells #[.int .i64 F, .slice sa sn sc] 26)) = v2 at ht0 ht1 hB2 hI2 hz2 ⊢
    refine (toS_any rs _ _ _ _ (H.out.on hB2) (by omega)).mono ?_
    rintro e w3 ⟨rfl, hk3, hz3, hb⟩
    have ht0 := keep2 hb ht0
    have ht1 := keep2 hb ht1
    have hB3 := hB2.trans (hb.mono hB2.size)
    have hI3 := hI2.on hb
    rw [hz2] at hk3 hz3
    (try rw [hz2])
    have HK3 := Lib.hid hk3
    have HZ3 := Lib.hid hz3
    have HB3 := Lib.hid hB3
    have HI3 := Lib.hid hI3
    have hs3 : T7 + 1 < w3.heap.size := by omega
    clear hb hB2 hI2 hB3 hI3 hk3 hz3 hz2
    go_wp2_with fail
    refine (CI.out _ _ _ (HK3.out.ints HL.out (by omega))).mono ?_
    rintro e w4 ⟨ga, gn, gc, rfl, hT, hb⟩
    have ht0 := keep2 hb ht0
    have ht1 := keep2 hb ht1
    have HB4 := Lib.hid (HB3.out.trans (hb.mono HB3.out.size))
    have HI4 := Lib.hid (HI3.out.on hb)
    have HK4 := Lib.hid (HK3.out.step hb)
    have HGA := Lib.hid hT.far
    have HT4 := Lib.hid hT
    have hs4 : w3.heap.size ≤ w4.heap.size := hb.size
    have hgn : gn ≤ 4096 := hT.2.1
    have HGN := Lib.hid hT.1
    clear hb hT HB3 HI3 HK3
    have hp0 : (w4.alloc (.cells #[.int .i64 F, .slice ga gn gc] 26)).cell? ⟨w4.heap.size, 0, none⟩ = some (.int .i64 F) := by go_simp
    have hp1 : (w4.alloc (.cells #[.int .i64 F, .slice ga gn gc] 26)).cell? ⟨w4.heap.size, 1, none⟩ = some (.slice ga gn gc) := by go_simp
    have hq := box_b w4 (.cells #[.int .i64 F, .slice ga gn gc] 26)
    have ht0 := keep2 hq ht0
    have ht1 := keep2 hq ht1
    have HB5 := Lib.hid (HB4.out.trans (hq.mono HB4.out.size))
    have HI5 := Lib.hid (HI4.out.on hq)
    have HK5 := Lib.hid (HK4.out.step hq)
    have HT5 := Lib.hid (HT4.out.on hq)
    have HZ5 := Lib.hid (World.size_alloc w4 (.cells #[.int .i64 F, .slice ga gn gc] 26))
    clear hq HB4 HI4 HK4 HT4
    go_wp2_with fail
    obtain ⟨T10, hT10⟩ : ∃ T, w4.heap.size = T := ⟨_, rfl⟩
    have hz5 := HZ5.out
    rw [hT10] at HGA hs4 hp0 hp1 hz5
    (try rw [hT10])
    clear hT10 HZ5
    generalize (w4.alloc (.cells #[.int .i64 F, .slice ga gn gc] 26)) = v4 at hp0 hp1 ht0 ht1 HB5 HI5 HK5 HT5 hz5 ⊢
    have hz5' : T10 < v4.heap.size := by omega
    clear hz5
    refine (eqT_tb F Y _ _ _ _ _ _ _ HT5.out.ints HI5.out).mono ?_
    rintro e w5 ⟨rfl, hb⟩
    have ht0 := keep2 hb ht0
    have ht1 := keep2 hb ht1
    have hp0 := keep2 hb hp0
    have hp1 := keep2 hb hp1
    have HB6 := Lib.hid (HB5.out.trans (hb.mono HB5.out.size))
    have HI6 := Lib.hid (HI5.out.on hb)
    have HK6 := Lib.hid (HK5.out.step hb)
    have HT6 := Lib.hid (HT5.out.on hb)
    have hz6 : T10 < w5.heap.size := Nat.lt_of_lt_of_le hz5' hb.size
    clear hb HB5 HI5 HK5 HT5 hz5'
    go_wp2_with fail
    refine (toS_any rs _ _ _ _ (H.out.on HB6.out) (by omega)).mono ?_
    rintro e w6 ⟨rfl, hk6, _, hb⟩
    have ht0 := keep2 hb ht0
    have ht1 := keep2 hb ht1
    have hp0 := keep2 hb hp0
    have hp1 := keep2 hb hp1
    have HKN := Lib.hid hk6
    have HB7 := Lib.hid (HB6.out.trans (hb.mono HB6.out.size))
    have HI7 := Lib.hid (HI6.out.on hb)
    have HK7 := Lib.hid (HK6.out.step hb)
    have HT7 := Lib.hid (HT6.out.on hb)
    have hz7 : T10 < w6.heap.size := Nat.lt_of_lt_of_le hz6 hb.size
    clear hb HB6 HI6 HK6 HT6 hz6 hk6
    go_wp2_with fail
    refine (eqS_any rs rs _ _ _ _ _ _ _ (HK7.out.ints HL.out (by omega)) (HKN.out.ints HL.out (by omega))).mono ?_
    rintro e w7 ⟨rfl, nd, rfl⟩
    go_wp2_with fail
    refine (mark_any rs _ _ _ 1 _ (HK7.out.drewN nd) HL.out (by omega) (by omega) (by omega)).mono ?_
    rintro e w8 ⟨rfl, hm8, ho8⟩
    have hk0 : ¬ (1 : Int) + len2 < 0 := by omega
    have hd0 : w8.cell? ⟨T7, 0, none⟩ = some (.int .i64 F) := (ho8.cell (p := ⟨T7, 0, none⟩) (by show T7 ≠ T7 + 1; omega)).trans ht0
    have hd1 : w8.cell? ⟨T7, 1, none⟩ = some (.slice sa sn sc) := (ho8.cell (p := ⟨T7, 1, none⟩) (by show T7 ≠ T7 + 1; omega)).trans ht1
    have hr0 : w8.cell? ⟨T10, 0, none⟩ = some (.int .i64 F) := (ho8.cell (p := ⟨T10, 0, none⟩) (by show T10 ≠ T7 + 1; omega)).trans hp0
    have hr1 : w8.cell? ⟨T10, 1, none⟩ = some (.slice ga gn gc) := (ho8.cell (p := ⟨T10, 1, none⟩) (by show T10 ≠ T7 + 1; omega)).trans hp1
    have hwT : w.heap.size ≤ T7 + 1 := by have := hs1; have := hs2; have := HWT.out; omega
    have HB8 := Lib.hid ((below_drewN HB7.out nd).trans (ho8.below hwT))
    have HI8 := Lib.hid (Ints.onlyT (HI7.out.drewN nd) ho8 (fun x hx => by have := HSA.out x hx; omega))
    have HT8 := Lib.hid ((HT7.out.on (below_drewN (Below.refl _ _) nd)).only ho8 (fun x hx => by have := HGA.out x hx; omega))
    have hz8 : T10 < w8.heap.size := by rw [ho8.size]; exact hz7
    clear hm8 ho8 ht0 ht1 hp0 hp1 HB7 HI7 HK7 HT7 HKN hz7
    go_wp2_with fail
    refine (eqT_tb F Y _ _ _ _ _ _ _ HT8.out.ints HI8.out).mono ?_
    rintro e w9 ⟨rfl, hb⟩
    have ht0 := keep2 hb hd0
    have ht1 := keep2 hb hd1
    have hp0 := keep2 hb hr0
    have hp1 := keep2 hb hr1
    have HB9 := Lib.hid (HB8.out.trans (hb.mono HB8.out.size))
    have HI9 := Lib.hid (HI8.out.on hb)
    have HT9 := Lib.hid (HT8.out.on hb)
    have hz9 : T10 < w9.heap.size := Nat.lt_of_lt_of_le hz8 hb.size
    clear hb hd0 hd1 hr0 hr1 HB8 HI8 HT8 hz8
    go_wp2_with fail
    refine (markT_any F Y _ ga gn gc 1 _ HT9.out (by omega) (by omega)).mono ?_
    rintro e w10 ⟨rfl, hmt, hba⟩
    have hd0 := hba.cell ht0 (fun x hx => by have := HGA.out x hx; show x.block ≠ T7; omega)
    have hd1 := hba.cell ht1 (fun x hx => by have := HGA.out x hx; show x.block ≠ T7; omega)
    have hr0 := hba.cell hp0 (fun x hx => by have := HGA.out x hx; show x.block ≠ T10; omega)
    have hr1 := hba.cell hp1 (fun x hx => by have := HGA.out x hx; show x.block ≠ T10; omega)
    have HB10 := Lib.hid (HB9.out.trans (hba.low (fun x hx => by have := HGA.out x hx; have := HWT.out; omega) HB9.out.size))
    have HI10 := Lib.hid (Ints.butA HI9.out hba (fun x y hx hy => by have := HSA.out x hx; have := HGA.out y hy; omega))
    have HM10 := Lib.hid hmt
    clear hmt hba ht0 ht1 hp0 hp1 HB9 HI9 HT9
    go_wp2_with fail
    refine (heldT_any F ga gn gc 1 _ HM10.out.ints hgn (by omega) (by omega)).mono ?_
    rintro e w11 ⟨rfl, hb⟩
    have ht0 := keep2 hb hd0
    have ht1 := keep2 hb hd1
    have hp0 := keep2 hb hr0
    have hp1 := keep2 hb hr1
    have HB11 := Lib.hid (HB10.out.trans (hb.mono HB10.out.size))
    have HI11 := Lib.hid (HI10.out.on hb)
    have HM11 := Lib.hid (HM10.out.on hb)
    have hkp : ¬ (1 : Int) + gn < 0 := by omega
    clear hb hd0 hd1 hr0 hr1 HB10 HI10 HM10
    go_wp2_with fail
    refine (toS_any rs _ _ _ _ (H.out.on HB11.out) (by omega)).mono ?_
    rintro e w12 ⟨rfl, hk12, _, hb⟩
    have hd0 := keep2 hb ht0
    have hd1 := keep2 hb ht1
    have hr0 := keep2 hb hp0
    have hr1 := keep2 hb hp1
    have HKN := Lib.hid hk12
    have HB12 := Lib.hid (HB11.out.trans (hb.mono HB11.out.size))
    have HI12 := Lib.hid (HI11.out.on hb)
    have HM12 := Lib.hid (HM11.out.on hb)
    clear hb hk12 ht0 ht1 hp0 hp1 HB11 HI11 HM11
    go_wp2_with fail
    refine (CI.out _ _ _ (HKN.out.ints HL.out (by omega))).mono ?_
    rintro e w13 ⟨ha, hn, hc, rfl, hT, hb⟩
    have ht0 := keep2 hb hd0
    have ht1 := keep2 hb hd1
    have hp0 := keep2 hb hr0
    have hp1 := keep2 hb hr1
    have HB13 := Lib.hid (HB12.out.trans (hb.mono HB12.out.size))
    have HI13 := Lib.hid (HI12.out.on hb)
    have HM13 := Lib.hid (HM12.out.on hb)
    have HT13 := Lib.hid hT.ints
    have l0 := block_lt ht0
    have l1 := block_lt hp0
    have l0 : T7 < w13.heap.size := l0
    have l1 : T10 < w13.heap.size := l1
    clear hb hT hd0 hd1 hr0 hr1 HB12 HI12 HM12 HKN
    go_wp2_with fail
    refine (eqT_tb F Y _ _ _ _ _ _ _ (HT13.out.on (box_b _ _)) (HI13.out.on (box_b _ _))).mono ?_
    rintro e w14 ⟨rfl, hb⟩
    have hb2 := (box_b w13 (.cells #[.int .i64 F, .slice ha hn hc] 26)).trans (hb.mono (by simp))
    have hr0 := keep2 hb2 hp0
    have hr1 := keep2 hb2 hp1
    have HB14 := Lib.hid (HB13.out.trans (hb2.mono HB13.out.size))
    have HM14 := Lib.hid (HM13.out.on hb2)
    clear hb hb2 ht0 ht1 hp0 hp1 HB13 HI13 HM13 HT13
    go_wp2_with fail
    refine (heldT_any F ga gn gc 1 _ HM14.out.ints hgn (by omega) (by omega)).mono ?_
    rintro e w15 ⟨rfl, hb⟩
    have HB15 := Lib.hid (HB14.out.trans (hb.mono HB14.out.size))
    clear hb hr0 hr1
    go_wp2_with fail
    go_ret
    exact ⟨rfl, HB15.out⟩

end Go.Proofs.Ytonkaoacohocjaa
