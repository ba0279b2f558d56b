/- The law on made tables. -/
import Derived.Test.YtonkaoacohocjaaTabQ
import Derived.Test.YtonkaoacohocjaaTabF
namespace Go.Proofs.Ytonkaoacohocjaa
open Go.ChangeShapes Go.WideShapes Go.ChangeAt Go.RowKit
set_option linter.unusedVariables false

theorem bigT_any (a : Option Addr) (l c : Nat) (w : World) : Calls Try.prog 12 #[.slice a l c] w fun e w' => e = .returned (.bool (decide (4096 < (l : Int)))) ∧ w = w' := by
  go_enter Try.func12, Try.ntmps12
  go_wp2
  go_ret
  exact ⟨rfl, rfl⟩

def TbC (F : Int) (ys : List Int) (E : Int) (w : World) (e : Ending) (w' : World) : Prop :=
  ∃ a n c, e = .returned (.tuple #[.agg #[.int .i64 F, .slice a n c], .int .i64 E]) ∧ Ints w' a n ys ∧ n ≤ c ∧ Below w.heap.size w w'

theorem mk_tc {f L : Int} {rs : List Int} {w : World} {e : Ending} {w' : World} (h : MkPost f L rs w e w') : TbC (mkF f L rs) (mkY f L rs) (mkE f L rs) w e w' := by
  rcases h with ⟨hm, v, rfl, g, c, rfl, hc, hg, hr, hb⟩ | ⟨hm, rfl, hb⟩
  · have hl := ((mkB_iff _ _ _).1 hm).2.2.1.1
    have hn := mkL_len rs L
    have e1 : mkY f L rs = mkL L rs := by simp [mkY, hm]
    refine ⟨some ⟨g, 0, none⟩, (mkL L rs).length, c, by simp [mkF, mkE, hm], ?_, hc, hb⟩
    rw [e1]
    exact hr.ints rfl (by omega)
  · exact ⟨none, 0, 0, by simp [mkF, mkE, hm], ⟨by simp [mkY, hm], by omega, .inl rfl⟩, Nat.le_refl _, hb⟩

/-- what the law needs to know of a table that is made of L and rs -/
structure MadeOf (f : Int) (rs ys : List Int) : Prop where
  tab : LTab f ys
  few : rs.length ≤ 118
  rate : ∀ i, i < rs.length → 0 ≤ rs.getD i 0 ∧ rs.getD i 0 ≤ 1000
  dead : ∀ i, i < rs.length → 0 < ys.getD i 0 → ys.getD i 0 - ys.getD (i + 1) 0 = up1000 (ys.getD i 0 * rs.getD i 0)

theorem madeOf {f L : Int} {rs : List Int} (h : mkB f L rs = true) : MadeOf f rs (mkL L rs) := by
  obtain ⟨⟨f0, f1⟩, ⟨l0, l1⟩, ⟨h118, h149⟩, hr⟩ := (mkB_iff _ _ _).1 h
  refine ⟨mkL_tab f L rs f0 f1 l0 l1 h118 h149 hr, h118, fun i hi => ?_, mkL_deaths rs L⟩
  exact hr _ (by rw [List.getD_eq_getElem?_getD, List.getElem?_eq_getElem hi]; exact List.getElem_mem _)

theorem likeT_same (f : Int) (xs : List Int) (a b : Option Addr) (l m c d : Nat) (w : World) (h : Ints w a l xs) (k : Ints w b m xs) :
    Calls Try.prog 23 #[.agg #[.int .i64 f, .slice a l c], .agg #[.int .i64 f, .slice b m d]] w fun e w' => e = .returned (.bool true) ∧ Below w.heap.size w w' := by
  have HB : Hid (Below w.heap.size w ((w.alloc (.cells #[.int .i64 f, .slice a l c] 26)).alloc (.cells #[.int .i64 f, .slice b m d] 26))) := Lib.hid ((box_b _ _).alloc (by simp) _)
  have H := Lib.hid (h.on HB.out)
  have K := Lib.hid (k.on HB.out)
  clear h k
  go_enter Try.func23, Try.ntmps23
  go_wp2_with fail
  refine (like_any xs xs _ _ _ _ _ _ _ H.out K.out).mono ?_
  rintro e w4 ⟨rfl, n, rfl⟩
  have hd : decide (xs = xs) = true := by simp
  rw [hd]
  go_wp2_with fail
  go_ret
  exact ⟨rfl, below_drewN HB.out _⟩

/-- the deaths at the k-th age -/
theorem MadeOf.at {f : Int} {rs ys : List Int} (h : MadeOf f rs ys) (k : Nat) (hk : k < rs.length) (hp : 0 < ys.getD k 0) : ageE f ys (f + k) = 0 ∧ daV f ys (f + k) = duV (ys.getD k 0 * rs.getD k 0) 1000 ∧ ddE (ys.getD k 0 * rs.getD k 0) 1000 = 0 ∧ k + 1 < ys.length ∧
    0 ≤ ys.getD k 0 * rs.getD k 0 ∧ ys.getD k 0 * rs.getD k 0 ≤ 1000000000 := by
  have hk1 : k + 1 < ys.length := by
    by_cases hh : k + 1 < ys.length
    · exact hh
    · rw [h.tab.last k (by omega)] at hp; omega
  have t3 := h.tab.2.2.1
  have f0 := h.tab.1.1
  have ha : ageE f ys (f + k) = 0 := ageE_iff.2 ⟨h.tab, by omega, by omega⟩
  obtain ⟨r0, r1⟩ := h.rate k hk
  obtain ⟨m0, m1⟩ := mul_bd (ys.getD k 0) (rs.getD k 0) (by omega) (h.tab.le k) r0 r1
  refine ⟨ha, ?_, ?_, hk1, m0, m1⟩
  · rw [daV_0 ha, du_1000 _ m0 m1, ← h.dead k hk hp]
    unfold lvs
    congr 2 <;> congr 1 <;> omega
  · have : ddB (ys.getD k 0 * rs.getD k 0) 1000 = true := (ddB_iff _ _).2 (by omega)
    unfold ddE; rw [this]; rfl

set_option maxRecDepth 100000 in
set_option maxHeartbeats 4000000 in
theorem fnMadeTables_walk (a0 : Option Addr) (len0 cap0 : Nat) (z0 : List Int) (w : World) (hr : IsRow .u8 w a0 len0 cap0 z0) :
    Calls Try.prog 4 #[.slice a0 len0 cap0] w fun e w' => e = .returned (.bool true) ∧ Below w.heap.size w w' := by
  by_cases hbig : (4096 : Int) < len0
  · go_enter Try.func4, Try.ntmps4
    go_wp2_with (go_at_call 12; refine (bigT_any _ _ _ _).mono ?_; rintro e w' ⟨rfl, rfl⟩)
    go_ret
    exact ⟨rfl, Below.refl _ _⟩
  have HR := Lib.hid hr
  clear hr
  go_enter Try.func4, Try.ntmps4
  go_wp2_with (go_at_call 12; refine (bigT_any _ _ _ _).mono ?_; rintro e w' ⟨rfl, rfl⟩)
  refine (drawMT _ _ _ _ _ HR.out).mono ?_
  rintro e w1 ⟨f, L, a, l, c, rs, rfl, hI, hl, hb⟩
  have HB := Lib.hid hb
  have HI := Lib.hid hI
  have HL := Lib.hid hI.len
  clear hb hI
  go_wp2_with fail
  refine (mk_impl f L rs _ _ _ _ HI.out).mono ?_
  intro e w2 hh
  obtain ⟨ga, gn, gc, rfl, hT, hgc, hb⟩ := mk_tc hh
  clear hh
  have HB2 := Lib.hid (HB.out.trans (hb.mono HB.out.size))
  have HI2 := Lib.hid (HI.out.on hb)
  have HT2 := Lib.hid hT
  clear hb hT HB HI
  have CS : Hid (∀ W, Ints W a l rs → Calls Try.prog 22 #[.int .i64 f, .int .i64 L, .slice a l c] W (TbC (mkF f L rs) (mkY f L rs) (mkE f L rs) W)) := Lib.hid (fun W hW => (mk_spec f L rs a l c W hW).mono fun e w' hh => mk_tc hh)
  by_cases hm : mkB f L rs = true
  case neg =>
    have e1 : mkF f L rs = 0 := by simp [mkF, hm]
    have e2 : mkY f L rs = [] := by simp [mkY, hm]
    have e3 : mkE f L rs = 2 := by simp [mkE, hm]
    rw [e1, e2, e3] at CS
    rw [e2] at HT2
    rw [e1, e3]
    clear e1 e2 e3 hm
    have hq := box_b w2 (.cells #[.int .i64 0, .slice ga gn gc] 26)
    have ht0 : (w2.alloc (.cells #[.int .i64 0, .slice ga gn gc] 26)).cell? ⟨w2.heap.size, 0, none⟩ = some (.int .i64 0) := by go_simp
    have ht1 : (w2.alloc (.cells #[.int .i64 0, .slice ga gn gc] 26)).cell? ⟨w2.heap.size, 1, none⟩ = some (.slice ga gn gc) := by go_simp
    have HB3 := Lib.hid (HB2.out.trans (hq.mono HB2.out.size))
    have HI3 := Lib.hid (HI2.out.on hq)
    have HT3 := Lib.hid (HT2.out.on hq)
    clear hq HB2 HI2 HT2
    go_wp2_with fail
    obtain ⟨T7, hT7⟩ : ∃ T, w2.heap.size = T := ⟨_, rfl⟩
    rw [hT7] at ht0 ht1
    (try rw [hT7])
    clear hT7
    generalize (w2.alloc (.cells #[.int .i64 0, .slice ga gn gc] 26)) = v2 at ht0 ht1 HB3 HI3 HT3 ⊢
    refine (CS.out _ HI3.out).mono ?_
    rintro e w4 ⟨sa, sn, sc, rfl, hT, _, hb⟩
    have hq := hb.trans ((box_b w4 (.cells #[.int .i64 0, .slice sa sn sc] 26)).mono hb.size)
    have ht0 := keep2 hq ht0
    have ht1 := keep2 hq ht1
    have HB4 := Lib.hid (HB3.out.trans (hq.mono HB3.out.size))
    have HT4 := Lib.hid (HT3.out.on hq)
    have HS4 := Lib.hid (hT.on (box_b w4 (.cells #[.int .i64 0, .slice sa sn sc] 26)))
    clear hb hq hT HB3 HT3
    go_wp2_with fail
    refine (likeT_same 0 [] _ _ _ _ _ _ _ HT4.out HS4.out).mono ?_
    rintro e w5 ⟨rfl, hb⟩
    have HB5 := Lib.hid (HB4.out.trans (hb.mono HB4.out.size))
    clear hb
    go_wp2_with fail
    go_ret
    exact ⟨rfl, HB5.out⟩
  case pos =>
    have e1 : mkF f L rs = f := by simp [mkF, hm]
    have e2 : mkY f L rs = mkL L rs := by simp [mkY, hm]
    have e3 : mkE f L rs = 0 := by simp [mkE, hm]
    have HM := Lib.hid (madeOf hm)
    rw [e1, e2, e3] at CS
    rw [e2] at HT2
    rw [e1, e3]
    obtain ⟨ys, hys⟩ : ∃ ys, mkL L rs = ys := ⟨_, rfl⟩
    rw [hys] at CS HT2 HM
    clear e1 e2 e3 hm hys
    have hgl := HT2.out.len
    have HGL := Lib.hid hgl
    have h120 := HM.out.tab.2.1.2
    have hgn : gn ≤ 120 := by omega
    have f0 := HM.out.tab.1.1
    have f1 := HM.out.tab.1.2
    have hl118 : l ≤ 118 := by have := HM.out.few; have := HL.out; omega
    have hq := box_b w2 (.cells #[.int .i64 f, .slice ga gn gc] 26)
    have ht0 : (w2.alloc (.cells #[.int .i64 f, .slice ga gn gc] 26)).cell? ⟨w2.heap.size, 0, none⟩ = some (.int .i64 f) := by go_simp
    have ht1 : (w2.alloc (.cells #[.int .i64 f, .slice ga gn gc] 26)).cell? ⟨w2.heap.size, 1, none⟩ = some (.slice ga gn gc) := by go_simp
    have HB3 := Lib.hid (HB2.out.trans (hq.mono HB2.out.size))
    have HI3 := Lib.hid (HI2.out.on hq)
    have HT3 := Lib.hid (HT2.out.on hq)
    clear hq HB2 HI2 HT2 hgl h120
    go_wp2_with fail
    obtain ⟨T7, hT7⟩ : ∃ T, w2.heap.size = T := ⟨_, rfl⟩
    rw [hT7] at ht0 ht1
    (try rw [hT7])
    clear hT7
    generalize (w2.alloc (.cells #[.int .i64 f, .slice ga gn gc] 26)) = v2 at ht0 ht1 HB3 HI3 HT3 ⊢
    refine (CS.out _ HI3.out).mono ?_
    rintro e w4 ⟨sa, sn, sc, rfl, hT, _, hb⟩
    have hq := hb.trans ((box_b w4 (.cells #[.int .i64 f, .slice sa sn sc] 26)).mono hb.size)
    have ht0 := keep2 hq ht0
    have ht1 := keep2 hq ht1
    have HB4 := Lib.hid (HB3.out.trans (hq.mono HB3.out.size))
    have HI4 := Lib.hid (HI3.out.on hq)
    have HT4 := Lib.hid (HT3.out.on hq)
    have HS4 := Lib.hid (hT.on (box_b w4 (.cells #[.int .i64 f, .slice sa sn sc] 26)))
    clear hb hq hT HB3 HT3 HI3
    go_wp2_with fail
    refine (likeT_same f ys _ _ _ _ _ _ _ HT4.out HS4.out).mono ?_
    rintro e w5 ⟨rfl, hb⟩
    have ht0 := keep2 hb ht0
    have ht1 := keep2 hb ht1
    have HB5 := Lib.hid (HB4.out.trans (hb.mono HB4.out.size))
    have HI5 := Lib.hid (HI4.out.on hb)
    have HT5 := Lib.hid (HT4.out.on hb)
    clear hb HB4 HI4 HT4 HS4
    go_wp2_with fail
    have hlt : ltB f ys = true := ltB_t HM.out.tab
    refine (isL_impl f ys _ _ _ _ HT5.out hgc).mono ?_
    rintro e w6 ⟨rfl, hb⟩
    rw [hlt]
    have ht0 := keep2 hb ht0
    have ht1 := keep2 hb ht1
    have HB6 := Lib.hid (HB5.out.trans (hb.mono HB5.out.size))
    have HI6 := Lib.hid (HI5.out.on hb)
    have HT6 := Lib.hid (HT5.out.on hb)
    have hk0 : 0 < gn := by have := HM.out.tab.2.1.1; have := HGL.out; omega
    clear hb HB5 HI5 HT5 hlt
    go_wp2_with fail
    go_loopw [10] (fun i wr => ∃ k : Nat, k ≤ l ∧ k < gn ∧ i = .int .i64 k ∧ wr.cell? ⟨T7, 0, none⟩ = some (.int .i64 f) ∧ wr.cell? ⟨T7, 1, none⟩ = some (.slice ga gn gc) ∧ Hid (Ints wr ga gn ys) ∧ Hid (Ints wr a l rs) ∧ Hid (Below w.heap.size w wr)) (fun i _ => l - (intOf i).toNat)
    case atStart => exact ⟨0, Nat.zero_le _, hk0, rfl, ht0, ht1, HT6, HI6, HB6⟩
    case round =>
      obtain ⟨k, hk, hkg, rfl, ht0, ht1, HT, HI, HB⟩ := hrel
      obtain ⟨b1, o1, rfl, hb1, hc1⟩ := HT.out.at (by omega)
      have hx := hc1 k hkg
      have hx0 := HM.out.tab.nonneg k
      have hx1 := HM.out.tab.le k
      have HLS : Hid (k < l → 0 < ys.getD k 0 → ageE f ys (f + k) = 0 ∧ daV f ys (f + k) = duV (ys.getD k 0 * rs.getD k 0) 1000 ∧ ddE (ys.getD k 0 * rs.getD k 0) 1000 = 0 ∧ k + 1 < ys.length ∧ 0 ≤ ys.getD k 0 * rs.getD k 0 ∧ ys.getD k 0 * rs.getD k 0 ≤ 1000000000) := Lib.hid (fun h1 h2 => HM.out.at k (by rw [HL.out]; exact h1) h2)
      obtain ⟨x, hx2⟩ : ∃ x, ys.getD k 0 = x := ⟨_, rfl⟩
      rw [hx2] at hx hx0 hx1 HLS
      have HC1 := Lib.hid hc1
      clear hx2 hc1
      by_cases hlt : k < l
      · by_cases hp : 0 < x
        · obtain ⟨da, dv, de, dk, m0, m1⟩ := HLS.out hlt hp
          obtain ⟨b2, o2, rfl, hb2, hc2⟩ := HI.out.at (by omega)
          have hy := hc2 k hlt
          obtain ⟨y, hy2⟩ : ∃ y, rs.getD k 0 = y := ⟨_, rfl⟩
          rw [hy2] at hy dv de m0 m1
          obtain ⟨m, hm⟩ : ∃ m, x * y = m := ⟨_, rfl⟩
          rw [hm] at dv de m0 m1
          have q1 : IntKind.i64.wrap (x * y) = m := by rw [hm]; exact IntWalk.i64_in _ (by omega)
          have HDU := Lib.hid (fun W => (du_impl m 1000 W).mono (R' := fun e w' => e = .returned (.tuple #[.int .i64 (duV m 1000), .int .i64 (ddE m 1000)]) ∧ w' = W) fun e w' h => ⟨h.1, h.2.symm⟩)
          rw [de] at HDU
          obtain ⟨d, hd⟩ : ∃ d, duV m 1000 = d := ⟨_, rfl⟩
          rw [hd] at HDU dv
          have CD : Hid (∀ W, Ints W (some ⟨b1, o1, none⟩) gn ys → Calls Try.prog 25 #[.agg #[.int .i64 f, .slice (some ⟨b1, o1, none⟩) gn gc], .int .i64 (f + k)] W fun e w' => e = .returned (.tuple #[.int .i64 d, .int .i64 0]) ∧ Below W.heap.size W w') :=
            Lib.hid (fun W hW => by have := da_impl f ys (some ⟨b1, o1, none⟩) gn gc (f + k) W hW hgc; rw [dv, da] at this; exact this)
          have hkg1 : k + 1 < gn := by have := HGL.out; omega
          have HY := Lib.hid hy
          have HX := Lib.hid hx
          clear hc2 hy2 hm hd dv de da HLS dk
          go_wp2_with fail
          refine (CD.out _ HT.out).mono ?_
          rintro e w7 ⟨rfl, hb⟩
          have ht0 := keep2 hb ht0
          have ht1 := keep2 hb ht1
          have hx := keep2 hb HX.out
          have hy := keep2 hb HY.out
          have HB7 := Lib.hid (HB.out.trans (hb.mono HB.out.size))
          have HI7 := Lib.hid (HI.out.on hb)
          have HT7 := Lib.hid (HT.out.on hb)
          clear hb
          go_wp2_with fail
          go_quiet ((go_at_call 26; exact Calls.quiet_of_same (HDU.out _)))
          go_wp2_with fail
          go_roundw
          case rel => exact ⟨k + 1, by omega, hkg1, by go_num, ht0, ht1, Lib.hid (HT7.out.drewN _), Lib.hid (HI7.out.drewN _), Lib.hid (below_drewN HB7.out _)⟩
          case measure => simp [intOf]; omega
        · obtain rfl : x = 0 := by omega
          go_wp2_with fail
          go_ret
          exact ⟨rfl, HB.out⟩
      · go_wp2_with fail
        go_ret
        exact ⟨rfl, HB.out⟩

end Go.Proofs.Ytonkaoacohocjaa
