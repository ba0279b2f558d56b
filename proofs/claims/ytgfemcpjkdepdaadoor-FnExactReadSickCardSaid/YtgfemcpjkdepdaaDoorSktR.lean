/- ReadSick of the model and of the program: what the calls return. (Written by wip/gen/sictx.py.) -/
import Derived.Test.YtgfemcpjkdepdaaDoorSktN
import Derived.Test.YtgfemcpjkdepdaaDoorRnI
namespace Go.Proofs.YtgfemcpjkdepdaaDoor
open Go.ChangeShapes Go.WideShapes Go.ChangeAt Go.RowKit
set_option linter.unusedVariables false
set_option linter.unusedSimpArgs false
set_option maxRecDepth 100000

/-- the life table of a text -/
def rkO (l : List UInt8) : Bool := rnO l && skB (rnF l) (rnL l)

def skO (l : List UInt8) : Bool := (sp l).all sgO && (decide (2 ≤ (sp l).length) && skB ((sgs l).getD 0 0) ((sgs l).drop 1))

theorem rk_st {l : List UInt8} (h : rkO l = true) : skO l = true ∧ sgs l = rnF l :: rnL l := by
  unfold rkO rnO at h
  rw [Bool.and_eq_true, Bool.and_eq_true] at h
  obtain ⟨⟨h1, h2⟩, h3⟩ := h
  have h2 : jn (rnF l :: rnL l) = l := by simpa using h2
  have ht := (skB_iff _ _).1 h3
  have hn := ht.nums
  have hs : sp l = (rnF l :: rnL l).map Lib.itoa := by
    rw [← sp_jn _ _ (fun x hx => (hn x hx).1), h2]
  have hg : sgs l = rnF l :: rnL l := by
    unfold sgs
    rw [hs, List.map_map]
    conv => rhs; rw [← List.map_id (rnF l :: rnL l)]
    refine List.map_congr_left fun x hx => ?_
    have := hn x hx
    exact (sg_itoa x this.1 (by omega)).2
  refine ⟨?_, hg⟩
  unfold skO
  rw [Bool.and_eq_true, Bool.and_eq_true]
  refine ⟨?_, ?_, ?_⟩
  · rw [hs, List.all_eq_true]
    intro w hw
    obtain ⟨x, hx, rfl⟩ := List.mem_map.1 hw
    have := hn x hx
    exact (sg_itoa x this.1 (by omega)).1
  · rw [hs]
    have := ht.2.1
    simp; omega
  · rw [hg]; exact h3

theorem st_rk {l : List UInt8} (h : skO l = true) : rkO l = true := by
  unfold skO at h
  rw [Bool.and_eq_true, Bool.and_eq_true] at h
  obtain ⟨h1, h2, h3⟩ := h
  have ht := (skB_iff _ _).1 h3
  have hn := ht.nums
  have hc : (sgs l).getD 0 0 :: (sgs l).drop 1 = sgs l := by
    unfold sgs
    cases hs : sp l with
    | nil => exact absurd hs (sp_ne l)
    | cons w ws => simp
  rw [hc] at hn
  rw [List.all_eq_true] at h1
  have hw : ∀ w ∈ sp l, pv w = some (sgV w) := by
    intro w hw
    have e := sgO_itoa (h1 w hw)
    have b := hn (sgV w) (List.mem_map.2 ⟨w, hw, rfl⟩)
    conv => lhs; rw [e]
    exact pv_itoa _ b.1 (by omega)
  have hv : vals (sp l) = sgs l := by
    unfold vals sgs
    exact List.map_congr_left fun w hm => by rw [hw w hm]; rfl
  have e1 : rnF l = (sgs l).getD 0 0 := by unfold rnF; rw [hv]
  have e2 : rnL l = (sgs l).drop 1 := by unfold rnL; rw [hv]
  unfold rkO rnO
  rw [Bool.and_eq_true, Bool.and_eq_true]
  refine ⟨⟨?_, ?_⟩, by rw [e1, e2]; exact h3⟩
  · unfold allP
    rw [List.all_eq_true]
    intro w hm
    rw [hw w hm]; rfl
  · rw [e1, e2, hc, beq_iff_eq]
    have hs : sgs l ≠ [] := by unfold sgs; simp [sp_ne]
    cases hg : sgs l with
    | nil => exact absurd hg hs
    | cons x t =>
      rw [jn_jw, ← List.map_cons, ← hg]
      have : (sgs l).map Lib.itoa = sp l := by
        unfold sgs
        rw [List.map_map]
        conv => rhs; rw [← List.map_id (sp l)]
        exact List.map_congr_left fun w hm => (sgO_itoa (h1 w hm)).symm
      rw [this, jw_sp]

theorem sk_eq (l : List UInt8) : skO l = rkO l := by
  cases h : rkO l with
  | true => exact (rk_st h).1
  | false =>
    cases h2 : skO l with
    | true => rw [st_rk h2] at h; cases h
    | false => rfl

/-- what ReadSick hands over: its first age, its lives -/
def tkF (l : List UInt8) : Int := if rkO l = true then rnF l else 0

def tkY (l : List UInt8) : List Int := if rkO l = true then rnL l else []

def TkPost (l : List UInt8) (w : World) (e : Ending) (w' : World) : Prop :=
  ∃ a n c, e = .returned (.tuple #[.agg #[.int .i64 (tkF l), .slice a n c], .bool (rkO l)]) ∧ n ≤ c ∧ TbR w.heap.size w' a n (tkY l) ∧ Below w.heap.size w w'

theorem TkPost.bad {l : List UInt8} {w w' : World} (h : rkO l = false) (hb : Below w.heap.size w w') : TkPost l w (.returned (.tuple #[.agg #[.int .i64 0, .slice none 0 0], .bool false])) w' :=
  ⟨none, 0, 0, by simp [tkF, h], Nat.le_refl _, ⟨by simp [tkY, h], by omega, .inl ⟨rfl, rfl⟩⟩, hb⟩

theorem TkPost.good {l : List UInt8} {w w' : World} {g off n c : Nat} {F : Int} {Y : List Int} (h : rkO l = true) (hF : rnF l = F) (hY : rnL l = Y) (hn : Y.length = n) (hnc : n ≤ c) (hm : n ≤ 4096) (hg : w.heap.size ≤ g) (hl : g < w'.heap.size) (hr : RowI w' g off Y) (hb : Below w.heap.size w w') :
    TkPost l w (.returned (.tuple #[.agg #[.int .i64 F, .slice (some ⟨g, off, none⟩) n c], .bool true])) w' :=
  ⟨some ⟨g, off, none⟩, n, c, by simp [tkF, h, hF], hnc, ⟨by simp [tkY, h, hY, hn], hm, .inr ⟨g, off, rfl, hg, hl, by simpa [tkY, h, hY] using hr⟩⟩, hb⟩

/-- the result's two cells are written -/
theorem TkPost.put {l : List UInt8} {w w' : World} {X : Nat} {e : Ending} {u v : Value} (h : TkPost l w e w') (hX : w.heap.size = X) (hne : ∀ F a n c o, e = .returned (.tuple #[.agg #[F, .slice a n c], o]) → ∀ x, a = some x → x.block ≠ X) :
    TkPost l w e ((w'.setCell ⟨X, 0, none⟩ u).setCell ⟨X, 1, none⟩ v) := by
  subst hX
  obtain ⟨a, n, c, rfl, hnc, ⟨h1, h2, h3⟩, hb⟩ := h
  have hn := hne _ _ _ _ _ rfl
  refine ⟨a, n, c, rfl, hnc, ⟨h1, h2, ?_⟩, (hb.setCell (p := ⟨w.heap.size, 0, none⟩) (Nat.le_refl _) _).setCell (p := ⟨w.heap.size, 1, none⟩) (Nat.le_refl _) _⟩
  rcases h3 with h3 | ⟨g, off, rfl, hg, hl, hr⟩
  · exact .inl h3
  · exact .inr ⟨g, off, rfl, hg, by simpa [World.setCell] using hl, hr.only (((Only.refl w.heap.size w').setCell (p := ⟨w.heap.size, 0, none⟩) rfl _).setCell (p := ⟨w.heap.size, 1, none⟩) rfl _) (hn _ rfl)⟩

set_option maxHeartbeats 1000000 in
theorem rk_spec (s : ByteArray) (w : World) (hs : s.size ≤ 1048576) : Calls Tryd.prog 10 #[.string s] w (TkPost s.data.toList w) := by
  have HSP := Lib.hid (fun W => split_spec s W hs)
  have hsz : s.data.toList.length = s.size := by simp
  have hsh := sp_short s.data.toList
  have HST := Lib.hid (sk_eq s.data.toList)
  obtain ⟨l, hl⟩ : ∃ l, s.data.toList = l := ⟨_, rfl⟩
  unfold SplitPost at HSP
  rw [hl] at HSP hsz hsh HST
  (try rw [hl])
  have HSH := Lib.hid hsh
  clear hl hsh
  go_enter Tryd.func10, Tryd.ntmps10
  go_wp2_with fail
  refine (HSP.out _).mono ?_
  rintro e w1 ⟨g, c, W, rfl, hW, hWl, hcs, hb1⟩
  obtain ⟨hB1, hc0, hc1⟩ := box2 hb1
  have hf0 := box2f hb1 0 (by omega)
  have hf1 := box2f hb1 1 (by omega)
  have hp : 0 < W.length := by
    have h1 := congrArg List.length hW
    have h2 := List.length_pos_iff.2 (sp_ne l)
    rw [List.length_map] at h1; omega
  have hgl := block_lt (hcs 0 hp)
  have HN := Lib.hid (nums_spec W (sp l) hW g W.length c rfl (by omega) (fun x hx => by have := HSH.out.2 x hx; omega) w1 hgl hcs)
  have HB1 := Lib.hid hB1
  have hbs1 := hB1.size
  clear hcs hb1 hB1 hgl hW
  go_wp2_with fail
  refine HN.out.mono ?_
  rintro e w2 ⟨hres, hb2⟩
  have hd0 := keep2 hb2 hc0
  have hd1 := keep2 hb2 hc1
  have hf0 := keepf hb2 (block_lt hc0) hf0
  have hf1 := keepf hb2 (block_lt hc1) hf1
  have hwX : w.heap.size < w1.heap.size := block_lt hc0
  have HB2 := Lib.hid (HB1.out.trans (hb2.mono hbs1))
  clear HN HSP hc0 hc1
  rcases hres with ⟨hall, v, rfl, hown⟩ | ⟨hall, rfl⟩
  · have hsg : sgs l = (sp l).map sgV := rfl
    rw [← hsg] at hown
    have hsl : (sgs l).length = (sp l).length := by simp [sgs]
    have hsp0 := List.length_pos_iff.2 (sp_ne l)
    have HM := Lib.hid (hown.made hb2 (by omega))
    have hlen : (sgs l).length ≤ 1048577 := by have := HSH.out.1; omega
    clear hown hb2 HB1
    obtain ⟨g2, c2, rfl, hc2, hg2, hr2, _⟩ := HM.out
    by_cases h2 : (sgs l).length < 2
    · have HR : Hid (rkO l = false) := Lib.hid (by rw [← HST.out]; unfold skO; rw [hall]; simp; omega)
      clear hall hsg hsl hsp0 HM
      go_wp2_with fail
      exact bodyPost_ret (v := .tuple #[.agg #[.int .i64 0, .slice none 0 0], .bool false]) (by simp [results, Tryd.results10, go_sem, hd0, hd1]) rfl ((TkPost.bad HR.out HB2.out).put rfl (fun F a n c o h x hx => by cases h; cases hx))
    · obtain ⟨F, Y, hFY⟩ : ∃ F Y, sgs l = F :: Y := by
        cases h : sgs l with
        | nil => rw [h] at h2; simp at h2
        | cons a b => exact ⟨a, b, rfl⟩
      rw [hFY] at hr2 hc2 hlen h2
      obtain ⟨n, hn⟩ : ∃ n, (F :: Y).length = n := ⟨_, rfl⟩
      rw [hFY]
      rw [hn] at hc2 hlen h2
      (try rw [hn])
      have hx0 : w2.cell? ⟨g2, 0, none⟩ = some (.int .i64 F) := hr2.cell 0 (by simp)
      have hn1 : 1 ≤ n := by omega
      have hn0 : 0 < n := by omega
      have hgx : g2 < w2.heap.size := block_lt hx0
      have hne : g2 ≠ w.heap.size := by omega
      have HRW := Lib.hid hr2
      clear HM hr2
      go_wp2_with fail
      have HRO : Hid (rkO l = skB F Y) := Lib.hid (by
        rw [← HST.out]; unfold skO; rw [hall, hFY]
        have : 2 ≤ (sp l).length := by rw [← hsl, hFY, hn]; omega
        simp [this])
      have HRF : Hid (rkO l = true → rnF l = F ∧ rnL l = Y) := Lib.hid (fun h => by
        have := (rk_st h).2
        rw [hFY] at this
        injection this with h1 h2
        exact ⟨h1.symm, h2.symm⟩)
      have HYL : Hid (Y.length = n - 1) := Lib.hid (by rw [← hn]; simp)
      clear hall hsg hsl hsp0 hFY hn
      go_region
      all_goals
        have HX := Lib.hid (isS_spec F Y (some ⟨g2, 1, none⟩) (n - 1) (c2 - 1) (w2.alloc (.cells #[.int .i64 F, .slice (some ⟨g2, 1, none⟩) (n - 1) (c2 - 1)] 27)).drew (((HRW.out.drop).ints HYL.out (by omega)).on (below_drewN (box_b _ _) 1)))
        go_wp2_with fail
        refine HX.out.mono ?_
        rintro e w3 ⟨rfl, hb3⟩
        have hb4 : Below (w2.alloc (.cells #[.int .i64 F, .slice (some ⟨g2, 1, none⟩) (n - 1) (c2 - 1)] 27)).heap.size (w2.alloc (.cells #[.int .i64 F, .slice (some ⟨g2, 1, none⟩) (n - 1) (c2 - 1)] 27)) w3 := (below_drewN (Below.refl _ _) 1).trans hb3
        obtain ⟨hB3, hk0, hk1⟩ := box2 hb4
        have he0 := keep2 hB3 hd0
        have he1 := keep2 hB3 hd1
        have hq0 := keepf hB3 (block_lt hd0) hf0
        have hq1 := keepf hB3 (block_lt hd1) hf1
        have HB3 := Lib.hid (HB2.out.trans (hB3.mono HB2.out.size))
        have HR3 := Lib.hid (HRW.out.drop.on hB3)
        have hgy : g2 < w3.heap.size := Nat.lt_of_lt_of_le hgx hB3.size
        have hn2 : (w2.heap.size : Nat) ≠ w.heap.size := by omega
        clear HX hb3 hb4 hB3 hx0 hd0 hd1 hf0 hf1 HRW HB2
        cases hlt : skB F Y with
        | false =>
          rw [hlt] at HRO
          have HR := Lib.hid HRO.out
          clear hlt
          go_wp2_with fail
          exact bodyPost_ret (v := .tuple #[.agg #[.int .i64 0, .slice none 0 0], .bool false]) (by simp [results, Tryd.results10, go_sem, he0, he1]) rfl ((TkPost.bad HR.out HB3.out).put rfl (fun F a n c o h x hx => by cases h; cases hx))
        | true =>
          rw [hlt] at HRO
          have HR := Lib.hid HRO.out
          have hlen : n - 1 ≤ 4096 := by
            have := ((skB_iff _ _).1 hlt).2.1.2
            rw [HYL.out] at this; omega
          clear hlt
          go_wp2_with fail
          exact bodyPost_ret (v := .tuple #[.agg #[.int .i64 F, .slice (some ⟨g2, 1, none⟩) (n - 1) (c2 - 1)], .bool true]) (by simp [results, Tryd.results10, go_sem, he0, he1]) rfl ((TkPost.good HR.out (HRF.out HR.out).1 (HRF.out HR.out).2 HYL.out (by omega) hlen (by omega) hgy (by simpa using HR3.out) HB3.out).put rfl (fun F a n c o h x hx => by cases h; cases hx; exact hne))
  · have HR : Hid (rkO l = false) := Lib.hid (by rw [← HST.out]; unfold skO; rw [hall]; rfl)
    clear hall
    go_wp2_with fail
    exact bodyPost_ret (v := .tuple #[.agg #[.int .i64 0, .slice none 0 0], .bool false]) (by simp [results, Tryd.results10, go_sem, hd0, hd1]) rfl ((TkPost.bad HR.out HB2.out).put rfl (fun F a n c o h x hx => by cases h; cases hx))

set_option maxHeartbeats 1000000 in
theorem rk_impl (s : ByteArray) (w : World) (hs : s.size ≤ 1048576) (ha : AskT w) : Calls Tryd.prog 11 #[.string s] w (TkPost s.data.toList w) := by
  have HRN := Lib.hid (rn_any s (w.alloc (.cells #[.int .i64 0, .slice none 0 0] 27)) hs (ha.step (box_b _ _)))
  obtain ⟨l, hl⟩ : ∃ l, s.data.toList = l := ⟨_, rfl⟩
  have HRO : Hid (rkO l = (rnO l && skB (rnF l) (rnL l))) := Lib.hid rfl
  unfold RnPost at HRN
  rw [hl] at HRN ⊢
  clear hl ha
  go_enter Tryd.func11, Tryd.ntmps11
  go_wp2_with fail
  refine HRN.out.mono ?_
  rintro e w1 ⟨hres, hb1⟩
  obtain ⟨hB1, hd0, hd1⟩ := box2 hb1
  have hf0 := box2f hb1 0 (by omega)
  have hf1 := box2f hb1 1 (by omega)
  have HB1 := Lib.hid hB1
  have hlw : w.heap.size < w1.heap.size := block_lt hd0
  have hne1 : w1.heap.size ≠ w.heap.size := by omega
  clear HRN hb1 hB1
  rcases hres with ⟨hO, g, off, n, c, rfl, hnc, hn1, hyl, hg, hgl, hr⟩ | ⟨hO, rfl⟩
  · obtain ⟨F, hF⟩ : ∃ F, rnF l = F := ⟨_, rfl⟩
    obtain ⟨Y, hY⟩ : ∃ Y, rnL l = Y := ⟨_, rfl⟩
    rw [hO] at HRO
    rw [hF, hY] at HRO
    rw [hY] at hyl hr
    rw [hF]
    have HF := Lib.hid hF
    have HY := Lib.hid hY
    have HYL := Lib.hid hyl
    have HR := Lib.hid hr
    have HX := Lib.hid (isS_impl F Y (some ⟨g, off, none⟩) n c (w1.alloc (.cells #[.int .i64 F, .slice (some ⟨g, off, none⟩) n c] 27)) ((hr.ints hyl (by omega)).on (box_b _ _)) hnc)
    have hgw : w.heap.size < g := by
      have : w.heap.size + 1 ≤ g := by simpa using hg
      omega
    clear hF hY hyl hr hg hO
    go_wp2_with fail
    refine HX.out.mono ?_
    rintro e w2 ⟨rfl, hb2⟩
    obtain ⟨hB2, hk0, hk1⟩ := box2 hb2
    have he0 := keep2 hB2 hd0
    have he1 := keep2 hB2 hd1
    have hq0 := keepf hB2 (block_lt hd0) hf0
    have hq1 := keepf hB2 (block_lt hd1) hf1
    have HB2 := Lib.hid (HB1.out.trans (hB2.mono HB1.out.size))
    have HR2 := Lib.hid (HR.out.on hB2)
    have hgy : g < w2.heap.size := Nat.lt_of_lt_of_le hgl hB2.size
    clear HX hb2 hB2 hd0 hd1 hf0 hf1
    cases hlt : skB F Y with
    | false =>
      rw [hlt] at HRO
      have HRF : Hid (rkO l = false) := Lib.hid HRO.out
      clear hlt
      go_wp2_with fail
      exact bodyPost_ret (v := .tuple #[.agg #[.int .i64 0, .slice none 0 0], .bool false]) (by simp [results, Tryd.results11, go_sem, he0, he1]) rfl ((TkPost.bad HRF.out HB2.out).put rfl (fun F a n c o h x hx => by cases h; cases hx))
    | true =>
      rw [hlt] at HRO
      have HRT : Hid (rkO l = true) := Lib.hid HRO.out
      have hlen : n ≤ 4096 := by
        have := ((skB_iff _ _).1 hlt).2.1.2
        rw [HYL.out] at this; omega
      clear hlt
      go_wp2_with fail
      exact bodyPost_ret (v := .tuple #[.agg #[.int .i64 F, .slice (some ⟨g, off, none⟩) n c], .bool true]) (by simp [results, Tryd.results11, go_sem, he0, he1]) rfl ((TkPost.good HRT.out HF.out HY.out HYL.out hnc hlen (by omega) hgy HR2.out HB2.out).put rfl (fun F a n c o h x hx => by cases h; cases hx; show g ≠ w.heap.size; omega))
  · have HRF : Hid (rkO l = false) := Lib.hid (by rw [HRO.out, hO]; rfl)
    clear hO
    have hp0 : ((w1.setCell ⟨w.heap.size, 0, none⟩ (.int .i64 0)).setCell ⟨w.heap.size, 1, none⟩ (.slice none 0 0)).cell? ⟨w.heap.size, 0, none⟩ = some (.int .i64 0) := by
      rw [World.cell?_setCell_other _ _ _ _ (by first | (simp; done) | (simp; omega)), World.cell?_setCell_same' _ _ _ (by rw [hd0]; rfl)]
    have hp1 : ((w1.setCell ⟨w.heap.size, 0, none⟩ (.int .i64 0)).setCell ⟨w.heap.size, 1, none⟩ (.slice none 0 0)).cell? ⟨w.heap.size, 1, none⟩ = some (.slice none 0 0) := by
      rw [World.cell?_setCell_same' _ _ _ (by rw [World.cell?_setCell_other _ _ _ _ (by first | (simp; done) | (simp; omega)), hd1]; rfl)]
    have hr0 := keep2 (box_b _ (.cells #[.int .i64 0, .slice none 0 0] 27)) hp0
    have hr1 := keep2 (box_b _ (.cells #[.int .i64 0, .slice none 0 0] 27)) hp1
    go_wp2_with fail
    refine bodyPost_ret (v := .tuple #[.agg #[.int .i64 0, .slice none 0 0], .bool false]) (by simp [results, Tryd.results11, go_sem, hr0, hr1]) rfl ?_
    exact TkPost.bad HRF.out (((HB1.out.setCell (p := ⟨w.heap.size, 0, none⟩) (Nat.le_refl _) _).setCell (p := ⟨w.heap.size, 1, none⟩) (Nat.le_refl _) _).alloc (by have := HB1.out.size; simpa [World.setCell] using this) _)

end Go.Proofs.YtgfemcpjkdepdaaDoor
