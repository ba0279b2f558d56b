/- Sickness: SickWeeks and WorstAge of the program. -/
import Derived.Test.YtgfemcpjkdepdaaSicP
namespace Go.Proofs.Ytgfemcpjkdepdaa
open Go.ChangeShapes Go.WideShapes Go.ChangeAt Go.RowKit
set_option linter.unusedVariables false
set_option linter.unusedSimpArgs false
set_option maxRecDepth 100000

theorem OwnI.ints9 {base : Nat} {w : World} {v : Value} {xs : List Int} (h : OwnI base w v xs) (hm : xs.length ≤ 4096) : ∃ a c, v = .slice a xs.length c ∧ Ints w a xs.length xs ∧ xs.length ≤ c := by
  have hh := h
  obtain ⟨h0, ⟨rfl, hn⟩ | ⟨g, cap, cur, rfl, hg, hb, hc, r⟩⟩ := h
  · rw [hn]
    exact ⟨none, 0, rfl, ⟨by simpa using hn, by omega, .inl rfl⟩, Nat.le_refl _⟩
  · refine ⟨_, cap, rfl, ⟨rfl, by omega, .inr ⟨g, 0, rfl, fun i hi => ?_⟩⟩, hc⟩
    rw [Nat.zero_add, hh.cellAt i (by omega)]
    simp [List.getD, hi]

/-- the weeks of the first members -/
def swL (g : Int) (ys zs : List Int) : List Int := zs.map (wk g ys)

theorem swL_take (g : Int) (ys zs : List Int) (k : Nat) (hk : k < zs.length) : swL g ys (zs.take (k + 1)) = swL g ys (zs.take k) ++ [wk g ys (zs.getD k 0)] := by
  unfold swL
  rw [List.take_add_one, List.getElem?_eq_getElem hk, List.map_append]
  simp [List.getD, List.getElem?_eq_getElem hk]

theorem du_thou (a : Int) (w : World) (a0 : 0 ≤ a) (a1 : a ≤ 1000000000000) : Calls Try.prog 39 #[.int .i64 a, .int .i64 1000] w fun e w' => e = .returned (.tuple #[.int .i64 (-(-a / 1000)), .int .i64 0]) ∧ w = w' := by
  have h := du_impl a 1000 w
  have hb : ddB a 1000 = true := (ddB_iff _ _).2 ⟨⟨by omega, a1⟩, by omega, by omega⟩
  have e1 : duV a 1000 = -(-a / 1000) := by simp [duV, hb]
  have e2 : ddE a 1000 = 0 := by simp [ddE, hb]
  rw [e1, e2] at h
  exact h

set_option maxHeartbeats 4000000 in
theorem isw_any (g : Int) (ys : List Int) (a : Option Addr) (l c : Nat) (zs : List Int) (b : Option Addr) (m d : Nat) (w : World) (h : Ints w a l ys) (k : Ints w b m zs) (hlc : l ≤ c) (hmd : m ≤ d) :
    Calls Try.prog 12 #[.agg #[.int .i64 g, .slice a l c], .slice b m d] w (IIPost (swV g ys zs) (swE g ys zs) w) := by
  have C1 := Lib.hid (isS_impl g ys a l c (w.alloc (.cells #[.int .i64 g, .slice a l c] 26)) (h.on (box_b _ _)) hlc)
  have HL := Lib.hid h.len
  have HM := Lib.hid k.len
  have hm := k.max
  have H := Lib.hid h
  have K := Lib.hid k
  clear h k
  unfold IIPost
  by_cases h1 : skB g ys = true
  · rw [h1] at C1
    have hst := (skB_iff _ _).1 h1
    have HS := Lib.hid hst
    obtain ⟨g0, g1⟩ := hst.1
    obtain ⟨l0, l1⟩ := hst.2.1
    rw [HL.out] at l0 l1
    have HN2 : Hid (¬ ((m : Int) ≤ 130 ∧ ∀ j, j < m → inB (zs.getD j 0) 0 150 = true) → swE g ys zs = 2) := Lib.hid (fun hh => by
      unfold swE
      rw [if_pos h1, if_neg]
      intro e
      rw [Bool.and_eq_true, List.all_eq_true, decide_eq_true_iff, HM.out] at e
      refine hh ⟨e.2, fun j hj => ?_⟩
      have hj2 : j < zs.length := by rw [HM.out]; exact hj
      rw [List.getD_eq_getElem?_getD, List.getElem?_eq_getElem hj2]
      exact e.1 _ (List.getElem_mem hj2))
    have HY0 : Hid ((m : Int) ≤ 130 → (∀ j, j < m → inB (zs.getD j 0) 0 150 = true) → swE g ys zs = 0) := Lib.hid (fun e1 e2 => swE_iff.2 ⟨hst, by rw [HM.out]; omega, fun x hx => by
      obtain ⟨i, hi, rfl⟩ := List.getElem_of_mem hx
      have := e2 i (by rw [← HM.out]; exact hi)
      rw [List.getD_eq_getElem?_getD, List.getElem?_eq_getElem hi] at this
      exact (inB_iff _ _ _).1 this⟩)
    have HV2 : Hid (swE g ys zs = 2 → swV g ys zs = 0) := Lib.hid (fun e => by unfold swV; rw [e]; rfl)
    clear h1 hst
    by_cases hbig : (130 : Int) < m
    · have HE := Lib.hid (HN2.out (fun e => by have := e.1; omega))
      have HV := Lib.hid (HV2.out HE.out)
      clear HN2 HY0 HV2
      go_enter Try.func12, Try.ntmps12
      go_wp2_with fail
      refine C1.out.mono ?_
      rintro e w1 ⟨rfl, hb1⟩
      obtain ⟨hB, hc0, hc1⟩ := box2 hb1
      have HB := Lib.hid hB
      clear hB hb1
      go_wp2_with fail
      go_ret2
      exact ⟨ret_ii HV.out.symm HE.out.symm, HB.out⟩
    · go_enter Try.func12, Try.ntmps12
      go_wp2_with fail
      refine C1.out.mono ?_
      rintro e w1 ⟨rfl, hb1⟩
      obtain ⟨hB, hc0, hc1⟩ := box2 hb1
      have hown := ownI_new w1
      have hd0 := keep2 (box_b w1 (.cells #[] 2)) hc0
      have hd1 := keep2 (box_b w1 (.cells #[] 2)) hc1
      have HB := Lib.hid (hB.trans ((box_b w1 (.cells #[] 2)).mono hB.size))
      have hs1 : w1.heap.size ≤ (w1.alloc (.cells #[] 2)).heap.size := by simp
      have hw1 : w.heap.size < w1.heap.size := block_lt hc0
      clear hB hb1
      go_wp2_with fail
      clear hc0 hc1
      go_loopw [6, 18] (fun v i wr => ∃ j : Nat, j ≤ m ∧ i = .int .i64 j ∧ OwnI w1.heap.size wr v (swL g ys (zs.take j)) ∧ wr.cell? ⟨w.heap.size, 0, none⟩ = some (.int .i64 g) ∧ wr.cell? ⟨w.heap.size, 1, none⟩ = some (.slice a l c) ∧ Hid (Below w.heap.size w wr) ∧ w1.heap.size ≤ wr.heap.size ∧ Hid (∀ k, k < j → inB (zs.getD k 0) 0 150 = true)) (fun _ i _ => m - (intOf i).toNat)
      case atStart => exact ⟨0, Nat.zero_le _, rfl, hown, hd0, hd1, HB, hs1, Lib.hid (fun k hk => by omega)⟩
      case round =>
        clear hown hd0 hd1 HB hs1
        obtain ⟨j, hj, rfl, hown, hc0, hc1, HB, hwr, HZ⟩ := hrel
        by_cases hlt : j < m
        · obtain ⟨bb, off, rfl, hb, hc⟩ := K.out.at (by omega)
          have hx := (HB.out.cell (p := ⟨bb, off + j, none⟩) hb).trans (hc j hlt)
          have HT := Lib.hid (swL_take g ys zs j (by rw [HM.out]; exact hlt))
          have HLE : Hid ((swL g ys (zs.take j)).length ≤ 4096) := Lib.hid (by
            have : (zs.take j).length ≤ j := List.length_take_le _ _
            unfold swL; rw [List.length_map]; omega)
          have HBAD := Lib.hid (fun (hin : ¬ inB (zs.getD j 0) 0 150 = true) => HN2.out (fun e => hin (e.2 j hlt)))
          obtain ⟨X, hX⟩ : ∃ y_, zs.getD j 0 = y_ := ⟨_, rfl⟩
          rw [hX] at hx HT HBAD
          have HXX := Lib.hid hX
          clear hX hc
          by_cases hin : inB X 0 150 = true
          · have HZ2 : Hid (∀ k, k < j + 1 → inB (zs.getD k 0) 0 150 = true) := Lib.hid (fun k hk => by
              by_cases e : k = j
              · subst e; rw [HXX.out]; exact hin
              · exact HZ.out k (by omega))
            obtain ⟨x0, x1⟩ := (inB_iff _ _ _).1 hin
            have CW := Lib.hid (fun (W : World) (hW : Below w.heap.size w W) => iwk_any g ys a l c X W (H.out.on hW) g0 g1 x0 (by omega) (by omega) hlc)
            obtain ⟨V, hV⟩ : ∃ y_, wk g ys X = y_ := ⟨_, rfl⟩
            rw [hV] at HT CW
            obtain ⟨as_, has⟩ : ∃ y_, swL g ys (zs.take j) = y_ := ⟨_, rfl⟩
            rw [has] at hown HT HLE
            clear hV has
            have hlt2 : (j : Int) < m := by omega
            go_wp2_with (go_at_call 37; refine (within_any _ _ _ _).mono ?_; rintro e w' ⟨rfl, rfl⟩)
            refine (CW.out _ HB.out).mono ?_
            rintro e w7 ⟨rfl, hb7⟩
            have HB7 := Lib.hid (HB.out.trans (hb7.mono HB.out.size))
            have hd0 := keep2 hb7 hc0
            have hd1 := keep2 hb7 hc1
            have hown := hown.on hb7
            have hw7 : w1.heap.size ≤ w7.heap.size := Nat.le_trans hwr hb7.size
            clear hb7 HB hc0 hc1 hx CW
            go_wp2_with (at_builtin; refine wpList_app rfl _ _ rfl w1.heap.size _ as_ V rfl (hown.same (fun k hk hl => Below.heap_alloc _ _ _ hl)) ⟨w7.heap.size, 0, none⟩ rfl (one_newC w7 V) HLE.out (by simp; omega) ?_)
            intro v' w8 hown' hgrow hw
            have hb := app_below hown hw7 hgrow
            have hlo : w.heap.size < w1.heap.size := hw1
            have hc0 := (hb.cell (p := ⟨w.heap.size, 0, none⟩) hlo).trans hd0
            have hc1 := (hb.cell (p := ⟨w.heap.size, 1, none⟩) hlo).trans hd1
            have HB8 := Lib.hid (HB7.out.trans (hb.mono (by omega)))
            have hw8 : w1.heap.size ≤ w8.heap.size := Nat.le_trans hw7 hb.size
            rw [← HT.out] at hown'
            clear hgrow hown hw hb HB7 hd0 hd1 hw7
            go_wp2_with fail
            go_roundw
            case rel => exact ⟨j + 1, by omega, by go_num, hown', hc0, hc1, HB8, hw8, HZ2⟩
            case measure => simp [intOf]; omega
          · have HE := Lib.hid (HBAD.out hin)
            have HV := Lib.hid (HV2.out HE.out)
            have hlt2 : (j : Int) < m := by omega
            go_wp2_with (go_at_call 37; refine (within_any _ _ _ _).mono ?_; rintro e w' ⟨rfl, rfl⟩)
            go_ret2
            exact ⟨ret_ii HV.out.symm HE.out.symm, HB.out⟩
        · obtain rfl : j = m := by omega
          have hA : zs.take j = zs := List.take_of_length_le (by rw [HM.out]; exact Nat.le_refl _)
          rw [hA] at hown
          have HE := Lib.hid (HY0.out (by omega) HZ.out)
          have HV : Hid (swV g ys zs = -(-swS g ys zs / 1000)) := Lib.hid (by unfold swV; rw [HE.out]; rfl)
          have hln : (swL g ys zs).length = j := by unfold swL; rw [List.length_map, HM.out]
          obtain ⟨a5, c5, rfl, h5, h6⟩ := hown.ints9 (by omega)
          have hsb := HS.out.sw_bd zs
          rw [HM.out] at hsb
          have CT := Lib.hid (tot_any (swL g ys zs) a5 _ c5 wr h5 h6 (fun k => by
            have := HS.out.sw_bd (zs.take k)
            have hle : (zs.take k).length ≤ zs.length := List.length_take_le' _ _
            rw [HM.out] at hle
            unfold swL
            rw [← List.map_take]
            unfold swS at this
            omega))
          rw [show (swL g ys zs).sum = swS g ys zs from rfl] at CT
          obtain ⟨A, hA2⟩ : ∃ y_, swS g ys zs = y_ := ⟨_, rfl⟩
          rw [hA2] at hsb HV CT
          obtain ⟨n5, hn5⟩ : ∃ y_, (swL g ys zs).length = y_ := ⟨_, rfl⟩
          rw [hn5] at CT
          (try rw [hn5])
          clear hA hA2 h5 h6 hln hn5
          go_wp2_with (first | (go_at_call 40; refine (CT.out).mono ?_; rintro e w' ⟨rfl, rfl⟩) | (go_at_call 39; refine (du_thou _ _ (by omega) (by omega)).mono ?_; rintro e w' ⟨rfl, rfl⟩))
          go_ret2
          exact ⟨ret_ii HV.out.symm HE.out.symm, HB.out⟩
  · have h1' : skB g ys = false := by simpa using h1
    have HE : Hid (swE g ys zs = 1) := Lib.hid (by unfold swE; rw [if_neg h1])
    have HV : Hid (swV g ys zs = 0) := Lib.hid (by unfold swV; rw [HE.out]; rfl)
    rw [h1'] at C1
    clear h1 h1'
    go_enter Try.func12, Try.ntmps12
    go_wp2_with fail
    refine C1.out.mono ?_
    rintro e w1 ⟨rfl, hb1⟩
    obtain ⟨hB, hc0, hc1⟩ := box2 hb1
    have HB := Lib.hid hB
    clear hB hb1
    go_wp2_with fail
    go_ret2
    exact ⟨ret_ii HV.out.symm HE.out.symm, HB.out⟩

set_option maxHeartbeats 1000000 in
theorem iwo_any (g : Int) (ys : List Int) (a : Option Addr) (l c : Nat) (w : World) (h : Ints w a l ys) (hlc : l ≤ c) :
    Calls Try.prog 17 #[.agg #[.int .i64 g, .slice a l c]] w (IIPost (woV g ys) (siE g ys) w) := by
  have C1 := Lib.hid (isS_impl g ys a l c (w.alloc (.cells #[.int .i64 g, .slice a l c] 26)) (h.on (box_b _ _)) hlc)
  have HL := Lib.hid h.len
  have H := Lib.hid h
  clear h
  unfold IIPost
  by_cases h1 : skB g ys = true
  · rw [h1] at C1
    have HE : Hid (siE g ys = 0) := Lib.hid (by unfold siE; rw [if_pos h1])
    have HV : Hid (woV g ys = g + bestN ys l) := Lib.hid (by unfold woV; rw [if_pos HE.out, HL.out])
    have hst := (skB_iff _ _).1 h1
    obtain ⟨g0, g1⟩ := hst.1
    obtain ⟨l0, l1⟩ := hst.2.1
    rw [HL.out] at l0 l1
    have hN := bestN_lt ys l (by omega)
    have CM : Hid (∀ W, Hid (Below w.heap.size w W) → Calls Try.prog 46 #[.slice a l c] W fun e w' => e = .returned (.int .i64 (ys.getD (bestN ys l) 0)) ∧ W = w') :=
      Lib.hid (fun W hW => max_any ys a l c W (H.out.on hW.out) hlc (by omega))
    have CX : Hid (∀ W, Hid (Below w.heap.size w W) → Calls Try.prog 45 #[.slice a l c, .int .i64 (ys.getD (bestN ys l) 0)] W fun e w' => e = .returned (.int .i64 (bestN ys l)) ∧ W = w') :=
      Lib.hid (fun W hW => idx_any ys _ a l c (bestN ys l) W (H.out.on hW.out) hN rfl (fun j hj => by have := bestN_first ys l j hj; omega))
    obtain ⟨N, hNN⟩ : ∃ y_, bestN ys l = y_ := ⟨_, rfl⟩
    rw [hNN] at hN HV CM CX
    obtain ⟨M, hM⟩ : ∃ y_, ys.getD N 0 = y_ := ⟨_, rfl⟩
    rw [hM] at CM CX
    clear h1 hst hNN hM
    go_enter Try.func17, Try.ntmps17
    go_wp2_with fail
    refine C1.out.mono ?_
    rintro e w1 ⟨rfl, hb1⟩
    obtain ⟨hB, hc0, hc1⟩ := box2 hb1
    have HB := Lib.hid hB
    clear hB hb1
    go_wp2_with fail
    go_region_held3 (fun w' => w'.cell? ⟨w.heap.size, 0, none⟩ = some (.int .i64 g) ∧ w'.cell? ⟨w.heap.size, 1, none⟩ = some (.slice a l c) ∧ Hid (Below w.heap.size w w'))
      (first
        | (go_split_ands; exact ⟨by with_reducible assumption, by with_reducible assumption, by with_reducible assumption⟩)
        | (go_split_ands; exact ⟨cell_drew (by with_reducible assumption), cell_drew (by with_reducible assumption), Lib.hid (Below.drew (Hid.out (by with_reducible assumption)))⟩)
        | fail)
      (first
        | (go_split_ands; go_at_call 46; ((with_reducible refine (CM.out _ (by with_reducible assumption)).mono ?_); rintro e w' ⟨rfl, rfl⟩))
        | (go_split_ands; go_at_call 45; ((with_reducible refine (CX.out _ (by with_reducible assumption)).mono ?_); rintro e w' ⟨rfl, rfl⟩))
        | fail)
    all_goals
      go_split_ands
      go_wp2_with fail
      go_ret2
      exact ⟨ret_ii HV.out.symm HE.out.symm, Hid.out (by with_reducible assumption)⟩
  · have h1' : skB g ys = false := by simpa using h1
    have HE : Hid (siE g ys = 1) := Lib.hid (by unfold siE; rw [if_neg h1])
    have HV : Hid (woV g ys = 0) := Lib.hid (by unfold woV; rw [HE.out]; rfl)
    rw [h1'] at C1
    clear h1 h1'
    go_enter Try.func17, Try.ntmps17
    go_wp2_with fail
    refine C1.out.mono ?_
    rintro e w1 ⟨rfl, hb1⟩
    obtain ⟨hB, hc0, hc1⟩ := box2 hb1
    have HB := Lib.hid hB
    clear hB hb1
    go_wp2_with fail
    go_ret2
    exact ⟨ret_ii HV.out.symm HE.out.symm, HB.out⟩

end Go.Proofs.Ytgfemcpjkdepdaa
