/- AnnuityPrices of the model. -/
import Derived.Test.YtmcagpcldjopjaaAnnT
import Derived.Test.YtmcagpcldjopjaaColL
import Derived.Deep.RegionHeld3
namespace Go.Proofs.Ytmcagpcldjopjaa
open Go.ChangeShapes Go.WideShapes Go.ChangeAt Go.RowKit
set_option linter.unusedVariables false
set_option maxRecDepth 100000

/-- append at a step of a region that draws its order -/
theorem step_app {w : World} {ops : Array Oper} {o : Oper} {a : Act} {K : Act → World → Prop} {Q : Exit → Act → World → Prop} {E : Prop} (hgd : o.guard = none) (s x : Operand)
    (ho : o.op = .call { callee := .builtin .append, args := #[s, x], argTypes := #[24, 24] })
    (base : Nat) (v : Value) (xs : List Int) (y : Int) (hs : a.eval s = v) (hown : OwnI base w v xs) (ad : Addr) (hx : a.eval x = .slice (some ad) 1 1) (hc : ∀ j u, [Value.int .i64 y][j]? = some u → w.cell? (ad.add j) = some u)
    (hlen : xs.length ≤ 4096) (hbase : base ≤ w.heap.size)
    (h : ∀ v' w', OwnI base w' v' (xs ++ [y]) → w.grownBy w' v.ownBlock → (v'.ownBlock = v.ownBlock ∨ v'.ownBlock = some w.heap.size) → K (a.put o.dst v') w') :
    if Region.wanted o (yielded ops a.tmps) = true then Oper.wp Try.prog o a w K Q else E := by
  obtain ⟨i0, hi, hz0, hz1, hz2⟩ := info_parts infoI
  have hm : maxLen = maxLen := rfl
  unfold maxLen at hm
  obtain ⟨v', w', hr, h2, h3, h4⟩ := run_append_own (P := Try.prog) w base 24 o.type 2 i0 (.int .i64 0) 1 8 Try.underlying24 hi hz0 hz1 hz2 rfl (by decide) v xs.length (xs.map (Value.int .i64)) hown ad 1 1 [.int .i64 y] rfl hc (by intro u hu; simp at hu; subst hu; rfl) (by unfold maxLen; omega) (by omega) hbase
  have h5 := append_where ad y hown hc hlen hbase v' w' o.type hr
  have h6 : OwnI base w' v' (xs ++ [y]) := by
    unfold OwnI
    rw [List.length_append, List.length_singleton, List.map_append]
    exact h2
  have hw : Region.wanted o (yielded ops a.tmps) = true := by simp [Region.wanted, hgd]
  rw [if_pos hw]
  unfold Oper.wp execOp
  simp only [ho, resolve, invoke, builtin, Sem.run_bind, Sem.run_pure, Result.andThen_ok, List.map_toArray, List.map_cons, List.map_nil, hs, hx, hr]
  exact h v' w' h6 h3 h5

/-- are all columns D not 0 while lives are left? -/
def apB (r : Int) (xs : List Int) : Bool := (List.range (xs.length - 1)).all fun k => decide (cD r xs k ≠ 0)

def apE (r f : Int) (xs : List Int) (b : Int) : Int := if anE r f xs f (inB b 1 1000000) 0 = 0 then (if apB r xs = true then 0 else 5) else anE r f xs f (inB b 1 1000000) 0

def apF (r : Int) (xs : List Int) (b : Int) (k : Nat) : Int := upV b (cN r xs k) (cD r xs k)

def apY (r f : Int) (xs : List Int) (b : Int) : List Int := if apE r f xs b = 0 then colL (apF r xs b) (xs.length - 1) else []

theorem apB_no {r : Int} {xs : List Int} {j : Nat} (hj : j < xs.length - 1) (h : cD r xs j = 0) : apB r xs = false := by
  unfold apB
  rw [List.all_eq_false]
  exact ⟨j, by simpa using hj, by simp [h]⟩

theorem apB_yes {r : Int} {xs : List Int} (h : ∀ k, k < xs.length - 1 → cD r xs k ≠ 0) : apB r xs = true := by
  unfold apB
  rw [List.all_eq_true]
  intro k hk
  simpa using h k (by simpa using hk)

theorem apB_iff {r : Int} {xs : List Int} : apB r xs = true ↔ ∀ k, k < xs.length - 1 → cD r xs k ≠ 0 := by
  refine ⟨fun h k hk e => ?_, apB_yes⟩
  rw [apB_no hk e] at h; cases h

set_option maxHeartbeats 8000000 in
theorem sap_any (r f : Int) (xs : List Int) (a : Option Addr) (l c : Nat) (b : Int) (w : World) (h : Ints w a l xs) :
    Calls Try.prog 34 #[.agg #[.int .i64 f, .slice a l c], .int .i64 r, .int .i64 b] w (LsPost (apY r f xs b) (apE r f xs b) w) := by
  have H := Lib.hid h
  have HL := Lib.hid h.len
  have CA : Hid (∀ W, Hid (Below w.heap.size w W) → Calls Try.prog 60 #[.agg #[.int .i64 f, .slice a l c], .int .i64 r, .int .i64 f, .bool (inB b 1 1000000), .int .i64 0] W fun e w' => e = .returned (.int .i64 (anE r f xs f (inB b 1 1000000) 0)) ∧ Below W.heap.size W w') :=
    Lib.hid (fun W hW => ancode_any r f xs a l c f _ 0 W (H.out.on hW.out))
  clear h
  have HY : Hid (apY r f xs b = if apE r f xs b = 0 then colL (apF r xs b) (xs.length - 1) else []) := Lib.hid rfl
  have HEE : Hid (apE r f xs b = if anE r f xs f (inB b 1 1000000) 0 = 0 then (if apB r xs = true then 0 else 5) else anE r f xs f (inB b 1 1000000) 0) := Lib.hid rfl
  obtain ⟨Y, hY⟩ : ∃ y_, apY r f xs b = y_ := ⟨_, rfl⟩
  obtain ⟨EE, hEE⟩ : ∃ y_, apE r f xs b = y_ := ⟨_, rfl⟩
  obtain ⟨E, hE⟩ : ∃ E, anE r f xs f (inB b 1 1000000) 0 = E := ⟨_, rfl⟩
  rw [hY, hEE] at HY
  rw [hEE, hE] at HEE
  rw [hE] at CA
  rw [hY, hEE]
  have HE := Lib.hid hE
  clear hE hY hEE
  by_cases hz : E = 0
  · subst hz
    obtain ⟨hc, hb, -, -, hd⟩ := anE_iff.1 HE.out
    obtain ⟨ht, ⟨r0, r1⟩, x0, x1⟩ := coE_iff.1 hc
    obtain ⟨f0, f1⟩ := ht.1
    obtain ⟨b0, b1⟩ := (inB_iff _ _ _).1 hb
    obtain ⟨l0, l1⟩ := ht.2.1
    have hlf := ht.2.2.1
    rw [HL.out] at l0 l1 hlf
    have HT := Lib.hid ht
    clear ht hc hb hd HE
    go_enter Try.func34, Try.ntmps34
    go_wp2_with fail
    go_region_held3 (fun w' => w'.cell? ⟨w.heap.size, 0, none⟩ = some (.int .i64 f) ∧ w'.cell? ⟨w.heap.size, 1, none⟩ = some (.slice a l c) ∧ Hid (Below w.heap.size w w'))
      (first
        | (go_split_ands; exact ⟨by with_reducible assumption, by with_reducible assumption, by with_reducible assumption⟩)
        | (go_split_ands; exact ⟨by go_simp, by go_simp, Lib.hid (Below.drew (box_b _ _))⟩)
        | (go_split_ands; exact ⟨by go_simp, by go_simp, Lib.hid (box_b _ _)⟩)
        | (go_split_ands; exact ⟨keep2 hb (by with_reducible assumption), keep2 hb (by with_reducible assumption), Lib.hid (Below.trans (Hid.out (by with_reducible assumption)) (Below.mono hb (Below.size (Hid.out (by with_reducible assumption)))))⟩))
      (first
        | (go_split_ands; go_at_call 61; ((with_reducible refine (samt_any _ _).mono ?_); rintro e w' ⟨rfl, rfl⟩))
        | (go_split_ands; go_at_call 60; ((with_reducible refine (CA.out _ (by with_reducible assumption)).mono ?_); rintro e w1 ⟨rfl, hb⟩; have hsz : w.heap.size < w1.heap.size := by (have := hb.size; simp at this; omega))))
    go_split_ands
    have hc0 : w1.cell? ⟨w.heap.size, 0, none⟩ = some (.int .i64 f) := by with_reducible assumption
    have hc1 : w1.cell? ⟨w.heap.size, 1, none⟩ = some (.slice a l c) := by with_reducible assumption
    have HB : Hid (Below w.heap.size w w1) := by with_reducible assumption
    have hown := ownI_new w1
    have hd0 : (w1.alloc (.cells #[] 2)).cell? ⟨w.heap.size, 0, none⟩ = some (.int .i64 f) := keep2 (box_b w1 _) hc0
    have hd1 : (w1.alloc (.cells #[] 2)).cell? ⟨w.heap.size, 1, none⟩ = some (.slice a l c) := keep2 (box_b w1 _) hc1
    have HB1 : Hid (Below w.heap.size w (w1.alloc (.cells #[] 2))) := Lib.hid (HB.out.alloc (by omega) _)
    have hs1 : w1.heap.size ≤ (w1.alloc (.cells #[] 2)).heap.size := by simp
    clear hb CA
    go_wp2_with fail
    clear hc0 hc1 HB
    go_loopw [9, 10] (fun v i wr => ∃ j : Nat, (j : Int) ≤ l - 1 ∧ i = .int .i64 (f + j) ∧ OwnI w1.heap.size wr v (colL (apF r xs b) j) ∧ wr.cell? ⟨w.heap.size, 0, none⟩ = some (.int .i64 f) ∧ wr.cell? ⟨w.heap.size, 1, none⟩ = some (.slice a l c) ∧ Hid (Below w.heap.size w wr) ∧ w1.heap.size ≤ wr.heap.size ∧ Hid (∀ k, k < j → cD r xs k ≠ 0)) (fun _ i _ => (f + l - intOf i).toNat)
    case atStart => exact ⟨0, by omega, by go_num, hown, hd0, hd1, HB1, hs1, Lib.hid (fun k hk => by omega)⟩
    case round =>
      clear hown hd0 hd1 HB1 hs1
      obtain ⟨j, hj, rfl, hown, hc0, hc1, HB, hwr, HZ⟩ := hrel
      by_cases hlt : f + (j : Int) < f + l - 1
      · go_wp2_with fail
        with_reducible refine (end_spec f xs _ _ _ _ (by omega) f0 (by omega)).mono ?_
        rintro e w2 ⟨rfl, hb⟩
        have hd0 := keep2 hb hc0
        have hd1 := keep2 hb hc1
        have HB2 := Lib.hid (HB.out.trans (hb.mono HB.out.size))
        have hown2 := hown.on hb
        have hw2 : w1.heap.size ≤ w2.heap.size := Nat.le_trans hwr hb.size
        clear hb hc0 hc1 HB hown hwr
        have C2 : Hid (∀ W, Hid (Below w.heap.size w W) → Calls Try.prog 64 #[.agg #[.int .i64 f, .slice a l c], .int .i64 r, .int .i64 (f + j)] W fun e w' => e = .returned (.int .i64 (cD r xs j)) ∧ Below W.heap.size W w') :=
          Lib.hid (fun W hW => by have := sD_any r f xs a l c (f + j) W (H.out.on hW.out) HT.out r0 r1 (by omega) (by omega); rw [show (f + (j : Int) - f).toNat = j by omega] at this; exact this)
        have C1 : Hid (∀ W, Hid (Below w.heap.size w W) → Calls Try.prog 63 #[.agg #[.int .i64 f, .slice a l c], .int .i64 r, .int .i64 (f + j)] W fun e w' => e = .returned (.int .i64 (cN r xs j)) ∧ Below W.heap.size W w') :=
          Lib.hid (fun W hW => by have := sN_any r f xs a l c (f + j) W (H.out.on hW.out) HT.out r0 r1 (by omega) (by omega); rw [show (f + (j : Int) - f).toNat = j by omega] at this; exact this)
        have hq := HT.out.quot r r0 j (cN r xs j) b (HT.out.cN_bd r r0 _).1 (Int.le_refl _)
        have hn0 := (HT.out.cN_bd r r0 j).1
        have HF : Hid (apF r xs b j = upV b (cN r xs j) (cD r xs j)) := Lib.hid rfl
        have HD : Hid (cD r xs j = cD r xs j) := Lib.hid rfl
        have HLT : Hid (j < xs.length - 1) := Lib.hid (by rw [HL.out]; omega)
        obtain ⟨D, hD⟩ : ∃ y_, cD r xs j = y_ := ⟨_, rfl⟩
        have HDD := Lib.hid hD
        obtain ⟨N, hN⟩ : ∃ y_, cN r xs j = y_ := ⟨_, rfl⟩
        rw [hD] at C2 hq HF
        rw [hN] at C1 hq hn0 HF
        clear hD hN HD
        by_cases hz : D = 0
        · subst hz
          have HE5 : Hid (EE = 5) := Lib.hid (by rw [HEE.out, apB_no HLT.out HDD.out]; simp)
          have HY5 : Hid (Y = []) := Lib.hid (by rw [HY.out, HE5.out]; rfl)
          clear hq C1
          go_wp2_with fail
          with_reducible refine (C2.out _ HB2).mono ?_
          rintro e w3 ⟨rfl, hb⟩
          have HB3 := Lib.hid (HB2.out.trans (hb.mono HB2.out.size))
          clear hb
          go_wp2_with fail
          go_ret2
          exact ls_nil HB3.out HE5.out HY5.out
        · have hz2 : (D == 0) = false := by simp [hz]
          obtain ⟨q1, q2, q3, q4⟩ := hq hz (by omega) b1
          have CU := Lib.hid (fun W => sup_any b N D W (by omega) (by omega) hn0 q1 q2 q3 (by omega))
          have HZ2 : Hid (∀ k, k < j + 1 → cD r xs k ≠ 0) := Lib.hid (fun k hk => by
            by_cases e : k = j
            · subst e; rw [HDD.out]; exact hz
            · exact HZ.out k (by omega))
          obtain ⟨U, hU⟩ : ∃ y_, upV b N D = y_ := ⟨_, rfl⟩
          rw [hU] at CU HF
          have HYY : Hid (colL (apF r xs b) (j + 1) = colL (apF r xs b) j ++ [U]) := Lib.hid (by rw [colL_snoc, HF.out])
          have HL1 : Hid ((colL (apF r xs b) j).length ≤ 4096) := Lib.hid (by rw [colL_len]; omega)
          obtain ⟨zs, hzs⟩ : ∃ zs, colL (apF r xs b) j = zs := ⟨_, rfl⟩
          rw [hzs] at hown2 HYY HL1
          clear hzs hU hq hz q1 q2 q3 q4 HZ
          go_wp2_with fail
          with_reducible refine (C2.out _ HB2).mono ?_
          rintro e w3 ⟨rfl, hb⟩
          have hc0 := keep2 hb hd0
          have hc1 := keep2 hb hd1
          have HB3 := Lib.hid (HB2.out.trans (hb.mono HB2.out.size))
          have hown := hown2.on hb
          have hw3 : w1.heap.size ≤ w3.heap.size := Nat.le_trans hw2 hb.size
          clear hb hd0 hd1 HB2 hown2 hw2
          go_wp2_with fail
          have hown : OwnI w1.heap.size w3.drew _ zs := hown
          go_region_held3 (fun w' => w'.cell? ⟨w.heap.size, 0, none⟩ = some (.int .i64 f) ∧ w'.cell? ⟨w.heap.size, 1, none⟩ = some (.slice a l c) ∧ Hid (Below w.heap.size w w') ∧ w1.heap.size ≤ w'.heap.size)
            (first
              | (go_split_ands; exact ⟨by with_reducible assumption, by with_reducible assumption, by with_reducible assumption, by with_reducible assumption⟩)
              | (go_split_ands; exact ⟨(hb9.cell (p := ⟨w.heap.size, 0, none⟩) hsz).trans (by with_reducible assumption), (hb9.cell (p := ⟨w.heap.size, 1, none⟩) hsz).trans (by with_reducible assumption), Lib.hid (Below.trans (Hid.out (by with_reducible assumption)) (Below.mono hb9 (by omega))), Nat.le_trans (by with_reducible assumption) hb9.size⟩)
              | (go_split_ands; exact ⟨keep2 hb (by with_reducible assumption), keep2 hb (by with_reducible assumption), Lib.hid (Below.trans (Hid.out (by with_reducible assumption)) (Below.mono hb (Below.size (Hid.out (by with_reducible assumption))))), Nat.le_trans (by with_reducible assumption) hb.size⟩)
              | (go_split_ands; exact ⟨cell_drew hc0, cell_drew hc1, Lib.hid (Below.drew HB3.out), hw3⟩)
              | (go_split_ands; exact ⟨keep2 (box_b _ _) (by with_reducible assumption), keep2 (box_b _ _) (by with_reducible assumption), Lib.hid (Below.alloc (Hid.out (by with_reducible assumption)) (Below.size (Hid.out (by with_reducible assumption))) _), (by (rw [World.size_alloc]; exact Nat.le_succ_of_le (by with_reducible assumption)))⟩)
              | fail)
            (first
              | (go_split_ands; go_at_call 63; ((with_reducible refine (C1.out _ (by with_reducible assumption)).mono ?_); rintro e w' ⟨rfl, hb⟩; replace hown := OwnI.on hown hb))
              | (go_split_ands; go_at_call 64; ((with_reducible refine (C2.out _ (by with_reducible assumption)).mono ?_); rintro e w' ⟨rfl, hb⟩; replace hown := OwnI.on hown hb))
              | (go_split_ands; go_at_call 62; ((with_reducible refine (CU.out _).mono ?_); rintro e w' ⟨rfl, rfl⟩))
              | (go_split_ands; ((refine step_app (by rfl) _ _ (by rfl) w1.heap.size _ zs U (by rfl) (hown.same (fun k hk hl => Below.heap_alloc _ _ _ hl)) _ (by rfl) (one_newC _ U) HL1.out (by with_reducible assumption) ?_); intro v' w5 hown' hgrow hw; have hb9 := app_below hown (by with_reducible assumption) hgrow))
              | fail)
          · go_split_ands
            rw [← HYY.out] at hown'
            have hc0 : w5.cell? ⟨w.heap.size, 0, none⟩ = some (.int .i64 f) := by with_reducible assumption
            have hc1 : w5.cell? ⟨w.heap.size, 1, none⟩ = some (.slice a l c) := by with_reducible assumption
            have HB5 : Hid (Below w.heap.size w w5) := by with_reducible assumption
            have hw5 : w1.heap.size ≤ w5.heap.size := by with_reducible assumption
            go_wp2_with fail
            go_roundw
            case rel => exact ⟨j + 1, by omega, by go_num, hown', hc0, hc1, HB5, hw5, HZ2⟩
            case measure => simp [intOf]; omega
      · go_wp2_with fail
        with_reducible refine (end_spec f xs _ _ _ _ (by omega) f0 (by omega)).mono ?_
        rintro e w2 ⟨rfl, hb⟩
        have HB2 := Lib.hid (HB.out.trans (hb.mono HB.out.size))
        have hown2 := hown.on hb
        clear hb hc0 hc1 HB hown
        go_wp2_with fail
        go_ret2
        have ej : j = xs.length - 1 := by have := HL.out; omega
        have HE0 : EE = 0 := by rw [HEE.out, apB_yes (by rw [← ej]; exact HZ.out)]; simp
        exact ls_cond hown2 (by rw [colL_len]; omega) HB2.out (by omega) HE0 (by rw [HY.out, HE0, ej]; rfl)
  · have hne : (E != 0) = true := by simp [hz]
    have HEN : Hid (EE = E) := Lib.hid (by rw [HEE.out, if_neg hz])
    have HYN : Hid (Y = []) := Lib.hid (by rw [HY.out, HEN.out, if_neg hz])
    clear hz HY HE HEE
    go_enter Try.func34, Try.ntmps34
    go_wp2_with fail
    go_region_held3 (fun w' => w'.cell? ⟨w.heap.size, 0, none⟩ = some (.int .i64 f) ∧ w'.cell? ⟨w.heap.size, 1, none⟩ = some (.slice a l c) ∧ Hid (Below w.heap.size w w'))
      (first
        | (go_split_ands; exact ⟨by with_reducible assumption, by with_reducible assumption, by with_reducible assumption⟩)
        | (go_split_ands; exact ⟨by go_simp, by go_simp, Lib.hid (Below.drew (box_b _ _))⟩)
        | (go_split_ands; exact ⟨by go_simp, by go_simp, Lib.hid (box_b _ _)⟩)
        | (go_split_ands; exact ⟨keep2 hb (by with_reducible assumption), keep2 hb (by with_reducible assumption), Lib.hid (Below.trans (Hid.out (by with_reducible assumption)) (Below.mono hb (Below.size (Hid.out (by with_reducible assumption)))))⟩))
      (first
        | (go_split_ands; go_at_call 61; ((with_reducible refine (samt_any _ _).mono ?_); rintro e w' ⟨rfl, rfl⟩))
        | (go_split_ands; go_at_call 60; ((with_reducible refine (CA.out _ (by with_reducible assumption)).mono ?_); rintro e w1 ⟨rfl, hb⟩)))
    all_goals
      go_split_ands
      go_wp2_with fail
      go_ret2
      exact ls_nil (Hid.out (by with_reducible assumption)) HEN.out HYN.out

end Go.Proofs.Ytmcagpcldjopjaa
