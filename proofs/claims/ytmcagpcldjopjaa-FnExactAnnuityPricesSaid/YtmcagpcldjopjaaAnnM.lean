/- AnnuityPrices of the program. -/
import Derived.Test.YtmcagpcldjopjaaAnnQ
import Derived.Test.YtmcagpcldjopjaaAnnL
namespace Go.Proofs.Ytmcagpcldjopjaa
open Go.ChangeShapes Go.WideShapes Go.ChangeAt Go.RowKit
set_option linter.unusedVariables false
set_option maxRecDepth 100000

/-- the code but for the columns D -/
theorem ap_ak (r f : Int) (xs : List Int) (b : Int) : apE r f xs b = if akE r f xs f (inB b 1 1000000) 0 = 0 then (if apB r xs = true then 0 else 5) else akE r f xs f (inB b 1 1000000) 0 := by
  unfold apE
  have h := anE_ak r f xs f (inB b 1 1000000) 0
  by_cases h1 : akE r f xs f (inB b 1 1000000) 0 = 0
  · rw [if_pos h1] at h
    rw [if_pos h1]
    by_cases h2 : cD r xs (f - f).toNat = 0
    · rw [if_pos h2] at h
      rw [h, if_neg (by omega)]
      obtain ⟨hc, _⟩ := akE_iff.1 h1
      obtain ⟨ht, _⟩ := coE_iff.1 hc
      rw [apB_no (j := 0) (by have := ht.2.1.1; omega) (by rw [show (f - f).toNat = 0 by omega] at h2; exact h2)]
      simp
    · rw [if_neg h2] at h
      rw [h, if_pos rfl]
  · rw [if_neg h1] at h
    rw [h, if_neg h1]

set_option maxHeartbeats 4000000 in
theorem iap_any (r f : Int) (xs : List Int) (a : Option Addr) (l c : Nat) (b : Int) (w : World) (h : Ints w a l xs) (hlc : l ≤ c) :
    Calls Try.prog 33 #[.agg #[.int .i64 f, .slice a l c], .int .i64 r, .int .i64 b] w (LsPost (apY r f xs b) (apE r f xs b) w) := by
  have H := Lib.hid h
  have HL := Lib.hid h.len
  have CK : Hid (∀ W, Hid (Below w.heap.size w W) → Calls Try.prog 76 #[.agg #[.int .i64 f, .slice a l c], .int .i64 r, .int .i64 f, .int .i64 b, .int .i64 0] W fun e w' => e = .returned (.int .i64 (akE r f xs f (inB b 1 1000000) 0)) ∧ Below W.heap.size W w') :=
    Lib.hid (fun W hW => ackeck_any r f xs a l c f b 0 W (H.out.on hW.out) hlc)
  clear h
  have HY : Hid (apY r f xs b = if apE r f xs b = 0 then colL (apF r xs b) (xs.length - 1) else []) := Lib.hid rfl
  have HEE := Lib.hid (ap_ak r f xs b)
  obtain ⟨Y, hY⟩ : ∃ y_, apY r f xs b = y_ := ⟨_, rfl⟩
  obtain ⟨EE, hEE⟩ : ∃ y_, apE r f xs b = y_ := ⟨_, rfl⟩
  obtain ⟨E, hE⟩ : ∃ E, akE r f xs f (inB b 1 1000000) 0 = E := ⟨_, rfl⟩
  rw [hY, hEE] at HY
  rw [hEE, hE] at HEE
  rw [hE] at CK
  rw [hY, hEE]
  have HE := Lib.hid hE
  clear hE hY hEE
  by_cases hz : E = 0
  · subst hz
    obtain ⟨hc, hb, -, -⟩ := akE_iff.1 HE.out
    obtain ⟨ht, ⟨r0, r1⟩, x0, x1⟩ := coE_iff.1 hc
    obtain ⟨f0, f1⟩ := ht.1
    obtain ⟨b0, b1⟩ := (inB_iff _ _ _).1 hb
    obtain ⟨l0, l1⟩ := ht.2.1
    have hlf := ht.2.2.1
    rw [HL.out] at l0 l1 hlf
    have HT := Lib.hid ht
    clear ht hc hb HE
    go_enter Try.func33, Try.ntmps33
    go_wp2_with fail
    with_reducible refine (CK.out _ (Lib.hid (box_b _ _))).mono ?_
    rintro e w1 ⟨rfl, hb⟩
    obtain ⟨hB, hc0, hc1⟩ := box2 hb
    have HB := Lib.hid hB
    clear hB hb
    go_wp2_with fail
    with_reducible refine (co_any r f xs a l c _ (H.out.on HB.out) HT.out r0 r1).mono ?_
    rintro e w2 ⟨R, G, rfl, hR, hG, hGs, hb⟩
    have HB2 := Lib.hid (HB.out.trans (hb.mono HB.out.size))
    have HC : Hid (Cols w2 R r f xs (.slice a l c)) := Lib.hid ⟨G, hG, hGs⟩
    have hd0 := keep2 hb hc0
    have hd1 := keep2 hb hc1
    clear hG hGs hb hc0 hc1 HB hR
    go_wp2_with fail
    with_reducible refine (prices_any R _).mono ?_
    rintro e w3 ⟨B, cb, p0, p1, p2, rfl, hpm, hb⟩
    have HB3 := Lib.hid (HB2.out.trans (hb.mono HB2.out.size))
    have HC3 := Lib.hid (HC.out.on hb)
    have hc0 := keep2 hb hd0
    have hc1 := keep2 hb hd1
    obtain ⟨ns, hget, hns⟩ := hpm.get 0 (.inl rfl)
    have HP : Hid (∀ j : Nat, (j : Int) < l - 1 → ∀ W, Hid (Below w3.heap.size w3 W) → Calls Try.prog 97 #[.int .i64 (f + j), .int .i64 b, .int .i64 0, .pointer (some ⟨cb, 0, none⟩), .pointer (some ⟨ns, 0, none⟩)] W (IIPost (prV (cD r xs j) b (cN r xs j)) (prE (cD r xs j)) W)) := Lib.hid (by
      intro j hj W hW
      have ht := HT.out
      obtain ⟨u0, u1⟩ := numU_bd ht r r0 (f + j) 0 0 (by omega) (by omega)
      have h1 : Cap W cb R := keep2 hW.out hpm.cap
      have h2 := keep2 hW.out hns
      have h3 := HC3.out.on hW.out
      have := price_any (fnS 0) (fnS_enter 0) r f xs _ cb ns R (f + j) b 0 (numU r f xs (f + j) 0 0) W h1 h2 h3 ht r0 f0 (by omega) (by omega) b0 b1 u0 u1 (fun W2 hW2 => num_any 0 r f xs _ cb R (f + j) 0 W2 (keep2 hW2 h1) (h3.on hW2) ht r0 (by omega) (by omega) (by omega) (by omega))
      rw [show numU r f xs (f + j) 0 0 = cN r xs (f + j - f).toNat from rfl, show (f + (j : Int) - f).toNat = j by omega] at this
      exact this)
    have hlt0 : w.heap.size < w3.heap.size := block_lt hc0
    have HS3 := Lib.hid hlt0
    unfold clo at hget
    have hown := ownI_new w3
    have HW0 : Hid (Below w3.heap.size w3 (w3.alloc (.cells #[] 2))) := Lib.hid (box_b _ _)
    have hd0 : (w3.alloc (.cells #[] 2)).cell? ⟨w.heap.size, 0, none⟩ = some (.int .i64 f) := keep2 HW0.out hc0
    have hd1 : (w3.alloc (.cells #[] 2)).cell? ⟨w.heap.size, 1, none⟩ = some (.slice a l c) := keep2 HW0.out hc1
    have HC0 := Lib.hid hc0
    have HC1 := Lib.hid hc1
    clear hb hpm hns HC HB2
    go_wp2_with fail
    clear hget hc0 hc1 hd0 hd1
    go_loopw [10, 11] (fun v i wr => ∃ j : Nat, (j : Int) ≤ l - 1 ∧ i = .int .i64 (f + j) ∧ OwnI w3.heap.size wr v (colL (apF r xs b) j) ∧ Hid (Below w3.heap.size w3 wr) ∧ Hid (∀ k, k < j → cD r xs k ≠ 0)) (fun _ i _ => (f + l - intOf i).toNat)
    case atStart => exact ⟨0, by omega, by go_num, hown, HW0, Lib.hid (fun k hk => by omega)⟩
    case round =>
      clear hown HW0
      obtain ⟨j, hj, rfl, hown, HW, HZ⟩ := hrel
      have hc0 := (HW.out.cell (p := ⟨w.heap.size, 0, none⟩) HS3.out).trans HC0.out
      have hc1 := (HW.out.cell (p := ⟨w.heap.size, 1, none⟩) HS3.out).trans HC1.out
      have hwr := HW.out.size
      by_cases hlt : f + (j : Int) < f + l - 1
      · go_wp2_with fail
        with_reducible refine (end_any f xs _ _ _ _ (by omega) f0 (by omega)).mono ?_
        rintro e w5 ⟨rfl, hb⟩
        have HW5 := Lib.hid (HW.out.trans (hb.mono HW.out.size))
        have hown2 := hown.on hb
        clear hb hc0 hc1 HW hown hwr
        have CP := Lib.hid (HP.out j (by omega) w5 HW5)
        unfold IIPost at CP
        have HF : Hid (apF r xs b j = upV b (cN r xs j) (cD r xs j)) := Lib.hid rfl
        have HLT : Hid (j < xs.length - 1) := Lib.hid (by rw [HL.out]; omega)
        obtain ⟨D, hD⟩ : ∃ y_, cD r xs j = y_ := ⟨_, rfl⟩
        have HDD := Lib.hid hD
        obtain ⟨N, hN⟩ : ∃ y_, cN r xs j = y_ := ⟨_, rfl⟩
        rw [hD] at CP HF
        rw [hN] at CP HF
        clear hD hN
        by_cases hz : D = 0
        · subst hz
          have HE5 : Hid (EE = 5) := Lib.hid (by rw [HEE.out, apB_no HLT.out HDD.out]; simp)
          have HY5 : Hid (Y = []) := Lib.hid (by rw [HY.out, HE5.out]; rfl)
          rw [show prV 0 b N = 0 from rfl, show prE 0 = 5 from rfl] at CP
          go_wp2_with fail
          with_reducible refine CP.out.mono ?_
          rintro e w6 ⟨rfl, hb⟩
          have HW6 := Lib.hid (HW5.out.trans (hb.mono HW5.out.size))
          clear hb
          go_wp2_with fail
          go_ret2
          exact ls_nil (HB3.out.trans (HW6.out.mono HB3.out.size)) HE5.out HY5.out
        · have HZ2 : Hid (∀ k, k < j + 1 → cD r xs k ≠ 0) := Lib.hid (fun k hk => by
            by_cases e : k = j
            · subst e; rw [HDD.out]; exact hz
            · exact HZ.out k (by omega))
          rw [show prV D b N = upV b N D by unfold prV; rw [if_neg hz], show prE D = 0 by unfold prE; rw [if_neg hz]] at CP
          obtain ⟨U, hU⟩ : ∃ y_, upV b N D = y_ := ⟨_, rfl⟩
          rw [hU] at CP HF
          have HYY : Hid (colL (apF r xs b) (j + 1) = colL (apF r xs b) j ++ [U]) := Lib.hid (by rw [colL_snoc, HF.out])
          have HL1 : Hid ((colL (apF r xs b) j).length ≤ 4096) := Lib.hid (by rw [colL_len]; omega)
          obtain ⟨zs, hzs⟩ : ∃ zs, colL (apF r xs b) j = zs := ⟨_, rfl⟩
          rw [hzs] at hown2 HYY HL1
          clear hzs hU hz HZ
          go_wp2_with fail
          with_reducible refine CP.out.mono ?_
          rintro e w6 ⟨rfl, hb⟩
          have HW6 := Lib.hid (HW5.out.trans (hb.mono HW5.out.size))
          have hown := hown2.on hb
          have hw6 := HW6.out.size
          clear hb HW5 hown2 CP
          go_wp2_with (at_builtin; refine wpList_app rfl _ _ rfl w3.heap.size _ zs U rfl (hown.same (fun k hk hl => Below.heap_alloc _ _ _ hl)) ⟨w6.heap.size, 0, none⟩ rfl (one_newC w6 U) HL1.out (by simp; omega) ?_)
          intro v' w7 hown' hgrow hw
          have hb := app_below hown hw6 hgrow
          have HW7 := Lib.hid (HW6.out.trans hb)
          rw [← HYY.out] at hown'
          clear hgrow hown hw hb HW6
          go_wp2_with fail
          go_roundw
          case rel => exact ⟨j + 1, by omega, by go_num, hown', HW7, HZ2⟩
          case measure => simp [intOf]; omega
      · go_wp2_with fail
        with_reducible refine (end_any f xs _ _ _ _ (by omega) f0 (by omega)).mono ?_
        rintro e w5 ⟨rfl, hb⟩
        have HW5 := Lib.hid (HW.out.trans (hb.mono HW.out.size))
        have hown2 := hown.on hb
        clear hb hc0 hc1 HW hown
        go_wp2_with fail
        go_ret2
        have ej : j = xs.length - 1 := by have := HL.out; omega
        have HE0 : EE = 0 := by rw [HEE.out, apB_yes (by rw [← ej]; exact HZ.out)]; simp
        exact ls_cond hown2 (by rw [colL_len]; omega) (HB3.out.trans (HW5.out.mono HB3.out.size)) HB3.out.size HE0 (by rw [HY.out, HE0, ej]; rfl)
  · have hne : (E != 0) = true := by simp [hz]
    have HEN : Hid (EE = E) := Lib.hid (by rw [HEE.out, if_neg hz])
    have HYN : Hid (Y = []) := Lib.hid (by rw [HY.out, HEN.out, if_neg hz])
    clear hz HY HE HEE
    go_enter Try.func33, Try.ntmps33
    go_wp2_with fail
    with_reducible refine (CK.out _ (Lib.hid (box_b _ _))).mono ?_
    rintro e w1 ⟨rfl, hb⟩
    obtain ⟨hB, hc0, hc1⟩ := box2 hb
    have HB := Lib.hid hB
    clear hB hb
    go_wp2_with fail
    go_ret2
    exact ls_nil HB.out HEN.out HYN.out

end Go.Proofs.Ytmcagpcldjopjaa
