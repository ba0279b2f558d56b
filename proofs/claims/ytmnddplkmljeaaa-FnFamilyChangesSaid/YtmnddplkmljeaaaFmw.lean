/- Families: the model: changes, ends, new marriages. (Written by wip/gen/fmw.py.) -/
import Derived.Test.YtmnddplkmljeaaaFmv
import Derived.Test.YtmnddplkmljeaaaFmx
namespace Go.Proofs.Ytmnddplkmljeaaa
open Go.ChangeShapes Go.WideShapes Go.ChangeAt Go.RowKit
set_option linter.unusedVariables false
set_option linter.unusedSimpArgs false
set_option maxRecDepth 100000

set_option maxHeartbeats 1000000 in
theorem snx_any (d m v l : Int) (ch : List Int) (a : Option Addr) (n c : Nat) (k : Int) (w : World) (h : Ints w a n ch) :
    Calls Try.prog 32 #[.agg #[.int .i64 d, .int .i64 m, .int .i64 v, .int .i64 l, .slice a n c], .int .i64 k] w fun e w' => e = .returned (.tuple #[.int .i64 (fV (nxE (fmE (fmB d m v l ch) (mthB k)) (nxV d v l ch k)) (nxV d v l ch k)), .int .i64 (nxE (fmE (fmB d m v l ch) (mthB k)) (nxV d v l ch k))]) ∧ Below w.heap.size w w' := by
  have HB := Lib.hid (FB.new w d m v l (c := c) h)
  obtain ⟨E, hE⟩ : ∃ y_, fmE (fmB d m v l ch) (mthB k) = y_ := ⟨_, rfl⟩
  have CC : Hid (∀ W, Hid (FB w d m v l a n c ch W) → Calls Try.prog 80 #[.agg #[.int .i64 d, .int .i64 m, .int .i64 v, .int .i64 l, .slice a n c], .bool (mthB k)] W fun e w' => e = .returned (.int .i64 E) ∧ Below W.heap.size W w') := Lib.hid (fun W hW => by rw [← hE]; exact scode_any d m v l ch a n c _ W hW.out.i)
  rw [hE]
  clear h
  obtain ⟨f0, f1, f2, f3, f4, -⟩ := fbS HB.out
  by_cases h0 : E = 0
  · subst h0
    obtain ⟨hf, hk⟩ := fmE_iff.1 hE
    have hf := (fm_iff ..).1 hf
    have hk2 := (mthB_iff _).1 hk
    have q1 : IntKind.i64.wrap (k + 1) = k + 1 := IntWalk.i64_in _ (by omega)
    have CD : Hid (∀ W, Hid (FB w d m v l a n c ch W) → ∀ x, 0 ≤ x ∧ x ≤ 36000 → Calls Try.prog 93 #[.agg #[.int .i64 d, .int .i64 m, .int .i64 v, .int .i64 l, .slice a n c], .int .i64 x] W fun e w' => e = .returned (.bool (chB d v l ch x)) ∧ Below W.heap.size W w') := Lib.hid (fun W hW x hx => sdi_any d m v l ch a n c x W hW.out.i hf hx.1 hx.2)
    have HHit : Hid (∀ x, k < x → x < 36000 → (∀ j, k < j → j < x → chB d v l ch j = false) → chB d v l ch x = true → nxV d v l ch k = x) := Lib.hid (fun x h1 h2 h3 h4 => nx_hit hf h1 h2 h3 h4)
    have HNo : Hid ((∀ j, k < j → j < 36000 → chB d v l ch j = false) → nxV d v l ch k = 36000) := Lib.hid (fun h3 => nx_none hf h3)
    have HK := Lib.hid hk2
    have HI0 : Hid (∀ j, k < j → j < k + 1 → chB d v l ch j = false) := Lib.hid (fun j h1 h2 => by omega)
    obtain ⟨V, hV⟩ : ∃ y_, nxV d v l ch k = y_ := ⟨_, rfl⟩
    rw [hV] at HHit HNo
    rw [hV]
    clear hE hf hk2 hk hV
    go_enter Try.func32, Try.ntmps32
    go_wp2_with fail
    go_region_held3 (fun W9 => W9.cell? ⟨w.heap.size, 0, none⟩ = some (.int .i64 d) ∧ W9.cell? ⟨w.heap.size, 1, none⟩ = some (.int .i64 m) ∧ W9.cell? ⟨w.heap.size, 2, none⟩ = some (.int .i64 v) ∧ W9.cell? ⟨w.heap.size, 3, none⟩ = some (.int .i64 l) ∧ W9.cell? ⟨w.heap.size, 4, none⟩ = some (.slice a n c) ∧ Hid (FB w d m v l a n c ch W9))
      (first
        | (go_split_ands; with_reducible exact fbS (Hid.out (by with_reducible assumption)))
        | (go_split_ands; with_reducible exact fbS (FB.on (Hid.out (by with_reducible assumption)) hb))
        | (go_split_ands; with_reducible exact fbS (FB.drew (Hid.out (by with_reducible assumption))))
        | fail)
      (first
        | (go_split_ands; go_at_call 81; ((with_reducible refine (l02m_any _ _).mono ?_); rintro e w' ⟨rfl, rfl⟩))
        | (go_split_ands; go_at_call 80; ((with_reducible refine (CC.out _ (by with_reducible assumption)).mono ?_); rintro e w' ⟨rfl, hb⟩))
        | fail)
    all_goals
      go_split_ands
      have HB2 : Hid (FB w d m v l a n c ch w') := by with_reducible assumption
      clear CC HB
      go_wp2_with fail
      go_loopw [7] (fun i wr => ∃ x : Int, i = .int .i64 x ∧ Hid (k < x ∧ x ≤ 36000) ∧ Hid (∀ j, k < j → j < x → chB d v l ch j = false) ∧ Hid (FB w d m v l a n c ch wr)) (fun i _ => (36000 - intOf i).toNat)
      case atStart => exact ⟨k + 1, rfl, Lib.hid (by have := HK.out; omega), HI0, HB2⟩
      case round =>
        obtain ⟨x, rfl, HX, HI, HB3⟩ := hrel
        obtain ⟨f0, f1, f2, f3, f4, -⟩ := fbS HB3.out
        have hx := HX.out
        have hk0 := HK.out
        rcases Classical.em (x < 36000) with e1 | e1
        · have hm : mthB x = true := (mthB_iff _).2 (by omega)
          have CM : Hid (∀ W, Calls Try.prog 81 #[.int .i64 x] W fun e w' => e = .returned (.bool true) ∧ W = w') := Lib.hid (fun W => by have := l02m_any x W; rw [hm] at this; exact this)
          have CR := Lib.hid (CD.out wr HB3 x (by omega))
          have q2 : IntKind.i64.wrap (x + 1) = x + 1 := IntWalk.i64_in _ (by omega)
          cases hd : chB d v l ch x with
          | false =>
            rw [hd] at CR
            have HI2 : Hid (∀ j, k < j → j < x + 1 → chB d v l ch j = false) := Lib.hid (fun j h1 h2 => by
              by_cases h3 : j < x
              · exact HI.out j h1 h3
              · obtain rfl : j = x := by omega
                exact hd)
            have HX2 : Hid (k < x + 1 ∧ x + 1 ≤ 36000) := Lib.hid (by omega)
            clear hd hm hx hk0
            go_wp2_with (first | (go_at_call 81; refine (CM.out _).mono ?_; rintro e w' ⟨rfl, rfl⟩) | (go_at_call 93; (with_reducible refine CR.out.mono ?_); rintro e w9 ⟨rfl, hb⟩; have HB4 := Lib.hid (HB3.out.on hb); clear hb CR))
            go_roundw
            case rel => exact ⟨x + 1, rfl, HX2, HI2, HB4⟩
            case measure => simp [intOf]; omega
          | true =>
            rw [hd] at CR
            obtain rfl : V = x := HHit.out x (by omega) e1 HI.out hd
            have HE2 : Hid (nxE 0 V = 0 ∧ fV 0 V = V) := Lib.hid ⟨by unfold nxE; rw [if_pos rfl, if_neg (by omega)], rfl⟩
            clear hd hm hx hk0 HHit
            go_wp2_with (first | (go_at_call 81; refine (CM.out _).mono ?_; rintro e w' ⟨rfl, rfl⟩) | (go_at_call 93; (with_reducible refine CR.out.mono ?_); rintro e w9 ⟨rfl, hb⟩; have HB4 := Lib.hid (HB3.out.on hb); clear hb CR))
            go_ret2
            exact ⟨by rw [HE2.out.1, HE2.out.2]; rfl, HB4.out.low⟩
        · obtain rfl : x = 36000 := by omega
          have CM : Hid (∀ W, Calls Try.prog 81 #[.int .i64 36000] W fun e w' => e = .returned (.bool false) ∧ W = w') := Lib.hid (fun W => l02m_any 36000 W)
          obtain rfl : V = 36000 := HNo.out HI.out
          have HE2 : Hid (nxE 0 36000 = 4 ∧ fV 4 36000 = 0) := Lib.hid ⟨rfl, rfl⟩
          clear hx hk0 HHit HNo
          go_wp2_with (go_at_call 81; refine (CM.out _).mono ?_; rintro e w' ⟨rfl, rfl⟩)
          go_ret2
          exact ⟨by rw [HE2.out.1, HE2.out.2]; rfl, HB3.out.low⟩
  · have hn : (E != 0) = true := by simpa using h0
    have HV : Hid (nxE E (nxV d v l ch k) = E ∧ fV E (nxV d v l ch k) = 0) := Lib.hid (by simp [fV, nxE, h0])
    rw [HV.out.1, HV.out.2]
    clear h0 hE
    go_enter Try.func32, Try.ntmps32
    go_wp2_with fail
    go_region_held3 (fun W9 => W9.cell? ⟨w.heap.size, 0, none⟩ = some (.int .i64 d) ∧ W9.cell? ⟨w.heap.size, 1, none⟩ = some (.int .i64 m) ∧ W9.cell? ⟨w.heap.size, 2, none⟩ = some (.int .i64 v) ∧ W9.cell? ⟨w.heap.size, 3, none⟩ = some (.int .i64 l) ∧ W9.cell? ⟨w.heap.size, 4, none⟩ = some (.slice a n c) ∧ Hid (FB w d m v l a n c ch W9))
      (first
        | (go_split_ands; with_reducible exact fbS (Hid.out (by with_reducible assumption)))
        | (go_split_ands; with_reducible exact fbS (FB.on (Hid.out (by with_reducible assumption)) hb))
        | (go_split_ands; with_reducible exact fbS (FB.drew (Hid.out (by with_reducible assumption))))
        | fail)
      (first
        | (go_split_ands; go_at_call 81; ((with_reducible refine (l02m_any _ _).mono ?_); rintro e w' ⟨rfl, rfl⟩))
        | (go_split_ands; go_at_call 80; ((with_reducible refine (CC.out _ (by with_reducible assumption)).mono ?_); rintro e w' ⟨rfl, hb⟩))
        | fail)
    all_goals
      go_split_ands
      have HB2 : Hid (FB w d m v l a n c ch w') := by with_reducible assumption
      go_wp2_with fail
      go_ret2
      exact ⟨rfl, HB2.out.low⟩

set_option maxHeartbeats 1000000 in
theorem sen_any (d m v l : Int) (ch : List Int) (a : Option Addr) (n c : Nat) (w : World) (h : Ints w a n ch) :
    Calls Try.prog 35 #[.agg #[.int .i64 d, .int .i64 m, .int .i64 v, .int .i64 l, .slice a n c]] w fun e w' => e = .returned (.tuple #[.int .i64 (fV (enE (fmB d m v l ch) v l (enM d l ch)) (enM d l ch)), .int .i64 (enE (fmB d m v l ch) v l (enM d l ch))]) ∧ Below w.heap.size w w' := by
  have HL := Lib.hid h.len
  have HB := Lib.hid (FB.new w d m v l (c := c) h)
  have hmx := h.max
  have CF : Hid (∀ W, Hid (FB w d m v l a n c ch W) → Calls Try.prog 27 #[.agg #[.int .i64 d, .int .i64 m, .int .i64 v, .int .i64 l, .slice a n c]] W fun e w' => e = .returned (.bool (fmB d m v l ch)) ∧ Below W.heap.size W w') := Lib.hid (fun W hW => sfm_any d m v l ch a n c W hW.out.i)
  obtain ⟨f0, f1, f2, f3, f4, -⟩ := fbS HB.out
  clear h
  cases hf : fmB d m v l ch with
  | false =>
    rw [hf] at CF
    have HE2 : Hid (enE false v l (enM d l ch) = 1 ∧ fV 1 (enM d l ch) = 0) := Lib.hid ⟨rfl, rfl⟩
    rw [HE2.out.1, HE2.out.2]
    clear hf
    go_enter Try.func35, Try.ntmps35
    go_wp2_with (go_at_call 27; (with_reducible refine (CF.out _ HB).mono ?_); rintro e w1 ⟨rfl, hb⟩; have HB := Lib.hid (HB.out.on hb); clear hb)
    go_ret2
    exact ⟨rfl, HB.out.low⟩
  | true =>
    rw [hf] at CF
    have hok := (fm_iff ..).1 hf
    have HBD := Lib.hid (en_bd hok)
    have HD := Lib.hid hok.1
    have HLB : Hid (-1 ≤ l ∧ l ≤ 35999) := Lib.hid (by have := hok.2.2.2.1; have := hok.2.2.1; have := hok.1; omega)
    have HIN : Hid (∀ j, j < n → 0 ≤ ch.getD j 0 ∧ ch.getD j 0 ≤ 35999) := Lib.hid (fun j hj => by
      have := hok.2.2.2.2.2.1 (ch.getD j 0) (by
        rw [List.getD_eq_getElem?_getD, List.getElem?_eq_getElem (by rw [HL.out]; exact hj)]
        exact List.getElem_mem _)
      omega)
    have HSt : Hid (∀ j, j < n → mxF (max (d + 1) l) ((ch.map (· + 192)).take (j + 1)) = max (mxF (max (d + 1) l) ((ch.map (· + 192)).take j)) (ch.getD j 0 + 192)) := Lib.hid (fun j hj => by
      rw [mxF_step _ _ _ (by rw [List.length_map, HL.out]; exact hj)]
      simp [List.getD, (by rw [HL.out]; exact hj : j < ch.length)])
    have HTop : Hid (∀ j, d + 1 ≤ mxF (max (d + 1) l) ((ch.map (· + 192)).take j) ∧ mxF (max (d + 1) l) ((ch.map (· + 192)).take j) ≤ 40000) := Lib.hid (fun j => by
      refine ⟨by have := mxF_ge (max (d + 1) l) ((ch.map (· + 192)).take j); omega, (mxF_le _ _ _).2 ⟨by have := HD.out; have := HLB.out; omega, fun z hz => ?_⟩⟩
      obtain ⟨b, hb, rfl⟩ := List.mem_map.1 (List.mem_of_mem_take hz)
      have := hok.2.2.2.2.2.1 b hb
      omega)
    have H0 : Hid (mxF (max (d + 1) l) ((ch.map (· + 192)).take 0) = max (d + 1) l) := Lib.hid rfl
    have HN : Hid (mxF (max (d + 1) l) ((ch.map (· + 192)).take n) = enM d l ch) := Lib.hid (by rw [List.take_of_length_le (by rw [List.length_map, HL.out]; exact Nat.le_refl _)]; rfl)
    have hdd := hok.1
    have q1 : IntKind.i64.wrap (d + 1) = d + 1 := IntWalk.i64_in _ (by omega)
    rcases Classical.em (v ≠ -1 ∧ l = -1) with e0 | e0
    · have b1 : (v != -1) = true := by simpa using e0.1
      have b2 : (l == -1) = true := by simpa using e0.2
      have HE2 : Hid (enE true v l (enM d l ch) = 4 ∧ fV 4 (enM d l ch) = 0) := Lib.hid ⟨by unfold enE; rw [if_pos rfl, if_pos e0], rfl⟩
      rw [HE2.out.1, HE2.out.2]
      clear hf hok hdd e0
      go_enter Try.func35, Try.ntmps35
      go_wp2_with (go_at_call 27; (with_reducible refine (CF.out _ HB).mono ?_); rintro e w1 ⟨rfl, hb⟩; have HB := Lib.hid (HB.out.on hb); obtain ⟨f0, f1, f2, f3, f4, -⟩ := fbS HB.out; clear hb)
      go_ret2
      exact ⟨rfl, HB.out.low⟩
    · have HEN : Hid (enE true v l (enM d l ch) = mzE (mthB (enM d l ch))) := Lib.hid (by unfold enE; rw [if_pos rfl, if_neg e0])
      have key : Calls Try.prog 35 #[.agg #[.int .i64 d, .int .i64 m, .int .i64 v, .int .i64 l, .slice a n c]] w fun e w' => e = .returned (.tuple #[.int .i64 (fV (mzE (mthB (enM d l ch))) (enM d l ch)), .int .i64 (mzE (mthB (enM d l ch)))]) ∧ Below w.heap.size w w' := by
        obtain ⟨M0, hM0⟩ : ∃ y_, (if d + 1 < l then l else d + 1) = y_ := ⟨_, rfl⟩
        have HM0 : Hid (max (d + 1) l = M0) := Lib.hid (by rw [← hM0]; split <;> omega)
        obtain ⟨V, hV⟩ : ∃ y_, enM d l ch = y_ := ⟨_, rfl⟩
        rw [hV] at HN
        rw [hV]
        clear hV HBD HEN
        rcases Classical.em (v = -1) with e1 | e1
        · have b1 : (v != -1) = false := by simpa using e1
          clear e0 e1 hf hok
          go_enter Try.func35, Try.ntmps35
          go_wp2_with (go_at_call 27; (with_reducible refine (CF.out _ HB).mono ?_); rintro e w1 ⟨rfl, hb⟩; have HB := Lib.hid (HB.out.on hb); obtain ⟨f0, f1, f2, f3, f4, -⟩ := fbS HB.out; clear hb)
          go_loop [4, 5] (fun t i => ∃ j : Nat, j ≤ n ∧ t = .int .i64 (mxF (max (d + 1) l) ((ch.map (· + 192)).take j)) ∧ i = .int .i64 j) (fun _ i => n - (intOf i).toNat)
          case atStart => exact ⟨0, Nat.zero_le _, by rw [H0.out, HM0.out], rfl⟩
          case round =>
            obtain ⟨j, hj, rfl, rfl⟩ := hrel
            clear hM0
            by_cases hlt : j < n
            · obtain ⟨b1, o1, rfl, hb1, hc⟩ := HB.out.i.at (by omega)
              have hx := hc j hlt
              have hib := HIN.out j hlt
              have HS := HSt.out j hlt
              have htp := HTop.out j
              obtain ⟨b, hb⟩ : ∃ y_, ch.getD j 0 = y_ := ⟨_, rfl⟩
              rw [hb] at hx hib HS
              obtain ⟨T, hT⟩ : ∃ y_, mxF (max (d + 1) l) ((ch.map (· + 192)).take j) = y_ := ⟨_, rfl⟩
              rw [hT] at HS htp ⊢
              have q2 : IntKind.i64.wrap (b + 192) = b + 192 := IntWalk.i64_in _ (by omega)
              have HS := Lib.hid HS
              clear hc hb1 hb hT hib htp hdd
              go_wp2_with fail
              go_round
              case rel => exact ⟨j + 1, by omega, by rw [HS.out]; exact congrArg _ (by split <;> omega), by go_num⟩
              case measure => simp [intOf]; omega
            · obtain rfl : j = n := by omega
              rw [HN.out]
              cases hm : mthB V with
              | false =>
                have CM : Hid (∀ W, Calls Try.prog 81 #[.int .i64 V] W fun e w' => e = .returned (.bool false) ∧ W = w') := Lib.hid (fun W => by have := l02m_any V W; rw [hm] at this; exact this)
                have HM := Lib.hid hm
                clear hm
                go_wp2_with (go_at_call 81; refine (CM.out _).mono ?_; rintro e w' ⟨rfl, rfl⟩)
                go_ret2
                exact ⟨by first | rfl | (rw [HM.out]; rfl), HB.out.low⟩
              | true =>
                have CM : Hid (∀ W, Calls Try.prog 81 #[.int .i64 V] W fun e w' => e = .returned (.bool true) ∧ W = w') := Lib.hid (fun W => by have := l02m_any V W; rw [hm] at this; exact this)
                have HM := Lib.hid hm
                clear hm
                go_wp2_with (go_at_call 81; refine (CM.out _).mono ?_; rintro e w' ⟨rfl, rfl⟩)
                go_ret2
                exact ⟨by first | rfl | (rw [HM.out]; rfl), HB.out.low⟩
        · have b1 : (v != -1) = true := by simpa using e1
          have b2 : (l == -1) = false := by have : l ≠ -1 := fun e => e0 ⟨e1, e⟩; simpa using this
          clear e0 e1 hf hok
          go_enter Try.func35, Try.ntmps35
          go_wp2_with (go_at_call 27; (with_reducible refine (CF.out _ HB).mono ?_); rintro e w1 ⟨rfl, hb⟩; have HB := Lib.hid (HB.out.on hb); obtain ⟨f0, f1, f2, f3, f4, -⟩ := fbS HB.out; clear hb)
          go_loop [4, 5] (fun t i => ∃ j : Nat, j ≤ n ∧ t = .int .i64 (mxF (max (d + 1) l) ((ch.map (· + 192)).take j)) ∧ i = .int .i64 j) (fun _ i => n - (intOf i).toNat)
          case atStart => exact ⟨0, Nat.zero_le _, by rw [H0.out, HM0.out], rfl⟩
          case round =>
            obtain ⟨j, hj, rfl, rfl⟩ := hrel
            clear hM0
            by_cases hlt : j < n
            · obtain ⟨b1, o1, rfl, hb1, hc⟩ := HB.out.i.at (by omega)
              have hx := hc j hlt
              have hib := HIN.out j hlt
              have HS := HSt.out j hlt
              have htp := HTop.out j
              obtain ⟨b, hb⟩ : ∃ y_, ch.getD j 0 = y_ := ⟨_, rfl⟩
              rw [hb] at hx hib HS
              obtain ⟨T, hT⟩ : ∃ y_, mxF (max (d + 1) l) ((ch.map (· + 192)).take j) = y_ := ⟨_, rfl⟩
              rw [hT] at HS htp ⊢
              have q2 : IntKind.i64.wrap (b + 192) = b + 192 := IntWalk.i64_in _ (by omega)
              have HS := Lib.hid HS
              clear hc hb1 hb hT hib htp hdd
              go_wp2_with fail
              go_round
              case rel => exact ⟨j + 1, by omega, by rw [HS.out]; exact congrArg _ (by split <;> omega), by go_num⟩
              case measure => simp [intOf]; omega
            · obtain rfl : j = n := by omega
              rw [HN.out]
              cases hm : mthB V with
              | false =>
                have CM : Hid (∀ W, Calls Try.prog 81 #[.int .i64 V] W fun e w' => e = .returned (.bool false) ∧ W = w') := Lib.hid (fun W => by have := l02m_any V W; rw [hm] at this; exact this)
                have HM := Lib.hid hm
                clear hm
                go_wp2_with (go_at_call 81; refine (CM.out _).mono ?_; rintro e w' ⟨rfl, rfl⟩)
                go_ret2
                exact ⟨by first | rfl | (rw [HM.out]; rfl), HB.out.low⟩
              | true =>
                have CM : Hid (∀ W, Calls Try.prog 81 #[.int .i64 V] W fun e w' => e = .returned (.bool true) ∧ W = w') := Lib.hid (fun W => by have := l02m_any V W; rw [hm] at this; exact this)
                have HM := Lib.hid hm
                clear hm
                go_wp2_with (go_at_call 81; refine (CM.out _).mono ?_; rintro e w' ⟨rfl, rfl⟩)
                go_ret2
                exact ⟨by first | rfl | (rw [HM.out]; rfl), HB.out.low⟩
      rw [HEN.out]
      exact key

end Go.Proofs.Ytmnddplkmljeaaa
