/- Families: the model: pensions of a month and of a time, changes, ends. (Written by wip/gen/fmt.py.) -/
import Derived.Test.YtmnddplkmljeaaaFms
import Derived.Test.YtmnddplkmljeaaaFmb
namespace Go.Proofs.Ytmnddplkmljeaaa
open Go.ChangeShapes Go.WideShapes Go.ChangeAt Go.RowKit
set_option linter.unusedVariables false
set_option linter.unusedSimpArgs false
set_option maxRecDepth 100000

theorem scode_any (d m v l : Int) (ch : List Int) (a : Option Addr) (n c : Nat) (R : Bool) (w : World) (h : Ints w a n ch) :
    Calls Try.prog 80 #[.agg #[.int .i64 d, .int .i64 m, .int .i64 v, .int .i64 l, .slice a n c], .bool R] w fun e w' => e = .returned (.int .i64 (fmE (fmB d m v l ch) R)) ∧ Below w.heap.size w w' := by
  have HF := Lib.hid (FB.new w d m v l (c := c) h)
  have CF : Hid (∀ W, Hid (FB w d m v l a n c ch W) → Calls Try.prog 27 #[.agg #[.int .i64 d, .int .i64 m, .int .i64 v, .int .i64 l, .slice a n c]] W fun e w' => e = .returned (.bool (fmB d m v l ch)) ∧ Below W.heap.size W w') := Lib.hid (fun W hW => sfm_any d m v l ch a n c W hW.out.i)
  clear h
  cases hf : fmB d m v l ch with
  | false =>
    rw [hf] at CF
    go_enter Try.func80, Try.ntmps80
    go_wp2_with (go_at_call 27; (with_reducible refine (CF.out _ HF).mono ?_); rintro e w1 ⟨rfl, hb⟩; have HF := Lib.hid (HF.out.on hb); clear hb)
    go_ret
    exact ⟨rfl, HF.out.low⟩
  | true =>
    rw [hf] at CF
    cases R with
    | false =>
      go_enter Try.func80, Try.ntmps80
      go_wp2_with (go_at_call 27; (with_reducible refine (CF.out _ HF).mono ?_); rintro e w1 ⟨rfl, hb⟩; have HF := Lib.hid (HF.out.on hb); clear hb)
      go_ret
      exact ⟨rfl, HF.out.low⟩
    | true =>
      go_enter Try.func80, Try.ntmps80
      go_wp2_with (go_at_call 27; (with_reducible refine (CF.out _ HF).mono ?_); rintro e w1 ⟨rfl, hb⟩; have HF := Lib.hid (HF.out.on hb); clear hb)
      go_ret
      exact ⟨rfl, HF.out.low⟩

theorem swid_any (d m v l : Int) (ch : List Int) (a : Option Addr) (n c : Nat) (k : Int) (w : World) : Calls Try.prog 86 #[.agg #[.int .i64 d, .int .i64 m, .int .i64 v, .int .i64 l, .slice a n c], .int .i64 k] w fun e w' => e = .returned (.bool (wdB v l k)) ∧ Below w.heap.size w w' := by
  rcases Classical.em (v = -1) with e1 | e1
  · have b1 : (v != -1) = false := by simpa using e1
    have HR : Hid (wdB v l k = false) := Lib.hid (by unfold wdB; simp; omega)
    clear e1
    go_enter Try.func86, Try.ntmps86
    go_wp2_with fail
    go_ret
    exact ⟨ret_bool HR.out.symm, box_b _ _⟩
  · have b1 : (v != -1) = true := by simpa using e1
    rcases Classical.em (v ≤ k) with e2 | e2
    · rcases Classical.em (l = -1) with e3 | e3
      · have b3 : (l == -1) = true := by simpa using e3
        have HR : Hid (wdB v l k = true) := Lib.hid (by unfold wdB; simp; omega)
        clear e1 e3
        go_enter Try.func86, Try.ntmps86
        go_wp2_with fail
        go_ret
        exact ⟨ret_bool HR.out.symm, box_b _ _⟩
      · have b3 : (l == -1) = false := by simpa using e3
        rcases Classical.em (k < l) with e4 | e4
        · have HR : Hid (wdB v l k = true) := Lib.hid (by unfold wdB; simp; omega)
          clear e1 e3
          go_enter Try.func86, Try.ntmps86
          go_wp2_with fail
          go_ret
          exact ⟨ret_bool HR.out.symm, box_b _ _⟩
        · have HR : Hid (wdB v l k = false) := Lib.hid (by unfold wdB; simp; omega)
          clear e1 e3
          go_enter Try.func86, Try.ntmps86
          go_wp2_with fail
          go_ret
          exact ⟨ret_bool HR.out.symm, box_b _ _⟩
    · have HR : Hid (wdB v l k = false) := Lib.hid (by unfold wdB; simp; omega)
      clear e1
      go_enter Try.func86, Try.ntmps86
      go_wp2_with fail
      go_ret
      exact ⟨ret_bool HR.out.symm, box_b _ _⟩

theorem sor_any (d m v l : Int) (ch : List Int) (a : Option Addr) (n c : Nat) (k : Int) (w : World) (h : Ints w a n ch) (hf : FmOk d m v l ch) (k0 : -10 ≤ k) (k1 : k ≤ 40000) :
    Calls Try.prog 87 #[.agg #[.int .i64 d, .int .i64 m, .int .i64 v, .int .i64 l, .slice a n c], .int .i64 k] w fun e w' => e = .returned (.int .i64 (orN d ch k)) ∧ Below w.heap.size w w' := by
  have HL := Lib.hid h.len
  have hm := h.max
  have HB := Lib.hid (FB.new w d m v l (c := c) h)
  have HI : Hid (∀ j, j < n → 0 ≤ ch.getD j 0 ∧ ch.getD j 0 ≤ 35999) := Lib.hid (fun j hj => by
    have := hf.2.2.2.2.2.1 (ch.getD j 0) (by
      rw [List.getD_eq_getElem?_getD, List.getElem?_eq_getElem (by rw [HL.out]; exact hj)]
      exact List.getElem_mem _)
    omega)
  have HN : Hid (n ≤ 12) := Lib.hid (by rw [← HL.out]; exact hf.2.2.2.2.1)
  have HD := Lib.hid hf.1
  have H0 : Hid (0 = orN d (ch.take 0) k) := Lib.hid rfl
  have HLast : Hid (orN d (ch.take n) k = orN d ch k) := Lib.hid (by rw [List.take_of_length_le (by rw [HL.out]; exact Nat.le_refl _)])
  clear h hf
  obtain ⟨f0, f1, f2, f3, f4, -⟩ := fbS HB.out
  go_enter Try.func87, Try.ntmps87
  go_wp2_with fail
  go_loop [5, 6] (fun t i => ∃ j : Nat, j ≤ n ∧ t = .int .i64 (orN d (ch.take j) k) ∧ i = .int .i64 j) (fun _ i => n - (intOf i).toNat)
  case atStart => exact ⟨0, Nat.zero_le _, by rw [← H0.out], rfl⟩
  case round =>
    obtain ⟨j, hj, rfl, rfl⟩ := hrel
    by_cases hlt : j < n
    · obtain ⟨b1, o1, rfl, hb1, hc⟩ := HB.out.i.at (by omega)
      have hx := hc j hlt
      have hs := orN_step d k ch j (by rw [HL.out]; exact hlt)
      have hbd := orN_bd d k (ch.take j)
      have hbl : (ch.take j).length ≤ 12 := Nat.le_trans (by rw [List.length_take]; exact Nat.min_le_right _ _) (by rw [HL.out]; exact HN.out)
      have hib := HI.out j hlt
      obtain ⟨b, hb⟩ : ∃ y_, ch.getD j 0 = y_ := ⟨_, rfl⟩
      rw [hb] at hx hs hib
      obtain ⟨T, hT⟩ : ∃ y_, orN d (ch.take j) k = y_ := ⟨_, rfl⟩
      rw [hT] at hs hbd ⊢
      have q1 : IntKind.i64.wrap (T + 1) = T + 1 := IntWalk.i64_in _ (by omega)
      have q2 : IntKind.i64.wrap (k - b) = k - b := IntWalk.i64_in _ (by omega)
      have hdd := HD.out
      clear hc hb1 hb hT hbd hbl
      rcases Classical.em (d < k) with e1 | e1
      · rcases Classical.em (b ≤ k) with e2 | e2
        · rcases Classical.em (k - b < 192) with e3 | e3
          · have HS : Hid (T + 1 = orN d (ch.take (j + 1)) k) := Lib.hid (by rw [hs]; unfold orC; rw [if_pos ⟨e1, e2, e3⟩])
            clear hs
            go_wp2_with fail
            go_round
            case rel => exact ⟨j + 1, by omega, by rw [← HS.out], by go_num⟩
            case measure => simp [intOf]; omega
          · have HS : Hid (T = orN d (ch.take (j + 1)) k) := Lib.hid (by rw [hs]; unfold orC; rw [if_neg (fun e => e3 e.2.2)]; omega)
            clear hs
            go_wp2_with fail
            go_round
            case rel => exact ⟨j + 1, by omega, by rw [← HS.out], by go_num⟩
            case measure => simp [intOf]; omega
        · have HS : Hid (T = orN d (ch.take (j + 1)) k) := Lib.hid (by rw [hs]; unfold orC; rw [if_neg (fun e => e2 e.2.1)]; omega)
          clear hs
          go_wp2_with fail
          go_round
          case rel => exact ⟨j + 1, by omega, by rw [← HS.out], by go_num⟩
          case measure => simp [intOf]; omega
      · have HS : Hid (T = orN d (ch.take (j + 1)) k) := Lib.hid (by rw [hs]; unfold orC; rw [if_neg (fun e => e1 e.1)]; omega)
        clear hs
        go_wp2_with fail
        go_round
        case rel => exact ⟨j + 1, by omega, by rw [← HS.out], by go_num⟩
        case measure => simp [intOf]; omega
    · obtain rfl : j = n := by omega
      rw [HLast.out]
      go_wp2_with fail
      go_ret
      exact ⟨rfl, HB.out.low⟩

theorem srt_any (p o : Int) (w : World) : Calls Try.prog 83 #[.int .i64 p, .int .i64 o] w fun e w' => e = .returned (.bool (rtP p o)) ∧ w = w' := by
  by_cases h1 : inB p 0 1000000 = true
  · have HR : Hid (rtP p o = inB o 0 1000000) := Lib.hid (by unfold rtP; rw [h1]; rfl)
    go_enter Try.func83, Try.ntmps83
    go_wp2_with (go_at_call 82; refine (in_any _ _ _ _).mono ?_; rintro e w' ⟨rfl, rfl⟩)
    go_ret
    exact ⟨ret_bool HR.out.symm, rfl⟩
  · have h1' : inB p 0 1000000 = false := by simpa using h1
    have HR : Hid (rtP p o = false) := Lib.hid (by unfold rtP; rw [h1']; rfl)
    go_enter Try.func83, Try.ntmps83
    go_wp2_with (go_at_call 82; refine (in_any _ _ _ _).mono ?_; rintro e w' ⟨rfl, rfl⟩)
    go_ret
    exact ⟨ret_bool HR.out.symm, rfl⟩

theorem spn_any (d m v l : Int) (ch : List Int) (a : Option Addr) (n c : Nat) (k p o : Int) (w : World) (h : Ints w a n ch) (hf : FmOk d m v l ch) (k0 : -10 ≤ k) (k1 : k ≤ 40000) (hr : rtP p o = true) :
    Calls Try.prog 84 #[.agg #[.int .i64 d, .int .i64 m, .int .i64 v, .int .i64 l, .slice a n c], .int .i64 k, .int .i64 p, .int .i64 o] w fun e w' => e = .returned (.int .i64 (pnV d v l ch k p o)) ∧ Below w.heap.size w w' := by
  have HB := Lib.hid (FB.new w d m v l (c := c) h)
  have hbd := pn_bd (d := d) (w := v) (l := l) (n := k) hr hf.2.2.2.2.1
  have CO : Hid (∀ W, Hid (FB w d m v l a n c ch W) → Calls Try.prog 87 #[.agg #[.int .i64 d, .int .i64 m, .int .i64 v, .int .i64 l, .slice a n c], .int .i64 k] W fun e w' => e = .returned (.int .i64 (orN d ch k)) ∧ Below W.heap.size W w') := Lib.hid (fun W hW => sor_any d m v l ch a n c k W hW.out.i hf k0 k1)
  have CW : Hid (∀ W, Hid (FB w d m v l a n c ch W) → Calls Try.prog 86 #[.agg #[.int .i64 d, .int .i64 m, .int .i64 v, .int .i64 l, .slice a n c], .int .i64 k] W fun e w' => e = .returned (.bool (wdB v l k)) ∧ Below W.heap.size W w') := Lib.hid (fun W hW => swid_any d m v l ch a n c k W)
  have hv : pnV d v l ch k p o = o * orN d ch k + (if wdB v l k = true then p else 0) := rfl
  have hrr := hr
  unfold rtP at hrr
  rw [Bool.and_eq_true, inB_iff, inB_iff] at hrr
  obtain ⟨N, hN⟩ : ∃ y_, orN d ch k = y_ := ⟨_, rfl⟩
  rw [hN] at hbd CO hv
  have q1 : IntKind.i64.wrap (o * N) = o * N := IntWalk.i64_in _ (by omega)
  have q2 : IntKind.i64.wrap (o * N + p) = o * N + p := IntWalk.i64_in _ (by omega)
  obtain ⟨f0, f1, f2, f3, f4, -⟩ := fbS HB.out
  clear hN hbd hr hf h hrr
  cases hw : wdB v l k with
  | false =>
    rw [hw] at CW hv
    have HV : Hid (pnV d v l ch k p o = o * N) := Lib.hid (by rw [hv]; simp)
    clear hv hw
    go_enter Try.func84, Try.ntmps84
    go_wp2_with (first | (go_at_call 87; (with_reducible refine (CO.out _ HB).mono ?_); rintro e w1 ⟨rfl, hb⟩; have HB := Lib.hid (HB.out.on hb); obtain ⟨f0, f1, f2, f3, f4, -⟩ := fbS HB.out; clear hb) | (go_at_call 86; (with_reducible refine (CW.out _ HB).mono ?_); rintro e w1 ⟨rfl, hb⟩; have HB := Lib.hid (HB.out.on hb); clear hb))
    go_ret
    exact ⟨ret_int HV.out.symm, HB.out.low⟩
  | true =>
    rw [hw] at CW hv
    have HV : Hid (pnV d v l ch k p o = o * N + p) := Lib.hid (by rw [hv]; simp)
    clear hv hw
    go_enter Try.func84, Try.ntmps84
    go_wp2_with (first | (go_at_call 87; (with_reducible refine (CO.out _ HB).mono ?_); rintro e w1 ⟨rfl, hb⟩; have HB := Lib.hid (HB.out.on hb); obtain ⟨f0, f1, f2, f3, f4, -⟩ := fbS HB.out; clear hb) | (go_at_call 86; (with_reducible refine (CW.out _ HB).mono ?_); rintro e w1 ⟨rfl, hb⟩; have HB := Lib.hid (HB.out.on hb); clear hb))
    go_ret
    exact ⟨ret_int HV.out.symm, HB.out.low⟩

set_option maxHeartbeats 1000000 in
theorem sgw_any (d m v l : Int) (ch : List Int) (a : Option Addr) (n c : Nat) (k : Int) (w : World) (h : Ints w a n ch) :
    Calls Try.prog 23 #[.agg #[.int .i64 d, .int .i64 m, .int .i64 v, .int .i64 l, .slice a n c], .int .i64 k] w fun e w' => e = .returned (.tuple #[.bool (fB (fmE (fmB d m v l ch) (mthB k)) (wdB v l k)), .int .i64 (fmE (fmB d m v l ch) (mthB k))]) ∧ Below w.heap.size w w' := by
  have HB := Lib.hid (FB.new w d m v l (c := c) h)
  obtain ⟨E, hE⟩ : ∃ y_, fmE (fmB d m v l ch) (mthB k) = y_ := ⟨_, rfl⟩
  have CC : Hid (∀ W, Hid (FB w d m v l a n c ch W) → Calls Try.prog 80 #[.agg #[.int .i64 d, .int .i64 m, .int .i64 v, .int .i64 l, .slice a n c], .bool (mthB k)] W fun e w' => e = .returned (.int .i64 E) ∧ Below W.heap.size W w') := Lib.hid (fun W hW => by rw [← hE]; exact scode_any d m v l ch a n c _ W hW.out.i)
  rw [hE]
  clear h
  obtain ⟨f0, f1, f2, f3, f4, -⟩ := fbS HB.out
  by_cases h0 : E = 0
  · subst h0
    obtain ⟨hf, hk⟩ := fmE_iff.1 hE
    have hf := (fm_iff ..).1 hf
    have hk2 := (mthB_iff _).1 hk
    have CV : Hid (∀ W, Hid (FB w d m v l a n c ch W) → Calls Try.prog 86 #[.agg #[.int .i64 d, .int .i64 m, .int .i64 v, .int .i64 l, .slice a n c], .int .i64 k] W fun e w' => e = .returned (.bool (wdB v l k)) ∧ Below W.heap.size W w') := Lib.hid (fun W hW => swid_any d m v l ch a n c k W)
    clear hE hf hk2 hk
    go_enter Try.func23, Try.ntmps23
    go_wp2_with fail
    go_region_held3 (fun W9 => W9.cell? ⟨w.heap.size, 0, none⟩ = some (.int .i64 d) ∧ W9.cell? ⟨w.heap.size, 1, none⟩ = some (.int .i64 m) ∧ W9.cell? ⟨w.heap.size, 2, none⟩ = some (.int .i64 v) ∧ W9.cell? ⟨w.heap.size, 3, none⟩ = some (.int .i64 l) ∧ W9.cell? ⟨w.heap.size, 4, none⟩ = some (.slice a n c) ∧ Hid (FB w d m v l a n c ch W9))
      (first
        | (go_split_ands; with_reducible exact fbS (Hid.out (by with_reducible assumption)))
        | (go_split_ands; with_reducible exact fbS (FB.on (Hid.out (by with_reducible assumption)) hb))
        | (go_split_ands; with_reducible exact fbS (FB.drew (Hid.out (by with_reducible assumption))))
        | fail)
      (first
        | (go_split_ands; go_at_call 81; ((with_reducible refine (l02m_any _ _).mono ?_); rintro e w' ⟨rfl, rfl⟩))
        | (go_split_ands; go_at_call 80; ((with_reducible refine (CC.out _ (by with_reducible assumption)).mono ?_); rintro e w' ⟨rfl, hb⟩))
        | fail)
    all_goals
      go_split_ands
      have HB2 : Hid (FB w d m v l a n c ch w') := by with_reducible assumption
      go_wp2_with fail
      (with_reducible refine (CV.out _ HB2).mono ?_)
      rintro e w9 ⟨rfl, hb⟩
      have HB3 := Lib.hid (HB2.out.on hb)
      clear hb
      go_wp2_with fail
      go_ret2
      exact ⟨rfl, HB3.out.low⟩
  · have hn : (E != 0) = true := by simpa using h0
    have HV : Hid (fB E (wdB v l k) = false) := Lib.hid (by simp [fB, fV, h0])
    clear h0 hE
    go_enter Try.func23, Try.ntmps23
    go_wp2_with fail
    go_region_held3 (fun W9 => W9.cell? ⟨w.heap.size, 0, none⟩ = some (.int .i64 d) ∧ W9.cell? ⟨w.heap.size, 1, none⟩ = some (.int .i64 m) ∧ W9.cell? ⟨w.heap.size, 2, none⟩ = some (.int .i64 v) ∧ W9.cell? ⟨w.heap.size, 3, none⟩ = some (.int .i64 l) ∧ W9.cell? ⟨w.heap.size, 4, none⟩ = some (.slice a n c) ∧ Hid (FB w d m v l a n c ch W9))
      (first
        | (go_split_ands; with_reducible exact fbS (Hid.out (by with_reducible assumption)))
        | (go_split_ands; with_reducible exact fbS (FB.on (Hid.out (by with_reducible assumption)) hb))
        | (go_split_ands; with_reducible exact fbS (FB.drew (Hid.out (by with_reducible assumption))))
        | fail)
      (first
        | (go_split_ands; go_at_call 81; ((with_reducible refine (l02m_any _ _).mono ?_); rintro e w' ⟨rfl, rfl⟩))
        | (go_split_ands; go_at_call 80; ((with_reducible refine (CC.out _ (by with_reducible assumption)).mono ?_); rintro e w' ⟨rfl, hb⟩))
        | fail)
    all_goals
      go_split_ands
      have HB2 : Hid (FB w d m v l a n c ch w') := by with_reducible assumption
      go_wp2_with fail
      go_ret2
      exact ⟨by rw [HV.out]; rfl, HB2.out.low⟩

set_option maxHeartbeats 1000000 in
theorem soi_any (d m v l : Int) (ch : List Int) (a : Option Addr) (n c : Nat) (k : Int) (w : World) (h : Ints w a n ch) :
    Calls Try.prog 25 #[.agg #[.int .i64 d, .int .i64 m, .int .i64 v, .int .i64 l, .slice a n c], .int .i64 k] w fun e w' => e = .returned (.tuple #[.int .i64 (fV (fmE (fmB d m v l ch) (mthB k)) (orN d ch k)), .int .i64 (fmE (fmB d m v l ch) (mthB k))]) ∧ Below w.heap.size w w' := by
  have HB := Lib.hid (FB.new w d m v l (c := c) h)
  obtain ⟨E, hE⟩ : ∃ y_, fmE (fmB d m v l ch) (mthB k) = y_ := ⟨_, rfl⟩
  have CC : Hid (∀ W, Hid (FB w d m v l a n c ch W) → Calls Try.prog 80 #[.agg #[.int .i64 d, .int .i64 m, .int .i64 v, .int .i64 l, .slice a n c], .bool (mthB k)] W fun e w' => e = .returned (.int .i64 E) ∧ Below W.heap.size W w') := Lib.hid (fun W hW => by rw [← hE]; exact scode_any d m v l ch a n c _ W hW.out.i)
  rw [hE]
  clear h
  obtain ⟨f0, f1, f2, f3, f4, -⟩ := fbS HB.out
  by_cases h0 : E = 0
  · subst h0
    obtain ⟨hf, hk⟩ := fmE_iff.1 hE
    have hf := (fm_iff ..).1 hf
    have hk2 := (mthB_iff _).1 hk
    have CV : Hid (∀ W, Hid (FB w d m v l a n c ch W) → Calls Try.prog 87 #[.agg #[.int .i64 d, .int .i64 m, .int .i64 v, .int .i64 l, .slice a n c], .int .i64 k] W fun e w' => e = .returned (.int .i64 (orN d ch k)) ∧ Below W.heap.size W w') := Lib.hid (fun W hW => sor_any d m v l ch a n c k W hW.out.i hf (by omega) (by omega))
    clear hE hf hk2 hk
    go_enter Try.func25, Try.ntmps25
    go_wp2_with fail
    go_region_held3 (fun W9 => W9.cell? ⟨w.heap.size, 0, none⟩ = some (.int .i64 d) ∧ W9.cell? ⟨w.heap.size, 1, none⟩ = some (.int .i64 m) ∧ W9.cell? ⟨w.heap.size, 2, none⟩ = some (.int .i64 v) ∧ W9.cell? ⟨w.heap.size, 3, none⟩ = some (.int .i64 l) ∧ W9.cell? ⟨w.heap.size, 4, none⟩ = some (.slice a n c) ∧ Hid (FB w d m v l a n c ch W9))
      (first
        | (go_split_ands; with_reducible exact fbS (Hid.out (by with_reducible assumption)))
        | (go_split_ands; with_reducible exact fbS (FB.on (Hid.out (by with_reducible assumption)) hb))
        | (go_split_ands; with_reducible exact fbS (FB.drew (Hid.out (by with_reducible assumption))))
        | fail)
      (first
        | (go_split_ands; go_at_call 81; ((with_reducible refine (l02m_any _ _).mono ?_); rintro e w' ⟨rfl, rfl⟩))
        | (go_split_ands; go_at_call 80; ((with_reducible refine (CC.out _ (by with_reducible assumption)).mono ?_); rintro e w' ⟨rfl, hb⟩))
        | fail)
    all_goals
      go_split_ands
      have HB2 : Hid (FB w d m v l a n c ch w') := by with_reducible assumption
      go_wp2_with fail
      (with_reducible refine (CV.out _ HB2).mono ?_)
      rintro e w9 ⟨rfl, hb⟩
      have HB3 := Lib.hid (HB2.out.on hb)
      clear hb
      go_wp2_with fail
      go_ret2
      exact ⟨rfl, HB3.out.low⟩
  · have hn : (E != 0) = true := by simpa using h0
    have HV : Hid (fV E (orN d ch k) = 0) := Lib.hid (by simp [fB, fV, h0])
    clear h0 hE
    go_enter Try.func25, Try.ntmps25
    go_wp2_with fail
    go_region_held3 (fun W9 => W9.cell? ⟨w.heap.size, 0, none⟩ = some (.int .i64 d) ∧ W9.cell? ⟨w.heap.size, 1, none⟩ = some (.int .i64 m) ∧ W9.cell? ⟨w.heap.size, 2, none⟩ = some (.int .i64 v) ∧ W9.cell? ⟨w.heap.size, 3, none⟩ = some (.int .i64 l) ∧ W9.cell? ⟨w.heap.size, 4, none⟩ = some (.slice a n c) ∧ Hid (FB w d m v l a n c ch W9))
      (first
        | (go_split_ands; with_reducible exact fbS (Hid.out (by with_reducible assumption)))
        | (go_split_ands; with_reducible exact fbS (FB.on (Hid.out (by with_reducible assumption)) hb))
        | (go_split_ands; with_reducible exact fbS (FB.drew (Hid.out (by with_reducible assumption))))
        | fail)
      (first
        | (go_split_ands; go_at_call 81; ((with_reducible refine (l02m_any _ _).mono ?_); rintro e w' ⟨rfl, rfl⟩))
        | (go_split_ands; go_at_call 80; ((with_reducible refine (CC.out _ (by with_reducible assumption)).mono ?_); rintro e w' ⟨rfl, hb⟩))
        | fail)
    all_goals
      go_split_ands
      have HB2 : Hid (FB w d m v l a n c ch w') := by with_reducible assumption
      go_wp2_with fail
      go_ret2
      exact ⟨by rw [HV.out]; rfl, HB2.out.low⟩

end Go.Proofs.Ytmnddplkmljeaaa
