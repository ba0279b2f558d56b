/- Sickness: weeks of members, the worst age: numbers, and the model's two functions. -/
import Derived.Test.YtgfemcpjkdepdaaSic
import Derived.Deep.RegionHeld3
namespace Go.Proofs.Ytgfemcpjkdepdaa
open Go.ChangeShapes Go.WideShapes Go.ChangeAt Go.RowKit
set_option linter.unusedVariables false
set_option linter.unusedSimpArgs false
set_option maxRecDepth 100000

/-- the weeks of members with some ages -/
def swS (g : Int) (ys zs : List Int) : Int := (zs.map (wk g ys)).sum

def swE (g : Int) (ys zs : List Int) : Int := if skB g ys = true then (if (zs.all (fun x => inB x 0 150) && decide ((zs.length : Int) ≤ 130)) = true then 0 else 2) else 1

def swV (g : Int) (ys zs : List Int) : Int := if swE g ys zs = 0 then -(-swS g ys zs / 1000) else 0

theorem swS_take (g : Int) (ys zs : List Int) (k : Nat) (hk : k < zs.length) : swS g ys (zs.take (k + 1)) = swS g ys (zs.take k) + wk g ys (zs.getD k 0) := by
  unfold swS
  rw [List.take_add_one, List.getElem?_eq_getElem hk, List.map_append, List.sum_append]
  simp [List.getD, List.getElem?_eq_getElem hk]

theorem STab.sw_bd {g : Int} {ys : List Int} (h : STab g ys) (zs : List Int) : 0 ≤ swS g ys zs ∧ swS g ys zs ≤ zs.length * 52000 := by
  induction zs with
  | nil => simp [swS]
  | cons a t ih =>
    have := h.wk_bd a
    unfold swS at ih ⊢
    rw [List.map_cons, List.sum_cons, List.length_cons]
    omega

theorem swE_iff {g : Int} {ys zs : List Int} : swE g ys zs = 0 ↔ STab g ys ∧ zs.length ≤ 130 ∧ ∀ x ∈ zs, 0 ≤ x ∧ x ≤ 150 := by
  unfold swE
  rw [← skB_iff]
  by_cases h1 : skB g ys = true
  · rw [if_pos h1]
    by_cases h2 : (zs.all (fun x => inB x 0 150) && decide ((zs.length : Int) ≤ 130)) = true
    · rw [if_pos h2]
      rw [Bool.and_eq_true, List.all_eq_true, decide_eq_true_iff] at h2
      simp only [inB_iff] at h2
      constructor
      · intro _; exact ⟨h1, by omega, h2.1⟩
      · intro _; rfl
    · rw [if_neg h2]
      constructor
      · intro h; cases h
      · rintro ⟨_, a, b⟩
        refine absurd ?_ h2
        rw [Bool.and_eq_true, List.all_eq_true, decide_eq_true_iff]
        simp only [inB_iff]
        exact ⟨b, by omega⟩
  · rw [if_neg h1]
    constructor
    · intro h; cases h
    · rintro ⟨a, _⟩; exact absurd a h1

/-- the first index of the most weeks, among the first k -/
def bestN (ys : List Int) : Nat → Nat
  | 0 => 0
  | k + 1 => if ys.getD (bestN ys k) 0 < ys.getD k 0 then k else bestN ys k

theorem bestN_lt (ys : List Int) (k : Nat) (h : 0 < k) : bestN ys k < k := by
  induction k with
  | zero => omega
  | succ k ih =>
    unfold bestN
    split
    · omega
    · by_cases hk : 0 < k
      · have := ih hk; omega
      · obtain rfl : k = 0 := by omega
        simp [bestN]

theorem bestN_ge (ys : List Int) (k j : Nat) (h : j < k) : ys.getD j 0 ≤ ys.getD (bestN ys k) 0 := by
  induction k with
  | zero => omega
  | succ k ih =>
    unfold bestN
    by_cases hj : j = k
    · subst hj
      split
      · exact Int.le_refl _
      · omega
    · have := ih (by omega)
      split
      · omega
      · exact this

theorem bestN_first (ys : List Int) (k j : Nat) (h : j < bestN ys k) : ys.getD j 0 < ys.getD (bestN ys k) 0 := by
  induction k with
  | zero => simp [bestN] at h
  | succ k ih =>
    unfold bestN at h ⊢
    split
    · next hlt =>
      rw [if_pos hlt] at h
      have := bestN_ge ys k j h
      omega
    · next hlt =>
      rw [if_neg hlt] at h
      exact ih h

def woV (g : Int) (ys : List Int) : Int := if siE g ys = 0 then g + bestN ys ys.length else 0

set_option maxHeartbeats 1000000 in
theorem ssw_any (g : Int) (ys : List Int) (a : Option Addr) (l c : Nat) (zs : List Int) (b : Option Addr) (m d : Nat) (w : World) (h : Ints w a l ys) (k : Ints w b m zs) :
    Calls Try.prog 13 #[.agg #[.int .i64 g, .slice a l c], .slice b m d] w (IIPost (swV g ys zs) (swE g ys zs) w) := by
  have C1 := Lib.hid (isS_spec g ys a l c (w.alloc (.cells #[.int .i64 g, .slice a l c] 26)) (h.on (box_b _ _)))
  have C2 := Lib.hid (fun (W : World) (hW : Below w.heap.size w W) => inAll_any zs b m d 130 0 150 W (k.on hW))
  have HL := Lib.hid h.len
  have HM := Lib.hid k.len
  have hm := k.max
  have H := Lib.hid h
  have K := Lib.hid k
  clear h k
  unfold IIPost
  by_cases h1 : skB g ys = true
  · rw [h1] at C1
    have HE0 : Hid (swE g ys zs = if (zs.all (fun x => inB x 0 150) && decide ((m : Int) ≤ 130)) = true then 0 else 2) := Lib.hid (by unfold swE; rw [if_pos h1, HM.out])
    have hst := (skB_iff _ _).1 h1
    have HS := Lib.hid hst
    obtain ⟨g0, g1⟩ := hst.1
    obtain ⟨l0, l1⟩ := hst.2.1
    rw [HL.out] at l0 l1
    clear h1 hst
    obtain ⟨q, hq⟩ : ∃ y_, (zs.all (fun x => inB x 0 150) && decide ((m : Int) ≤ 130)) = y_ := ⟨_, rfl⟩
    rw [hq] at C2 HE0
    have HQ := Lib.hid hq
    clear hq
    cases q
    · have HE : Hid (swE g ys zs = 2) := HE0
      have HV : Hid (swV g ys zs = 0) := Lib.hid (by unfold swV; rw [HE.out]; rfl)
      clear HE0
      go_enter Try.func13, Try.ntmps13
      go_wp2_with fail
      refine C1.out.mono ?_
      rintro e w1 ⟨rfl, hb1⟩
      obtain ⟨hB, hc0, hc1⟩ := box2 hb1
      have HB := Lib.hid hB
      clear hB hb1
      go_wp2_with (go_at_call 41; refine (C2.out _ HB.out).mono ?_; rintro e w' ⟨rfl, rfl⟩)
      go_ret2
      exact ⟨ret_ii HV.out.symm HE.out.symm, HB.out⟩
    · have HE : Hid (swE g ys zs = 0) := HE0
      have HV : Hid (swV g ys zs = -(-swS g ys zs / 1000)) := Lib.hid (by unfold swV; rw [HE.out]; rfl)
      have hin := swE_iff.1 HE.out
      have hm1 := hin.2.1
      rw [HM.out] at hm1
      have HIN := Lib.hid hin.2.2
      clear hin HE0
      go_enter Try.func13, Try.ntmps13
      go_wp2_with fail
      refine C1.out.mono ?_
      rintro e w1 ⟨rfl, hb1⟩
      obtain ⟨hB, hc0, hc1⟩ := box2 hb1
      have HB := Lib.hid hB
      clear hB hb1
      go_wp2_with (go_at_call 41; refine (C2.out _ HB.out).mono ?_; rintro e w' ⟨rfl, rfl⟩)
      go_loopw [6, 7] (fun v i wr => ∃ j : Nat, j ≤ m ∧ i = .int .i64 j ∧ v = .int .i64 (swS g ys (zs.take j)) ∧ wr.cell? ⟨w.heap.size, 0, none⟩ = some (.int .i64 g) ∧ wr.cell? ⟨w.heap.size, 1, none⟩ = some (.slice a l c) ∧ Hid (Below w.heap.size w wr)) (fun _ i _ => m - (intOf i).toNat)
      case atStart => exact ⟨0, Nat.zero_le _, rfl, rfl, hc0, hc1, HB⟩
      case round =>
        obtain ⟨j, hj, rfl, rfl, hc0, hc1, HB⟩ := hrel
        have hsb := HS.out.sw_bd (zs.take j)
        have htl : (zs.take j).length ≤ j := List.length_take_le _ _
        by_cases hlt : j < m
        · obtain ⟨bb, off, rfl, hb, hc⟩ := K.out.at (by omega)
          have hx := (HB.out.cell (p := ⟨bb, off + j, none⟩) hb).trans (hc j hlt)
          have hst := swS_take g ys zs j (by rw [HM.out]; exact hlt)
          have hxin : 0 ≤ zs.getD j 0 ∧ zs.getD j 0 ≤ 150 := by
            have hj2 : j < zs.length := by rw [HM.out]; exact hlt
            rw [List.getD_eq_getElem?_getD, List.getElem?_eq_getElem hj2]
            exact HIN.out _ (List.getElem_mem hj2)
          have hwb := HS.out.wk_bd (zs.getD j 0)
          have HX : Hid (wr.cell? ⟨bb, off + j, none⟩ = some (.int .i64 (zs.getD j 0))) := Lib.hid hx
          obtain ⟨X, hX⟩ : ∃ y_, zs.getD j 0 = y_ := ⟨_, rfl⟩
          rw [hX] at hx hst hxin hwb HX
          obtain ⟨A, hA⟩ : ∃ y_, swS g ys (zs.take j) = y_ := ⟨_, rfl⟩
          rw [hA] at hsb hst ⊢
          have CW : Hid (∀ W, Hid (Below w.heap.size w W) → Calls Try.prog 42 #[.agg #[.int .i64 g, .slice a l c], .int .i64 X] W fun e w' => e = .returned (.int .i64 (wk g ys X)) ∧ Below W.heap.size W w') :=
            Lib.hid (fun W hW => swk_any g ys a l c X W (H.out.on hW.out) g0 g1 hxin.1 (by omega) (by omega))
          obtain ⟨V, hV⟩ : ∃ y_, wk g ys X = y_ := ⟨_, rfl⟩
          rw [hV] at hst hwb CW
          have HST := Lib.hid hst
          clear hX hA hV hst hc
          have r1 : IntKind.i64.wrap (A + V) = A + V := IntWalk.i64_in _ (by omega)
          have hlt2 : (j : Int) < m := by omega
          go_wp2_with fail
          go_region_held3 (fun w' => w'.cell? ⟨w.heap.size, 0, none⟩ = some (.int .i64 g) ∧ w'.cell? ⟨w.heap.size, 1, none⟩ = some (.slice a l c) ∧ w'.cell? ⟨bb, off + j, none⟩ = some (.int .i64 X) ∧ Hid (Below w.heap.size w w'))
            (first
              | (go_split_ands; exact ⟨by with_reducible assumption, by with_reducible assumption, by with_reducible assumption, by with_reducible assumption⟩)
              | (go_split_ands; exact ⟨cell_drew (by with_reducible assumption), cell_drew (by with_reducible assumption), cell_drew (by with_reducible assumption), Lib.hid (Below.drew (Hid.out (by with_reducible assumption)))⟩)
              | (go_split_ands; exact ⟨keep2 hb (by with_reducible assumption), keep2 hb (by with_reducible assumption), keep2 hb (by with_reducible assumption), Lib.hid (Below.trans (Hid.out (by with_reducible assumption)) (Below.mono hb (Below.size (Hid.out (by with_reducible assumption)))))⟩)
              | fail)
            (first
              | (go_split_ands; go_at_call 42; ((with_reducible refine (CW.out _ (by with_reducible assumption)).mono ?_); rintro e w' ⟨rfl, hb⟩))
              | fail)
          all_goals
            go_split_ands
            go_wp2_with fail
            go_roundw
            case rel => exact ⟨j + 1, by omega, by go_num, by rw [HST.out], by with_reducible assumption, by with_reducible assumption, by with_reducible assumption⟩
            case measure => simp [intOf]; omega
        · obtain rfl : j = m := by omega
          have hA : zs.take j = zs := List.take_of_length_le (by rw [HM.out]; exact Nat.le_refl _)
          rw [hA] at hsb ⊢
          obtain ⟨A, hA2⟩ : ∃ y_, swS g ys zs = y_ := ⟨_, rfl⟩
          rw [hA2] at hsb HV ⊢
          rw [HM.out] at hsb
          clear hA hA2
          go_wp2_with (go_at_call 43; refine (up_any _ _ _ (by omega) (by omega) (by omega)).mono ?_; rintro e w' ⟨rfl, rfl⟩)
          go_ret2
          exact ⟨ret_ii HV.out.symm HE.out.symm, HB.out⟩
  · have h1' : skB g ys = false := by simpa using h1
    have HE : Hid (swE g ys zs = 1) := Lib.hid (by unfold swE; rw [if_neg h1])
    have HV : Hid (swV g ys zs = 0) := Lib.hid (by unfold swV; rw [HE.out]; rfl)
    rw [h1'] at C1
    clear h1 h1'
    go_enter Try.func13, Try.ntmps13
    go_wp2_with fail
    refine C1.out.mono ?_
    rintro e w1 ⟨rfl, hb1⟩
    obtain ⟨hB, hc0, hc1⟩ := box2 hb1
    have HB := Lib.hid hB
    clear hB hb1
    go_wp2_with fail
    go_ret2
    exact ⟨ret_ii HV.out.symm HE.out.symm, HB.out⟩

set_option maxHeartbeats 1000000 in
theorem swo_any (g : Int) (ys : List Int) (a : Option Addr) (l c : Nat) (w : World) (h : Ints w a l ys) :
    Calls Try.prog 18 #[.agg #[.int .i64 g, .slice a l c]] w (IIPost (woV g ys) (siE g ys) w) := by
  have C1 := Lib.hid (isS_spec g ys a l c (w.alloc (.cells #[.int .i64 g, .slice a l c] 26)) (h.on (box_b _ _)))
  have HL := Lib.hid h.len
  have H := Lib.hid h
  clear h
  unfold IIPost
  by_cases h1 : skB g ys = true
  · rw [h1] at C1
    have HE : Hid (siE g ys = 0) := Lib.hid (by unfold siE; rw [if_pos h1])
    have HV : Hid (woV g ys = g + bestN ys l) := Lib.hid (by unfold woV; rw [if_pos HE.out, HL.out])
    have hst := (skB_iff _ _).1 h1
    obtain ⟨g0, g1⟩ := hst.1
    obtain ⟨l0, l1⟩ := hst.2.1
    rw [HL.out] at l0 l1
    clear h1 hst
    obtain ⟨b, off, rfl, hb, hc⟩ := H.out.at (by omega)
    have HC := Lib.hid hc
    clear hc
    go_enter Try.func18, Try.ntmps18
    go_wp2_with fail
    refine C1.out.mono ?_
    rintro e w1 ⟨rfl, hb1⟩
    obtain ⟨hB, hc0, hc1⟩ := box2 hb1
    have HB := Lib.hid hB
    clear hB hb1
    go_wp2_with fail
    go_loopw [4, 5] (fun v i wr => ∃ j : Nat, j ≤ l ∧ i = .int .i64 j ∧ v = .int .i64 (bestN ys j) ∧ wr.cell? ⟨w.heap.size, 0, none⟩ = some (.int .i64 g) ∧ wr.cell? ⟨w.heap.size, 1, none⟩ = some (.slice (some ⟨b, off, none⟩) l c) ∧ Hid (Below w.heap.size w wr)) (fun _ i _ => l - (intOf i).toNat)
    case atStart => exact ⟨0, Nat.zero_le _, rfl, rfl, hc0, hc1, HB⟩
    case round =>
      obtain ⟨j, hj, rfl, rfl, hc0, hc1, HB⟩ := hrel
      by_cases hlt : j < l
      · have hN : bestN ys j < l := by
          by_cases h0 : 0 < j
          · have := bestN_lt ys j h0; omega
          · obtain rfl : j = 0 := by omega
            simp [bestN]; omega
        have hx := (HB.out.cell (p := ⟨b, off + j, none⟩) hb).trans (HC.out j hlt)
        have hy := (HB.out.cell (p := ⟨b, off + bestN ys j, none⟩) hb).trans (HC.out _ hN)
        have HST : Hid (bestN ys (j + 1) = if ys.getD (bestN ys j) 0 < ys.getD j 0 then j else bestN ys j) := Lib.hid rfl
        obtain ⟨N, hNN⟩ : ∃ y_, bestN ys j = y_ := ⟨_, rfl⟩
        rw [hNN] at hN hy HST ⊢
        obtain ⟨X, hX⟩ : ∃ y_, ys.getD j 0 = y_ := ⟨_, rfl⟩
        rw [hX] at hx HST
        obtain ⟨Y, hY⟩ : ∃ y_, ys.getD N 0 = y_ := ⟨_, rfl⟩
        rw [hY] at hy HST
        clear hNN hX hY
        have hlt2 : (j : Int) < l := by omega
        by_cases hgt : Y < X
        · have HS2 : Hid (bestN ys (j + 1) = j) := Lib.hid (by rw [HST.out, if_pos hgt])
          go_wp2_with fail
          go_quiet (fail)
          go_wp2_with fail
          go_roundw
          case rel => exact ⟨j + 1, by omega, by go_num, by rw [HS2.out], hc0, hc1, Lib.hid (below_drewN HB.out _)⟩
          case measure => simp [intOf]; omega
        · have HS2 : Hid (bestN ys (j + 1) = N) := Lib.hid (by rw [HST.out, if_neg hgt])
          go_wp2_with fail
          go_quiet (fail)
          go_wp2_with fail
          go_roundw
          case rel => exact ⟨j + 1, by omega, by go_num, by rw [HS2.out], hc0, hc1, Lib.hid (below_drewN HB.out _)⟩
          case measure => simp [intOf]; omega
      · obtain rfl : j = l := by omega
        have hN := bestN_lt ys j (by omega)
        obtain ⟨N, hNN⟩ : ∃ y_, bestN ys j = y_ := ⟨_, rfl⟩
        rw [hNN] at hN HV ⊢
        clear hNN
        go_wp2_with fail
        go_ret2
        exact ⟨ret_ii HV.out.symm HE.out.symm, HB.out⟩
  · have h1' : skB g ys = false := by simpa using h1
    have HE : Hid (siE g ys = 1) := Lib.hid (by unfold siE; rw [if_neg h1])
    have HV : Hid (woV g ys = 0) := Lib.hid (by unfold woV; rw [HE.out]; rfl)
    rw [h1'] at C1
    clear h1 h1'
    go_enter Try.func18, Try.ntmps18
    go_wp2_with fail
    refine C1.out.mono ?_
    rintro e w1 ⟨rfl, hb1⟩
    obtain ⟨hB, hc0, hc1⟩ := box2 hb1
    have HB := Lib.hid hB
    clear hB hb1
    go_wp2_with fail
    go_ret2
    exact ⟨ret_ii HV.out.symm HE.out.symm, HB.out⟩

end Go.Proofs.Ytgfemcpjkdepdaa
