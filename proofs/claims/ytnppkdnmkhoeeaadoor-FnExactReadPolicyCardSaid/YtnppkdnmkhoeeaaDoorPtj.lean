/- Policies: the program's text of a policy: what the call returns. -/
import Derived.Test.YtnppkdnmkhoeeaaDoorPti
import Derived.Test.YtnppkdnmkhoeeaaDoorNumT
namespace Go.Proofs.YtnppkdnmkhoeeaaDoor
open Go.ChangeShapes Go.WideShapes Go.ChangeAt Go.RowKit
set_option linter.unusedVariables false
set_option maxRecDepth 100000

theorem OwnS.part {base : Nat} {w : World} {v : Value} {xs : List ByteArray} (h : OwnS base w v xs) (hl : 0 < xs.length) : ∃ g c, v = .slice (some ⟨g, 0, none⟩) xs.length c ∧ g < w.heap.size ∧ xs.length ≤ c ∧ ∀ (i : Nat) y, xs[i]? = some y → w.cell? ⟨g, 0 + i, none⟩ = some (.string y) := by
  obtain ⟨g, c, hv, hg, hc⟩ := h.cells hl
  have h2 := h
  obtain ⟨h0, ⟨h1, h3⟩ | ⟨g2, cap, cur, hv2, hg2, hh, hn, r⟩⟩ := h2
  · omega
  · rw [hv] at hv2
    injection hv2 with e1 e2 e3
    injection e1 with e4
    injection e4 with e5
    subst e5 e3
    refine ⟨g, c, hv, ?_, hn, ?_⟩
    · by_cases hl : g < w.heap.size
      · exact hl
      · have : w.heap[g]? = none := by simp; omega
        rw [this] at hh; cases hh
    · intro i y hy
      have hi : i < xs.length := by
        by_cases h : i < xs.length
        · exact h
        · rw [List.getElem?_eq_none (by omega)] at hy; cases hy
      rw [Nat.zero_add, hc i hi]
      rw [List.getElem?_eq_getElem hi] at hy
      injection hy with hy
      rw [List.getD_eq_getElem?_getD, List.getElem?_eq_getElem hi, ← hy]
      rfl

theorem join5_any (k x n s u : Int) (v : Value) (base : Nat) (w : World) (h : OwnS base w v (itB [k, x, n, s, u])) (hp : ptB k x n s u = true) :
    Calls Tryd.prog 16 #[v, .string ⟨#[44]⟩] w fun e w' => e = .returned (.string ⟨(ptT k x n s u).toArray⟩) ∧ Below w.heap.size w w' := by
  have hl : (itB [k, x, n, s, u]).length = 5 := by rw [itB_len]; rfl
  obtain ⟨g, c, rfl, hg, hc, hcell⟩ := h.part (by omega)
  have e1 : Lib.join ((itB [k, x, n, s, u]).map (·.data.toList)) (⟨#[44]⟩ : ByteArray).data.toList = ptT k x n s u := by
    rw [itB_data]
    show Lib.join _ [44] = _
    rw [join_jc]
    unfold ptT
    rw [if_pos hp]
  have h1 := Tryd.strings_Join g 0 c (itB [k, x, n, s, u]) ⟨#[44]⟩ w hcell hg (by omega) hc (by
    rw [e1]; unfold ptT; rw [if_pos hp]
    have := jc_len [k, x, n, s, u] (ptB_mon hp)
    simp at this; omega)
  rw [e1] at h1
  exact h1

set_option maxHeartbeats 1000000 in
theorem pt_impl (k x n s u : Int) (w : World) (ht : Tab w) :
    Calls Tryd.prog 7 #[.agg #[.int .i64 k, .int .i64 x, .int .i64 n, .int .i64 s, .int .i64 u]] w fun e w' => e = .returned (.string ⟨(ptT k x n s u).toArray⟩) ∧ Below w.heap.size w w' := by
  have HX := Lib.hid (idx5 k x n s u)
  have HN := Lib.hid (num5_any k x n s u)
  have HG := Lib.hid ht.lt
  have HT := Lib.hid ht
  have hA := box_b w (.cells #[.int .i64 k, .int .i64 x, .int .i64 n, .int .i64 s, .int .i64 u] 25)
  have hO := ownS_new (w.alloc (.cells #[.int .i64 k, .int .i64 x, .int .i64 n, .int .i64 s, .int .i64 u] 25))
  have hO2 : OwnS w.heap.size ((w.alloc (.cells #[.int .i64 k, .int .i64 x, .int .i64 n, .int .i64 s, .int .i64 u] 25)).alloc (.cells #[] 9)) (.slice (some ⟨w.heap.size + 1, 0, none⟩) 0 0) [] := by rw [← und5s w k x n s u]; exact hO.mono (by simp)
  have HO := Lib.hid hO2
  have HB := Lib.hid (hA.trans ((box_b _ (.cells #[] 9)).mono (by simp)))
  have HP : Hid (∀ j, j ≤ 5 → (∀ m, m < j → inB ([k, x, n, s, u].getD m 0) (-1000000000000) 1000000000000 = true) → j = 5 → ptB k x n s u = true) := Lib.hid (by
    intro j _ hm e
    subst e
    have h0 := hm 0 (by omega); have h1 := hm 1 (by omega); have h2 := hm 2 (by omega); have h3 := hm 3 (by omega); have h4 := hm 4 (by omega)
    simp only [List.getD_cons_zero, List.getD_cons_succ] at h0 h1 h2 h3 h4
    unfold ptB
    simp only [List.all_cons, List.all_nil, h0, h1, h2, h3, h4]
    rfl)
  have HF : Hid (∀ j, j < 5 → inB ([k, x, n, s, u].getD j 0) (-1000000000000) 1000000000000 = false → ptT k x n s u = []) := Lib.hid (by
    intro j hj e
    unfold ptT
    rw [if_neg]
    intro hp
    rw [ptB_at hp j hj] at e
    cases e)
  clear ht hA hO hO2
  go_enter Tryd.func7, Tryd.ntmps7
  go_wp2_with fail
  refine (HN.out _).mono ?_
  rintro e w1 ⟨rfl, hb⟩
  have HO1 := Lib.hid (HO.out.on hb)
  have HB1 := Lib.hid (HB.out.trans (hb.mono HB.out.size))
  clear hb HO HB
  go_wp2_with fail
  go_loopw [3, 9] (fun v i wr => ∃ j : Nat, j ≤ 5 ∧ i = .int .i64 j ∧ Hid (∀ m, m < j → inB ([k, x, n, s, u].getD m 0) (-1000000000000) 1000000000000 = true) ∧ Hid (OwnS w.heap.size wr v (itB ([k, x, n, s, u].take j))) ∧ Hid (Below w.heap.size w wr)) (fun _ i _ => 5 - (intOf i).toNat)
  case atStart => exact ⟨0, Nat.zero_le _, rfl, Lib.hid (fun m hm => by omega), HO1, HB1⟩
  case round =>
    obtain ⟨j, hj, rfl, HA, HO, HB⟩ := hrel
    by_cases hlt : j < 5
    · have hx := fun W => HX.out j hlt W
      have HS := Lib.hid (itB_take [k, x, n, s, u] j (by simpa using hlt))
      have HF1 := Lib.hid (HF.out j hlt)
      have HA1 : Hid (inB ([k, x, n, s, u].getD j 0) (-1000000000000) 1000000000000 = true → ∀ m, m < j + 1 → inB ([k, x, n, s, u].getD m 0) (-1000000000000) 1000000000000 = true) := Lib.hid (fun h m hm => by
        by_cases e : m = j
        · rw [e]; exact h
        · exact HA.out m (by omega))
      obtain ⟨q, hq⟩ : ∃ q, [k, x, n, s, u].getD j 0 = q := ⟨_, rfl⟩
      rw [hq] at hx HS HF1 HA1
      have hW : (itB ([k, x, n, s, u].take j)).length ≤ 5 := by rw [itB_len, List.length_take]; omega
      obtain ⟨Z, hZ⟩ : ∃ Z, itB ([k, x, n, s, u].take j) = Z := ⟨_, rfl⟩
      rw [hZ] at HS HO hW
      clear hq hZ HA HX HF HN
      by_cases hv : inB q (-1000000000000) 1000000000000 = true
      · have hc := fun W => within_any q (-1000000000000) 1000000000000 W
        simp only [hv] at hc
        have HC := Lib.hid hc
        obtain ⟨q0, q1⟩ := (inB_iff _ _ _).1 hv
        have HA2 := Lib.hid (HA1.out hv)
        clear hc hv HA1 HF1
        go_wp2_with fail
        refine (HC.out _).mono ?_
        rintro e w' ⟨rfl, rfl⟩
        go_wp2_with fail
        refine (fmt_any q _ (by omega) (by omega) (HT.out.stepB HG.out HB.out)).mono ?_
        rintro e w3 ⟨rfl, hb3, -⟩
        have hown := HO.out.on hb3
        have HB3 := Lib.hid (HB.out.trans (hb3.mono HB.out.size))
        have hbs := HB3.out.size
        clear hb3 HO
        go_wp2_with (at_builtin; refine wpList_appS rfl _ _ rfl w.heap.size _ Z ⟨(Lib.itoa q).toArray⟩ rfl (hown.alloc _) ⟨w3.heap.size, 0, none⟩ rfl (one_newS w3 _) (by omega) (by simp; omega) ?_)
        intro v' w5 hown' hgrow
        rw [← HS.out] at hown'
        have HO5 := Lib.hid hown'
        have HB5 := Lib.hid ((HB3.out.alloc hbs _).grown hgrow (by simp; omega) (fun k hk => (hown.lt k hk).1))
        clear hown' hgrow hown
        go_wp2_with fail
        go_roundw
        case rel => exact ⟨j + 1, by omega, by go_num, HA2, HO5, HB5⟩
        case measure => simp [intOf]; omega
      · have hv2 : inB q (-1000000000000) 1000000000000 = false := by simpa using hv
        have hc := fun W => within_any q (-1000000000000) 1000000000000 W
        simp only [hv2] at hc
        have HC := Lib.hid hc
        have HE := Lib.hid (HF1.out hv2)
        clear hc hv hv2 HA1 HF1
        go_wp2_with fail
        refine (HC.out _).mono ?_
        rintro e w' ⟨rfl, rfl⟩
        go_wp2_with fail
        go_ret
        exact ⟨ret_str (by rw [HE.out]), HB.out⟩
    · obtain rfl : j = 5 := by omega
      have HP5 := Lib.hid (HP.out 5 (by omega) HA.out rfl)
      have hO5 : OwnS w.heap.size wr _ (itB [k, x, n, s, u]) := HO.out
      have HO5 := Lib.hid hO5
      clear hO5 HO HX HF HN HP
      go_wp2_with fail
      refine (join5_any k x n s u _ _ _ HO5.out HP5.out).mono ?_
      rintro e w' ⟨rfl, hb⟩
      have HB2 := Lib.hid (HB.out.trans (hb.mono HB.out.size))
      clear hb
      go_wp2_with fail
      go_ret
      exact ⟨ret_str rfl, HB2.out⟩

end Go.Proofs.YtnppkdnmkhoeeaaDoor
