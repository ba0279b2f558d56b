/- Slices of integers compared, marked and looked at again: what each call returns. -/
import Derived.Test.YtmcagpcldjopjaaOwn
namespace Go.Proofs.Ytmcagpcldjopjaa
open Go.ChangeShapes Go.WideShapes Go.ChangeAt Go.RowKit
set_option linter.unusedVariables false

theorem take_eq_snoc {xs ys : List Int} {k : Nat} (h : xs.take k = ys.take k) (hx : k < xs.length) (hy : k < ys.length) (e : xs.getD k 0 = ys.getD k 0) : xs.take (k + 1) = ys.take (k + 1) := by
  rw [List.take_add_one, List.take_add_one, h, List.getElem?_eq_getElem hx, List.getElem?_eq_getElem hy]
  simp [List.getD, List.getElem?_eq_getElem hx, List.getElem?_eq_getElem hy] at e
  rw [e]

theorem eqS_any (xs ys : List Int) (a b : Option Addr) (l m c d : Nat) (w : World) (h : Ints w a l xs) (g : Ints w b m ys) :
    Calls Try.prog 39 #[.slice a l c, .slice b m d] w fun e w' => e = .returned (.bool (decide (xs = ys))) ∧ ∃ n, w' = w.drewN n := by
  have HX := Lib.hid h.len
  have HY := Lib.hid g.len
  have H := Lib.hid h
  have G := Lib.hid g
  have hm := h.max
  have gm := g.max
  clear h g
  by_cases hlm : l = m
  · subst hlm
    go_enter Try.func39, Try.ntmps39
    go_wp2_with fail
    go_loopw [5] (fun i wr => ∃ k : Nat, k ≤ l ∧ i = .int .i64 k ∧ Hid (xs.take k = ys.take k) ∧ Hid (∃ n, wr = w.drewN n)) (fun i _ => l - (intOf i).toNat)
    case atStart => exact ⟨0, Nat.zero_le _, rfl, Lib.hid (by simp), Lib.hid ⟨0, rfl⟩⟩
    case round =>
      obtain ⟨k, hk, rfl, HK, HW⟩ := hrel
      by_cases hlt : k < l
      · rcases H.out.cells with h0 | ⟨b1, o1, rfl, hc⟩
        · omega
        rcases G.out.cells with h0 | ⟨b2, o2, rfl, gc⟩
        · omega
        have hx := hc k hlt
        have hy := gc k hlt
        obtain ⟨u, hu⟩ : ∃ u, xs.getD k 0 = u := ⟨_, rfl⟩
        obtain ⟨v, hv⟩ : ∃ v, ys.getD k 0 = v := ⟨_, rfl⟩
        rw [hu] at hx
        rw [hv] at hy
        have hxr : wr.cell? ⟨b1, o1 + k, none⟩ = some (.int .i64 u) := by obtain ⟨n, rfl⟩ := HW.out; exact hx
        have hyr : wr.cell? ⟨b2, o2 + k, none⟩ = some (.int .i64 v) := by obtain ⟨n, rfl⟩ := HW.out; exact hy
        have HU := Lib.hid hu
        have HV := Lib.hid hv
        have HC := Lib.hid hc
        have GC := Lib.hid gc
        clear hu hv hc gc hx hy
        by_cases huv : u = v
        · subst huv
          go_wp2_with fail
          go_quiet (fail)
          go_wp2_with fail
          go_roundw
          case rel => exact ⟨k + 1, by omega, by go_num, Lib.hid (take_eq_snoc HK.out (by rw [HX.out]; exact hlt) (by rw [HY.out]; exact hlt) (by rw [HU.out, HV.out])), Lib.hid (by obtain ⟨n, hn⟩ := HW.out; exact ⟨n + nq, by rw [hn, World.drewN_drewN]⟩)⟩
          case measure => simp [intOf]; omega
        · have hB : (u != v) = true := by simpa using huv
          have HN := Lib.hid huv
          clear huv
          go_wp2_with fail
          go_quiet (fail)
          go_wp2_with fail
          go_ret
          exact ⟨ret_bool (by rw [eq_comm, decide_eq_false_iff_not]; intro e; rw [e, HV.out] at HU; exact HN.out HU.out.symm), by obtain ⟨n, hn⟩ := HW.out; exact ⟨n + nq, by rw [hn, World.drewN_drewN]⟩⟩
      · go_wp2_with fail
        go_ret
        obtain rfl : k = l := by omega
        have e := HK.out
        rw [List.take_of_length_le (by rw [HX.out]; exact Nat.le_refl _), List.take_of_length_le (by rw [HY.out]; exact Nat.le_refl _)] at e
        exact ⟨ret_bool (by rw [eq_comm, decide_eq_true_iff]; exact e), HW.out⟩
  · have hne : ((l : Int) != (m : Int)) = true := by simpa using by omega
    go_enter Try.func39, Try.ntmps39
    go_wp2_with fail
    go_ret
    exact ⟨ret_bool (by rw [eq_comm, decide_eq_false_iff_not]; intro e; subst e; exact hlm (HX.out.symm.trans HY.out)), 0, rfl⟩

theorem like_any (xs ys : List Int) (a b : Option Addr) (l m c d : Nat) (w : World) (h : Ints w a l xs) (g : Ints w b m ys) :
    Calls Try.prog 35 #[.slice a l c, .slice b m d] w fun e w' => e = .returned (.bool (decide (xs = ys))) ∧ ∃ n, w' = w.drewN n := by
  have HX := Lib.hid h.len
  have HY := Lib.hid g.len
  have H := Lib.hid h
  have G := Lib.hid g
  have hm := h.max
  have gm := g.max
  clear h g
  by_cases hlm : l = m
  · subst hlm
    go_enter Try.func35, Try.ntmps35
    go_wp2_with fail
    go_loopw [5] (fun i wr => ∃ k : Nat, k ≤ l ∧ i = .int .i64 k ∧ Hid (xs.take k = ys.take k) ∧ Hid (∃ n, wr = w.drewN n)) (fun i _ => l - (intOf i).toNat)
    case atStart => exact ⟨0, Nat.zero_le _, rfl, Lib.hid (by simp), Lib.hid ⟨0, rfl⟩⟩
    case round =>
      obtain ⟨k, hk, rfl, HK, HW⟩ := hrel
      by_cases hlt : k < l
      · rcases H.out.cells with h0 | ⟨b1, o1, rfl, hc⟩
        · omega
        rcases G.out.cells with h0 | ⟨b2, o2, rfl, gc⟩
        · omega
        have hx := hc k hlt
        have hy := gc k hlt
        obtain ⟨u, hu⟩ : ∃ u, xs.getD k 0 = u := ⟨_, rfl⟩
        obtain ⟨v, hv⟩ : ∃ v, ys.getD k 0 = v := ⟨_, rfl⟩
        rw [hu] at hx
        rw [hv] at hy
        have hxr : wr.cell? ⟨b1, o1 + k, none⟩ = some (.int .i64 u) := by obtain ⟨n, rfl⟩ := HW.out; exact hx
        have hyr : wr.cell? ⟨b2, o2 + k, none⟩ = some (.int .i64 v) := by obtain ⟨n, rfl⟩ := HW.out; exact hy
        have HU := Lib.hid hu
        have HV := Lib.hid hv
        have HC := Lib.hid hc
        have GC := Lib.hid gc
        clear hu hv hc gc hx hy
        by_cases huv : u = v
        · subst huv
          go_wp2_with fail
          go_quiet (fail)
          go_wp2_with fail
          go_roundw
          case rel => exact ⟨k + 1, by omega, by go_num, Lib.hid (take_eq_snoc HK.out (by rw [HX.out]; exact hlt) (by rw [HY.out]; exact hlt) (by rw [HU.out, HV.out])), Lib.hid (by obtain ⟨n, hn⟩ := HW.out; exact ⟨n + nq, by rw [hn, World.drewN_drewN]⟩)⟩
          case measure => simp [intOf]; omega
        · have hB : (u != v) = true := by simpa using huv
          have HN := Lib.hid huv
          clear huv
          go_wp2_with fail
          go_quiet (fail)
          go_wp2_with fail
          go_ret
          exact ⟨ret_bool (by rw [eq_comm, decide_eq_false_iff_not]; intro e; rw [e, HV.out] at HU; exact HN.out HU.out.symm), by obtain ⟨n, hn⟩ := HW.out; exact ⟨n + nq, by rw [hn, World.drewN_drewN]⟩⟩
      · go_wp2_with fail
        go_ret
        obtain rfl : k = l := by omega
        have e := HK.out
        rw [List.take_of_length_le (by rw [HX.out]; exact Nat.le_refl _), List.take_of_length_le (by rw [HY.out]; exact Nat.le_refl _)] at e
        exact ⟨ret_bool (by rw [eq_comm, decide_eq_true_iff]; exact e), HW.out⟩
  · have hne : ((l : Int) != (m : Int)) = true := by simpa using by omega
    go_enter Try.func35, Try.ntmps35
    go_wp2_with fail
    go_ret
    exact ⟨ret_bool (by rw [eq_comm, decide_eq_false_iff_not]; intro e; subst e; exact hlm (HX.out.symm.trans HY.out)), 0, rfl⟩

end Go.Proofs.Ytmcagpcldjopjaa
