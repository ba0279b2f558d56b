/- MakeTable of the program: what the calls return. -/
import Derived.Test.YtonkaoacohocjaaMake
namespace Go.Proofs.Ytonkaoacohocjaa
open Go.ChangeShapes Go.WideShapes Go.ChangeAt Go.RowKit
set_option linter.unusedVariables false

/-- whether a table is made of these -/
def mkB (f L : Int) (rs : List Int) : Bool := inB f 0 100 && inB L 1 1000000 && (decide (rs.length ≤ 118) && decide ((rs.length : Int) ≤ 149 - f)) && rtB rs

theorem mkB_iff (f L : Int) (rs : List Int) : mkB f L rs = true ↔ (0 ≤ f ∧ f ≤ 100) ∧ (1 ≤ L ∧ L ≤ 1000000) ∧ (rs.length ≤ 118 ∧ (rs.length : Int) ≤ 149 - f) ∧ ∀ r ∈ rs, 0 ≤ r ∧ r ≤ 1000 := by
  unfold mkB
  simp only [Bool.and_eq_true, inB_iff, rtB_iff, decide_eq_true_iff]
  constructor
  · rintro ⟨⟨⟨a, b⟩, c⟩, d⟩; exact ⟨a, b, c, d⟩
  · rintro ⟨a, b, c, d⟩; exact ⟨⟨⟨a, b⟩, c⟩, d⟩

theorem mkB_no {f L : Int} {rs : List Int} (h : mkB f L rs = true → False) : mkB f L rs = false := by
  rw [Bool.eq_false_iff]; exact h

def MkPost (f L : Int) (rs : List Int) (w : World) (e : Ending) (w' : World) : Prop :=
  (mkB f L rs = true ∧ ∃ v, e = .returned (.tuple #[.agg #[.int .i64 f, v], .int .i64 0]) ∧ Made w (mkL L rs) v w') ∨
  (mkB f L rs = false ∧ e = .returned (.tuple #[.agg #[.int .i64 0, .slice none 0 0], .int .i64 2]) ∧ Below w.heap.size w w')

theorem MkPost.bad {f L : Int} {rs : List Int} {w w' : World} (h : mkB f L rs = false) (hb : Below w.heap.size w w') : MkPost f L rs w (.returned (.tuple #[.agg #[.int .i64 0, .slice none 0 0], .int .i64 2])) w' := .inr ⟨h, rfl, hb⟩

theorem two_set (w : World) (x y u v : Value) (T : TypeId) : (((w.alloc (.cells #[x, y] T)).setCell ⟨w.heap.size, 0, none⟩ u).setCell ⟨w.heap.size, 1, none⟩ v).cell? ⟨w.heap.size, 0, none⟩ = some u ∧ (((w.alloc (.cells #[x, y] T)).setCell ⟨w.heap.size, 0, none⟩ u).setCell ⟨w.heap.size, 1, none⟩ v).cell? ⟨w.heap.size, 1, none⟩ = some v := by
  constructor <;> go_simp

set_option maxRecDepth 100000 in
set_option maxHeartbeats 1000000 in
theorem mk_impl (f L : Int) (rs : List Int) (a : Option Addr) (l c : Nat) (w : World) (h : Ints w a l rs) :
    Calls Try.prog 21 #[.int .i64 f, .int .i64 L, .slice a l c] w (MkPost f L rs w) := by
  have HL := Lib.hid h.len
  have hm := h.max
  have H := Lib.hid h
  have HB0 := Lib.hid (box_b w (.cells #[.int .i64 0, .slice none 0 0] 26))
  clear h
  by_cases c1 : inB f 0 100 = true
  case neg =>
    have HR := Lib.hid (mkB_no (f := f) (L := L) (rs := rs) (fun e => c1 ((inB_iff _ _ _).2 ((mkB_iff _ _ _).1 e).1)))
    go_enter Try.func21, Try.ntmps21
    go_wp2_with (go_at_call 54; refine (within_any _ _ _ _).mono ?_; rintro e w' ⟨rfl, rfl⟩)
    exact bodyPost_ret (v := .tuple #[.agg #[.int .i64 0, .slice none 0 0], .int .i64 2]) (by simp [results, Try.results21, go_sem]) rfl (MkPost.bad HR.out HB0.out)
  by_cases c2 : inB L 1 1000000 = true
  case neg =>
    have HR := Lib.hid (mkB_no (f := f) (L := L) (rs := rs) (fun e => c2 ((inB_iff _ _ _).2 ((mkB_iff _ _ _).1 e).2.1)))
    go_enter Try.func21, Try.ntmps21
    go_wp2_with (go_at_call 54; refine (within_any _ _ _ _).mono ?_; rintro e w' ⟨rfl, rfl⟩)
    exact bodyPost_ret (v := .tuple #[.agg #[.int .i64 0, .slice none 0 0], .int .i64 2]) (by simp [results, Try.results21, go_sem]) rfl (MkPost.bad HR.out HB0.out)
  obtain ⟨f0, f1⟩ := (inB_iff _ _ _).1 c1
  obtain ⟨l0, l1⟩ := (inB_iff _ _ _).1 c2
  by_cases c3 : (l : Int) ≤ 118 ∧ (l : Int) ≤ 149 - f
  case neg =>
    have HR := Lib.hid (mkB_no (f := f) (L := L) (rs := rs) (fun e => c3 (by have := ((mkB_iff _ _ _).1 e).2.2.1; rw [HL.out] at this; omega)))
    by_cases h118 : 118 ≤ 149 - f
    · have c4 : (118 : Int) < l := by omega
      clear c3
      go_enter Try.func21, Try.ntmps21
      go_wp2_with (go_at_call 54; refine (within_any _ _ _ _).mono ?_; rintro e w' ⟨rfl, rfl⟩)
      exact bodyPost_ret (v := .tuple #[.agg #[.int .i64 0, .slice none 0 0], .int .i64 2]) (by simp [results, Try.results21, go_sem]) rfl (MkPost.bad HR.out HB0.out)
    · have c4 : 149 - f < (l : Int) := by omega
      have h118' : 149 - f < 118 := by omega
      clear c3 h118
      go_enter Try.func21, Try.ntmps21
      go_wp2_with (go_at_call 54; refine (within_any _ _ _ _).mono ?_; rintro e w' ⟨rfl, rfl⟩)
      exact bodyPost_ret (v := .tuple #[.agg #[.int .i64 0, .slice none 0 0], .int .i64 2]) (by simp [results, Try.results21, go_sem]) rfl (MkPost.bad HR.out HB0.out)
  obtain ⟨c4, c5⟩ := c3
  have h118 : 118 ≤ 149 - f ∨ 149 - f < 118 := by omega
  have HCW : Hid (∀ k, k < l → ∃ b off, a = some ⟨b, off, none⟩ ∧ b < w.heap.size ∧ (w.alloc (.cells #[.int .i64 0, .slice none 0 0] 26)).cell? ⟨b, off + k, none⟩ = some (.int .i64 (rs.getD k 0))) := Lib.hid (fun k hk => by
    obtain ⟨b, off, rfl, hb, hc⟩ := H.out.at (by omega)
    exact ⟨b, off, rfl, hb, (HB0.out.cell (p := ⟨b, off + k, none⟩) hb).trans (hc k hk)⟩)
  have HGD : Hid ((∀ j, j < l → inB (rs.getD j 0) 0 1000 = true) → ∀ r ∈ rs, 0 ≤ r ∧ r ≤ 1000) := Lib.hid (fun hh r hr => by
    obtain ⟨i, hi, rfl⟩ := List.getElem_of_mem hr
    have := hh i (by rw [← HL.out]; exact hi)
    rw [List.getD_eq_getElem?_getD, List.getElem?_eq_getElem hi] at this
    exact (inB_iff _ _ _).1 this)
  have HBD : Hid (∀ k, k < l → ¬ inB (rs.getD k 0) 0 1000 = true → mkB f L rs = false) := Lib.hid (fun k hk hh => mkB_no (fun e => hh (by
    have := ((mkB_iff _ _ _).1 e).2.2.2 (rs.getD k 0) (by rw [List.getD_eq_getElem?_getD, List.getElem?_eq_getElem (by rw [HL.out]; exact hk)]; exact List.getElem_mem _)
    exact (inB_iff _ _ _).2 this)))
  rcases h118 with h118 | h118
  all_goals
    go_enter Try.func21, Try.ntmps21
    go_wp2_with (go_at_call 54; refine (within_any _ _ _ _).mono ?_; rintro e w' ⟨rfl, rfl⟩)
    go_loop [28] (fun i => ∃ k : Nat, k ≤ l ∧ i = .int .i64 k ∧ Hid (∀ j, j < k → inB (rs.getD j 0) 0 1000 = true)) (fun i => l - (intOf i).toNat)
    case atStart => exact ⟨0, Nat.zero_le _, rfl, Lib.hid (fun j hj => by omega)⟩
    case round =>
      obtain ⟨k, hk, rfl, HK⟩ := hrel
      by_cases hlt : k < l
      · obtain ⟨b, off, rfl, hb, hx⟩ := HCW.out k hlt
        obtain ⟨r, hr0⟩ : ∃ r, rs.getD k 0 = r := ⟨_, rfl⟩
        rw [hr0] at hx
        have HX := Lib.hid hr0
        clear hr0
        by_cases hin : inB r 0 1000 = true
        · go_wp2_with (go_at_call 54; refine (within_any _ _ _ _).mono ?_; rintro e w' ⟨rfl, rfl⟩)
          go_round
          case rel => exact ⟨k + 1, by omega, by go_num, Lib.hid (fun j hj => by
            by_cases e : j = k
            · subst e; rw [HX.out]; exact hin
            · exact HK.out j (by omega))⟩
          case measure => simp [intOf]; omega
        · have HR := Lib.hid (HBD.out k hlt (by rw [HX.out]; exact hin))
          go_wp2_with (go_at_call 54; refine (within_any _ _ _ _).mono ?_; rintro e w' ⟨rfl, rfl⟩)
          exact bodyPost_ret (v := .tuple #[.agg #[.int .i64 0, .slice none 0 0], .int .i64 2]) (by simp [results, Try.results21, go_sem]) rfl (MkPost.bad HR.out HB0.out)
      · obtain rfl : k = l := by omega
        have HRR := Lib.hid (HGD.out HK.out)
        have HMB : Hid (mkB f L rs = true) := Lib.hid ((mkB_iff _ _ _).2 ⟨⟨f0, f1⟩, ⟨l0, l1⟩, by rw [HL.out]; omega, HRR.out⟩)
        go_wp2_with fail
        refine (lr_impl L rs _ _ _ _ (H.out.on HB0.out) (by omega) l0 l1 HRR.out).mono ?_
        rintro e w1 ⟨v, rfl, g, cc, rfl, hgc, hg, hrow, hb⟩
        have hg0 : w.heap.size + 1 ≤ g := by simpa using hg
        have hc0 : w1.cell? ⟨w.heap.size, 0, none⟩ = some (.int .i64 0) := (hb.cell (p := ⟨w.heap.size, 0, none⟩) (by simp)).trans (by go_simp)
        have hc1 : w1.cell? ⟨w.heap.size, 1, none⟩ = some (.slice none 0 0) := (hb.cell (p := ⟨w.heap.size, 1, none⟩) (by simp)).trans (by go_simp)
        have hf0 : w1.frozen? ⟨w.heap.size, 0, none⟩ = false := (hb.frozen (p := ⟨w.heap.size, 0, none⟩) (by simp)).trans (by go_simp)
        have hf1 : w1.frozen? ⟨w.heap.size, 1, none⟩ = false := (hb.frozen (p := ⟨w.heap.size, 1, none⟩) (by simp)).trans (by go_simp)
        have HROW := Lib.hid hrow
        have HB1 := Lib.hid (HB0.out.trans (hb.mono (by simp)))
        obtain ⟨n, hn⟩ : ∃ n, (mkL L rs).length = n := ⟨_, rfl⟩
        rw [hn] at hgc
        have HN := Lib.hid hn
        rw [hn]
        clear hrow hb hg hn
        go_wp2_with fail
        refine bodyPost_ret (v := .tuple #[.agg #[.int .i64 f, .slice (some ⟨g, 0, none⟩) n cc], .int .i64 0]) (by simp [results, Try.results21, go_sem, hc0, hc1]) rfl (.inl ⟨HMB.out, _, rfl, g, cc, by rw [HN.out], by rw [HN.out]; exact hgc, by omega, ?_, ?_⟩)
        · exact HROW.out.only (((Only.refl w.heap.size w1).setCell (p := ⟨w.heap.size, 0, none⟩) rfl _).setCell (p := ⟨w.heap.size, 1, none⟩) rfl _) (by omega)
        · exact (HB1.out.setCell (p := ⟨w.heap.size, 0, none⟩) (Nat.le_refl _) _).setCell (p := ⟨w.heap.size, 1, none⟩) (Nat.le_refl _) _

end Go.Proofs.Ytonkaoacohocjaa
