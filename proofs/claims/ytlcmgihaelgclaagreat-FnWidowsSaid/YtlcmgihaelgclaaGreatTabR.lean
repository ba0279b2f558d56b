/- The law on made tables. -/
import Derived.Test.YtlcmgihaelgclaaGreatTabQ
import Derived.Test.YtlcmgihaelgclaaGreatTabE
namespace Go.Proofs.YtlcmgihaelgclaaGreat
open Go.ChangeShapes Go.WideShapes Go.ChangeAt Go.RowKit
set_option linter.unusedVariables false

theorem bigT_any (a : Option Addr) (l c : Nat) (w : World) : Calls Tryz.prog 4 #[.slice a l c] w fun e w' => e = .returned (.bool (decide (4096 < (l : Int)))) ∧ w = w' := by
  go_enter Tryz.func4, Tryz.ntmps4
  go_wp2
  go_ret
  exact ⟨rfl, rfl⟩

def TbC (F : Int) (ys : List Int) (E : Int) (w : World) (e : Ending) (w' : World) : Prop :=
  ∃ a n c, e = .returned (.tuple #[.agg #[.int .i64 F, .slice a n c], .int .i64 E]) ∧ Ints w' a n ys ∧ n ≤ c ∧ Below w.heap.size w w'

theorem mk_tc {f L : Int} {rs : List Int} {w : World} {e : Ending} {w' : World} (h : MkPost f L rs w e w') : TbC (mkF f L rs) (mkY f L rs) (mkE f L rs) w e w' := by
  rcases h with ⟨hm, v, rfl, g, c, rfl, hc, hg, hr, hb⟩ | ⟨hm, rfl, hb⟩
  · have hl := ((mkB_iff _ _ _).1 hm).2.2.1.1
    have hn := mkL_len rs L
    have e1 : mkY f L rs = mkL L rs := by simp [mkY, hm]
    refine ⟨some ⟨g, 0, none⟩, (mkL L rs).length, c, by simp [mkF, mkE, hm], ?_, hc, hb⟩
    rw [e1]
    exact hr.ints rfl (by omega)
  · exact ⟨none, 0, 0, by simp [mkF, mkE, hm], ⟨by simp [mkY, hm], by omega, .inl rfl⟩, Nat.le_refl _, hb⟩

/-- what the law needs to know of a table that is made of L and rs -/
structure MadeOf (f : Int) (rs ys : List Int) : Prop where
  tab : LTab f ys
  few : rs.length ≤ 118
  rate : ∀ i, i < rs.length → 0 ≤ rs.getD i 0 ∧ rs.getD i 0 ≤ 1000
  dead : ∀ i, i < rs.length → 0 < ys.getD i 0 → ys.getD i 0 - ys.getD (i + 1) 0 = up1000 (ys.getD i 0 * rs.getD i 0)

theorem madeOf {f L : Int} {rs : List Int} (h : mkB f L rs = true) : MadeOf f rs (mkL L rs) := by
  obtain ⟨⟨f0, f1⟩, ⟨l0, l1⟩, ⟨h118, h149⟩, hr⟩ := (mkB_iff _ _ _).1 h
  refine ⟨mkL_tab f L rs f0 f1 l0 l1 h118 h149 hr, h118, fun i hi => ?_, mkL_deaths rs L⟩
  exact hr _ (by rw [List.getD_eq_getElem?_getD, List.getElem?_eq_getElem hi]; exact List.getElem_mem _)

/-- the deaths at the k-th age -/
theorem MadeOf.at {f : Int} {rs ys : List Int} (h : MadeOf f rs ys) (k : Nat) (hk : k < rs.length) (hp : 0 < ys.getD k 0) : ageE f ys (f + k) = 0 ∧ daV f ys (f + k) = duV (ys.getD k 0 * rs.getD k 0) 1000 ∧ ddE (ys.getD k 0 * rs.getD k 0) 1000 = 0 ∧ k + 1 < ys.length ∧
    0 ≤ ys.getD k 0 * rs.getD k 0 ∧ ys.getD k 0 * rs.getD k 0 ≤ 1000000000 := by
  have hk1 : k + 1 < ys.length := by
    by_cases hh : k + 1 < ys.length
    · exact hh
    · rw [h.tab.last k (by omega)] at hp; omega
  have t3 := h.tab.2.2.1
  have f0 := h.tab.1.1
  have ha : ageE f ys (f + k) = 0 := ageE_iff.2 ⟨h.tab, by omega, by omega⟩
  obtain ⟨r0, r1⟩ := h.rate k hk
  obtain ⟨m0, m1⟩ := mul_bd (ys.getD k 0) (rs.getD k 0) (by omega) (h.tab.le k) r0 r1
  refine ⟨ha, ?_, ?_, hk1, m0, m1⟩
  · rw [daV_0 ha, du_1000 _ m0 m1, ← h.dead k hk hp]
    unfold lvs
    congr 2 <;> congr 1 <;> omega
  · have : ddB (ys.getD k 0 * rs.getD k 0) 1000 = true := (ddB_iff _ _).2 (by omega)
    unfold ddE; rw [this]; rfl

end Go.Proofs.YtlcmgihaelgclaaGreat
