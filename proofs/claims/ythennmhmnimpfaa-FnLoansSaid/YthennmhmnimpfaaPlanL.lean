/- The exact law on LoanPlan: the program answers as its model, what it hands over is its own. -/
import Derived.Test.YthennmhmnimpfaaPlan
import Derived.Test.YthennmhmnimpfaaRowI
import Derived.Test.YthennmhmnimpfaaSumLaw
namespace Go.Proofs.Ythennmhmnimpfaa
open Go.ChangeShapes Go.WideShapes Go.ChangeAt Go.RowKit
set_option linter.unusedVariables false
set_option maxRecDepth 100000

/-- the list that LoanPlan answers: nil if there is none -/
def plY (a r n : Int) : List Int := if plOk a r n then plan (lpV a r n) r a (planN (lpV a r n) r a) else []

theorem planN_le (p r a : Int) : planN p r a ≤ 120 := by have := (lst_le (fun k => decide (bal p r a k ≤ 0)) 120 0).2; simpa [planN] using this

theorem pl_ls {a r n : Int} {w : World} {e : Ending} {w' : World} (h : PlanPost a r n w e w') : LsPost (plY a r n) (plE a r n) w e w' := by
  rcases h with ⟨hok, rfl, hb⟩ | ⟨hok, g, c, rfl, hown, hb⟩
  · exact ⟨none, 0, 0, rfl, ⟨by simp [plY, hok], by omega, .inl ⟨rfl, rfl⟩⟩, hb⟩
  · have hl : lnB a r n = true := by unfold plOk at hok; rw [Bool.and_eq_true] at hok; exact hok.1
    have hy : plY a r n = plan (lpV a r n) r a (planN (lpV a r n) r a) := by simp [plY, hok]
    have he : plE a r n = 0 := by simp [plE, hok, hl]
    have hN := planN_le (lpV a r n) r a
    rw [LsPost, hy, he]
    refine ⟨_, _, c, rfl, ⟨plan_len _ _ _ _, by omega, .inr ⟨g, 0, rfl, (hown.lt g rfl).1, (hown.lt g rfl).2, ?_⟩⟩, hb⟩
    have := plan_len (lpV a r n) r a (planN (lpV a r n) r a)
    refine OwnI.row (base := w.heap.size) (c := c) ?_
    rw [this]
    exact hown

set_option maxHeartbeats 1000000 in
theorem fnExactLoanPlan_walk (a0 : Int) (a1 : Int) (a2 : Int) (w0 : (Lit.int .i64 a0).wf = true) (w1 : (Lit.int .i64 a1).wf = true) (w2 : (Lit.int .i64 a2).wf = true) (w : World) :
    Calls Try.prog 11 #[.int .i64 a0, .int .i64 a1, .int .i64 a2] w fun e w' => e = .returned (.bool true) ∧ Below w.heap.size w w' := by
  obtain ⟨Y, hY⟩ : ∃ Y, plY a0 a1 a2 = Y := ⟨_, rfl⟩
  obtain ⟨E, hE⟩ : ∃ E, plE a0 a1 a2 = E := ⟨_, rfl⟩
  have CS : Hid (∀ (W : World), Calls Try.prog 26 #[.int .i64 a0, .int .i64 a1, .int .i64 a2] W (LsPost Y E W)) := Lib.hid (fun W => (pl_spec a0 a1 a2 W).mono fun e w' hh => by have := pl_ls hh; rw [hY, hE] at this; exact this)
  have CI : Hid (∀ (W : World), Calls Try.prog 25 #[.int .i64 a0, .int .i64 a1, .int .i64 a2] W (LsPost Y E W)) := Lib.hid (fun W => (pl_impl a0 a1 a2 W).mono fun e w' hh => by have := pl_ls hh; rw [hY, hE] at this; exact this)
  clear hY hE w0 w1 w2
  go_enter Try.func11, Try.ntmps11
  go_wp2_with fail
  refine (CS.out _).mono ?_
  rintro e w2 ⟨sa, sn, sc, rfl, hT, hb⟩
  have HB2 := Lib.hid hb
  have HS2 := Lib.hid hT.ints
  have HSA := Lib.hid hT.far
  clear hb hT
  go_wp2_with fail
  refine (CI.out _).mono ?_
  rintro e w3 ⟨ga, gn, gc, rfl, hT, hb⟩
  have hgn : gn ≤ 4096 := hT.2.1
  have HB3 := Lib.hid (HB2.out.trans (hb.mono HB2.out.size))
  have HS3 := Lib.hid (HS2.out.step hb)
  have HG3 := Lib.hid hT
  have HZ3 := Lib.hid HB2.out.size
  clear hb hT
  go_wp2_with fail
  refine (eqS_any Y Y _ _ _ _ _ _ _ HG3.out.ints HS3.out).mono ?_
  rintro e w4 ⟨rfl, n4, rfl⟩
  have HB4 := Lib.hid (below_drewN HB3.out n4)
  have HS4 := Lib.hid (HS3.out.drewN n4)
  have HG4 := Lib.hid (HG3.out.on (below_drewN (Below.refl _ _) n4))
  obtain ⟨w4, hw4⟩ : ∃ x, x = w3.drewN n4 := ⟨_, rfl⟩
  rw [← hw4] at HB4 HS4 HG4 ⊢
  clear hw4
  go_wp2_with fail
  refine (markI_any Y _ _ _ _ 1 _ HG4.out (by omega) (by omega)).mono ?_
  rintro e w5 ⟨rfl, hT, hbut⟩
  have HB5 := Lib.hid (HB4.out.trans (hbut.low (fun x hx => Nat.le_trans HZ3.out (HG4.out.far x hx).1) HB4.out.size))
  have HS5 := Lib.hid (HS4.out.butA hbut (fun x y hx hy => by have h1 := (HSA.out x hx).2; have h2 := (HG4.out.far y hy).1; omega))
  have HG5 := Lib.hid hT
  clear hT hbut
  go_wp2_with (go_at_call 43; refine (held_any _ _ _ _ _ HG5.out.ints (by omega) (by omega) (by omega)).mono ?_; rintro e w' ⟨rfl, rfl⟩)
  refine (CI.out _).mono ?_
  rintro e w6 ⟨ha, hn, hc, rfl, hT, hb⟩
  have HB6 := Lib.hid (HB5.out.trans (hb.mono HB5.out.size))
  have HS6 := Lib.hid (HS5.out.step hb)
  have HG6 := Lib.hid (HG5.out.on hb)
  have HH6 := Lib.hid hT.ints
  clear hb hT
  go_wp2_with fail
  refine (eqS_any Y Y _ _ _ _ _ _ _ HH6.out HS6.out).mono ?_
  rintro e w7 ⟨rfl, n7, rfl⟩
  have HB7 := Lib.hid (below_drewN HB6.out n7)
  have HG7 := Lib.hid (HG6.out.on (below_drewN (Below.refl _ _) n7))
  obtain ⟨w7, hw7⟩ : ∃ x, x = w6.drewN n7 := ⟨_, rfl⟩
  rw [← hw7] at HB7 HG7 ⊢
  clear hw7
  go_wp2_with (go_at_call 43; refine (held_any _ _ _ _ _ HG7.out.ints (by omega) (by omega) (by omega)).mono ?_; rintro e w' ⟨rfl, rfl⟩)
  go_ret
  exact ⟨rfl, HB7.out⟩

end Go.Proofs.Ythennmhmnimpfaa
