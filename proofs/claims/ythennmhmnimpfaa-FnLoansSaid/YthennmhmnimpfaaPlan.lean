/- LoanPlan of the program and of its model: one Lean function for both. -/
import Derived.Test.YthennmhmnimpfaaLoan
import Derived.Test.YthennmhmnimpfaaRates
import Derived.Test.YthennmhmnimpfaaApp
namespace Go.Proofs.Ythennmhmnimpfaa
open Go.ChangeShapes Go.WideShapes Go.ChangeAt Go.RowKit
set_option linter.unusedVariables false
set_option maxRecDepth 100000

/-- a balance with the interest of a year, rounded up -/
def due (r b : Int) : Int := b + -(-(b * r) / 1000)

/-- the balance of a loan after k years -/
def bal (p r a : Int) : Nat → Int
  | 0 => a
  | k + 1 => due r (bal p r a k) - min p (due r (bal p r a k))

/-- what is paid in the first n years -/
def plan (p r a : Int) (n : Nat) : List Int := (List.range n).map fun k => min p (due r (bal p r a k))

theorem plan_len (p r a : Int) (n : Nat) : (plan p r a n).length = n := by simp [plan]

theorem plan_snoc (p r a : Int) (n : Nat) : plan p r a (n + 1) = plan p r a n ++ [min p (due r (bal p r a n))] := by simp [plan, List.range_succ]

theorem plan_get (p r a : Int) (n k : Nat) (h : k < n) : (plan p r a n).getD k 0 = min p (due r (bal p r a k)) := by simp [plan, List.getD, h]

theorem due_bd (p r a b : Int) (r0 : 0 ≤ r) (hp : a * r ≤ p * 1000) (b0 : 0 ≤ b) (b1 : b ≤ a) : b ≤ due r b ∧ due r b ≤ b + p ∧ 0 ≤ b * r ∧ b * r ≤ p * 1000 := by
  have h1 := Int.mul_le_mul_of_nonneg_right b1 r0
  have h0 := Int.mul_nonneg b0 r0
  unfold due
  omega

theorem bal_bd (p r a : Int) (r0 : 0 ≤ r) (hp : a * r ≤ p * 1000) (p1 : 1 ≤ p) (a0 : 0 ≤ a) (k : Nat) : 0 ≤ bal p r a k ∧ bal p r a k ≤ a := by
  induction k with
  | zero => simp [bal]; exact a0
  | succ k ih =>
    obtain ⟨h1, h2, -, -⟩ := due_bd p r a _ r0 hp ih.1 ih.2
    rw [bal]
    omega

/-- after how many years the balance is 0, at most 120 -/
def planN (p r a : Int) : Nat := lst (fun k => decide (bal p r a k ≤ 0)) 120 0

def plOk (a r n : Int) : Bool := lnB a r n && decide (bal (lpV a r n) r a (planN (lpV a r n) r a) ≤ 0)

def plE (a r n : Int) : Int := if lnB a r n then (if plOk a r n then 0 else 3) else 2

/-- a step, told for the walks -/
theorem plan_step (p r a : Int) (r0 : 0 ≤ r) (r1 : r ≤ 200) (hp : a * r ≤ p * 1000) (p1 : 1 ≤ p) (p2 : p ≤ 100000000000000000) (a0 : 0 ≤ a) (a1 : a ≤ 100000000) (k : Nat) :
    ∃ b d : Int, bal p r a k = b ∧ due r b = d ∧ bal p r a (k + 1) = d - min p d ∧ (∀ n, plan p r a n = plan p r a n) ∧ 0 ≤ b ∧ b ≤ 100000000 ∧ b ≤ d ∧ d ≤ 200000000 ∧ 0 ≤ b * r ∧ b * r ≤ 20000000000 ∧ plan p r a (k + 1) = plan p r a k ++ [min p d] ∧ d = b + -(-(b * r) / 1000) := by
  obtain ⟨b0, b1⟩ := bal_bd p r a r0 hp p1 a0 k
  obtain ⟨h1, h2, h3, h4⟩ := due_bd p r a _ r0 hp b0 b1
  have h5 : bal p r a k * r ≤ 100000000 * 200 := Int.le_trans (Int.mul_le_mul_of_nonneg_right (show bal p r a k ≤ 100000000 by omega) r0) (Int.mul_le_mul_of_nonneg_left r1 (by omega))
  refine ⟨_, _, rfl, rfl, rfl, fun _ => rfl, b0, by omega, h1, ?_, h3, by omega, plan_snoc _ _ _ _, rfl⟩
  unfold due
  omega

/-- what a call of LoanPlan leaves: nothing, or a list of its own -/
def PlanPost (a r n : Int) (w : World) (e : Ending) (w' : World) : Prop :=
  (plOk a r n = false ∧ e = .returned (.tuple #[.slice none 0 0, .int .i64 (plE a r n)]) ∧ Below w.heap.size w w') ∨
  (plOk a r n = true ∧ ∃ g c, e = .returned (.tuple #[.slice (some ⟨g, 0, none⟩) (planN (lpV a r n) r a) c, .int .i64 0]) ∧ OwnI w.heap.size w' (.slice (some ⟨g, 0, none⟩) (planN (lpV a r n) r a) c) (plan (lpV a r n) r a (planN (lpV a r n) r a)) ∧ Below w.heap.size w w')

theorem one_newP (w : World) (x : Int) : ∀ j u, [Value.int .i64 x][j]? = some u → (w.alloc (.cells #[.int .i64 x] 2)).cell? ((⟨w.heap.size, 0, none⟩ : Addr).add j) = some u := by
  intro j u hj
  match j, hj with
  | 0, hj => simp at hj; subst hj; simp [Addr.add]

/-- a list of the call's own that is not nil -/
def Lst (base : Nat) (w : World) (v : Value) (xs : List Int) : Prop := ∃ g c, v = .slice (some ⟨g, 0, none⟩) xs.length c ∧ OwnI base w v xs

theorem ret_eq2 {a b : Int} (h : a = b) : Value.int .i64 a = .int .i64 b := by rw [h]

theorem own_shape {base : Nat} {w : World} {v : Value} {xs : List Int} (h : OwnI base w v xs) (hn : v.ownBlock ≠ none) : ∃ g cap, v = .slice (some ⟨g, 0, none⟩) xs.length cap := by
  rcases h.2 with ⟨rfl, -⟩ | ⟨g, cap, cur, rfl, -⟩
  · exact absurd rfl hn
  · exact ⟨g, cap, rfl⟩

theorem ret_si {a b : Int} (h : a = b) : Ending.returned (.tuple #[.slice none 0 0, .int .i64 a]) = .returned (.tuple #[.slice none 0 0, .int .i64 b]) := by rw [h]

theorem pl_impl (a r n : Int) (w : World) : Calls Try.prog 25 #[.int .i64 a, .int .i64 r, .int .i64 n] w (PlanPost a r n w) := by
  by_cases h : lnB a r n = true
  · obtain ⟨⟨a1, a2⟩, ⟨r0, r1⟩, ⟨n1, n2⟩⟩ := (lnB_iff _ _ _).1 h
    have hp : 1 ≤ lpV a r n ∧ lpV a r n ≤ 100000000000000000 ∧ a * r ≤ lpV a r n * 1000 := by
      have := pay_bd a r n.toNat a1 a2 r0 r1 (by omega)
      simpa [lpV, h] using this
    have he : lpE a r n = 0 := by simp [lpE, h]
    have hc := lp_impl a r n w
    obtain ⟨p, hpv⟩ : ∃ p, lpV a r n = p := ⟨_, rfl⟩
    rw [he, hpv] at hc
    have hok : plOk a r n = decide (bal p r a (planN p r a) ≤ 0) := by simp [plOk, h, hpv]
    have hpe : plE a r n = if plOk a r n then 0 else 3 := by simp [plE, h]
    unfold PlanPost
    rw [hpv] at hp ⊢
    obtain ⟨p1, p2, p3⟩ := hp
    have HOK := Lib.hid hok
    have HPE := Lib.hid hpe
    have HP3 := Lib.hid p3
    obtain ⟨N, hN⟩ : ∃ N, planN p r a = N := ⟨_, rfl⟩
    rw [hN] at HOK ⊢
    have HN := Lib.hid hN
    clear hok hpe p3 hN h he hpv
    go_enter Try.func25, Try.ntmps25
    go_wp2_with fail
    refine hc.mono ?_
    rintro e w1 ⟨rfl, hb⟩
    have HB1 := Lib.hid hb
    clear hb hc
    go_wp2_with fail
    have HL0 : Hid (Lst w.heap.size (w1.alloc (.cells #[] 2)) (.slice (some ⟨w1.heap.size, 0, none⟩) 0 0) []) := Lib.hid ⟨_, _, rfl, (ownI_new w1).mono HB1.out.size⟩
    have HB2 : Hid (Below w.heap.size w (w1.alloc (.cells #[] 2))) := Lib.hid (HB1.out.alloc HB1.out.size _)
    go_loopw [11, 10] (fun u v wr => ∃ k : Nat, k ≤ 120 ∧ u = .int .i64 (bal p r a k) ∧ Hid (Lst w.heap.size wr v (plan p r a k)) ∧ Hid (Below w.heap.size w wr) ∧ Hid (lst (fun k => decide (bal p r a k ≤ 0)) (120 - k) k = N)) (fun _ v _ => match v with | .slice _ l _ => 120 - l | _ => 0)
    case atStart => exact ⟨0, by omega, rfl, by simpa [plan] using HL0, HB2, HN⟩
    case round =>
      obtain ⟨k, hk, rfl, HL, HB, HM⟩ := hrel
      obtain ⟨g, c, rfl, hown⟩ := HL.out
      rw [plan_len] at hown ⊢
      obtain ⟨b, d, hb, hd, hbn, -, b0, b1, b2, d1, m0, m1, hpl, hde⟩ := plan_step p r a r0 r1 HP3.out p1 p2 (by omega) a2 k
      rw [hb]
      have HBk := Lib.hid hb
      have HBN := Lib.hid hbn
      have HPL := Lib.hid hpl
      have HDE := Lib.hid hde
      clear hb hd hbn hpl HL hde
      by_cases hz : 0 < b
      · by_cases hk2 : k = 120
        · subst hk2
          go_wp2_with fail
          go_ret2
          have e1 : N = 120 := by have := HM.out; simp [lst] at this; exact this.symm
          have e2 := HBk.out
          have e3 : plOk a r n = false := by rw [HOK.out, e1, e2]; simp; omega
          exact .inl ⟨e3, ret_si (by rw [HPE.out, e3]; rfl), HB.out⟩
        · have hk3 : k < 120 := by omega
          have HM2 : Hid (lst (fun k => decide (bal p r a k ≤ 0)) (120 - (k + 1)) (k + 1) = N) := Lib.hid (by
            have := HM.out
            rw [show 120 - k = 120 - (k + 1) + 1 by omega] at this
            exact lst_next this (by have := HBk.out; simp [this]; omega))
          have hup := fun W => partUp_any b r 1000 W (by omega) (by omega) r0 (by omega) (by omega)
          obtain ⟨y, hy⟩ : ∃ y, -(-(b * r) / 1000) = y := ⟨_, rfl⟩
          simp only [Int.neg_mul, hy] at hup
          have hdy : d = b + y := by rw [← hy]; exact HDE.out
          have HUP := Lib.hid hup
          subst hdy
          clear hup hk2 hy m0 m1
          obtain ⟨t, ht⟩ : ∃ t, min p (b + y) = t := ⟨_, rfl⟩
          rw [ht] at HBN HPL
          have ht2 : t ≤ p := by omega
          have ht3 : t ≤ b + y := by omega
          have HT := Lib.hid ht
          have HL1 : Hid ((plan p r a k).length ≤ 4096) := Lib.hid (by rw [plan_len]; omega)
          clear ht
          go_wp2_with fail
          refine (HUP.out _).mono ?_
          rintro e w3 ⟨rfl, rfl⟩
          by_cases hle : p ≤ b + y
          · obtain rfl : t = p := by have := HT.out; omega
            have hbs := HB.out.size
            go_wp2_with (at_builtin; refine wpList_app rfl _ _ rfl w.heap.size _ (plan t r a k) t rfl (hown.same (fun k hk hl => Below.heap_alloc _ _ _ hl)) ⟨wr.heap.size, 0, none⟩ rfl (one_newP wr t) HL1.out (by simp; omega) ?_)
            intro v' w5 hown' hgrow hw
            have HB5 := Lib.hid ((HB.out.alloc hbs _).grown hgrow (by simp; omega) (fun k hk => (hown.lt k hk).1))
            obtain ⟨g2, c2, rfl⟩ := own_shape hown' (by rcases hw with e | e <;> rw [e] <;> simp [Value.ownBlock])
            have HL5 : Hid (Lst w.heap.size w5 (.slice (some ⟨g2, 0, none⟩) (plan t r a k ++ [t]).length c2) (plan t r a k ++ [t])) := Lib.hid ⟨_, _, rfl, hown'⟩
            rw [← HPL.out, plan_len] at HL5
            rw [← HPL.out, plan_len]
            clear hown' hgrow hown hw
            go_wp2_with fail
            go_roundw
            case rel => exact ⟨k + 1, by omega, by first | (rw [HBN.out]; done) | (rw [HBN.out]; exact ret_eq2 (by omega)), HL5, HB5, HM2⟩
            case measure => simp; omega
          · obtain rfl : t = b + y := by have := HT.out; omega
            have hbs := HB.out.size
            go_wp2_with (at_builtin; refine wpList_app rfl _ _ rfl w.heap.size _ (plan p r a k) (b + y) rfl (hown.same (fun k hk hl => Below.heap_alloc _ _ _ hl)) ⟨wr.heap.size, 0, none⟩ rfl (one_newP wr (b + y)) HL1.out (by simp; omega) ?_)
            intro v' w5 hown' hgrow hw
            have HB5 := Lib.hid ((HB.out.alloc hbs _).grown hgrow (by simp; omega) (fun k hk => (hown.lt k hk).1))
            obtain ⟨g2, c2, rfl⟩ := own_shape hown' (by rcases hw with e | e <;> rw [e] <;> simp [Value.ownBlock])
            have HL5 : Hid (Lst w.heap.size w5 (.slice (some ⟨g2, 0, none⟩) (plan p r a k ++ [b + y]).length c2) (plan p r a k ++ [b + y])) := Lib.hid ⟨_, _, rfl, hown'⟩
            rw [← HPL.out, plan_len] at HL5
            rw [← HPL.out, plan_len]
            clear hown' hgrow hown hw
            go_wp2_with fail
            go_roundw
            case rel => exact ⟨k + 1, by omega, by first | (rw [HBN.out]; done) | (rw [HBN.out]; exact ret_eq2 (by omega)), HL5, HB5, HM2⟩
            case measure => simp; omega
      · go_wp2_with fail
        go_ret2
        have e1 : N = k := by
          have := HM.out
          by_cases hk2 : k = 120
          · subst hk2; simp [lst] at this; exact this.symm
          · rw [show 120 - k = 119 - k + 1 by omega] at this
            exact (lst_here this (by have := HBk.out; simp [this]; omega)).symm
        have e2 := HBk.out
        have e3 : plOk a r n = true := by rw [HOK.out, e1, e2]; simp; omega
        rw [e1]
        exact .inr ⟨e3, g, c, rfl, hown, HB.out⟩
  · go_enter Try.func25, Try.ntmps25
    go_wp2_with fail
    refine (lp_impl a r n w).mono ?_
    rintro e w1 ⟨rfl, hb⟩
    have HB := Lib.hid hb
    have he : lpE a r n = 2 := by simp [lpE, h]
    rw [he]
    clear hb
    go_wp2_with fail
    go_ret2
    have e3 : plOk a r n = false := by simp [plOk, h]
    exact .inl ⟨e3, ret_si (by simp [plE, h]), HB.out⟩

theorem pl_spec (a r n : Int) (w : World) : Calls Try.prog 26 #[.int .i64 a, .int .i64 r, .int .i64 n] w (PlanPost a r n w) := by
  by_cases h : lnB a r n = true
  · obtain ⟨⟨a1, a2⟩, ⟨r0, r1⟩, ⟨n1, n2⟩⟩ := (lnB_iff _ _ _).1 h
    have hp : 1 ≤ lpV a r n ∧ lpV a r n ≤ 100000000000000000 ∧ a * r ≤ lpV a r n * 1000 := by
      have := pay_bd a r n.toNat a1 a2 r0 r1 (by omega)
      simpa [lpV, h] using this
    obtain ⟨m, rfl⟩ : ∃ m : Nat, n = m := ⟨n.toNat, by omega⟩
    have hc := fun W => spay_any a r m W a1 a2 r0 r1 (by omega) (by omega)
    have hpp : pay a r m = lpV a r m := by simp [lpV, h]
    simp only [hpp] at hc
    have hln : lnB a r m = true := h
    obtain ⟨p, hpv⟩ : ∃ p, lpV a r m = p := ⟨_, rfl⟩
    simp only [hpv] at hc
    clear hpp
    obtain ⟨n, hn⟩ : ∃ n : Int, (m : Int) = n := ⟨_, rfl⟩
    rw [hn] at h hp n1 n2 hc hln hpv ⊢
    clear hn
    have hok : plOk a r n = decide (bal p r a (planN p r a) ≤ 0) := by simp [plOk, h, hpv]
    have hpe : plE a r n = if plOk a r n then 0 else 3 := by simp [plE, h]
    unfold PlanPost
    rw [hpv] at hp ⊢
    obtain ⟨p1, p2, p3⟩ := hp
    have HOK := Lib.hid hok
    have HPE := Lib.hid hpe
    have HP3 := Lib.hid p3
    obtain ⟨N, hN⟩ : ∃ N, planN p r a = N := ⟨_, rfl⟩
    rw [hN] at HOK ⊢
    have HN := Lib.hid hN
    have HC := Lib.hid hc
    clear hok hpe p3 hN h hpv hc
    go_enter Try.func26, Try.ntmps26
    go_wp2_with (first | (go_at_call 61; refine (sLoan_any _ _ _ _).mono ?_; rintro e w' ⟨rfl, rfl⟩) | (go_at_call 62; refine (HC.out _).mono ?_; rintro e w' ⟨rfl, rfl⟩))
    have HB1 : Hid (Below w.heap.size w w) := Lib.hid (Below.refl _ _)
    have HL0 : Hid (Lst w.heap.size (w.alloc (.cells #[] 2)) (.slice (some ⟨w.heap.size, 0, none⟩) 0 0) []) := Lib.hid ⟨_, _, rfl, ownI_new w⟩
    have HB2 : Hid (Below w.heap.size w (w.alloc (.cells #[] 2))) := Lib.hid (HB1.out.alloc HB1.out.size _)
    go_loopw [0, 9] (fun u v wr => ∃ k : Nat, k ≤ 120 ∧ u = .int .i64 (bal p r a k) ∧ Hid (Lst w.heap.size wr v (plan p r a k)) ∧ Hid (Below w.heap.size w wr) ∧ Hid (lst (fun k => decide (bal p r a k ≤ 0)) (120 - k) k = N)) (fun _ v _ => match v with | .slice _ l _ => 120 - l | _ => 0)
    case atStart => exact ⟨0, by omega, rfl, by simpa [plan] using HL0, HB2, HN⟩
    case round =>
      obtain ⟨k, hk, rfl, HL, HB, HM⟩ := hrel
      obtain ⟨g, c, rfl, hown⟩ := HL.out
      rw [plan_len] at hown ⊢
      obtain ⟨b, d, hb, hd, hbn, -, b0, b1, b2, d1, m0, m1, hpl, hde⟩ := plan_step p r a r0 r1 HP3.out p1 p2 (by omega) a2 k
      rw [hb]
      have HBk := Lib.hid hb
      have HBN := Lib.hid hbn
      have HPL := Lib.hid hpl
      have HDE := Lib.hid hde
      clear hb hd hbn hpl HL hde
      by_cases hz : 0 < b
      · by_cases hk2 : k = 120
        · subst hk2
          go_wp2_with fail
          go_ret2
          have e1 : N = 120 := by have := HM.out; simp [lst] at this; exact this.symm
          have e2 := HBk.out
          have e3 : plOk a r n = false := by rw [HOK.out, e1, e2]; simp; omega
          exact .inl ⟨e3, ret_si (by rw [HPE.out, e3]; rfl), HB.out⟩
        · have hk3 : k < 120 := by omega
          have HM2 : Hid (lst (fun k => decide (bal p r a k ≤ 0)) (120 - (k + 1)) (k + 1) = N) := Lib.hid (by
            have := HM.out
            rw [show 120 - k = 120 - (k + 1) + 1 by omega] at this
            exact lst_next this (by have := HBk.out; simp [this]; omega))
          have hup := fun W => up_any (b * r) 1000 W (by omega) (by omega) (by omega)
          obtain ⟨y, hy⟩ : ∃ y, -(-(b * r) / 1000) = y := ⟨_, rfl⟩
          simp only [hy] at hup
          have hdy : d = b + y := by rw [← hy]; exact HDE.out
          have HUP := Lib.hid hup
          subst hdy
          clear hup hk2 hy
          obtain ⟨t, ht⟩ : ∃ t, min p (b + y) = t := ⟨_, rfl⟩
          rw [ht] at HBN HPL
          have ht2 : t ≤ p := by omega
          have ht3 : t ≤ b + y := by omega
          have HT := Lib.hid ht
          have HL1 : Hid ((plan p r a k).length ≤ 4096) := Lib.hid (by rw [plan_len]; omega)
          clear ht
          go_wp2_with fail
          refine (HUP.out _).mono ?_
          rintro e w3 ⟨rfl, rfl⟩
          by_cases hle : p ≤ b + y
          · obtain rfl : t = p := by have := HT.out; omega
            have hbs := HB.out.size
            go_wp2_with (at_builtin; refine wpList_app rfl _ _ rfl w.heap.size _ (plan t r a k) t rfl (hown.same (fun k hk hl => Below.heap_alloc _ _ _ hl)) ⟨wr.heap.size, 0, none⟩ rfl (one_newP wr t) HL1.out (by simp; omega) ?_)
            intro v' w5 hown' hgrow hw
            have HB5 := Lib.hid ((HB.out.alloc hbs _).grown hgrow (by simp; omega) (fun k hk => (hown.lt k hk).1))
            obtain ⟨g2, c2, rfl⟩ := own_shape hown' (by rcases hw with e | e <;> rw [e] <;> simp [Value.ownBlock])
            have HL5 : Hid (Lst w.heap.size w5 (.slice (some ⟨g2, 0, none⟩) (plan t r a k ++ [t]).length c2) (plan t r a k ++ [t])) := Lib.hid ⟨_, _, rfl, hown'⟩
            rw [← HPL.out, plan_len] at HL5
            rw [← HPL.out, plan_len]
            clear hown' hgrow hown hw
            go_wp2_with fail
            go_roundw
            case rel => exact ⟨k + 1, by omega, by first | (rw [HBN.out]; done) | (rw [HBN.out]; exact ret_eq2 (by omega)), HL5, HB5, HM2⟩
            case measure => simp; omega
          · obtain rfl : t = b + y := by have := HT.out; omega
            have hbs := HB.out.size
            go_wp2_with (at_builtin; refine wpList_app rfl _ _ rfl w.heap.size _ (plan p r a k) (b + y) rfl (hown.same (fun k hk hl => Below.heap_alloc _ _ _ hl)) ⟨wr.heap.size, 0, none⟩ rfl (one_newP wr (b + y)) HL1.out (by simp; omega) ?_)
            intro v' w5 hown' hgrow hw
            have HB5 := Lib.hid ((HB.out.alloc hbs _).grown hgrow (by simp; omega) (fun k hk => (hown.lt k hk).1))
            obtain ⟨g2, c2, rfl⟩ := own_shape hown' (by rcases hw with e | e <;> rw [e] <;> simp [Value.ownBlock])
            have HL5 : Hid (Lst w.heap.size w5 (.slice (some ⟨g2, 0, none⟩) (plan p r a k ++ [b + y]).length c2) (plan p r a k ++ [b + y])) := Lib.hid ⟨_, _, rfl, hown'⟩
            rw [← HPL.out, plan_len] at HL5
            rw [← HPL.out, plan_len]
            clear hown' hgrow hown hw
            go_wp2_with fail
            go_roundw
            case rel => exact ⟨k + 1, by omega, by first | (rw [HBN.out]; done) | (rw [HBN.out]; exact ret_eq2 (by omega)), HL5, HB5, HM2⟩
            case measure => simp; omega
      · go_wp2_with fail
        go_ret2
        have e1 : N = k := by
          have := HM.out
          by_cases hk2 : k = 120
          · subst hk2; simp [lst] at this; exact this.symm
          · rw [show 120 - k = 119 - k + 1 by omega] at this
            exact (lst_here this (by have := HBk.out; simp [this]; omega)).symm
        have e2 := HBk.out
        have e3 : plOk a r n = true := by rw [HOK.out, e1, e2]; simp; omega
        rw [e1]
        exact .inr ⟨e3, g, c, rfl, hown, HB.out⟩
  · go_enter Try.func26, Try.ntmps26
    go_wp2_with (go_at_call 61; refine (sLoan_any _ _ _ _).mono ?_; rintro e w' ⟨rfl, rfl⟩)
    go_ret2
    have e3 : plOk a r n = false := by simp [plOk, h]
    exact .inl ⟨e3, ret_si (by simp [plE, h]), Below.refl _ _⟩

end Go.Proofs.Ythennmhmnimpfaa
