/- Merged: Tsa, Tsb. -/
import Derived.Test.YtpphiekbhikadaaDoorTrx12

/- Tontines: the model: lists copied, searched; valid classes, the living's shares, the last member. -/
namespace Go.Proofs.YtpphiekbhikadaaDoor
open Go.ChangeShapes Go.WideShapes Go.ChangeAt Go.RowKit
set_option linter.unusedVariables false
set_option maxRecDepth 100000

/-- a list of integers appended to a list of the call's own -/
theorem run_apI (w : World) (base : Nat) (ty : TypeId) (v : Value) (xs ys : List Int) (b : Option Addr) (m cp : Nat) (hown : OwnI base w v xs) (hI : Ints w b m ys) (hlen : xs.length + m ≤ 4096) (hbase : base ≤ w.heap.size) :
    ∃ v' w', (Builtin.append_ #[24, 24] ty #[v, .slice b m cp]).run Tryd.prog w = .ok v' w' ∧ OwnI base w' v' (xs ++ ys) ∧ Below base w w' ∧ (v ≠ .slice none 0 0 → v' ≠ .slice none 0 0) := by
  obtain ⟨i0, hi, hz0, hz1, hz2⟩ := info_parts infoI
  cases b with
  | none =>
    have hm0 : m = 0 := by
      rcases hI.cells with h | ⟨_, _, h, _⟩
      · exact h
      · cases h
    subst hm0
    have hy : ys = [] := List.length_eq_zero_iff.1 hI.len
    subst hy
    refine ⟨v, w, ?_, by rw [List.append_nil]; exact hown, Below.refl _ _, fun h => h⟩
    have ht := Tryd.underlying24
    have hown' : w.ownsRow base 2 1 v xs.length (xs.map (Value.int .i64)) := hown
    rcases hown'.2 with ⟨rfl, hn⟩ | ⟨g, cap, cur, rfl, _, _, hnc, _⟩
    · simp [Builtin.append_, run_underlying ht, sizeOf, typeInfo, hi, Builtin.lenOf, Builtin.firstCells]
    · simp [Builtin.append_, run_underlying ht, sizeOf, typeInfo, hi, Builtin.lenOf, Builtin.firstCells, hnc, storeCells]
  | some ad =>
    have hnews : ∀ j u, (ys.map (Value.int .i64))[j]? = some u → w.cell? (ad.add j) = some u := by
      intro j u hj
      have hl := (List.getElem?_eq_some_iff.1 hj).1
      rw [List.length_map] at hl
      rcases hI.cells with h | ⟨b, off, h, hc⟩
      · rw [hI.len, h] at hl; omega
      · cases h
        rw [Addr.add_lit, hc j (by rw [← hI.len]; exact hl)]
        rw [← hj]
        simp [List.getD, hl]
    have hm : maxLen = maxLen := rfl
    unfold maxLen at hm
    obtain ⟨v', w', hr, h2, h3, h4⟩ := run_append_own (P := Tryd.prog) w base 24 ty 2 i0 (.int .i64 0) 1 8 Tryd.underlying24 hi hz0 hz1 hz2 rfl (by decide) v xs.length (xs.map (Value.int .i64)) hown ad m cp (ys.map (Value.int .i64)) (by rw [List.length_map, hI.len, Nat.mul_one]) hnews (by intro u hu; obtain ⟨q, _, rfl⟩ := List.mem_map.1 hu; rfl) (by unfold maxLen; omega) (by omega) hbase
    refine ⟨v', w', hr, ?_, (Below.refl _ _).grown h3 hbase (fun k hk => (World.ownsRow.lt hown k hk).1), fun hv hv' => hv (h4.1 hv').1⟩
    unfold OwnI
    rw [List.length_append, List.map_append, hI.len]
    exact h2

theorem wpList_apI {w : World} {ops : Array Oper} {rest : List Oper} {o : Oper} {a : Act} {Q : Exit → Act → World → Prop} (hgd : o.guard = none) (s x : Operand)
    (ho : o.op = .call { callee := .builtin .append, args := #[s, x], argTypes := #[24, 24] })
    (base : Nat) (v : Value) (xs ys : List Int) (b : Option Addr) (m cp : Nat) (hs : a.eval s = v) (hown : OwnI base w v xs) (hx : a.eval x = .slice b m cp) (hI : Ints w b m ys) (hlen : xs.length + m ≤ 4096) (hbase : base ≤ w.heap.size)
    (h : ∀ v' w', OwnI base w' v' (xs ++ ys) → Below base w w' → (v ≠ .slice none 0 0 → v' ≠ .slice none 0 0) → wpList Tryd.prog ops Q rest (a.put o.dst v') w') : wpList Tryd.prog ops Q (o :: rest) a w := by
  obtain ⟨v', w', hr, h1, h2, h3⟩ := run_apI w base o.type v xs ys b m cp hown hI hlen hbase
  refine wpList_plain hgd fun _ hK => ?_
  unfold Oper.wp execOp
  simp only [ho, resolve, invoke, builtin, Sem.run_bind, Sem.run_pure, Result.andThen_ok, List.map_toArray, List.map_cons, List.map_nil, hs, hx, hr]
  exact hK _ _ (h v' w' h1 h2 h3)

theorem step_apI {w : World} {ops : Array Oper} {o : Oper} {a : Act} {K : Act → World → Prop} {Q : Exit → Act → World → Prop} {E : Prop} (hgd : o.guard = none) (s x : Operand)
    (ho : o.op = .call { callee := .builtin .append, args := #[s, x], argTypes := #[24, 24] })
    (base : Nat) (v : Value) (xs ys : List Int) (b : Option Addr) (m cp : Nat) (hs : a.eval s = v) (hown : OwnI base w v xs) (hx : a.eval x = .slice b m cp) (hI : Ints w b m ys) (hlen : xs.length + m ≤ 4096) (hbase : base ≤ w.heap.size)
    (h : ∀ v' w', OwnI base w' v' (xs ++ ys) → Below base w w' → (v ≠ .slice none 0 0 → v' ≠ .slice none 0 0) → K (a.put o.dst v') w') :
    if Region.wanted o (yielded ops a.tmps) = true then Oper.wp Tryd.prog o a w K Q else E := by
  obtain ⟨v', w', hr, h1, h2, h3⟩ := run_apI w base o.type v xs ys b m cp hown hI hlen hbase
  have hw : Region.wanted o (yielded ops a.tmps) = true := by simp [Region.wanted, hgd]
  rw [if_pos hw]
  unfold Oper.wp execOp
  simp only [ho, resolve, invoke, builtin, Sem.run_bind, Sem.run_pure, Result.andThen_ok, List.map_toArray, List.map_cons, List.map_nil, hs, hx, hr]
  exact h v' w' h1 h2 h3

def OwPost (ys : List Int) (w : World) (e : Ending) (w' : World) : Prop := ∃ g n c, e = .returned (.slice (some ⟨g, 0, none⟩) n c) ∧ OwnI w.heap.size w' (.slice (some ⟨g, 0, none⟩) n c) ys ∧ ys.length = n ∧ Below w.heap.size w w'

/-- the shape of a list of the call's own that isn't nil -/
theorem own_some {base : Nat} {w : World} {v : Value} {ys : List Int} (h : OwnI base w v ys) (hv : v ≠ .slice none 0 0) : ∃ g c, v = .slice (some ⟨g, 0, none⟩) ys.length c ∧ base ≤ g ∧ g < w.heap.size ∧ ys.length ≤ c ∧ c ≤ maxLen ∧ RowI w g 0 ys := by
  have hh := h
  rcases h.2 with ⟨h0, _⟩ | ⟨g, cap, cur, rfl, hbg, hg, hnc, hcm, -⟩
  · exact absurd h0 hv
  · exact ⟨g, cap, rfl, hbg, (hh.lt g rfl).2, hnc, hcm, hh.row⟩

theorem sow_any (ys : List Int) (a : Option Addr) (n c : Nat) (w : World) (h : Ints w a n ys) (hn : n ≤ 4096) : Calls Tryd.prog 66 #[.slice a n c] w (OwPost ys w) := by
  have HL := Lib.hid h.len
  have H := Lib.hid (h.on (box_b w (.cells #[] 2)))
  have HO := Lib.hid (ownI_new w)
  clear h
  go_enter Tryd.func66, Tryd.ntmps66
  go_wp2_with (at_builtin; go_must (refine wpList_apI rfl _ _ rfl w.heap.size _ [] ys a n c rfl HO.out rfl H.out (by simp; omega) (by simp) ?_))
  intro v' w1 hown hb hnn
  obtain ⟨g, c', rfl, -⟩ := own_some hown (by first | exact hnn | exact hnn (by simp))
  have HW := Lib.hid hown
  have HB := Lib.hid hb
  clear hown hb hnn
  go_wp2_with fail
  go_ret
  exact ⟨_, _, _, rfl, HW.out, rfl, (box_b w _).trans (HB.out.mono (Nat.le_refl _))⟩

theorem mem_take_snoc {xs : List Int} {k : Nat} (h : k < xs.length) (x : Int) : x ∈ xs.take (k + 1) ↔ x ∈ xs.take k ∨ x = xs.getD k 0 := by
  rw [List.take_add_one, List.getElem?_eq_getElem h, Option.toList_some, List.mem_append, List.mem_singleton]
  simp [List.getD, h]

theorem shas_any (xs : List Int) (a : Option Addr) (l c : Nat) (x : Int) (w : World) (h : Ints w a l xs) :
    Calls Tryd.prog 32 #[.slice a l c, .int .i64 x] w fun e w' => e = .returned (.bool (decide (x ∈ xs))) ∧ w' = w := by
  have hm := h.max
  have hl := Lib.hid h.len
  have H := Lib.hid h
  clear h
  go_enter Tryd.func32, Tryd.ntmps32
  go_wp2_with fail
  go_loop [5] (fun i => ∃ k : Nat, k ≤ l ∧ i = .int .i64 k ∧ Hid (x ∉ xs.take k)) (fun i => l - (intOf i).toNat)
  case atStart => exact ⟨0, Nat.zero_le _, rfl, Lib.hid (by simp)⟩
  case round =>
    obtain ⟨k, hk, rfl, HA⟩ := hrel
    by_cases hlt : k < l
    · obtain ⟨b, off, rfl, hb, hc⟩ := H.out.at (by omega)
      have hx := hc k hlt
      obtain ⟨v, hv⟩ : ∃ v, xs.getD k 0 = v := ⟨_, rfl⟩
      rw [hv] at hx
      have HM := Lib.hid (mem_take_snoc (by rw [hl.out]; exact hlt) x)
      rw [hv] at HM
      clear hv hc hb
      by_cases hvx : v = x
      · have hvd : ((v : Int) == x) = true := by simpa using hvx
        have HV := Lib.hid hvx
        clear hvx
        go_wp2_with fail
        go_ret
        exact ⟨ret_bool (by rw [eq_comm, decide_eq_true_iff]; exact List.mem_of_mem_take (HM.out.2 (.inr HV.out.symm))), rfl⟩
      · have hvd : ((v : Int) == x) = false := by simpa using hvx
        have HV := Lib.hid hvx
        clear hvx
        go_wp2_with fail
        go_round
        case rel => exact ⟨k + 1, by omega, by go_num, Lib.hid (fun hm => by rcases HM.out.1 hm with h | h
                                                                             · exact HA.out h
                                                                             · exact HV.out h.symm)⟩
        case measure => simp [intOf]; omega
    · go_wp2_with fail
      go_ret
      obtain rfl : k = l := by omega
      have e := HA.out
      rw [List.take_of_length_le (by rw [hl.out]; exact Nat.le_refl _)] at e
      exact ⟨ret_bool (by rw [eq_comm, decide_eq_false_iff_not]; exact e), rfl⟩

theorem tc_dead {n : Nat} {de : List Int} (h1 : 1 ≤ n) (h : incB (-1) n de = true) : (de.all (fun x => inB x 0 ((n : Int) - 1)) && decide ((de.length : Int) ≤ n)) = true := by
  have h2 := (inc_iff _ _ _).1 h
  have h3 := inc_len _ _ _ (by omega) h
  rw [Bool.and_eq_true, List.all_eq_true]
  exact ⟨fun x hx => inB_t (by have := h2.1 x hx; omega) (by have := h2.1 x hx; omega), by simp; omega⟩

set_option maxHeartbeats 1000000 in
theorem tcS_any (sh de : List Int) (a b : Option Addr) (l c m d : Nat) (ch : Int) (w : World) (h : Ints w a l sh) (g : Ints w b m de) :
    Calls Tryd.prog 31 #[.agg #[.slice a l c, .slice b m d, .int .i64 ch]] w fun e w' => e = .returned (.bool (tcB sh de ch)) ∧ Below w.heap.size w w' := by
  have HL := Lib.hid h.len
  have GL := Lib.hid g.len
  have hm := h.max
  have gm := g.max
  have H := Lib.hid (h.on (box_b w (.cells #[.slice a l c, .slice b m d, .int .i64 ch] 26)))
  have G := Lib.hid (g.on (box_b w (.cells #[.slice a l c, .slice b m d, .int .i64 ch] 26)))
  clear h g
  have q1 : IntKind.i64.wrap ((l : Int) - 1) = (l : Int) - 1 := IntWalk.i64_in _ (by omega)
  have HU : Hid (tcB sh de ch = (inB l 1 60 && inB ch 0 1000000000000 && sh.all (fun x => inB x 1 1000) && incB (-1) l de)) := Lib.hid (by unfold tcB; rw [HL.out])
  have CS := Lib.hid (inAll_any sh a l c 60 1 1000 _ H.out)
  have CD := Lib.hid (inAll_any de b m d l 0 ((l : Int) - 1) _ G.out)
  by_cases h1 : 1 ≤ l
  · have hd1 : decide ((l : Int) < 1) = false := by simp; omega
    have hdead := fun hi => tc_dead (n := l) (de := de) h1 hi
    rw [GL.out] at hdead
    obtain ⟨bs, hbs⟩ : ∃ y_, (sh.all (fun x => inB x 1 1000) && decide ((l : Int) ≤ 60)) = y_ := ⟨_, rfl⟩
    obtain ⟨bd, hbd⟩ : ∃ y_, (de.all (fun x => inB x 0 ((l : Int) - 1)) && decide ((m : Int) ≤ l)) = y_ := ⟨_, rfl⟩
    rw [hbs] at CS
    rw [hbd] at CD hdead
    cases bs with
    | false =>
      have HF : Hid (tcB sh de ch = false) := Lib.hid (by
        rw [HU.out]
        rw [Bool.and_eq_false_iff] at hbs
        rcases hbs with h | h
        · rw [h]; simp
        · have : inB (l : Int) 1 60 = false := inB_f (by simp at h; omega)
          rw [this]; simp)
      clear hbs hbd hdead h1
      go_enter Tryd.func31, Tryd.ntmps31
      go_wp2_with (go_at_call 44; (first | (with_reducible refine CS.out.mono ?_) | (with_reducible refine CD.out.mono ?_)); rintro e w1 ⟨rfl, rfl⟩)
      go_ret
      exact ⟨ret_bool HF.out.symm, box_b _ _⟩
    | true =>
      rw [Bool.and_eq_true] at hbs
      have hn60 : l ≤ 60 := by have := hbs.2; simp at this; omega
      have hUU : tcB sh de ch = (inB ch 0 1000000000000 && incB (-1) l de) := by rw [HU.out, hbs.1, inB_t (n := (l : Int)) (lo := 1) (hi := 60) (by omega) (by omega)]; simp
      by_cases h3 : inB ch 0 1000000000000 = true
      · rw [h3, Bool.true_and] at hUU
        have HV := Lib.hid hUU
        cases bd with
        | false =>
          have HF : Hid (tcB sh de ch = false) := Lib.hid (by
            rw [hUU]
            cases hi : incB (-1) l de with
            | false => rfl
            | true => have := hdead hi; cases this)
          clear hbs hbd hdead hUU h1
          go_enter Tryd.func31, Tryd.ntmps31
          go_wp2_with (first | (go_at_call 44; (first | (with_reducible refine CS.out.mono ?_) | (with_reducible refine CD.out.mono ?_)); rintro e w1 ⟨rfl, rfl⟩) | (go_at_call 59; refine (in_any _ _ _ _).mono ?_; rintro e w' ⟨rfl, rfl⟩))
          go_ret
          exact ⟨ret_bool HF.out.symm, box_b _ _⟩
        | true =>
          rw [Bool.and_eq_true] at hbd
          have HR := Lib.hid (List.all_eq_true.1 hbd.1)
          have HS0 : Hid (incB (-1) l (de.take 1) = true) := Lib.hid (by
            rw [inc_iff]
            have hp : (de.take 1).Pairwise (· < ·) := by
              cases de with
              | nil => simp
              | cons x r => simp
            exact ⟨fun x hx => by have := (inB_iff _ _ _).1 (HR.out x (List.mem_of_mem_take hx)); omega, hp⟩)
          clear hbs hbd hdead hUU
          go_enter Tryd.func31, Tryd.ntmps31
          go_wp2_with (first | (go_at_call 44; (first | (with_reducible refine CS.out.mono ?_) | (with_reducible refine CD.out.mono ?_)); rintro e w1 ⟨rfl, rfl⟩) | (go_at_call 59; refine (in_any _ _ _ _).mono ?_; rintro e w' ⟨rfl, rfl⟩))
          go_loopw [4] (fun i wr => ∃ j : Nat, 1 ≤ j ∧ i = .int .i64 j ∧ Hid (incB (-1) l (de.take j) = true) ∧ Hid (∃ n, wr = (w.alloc (.cells #[.slice a l c, .slice b m d, .int .i64 ch] 26)).drewN n)) (fun i _ => m - (intOf i).toNat)
          case atStart => exact ⟨1, Nat.le_refl _, rfl, HS0, Lib.hid ⟨0, rfl⟩⟩
          case round =>
            obtain ⟨j, hj, rfl, HI, HW⟩ := hrel
            have hbel : Below (w.alloc (.cells #[.slice a l c, .slice b m d, .int .i64 ch] 26)).heap.size (w.alloc (.cells #[.slice a l c, .slice b m d, .int .i64 ch] 26)) wr := by
              obtain ⟨n, hn⟩ := HW.out
              rw [hn]; exact below_drewN (Below.refl _ _) n
            have hbx := (Bx.new w [.slice a l c, .slice b m d, .int .i64 ch] 26).on hbel
            obtain ⟨c0, c1, c2⟩ := hbx.threeT
            have HBL := Lib.hid hbel
            by_cases hlt : j < m
            · obtain ⟨b1, o1, rfl, hb1, hc⟩ := (G.out.on hbel).at (by omega)
              obtain ⟨p, hp⟩ : ∃ p, j = p + 1 := ⟨j - 1, by omega⟩
              have hx := hc j hlt
              have hy := hc p (by omega)
              obtain ⟨v, hv⟩ : ∃ v, de.getD j 0 = v := ⟨_, rfl⟩
              obtain ⟨u, hu⟩ : ∃ v, de.getD p 0 = v := ⟨_, rfl⟩
              rw [hv] at hx
              rw [hu] at hy
              have q2 : IntKind.i64.wrap ((j : Int) - 1) = (p : Int) := by rw [IntWalk.i64_in _ (by omega)]; omega
              have hvl : v < l := by
                have := (inB_iff _ _ _).1 (HR.out v (by rw [← hv, List.getD_eq_getElem?_getD, List.getElem?_eq_getElem (by rw [GL.out]; exact hlt)]; exact List.getElem_mem _))
                omega
              have HS : Hid (incB (-1) l (de.take (j + 1)) = decide (u < v)) := Lib.hid (by
                rw [inc_step _ _ _ _ (by rw [GL.out]; exact hlt), HI.out, hv]
                rw [hp, lstI_take _ _ _ (by rw [GL.out]; omega), hu, decide_eq_true hvl]
                simp)
              have hpm : p < m := by omega
              clear hv hu hc hb1 hbx hp hbel
              by_cases hq : v ≤ u
              · have hqd : decide (v ≤ u) = true := by simpa using hq
                go_wp2_with fail
                go_quiet (fail)
                go_wp2_with fail
                go_ret
                exact ⟨ret_bool (by rw [HV.out, inc_bad (k := j + 1) (by rw [HS.out]; simp; omega)]), (box_b w _).trans ((below_drewN HBL.out nq).mono (by simp))⟩
              · have hqd : decide (v ≤ u) = false := by simpa using hq
                go_wp2_with fail
                go_quiet (fail)
                go_wp2_with fail
                go_roundw
                case rel => exact ⟨j + 1, by omega, by go_num, Lib.hid (by rw [HS.out]; simp; omega), Lib.hid (by obtain ⟨n, hn⟩ := HW.out; exact ⟨n + nq, by rw [hn, World.drewN_drewN]⟩)⟩
                case measure => simp [intOf]; omega
            · clear hbx hbel
              go_wp2_with fail
              go_ret
              have HI' := HI.out
              rw [List.take_of_length_le (by rw [GL.out]; omega)] at HI'
              exact ⟨ret_bool (by rw [HV.out, HI']), (box_b w _).trans (HBL.out.mono (by simp))⟩
      · have h3' : inB ch 0 1000000000000 = false := by simpa using h3
        have HF : Hid (tcB sh de ch = false) := Lib.hid (by rw [hUU, h3']; rfl)
        clear hbs hbd hdead hUU h1
        go_enter Tryd.func31, Tryd.ntmps31
        go_wp2_with (first | (go_at_call 44; (first | (with_reducible refine CS.out.mono ?_) | (with_reducible refine CD.out.mono ?_)); rintro e w1 ⟨rfl, rfl⟩) | (go_at_call 59; refine (in_any _ _ _ _).mono ?_; rintro e w' ⟨rfl, rfl⟩))
        go_ret
        exact ⟨ret_bool HF.out.symm, box_b _ _⟩
  · have hd1 : decide ((l : Int) < 1) = true := by simp; omega
    have HF : Hid (tcB sh de ch = false) := Lib.hid (by
      have : inB (l : Int) 1 60 = false := inB_f (by omega)
      rw [HU.out, this]; rfl)
    go_enter Tryd.func31, Tryd.ntmps31
    go_wp2_with fail
    go_ret
    exact ⟨ret_bool HF.out.symm, box_b _ _⟩

end Go.Proofs.YtpphiekbhikadaaDoor

/- Tontines: the model: the living's shares, the last member, a class copied. -/
namespace Go.Proofs.YtpphiekbhikadaaDoor
open Go.ChangeShapes Go.WideShapes Go.ChangeAt Go.RowKit
set_option linter.unusedVariables false
set_option maxRecDepth 100000

set_option maxHeartbeats 1000000 in
theorem tmS_any (sh de : List Int) (a x : Option Addr) (l c n d : Nat) (ch : Int) (w : World) (h : Ints w a l sh) (g : Ints w x n de) :
    Calls Tryd.prog 18 #[.agg #[.slice a l c, .slice x n d, .int .i64 ch]] w (IIPost (lmN sh de ch) (lmE sh de ch) w) := by
  have HL := Lib.hid h.len
  have GL := Lib.hid g.len
  have H := Lib.hid h
  have G := Lib.hid g
  have hm := h.max
  have gm := g.max
  clear h g
  have HC0 := Lib.hid (TCB.new w (.slice a l c) (.slice x n d) ch 26)
  have CI := Lib.hid (tcS_any sh de a x l c n d ch _ (H.out.on HC0.out.low) (G.out.on HC0.out.low))
  unfold IIPost
  by_cases ht : tcB sh de ch = true
  · have hok := tc_iff.1 ht
    have HO := Lib.hid hok
    have hln : (livL de sh.length).length + n = l := by
      have h1 := liv_can de sh.length
      rw [inc_can hok.d, GL.out] at h1
      rw [h1, HL.out]
    have HE : Hid (lmE sh de ch = if (livL de sh.length).length = 1 then 0 else 4) := Lib.hid (by unfold lmE; rw [if_pos ht])
    have HN : Hid (lmN sh de ch = if lmE sh de ch = 0 then (((livL de sh.length).getD 0 0 : Nat) : Int) else 0) := Lib.hid rfl
    rw [ht] at CI
    have q1 : IntKind.i64.wrap ((l : Int) - (n : Int)) = (l : Int) - n := IntWalk.i64_in _ (by omega)
    by_cases h1 : (livL de sh.length).length = 1
    · obtain ⟨y, hy⟩ : ∃ y, livL de sh.length = [y] := List.length_eq_one_iff.1 h1
      have HR : Hid (lmE sh de ch = 0 ∧ lmN sh de ch = (y : Int)) := Lib.hid (by
        have e1 : lmE sh de ch = 0 := by rw [HE.out, if_pos h1]
        exact ⟨e1, by rw [HN.out, e1, hy]; rfl⟩)
      have hyn : y < l := by
        have : y ∈ livL de sh.length := by rw [hy]; exact List.mem_cons_self ..
        rw [← HL.out]; exact (liv_mem.1 this).1
      have HYM : Hid (∀ k : Nat, k < l → (k : Int) ∉ de → k = y) := Lib.hid (fun k hk hd => by
        have : k ∈ livL de sh.length := liv_mem.2 ⟨by rw [HL.out]; exact hk, hd⟩
        rw [hy] at this; simpa using this)
      have HYD : Hid ((y : Int) ∉ de) := Lib.hid (by
        have : y ∈ livL de sh.length := by rw [hy]; exact List.mem_cons_self ..
        exact (liv_mem.1 this).2)
      have hd1 : (((l : Int) - (n : Int)) != 1) = false := by simp; omega
      have CH : Hid (∀ (k : Int) W, Hid (TCB w (.slice a l c) (.slice x n d) ch W) → Calls Tryd.prog 32 #[.slice x n d, .int .i64 k] W fun e w' => e = .returned (.bool (decide (k ∈ de))) ∧ w' = W) := Lib.hid (fun k W hW => shas_any de x n d k W (G.out.on hW.out.low))
      clear ht hok h1 hy
      go_enter Tryd.func18, Tryd.ntmps18
      go_wp2_with (go_at_call 31; refine CI.out.mono ?_; rintro e w1 ⟨rfl, hb⟩; have HC1 := Lib.hid (HC0.out.on hb); obtain ⟨c0, c1, c2⟩ := HC1.out.b.threeT; clear hb)
      go_loop [4] (fun i => ∃ k : Nat, k ≤ y ∧ i = .int .i64 k) (fun i => y - (intOf i).toNat)
      case atStart => exact ⟨0, Nat.zero_le _, rfl⟩
      case round =>
        obtain ⟨k, hk, rfl⟩ := hrel
        have C1 := Lib.hid (CH.out (k : Int) _ HC1)
        by_cases hd : (k : Int) ∈ de
        · have hdd : decide ((k : Int) ∈ de) = true := by simpa using hd
          rw [hdd] at C1
          have hky : k < y := by
            have : k ≠ y := by intro e; rw [e] at hd; exact HYD.out hd
            omega
          clear hd
          go_wp2_with (go_at_call 32; refine C1.out.mono ?_; rintro e w2 ⟨rfl, rfl⟩)
          go_round
          case rel => exact ⟨k + 1, by omega, by go_num⟩
          case measure => simp [intOf]; omega
        · have hdd : decide ((k : Int) ∈ de) = false := by simpa using hd
          rw [hdd] at C1
          have hky : k = y := HYM.out k (by omega) hd
          have HKY := Lib.hid hky
          clear hd hky
          go_wp2_with (go_at_call 32; refine C1.out.mono ?_; rintro e w2 ⟨rfl, rfl⟩)
          go_ret2
          exact ⟨ret_ii (by rw [HR.out.2, HKY.out]) HR.out.1.symm, HC1.out.low⟩
    · have HR : Hid (lmE sh de ch = 4 ∧ lmN sh de ch = 0) := Lib.hid (by
        have e1 : lmE sh de ch = 4 := by rw [HE.out, if_neg h1]
        exact ⟨e1, by rw [HN.out, e1]; rfl⟩)
      have hd1 : (((l : Int) - (n : Int)) != 1) = true := by simp; omega
      clear ht hok h1
      go_enter Tryd.func18, Tryd.ntmps18
      go_wp2_with (go_at_call 31; refine CI.out.mono ?_; rintro e w1 ⟨rfl, hb⟩; have HC1 := Lib.hid (HC0.out.on hb); obtain ⟨c0, c1, c2⟩ := HC1.out.b.threeT; clear hb)
      go_ret2
      exact ⟨ret_ii HR.out.2.symm HR.out.1.symm, HC1.out.low⟩
  · have HV : Hid (lmN sh de ch = 0 ∧ lmE sh de ch = 1) := Lib.hid (by
      have h1 : lmE sh de ch = 1 := by unfold lmE; rw [if_neg ht]
      exact ⟨by unfold lmN; rw [h1]; rfl, h1⟩)
    have ht' : tcB sh de ch = false := by simpa using ht
    rw [ht'] at CI
    clear ht
    go_enter Tryd.func18, Tryd.ntmps18
    go_wp2_with (go_at_call 31; refine CI.out.mono ?_; rintro e w1 ⟨rfl, hb⟩; have HC1 := Lib.hid (HC0.out.on hb); clear hb)
    go_ret2
    exact ⟨ret_ii HV.out.1.symm HV.out.2.symm, HC1.out.low⟩

/-- the boxes of a call: its class, its result, whatever it holds -/
structure XV (w : World) (u v : Value) (ch : Int) (W : World) : Prop where
  c : Bx W w.heap.size [u, v, .int .i64 ch]
  r : ∃ p q r, Bx W (w.heap.size + 1) [p, q, r]
  low : Below w.heap.size w W
  sz : w.heap.size + 2 ≤ W.heap.size

theorem XB.xv {w W : World} {u v : Value} {ch : Int} (h : XB w u v ch W) : XV w u v ch W := ⟨h.c, ⟨_, _, _, h.r⟩, h.low, h.sz⟩

theorem XV.up {w W W' : World} {u v : Value} {ch : Int} (h : XV w u v ch W) (hb : Below (w.heap.size + 2) W W') : XV w u v ch W' :=
  ⟨h.c.same (hb.block _ (by omega)), (by obtain ⟨p, q, r, hx⟩ := h.r; exact ⟨p, q, r, hx.same (hb.block _ (by omega))⟩), h.low.trans (hb.mono (by omega)), Nat.le_trans h.sz hb.size⟩

theorem XV.on {w W W' : World} {u v : Value} {ch : Int} (h : XV w u v ch W) (hb : Below W.heap.size W W') : XV w u v ch W' := h.up (hb.mono h.sz)

theorem XV.put {w W : World} {u v : Value} {ch : Int} (h : XV w u v ch W) (p q r : Value) : XV w u v ch (((W.setCell ⟨w.heap.size + 1, 0, none⟩ p).setCell ⟨w.heap.size + 1, 1, none⟩ q).setCell ⟨w.heap.size + 1, 2, none⟩ r) := by
  obtain ⟨a0, b0, c0, hx⟩ := h.r
  exact ⟨h.c.same (sets3_far _ _ _ _ _ _ (by omega)), ⟨_, _, _, sets3_box hx⟩, ((h.low.setCell (p := ⟨w.heap.size + 1, 0, none⟩) (by show w.heap.size ≤ w.heap.size + 1; omega) _).setCell (p := ⟨w.heap.size + 1, 1, none⟩) (by show w.heap.size ≤ w.heap.size + 1; omega) _).setCell (p := ⟨w.heap.size + 1, 2, none⟩) (by show w.heap.size ≤ w.heap.size + 1; omega) _, by have := h.sz; simpa [World.setCell] using this⟩

theorem xvS {w W : World} {u v : Value} {ch : Int} (h : XV w u v ch W) : W.cell? ⟨w.heap.size, 0, none⟩ = some u ∧ W.cell? ⟨w.heap.size, 1, none⟩ = some v ∧ W.cell? ⟨w.heap.size, 2, none⟩ = some (.int .i64 ch) ∧ Hid (XV w u v ch W) := by
  obtain ⟨c0, c1, c2⟩ := h.c.threeT
  exact ⟨c0, c1, c2, Lib.hid h⟩

theorem xvB {w W : World} {u v : Value} {ch : Int} (h : XV w u v ch W) : ∃ p q r, Hid (Bx W (w.heap.size + 1) [p, q, r]) ∧ W.cell? ⟨w.heap.size + 1, 0, none⟩ = some p ∧ W.cell? ⟨w.heap.size + 1, 1, none⟩ = some q ∧ W.cell? ⟨w.heap.size + 1, 2, none⟩ = some r ∧
    W.frozen? ⟨w.heap.size + 1, 0, none⟩ = false ∧ W.frozen? ⟨w.heap.size + 1, 1, none⟩ = false ∧ W.frozen? ⟨w.heap.size + 1, 2, none⟩ = false := by
  obtain ⟨p, q, r, hx⟩ := h.r
  obtain ⟨c0, c1, c2⟩ := hx.threeT
  exact ⟨p, q, r, Lib.hid hx, c0, c1, c2, hx.free 0, hx.free 1, hx.free 2⟩

theorem cut_hi (g n c at_ : Nat) (h : at_ ≤ c) (W : World) : (Instr.sliceAt 24 (.slice (some ⟨g, 0, none⟩) n c) none (some (.int .i64 (at_ : Int))) none).run Tryd.prog W = .ok (.slice (some ⟨g, 0, none⟩) at_ c) W := by
  rw [run_sliceAt_slice (P := Tryd.prog) W 24 _ _ _ _ (by kernel_rfl)]
  simp [go_sem, Tryd.underlying24, h]

theorem cut_lo (g n c at_ : Nat) (h : at_ ≤ n) : ∃ A, (∀ W, (Instr.sliceAt 24 (.slice (some ⟨g, 0, none⟩) n c) (some (.int .i64 (at_ : Int))) none none).run Tryd.prog W = .ok (.slice A (n - at_) (c - at_)) W) ∧ A = (if c = at_ then some ⟨g, 0, none⟩ else some ⟨g, at_, none⟩) := by
  refine ⟨_, fun W => ?_, rfl⟩
  rw [run_sliceAt_slice (P := Tryd.prog) W 24 _ _ _ _ (by kernel_rfl)]
  simp [go_sem, Tryd.underlying24, h]

/-- what stands behind the place -/
theorem cut_ints {W : World} {g n c at_ : Nat} {ys : List Int} (h : RowI W g 0 ys) (hl : ys.length = n) (hm : n ≤ 4096) (ha : at_ ≤ n) (hc : n ≤ c) : Ints W (if c = at_ then some ⟨g, 0, none⟩ else some ⟨g, at_, none⟩) (n - at_) (ys.drop at_) := by
  refine ⟨by simp [hl], by omega, ?_⟩
  by_cases e : c = at_
  · exact .inl (by omega)
  · rw [if_neg e]
    refine .inr ⟨g, at_, rfl, fun i hi => ?_⟩
    have h1 := h.cell (at_ + i) (by omega)
    rw [Nat.zero_add] at h1
    rw [h1]
    simp [List.getD, List.getElem?_drop]

theorem front_ints {W : World} {g n at_ : Nat} {ys : List Int} (h : RowI W g 0 ys) (hl : ys.length = n) (hm : n ≤ 4096) (ha : at_ ≤ n) : Ints W (some ⟨g, 0, none⟩) at_ (ys.take at_) := by
  refine ⟨by simp; omega, by omega, .inr ⟨g, 0, rfl, fun i hi => ?_⟩⟩
  rw [h.cell i (by omega)]
  simp [List.getD, hi]

/-- two lists of the call's own, in different blocks -/
def Fin2 (base : Nat) (W : World) (g n q : Nat) (xs : List Int) (h m d : Nat) (ys : List Int) : Prop := (OwnI base W (.slice (some ⟨g, 0, none⟩) n q) xs ∧ xs.length = n) ∧ (OwnI base W (.slice (some ⟨h, 0, none⟩) m d) ys ∧ ys.length = m) ∧ g ≠ h

theorem own2 {base : Nat} {W1 W2 : World} {g n q h m d : Nat} {xs ys : List Int} (h1 : OwnI base W1 (.slice (some ⟨g, 0, none⟩) n q) xs) (l1 : xs.length = n) (hb : Below W1.heap.size W1 W2) (h2 : OwnI W1.heap.size W2 (.slice (some ⟨h, 0, none⟩) m d) ys) (l2 : ys.length = m) (hbs : base ≤ W1.heap.size) :
    Fin2 base W2 g n q xs h m d ys := by
  have t1 := (World.ownsRow.lt h1 g rfl).2
  have t2 := (World.ownsRow.lt h2 h rfl).1
  exact ⟨⟨OwnI.on h1 hb, l1⟩, ⟨OwnI.mono h2 hbs, l2⟩, by omega⟩

theorem Fin2.symm {base : Nat} {W : World} {g n q h m d : Nat} {xs ys : List Int} (f : Fin2 base W g n q xs h m d ys) : Fin2 base W h m d ys g n q xs := ⟨f.2.1, f.1, f.2.2.symm⟩

theorem Fin2.up {base c : Nat} {W W' : World} {g n q h m d : Nat} {xs ys : List Int} (f : Fin2 base W g n q xs h m d ys) (hc : ∀ k, base ≤ k → k < W.heap.size → W'.heap[k]? = W.heap[k]?) : Fin2 base W' g n q xs h m d ys :=
  ⟨⟨OwnI.same f.1.1 hc, f.1.2⟩, ⟨OwnI.same f.2.1.1 hc, f.2.1.2⟩, f.2.2⟩

/-- a class copied: both lists are the call's own -/
def CwPost (sh de : List Int) (ch : Int) (w : World) (e : Ending) (w' : World) : Prop :=
  ∃ g n q h m d, e = .returned (.agg #[.slice (some ⟨g, 0, none⟩) n q, .slice (some ⟨h, 0, none⟩) m d, .int .i64 ch]) ∧ Fin2 (w.heap.size + 2) w' g n q sh h m d de ∧ Below w.heap.size w w'

set_option maxHeartbeats 4000000 in
theorem soC_any (sh de : List Int) (a x : Option Addr) (l c n d : Nat) (ch : Int) (w : World) (h : Ints w a l sh) (g : Ints w x n de) (hl : l ≤ 4096) (hn : n ≤ 4096) :
    Calls Tryd.prog 65 #[.agg #[.slice a l c, .slice x n d, .int .i64 ch]] w (CwPost sh de ch w) := by
  have H := Lib.hid h
  have G := Lib.hid g
  clear h g
  have HX0 := Lib.hid (XB.new w (.slice a l c) (.slice x n d) ch 26 26).xv
  have CS : Hid (∀ W, Hid (XV w (.slice a l c) (.slice x n d) ch W) → Calls Tryd.prog 66 #[.slice a l c] W (OwPost sh W)) := Lib.hid (fun W hW => sow_any sh a l c W (H.out.on hW.out.low) hl)
  have CD : Hid (∀ W, Hid (XV w (.slice a l c) (.slice x n d) ch W) → Calls Tryd.prog 66 #[.slice x n d] W (OwPost de W)) := Lib.hid (fun W hW => sow_any de x n d W (G.out.on hW.out.low) hn)
  unfold OwPost at CS CD
  go_enter Tryd.func65, Tryd.ntmps65
  go_wp2_with fail
  obtain ⟨W0, hW0⟩ : ∃ y_, ((w.alloc (.cells #[.slice a l c, .slice x n d, .int .i64 ch] 26)).alloc (.cells #[.slice none 0 0, .slice none 0 0, .int .i64 0] 26)) = y_ := ⟨_, rfl⟩
  rw [hW0] at HX0 ⊢
  clear hW0
  obtain ⟨c0, c1, c2, -⟩ := xvS HX0.out
  go_region_held3 (fun W9 => W9.cell? ⟨w.heap.size, 0, none⟩ = some (.slice a l c) ∧ W9.cell? ⟨w.heap.size, 1, none⟩ = some (.slice x n d) ∧ W9.cell? ⟨w.heap.size, 2, none⟩ = some (.int .i64 ch) ∧ Hid (XV w (.slice a l c) (.slice x n d) ch W9))
    (first
      | (with_reducible exact xvS (XV.put HSp.out _ _ _))
      | (go_split_ands; with_reducible exact xvS (Hid.out (by with_reducible assumption)))
      | (go_split_ands; with_reducible exact xvS (XV.on (Hid.out (by with_reducible assumption)) hb))
      | (go_split_ands; with_reducible exact xvS (XV.on (Hid.out (by with_reducible assumption)) (Below.drew (Below.refl _ _))))
      | fail)
    (first
      | (go_split_ands; go_at_call 66; ((with_reducible refine (CS.out _ (by with_reducible assumption)).mono ?_); rintro e w' ⟨a1, n1, q1, rfl, ho, hn1, hb⟩; have HSp : Hid (XV w (.slice a l c) (.slice x n d) ch w') := Lib.hid (XV.on (Hid.out (by with_reducible assumption)) hb); obtain ⟨p0, p1, p2, HBX, r0, r1, r2, z0, z1, z2⟩ := xvB HSp.out; (first | (have HFIN := Lib.hid (own2 OD.out.1 OD.out.2.1 hb ho hn1 OD.out.2.2).symm) | (have OS := Lib.hid (And.intro (OwnI.mono ho (XV.sz (Hid.out (by with_reducible assumption)))) (And.intro hn1 HSp.out.sz)))); clear ho))
      | (go_split_ands; go_at_call 66; ((with_reducible refine (CD.out _ (by with_reducible assumption)).mono ?_); rintro e w' ⟨b1, m1, d1, rfl, ho, hm1, hb⟩; have HSp : Hid (XV w (.slice a l c) (.slice x n d) ch w') := Lib.hid (XV.on (Hid.out (by with_reducible assumption)) hb); obtain ⟨p0, p1, p2, HBX, r0, r1, r2, z0, z1, z2⟩ := xvB HSp.out; (first | (have HFIN := Lib.hid (own2 OS.out.1 OS.out.2.1 hb ho hm1 OS.out.2.2)) | (have OD := Lib.hid (And.intro (OwnI.mono ho (XV.sz (Hid.out (by with_reducible assumption)))) (And.intro hm1 HSp.out.sz)))); clear ho))
      | fail)
  all_goals
    go_split_ands
    have hbx := sets3_box (p := .slice (some ⟨a1, 0, none⟩) n1 q1) (q := .slice (some ⟨b1, 0, none⟩) m1 d1) (r := .int .i64 ch) HBX.out
    obtain ⟨e0, e1, e2⟩ := hbx.threeT
    clear hbx
    have HEB := Lib.hid (XV.put HSp.out (.slice (some ⟨a1, 0, none⟩) n1 q1) (.slice (some ⟨b1, 0, none⟩) m1 d1) (.int .i64 ch)).low
    go_wp2_with fail
    refine bodyPost_ret (v := .agg #[.slice (some ⟨a1, 0, none⟩) n1 q1, .slice (some ⟨b1, 0, none⟩) m1 d1, .int .i64 ch]) (by simp [results, Tryd.results65, go_sem, e0, e1, e2]) rfl ?_
    exact ⟨_, _, _, _, _, _, rfl, HFIN.out.up (c := 0) (fun k hk _ => sets3_far _ _ _ _ _ k (by omega)), HEB.out⟩

end Go.Proofs.YtpphiekbhikadaaDoor
