/- Words of a text: what the model's cutting gives; slices of words that are appended to. -/
import Derived.Test.YtnppkdnmkhoeeaaDoorWds
namespace Go.Proofs.YtnppkdnmkhoeeaaDoor
open Go.ChangeShapes Go.WideShapes Go.ChangeAt Go.RowKit
set_option linter.unusedVariables false
set_option maxRecDepth 100000

theorem sp_blank (l : List UInt8) : sp (l ++ [32]) = sp l ++ [[]] := by
  induction l with
  | nil => rfl
  | cons b t ih =>
    rw [List.cons_append]
    by_cases h : b = 32
    · subst h; rw [sp, if_pos rfl, sp, if_pos rfl, ih]; rfl
    · rw [sp, if_neg h, sp, if_neg h, ih]
      cases hs : sp t with
      | nil => exact absurd hs (sp_ne t)
      | cons w ws => simp

theorem sp_other (l : List UInt8) (c : UInt8) (h : c ≠ 32) (W : List (List UInt8)) (u : List UInt8) (hs : sp l = W ++ [u]) : sp (l ++ [c]) = W ++ [u ++ [c]] := by
  induction l generalizing W u with
  | nil =>
    have e : W = [] ∧ u = [] := by
      cases W with
      | nil => simp [sp] at hs; exact ⟨rfl, hs⟩
      | cons x t => simp [sp] at hs
    obtain ⟨rfl, rfl⟩ := e
    simp [sp, h]
  | cons b t ih =>
    rw [List.cons_append]
    by_cases hb : b = 32
    · subst hb
      rw [sp, if_pos rfl] at hs ⊢
      cases W with
      | nil => simp at hs; exact absurd hs.2 (sp_ne t)
      | cons x W' =>
        simp at hs
        obtain ⟨rfl, hs⟩ := hs
        rw [ih W' u hs]; rfl
    · rw [sp, if_neg hb] at hs ⊢
      cases hst : sp t with
      | nil => exact absurd hst (sp_ne t)
      | cons w ws =>
        rw [hst] at hs
        cases W with
        | nil =>
          simp at hs
          obtain ⟨rfl, rfl⟩ := hs
          rw [ih [] w (by rw [hst]; rfl)]
          simp
        | cons x W' =>
          simp at hs
          obtain ⟨rfl, hs⟩ := hs
          rw [ih (w :: W') u (by rw [hst, hs]; rfl)]
          simp

/-- how far the model's cutting has come: the words that are complete, and where the next one begins -/
def CutAt (s : ByteArray) (W : List ByteArray) (f k : Nat) : Prop := f ≤ k ∧ k ≤ s.size ∧ W.map (·.data.toList) ++ [(s.data.toList.take k).drop f] = sp (s.data.toList.take k)

theorem ext_list (s : ByteArray) (f k : Nat) : (s.extract f k).data.toList = (s.data.toList.take k).drop f := by
  rw [ByteArray.data_extract, Array.toList_extract, List.extract_eq_take_drop, List.drop_take]

theorem cut_zero (s : ByteArray) : CutAt s [] 0 0 := ⟨by omega, by omega, by simp [sp]⟩

theorem CutAt.blank {s : ByteArray} {W : List ByteArray} {f k : Nat} (h : CutAt s W f k) (hk : k < s.size) (hb : s[k] = 32) : CutAt s (W ++ [s.extract f k]) (k + 1) (k + 1) := by
  obtain ⟨h1, h2, h3⟩ := h
  have hl : s.data.toList.length = s.size := by simp
  refine ⟨by omega, by omega, ?_⟩
  rw [take_snoc8 s k hk, hb, sp_blank, ← h3, List.map_append, List.map_cons, List.map_nil, ext_list]
  have e : (s.data.toList.take k ++ [32]).drop (k + 1) = [] := List.drop_of_length_le (by simp; omega)
  rw [e]

theorem CutAt.other {s : ByteArray} {W : List ByteArray} {f k : Nat} (h : CutAt s W f k) (hk : k < s.size) (hb : s[k] ≠ 32) : CutAt s W f (k + 1) := by
  obtain ⟨h1, h2, h3⟩ := h
  have hl : s.data.toList.length = s.size := by simp
  refine ⟨by omega, by omega, ?_⟩
  rw [take_snoc8 s k hk, sp_other _ _ hb _ _ h3.symm]
  rw [List.drop_append_of_le_length (by simp; omega)]

theorem CutAt.done {s : ByteArray} {W : List ByteArray} {f : Nat} (h : CutAt s W f s.size) : (W ++ [s.extract f s.size]).map (·.data.toList) = sp s.data.toList := by
  obtain ⟨h1, h2, h3⟩ := h
  rw [List.map_append, List.map_cons, List.map_nil, ext_list, h3]
  congr 1
  exact List.take_of_length_le (by simp)

theorem CutAt.len {s : ByteArray} {W : List ByteArray} {f k : Nat} (h : CutAt s W f k) : W.length ≤ k := by
  obtain ⟨h1, h2, h3⟩ := h
  have := congrArg List.length h3
  have h4 := (sp_short (s.data.toList.take k)).1
  simp at this h4
  omega

/-! ### slices of words of the call's own -/

/-- a slice of words of the call's own, in blocks from 'base' on -/
def OwnS (base : Nat) (w : World) (v : Value) (ss : List ByteArray) : Prop := w.ownsRow base 9 1 v ss.length (ss.map Value.string)

theorem infoS : (Tryd.prog.info? 9).map (fun i => (i.zero, i.size, i.bytes)) = some (some (.string ByteArray.empty), 1, 16) := by kernel_rfl

theorem ownS_new (w : World) : OwnS w.heap.size (w.alloc (.cells #[] 9)) (.slice (some ⟨w.heap.size, 0, none⟩) 0 0) [] :=
  World.ownsRow_lit w #[] 0 (Nat.le_refl _) (Nat.zero_le _) rfl

theorem OwnS.mono {base b2 : Nat} {w : World} {v : Value} {xs : List ByteArray} (h : OwnS base w v xs) (hb : b2 ≤ base) : OwnS b2 w v xs := by
  obtain ⟨h0, h1 | ⟨g, cap, cur, hv, hg, hh, r⟩⟩ := h
  · exact ⟨h0, .inl h1⟩
  · exact ⟨h0, .inr ⟨g, cap, cur, hv, by omega, hh, r⟩⟩

/-- its shape, and what its cells hold -/
theorem OwnS.cells {base : Nat} {w : World} {v : Value} {xs : List ByteArray} (h : OwnS base w v xs) (hl : 0 < xs.length) : ∃ g c, v = .slice (some ⟨g, 0, none⟩) xs.length c ∧ base ≤ g ∧ ∀ i, i < xs.length → w.cell? ⟨g, i, none⟩ = some (.string (xs.getD i ByteArray.empty)) := by
  have hh := h
  obtain ⟨h0, ⟨rfl, hn⟩ | ⟨g, cap, cur, rfl, hg, hb, r⟩⟩ := h
  · omega
  · refine ⟨g, cap, rfl, hg, fun i hi => ?_⟩
    rw [hh.cellAt i (by omega)]
    simp [List.getD, hi]

theorem ownS_step {base : Nat} {wr w1 : World} {v v' : Value} {xs : List ByteArray} {x : ByteArray} {o : Obj} (hown : OwnS base wr v xs) (hbs : base ≤ wr.heap.size)
    (hown' : w1.ownsRow base 9 1 v' (xs.length + 1) (xs.map Value.string ++ [.string x])) (hg : (wr.alloc o).grownBy w1 v.ownBlock) :
    OwnS base w1 v' (xs ++ [x]) ∧ Below base wr w1 := by
  constructor
  · unfold OwnS
    rw [List.length_append, List.length_singleton, List.map_append]
    exact hown'
  · exact ((Below.refl _ _).alloc hbs o).grown hg (by simp; omega) fun k hk => (hown.lt k hk).1

theorem wpList_appS {w : World} {ops : Array Oper} {rest : List Oper} {o : Oper} {a : Act} {Q : Exit → Act → World → Prop} (hgd : o.guard = none) (s x : Operand)
    (ho : o.op = .call { callee := .builtin .append, args := #[s, x], argTypes := #[35, 35] })
    (base : Nat) (v : Value) (xs : List ByteArray) (y : ByteArray) (hs : a.eval s = v) (hown : OwnS base w v xs) (ad : Addr) (hx : a.eval x = .slice (some ad) 1 1) (hc : ∀ j u, [Value.string y][j]? = some u → w.cell? (ad.add j) = some u)
    (hlen : xs.length ≤ 1100000) (hbase : base ≤ w.heap.size)
    (h : ∀ v' w', OwnS base w' v' (xs ++ [y]) → w.grownBy w' v.ownBlock → wpList Tryd.prog ops Q rest (a.put o.dst v') w') : wpList Tryd.prog ops Q (o :: rest) a w := by
  obtain ⟨i0, hi, hz0, hz1, hz2⟩ := info_parts infoS
  obtain ⟨v', w', hr, h2, h3, h4⟩ := run_append_own (P := Tryd.prog) w base 35 o.type 9 i0 (.string ByteArray.empty) 1 16 Tryd.underlying35 hi hz0 hz1 hz2 rfl (by decide) v xs.length (xs.map Value.string) hown ad 1 1 [.string y] rfl hc (by intro u hu; simp at hu; subst hu; rfl) (by unfold maxLen; omega) (by omega) hbase
  have h6 : OwnS base w' v' (xs ++ [y]) := by
    unfold OwnS
    rw [List.length_append, List.length_singleton, List.map_append]
    exact h2
  refine wpList_plain hgd fun _ hK => ?_
  unfold Oper.wp execOp
  simp only [ho, resolve, invoke, builtin, Sem.run_bind, Sem.run_pure, Result.andThen_ok, List.map_toArray, List.map_cons, List.map_nil, hs, hx, hr]
  exact hK _ _ (h v' w' h6 h3)

theorem one_newS (w : World) (x : ByteArray) : ∀ j u, [Value.string x][j]? = some u → (w.alloc (.cells #[.string x] 9)).cell? ((⟨w.heap.size, 0, none⟩ : Addr).add j) = some u := by
  intro j u hj
  match j, hj with
  | 0, hj => simp at hj; subst hj; simp [Addr.add]

/-- an append of one number onto a list of any length that a text can have -/
theorem wpList_appW {w : World} {ops : Array Oper} {rest : List Oper} {o : Oper} {a : Act} {Q : Exit → Act → World → Prop} (hgd : o.guard = none) (s x : Operand)
    (ho : o.op = .call { callee := .builtin .append, args := #[s, x], argTypes := #[32, 32] })
    (base : Nat) (v : Value) (xs : List Int) (y : Int) (hs : a.eval s = v) (hown : OwnI base w v xs) (ad : Addr) (hx : a.eval x = .slice (some ad) 1 1) (hc : ∀ j u, [Value.int .i64 y][j]? = some u → w.cell? (ad.add j) = some u)
    (hlen : xs.length ≤ 1100000) (hbase : base ≤ w.heap.size)
    (h : ∀ v' w', OwnI base w' v' (xs ++ [y]) → w.grownBy w' v.ownBlock → wpList Tryd.prog ops Q rest (a.put o.dst v') w') : wpList Tryd.prog ops Q (o :: rest) a w := by
  obtain ⟨i0, hi, hz0, hz1, hz2⟩ := info_parts infoI
  obtain ⟨v', w', hr, h2, h3, h4⟩ := run_append_own (P := Tryd.prog) w base 32 o.type 2 i0 (.int .i64 0) 1 8 Tryd.underlying32 hi hz0 hz1 hz2 rfl (by decide) v xs.length (xs.map (Value.int .i64)) hown ad 1 1 [.int .i64 y] rfl hc (by intro u hu; simp at hu; subst hu; rfl) (by unfold maxLen; omega) (by omega) hbase
  have h6 : OwnI base w' v' (xs ++ [y]) := by
    unfold OwnI
    rw [List.length_append, List.length_singleton, List.map_append]
    exact h2
  refine wpList_plain hgd fun _ hK => ?_
  unfold Oper.wp execOp
  simp only [ho, resolve, invoke, builtin, Sem.run_bind, Sem.run_pure, Result.andThen_ok, List.map_toArray, List.map_cons, List.map_nil, hs, hx, hr]
  exact hK _ _ (h v' w' h6 h3)

/-! ### the walks -/

def SgPost (l : List UInt8) (w : World) (e : Ending) (w' : World) : Prop := e = .returned (.tuple #[.int .i64 (sgV l), .bool (sgO l)]) ∧ Below w.heap.size w w'

theorem sgV_bd (l : List UInt8) : -9999999999999 ≤ sgV l ∧ sgV l ≤ 9999999999999 := by
  unfold sgV
  have h1 := dgV_bd l
  have h2 := dgV_bd (l.drop 1)
  split <;> omega

set_option maxHeartbeats 400000 in
theorem sg_spec (s : ByteArray) (w : World) (hs : s.size ≤ 1048576) : Calls Tryd.prog 28 #[.string s] w (SgPost s.data.toList w) := by
  by_cases h0 : 0 < s.size
  · have hh := head_of s h0
    by_cases h45 : (s[0]'h0).toNat = 45
    · have h45' : (s[0]'h0) = 45 := UInt8.toNat_inj.1 h45
      have e1 : (((s[0]'h0).toNat : Int) == 45) = true := by simp; omega
      have hl : (s.extract 1 s.size).data.toList = s.data.toList.drop 1 := by
        rw [ext_list, List.take_of_length_le (by simp)]
      have HV : Hid (sgV s.data.toList = -(dgV (s.data.toList.drop 1))) := Lib.hid (by unfold sgV; rw [if_pos (by rw [hh, h45'])])
      have HO : Hid (sgO s.data.toList = (dgO (s.data.toList.drop 1) && decide (0 < dgV (s.data.toList.drop 1)))) := Lib.hid (by unfold sgO; rw [if_pos (by rw [hh, h45'])])
      have hbd := dgV_bd (s.data.toList.drop 1)
      have hez : (s.extract 1 s.size).size ≤ 4611686018427387904 := by rw [ByteArray.size_extract]; omega
      have HD := digs_any (s.extract 1 s.size)
      rw [hl] at HD
      have HDG := Lib.hid HD
      clear HD hl hh h45 h45'
      go_enter Tryd.func28, Tryd.ntmps28
      go_wp2_with fail
      refine (HDG.out _ hez).mono ?_
      rintro e w1 ⟨rfl, hb⟩
      have HB := Lib.hid hb
      clear hb
      obtain ⟨v, hv⟩ : ∃ v, dgV (s.data.toList.drop 1) = v := ⟨_, rfl⟩
      obtain ⟨o, ho⟩ : ∃ o, dgO (s.data.toList.drop 1) = o := ⟨_, rfl⟩
      rw [hv] at hbd HV HO
      rw [ho] at HO
      (try rw [hv])
      (try rw [ho])
      clear hv ho
      cases o
      all_goals
        go_wp2_with fail
        go_ret2
        exact ⟨ret_ib' (by rw [HV.out]) (by rw [HO.out]; simp), HB.out⟩
    · have e1 : (((s[0]'h0).toNat : Int) == 45) = false := by simp; omega
      have hne : ¬ s.data.toList.head? = some 45 := by rw [hh]; intro e; injection e with e; rw [e] at h45; exact h45 rfl
      have HV : Hid (sgV s.data.toList = dgV s.data.toList) := Lib.hid (by unfold sgV; rw [if_neg hne])
      have HO : Hid (sgO s.data.toList = dgO s.data.toList) := Lib.hid (by unfold sgO; rw [if_neg hne])
      clear hne hh h45
      go_enter Tryd.func28, Tryd.ntmps28
      go_wp2_with fail
      refine (digs_any _ _ (by omega)).mono ?_
      rintro e w1 ⟨rfl, hb⟩
      have HB := Lib.hid hb
      clear hb
      go_wp2_with fail
      go_ret2
      exact ⟨ret_ib' (by rw [HV.out]) (by rw [HO.out]), HB.out⟩
  · have hsz : s.data.toList.length = s.size := by simp
    have hn : s.data.toList = [] := List.length_eq_zero_iff.1 (by omega)
    clear hsz
    have hne : ¬ s.data.toList.head? = some 45 := by rw [hn]; simp
    have HV : Hid (sgV s.data.toList = dgV s.data.toList) := Lib.hid (by unfold sgV; rw [if_neg hne])
    have HO : Hid (sgO s.data.toList = dgO s.data.toList) := Lib.hid (by unfold sgO; rw [if_neg hne])
    clear hne hn
    go_enter Tryd.func28, Tryd.ntmps28
    go_wp2_with fail
    refine (digs_any _ _ (by omega)).mono ?_
    rintro e w1 ⟨rfl, hb⟩
    have HB := Lib.hid hb
    clear hb
    go_wp2_with fail
    go_ret2
    exact ⟨ret_ib' (by rw [HV.out]) (by rw [HO.out]), HB.out⟩

def SplitPost (s : ByteArray) (w : World) (e : Ending) (w' : World) : Prop :=
  ∃ (g c : Nat) (W : List ByteArray), e = .returned (.slice (some ⟨g, 0, none⟩) W.length c) ∧ W.map (fun x : ByteArray => x.data.toList) = sp s.data.toList ∧ W.length ≤ s.size + 1 ∧ (∀ i, i < W.length → w'.cell? ⟨g, i, none⟩ = some (.string (W.getD i ByteArray.empty))) ∧ Below w.heap.size w w'

end Go.Proofs.YtnppkdnmkhoeeaaDoor
