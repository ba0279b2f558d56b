/- Merged: Wrd, Spl, RtS, Par. -/
import Derived.Test.YtonkaoacohocjaaDoorLt3
import Derived.Test.YtonkaoacohocjaaDoorLt5
import Derived.Test.YtonkaoacohocjaaDoorLt6
import Derived.Test.YtonkaoacohocjaaDoorLt8

/- Words of a text: what the model's cutting gives; slices of words that are appended to. -/
namespace Go.Proofs.YtonkaoacohocjaaDoor
open Go.ChangeShapes Go.WideShapes Go.ChangeAt Go.RowKit
set_option linter.unusedVariables false
set_option maxRecDepth 100000

theorem sp_blank (l : List UInt8) : sp (l ++ [32]) = sp l ++ [[]] := by
  induction l with
  | nil => rfl
  | cons b t ih =>
    rw [List.cons_append]
    by_cases h : b = 32
    · subst h; rw [sp, if_pos rfl, sp, if_pos rfl, ih]; rfl
    · rw [sp, if_neg h, sp, if_neg h, ih]
      cases hs : sp t with
      | nil => exact absurd hs (sp_ne t)
      | cons w ws => simp

theorem sp_other (l : List UInt8) (c : UInt8) (h : c ≠ 32) (W : List (List UInt8)) (u : List UInt8) (hs : sp l = W ++ [u]) : sp (l ++ [c]) = W ++ [u ++ [c]] := by
  induction l generalizing W u with
  | nil =>
    have e : W = [] ∧ u = [] := by
      cases W with
      | nil => simp [sp] at hs; exact ⟨rfl, hs⟩
      | cons x t => simp [sp] at hs
    obtain ⟨rfl, rfl⟩ := e
    simp [sp, h]
  | cons b t ih =>
    rw [List.cons_append]
    by_cases hb : b = 32
    · subst hb
      rw [sp, if_pos rfl] at hs ⊢
      cases W with
      | nil => simp at hs; exact absurd hs.2 (sp_ne t)
      | cons x W' =>
        simp at hs
        obtain ⟨rfl, hs⟩ := hs
        rw [ih W' u hs]; rfl
    · rw [sp, if_neg hb] at hs ⊢
      cases hst : sp t with
      | nil => exact absurd hst (sp_ne t)
      | cons w ws =>
        rw [hst] at hs
        cases W with
        | nil =>
          simp at hs
          obtain ⟨rfl, rfl⟩ := hs
          rw [ih [] w (by rw [hst]; rfl)]
          simp
        | cons x W' =>
          simp at hs
          obtain ⟨rfl, hs⟩ := hs
          rw [ih (w :: W') u (by rw [hst, hs]; rfl)]
          simp

/-- how far the model's cutting has come: the words that are complete, and where the next one begins -/
def CutAt (s : ByteArray) (W : List ByteArray) (f k : Nat) : Prop := f ≤ k ∧ k ≤ s.size ∧ W.map (·.data.toList) ++ [(s.data.toList.take k).drop f] = sp (s.data.toList.take k)

theorem ext_list (s : ByteArray) (f k : Nat) : (s.extract f k).data.toList = (s.data.toList.take k).drop f := by
  rw [ByteArray.data_extract, Array.toList_extract, List.extract_eq_take_drop, List.drop_take]

theorem cut_zero (s : ByteArray) : CutAt s [] 0 0 := ⟨by omega, by omega, by simp [sp]⟩

theorem CutAt.blank {s : ByteArray} {W : List ByteArray} {f k : Nat} (h : CutAt s W f k) (hk : k < s.size) (hb : s[k] = 32) : CutAt s (W ++ [s.extract f k]) (k + 1) (k + 1) := by
  obtain ⟨h1, h2, h3⟩ := h
  have hl : s.data.toList.length = s.size := by simp
  refine ⟨by omega, by omega, ?_⟩
  rw [take_snoc8 s k hk, hb, sp_blank, ← h3, List.map_append, List.map_cons, List.map_nil, ext_list]
  have e : (s.data.toList.take k ++ [32]).drop (k + 1) = [] := List.drop_of_length_le (by simp; omega)
  rw [e]

theorem CutAt.other {s : ByteArray} {W : List ByteArray} {f k : Nat} (h : CutAt s W f k) (hk : k < s.size) (hb : s[k] ≠ 32) : CutAt s W f (k + 1) := by
  obtain ⟨h1, h2, h3⟩ := h
  have hl : s.data.toList.length = s.size := by simp
  refine ⟨by omega, by omega, ?_⟩
  rw [take_snoc8 s k hk, sp_other _ _ hb _ _ h3.symm]
  rw [List.drop_append_of_le_length (by simp; omega)]

theorem CutAt.done {s : ByteArray} {W : List ByteArray} {f : Nat} (h : CutAt s W f s.size) : (W ++ [s.extract f s.size]).map (·.data.toList) = sp s.data.toList := by
  obtain ⟨h1, h2, h3⟩ := h
  rw [List.map_append, List.map_cons, List.map_nil, ext_list, h3]
  congr 1
  exact List.take_of_length_le (by simp)

theorem CutAt.len {s : ByteArray} {W : List ByteArray} {f k : Nat} (h : CutAt s W f k) : W.length ≤ k := by
  obtain ⟨h1, h2, h3⟩ := h
  have := congrArg List.length h3
  have h4 := (sp_short (s.data.toList.take k)).1
  simp at this h4
  omega

/-! ### slices of words of the call's own -/

/-- a slice of words of the call's own, in blocks from 'base' on -/
def OwnS (base : Nat) (w : World) (v : Value) (ss : List ByteArray) : Prop := w.ownsRow base 9 1 v ss.length (ss.map Value.string)

theorem infoS : (Tryd.prog.info? 9).map (fun i => (i.zero, i.size, i.bytes)) = some (some (.string ByteArray.empty), 1, 16) := by kernel_rfl

theorem ownS_new (w : World) : OwnS w.heap.size (w.alloc (.cells #[] 9)) (.slice (some ⟨w.heap.size, 0, none⟩) 0 0) [] :=
  World.ownsRow_lit w #[] 0 (Nat.le_refl _) (Nat.zero_le _) rfl

theorem OwnS.mono {base b2 : Nat} {w : World} {v : Value} {xs : List ByteArray} (h : OwnS base w v xs) (hb : b2 ≤ base) : OwnS b2 w v xs := by
  obtain ⟨h0, h1 | ⟨g, cap, cur, hv, hg, hh, r⟩⟩ := h
  · exact ⟨h0, .inl h1⟩
  · exact ⟨h0, .inr ⟨g, cap, cur, hv, by omega, hh, r⟩⟩

/-- its shape, and what its cells hold -/
theorem OwnS.cells {base : Nat} {w : World} {v : Value} {xs : List ByteArray} (h : OwnS base w v xs) (hl : 0 < xs.length) : ∃ g c, v = .slice (some ⟨g, 0, none⟩) xs.length c ∧ base ≤ g ∧ ∀ i, i < xs.length → w.cell? ⟨g, i, none⟩ = some (.string (xs.getD i ByteArray.empty)) := by
  have hh := h
  obtain ⟨h0, ⟨rfl, hn⟩ | ⟨g, cap, cur, rfl, hg, hb, r⟩⟩ := h
  · omega
  · refine ⟨g, cap, rfl, hg, fun i hi => ?_⟩
    rw [hh.cellAt i (by omega)]
    simp [List.getD, hi]

theorem ownS_step {base : Nat} {wr w1 : World} {v v' : Value} {xs : List ByteArray} {x : ByteArray} {o : Obj} (hown : OwnS base wr v xs) (hbs : base ≤ wr.heap.size)
    (hown' : w1.ownsRow base 9 1 v' (xs.length + 1) (xs.map Value.string ++ [.string x])) (hg : (wr.alloc o).grownBy w1 v.ownBlock) :
    OwnS base w1 v' (xs ++ [x]) ∧ Below base wr w1 := by
  constructor
  · unfold OwnS
    rw [List.length_append, List.length_singleton, List.map_append]
    exact hown'
  · exact ((Below.refl _ _).alloc hbs o).grown hg (by simp; omega) fun k hk => (hown.lt k hk).1

theorem wpList_appS {w : World} {ops : Array Oper} {rest : List Oper} {o : Oper} {a : Act} {Q : Exit → Act → World → Prop} (hgd : o.guard = none) (s x : Operand)
    (ho : o.op = .call { callee := .builtin .append, args := #[s, x], argTypes := #[58, 58] })
    (base : Nat) (v : Value) (xs : List ByteArray) (y : ByteArray) (hs : a.eval s = v) (hown : OwnS base w v xs) (ad : Addr) (hx : a.eval x = .slice (some ad) 1 1) (hc : ∀ j u, [Value.string y][j]? = some u → w.cell? (ad.add j) = some u)
    (hlen : xs.length ≤ 1100000) (hbase : base ≤ w.heap.size)
    (h : ∀ v' w', OwnS base w' v' (xs ++ [y]) → w.grownBy w' v.ownBlock → wpList Tryd.prog ops Q rest (a.put o.dst v') w') : wpList Tryd.prog ops Q (o :: rest) a w := by
  obtain ⟨i0, hi, hz0, hz1, hz2⟩ := info_parts infoS
  obtain ⟨v', w', hr, h2, h3, h4⟩ := run_append_own (P := Tryd.prog) w base 58 o.type 9 i0 (.string ByteArray.empty) 1 16 Tryd.underlying58 hi hz0 hz1 hz2 rfl (by decide) v xs.length (xs.map Value.string) hown ad 1 1 [.string y] rfl hc (by intro u hu; simp at hu; subst hu; rfl) (by unfold maxLen; omega) (by omega) hbase
  have h6 : OwnS base w' v' (xs ++ [y]) := by
    unfold OwnS
    rw [List.length_append, List.length_singleton, List.map_append]
    exact h2
  refine wpList_plain hgd fun _ hK => ?_
  unfold Oper.wp execOp
  simp only [ho, resolve, invoke, builtin, Sem.run_bind, Sem.run_pure, Result.andThen_ok, List.map_toArray, List.map_cons, List.map_nil, hs, hx, hr]
  exact hK _ _ (h v' w' h6 h3)

theorem one_newS (w : World) (x : ByteArray) : ∀ j u, [Value.string x][j]? = some u → (w.alloc (.cells #[.string x] 9)).cell? ((⟨w.heap.size, 0, none⟩ : Addr).add j) = some u := by
  intro j u hj
  match j, hj with
  | 0, hj => simp at hj; subst hj; simp [Addr.add]

/-- an append of one number onto a list of any length that a text can have -/
theorem wpList_appW {w : World} {ops : Array Oper} {rest : List Oper} {o : Oper} {a : Act} {Q : Exit → Act → World → Prop} (hgd : o.guard = none) (s x : Operand)
    (ho : o.op = .call { callee := .builtin .append, args := #[s, x], argTypes := #[24, 24] })
    (base : Nat) (v : Value) (xs : List Int) (y : Int) (hs : a.eval s = v) (hown : OwnI base w v xs) (ad : Addr) (hx : a.eval x = .slice (some ad) 1 1) (hc : ∀ j u, [Value.int .i64 y][j]? = some u → w.cell? (ad.add j) = some u)
    (hlen : xs.length ≤ 1100000) (hbase : base ≤ w.heap.size)
    (h : ∀ v' w', OwnI base w' v' (xs ++ [y]) → w.grownBy w' v.ownBlock → wpList Tryd.prog ops Q rest (a.put o.dst v') w') : wpList Tryd.prog ops Q (o :: rest) a w := by
  obtain ⟨i0, hi, hz0, hz1, hz2⟩ := info_parts infoI
  obtain ⟨v', w', hr, h2, h3, h4⟩ := run_append_own (P := Tryd.prog) w base 24 o.type 2 i0 (.int .i64 0) 1 8 Tryd.underlying24 hi hz0 hz1 hz2 rfl (by decide) v xs.length (xs.map (Value.int .i64)) hown ad 1 1 [.int .i64 y] rfl hc (by intro u hu; simp at hu; subst hu; rfl) (by unfold maxLen; omega) (by omega) hbase
  have h6 : OwnI base w' v' (xs ++ [y]) := by
    unfold OwnI
    rw [List.length_append, List.length_singleton, List.map_append]
    exact h2
  refine wpList_plain hgd fun _ hK => ?_
  unfold Oper.wp execOp
  simp only [ho, resolve, invoke, builtin, Sem.run_bind, Sem.run_pure, Result.andThen_ok, List.map_toArray, List.map_cons, List.map_nil, hs, hx, hr]
  exact hK _ _ (h v' w' h6 h3)

/-! ### the walks -/

def SgPost (l : List UInt8) (w : World) (e : Ending) (w' : World) : Prop := e = .returned (.tuple #[.int .i64 (sgV l), .bool (sgO l)]) ∧ Below w.heap.size w w'

theorem sgV_bd (l : List UInt8) : -9999999999999 ≤ sgV l ∧ sgV l ≤ 9999999999999 := by
  unfold sgV
  have h1 := dgV_bd l
  have h2 := dgV_bd (l.drop 1)
  split <;> omega

set_option maxHeartbeats 400000 in
theorem sg_spec (s : ByteArray) (w : World) (hs : s.size ≤ 1048576) : Calls Tryd.prog 56 #[.string s] w (SgPost s.data.toList w) := by
  by_cases h0 : 0 < s.size
  · have hh := head_of s h0
    by_cases h45 : (s[0]'h0).toNat = 45
    · have h45' : (s[0]'h0) = 45 := UInt8.toNat_inj.1 h45
      have e1 : (((s[0]'h0).toNat : Int) == 45) = true := by simp; omega
      have hl : (s.extract 1 s.size).data.toList = s.data.toList.drop 1 := by
        rw [ext_list, List.take_of_length_le (by simp)]
      have HV : Hid (sgV s.data.toList = -(dgV (s.data.toList.drop 1))) := Lib.hid (by unfold sgV; rw [if_pos (by rw [hh, h45'])])
      have HO : Hid (sgO s.data.toList = (dgO (s.data.toList.drop 1) && decide (0 < dgV (s.data.toList.drop 1)))) := Lib.hid (by unfold sgO; rw [if_pos (by rw [hh, h45'])])
      have hbd := dgV_bd (s.data.toList.drop 1)
      have hez : (s.extract 1 s.size).size ≤ 4611686018427387904 := by rw [ByteArray.size_extract]; omega
      have HD := digs_any (s.extract 1 s.size)
      rw [hl] at HD
      have HDG := Lib.hid HD
      clear HD hl hh h45 h45'
      go_enter Tryd.func56, Tryd.ntmps56
      go_wp2_with fail
      refine (HDG.out _ hez).mono ?_
      rintro e w1 ⟨rfl, hb⟩
      have HB := Lib.hid hb
      clear hb
      obtain ⟨v, hv⟩ : ∃ v, dgV (s.data.toList.drop 1) = v := ⟨_, rfl⟩
      obtain ⟨o, ho⟩ : ∃ o, dgO (s.data.toList.drop 1) = o := ⟨_, rfl⟩
      rw [hv] at hbd HV HO
      rw [ho] at HO
      (try rw [hv])
      (try rw [ho])
      clear hv ho
      cases o
      all_goals
        go_wp2_with fail
        go_ret2
        exact ⟨ret_ib' (by rw [HV.out]) (by rw [HO.out]; simp), HB.out⟩
    · have e1 : (((s[0]'h0).toNat : Int) == 45) = false := by simp; omega
      have hne : ¬ s.data.toList.head? = some 45 := by rw [hh]; intro e; injection e with e; rw [e] at h45; exact h45 rfl
      have HV : Hid (sgV s.data.toList = dgV s.data.toList) := Lib.hid (by unfold sgV; rw [if_neg hne])
      have HO : Hid (sgO s.data.toList = dgO s.data.toList) := Lib.hid (by unfold sgO; rw [if_neg hne])
      clear hne hh h45
      go_enter Tryd.func56, Tryd.ntmps56
      go_wp2_with fail
      refine (digs_any _ _ (by omega)).mono ?_
      rintro e w1 ⟨rfl, hb⟩
      have HB := Lib.hid hb
      clear hb
      go_wp2_with fail
      go_ret2
      exact ⟨ret_ib' (by rw [HV.out]) (by rw [HO.out]), HB.out⟩
  · have hsz : s.data.toList.length = s.size := by simp
    have hn : s.data.toList = [] := List.length_eq_zero_iff.1 (by omega)
    clear hsz
    have hne : ¬ s.data.toList.head? = some 45 := by rw [hn]; simp
    have HV : Hid (sgV s.data.toList = dgV s.data.toList) := Lib.hid (by unfold sgV; rw [if_neg hne])
    have HO : Hid (sgO s.data.toList = dgO s.data.toList) := Lib.hid (by unfold sgO; rw [if_neg hne])
    clear hne hn
    go_enter Tryd.func56, Tryd.ntmps56
    go_wp2_with fail
    refine (digs_any _ _ (by omega)).mono ?_
    rintro e w1 ⟨rfl, hb⟩
    have HB := Lib.hid hb
    clear hb
    go_wp2_with fail
    go_ret2
    exact ⟨ret_ib' (by rw [HV.out]) (by rw [HO.out]), HB.out⟩

def SplitPost (s : ByteArray) (w : World) (e : Ending) (w' : World) : Prop :=
  ∃ (g c : Nat) (W : List ByteArray), e = .returned (.slice (some ⟨g, 0, none⟩) W.length c) ∧ W.map (fun x : ByteArray => x.data.toList) = sp s.data.toList ∧ W.length ≤ s.size + 1 ∧ (∀ i, i < W.length → w'.cell? ⟨g, i, none⟩ = some (.string (W.getD i ByteArray.empty))) ∧ Below w.heap.size w w'

end Go.Proofs.YtonkaoacohocjaaDoor

/- The model's cutting of a text into words, and its reading of words as numbers: what the calls return. -/
namespace Go.Proofs.YtonkaoacohocjaaDoor
open Go.ChangeShapes Go.WideShapes Go.ChangeAt Go.RowKit
set_option linter.unusedVariables false
set_option maxRecDepth 100000

/-- the cutting goes on, or all words are there -/
def CutR (s : ByteArray) (W : List ByteArray) (f k : Nat) : Prop := CutAt s W f k ∨ (k = s.size + 1 ∧ f = k ∧ W.length ≤ k ∧ W.map (fun x : ByteArray => x.data.toList) = sp s.data.toList)

theorem CutR.len {s : ByteArray} {W : List ByteArray} {f k : Nat} (h : CutR s W f k) : W.length ≤ k ∧ k ≤ s.size + 1 ∧ f ≤ k := by
  rcases h with h | ⟨rfl, rfl, h, _⟩
  · exact ⟨h.len, by have := h.2.1; omega, h.1⟩
  · exact ⟨h, by omega, by omega⟩

set_option maxHeartbeats 1000000 in
theorem split_spec (s : ByteArray) (w : World) (hs : s.size ≤ 1048576) : Calls Tryd.prog 36 #[.string s, .int .u8 32] w (SplitPost s w) := by
  go_enter Tryd.func36, Tryd.ntmps36
  go_wp2_with fail
  have HO0 := Lib.hid (ownS_new w)
  go_loopw [5, 6, 7] (fun v f i wr => ∃ (W : List ByteArray) (fk k : Nat), f = .int .i64 fk ∧ i = .int .i64 k ∧ Hid (CutR s W fk k) ∧ Hid (OwnS w.heap.size wr v W) ∧ Hid (Below w.heap.size w wr)) (fun _ _ i _ => s.size + 1 - (intOf i).toNat)
  case atStart => exact ⟨[], 0, 0, rfl, rfl, Lib.hid (.inl (cut_zero s)), HO0, Lib.hid (box_b _ _)⟩
  case round =>
    obtain ⟨W, fk, k, rfl, rfl, HC, HO, HB⟩ := hrel
    obtain ⟨l0, l1, l2⟩ := HC.out.len
    have hbs := HB.out.size
    have hown := HO.out
    by_cases hk : k ≤ s.size
    · have hcut : CutAt s W fk k := by
        rcases HC.out with h | ⟨h, _⟩
        · exact h
        · omega
      clear HC
      by_cases hlt : k < s.size
      · have hkn : ((k : Int) == (s.size : Int)) = false := by simp; omega
        by_cases hc : s[k] = 32
        · have e1 : (((s[k]'hlt).toNat : Int) == 32) = true := by rw [hc]; rfl
          have HN := Lib.hid (hcut.blank hlt hc)
          clear hcut hc
          go_wp2_with (at_builtin; refine wpList_appS rfl _ _ rfl w.heap.size _ W (s.extract fk k) rfl (hown.alloc _) ⟨wr.heap.size, 0, none⟩ rfl (one_newS wr _) (by omega) (by simp; omega) ?_)
          intro v' w5 hown' hgrow
          have HO5 := Lib.hid hown'
          have HB5 := Lib.hid ((HB.out.alloc hbs _).grown hgrow (by simp; omega) (fun k hk => (hown.lt k hk).1))
          clear hown' hgrow hown HO
          go_wp2_with fail
          go_roundw
          case rel => exact ⟨_, k + 1, k + 1, by go_num, by go_num, Lib.hid (.inl HN.out), HO5, HB5⟩
          case measure => simp [intOf]; omega
        · have e1 : (((s[k]'hlt).toNat : Int) == 32) = false := by
            have : ¬ (s[k]'hlt).toNat = 32 := fun e => hc (UInt8.toNat_inj.1 e)
            simp; omega
          have HN := Lib.hid (hcut.other hlt hc)
          clear hcut hc
          go_wp2_with fail
          go_roundw
          case rel => exact ⟨_, fk, k + 1, rfl, by go_num, Lib.hid (.inl HN.out), HO, HB⟩
          case measure => simp [intOf]; omega
      · obtain rfl : k = s.size := by omega
        have hkn : ((s.size : Int) == (s.size : Int)) = true := by simp
        have HN : Hid (CutR s (W ++ [s.extract fk s.size]) (s.size + 1) (s.size + 1)) := Lib.hid (.inr ⟨rfl, rfl, by rw [List.length_append, List.length_singleton]; omega, hcut.done⟩)
        clear hcut
        go_wp2_with (at_builtin; refine wpList_appS rfl _ _ rfl w.heap.size _ W (s.extract fk s.size) rfl (hown.alloc _) ⟨wr.heap.size, 0, none⟩ rfl (one_newS wr _) (by omega) (by simp; omega) ?_)
        intro v' w5 hown' hgrow
        have HO5 := Lib.hid hown'
        have HB5 := Lib.hid ((HB.out.alloc hbs _).grown hgrow (by simp; omega) (fun k hk => (hown.lt k hk).1))
        clear hown' hgrow hown HO
        go_wp2_with fail
        go_roundw
        case rel => exact ⟨_, s.size + 1, s.size + 1, by go_num, by go_num, HN, HO5, HB5⟩
        case measure => simp [intOf]
    · have hw : W.map (fun x : ByteArray => x.data.toList) = sp s.data.toList ∧ k = s.size + 1 := by
        rcases HC.out with h | ⟨h, _, _, g⟩
        · have := h.2.1; omega
        · exact ⟨g, h⟩
      obtain ⟨hw, rfl⟩ := hw
      have hp : 0 < W.length := by
        have h1 := congrArg List.length hw
        have h2 := List.length_pos_iff.2 (sp_ne s.data.toList)
        rw [List.length_map] at h1; omega
      obtain ⟨g, c, rfl, hg, hcs⟩ := hown.cells hp
      have HCS := Lib.hid hcs
      have HW := Lib.hid hw
      clear hcs hw hown HO HC
      go_wp2_with fail
      go_ret
      exact ⟨g, c, W, rfl, HW.out, by omega, HCS.out, HB.out⟩

def NumsPost (L : List (List UInt8)) (w : World) (e : Ending) (w' : World) : Prop :=
  ((L.all sgO = true ∧ ∃ v, e = .returned (.tuple #[v, .bool true]) ∧ OwnI w.heap.size w' v (L.map sgV)) ∨ (L.all sgO = false ∧ e = .returned (.tuple #[.slice none 0 0, .bool false]))) ∧ Below w.heap.size w w'

theorem take_map_snoc {L : List (List UInt8)} {k : Nat} (h : k < L.length) : (L.take (k + 1)).map sgV = (L.take k).map sgV ++ [sgV (L.getD k [])] := by
  have e : L.getD k [] = L[k] := by simp [List.getD, h]
  rw [List.take_add_one, List.getElem?_eq_getElem h, e]
  show ((L.take k) ++ [L[k]]).map sgV = _
  rw [List.map_append]; rfl

theorem take_all_snoc {L : List (List UInt8)} {k : Nat} (h : k < L.length) (h1 : (L.take k).all sgO = true) (h2 : sgO (L.getD k []) = true) : (L.take (k + 1)).all sgO = true := by
  rw [List.take_add_one, List.getElem?_eq_getElem h, List.all_append, h1]
  simp [List.getD, h] at h2 ⊢
  exact h2

theorem all_bad {L : List (List UInt8)} {k : Nat} (h : k < L.length) (h2 : sgO (L.getD k []) = false) : L.all sgO = false := by
  rw [Bool.eq_false_iff]
  intro hh
  rw [List.all_eq_true] at hh
  have := hh (L.getD k []) (by simp [List.getD, h])
  rw [h2] at this; cases this

set_option maxHeartbeats 1000000 in
theorem nums_spec (W : List ByteArray) (L : List (List UInt8)) (hL : W.map (fun x : ByteArray => x.data.toList) = L) (g n c : Nat) (hn : W.length = n) (hn1 : n ≤ 1100000) (hz : ∀ l ∈ L, l.length ≤ 1048576) (w : World) (hgl : g < w.heap.size)
    (hc : ∀ i, i < n → w.cell? ⟨g, i, none⟩ = some (.string (W.getD i ByteArray.empty))) :
    Calls Tryd.prog 35 #[.slice (some ⟨g, 0, none⟩) n c] w (NumsPost L w) := by
  have hLn : L.length = n := by rw [← hL]; simpa using hn
  have hLg : ∀ i, i < n → (W.getD i ByteArray.empty).data.toList = L.getD i [] := by
    intro i hi
    rw [← hL]
    simp [List.getD, show i < W.length by omega]
  have HLN := Lib.hid hLn
  have HLG := Lib.hid hLg
  have HZ := Lib.hid hz
  have HC := Lib.hid hc
  clear hc hz hLg hLn hL hn
  go_enter Tryd.func35, Tryd.ntmps35
  go_wp2_with fail
  have HO0 := Lib.hid (ownI_new w)
  go_loopw [4, 5] (fun v i wr => ∃ k : Nat, k ≤ n ∧ i = .int .i64 k ∧ Hid (OwnI w.heap.size wr v ((L.take k).map sgV)) ∧ Hid ((L.take k).all sgO = true) ∧ Hid (Below w.heap.size w wr)) (fun _ i _ => n - (intOf i).toNat)
  case atStart => exact ⟨0, Nat.zero_le _, rfl, HO0, Lib.hid (by simp), Lib.hid (box_b _ _)⟩
  case round =>
    obtain ⟨k, hk, rfl, HO, HA, HB⟩ := hrel
    have hbs := HB.out.size
    by_cases hlt : k < n
    · have hx := (HB.out.cell (p := ⟨g, k, none⟩) hgl).trans (HC.out k hlt)
      have hxl := HLG.out k hlt
      have hmem : L.getD k [] ∈ L := by have := HLN.out; simp [List.getD, show k < L.length by omega]
      have hxz := HZ.out _ hmem
      have HTM := Lib.hid (take_map_snoc (L := L) (k := k) (by rw [HLN.out]; exact hlt))
      have HTA : Hid (sgO (L.getD k []) = true → (L.take (k + 1)).all sgO = true) := Lib.hid (fun h2 => take_all_snoc (by rw [HLN.out]; exact hlt) HA.out h2)
      have HTB : Hid (sgO (L.getD k []) = false → L.all sgO = false) := Lib.hid (fun h2 => all_bad (by rw [HLN.out]; exact hlt) h2)
      obtain ⟨x, hx0⟩ : ∃ x, W.getD k ByteArray.empty = x := ⟨_, rfl⟩
      rw [hx0] at hx hxl
      have hsz : x.size ≤ 1048576 := by
        have : x.data.toList.length = x.size := by simp
        rw [← this, hxl]; exact hxz
      have HSG := Lib.hid (fun W1 => sg_spec x W1 hsz)
      rw [hxl] at HSG
      obtain ⟨y, hy⟩ : ∃ y, L.getD k [] = y := ⟨_, rfl⟩
      rw [hy] at HSG HTM HTA HTB
      have hbd := sgV_bd y
      obtain ⟨u, hu⟩ : ∃ u, sgV y = u := ⟨_, rfl⟩
      obtain ⟨o, ho⟩ : ∃ o, sgO y = o := ⟨_, rfl⟩
      unfold SgPost at HSG
      rw [hu] at HSG HTM hbd
      rw [ho] at HSG HTA HTB
      obtain ⟨Z, hZ⟩ : ∃ Z, (L.take k).map sgV = Z := ⟨_, rfl⟩
      have hZl : Z.length ≤ k := by rw [← hZ]; simp; omega
      rw [hZ] at HO HTM
      clear hx0 hxl hmem hxz hy hu ho hZ
      cases o with
      | true =>
        go_wp2_with fail
        refine (HSG.out _).mono ?_
        rintro e w1 ⟨rfl, hb1⟩
        have hB1 := HB.out.trans (hb1.mono hbs)
        have hown := OwnI.same (w' := w1) HO.out fun j hj hl => hb1.block j hl
        have hbs1 := hB1.size
        have HB1 := Lib.hid hB1
        clear hb1 hB1
        go_wp2_with (at_builtin; refine wpList_appW rfl _ _ rfl w.heap.size _ Z u rfl (hown.same (fun k hk hl => Below.heap_alloc _ _ _ hl)) ⟨w1.heap.size, 0, none⟩ rfl (one_newT w1 u) (by omega) (by simp; omega) ?_)
        intro v' w5 hown' hgrow
        have HO5 := Lib.hid hown'
        have HB5 := Lib.hid ((HB1.out.alloc hbs1 _).grown hgrow (by simp; omega) (fun k hk => (hown.lt k hk).1))
        clear hown' hgrow hown
        go_wp2_with fail
        go_roundw
        case rel => exact ⟨k + 1, by omega, by go_num, Lib.hid (by rw [HTM.out]; exact HO5.out), Lib.hid (HTA.out trivial), HB5⟩
        case measure => simp [intOf]; omega
      | false =>
        go_wp2_with fail
        refine (HSG.out _).mono ?_
        rintro e w1 ⟨rfl, hb1⟩
        have HB1 := Lib.hid (HB.out.trans (hb1.mono hbs))
        clear hb1
        go_wp2_with fail
        go_ret2
        exact ⟨.inr ⟨HTB.out trivial, rfl⟩, HB1.out⟩
    · obtain rfl : k = n := by omega
      have HX : Hid (L.take k = L) := Lib.hid (List.take_of_length_le (by rw [HLN.out]; exact Nat.le_refl _))
      go_wp2_with fail
      go_ret2
      exact ⟨.inl ⟨by have := HA.out; rw [HX.out] at this; exact this, _, rfl, by have := HO.out; rw [HX.out] at this; exact this⟩, HB.out⟩

end Go.Proofs.YtonkaoacohocjaaDoor

/- ReadTable of the model: what the calls return. -/
namespace Go.Proofs.YtonkaoacohocjaaDoor
open Go.ChangeShapes Go.WideShapes Go.ChangeAt Go.RowKit
set_option linter.unusedVariables false
set_option maxRecDepth 100000

/-- what ReadTable hands over: its first age, its lives -/
def trF (l : List UInt8) : Int := if rtO l = true then rnF l else 0

def trY (l : List UInt8) : List Int := if rtO l = true then rnL l else []

def TrPost (l : List UInt8) (w : World) (e : Ending) (w' : World) : Prop :=
  ∃ a n c, e = .returned (.tuple #[.agg #[.int .i64 (trF l), .slice a n c], .bool (rtO l)]) ∧ n ≤ c ∧ TbR w.heap.size w' a n (trY l) ∧ Below w.heap.size w w'

theorem TrPost.bad {l : List UInt8} {w w' : World} (h : rtO l = false) (hb : Below w.heap.size w w') : TrPost l w (.returned (.tuple #[.agg #[.int .i64 0, .slice none 0 0], .bool false])) w' :=
  ⟨none, 0, 0, by simp [trF, h], Nat.le_refl _, ⟨by simp [trY, h], by omega, .inl ⟨rfl, rfl⟩⟩, hb⟩

theorem TrPost.good {l : List UInt8} {w w' : World} {g off n c : Nat} {F : Int} {Y : List Int} (h : rtO l = true) (hF : rnF l = F) (hY : rnL l = Y) (hn : Y.length = n) (hnc : n ≤ c) (hm : n ≤ 4096) (hg : w.heap.size ≤ g) (hl : g < w'.heap.size) (hr : RowI w' g off Y) (hb : Below w.heap.size w w') :
    TrPost l w (.returned (.tuple #[.agg #[.int .i64 F, .slice (some ⟨g, off, none⟩) n c], .bool true])) w' :=
  ⟨some ⟨g, off, none⟩, n, c, by simp [trF, h, hF], hnc, ⟨by simp [trY, h, hY, hn], hm, .inr ⟨g, off, rfl, hg, hl, by simpa [trY, h, hY] using hr⟩⟩, hb⟩

theorem RowI.drop {w : World} {g off : Nat} {x : Int} {ys : List Int} (h : RowI w g off (x :: ys)) : RowI w g (off + 1) ys :=
  ⟨fun i hi => by have := h.cell (i + 1) (by simpa using hi); rw [show off + 1 + i = off + (i + 1) by omega, this, getD_cons_succ], fun i hi => by have := h.free (i + 1) (by simpa using hi); rw [show off + 1 + i = off + (i + 1) by omega]; exact this⟩

/-- a block of two cells that had just been laid when a call was made: not frozen behind it -/
theorem box2f {w w1 : World} {x y : Value} {T : TypeId} (hb : Below (w.alloc (.cells #[x, y] T)).heap.size (w.alloc (.cells #[x, y] T)) w1) (i : Nat) (hi : i < 2) : w1.frozen? ⟨w.heap.size, i, none⟩ = false := by
  refine (hb.frozen (p := ⟨w.heap.size, i, none⟩) (by simp)).trans ?_
  match i, hi with
  | 0, _ => go_simp
  | 1, _ => go_simp

theorem keepf {w1 w2 : World} {p : Addr} (hb : Below w1.heap.size w1 w2) (hl : p.block < w1.heap.size) (h : w1.frozen? p = false) : w2.frozen? p = false := (hb.frozen hl).trans h

/-- the result's two cells are written -/
theorem TrPost.put {l : List UInt8} {w w' : World} {X : Nat} {e : Ending} {u v : Value} (h : TrPost l w e w') (hX : w.heap.size = X) (hne : ∀ F a n c o, e = .returned (.tuple #[.agg #[F, .slice a n c], o]) → ∀ x, a = some x → x.block ≠ X) :
    TrPost l w e ((w'.setCell ⟨X, 0, none⟩ u).setCell ⟨X, 1, none⟩ v) := by
  subst hX
  obtain ⟨a, n, c, rfl, hnc, ⟨h1, h2, h3⟩, hb⟩ := h
  have hn := hne _ _ _ _ _ rfl
  refine ⟨a, n, c, rfl, hnc, ⟨h1, h2, ?_⟩, (hb.setCell (p := ⟨w.heap.size, 0, none⟩) (Nat.le_refl _) _).setCell (p := ⟨w.heap.size, 1, none⟩) (Nat.le_refl _) _⟩
  rcases h3 with h3 | ⟨g, off, rfl, hg, hl, hr⟩
  · exact .inl h3
  · exact .inr ⟨g, off, rfl, hg, by simpa [World.setCell] using hl, hr.only (((Only.refl w.heap.size w').setCell (p := ⟨w.heap.size, 0, none⟩) rfl _).setCell (p := ⟨w.heap.size, 1, none⟩) rfl _) (hn _ rfl)⟩

set_option maxHeartbeats 1000000 in
theorem rt_spec (s : ByteArray) (w : World) (hs : s.size ≤ 1048576) : Calls Tryd.prog 15 #[.string s] w (TrPost s.data.toList w) := by
  have HSP := Lib.hid (fun W => split_spec s W hs)
  have hsz : s.data.toList.length = s.size := by simp
  have hsh := sp_short s.data.toList
  have HST := Lib.hid (st_eq s.data.toList)
  obtain ⟨l, hl⟩ : ∃ l, s.data.toList = l := ⟨_, rfl⟩
  unfold SplitPost at HSP
  rw [hl] at HSP hsz hsh HST
  (try rw [hl])
  have HSH := Lib.hid hsh
  clear hl hsh
  go_enter Tryd.func15, Tryd.ntmps15
  go_wp2_with fail
  refine (HSP.out _).mono ?_
  rintro e w1 ⟨g, c, W, rfl, hW, hWl, hcs, hb1⟩
  obtain ⟨hB1, hc0, hc1⟩ := box2 hb1
  have hf0 := box2f hb1 0 (by omega)
  have hf1 := box2f hb1 1 (by omega)
  have hp : 0 < W.length := by
    have h1 := congrArg List.length hW
    have h2 := List.length_pos_iff.2 (sp_ne l)
    rw [List.length_map] at h1; omega
  have hgl := block_lt (hcs 0 hp)
  have HN := Lib.hid (nums_spec W (sp l) hW g W.length c rfl (by omega) (fun x hx => by have := HSH.out.2 x hx; omega) w1 hgl hcs)
  have HB1 := Lib.hid hB1
  have hbs1 := hB1.size
  clear hcs hb1 hB1 hgl hW
  go_wp2_with fail
  refine HN.out.mono ?_
  rintro e w2 ⟨hres, hb2⟩
  have hd0 := keep2 hb2 hc0
  have hd1 := keep2 hb2 hc1
  have hf0 := keepf hb2 (block_lt hc0) hf0
  have hf1 := keepf hb2 (block_lt hc1) hf1
  have hwX : w.heap.size < w1.heap.size := block_lt hc0
  have HB2 := Lib.hid (HB1.out.trans (hb2.mono hbs1))
  clear HN HSP hc0 hc1
  rcases hres with ⟨hall, v, rfl, hown⟩ | ⟨hall, rfl⟩
  · have hsg : sgs l = (sp l).map sgV := rfl
    rw [← hsg] at hown
    have hsl : (sgs l).length = (sp l).length := by simp [sgs]
    have hsp0 := List.length_pos_iff.2 (sp_ne l)
    have HM := Lib.hid (hown.made hb2 (by omega))
    have hlen : (sgs l).length ≤ 1048577 := by have := HSH.out.1; omega
    clear hown hb2 HB1
    obtain ⟨g2, c2, rfl, hc2, hg2, hr2, _⟩ := HM.out
    by_cases h2 : (sgs l).length < 2
    · have HR : Hid (rtO l = false) := Lib.hid (by rw [← HST.out]; unfold stO; rw [hall]; simp; omega)
      clear hall hsg hsl hsp0 HM
      go_wp2_with fail
      exact bodyPost_ret (v := .tuple #[.agg #[.int .i64 0, .slice none 0 0], .bool false]) (by simp [results, Tryd.results15, go_sem, hd0, hd1]) rfl ((TrPost.bad HR.out HB2.out).put rfl (fun F a n c o h x hx => by cases h; cases hx))
    · obtain ⟨F, Y, hFY⟩ : ∃ F Y, sgs l = F :: Y := by
        cases h : sgs l with
        | nil => rw [h] at h2; simp at h2
        | cons a b => exact ⟨a, b, rfl⟩
      rw [hFY] at hr2 hc2 hlen h2
      obtain ⟨n, hn⟩ : ∃ n, (F :: Y).length = n := ⟨_, rfl⟩
      rw [hFY]
      rw [hn] at hc2 hlen h2
      (try rw [hn])
      have hx0 : w2.cell? ⟨g2, 0, none⟩ = some (.int .i64 F) := hr2.cell 0 (by simp)
      have hn1 : 1 ≤ n := by omega
      have hn0 : 0 < n := by omega
      have hgx : g2 < w2.heap.size := block_lt hx0
      have hne : g2 ≠ w.heap.size := by omega
      have HRW := Lib.hid hr2
      clear HM hr2
      go_wp2_with fail
      have HRO : Hid (rtO l = ltB F Y) := Lib.hid (by
        rw [← HST.out]; unfold stO; rw [hall, hFY]
        have : 2 ≤ (sp l).length := by rw [← hsl, hFY, hn]; omega
        simp [this])
      have HRF : Hid (rtO l = true → rnF l = F ∧ rnL l = Y) := Lib.hid (fun h => by
        have := (rt_st h).2
        rw [hFY] at this
        injection this with h1 h2
        exact ⟨h1.symm, h2.symm⟩)
      have HYL : Hid (Y.length = n - 1) := Lib.hid (by rw [← hn]; simp)
      clear hall hsg hsl hsp0 hFY hn
      go_region
      all_goals
        have HX := Lib.hid (isL_spec F Y (some ⟨g2, 1, none⟩) (n - 1) (c2 - 1) (w2.alloc (.cells #[.int .i64 F, .slice (some ⟨g2, 1, none⟩) (n - 1) (c2 - 1)] 26)).drew (((HRW.out.drop).ints HYL.out (by omega)).on (below_drewN (box_b _ _) 1)))
        go_wp2_with fail
        refine HX.out.mono ?_
        rintro e w3 ⟨rfl, hb3⟩
        have hb4 : Below (w2.alloc (.cells #[.int .i64 F, .slice (some ⟨g2, 1, none⟩) (n - 1) (c2 - 1)] 26)).heap.size (w2.alloc (.cells #[.int .i64 F, .slice (some ⟨g2, 1, none⟩) (n - 1) (c2 - 1)] 26)) w3 := (below_drewN (Below.refl _ _) 1).trans hb3
        obtain ⟨hB3, hk0, hk1⟩ := box2 hb4
        have he0 := keep2 hB3 hd0
        have he1 := keep2 hB3 hd1
        have hq0 := keepf hB3 (block_lt hd0) hf0
        have hq1 := keepf hB3 (block_lt hd1) hf1
        have HB3 := Lib.hid (HB2.out.trans (hB3.mono HB2.out.size))
        have HR3 := Lib.hid (HRW.out.drop.on hB3)
        have hgy : g2 < w3.heap.size := Nat.lt_of_lt_of_le hgx hB3.size
        have hn2 : (w2.heap.size : Nat) ≠ w.heap.size := by omega
        clear HX hb3 hb4 hB3 hx0 hd0 hd1 hf0 hf1 HRW HB2
        cases hlt : ltB F Y with
        | false =>
          rw [hlt] at HRO
          have HR := Lib.hid HRO.out
          clear hlt
          go_wp2_with fail
          exact bodyPost_ret (v := .tuple #[.agg #[.int .i64 0, .slice none 0 0], .bool false]) (by simp [results, Tryd.results15, go_sem, he0, he1]) rfl ((TrPost.bad HR.out HB3.out).put rfl (fun F a n c o h x hx => by cases h; cases hx))
        | true =>
          rw [hlt] at HRO
          have HR := Lib.hid HRO.out
          have hlen : n - 1 ≤ 4096 := by
            have := ((ltB_iff _ _).1 hlt).2.1.2
            rw [HYL.out] at this; omega
          clear hlt
          go_wp2_with fail
          exact bodyPost_ret (v := .tuple #[.agg #[.int .i64 F, .slice (some ⟨g2, 1, none⟩) (n - 1) (c2 - 1)], .bool true]) (by simp [results, Tryd.results15, go_sem, he0, he1]) rfl ((TrPost.good HR.out (HRF.out HR.out).1 (HRF.out HR.out).2 HYL.out (by omega) hlen (by omega) hgy (by simpa using HR3.out) HB3.out).put rfl (fun F a n c o h x hx => by cases h; cases hx; exact hne))
  · have HR : Hid (rtO l = false) := Lib.hid (by rw [← HST.out]; unfold stO; rw [hall]; rfl)
    clear hall
    go_wp2_with fail
    exact bodyPost_ret (v := .tuple #[.agg #[.int .i64 0, .slice none 0 0], .bool false]) (by simp [results, Tryd.results15, go_sem, hd0, hd1]) rfl ((TrPost.bad HR.out HB2.out).put rfl (fun F a n c o h x hx => by cases h; cases hx))

end Go.Proofs.YtonkaoacohocjaaDoor

/- strconv.ParseInt in one contract: a number, or an error value. -/
namespace Go.Proofs.YtonkaoacohocjaaDoor
open Go.ChangeShapes Go.WideShapes Go.ChangeAt Go.RowKit
set_option linter.unusedVariables false

/-- what a reading of numbers asks of the world: both errors, the shape of the library's variables -/
structure AskE (w : World) : Prop where
  syn : ErrIs w "strconv.ErrSyntax"
  ran : ErrIs w "strconv.ErrRange"
  shape : w.ShapedOpen Tryd.prog

theorem AskE.step {w w' : World} (h : AskE w) (hb : Below w.heap.size w w') : AskE w' := by
  obtain ⟨⟨a, p, hs⟩, ⟨b, q, hr⟩, sh⟩ := h
  have g1 : (1 : Nat) < w.heap.size := by
    have := World.var?_cell gSyn hs 0
    exact block_lt (p := ⟨1, 0, none⟩) (by simpa using this)
  have g2 : (2 : Nat) < w.heap.size := by
    have := World.var?_cell gRan hr 0
    exact block_lt (p := ⟨2, 0, none⟩) (by simpa using this)
  exact ⟨⟨a, p, var?_below hb gSyn g1 hs⟩, ⟨b, q, var?_below hb gRan g2 hr⟩, sh.keptBut (hb.frame (fun _ => False)) (fun _ h => h.elim)⟩

/-- a call of ParseInt: a number, or an error -/
def ParsePost (l : List UInt8) (w : World) (e : Ending) (w' : World) : Prop :=
  ((∃ v, Lib.parseIntB 64 l = .ok v ∧ e = .returned (.tuple #[.int .i64 v, .nilIface])) ∨ ((∀ v, Lib.parseIntB 64 l ≠ .ok v) ∧ ∃ v, ∃ N : Nat, e = .returned (.tuple #[.int .i64 v, .iface 101 (.pointer (some ⟨N, 0, none⟩))]))) ∧ Below w.heap.size w w'

theorem below_parse' {w w1 : World} (h : w1 = w ∨ ∃ t, w1 = Lib.bytesWorld w 5 t) : Below w.heap.size w w1 := by
  rcases h with rfl | ⟨t, rfl⟩
  · exact Below.refl _ _
  · exact Joins.below_bytesWorld _ _ _ _ (Nat.le_refl _)

theorem parse_all (s : ByteArray) (w : World) (hl : s.size ≤ 281474976710656) (ha : AskE w) :
    Calls Tryd.prog 52 #[.string s, .int .i64 10, .int .i64 64] w (ParsePost s.data.toList w) := by
  cases hp : Lib.parseIntB 64 s.data.toList with
  | ok v =>
    refine (Tryd.strconv_ParseInt_10_at64_ok _ (by omega) v hp _).mono ?_
    rintro e w1 ⟨rfl, hw⟩
    exact ⟨.inl ⟨v, hp, rfl⟩, below_parse' hw⟩
  | «syntax» =>
    refine (parse_syn s w hl hp ha.syn).mono ?_
    rintro e w1 ⟨⟨N, rfl⟩, hb⟩
    exact ⟨.inr ⟨fun v h => (by rw [hp] at h; cases h), _, N, rfl⟩, hb⟩
  | range =>
    refine (parse_ran s w hl hp ha.ran).mono ?_
    rintro e w1 ⟨⟨N, rfl⟩, hb⟩
    exact ⟨.inr ⟨fun v h => (by rw [hp] at h; cases h), _, N, rfl⟩, hb⟩

end Go.Proofs.YtonkaoacohocjaaDoor
