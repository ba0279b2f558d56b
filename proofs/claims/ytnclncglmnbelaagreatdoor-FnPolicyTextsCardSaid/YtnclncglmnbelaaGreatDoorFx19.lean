/- Merged: Wrd, Pti, Ptj, Ptl. -/
import Derived.Test.YtnclncglmnbelaaGreatDoorFx16
import Derived.Test.YtnclncglmnbelaaGreatDoorFx18
import Derived.Lib.Join

/- Words of a text: what the model's cutting gives; slices of words that are appended to. -/
namespace Go.Proofs.YtnclncglmnbelaaGreatDoor
open Go.ChangeShapes Go.WideShapes Go.ChangeAt Go.RowKit
set_option linter.unusedVariables false
set_option maxRecDepth 100000

theorem sp_blank (l : List UInt8) : sp (l ++ [32]) = sp l ++ [[]] := by
  induction l with
  | nil => rfl
  | cons b t ih =>
    rw [List.cons_append]
    by_cases h : b = 32
    · subst h; rw [sp, if_pos rfl, sp, if_pos rfl, ih]; rfl
    · rw [sp, if_neg h, sp, if_neg h, ih]
      cases hs : sp t with
      | nil => exact absurd hs (sp_ne t)
      | cons w ws => simp

theorem sp_other (l : List UInt8) (c : UInt8) (h : c ≠ 32) (W : List (List UInt8)) (u : List UInt8) (hs : sp l = W ++ [u]) : sp (l ++ [c]) = W ++ [u ++ [c]] := by
  induction l generalizing W u with
  | nil =>
    have e : W = [] ∧ u = [] := by
      cases W with
      | nil => simp [sp] at hs; exact ⟨rfl, hs⟩
      | cons x t => simp [sp] at hs
    obtain ⟨rfl, rfl⟩ := e
    simp [sp, h]
  | cons b t ih =>
    rw [List.cons_append]
    by_cases hb : b = 32
    · subst hb
      rw [sp, if_pos rfl] at hs ⊢
      cases W with
      | nil => simp at hs; exact absurd hs.2 (sp_ne t)
      | cons x W' =>
        simp at hs
        obtain ⟨rfl, hs⟩ := hs
        rw [ih W' u hs]; rfl
    · rw [sp, if_neg hb] at hs ⊢
      cases hst : sp t with
      | nil => exact absurd hst (sp_ne t)
      | cons w ws =>
        rw [hst] at hs
        cases W with
        | nil =>
          simp at hs
          obtain ⟨rfl, rfl⟩ := hs
          rw [ih [] w (by rw [hst]; rfl)]
          simp
        | cons x W' =>
          simp at hs
          obtain ⟨rfl, hs⟩ := hs
          rw [ih (w :: W') u (by rw [hst, hs]; rfl)]
          simp

/-- how far the model's cutting has come: the words that are complete, and where the next one begins -/
def CutAt (s : ByteArray) (W : List ByteArray) (f k : Nat) : Prop := f ≤ k ∧ k ≤ s.size ∧ W.map (·.data.toList) ++ [(s.data.toList.take k).drop f] = sp (s.data.toList.take k)

theorem ext_list (s : ByteArray) (f k : Nat) : (s.extract f k).data.toList = (s.data.toList.take k).drop f := by
  rw [ByteArray.data_extract, Array.toList_extract, List.extract_eq_take_drop, List.drop_take]

theorem cut_zero (s : ByteArray) : CutAt s [] 0 0 := ⟨by omega, by omega, by simp [sp]⟩

theorem CutAt.blank {s : ByteArray} {W : List ByteArray} {f k : Nat} (h : CutAt s W f k) (hk : k < s.size) (hb : s[k] = 32) : CutAt s (W ++ [s.extract f k]) (k + 1) (k + 1) := by
  obtain ⟨h1, h2, h3⟩ := h
  have hl : s.data.toList.length = s.size := by simp
  refine ⟨by omega, by omega, ?_⟩
  rw [take_snoc8 s k hk, hb, sp_blank, ← h3, List.map_append, List.map_cons, List.map_nil, ext_list]
  have e : (s.data.toList.take k ++ [32]).drop (k + 1) = [] := List.drop_of_length_le (by simp; omega)
  rw [e]

theorem CutAt.other {s : ByteArray} {W : List ByteArray} {f k : Nat} (h : CutAt s W f k) (hk : k < s.size) (hb : s[k] ≠ 32) : CutAt s W f (k + 1) := by
  obtain ⟨h1, h2, h3⟩ := h
  have hl : s.data.toList.length = s.size := by simp
  refine ⟨by omega, by omega, ?_⟩
  rw [take_snoc8 s k hk, sp_other _ _ hb _ _ h3.symm]
  rw [List.drop_append_of_le_length (by simp; omega)]

theorem CutAt.done {s : ByteArray} {W : List ByteArray} {f : Nat} (h : CutAt s W f s.size) : (W ++ [s.extract f s.size]).map (·.data.toList) = sp s.data.toList := by
  obtain ⟨h1, h2, h3⟩ := h
  rw [List.map_append, List.map_cons, List.map_nil, ext_list, h3]
  congr 1
  exact List.take_of_length_le (by simp)

theorem CutAt.len {s : ByteArray} {W : List ByteArray} {f k : Nat} (h : CutAt s W f k) : W.length ≤ k := by
  obtain ⟨h1, h2, h3⟩ := h
  have := congrArg List.length h3
  have h4 := (sp_short (s.data.toList.take k)).1
  simp at this h4
  omega

/-! ### slices of words of the call's own -/

/-- a slice of words of the call's own, in blocks from 'base' on -/
def OwnS (base : Nat) (w : World) (v : Value) (ss : List ByteArray) : Prop := w.ownsRow base 9 1 v ss.length (ss.map Value.string)

theorem infoS : (Tryz.prog.info? 9).map (fun i => (i.zero, i.size, i.bytes)) = some (some (.string ByteArray.empty), 1, 16) := by kernel_rfl

theorem ownS_new (w : World) : OwnS w.heap.size (w.alloc (.cells #[] 9)) (.slice (some ⟨w.heap.size, 0, none⟩) 0 0) [] :=
  World.ownsRow_lit w #[] 0 (Nat.le_refl _) (Nat.zero_le _) rfl

theorem OwnS.mono {base b2 : Nat} {w : World} {v : Value} {xs : List ByteArray} (h : OwnS base w v xs) (hb : b2 ≤ base) : OwnS b2 w v xs := by
  obtain ⟨h0, h1 | ⟨g, cap, cur, hv, hg, hh, r⟩⟩ := h
  · exact ⟨h0, .inl h1⟩
  · exact ⟨h0, .inr ⟨g, cap, cur, hv, by omega, hh, r⟩⟩

/-- its shape, and what its cells hold -/
theorem OwnS.cells {base : Nat} {w : World} {v : Value} {xs : List ByteArray} (h : OwnS base w v xs) (hl : 0 < xs.length) : ∃ g c, v = .slice (some ⟨g, 0, none⟩) xs.length c ∧ base ≤ g ∧ ∀ i, i < xs.length → w.cell? ⟨g, i, none⟩ = some (.string (xs.getD i ByteArray.empty)) := by
  have hh := h
  obtain ⟨h0, ⟨rfl, hn⟩ | ⟨g, cap, cur, rfl, hg, hb, r⟩⟩ := h
  · omega
  · refine ⟨g, cap, rfl, hg, fun i hi => ?_⟩
    rw [hh.cellAt i (by omega)]
    simp [List.getD, hi]

theorem ownS_step {base : Nat} {wr w1 : World} {v v' : Value} {xs : List ByteArray} {x : ByteArray} {o : Obj} (hown : OwnS base wr v xs) (hbs : base ≤ wr.heap.size)
    (hown' : w1.ownsRow base 9 1 v' (xs.length + 1) (xs.map Value.string ++ [.string x])) (hg : (wr.alloc o).grownBy w1 v.ownBlock) :
    OwnS base w1 v' (xs ++ [x]) ∧ Below base wr w1 := by
  constructor
  · unfold OwnS
    rw [List.length_append, List.length_singleton, List.map_append]
    exact hown'
  · exact ((Below.refl _ _).alloc hbs o).grown hg (by simp; omega) fun k hk => (hown.lt k hk).1

theorem wpList_appS {w : World} {ops : Array Oper} {rest : List Oper} {o : Oper} {a : Act} {Q : Exit → Act → World → Prop} (hgd : o.guard = none) (s x : Operand)
    (ho : o.op = .call { callee := .builtin .append, args := #[s, x], argTypes := #[55, 55] })
    (base : Nat) (v : Value) (xs : List ByteArray) (y : ByteArray) (hs : a.eval s = v) (hown : OwnS base w v xs) (ad : Addr) (hx : a.eval x = .slice (some ad) 1 1) (hc : ∀ j u, [Value.string y][j]? = some u → w.cell? (ad.add j) = some u)
    (hlen : xs.length ≤ 1100000) (hbase : base ≤ w.heap.size)
    (h : ∀ v' w', OwnS base w' v' (xs ++ [y]) → w.grownBy w' v.ownBlock → wpList Tryz.prog ops Q rest (a.put o.dst v') w') : wpList Tryz.prog ops Q (o :: rest) a w := by
  obtain ⟨i0, hi, hz0, hz1, hz2⟩ := info_parts infoS
  obtain ⟨v', w', hr, h2, h3, h4⟩ := run_append_own (P := Tryz.prog) w base 55 o.type 9 i0 (.string ByteArray.empty) 1 16 Tryz.underlying55 hi hz0 hz1 hz2 rfl (by decide) v xs.length (xs.map Value.string) hown ad 1 1 [.string y] rfl hc (by intro u hu; simp at hu; subst hu; rfl) (by unfold maxLen; omega) (by omega) hbase
  have h6 : OwnS base w' v' (xs ++ [y]) := by
    unfold OwnS
    rw [List.length_append, List.length_singleton, List.map_append]
    exact h2
  refine wpList_plain hgd fun _ hK => ?_
  unfold Oper.wp execOp
  simp only [ho, resolve, invoke, builtin, Sem.run_bind, Sem.run_pure, Result.andThen_ok, List.map_toArray, List.map_cons, List.map_nil, hs, hx, hr]
  exact hK _ _ (h v' w' h6 h3)

theorem one_newS (w : World) (x : ByteArray) : ∀ j u, [Value.string x][j]? = some u → (w.alloc (.cells #[.string x] 9)).cell? ((⟨w.heap.size, 0, none⟩ : Addr).add j) = some u := by
  intro j u hj
  match j, hj with
  | 0, hj => simp at hj; subst hj; simp [Addr.add]

/-- an append of one number onto a list of any length that a text can have -/
theorem wpList_appW {w : World} {ops : Array Oper} {rest : List Oper} {o : Oper} {a : Act} {Q : Exit → Act → World → Prop} (hgd : o.guard = none) (s x : Operand)
    (ho : o.op = .call { callee := .builtin .append, args := #[s, x], argTypes := #[24, 24] })
    (base : Nat) (v : Value) (xs : List Int) (y : Int) (hs : a.eval s = v) (hown : OwnI base w v xs) (ad : Addr) (hx : a.eval x = .slice (some ad) 1 1) (hc : ∀ j u, [Value.int .i64 y][j]? = some u → w.cell? (ad.add j) = some u)
    (hlen : xs.length ≤ 1100000) (hbase : base ≤ w.heap.size)
    (h : ∀ v' w', OwnI base w' v' (xs ++ [y]) → w.grownBy w' v.ownBlock → wpList Tryz.prog ops Q rest (a.put o.dst v') w') : wpList Tryz.prog ops Q (o :: rest) a w := by
  obtain ⟨i0, hi, hz0, hz1, hz2⟩ := info_parts infoI
  obtain ⟨v', w', hr, h2, h3, h4⟩ := run_append_own (P := Tryz.prog) w base 24 o.type 2 i0 (.int .i64 0) 1 8 Tryz.underlying24 hi hz0 hz1 hz2 rfl (by decide) v xs.length (xs.map (Value.int .i64)) hown ad 1 1 [.int .i64 y] rfl hc (by intro u hu; simp at hu; subst hu; rfl) (by unfold maxLen; omega) (by omega) hbase
  have h6 : OwnI base w' v' (xs ++ [y]) := by
    unfold OwnI
    rw [List.length_append, List.length_singleton, List.map_append]
    exact h2
  refine wpList_plain hgd fun _ hK => ?_
  unfold Oper.wp execOp
  simp only [ho, resolve, invoke, builtin, Sem.run_bind, Sem.run_pure, Result.andThen_ok, List.map_toArray, List.map_cons, List.map_nil, hs, hx, hr]
  exact hK _ _ (h v' w' h6 h3)

/-! ### the walks -/

def SgPost (l : List UInt8) (w : World) (e : Ending) (w' : World) : Prop := e = .returned (.tuple #[.int .i64 (sgV l), .bool (sgO l)]) ∧ Below w.heap.size w w'

theorem sgV_bd (l : List UInt8) : -9999999999999 ≤ sgV l ∧ sgV l ≤ 9999999999999 := by
  unfold sgV
  have h1 := dgV_bd l
  have h2 := dgV_bd (l.drop 1)
  split <;> omega

set_option maxHeartbeats 400000 in
theorem sg_spec (s : ByteArray) (w : World) (hs : s.size ≤ 1048576) : Calls Tryz.prog 58 #[.string s] w (SgPost s.data.toList w) := by
  by_cases h0 : 0 < s.size
  · have hh := head_of s h0
    by_cases h45 : (s[0]'h0).toNat = 45
    · have h45' : (s[0]'h0) = 45 := UInt8.toNat_inj.1 h45
      have e1 : (((s[0]'h0).toNat : Int) == 45) = true := by simp; omega
      have hl : (s.extract 1 s.size).data.toList = s.data.toList.drop 1 := by
        rw [ext_list, List.take_of_length_le (by simp)]
      have HV : Hid (sgV s.data.toList = -(dgV (s.data.toList.drop 1))) := Lib.hid (by unfold sgV; rw [if_pos (by rw [hh, h45'])])
      have HO : Hid (sgO s.data.toList = (dgO (s.data.toList.drop 1) && decide (0 < dgV (s.data.toList.drop 1)))) := Lib.hid (by unfold sgO; rw [if_pos (by rw [hh, h45'])])
      have hbd := dgV_bd (s.data.toList.drop 1)
      have hez : (s.extract 1 s.size).size ≤ 4611686018427387904 := by rw [ByteArray.size_extract]; omega
      have HD := digs_any (s.extract 1 s.size)
      rw [hl] at HD
      have HDG := Lib.hid HD
      clear HD hl hh h45 h45'
      go_enter Tryz.func58, Tryz.ntmps58
      go_wp2_with fail
      refine (HDG.out _ hez).mono ?_
      rintro e w1 ⟨rfl, hb⟩
      have HB := Lib.hid hb
      clear hb
      obtain ⟨v, hv⟩ : ∃ v, dgV (s.data.toList.drop 1) = v := ⟨_, rfl⟩
      obtain ⟨o, ho⟩ : ∃ o, dgO (s.data.toList.drop 1) = o := ⟨_, rfl⟩
      rw [hv] at hbd HV HO
      rw [ho] at HO
      (try rw [hv])
      (try rw [ho])
      clear hv ho
      cases o
      all_goals
        go_wp2_with fail
        go_ret2
        exact ⟨ret_ib' (by rw [HV.out]) (by rw [HO.out]; simp), HB.out⟩
    · have e1 : (((s[0]'h0).toNat : Int) == 45) = false := by simp; omega
      have hne : ¬ s.data.toList.head? = some 45 := by rw [hh]; intro e; injection e with e; rw [e] at h45; exact h45 rfl
      have HV : Hid (sgV s.data.toList = dgV s.data.toList) := Lib.hid (by unfold sgV; rw [if_neg hne])
      have HO : Hid (sgO s.data.toList = dgO s.data.toList) := Lib.hid (by unfold sgO; rw [if_neg hne])
      clear hne hh h45
      go_enter Tryz.func58, Tryz.ntmps58
      go_wp2_with fail
      refine (digs_any _ _ (by omega)).mono ?_
      rintro e w1 ⟨rfl, hb⟩
      have HB := Lib.hid hb
      clear hb
      go_wp2_with fail
      go_ret2
      exact ⟨ret_ib' (by rw [HV.out]) (by rw [HO.out]), HB.out⟩
  · have hsz : s.data.toList.length = s.size := by simp
    have hn : s.data.toList = [] := List.length_eq_zero_iff.1 (by omega)
    clear hsz
    have hne : ¬ s.data.toList.head? = some 45 := by rw [hn]; simp
    have HV : Hid (sgV s.data.toList = dgV s.data.toList) := Lib.hid (by unfold sgV; rw [if_neg hne])
    have HO : Hid (sgO s.data.toList = dgO s.data.toList) := Lib.hid (by unfold sgO; rw [if_neg hne])
    clear hne hn
    go_enter Tryz.func58, Tryz.ntmps58
    go_wp2_with fail
    refine (digs_any _ _ (by omega)).mono ?_
    rintro e w1 ⟨rfl, hb⟩
    have HB := Lib.hid hb
    clear hb
    go_wp2_with fail
    go_ret2
    exact ⟨ret_ib' (by rw [HV.out]) (by rw [HO.out]), HB.out⟩

def SplitPost (s : ByteArray) (w : World) (e : Ending) (w' : World) : Prop :=
  ∃ (g c : Nat) (W : List ByteArray), e = .returned (.slice (some ⟨g, 0, none⟩) W.length c) ∧ W.map (fun x : ByteArray => x.data.toList) = sp s.data.toList ∧ W.length ≤ s.size + 1 ∧ (∀ i, i < W.length → w'.cell? ⟨g, i, none⟩ = some (.string (W.getD i ByteArray.empty))) ∧ Below w.heap.size w w'

end Go.Proofs.YtnclncglmnbelaaGreatDoor

/- Policies: the program's text of a policy. -/
namespace Go.Proofs.YtnclncglmnbelaaGreatDoor
open Go.ChangeShapes Go.WideShapes Go.ChangeAt Go.RowKit
set_option linter.unusedVariables false
set_option maxRecDepth 100000

theorem OwnS.on {base : Nat} {w w' : World} {v : Value} {xs : List ByteArray} (h : OwnS base w v xs) (hb : Below w.heap.size w w') : OwnS base w' v xs := by
  obtain ⟨h0, h1 | ⟨g, cap, cur, hv, hg, hh, r⟩⟩ := h
  · exact ⟨h0, .inl h1⟩
  · have hlt : g < w.heap.size := by
      by_cases hl : g < w.heap.size
      · exact hl
      · have : w.heap[g]? = none := by simp; omega
        rw [this] at hh; cases hh
    exact ⟨h0, .inr ⟨g, cap, cur, hv, hg, by rw [hb.block g hlt]; exact hh, r⟩⟩

theorem idx5 (k x n s u : Int) (i : Nat) (hi : i < 5) (W : World) : (Instr.index 56 (.agg #[.int .i64 k, .int .i64 x, .int .i64 n, .int .i64 s, .int .i64 u]) (.int .i64 i)).run Tryz.prog W = .ok (.int .i64 ([k, x, n, s, u].getD i 0)) W := by
  have h0 : ∀ W : World, (Instr.index 56 (.agg #[.int .i64 k, .int .i64 x, .int .i64 n, .int .i64 s, .int .i64 u]) (.int .i64 0)).run Tryz.prog W = .ok (.int .i64 k) W := fun _ => by kernel_rfl
  have h1 : ∀ W : World, (Instr.index 56 (.agg #[.int .i64 k, .int .i64 x, .int .i64 n, .int .i64 s, .int .i64 u]) (.int .i64 1)).run Tryz.prog W = .ok (.int .i64 x) W := fun _ => by kernel_rfl
  have h2 : ∀ W : World, (Instr.index 56 (.agg #[.int .i64 k, .int .i64 x, .int .i64 n, .int .i64 s, .int .i64 u]) (.int .i64 2)).run Tryz.prog W = .ok (.int .i64 n) W := fun _ => by kernel_rfl
  have h3 : ∀ W : World, (Instr.index 56 (.agg #[.int .i64 k, .int .i64 x, .int .i64 n, .int .i64 s, .int .i64 u]) (.int .i64 3)).run Tryz.prog W = .ok (.int .i64 s) W := fun _ => by kernel_rfl
  have h4 : ∀ W : World, (Instr.index 56 (.agg #[.int .i64 k, .int .i64 x, .int .i64 n, .int .i64 s, .int .i64 u]) (.int .i64 4)).run Tryz.prog W = .ok (.int .i64 u) W := fun _ => by kernel_rfl
  match i, hi with
  | 0, _ => exact h0 W
  | 1, _ => exact h1 W
  | 2, _ => exact h2 W
  | 3, _ => exact h3 W
  | 4, _ => exact h4 W

theorem und5 : Tryz.prog.underlying 56 = some (.array (Tryz.prog.arrayLen 56) (Tryz.prog.elem 56)) := by kernel_rfl

theorem und5s (w : World) (k x n s u : Int) : (w.alloc (.cells #[.int .i64 k, .int .i64 x, .int .i64 n, .int .i64 s, .int .i64 u] 30)).heap.size = w.heap.size + 1 := by simp

theorem num5_any (k x n s u : Int) (w : World) : Calls Tryz.prog 25 #[.agg #[.int .i64 k, .int .i64 x, .int .i64 n, .int .i64 s, .int .i64 u]] w fun e w' => e = .returned (.agg #[.int .i64 k, .int .i64 x, .int .i64 n, .int .i64 s, .int .i64 u]) ∧ Below w.heap.size w w' := by
  go_enter Tryz.func25, Tryz.ntmps25
  go_wp2_with fail
  exact bodyPost_ret (v := .agg #[.int .i64 k, .int .i64 x, .int .i64 n, .int .i64 s, .int .i64 u]) (results_cell_row rfl _ _ (w.heap.size + 1) 56 #[.int .i64 k, .int .i64 x, .int .i64 n, .int .i64 s, .int .i64 u] (0, 0) _ rfl (by rw [← und5s w k x n s u]; exact heap_alloc_new _ _) und5 rfl (by kernel_rfl)) rfl ⟨rfl, (box_b _ _).trans ((box_b _ _).mono (by simp))⟩

/-- the words of numbers -/
def itB (xs : List Int) : List ByteArray := xs.map fun m => ⟨(Lib.itoa m).toArray⟩

theorem itB_len (xs : List Int) : (itB xs).length = xs.length := by simp [itB]

theorem itB_take (xs : List Int) (k : Nat) (hk : k < xs.length) : itB (xs.take (k + 1)) = itB (xs.take k) ++ [⟨(Lib.itoa (xs.getD k 0)).toArray⟩] := by
  rw [List.take_add_one, List.getElem?_eq_getElem hk]
  unfold itB
  rw [List.map_append]
  simp [List.getD, hk]

theorem itB_data (xs : List Int) : (itB xs).map (fun b : ByteArray => b.data.toList) = xs.map Lib.itoa := by
  simp [itB, List.map_map, Function.comp_def]

theorem join_jc (n : Int) (r : List Int) : Lib.join ((n :: r).map Lib.itoa) [44] = jc (n :: r) := by
  rw [List.map_cons, Lib.join_cons]
  simp [jc, tailC, Lib.joinTail, List.flatMap, List.map_map, Function.comp_def]

theorem ptB_at {k x n s u : Int} (h : ptB k x n s u = true) (i : Nat) (hi : i < 5) : inB ([k, x, n, s, u].getD i 0) (-1000000000000) 1000000000000 = true := by
  unfold ptB at h
  rw [List.all_eq_true] at h
  exact h _ (by rw [List.getD_eq_getElem?_getD, List.getElem?_eq_getElem (by simpa using hi)]; exact List.getElem_mem _)

end Go.Proofs.YtnclncglmnbelaaGreatDoor

/- Policies: the program's text of a policy: what the call returns. -/
namespace Go.Proofs.YtnclncglmnbelaaGreatDoor
open Go.ChangeShapes Go.WideShapes Go.ChangeAt Go.RowKit
set_option linter.unusedVariables false
set_option maxRecDepth 100000

theorem OwnS.part {base : Nat} {w : World} {v : Value} {xs : List ByteArray} (h : OwnS base w v xs) (hl : 0 < xs.length) : ∃ g c, v = .slice (some ⟨g, 0, none⟩) xs.length c ∧ g < w.heap.size ∧ xs.length ≤ c ∧ ∀ (i : Nat) y, xs[i]? = some y → w.cell? ⟨g, 0 + i, none⟩ = some (.string y) := by
  obtain ⟨g, c, hv, hg, hc⟩ := h.cells hl
  have h2 := h
  obtain ⟨h0, ⟨h1, h3⟩ | ⟨g2, cap, cur, hv2, hg2, hh, hn, r⟩⟩ := h2
  · omega
  · rw [hv] at hv2
    injection hv2 with e1 e2 e3
    injection e1 with e4
    injection e4 with e5
    subst e5 e3
    refine ⟨g, c, hv, ?_, hn, ?_⟩
    · by_cases hl : g < w.heap.size
      · exact hl
      · have : w.heap[g]? = none := by simp; omega
        rw [this] at hh; cases hh
    · intro i y hy
      have hi : i < xs.length := by
        by_cases h : i < xs.length
        · exact h
        · rw [List.getElem?_eq_none (by omega)] at hy; cases hy
      rw [Nat.zero_add, hc i hi]
      rw [List.getElem?_eq_getElem hi] at hy
      injection hy with hy
      rw [List.getD_eq_getElem?_getD, List.getElem?_eq_getElem hi, ← hy]
      rfl

theorem join5_any (k x n s u : Int) (v : Value) (base : Nat) (w : World) (h : OwnS base w v (itB [k, x, n, s, u])) (hp : ptB k x n s u = true) :
    Calls Tryz.prog 27 #[v, .string ⟨#[44]⟩] w fun e w' => e = .returned (.string ⟨(ptT k x n s u).toArray⟩) ∧ Below w.heap.size w w' := by
  have hl : (itB [k, x, n, s, u]).length = 5 := by rw [itB_len]; rfl
  obtain ⟨g, c, rfl, hg, hc, hcell⟩ := h.part (by omega)
  have e1 : Lib.join ((itB [k, x, n, s, u]).map (·.data.toList)) (⟨#[44]⟩ : ByteArray).data.toList = ptT k x n s u := by
    rw [itB_data]
    show Lib.join _ [44] = _
    rw [join_jc]
    unfold ptT
    rw [if_pos hp]
  have h1 := Tryz.strings_Join g 0 c (itB [k, x, n, s, u]) ⟨#[44]⟩ w hcell hg (by omega) hc (by
    rw [e1]; unfold ptT; rw [if_pos hp]
    have := jc_len [k, x, n, s, u] (ptB_mon hp)
    simp at this; omega)
  rw [e1] at h1
  exact h1

set_option maxHeartbeats 1000000 in
theorem pt_impl (k x n s u : Int) (w : World) (ht : Tab w) :
    Calls Tryz.prog 9 #[.agg #[.int .i64 k, .int .i64 x, .int .i64 n, .int .i64 s, .int .i64 u]] w fun e w' => e = .returned (.string ⟨(ptT k x n s u).toArray⟩) ∧ Below w.heap.size w w' := by
  have HX := Lib.hid (idx5 k x n s u)
  have HN := Lib.hid (num5_any k x n s u)
  have HG := Lib.hid ht.lt
  have HT := Lib.hid ht
  have hA := box_b w (.cells #[.int .i64 k, .int .i64 x, .int .i64 n, .int .i64 s, .int .i64 u] 30)
  have hO := ownS_new (w.alloc (.cells #[.int .i64 k, .int .i64 x, .int .i64 n, .int .i64 s, .int .i64 u] 30))
  have hO2 : OwnS w.heap.size ((w.alloc (.cells #[.int .i64 k, .int .i64 x, .int .i64 n, .int .i64 s, .int .i64 u] 30)).alloc (.cells #[] 9)) (.slice (some ⟨w.heap.size + 1, 0, none⟩) 0 0) [] := by rw [← und5s w k x n s u]; exact hO.mono (by simp)
  have HO := Lib.hid hO2
  have HB := Lib.hid (hA.trans ((box_b _ (.cells #[] 9)).mono (by simp)))
  have HP : Hid (∀ j, j ≤ 5 → (∀ m, m < j → inB ([k, x, n, s, u].getD m 0) (-1000000000000) 1000000000000 = true) → j = 5 → ptB k x n s u = true) := Lib.hid (by
    intro j _ hm e
    subst e
    have h0 := hm 0 (by omega); have h1 := hm 1 (by omega); have h2 := hm 2 (by omega); have h3 := hm 3 (by omega); have h4 := hm 4 (by omega)
    simp only [List.getD_cons_zero, List.getD_cons_succ] at h0 h1 h2 h3 h4
    unfold ptB
    simp only [List.all_cons, List.all_nil, h0, h1, h2, h3, h4]
    rfl)
  have HF : Hid (∀ j, j < 5 → inB ([k, x, n, s, u].getD j 0) (-1000000000000) 1000000000000 = false → ptT k x n s u = []) := Lib.hid (by
    intro j hj e
    unfold ptT
    rw [if_neg]
    intro hp
    rw [ptB_at hp j hj] at e
    cases e)
  clear ht hA hO hO2
  go_enter Tryz.func9, Tryz.ntmps9
  go_wp2_with fail
  refine (HN.out _).mono ?_
  rintro e w1 ⟨rfl, hb⟩
  have HO1 := Lib.hid (HO.out.on hb)
  have HB1 := Lib.hid (HB.out.trans (hb.mono HB.out.size))
  clear hb HO HB
  go_wp2_with fail
  go_loopw [3, 9] (fun v i wr => ∃ j : Nat, j ≤ 5 ∧ i = .int .i64 j ∧ Hid (∀ m, m < j → inB ([k, x, n, s, u].getD m 0) (-1000000000000) 1000000000000 = true) ∧ Hid (OwnS w.heap.size wr v (itB ([k, x, n, s, u].take j))) ∧ Hid (Below w.heap.size w wr)) (fun _ i _ => 5 - (intOf i).toNat)
  case atStart => exact ⟨0, Nat.zero_le _, rfl, Lib.hid (fun m hm => by omega), HO1, HB1⟩
  case round =>
    obtain ⟨j, hj, rfl, HA, HO, HB⟩ := hrel
    by_cases hlt : j < 5
    · have hx := fun W => HX.out j hlt W
      have HS := Lib.hid (itB_take [k, x, n, s, u] j (by simpa using hlt))
      have HF1 := Lib.hid (HF.out j hlt)
      have HA1 : Hid (inB ([k, x, n, s, u].getD j 0) (-1000000000000) 1000000000000 = true → ∀ m, m < j + 1 → inB ([k, x, n, s, u].getD m 0) (-1000000000000) 1000000000000 = true) := Lib.hid (fun h m hm => by
        by_cases e : m = j
        · rw [e]; exact h
        · exact HA.out m (by omega))
      obtain ⟨q, hq⟩ : ∃ q, [k, x, n, s, u].getD j 0 = q := ⟨_, rfl⟩
      rw [hq] at hx HS HF1 HA1
      have hW : (itB ([k, x, n, s, u].take j)).length ≤ 5 := by rw [itB_len, List.length_take]; omega
      obtain ⟨Z, hZ⟩ : ∃ Z, itB ([k, x, n, s, u].take j) = Z := ⟨_, rfl⟩
      rw [hZ] at HS HO hW
      clear hq hZ HA HX HF HN
      by_cases hv : inB q (-1000000000000) 1000000000000 = true
      · have hc := fun W => within_any q (-1000000000000) 1000000000000 W
        simp only [hv] at hc
        have HC := Lib.hid hc
        obtain ⟨q0, q1⟩ := (inB_iff _ _ _).1 hv
        have HA2 := Lib.hid (HA1.out hv)
        clear hc hv HA1 HF1
        go_wp2_with fail
        refine (HC.out _).mono ?_
        rintro e w' ⟨rfl, rfl⟩
        go_wp2_with fail
        refine (fmt_any q _ (by omega) (by omega) (HT.out.stepB HG.out HB.out)).mono ?_
        rintro e w3 ⟨rfl, hb3, -⟩
        have hown := HO.out.on hb3
        have HB3 := Lib.hid (HB.out.trans (hb3.mono HB.out.size))
        have hbs := HB3.out.size
        clear hb3 HO
        go_wp2_with (at_builtin; refine wpList_appS rfl _ _ rfl w.heap.size _ Z ⟨(Lib.itoa q).toArray⟩ rfl (hown.alloc _) ⟨w3.heap.size, 0, none⟩ rfl (one_newS w3 _) (by omega) (by simp; omega) ?_)
        intro v' w5 hown' hgrow
        rw [← HS.out] at hown'
        have HO5 := Lib.hid hown'
        have HB5 := Lib.hid ((HB3.out.alloc hbs _).grown hgrow (by simp; omega) (fun k hk => (hown.lt k hk).1))
        clear hown' hgrow hown
        go_wp2_with fail
        go_roundw
        case rel => exact ⟨j + 1, by omega, by go_num, HA2, HO5, HB5⟩
        case measure => simp [intOf]; omega
      · have hv2 : inB q (-1000000000000) 1000000000000 = false := by simpa using hv
        have hc := fun W => within_any q (-1000000000000) 1000000000000 W
        simp only [hv2] at hc
        have HC := Lib.hid hc
        have HE := Lib.hid (HF1.out hv2)
        clear hc hv hv2 HA1 HF1
        go_wp2_with fail
        refine (HC.out _).mono ?_
        rintro e w' ⟨rfl, rfl⟩
        go_wp2_with fail
        go_ret
        exact ⟨ret_str (by rw [HE.out]), HB.out⟩
    · obtain rfl : j = 5 := by omega
      have HP5 := Lib.hid (HP.out 5 (by omega) HA.out rfl)
      have hO5 : OwnS w.heap.size wr _ (itB [k, x, n, s, u]) := HO.out
      have HO5 := Lib.hid hO5
      clear hO5 HO HX HF HN HP
      go_wp2_with fail
      refine (join5_any k x n s u _ _ _ HO5.out HP5.out).mono ?_
      rintro e w' ⟨rfl, hb⟩
      have HB2 := Lib.hid (HB.out.trans (hb.mono HB.out.size))
      clear hb
      go_wp2_with fail
      go_ret
      exact ⟨ret_str rfl, HB2.out⟩

end Go.Proofs.YtnclncglmnbelaaGreatDoor

/- The exact law on PolicyText. -/
namespace Go.Proofs.YtnclncglmnbelaaGreatDoor
open Go.ChangeShapes Go.WideShapes Go.ChangeAt Go.RowKit
set_option linter.unusedVariables false
set_option maxRecDepth 100000

/-- a block of plain cells -/
def BxT (w : World) (B : Nat) (vs : List Value) : Prop := ∃ T, w.heap[B]? = some (.cells vs.toArray T (0, 0))

theorem BxT.two {w : World} {B : Nat} {x y : Value} (h : BxT w B [x, y]) : w.cell? ⟨B, 0, none⟩ = some x ∧ w.cell? ⟨B, 1, none⟩ = some y := by
  obtain ⟨T, h⟩ := h
  simp [World.cell?, h]

theorem BxT.four {w : World} {B : Nat} {x y z u : Value} (h : BxT w B [x, y, z, u]) : w.cell? ⟨B, 0, none⟩ = some x ∧ w.cell? ⟨B, 1, none⟩ = some y ∧ w.cell? ⟨B, 2, none⟩ = some z ∧ w.cell? ⟨B, 3, none⟩ = some u := by
  obtain ⟨T, h⟩ := h
  simp [World.cell?, h]

theorem BxT.free {w : World} {B : Nat} {vs : List Value} (h : BxT w B vs) (i : Nat) : w.frozen? ⟨B, i, none⟩ = false := by
  obtain ⟨T, h⟩ := h
  simp [World.frozen?, h]

theorem BxT.lt {w : World} {B : Nat} {vs : List Value} (h : BxT w B vs) : B < w.heap.size := by
  obtain ⟨T, h⟩ := h
  by_cases hb : B < w.heap.size
  · exact hb
  · have : w.heap[B]? = none := by simp; omega
    rw [this] at h; cases h

theorem BxT.same {w w' : World} {B : Nat} {vs : List Value} (h : BxT w B vs) (hb : w'.heap[B]? = w.heap[B]?) : BxT w' B vs := by
  obtain ⟨T, h⟩ := h
  exact ⟨T, by rw [hb, h]⟩

theorem BxT.on {w w' : World} {B : Nat} {vs : List Value} (h : BxT w B vs) (hb : Below w.heap.size w w') : BxT w' B vs := h.same (hb.block _ h.lt)

theorem BxT.new (w : World) (vs : List Value) (T : TypeId) : BxT (w.alloc (.cells vs.toArray T)) w.heap.size vs := ⟨T, heap_alloc_new _ _⟩

theorem BxT.fiveT {w : World} {B : Nat} {x y z u v : Value} (h : BxT w B [x, y, z, u, v]) : w.cell? ⟨B, 0, none⟩ = some x ∧ w.cell? ⟨B, 1, none⟩ = some y ∧ w.cell? ⟨B, 2, none⟩ = some z ∧ w.cell? ⟨B, 3, none⟩ = some u ∧ w.cell? ⟨B, 4, none⟩ = some v := by
  obtain ⟨T, h⟩ := h
  simp [World.cell?, h]

theorem box5T {w w1 : World} {a b c d e : Value} {T : TypeId} (hb : Below (w.alloc (.cells #[a, b, c, d, e] T)).heap.size (w.alloc (.cells #[a, b, c, d, e] T)) w1) :
    Below w.heap.size w w1 ∧ w1.cell? ⟨w.heap.size, 0, none⟩ = some a ∧ w1.cell? ⟨w.heap.size, 1, none⟩ = some b ∧ w1.cell? ⟨w.heap.size, 2, none⟩ = some c ∧ w1.cell? ⟨w.heap.size, 3, none⟩ = some d ∧ w1.cell? ⟨w.heap.size, 4, none⟩ = some e := by
  have h := ((BxT.new w [a, b, c, d, e] T).on hb).fiveT
  exact ⟨(box_b w _).trans (hb.mono (by simp)), h.1, h.2.1, h.2.2.1, h.2.2.2.1, h.2.2.2.2⟩

end Go.Proofs.YtnclncglmnbelaaGreatDoor
