/- Merged: Wrd, Ptx, Pty. -/
import Derived.Test.YtpphiekbhikadaaDoorTrx21

/- Words of a text: what the model's cutting gives; slices of words that are appended to. -/
namespace Go.Proofs.YtpphiekbhikadaaDoor
open Go.ChangeShapes Go.WideShapes Go.ChangeAt Go.RowKit
set_option linter.unusedVariables false
set_option maxRecDepth 100000

theorem sp_blank (l : List UInt8) : sp (l ++ [32]) = sp l ++ [[]] := by
  induction l with
  | nil => rfl
  | cons b t ih =>
    rw [List.cons_append]
    by_cases h : b = 32
    · subst h; rw [sp, if_pos rfl, sp, if_pos rfl, ih]; rfl
    · rw [sp, if_neg h, sp, if_neg h, ih]
      cases hs : sp t with
      | nil => exact absurd hs (sp_ne t)
      | cons w ws => simp

theorem sp_other (l : List UInt8) (c : UInt8) (h : c ≠ 32) (W : List (List UInt8)) (u : List UInt8) (hs : sp l = W ++ [u]) : sp (l ++ [c]) = W ++ [u ++ [c]] := by
  induction l generalizing W u with
  | nil =>
    have e : W = [] ∧ u = [] := by
      cases W with
      | nil => simp [sp] at hs; exact ⟨rfl, hs⟩
      | cons x t => simp [sp] at hs
    obtain ⟨rfl, rfl⟩ := e
    simp [sp, h]
  | cons b t ih =>
    rw [List.cons_append]
    by_cases hb : b = 32
    · subst hb
      rw [sp, if_pos rfl] at hs ⊢
      cases W with
      | nil => simp at hs; exact absurd hs.2 (sp_ne t)
      | cons x W' =>
        simp at hs
        obtain ⟨rfl, hs⟩ := hs
        rw [ih W' u hs]; rfl
    · rw [sp, if_neg hb] at hs ⊢
      cases hst : sp t with
      | nil => exact absurd hst (sp_ne t)
      | cons w ws =>
        rw [hst] at hs
        cases W with
        | nil =>
          simp at hs
          obtain ⟨rfl, rfl⟩ := hs
          rw [ih [] w (by rw [hst]; rfl)]
          simp
        | cons x W' =>
          simp at hs
          obtain ⟨rfl, hs⟩ := hs
          rw [ih (w :: W') u (by rw [hst, hs]; rfl)]
          simp

/-- how far the model's cutting has come: the words that are complete, and where the next one begins -/
def CutAt (s : ByteArray) (W : List ByteArray) (f k : Nat) : Prop := f ≤ k ∧ k ≤ s.size ∧ W.map (·.data.toList) ++ [(s.data.toList.take k).drop f] = sp (s.data.toList.take k)

theorem ext_list (s : ByteArray) (f k : Nat) : (s.extract f k).data.toList = (s.data.toList.take k).drop f := by
  rw [ByteArray.data_extract, Array.toList_extract, List.extract_eq_take_drop, List.drop_take]

theorem cut_zero (s : ByteArray) : CutAt s [] 0 0 := ⟨by omega, by omega, by simp [sp]⟩

theorem CutAt.blank {s : ByteArray} {W : List ByteArray} {f k : Nat} (h : CutAt s W f k) (hk : k < s.size) (hb : s[k] = 32) : CutAt s (W ++ [s.extract f k]) (k + 1) (k + 1) := by
  obtain ⟨h1, h2, h3⟩ := h
  have hl : s.data.toList.length = s.size := by simp
  refine ⟨by omega, by omega, ?_⟩
  rw [take_snoc8 s k hk, hb, sp_blank, ← h3, List.map_append, List.map_cons, List.map_nil, ext_list]
  have e : (s.data.toList.take k ++ [32]).drop (k + 1) = [] := List.drop_of_length_le (by simp; omega)
  rw [e]

theorem CutAt.other {s : ByteArray} {W : List ByteArray} {f k : Nat} (h : CutAt s W f k) (hk : k < s.size) (hb : s[k] ≠ 32) : CutAt s W f (k + 1) := by
  obtain ⟨h1, h2, h3⟩ := h
  have hl : s.data.toList.length = s.size := by simp
  refine ⟨by omega, by omega, ?_⟩
  rw [take_snoc8 s k hk, sp_other _ _ hb _ _ h3.symm]
  rw [List.drop_append_of_le_length (by simp; omega)]

theorem CutAt.done {s : ByteArray} {W : List ByteArray} {f : Nat} (h : CutAt s W f s.size) : (W ++ [s.extract f s.size]).map (·.data.toList) = sp s.data.toList := by
  obtain ⟨h1, h2, h3⟩ := h
  rw [List.map_append, List.map_cons, List.map_nil, ext_list, h3]
  congr 1
  exact List.take_of_length_le (by simp)

theorem CutAt.len {s : ByteArray} {W : List ByteArray} {f k : Nat} (h : CutAt s W f k) : W.length ≤ k := by
  obtain ⟨h1, h2, h3⟩ := h
  have := congrArg List.length h3
  have h4 := (sp_short (s.data.toList.take k)).1
  simp at this h4
  omega

/-! ### slices of words of the call's own -/

/-- a slice of words of the call's own, in blocks from 'base' on -/
def OwnS (base : Nat) (w : World) (v : Value) (ss : List ByteArray) : Prop := w.ownsRow base 9 1 v ss.length (ss.map Value.string)

theorem infoS : (Tryd.prog.info? 9).map (fun i => (i.zero, i.size, i.bytes)) = some (some (.string ByteArray.empty), 1, 16) := by kernel_rfl

theorem ownS_new (w : World) : OwnS w.heap.size (w.alloc (.cells #[] 9)) (.slice (some ⟨w.heap.size, 0, none⟩) 0 0) [] :=
  World.ownsRow_lit w #[] 0 (Nat.le_refl _) (Nat.zero_le _) rfl

theorem OwnS.mono {base b2 : Nat} {w : World} {v : Value} {xs : List ByteArray} (h : OwnS base w v xs) (hb : b2 ≤ base) : OwnS b2 w v xs := by
  obtain ⟨h0, h1 | ⟨g, cap, cur, hv, hg, hh, r⟩⟩ := h
  · exact ⟨h0, .inl h1⟩
  · exact ⟨h0, .inr ⟨g, cap, cur, hv, by omega, hh, r⟩⟩

/-- its shape, and what its cells hold -/
theorem OwnS.cells {base : Nat} {w : World} {v : Value} {xs : List ByteArray} (h : OwnS base w v xs) (hl : 0 < xs.length) : ∃ g c, v = .slice (some ⟨g, 0, none⟩) xs.length c ∧ base ≤ g ∧ ∀ i, i < xs.length → w.cell? ⟨g, i, none⟩ = some (.string (xs.getD i ByteArray.empty)) := by
  have hh := h
  obtain ⟨h0, ⟨rfl, hn⟩ | ⟨g, cap, cur, rfl, hg, hb, r⟩⟩ := h
  · omega
  · refine ⟨g, cap, rfl, hg, fun i hi => ?_⟩
    rw [hh.cellAt i (by omega)]
    simp [List.getD, hi]

theorem ownS_step {base : Nat} {wr w1 : World} {v v' : Value} {xs : List ByteArray} {x : ByteArray} {o : Obj} (hown : OwnS base wr v xs) (hbs : base ≤ wr.heap.size)
    (hown' : w1.ownsRow base 9 1 v' (xs.length + 1) (xs.map Value.string ++ [.string x])) (hg : (wr.alloc o).grownBy w1 v.ownBlock) :
    OwnS base w1 v' (xs ++ [x]) ∧ Below base wr w1 := by
  constructor
  · unfold OwnS
    rw [List.length_append, List.length_singleton, List.map_append]
    exact hown'
  · exact ((Below.refl _ _).alloc hbs o).grown hg (by simp; omega) fun k hk => (hown.lt k hk).1

theorem wpList_appS {w : World} {ops : Array Oper} {rest : List Oper} {o : Oper} {a : Act} {Q : Exit → Act → World → Prop} (hgd : o.guard = none) (s x : Operand)
    (ho : o.op = .call { callee := .builtin .append, args := #[s, x], argTypes := #[59, 59] })
    (base : Nat) (v : Value) (xs : List ByteArray) (y : ByteArray) (hs : a.eval s = v) (hown : OwnS base w v xs) (ad : Addr) (hx : a.eval x = .slice (some ad) 1 1) (hc : ∀ j u, [Value.string y][j]? = some u → w.cell? (ad.add j) = some u)
    (hlen : xs.length ≤ 1100000) (hbase : base ≤ w.heap.size)
    (h : ∀ v' w', OwnS base w' v' (xs ++ [y]) → w.grownBy w' v.ownBlock → wpList Tryd.prog ops Q rest (a.put o.dst v') w') : wpList Tryd.prog ops Q (o :: rest) a w := by
  obtain ⟨i0, hi, hz0, hz1, hz2⟩ := info_parts infoS
  obtain ⟨v', w', hr, h2, h3, h4⟩ := run_append_own (P := Tryd.prog) w base 59 o.type 9 i0 (.string ByteArray.empty) 1 16 Tryd.underlying59 hi hz0 hz1 hz2 rfl (by decide) v xs.length (xs.map Value.string) hown ad 1 1 [.string y] rfl hc (by intro u hu; simp at hu; subst hu; rfl) (by unfold maxLen; omega) (by omega) hbase
  have h6 : OwnS base w' v' (xs ++ [y]) := by
    unfold OwnS
    rw [List.length_append, List.length_singleton, List.map_append]
    exact h2
  refine wpList_plain hgd fun _ hK => ?_
  unfold Oper.wp execOp
  simp only [ho, resolve, invoke, builtin, Sem.run_bind, Sem.run_pure, Result.andThen_ok, List.map_toArray, List.map_cons, List.map_nil, hs, hx, hr]
  exact hK _ _ (h v' w' h6 h3)

theorem one_newS (w : World) (x : ByteArray) : ∀ j u, [Value.string x][j]? = some u → (w.alloc (.cells #[.string x] 9)).cell? ((⟨w.heap.size, 0, none⟩ : Addr).add j) = some u := by
  intro j u hj
  match j, hj with
  | 0, hj => simp at hj; subst hj; simp [Addr.add]

/-- an append of one number onto a list of any length that a text can have -/
theorem wpList_appW {w : World} {ops : Array Oper} {rest : List Oper} {o : Oper} {a : Act} {Q : Exit → Act → World → Prop} (hgd : o.guard = none) (s x : Operand)
    (ho : o.op = .call { callee := .builtin .append, args := #[s, x], argTypes := #[24, 24] })
    (base : Nat) (v : Value) (xs : List Int) (y : Int) (hs : a.eval s = v) (hown : OwnI base w v xs) (ad : Addr) (hx : a.eval x = .slice (some ad) 1 1) (hc : ∀ j u, [Value.int .i64 y][j]? = some u → w.cell? (ad.add j) = some u)
    (hlen : xs.length ≤ 1100000) (hbase : base ≤ w.heap.size)
    (h : ∀ v' w', OwnI base w' v' (xs ++ [y]) → w.grownBy w' v.ownBlock → wpList Tryd.prog ops Q rest (a.put o.dst v') w') : wpList Tryd.prog ops Q (o :: rest) a w := by
  obtain ⟨i0, hi, hz0, hz1, hz2⟩ := info_parts infoI
  obtain ⟨v', w', hr, h2, h3, h4⟩ := run_append_own (P := Tryd.prog) w base 24 o.type 2 i0 (.int .i64 0) 1 8 Tryd.underlying24 hi hz0 hz1 hz2 rfl (by decide) v xs.length (xs.map (Value.int .i64)) hown ad 1 1 [.int .i64 y] rfl hc (by intro u hu; simp at hu; subst hu; rfl) (by unfold maxLen; omega) (by omega) hbase
  have h6 : OwnI base w' v' (xs ++ [y]) := by
    unfold OwnI
    rw [List.length_append, List.length_singleton, List.map_append]
    exact h2
  refine wpList_plain hgd fun _ hK => ?_
  unfold Oper.wp execOp
  simp only [ho, resolve, invoke, builtin, Sem.run_bind, Sem.run_pure, Result.andThen_ok, List.map_toArray, List.map_cons, List.map_nil, hs, hx, hr]
  exact hK _ _ (h v' w' h6 h3)

/-! ### the walks -/

def SgPost (l : List UInt8) (w : World) (e : Ending) (w' : World) : Prop := e = .returned (.tuple #[.int .i64 (sgV l), .bool (sgO l)]) ∧ Below w.heap.size w w'

theorem sgV_bd (l : List UInt8) : -9999999999999 ≤ sgV l ∧ sgV l ≤ 9999999999999 := by
  unfold sgV
  have h1 := dgV_bd l
  have h2 := dgV_bd (l.drop 1)
  split <;> omega

set_option maxHeartbeats 400000 in
theorem sg_spec (s : ByteArray) (w : World) (hs : s.size ≤ 1048576) : Calls Tryd.prog 63 #[.string s] w (SgPost s.data.toList w) := by
  by_cases h0 : 0 < s.size
  · have hh := head_of s h0
    by_cases h45 : (s[0]'h0).toNat = 45
    · have h45' : (s[0]'h0) = 45 := UInt8.toNat_inj.1 h45
      have e1 : (((s[0]'h0).toNat : Int) == 45) = true := by simp; omega
      have hl : (s.extract 1 s.size).data.toList = s.data.toList.drop 1 := by
        rw [ext_list, List.take_of_length_le (by simp)]
      have HV : Hid (sgV s.data.toList = -(dgV (s.data.toList.drop 1))) := Lib.hid (by unfold sgV; rw [if_pos (by rw [hh, h45'])])
      have HO : Hid (sgO s.data.toList = (dgO (s.data.toList.drop 1) && decide (0 < dgV (s.data.toList.drop 1)))) := Lib.hid (by unfold sgO; rw [if_pos (by rw [hh, h45'])])
      have hbd := dgV_bd (s.data.toList.drop 1)
      have hez : (s.extract 1 s.size).size ≤ 4611686018427387904 := by rw [ByteArray.size_extract]; omega
      have HD := digs_any (s.extract 1 s.size)
      rw [hl] at HD
      have HDG := Lib.hid HD
      clear HD hl hh h45 h45'
      go_enter Tryd.func63, Tryd.ntmps63
      go_wp2_with fail
      refine (HDG.out _ hez).mono ?_
      rintro e w1 ⟨rfl, hb⟩
      have HB := Lib.hid hb
      clear hb
      obtain ⟨v, hv⟩ : ∃ v, dgV (s.data.toList.drop 1) = v := ⟨_, rfl⟩
      obtain ⟨o, ho⟩ : ∃ o, dgO (s.data.toList.drop 1) = o := ⟨_, rfl⟩
      rw [hv] at hbd HV HO
      rw [ho] at HO
      (try rw [hv])
      (try rw [ho])
      clear hv ho
      cases o
      all_goals
        go_wp2_with fail
        go_ret2
        exact ⟨ret_ib' (by rw [HV.out]) (by rw [HO.out]; simp), HB.out⟩
    · have e1 : (((s[0]'h0).toNat : Int) == 45) = false := by simp; omega
      have hne : ¬ s.data.toList.head? = some 45 := by rw [hh]; intro e; injection e with e; rw [e] at h45; exact h45 rfl
      have HV : Hid (sgV s.data.toList = dgV s.data.toList) := Lib.hid (by unfold sgV; rw [if_neg hne])
      have HO : Hid (sgO s.data.toList = dgO s.data.toList) := Lib.hid (by unfold sgO; rw [if_neg hne])
      clear hne hh h45
      go_enter Tryd.func63, Tryd.ntmps63
      go_wp2_with fail
      refine (digs_any _ _ (by omega)).mono ?_
      rintro e w1 ⟨rfl, hb⟩
      have HB := Lib.hid hb
      clear hb
      go_wp2_with fail
      go_ret2
      exact ⟨ret_ib' (by rw [HV.out]) (by rw [HO.out]), HB.out⟩
  · have hsz : s.data.toList.length = s.size := by simp
    have hn : s.data.toList = [] := List.length_eq_zero_iff.1 (by omega)
    clear hsz
    have hne : ¬ s.data.toList.head? = some 45 := by rw [hn]; simp
    have HV : Hid (sgV s.data.toList = dgV s.data.toList) := Lib.hid (by unfold sgV; rw [if_neg hne])
    have HO : Hid (sgO s.data.toList = dgO s.data.toList) := Lib.hid (by unfold sgO; rw [if_neg hne])
    clear hne hn
    go_enter Tryd.func63, Tryd.ntmps63
    go_wp2_with fail
    refine (digs_any _ _ (by omega)).mono ?_
    rintro e w1 ⟨rfl, hb⟩
    have HB := Lib.hid hb
    clear hb
    go_wp2_with fail
    go_ret2
    exact ⟨ret_ib' (by rw [HV.out]) (by rw [HO.out]), HB.out⟩

def SplitPost (s : ByteArray) (w : World) (e : Ending) (w' : World) : Prop :=
  ∃ (g c : Nat) (W : List ByteArray), e = .returned (.slice (some ⟨g, 0, none⟩) W.length c) ∧ W.map (fun x : ByteArray => x.data.toList) = sp s.data.toList ∧ W.length ≤ s.size + 1 ∧ (∀ i, i < W.length → w'.cell? ⟨g, i, none⟩ = some (.string (W.getD i ByteArray.empty))) ∧ Below w.heap.size w w'

end Go.Proofs.YtpphiekbhikadaaDoor

/- Policies: numbers separated by commas; the model's text of a policy. (Written by wip/gen/ptx.py.) -/
namespace Go.Proofs.YtpphiekbhikadaaDoor
open Go.ChangeShapes Go.WideShapes Go.ChangeAt Go.RowKit
set_option linter.unusedVariables false
set_option maxRecDepth 100000

/-- a comma and a number, for each -/
def tailC (r : List Int) : List UInt8 := r.flatMap fun m => 44 :: Lib.itoa m

/-- numbers in decimal, separated by commas -/
def jc : List Int → List UInt8
  | [] => []
  | n :: r => Lib.itoa n ++ tailC r

theorem tailC_snoc (r : List Int) (m : Int) : tailC (r ++ [m]) = tailC r ++ 44 :: Lib.itoa m := by simp [tailC]

theorem tailC_nil : tailC [] = [] := rfl

theorem tailC_cons (m : Int) (r : List Int) : tailC (m :: r) = 44 :: (Lib.itoa m ++ tailC r) := by simp [tailC]

theorem jc_one (n : Int) : jc [n] = Lib.itoa n := by simp [jc, tailC]

theorem jc_snoc (n : Int) (r : List Int) (m : Int) : jc (n :: (r ++ [m])) = jc (n :: r) ++ 44 :: Lib.itoa m := by
  simp [jc, tailC_snoc]

/-- the words of a text, cut at every comma -/
def spC : List UInt8 → List (List UInt8)
  | [] => [[]]
  | c :: t => if c = 44 then [] :: spC t else
    match spC t with
    | w :: ws => (c :: w) :: ws
    | [] => [[c]]

theorem spC_ne (l : List UInt8) : spC l ≠ [] := by
  cases l with
  | nil => simp [spC]
  | cons c t =>
    unfold spC; split
    · simp
    · split <;> simp

/-- words joined by commas -/
def jwC : List (List UInt8) → List UInt8
  | [] => []
  | w :: ws => w ++ ws.flatMap fun x => 44 :: x

theorem jwC_sp (l : List UInt8) : jwC (spC l) = l := by
  induction l with
  | nil => simp [spC, jwC]
  | cons c t ih =>
    unfold spC
    split
    · next h =>
      subst h
      cases hs : spC t with
      | nil => exact absurd hs (spC_ne t)
      | cons w ws => rw [hs] at ih; simp [jwC] at ih ⊢; exact ih
    · split
      · next w ws hs => rw [hs] at ih; simp [jwC] at ih ⊢; exact ih
      · next hs => exact absurd hs (spC_ne t)

theorem spC_plain (w : List UInt8) (h : ∀ c ∈ w, c ≠ 44) : spC w = [w] := by
  induction w with
  | nil => rfl
  | cons c t ih =>
    unfold spC
    rw [if_neg (h c List.mem_cons_self), ih fun x hx => h x (List.mem_cons_of_mem _ hx)]

theorem spC_app (w l : List UInt8) (h : ∀ c ∈ w, c ≠ 44) : spC (w ++ 44 :: l) = w :: spC l := by
  induction w with
  | nil => simp [spC]
  | cons c t ih =>
    rw [List.cons_append, spC, if_neg (h c List.mem_cons_self), ih fun x hx => h x (List.mem_cons_of_mem _ hx)]

theorem spC_jw (w : List UInt8) (ws : List (List UInt8)) (h : ∀ x ∈ w :: ws, ∀ c ∈ x, c ≠ 44) : spC (jwC (w :: ws)) = w :: ws := by
  induction ws generalizing w with
  | nil => simp only [jwC, List.flatMap_nil, List.append_nil]; exact spC_plain _ (h w List.mem_cons_self)
  | cons x xs ih =>
    have e : jwC (w :: x :: xs) = w ++ 44 :: jwC (x :: xs) := by simp [jwC]
    rw [e, spC_app _ _ (h w List.mem_cons_self), ih x fun y hy => h y (List.mem_cons_of_mem _ hy)]

/-- a number's digits and its sign are no commas -/
theorem itoa_comma (n : Int) : ∀ c ∈ Lib.itoa n, c ≠ 44 := by
  have hnn : ∀ u : Nat, ∀ c ∈ Lib.itoa (u : Int), c ≠ 44 := by
    intro u c hc e
    rw [itoa_nat] at hc
    have := dig_all u c hc
    rw [e] at this
    simp at this
  by_cases h : 0 ≤ n
  · obtain ⟨u, rfl⟩ := Int.eq_ofNat_of_zero_le h
    exact hnn u
  · obtain ⟨u, hu⟩ := Int.eq_ofNat_of_zero_le (show 0 ≤ -n by omega)
    have e : n = -(u : Int) := by omega
    rw [e, itoa_minus _ (by omega)]
    intro c hc
    rcases List.mem_cons.1 hc with rfl | hc
    · decide
    · exact hnn u c hc

theorem jc_jw (n : Int) (r : List Int) : jc (n :: r) = jwC (Lib.itoa n :: r.map Lib.itoa) := by
  simp [jc, jwC, tailC, List.flatMap_map]

theorem sp_jc (n : Int) (r : List Int) : spC (jc (n :: r)) = (n :: r).map Lib.itoa := by
  rw [jc_jw, spC_jw, List.map_cons]
  intro x hx
  rw [← List.map_cons, List.mem_map] at hx
  obtain ⟨m, hm, rfl⟩ := hx
  exact itoa_comma m

theorem splitK_oneC (l : List UInt8) : Lib.splitK [44] 0 (l.count 44) l = spC l := by
  induction l with
  | nil => rfl
  | cons b t ih =>
    by_cases h : b = 44
    · subst h
      rw [List.count_cons_self, Lib.splitK, index_one, if_pos rfl, spC, if_pos rfl, ← ih]
      simp
    · rw [List.count_cons_of_ne (fun e => h e), spC, if_neg h]
      by_cases h0 : t.count 44 = 0
      · rw [h0] at ih ⊢
        rw [← ih]; rfl
      · obtain ⟨k, hk⟩ : ∃ k, t.count 44 = k + 1 := ⟨t.count 44 - 1, by omega⟩
        rw [hk] at ih ⊢
        have hi : ¬ Lib.index t [44] = -1 := fun e => h0 ((index_none _ _).1 e)
        have hge := Lib.index_ge t [44]
        rw [Lib.splitK] at ih ⊢
        rw [if_neg (by simpa using hi)] at ih
        rw [index_one, if_neg h, if_neg hi, if_neg (by simp; omega), ← ih]
        have e1 : (Lib.index t [44] + 1).toNat = (Lib.index t [44]).toNat + 1 := by omega
        rw [e1]
        simp [List.take_succ_cons]


theorem itoa_lenC (n : Int) (h0 : -1000000000000 ≤ n) (h1 : n ≤ 1000000000000) : (Lib.itoa n).length ≤ 21 := Lib.itoa_length_le n (by omega) (by omega)

theorem tailC_len (r : List Int) (h : ∀ x ∈ r, -1000000000000 ≤ x ∧ x ≤ 1000000000000) : (tailC r).length ≤ 22 * r.length := by
  induction r with
  | nil => simp [tailC]
  | cons x t ih =>
    rw [tailC_cons, List.length_cons, List.length_append, List.length_cons]
    have h1 := itoa_lenC x (h x List.mem_cons_self).1 (h x List.mem_cons_self).2
    have h2 := ih fun y hy => h y (List.mem_cons_of_mem _ hy)
    omega

theorem jc_len (xs : List Int) (h : ∀ x ∈ xs, -1000000000000 ≤ x ∧ x ≤ 1000000000000) : (jc xs).length ≤ 22 * xs.length := by
  cases xs with
  | nil => simp [jc]
  | cons x t =>
    rw [jc, List.length_append, List.length_cons]
    have h1 := itoa_lenC x (h x List.mem_cons_self).1 (h x List.mem_cons_self).2
    have h2 := tailC_len t fun y hy => h y (List.mem_cons_of_mem _ hy)
    omega

theorem jc_take_succ (xs : List Int) (k : Nat) (hk : k < xs.length) (h0 : 0 < k) : jc (xs.take (k + 1)) = jc (xs.take k) ++ (44 :: Lib.itoa (xs.getD k 0)) := by
  rw [List.take_add_one, List.getElem?_eq_getElem hk]
  cases xs with
  | nil => simp at hk
  | cons x t =>
    obtain ⟨j, rfl⟩ : ∃ j, k = j + 1 := ⟨k - 1, by omega⟩
    rw [List.take_succ_cons]
    show jc (x :: (t.take j ++ [(x :: t)[j + 1]])) = _
    rw [jc_snoc]
    simp [List.getD, show j < t.length by simpa using hk]

theorem jc_take_one (xs : List Int) (hk : 0 < xs.length) : jc (xs.take 1) = Lib.itoa (xs.getD 0 0) := by
  cases xs with
  | nil => simp at hk
  | cons x t => simp [jc_one]


/-- numbers of a policy's text -/
def Mon5 (xs : List Int) : Prop := ∀ x ∈ xs, -1000000000000 ≤ x ∧ x ≤ 1000000000000

theorem Mon5.get {xs : List Int} (h : Mon5 xs) (i : Nat) : -1000000000000 ≤ xs.getD i 0 ∧ xs.getD i 0 ≤ 1000000000000 := by
  by_cases hi : i < xs.length
  · rw [List.getD_eq_getElem?_getD, List.getElem?_eq_getElem hi]; exact h _ (List.getElem_mem _)
  · rw [getD_far _ _ (by omega)]; omega

theorem Mon5.take {xs : List Int} (h : Mon5 xs) (k : Nat) : Mon5 (xs.take k) := fun x hx => h x (List.mem_of_mem_take hx)

theorem numberC_any (n : Int) (w : World) (h0 : -1000000000000 ≤ n) (h1 : n ≤ 1000000000000) :
    Calls Tryd.prog 60 #[.int .i64 n] w fun e w' => e = .returned (.string ⟨(Lib.itoa n).toArray⟩) ∧ Below w.heap.size w w' := by
  by_cases hn : 0 ≤ n
  · exact number_any n w hn h1
  · have hneg : n < 0 := by omega
    obtain ⟨u, hu⟩ := Int.eq_ofNat_of_zero_le (show 0 ≤ -n by omega)
    have hc := fun w => dec_any u (u : Int) w (by omega) (by omega) (by omega)
    simp only [Int.toNat_natCast] at hc
    have HI : Hid (Lib.itoa n = 45 :: Lib.decDigits u) := Lib.hid (by
      have e : n = -(u : Int) := by omega
      rw [e, itoa_minus _ (by omega), itoa_nat])
    have q1 : IntKind.i64.wrap (-n) = -n := IntWalk.i64_in _ (by omega)
    have hl : (Lib.itoa n).length ≤ 21 := itoa_lenC n h0 h1
    rw [HI.out] at hl
    obtain ⟨L, hL⟩ : ∃ y_, Lib.decDigits u = y_ := ⟨_, rfl⟩
    rw [hL] at hc HI hl
    have hl2 : L.length ≤ 100 := by simp at hl; omega
    have HC := Lib.hid hc
    clear hc hn hL hl
    go_enter Tryd.func60, Tryd.ntmps60
    go_wp2_with fail
    refine (HC.out _).mono ?_
    rintro e w1 ⟨rfl, hb⟩
    have HB := Lib.hid hb
    clear hb
    go_wp2_with fail
    go_ret
    exact ⟨ret_str (by rw [HI.out]; simp), HB.out⟩

set_option maxHeartbeats 1000000 in
theorem joinC_any (xs : List Int) (a : Option Addr) (l c : Nat) (w : World) (h : Ints w a l xs) (hn : Mon5 xs) (hl : l ≤ 1000) :
    Calls Tryd.prog 33 #[.slice a l c, .string ⟨#[44]⟩] w fun e w' => e = .returned (.string ⟨(jc xs).toArray⟩) ∧ Below w.heap.size w w' := by
  have HL := Lib.hid h.len
  have H := Lib.hid h
  have HN := Lib.hid hn
  clear h hn
  go_enter Tryd.func33, Tryd.ntmps33
  go_wp2_with fail
  go_loopw [5, 6] (fun s i wr => ∃ k : Nat, k ≤ l ∧ i = .int .i64 k ∧ s = .string ⟨(jc (xs.take k)).toArray⟩ ∧ Hid (Below w.heap.size w wr)) (fun _ i _ => l - (intOf i).toNat)
  case atStart => exact ⟨0, Nat.zero_le _, rfl, by simp [jc], Lib.hid (Below.refl _ _)⟩
  case round =>
    obtain ⟨k, hk, rfl, rfl, HB⟩ := hrel
    have hlen := jc_len (xs.take k) (HN.out.take k)
    have hlk : (xs.take k).length ≤ k := List.length_take_le _ _
    by_cases hlt : k < l
    · obtain ⟨b, off, rfl, hb, hc⟩ := H.out.at (by omega)
      have hx := (HB.out.cell (p := ⟨b, off + k, none⟩) hb).trans (hc k hlt)
      obtain ⟨n0, n1⟩ := HN.out.get k
      have HT := Lib.hid (jc_take_succ xs k (by rw [HL.out]; exact hlt))
      have HT1 : Hid (k = 0 → jc (xs.take (k + 1)) = Lib.itoa (xs.getD k 0)) := Lib.hid (fun e => by subst e; exact jc_take_one xs (by rw [HL.out]; omega))
      have HTE : Hid (k = 0 → jc (xs.take k) = []) := Lib.hid (fun e => by subst e; simp [jc])
      obtain ⟨n, hn0⟩ : ∃ n, xs.getD k 0 = n := ⟨_, rfl⟩
      rw [hn0] at hx n0 n1 HT HT1
      have hil := itoa_lenC n n0 n1
      obtain ⟨J, hJ⟩ : ∃ J, jc (xs.take k) = J := ⟨_, rfl⟩
      rw [hJ] at hlen HT HTE ⊢
      have hx' : wr.cell? ⟨b, off + k, none⟩ = some (.int .i64 n) := hx
      clear hn0 hJ hc hx
      have hJ2 : J.length ≤ 22000 := by omega
      by_cases h0 : k = 0
      · have hk0 : ¬ (0 : Int) < (k : Int) := by omega
        have HE := Lib.hid (HTE.out h0)
        have HT2 := Lib.hid (HT1.out h0)
        clear h0
        go_wp2_with fail
        refine (numberC_any n _ n0 n1).mono ?_
        rintro e w3 ⟨rfl, hb3⟩
        have HB3 := Lib.hid (HB.out.trans (hb3.mono HB.out.size))
        clear hb3
        go_wp2_with fail
        go_roundw
        case rel => exact ⟨k + 1, by omega, by go_num, by rw [HT2.out]; congr 1; apply ByteArray.ext; simp [HE.out], HB3⟩
        case measure => simp [intOf]; omega
      · have hk0 : (0 : Int) < (k : Int) := by omega
        have HT2 := Lib.hid (HT.out (by omega))
        clear h0
        go_wp2_with fail
        refine (numberC_any n _ n0 n1).mono ?_
        rintro e w3 ⟨rfl, hb3⟩
        have HB3 := Lib.hid (HB.out.trans (hb3.mono HB.out.size))
        clear hb3
        go_wp2_with fail
        go_roundw
        case rel => exact ⟨k + 1, by omega, by go_num, by rw [HT2.out]; congr 1; apply ByteArray.ext; simp, HB3⟩
        case measure => simp [intOf]; omega
    · obtain rfl : k = l := by omega
      have HX : Hid (xs.take k = xs) := Lib.hid (List.take_of_length_le (by rw [HL.out]; exact Nat.le_refl _))
      go_wp2_with fail
      go_ret
      exact ⟨ret_str (by rw [HX.out]), HB.out⟩


/-- the text of a policy -/
def ptB (k x n s u : Int) : Bool := [k, x, n, s, u].all fun v => inB v (-1000000000000) 1000000000000

def ptT (k x n s u : Int) : List UInt8 := if ptB k x n s u = true then jc [k, x, n, s, u] else []

theorem ptB_mon {k x n s u : Int} (h : ptB k x n s u = true) : Mon5 [k, x, n, s, u] := by
  intro v hv
  unfold ptB at h
  rw [List.all_eq_true] at h
  exact (inB_iff _ _ _).1 (h v hv)

theorem ints5 (w : World) (k x n s u : Int) : Ints (w.alloc (.cells #[.int .i64 k, .int .i64 x, .int .i64 n, .int .i64 s, .int .i64 u] 2)) (some ⟨w.heap.size, 0, none⟩) 5 [k, x, n, s, u] := by
  refine ⟨rfl, by omega, .inr ⟨w.heap.size, 0, rfl, fun i hi => ?_⟩⟩
  match i, hi with
  | 0, _ => go_simp
  | 1, _ => go_simp
  | 2, _ => go_simp
  | 3, _ => go_simp
  | 4, _ => go_simp

end Go.Proofs.YtpphiekbhikadaaDoor

/- Policies: the model's text of a policy. -/
namespace Go.Proofs.YtpphiekbhikadaaDoor
open Go.ChangeShapes Go.WideShapes Go.ChangeAt Go.RowKit
set_option linter.unusedVariables false
set_option maxRecDepth 100000

theorem ints5b (w : World) (b : Nat) (hb : b = w.heap.size) (k x n s u : Int) : Ints (w.alloc (.cells #[.int .i64 k, .int .i64 x, .int .i64 n, .int .i64 s, .int .i64 u] 2)) (some ⟨b, 0, none⟩) 5 [k, x, n, s, u] := by
  subst hb; exact ints5 w k x n s u

end Go.Proofs.YtpphiekbhikadaaDoor
