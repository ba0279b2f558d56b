/- Lists copied by the model and by the program. (Written by wip/gen/fmk.py.) -/
import Derived.Test.YtmnddplkmljeaaaLwb
import Derived.Deep.RegionHeld3
namespace Go.Proofs.Ytmnddplkmljeaaa
open Go.ChangeShapes Go.WideShapes Go.ChangeAt Go.RowKit
set_option linter.unusedVariables false
set_option maxRecDepth 100000

/-- a list of integers appended to a list of the call's own -/
theorem run_apI (w : World) (base : Nat) (ty : TypeId) (v : Value) (xs ys : List Int) (b : Option Addr) (m cp : Nat) (hown : OwnI base w v xs) (hI : Ints w b m ys) (hlen : xs.length + m ≤ 4096) (hbase : base ≤ w.heap.size) :
    ∃ v' w', (Builtin.append_ #[24, 24] ty #[v, .slice b m cp]).run Try.prog w = .ok v' w' ∧ OwnI base w' v' (xs ++ ys) ∧ Below base w w' ∧ (v ≠ .slice none 0 0 → v' ≠ .slice none 0 0) := by
  obtain ⟨i0, hi, hz0, hz1, hz2⟩ := info_parts infoI
  cases b with
  | none =>
    have hm0 : m = 0 := by
      rcases hI.cells with h | ⟨_, _, h, _⟩
      · exact h
      · cases h
    subst hm0
    have hy : ys = [] := List.length_eq_zero_iff.1 hI.len
    subst hy
    refine ⟨v, w, ?_, by rw [List.append_nil]; exact hown, Below.refl _ _, fun h => h⟩
    have ht := Try.underlying24
    have hown' : w.ownsRow base 2 1 v xs.length (xs.map (Value.int .i64)) := hown
    rcases hown'.2 with ⟨rfl, hn⟩ | ⟨g, cap, cur, rfl, _, _, hnc, _⟩
    · simp [Builtin.append_, run_underlying ht, sizeOf, typeInfo, hi, Builtin.lenOf, Builtin.firstCells]
    · simp [Builtin.append_, run_underlying ht, sizeOf, typeInfo, hi, Builtin.lenOf, Builtin.firstCells, hnc, storeCells]
  | some ad =>
    have hnews : ∀ j u, (ys.map (Value.int .i64))[j]? = some u → w.cell? (ad.add j) = some u := by
      intro j u hj
      have hl := (List.getElem?_eq_some_iff.1 hj).1
      rw [List.length_map] at hl
      rcases hI.cells with h | ⟨b, off, h, hc⟩
      · rw [hI.len, h] at hl; omega
      · cases h
        rw [Addr.add_lit, hc j (by rw [← hI.len]; exact hl)]
        rw [← hj]
        simp [List.getD, hl]
    have hm : maxLen = maxLen := rfl
    unfold maxLen at hm
    obtain ⟨v', w', hr, h2, h3, h4⟩ := run_append_own (P := Try.prog) w base 24 ty 2 i0 (.int .i64 0) 1 8 Try.underlying24 hi hz0 hz1 hz2 rfl (by decide) v xs.length (xs.map (Value.int .i64)) hown ad m cp (ys.map (Value.int .i64)) (by rw [List.length_map, hI.len, Nat.mul_one]) hnews (by intro u hu; obtain ⟨q, _, rfl⟩ := List.mem_map.1 hu; rfl) (by unfold maxLen; omega) (by omega) hbase
    refine ⟨v', w', hr, ?_, (Below.refl _ _).grown h3 hbase (fun k hk => (World.ownsRow.lt hown k hk).1), fun hv hv' => hv (h4.1 hv').1⟩
    unfold OwnI
    rw [List.length_append, List.map_append, hI.len]
    exact h2

theorem wpList_apI {w : World} {ops : Array Oper} {rest : List Oper} {o : Oper} {a : Act} {Q : Exit → Act → World → Prop} (hgd : o.guard = none) (s x : Operand)
    (ho : o.op = .call { callee := .builtin .append, args := #[s, x], argTypes := #[24, 24] })
    (base : Nat) (v : Value) (xs ys : List Int) (b : Option Addr) (m cp : Nat) (hs : a.eval s = v) (hown : OwnI base w v xs) (hx : a.eval x = .slice b m cp) (hI : Ints w b m ys) (hlen : xs.length + m ≤ 4096) (hbase : base ≤ w.heap.size)
    (h : ∀ v' w', OwnI base w' v' (xs ++ ys) → Below base w w' → (v ≠ .slice none 0 0 → v' ≠ .slice none 0 0) → wpList Try.prog ops Q rest (a.put o.dst v') w') : wpList Try.prog ops Q (o :: rest) a w := by
  obtain ⟨v', w', hr, h1, h2, h3⟩ := run_apI w base o.type v xs ys b m cp hown hI hlen hbase
  refine wpList_plain hgd fun _ hK => ?_
  unfold Oper.wp execOp
  simp only [ho, resolve, invoke, builtin, Sem.run_bind, Sem.run_pure, Result.andThen_ok, List.map_toArray, List.map_cons, List.map_nil, hs, hx, hr]
  exact hK _ _ (h v' w' h1 h2 h3)

def OwPost (ys : List Int) (w : World) (e : Ending) (w' : World) : Prop := ∃ g n c, e = .returned (.slice (some ⟨g, 0, none⟩) n c) ∧ OwnI w.heap.size w' (.slice (some ⟨g, 0, none⟩) n c) ys ∧ ys.length = n ∧ Below w.heap.size w w'

/-- the shape of a list of the call's own that isn't nil -/
theorem own_some {base : Nat} {w : World} {v : Value} {ys : List Int} (h : OwnI base w v ys) (hv : v ≠ .slice none 0 0) : ∃ g c, v = .slice (some ⟨g, 0, none⟩) ys.length c ∧ base ≤ g ∧ g < w.heap.size ∧ ys.length ≤ c ∧ c ≤ maxLen ∧ RowI w g 0 ys := by
  have hh := h
  rcases h.2 with ⟨h0, _⟩ | ⟨g, cap, cur, rfl, hbg, hg, hnc, hcm, -⟩
  · exact absurd h0 hv
  · exact ⟨g, cap, rfl, hbg, (hh.lt g rfl).2, hnc, hcm, hh.row⟩

theorem sow_any (ys : List Int) (a : Option Addr) (n c : Nat) (w : World) (h : Ints w a n ys) (hn : n ≤ 4096) : Calls Try.prog 97 #[.slice a n c] w (OwPost ys w) := by
  have HL := Lib.hid h.len
  have H := Lib.hid (h.on (box_b w (.cells #[] 2)))
  have HO := Lib.hid (ownI_new w)
  clear h
  go_enter Try.func97, Try.ntmps97
  go_wp2_with (at_builtin; go_must (refine wpList_apI rfl _ _ rfl w.heap.size _ [] ys a n c rfl HO.out rfl H.out (by simp; omega) (by simp) ?_))
  intro v' w1 hown hb hnn
  obtain ⟨g, c', rfl, -⟩ := own_some hown (by first | exact hnn | exact hnn (by simp))
  have HW := Lib.hid hown
  have HB := Lib.hid hb
  clear hown hb hnn
  go_wp2_with fail
  go_ret
  exact ⟨_, _, _, rfl, HW.out, rfl, (box_b w _).trans (HB.out.mono (Nat.le_refl _))⟩

/-- a copy that a call hands over -/
def CpP (ys : List Int) (w : World) (e : Ending) (w' : World) : Prop := ∃ x k c, e = .returned (.slice x k c) ∧ TbL w.heap.size w' x k ys ∧ Below w.heap.size w w'

theorem OwPost.cp {ys : List Int} {w w' : World} {e : Ending} (h : OwPost ys w e w') (hn : ys.length ≤ 4096) : CpP ys w e w' := by
  obtain ⟨g, n, c, rfl, ho, hl, hb⟩ := h
  obtain ⟨g', c', hv, h1, h2, h3, h4, h5⟩ := own_some ho (by simp)
  simp only [Value.slice.injEq, Option.some.injEq, Addr.mk.injEq] at hv
  obtain ⟨⟨rfl, -, -⟩, rfl, rfl⟩ := hv
  exact ⟨_, _, _, rfl, ⟨rfl, by omega, .inr ⟨g, 0, rfl, h1, h2, h5⟩⟩, hb⟩

theorem clo_any (ys : List Int) (a : Option Addr) (n c : Nat) (w : World) (h : Ints w a n ys) (hn : n ≤ 4096) : Calls Try.prog 96 #[.slice a n c] w (CpP ys w) := by
  have q22 : ∀ (w : World) (a : Option Addr) (n c n' c' : Nat), (binOp .eql 24 (.slice a n c) (.slice none n' c')).run Try.prog w = .ok (.bool a.isNone) w := fun w a n c n' c' => Lib.run_eql_slice_nil w _ _ a n c n' c' Try.underlying24
  cases a with
  | none =>
    have h0 : n = 0 := by
      rcases h.cells with h0 | ⟨b, off, h0, _⟩
      · exact h0
      · cases h0
    have HN : Hid (ys = []) := Lib.hid (by have := h.len; subst h0; exact List.length_eq_zero_iff.1 this)
    clear h
    go_enter Try.func96, Try.ntmps96
    go_wp2_with fail
    go_ret
    exact ⟨none, 0, 0, rfl, ⟨by rw [HN.out]; rfl, by omega, .inl ⟨rfl, rfl⟩⟩, Below.refl _ _⟩
  | some ad =>
    have HL := Lib.hid h.len
    have H := Lib.hid (h.on (box_b w (.cells #[] 2)))
    have HO := Lib.hid (ownI_new w)
    clear h
    go_enter Try.func96, Try.ntmps96
    go_wp2_with (at_builtin; go_must (refine wpList_apI rfl _ _ rfl w.heap.size _ [] ys (some ad) n c rfl HO.out rfl H.out (by simp; omega) (by simp) ?_))
    intro v' w1 hown hb hnn
    obtain ⟨g, c', rfl, -⟩ := own_some hown (by first | exact hnn | exact hnn (by simp))
    have HW := Lib.hid hown
    have HB := Lib.hid hb
    clear hown hb hnn
    go_wp2_with fail
    go_ret
    exact OwPost.cp ⟨_, _, _, rfl, HW.out, rfl, (box_b w _).trans (HB.out.mono (Nat.le_refl _))⟩ (by rw [HL.out]; exact hn)

end Go.Proofs.Ytmnddplkmljeaaa
