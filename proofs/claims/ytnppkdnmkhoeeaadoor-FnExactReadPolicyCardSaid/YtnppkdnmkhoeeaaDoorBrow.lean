/- Slices of bytes of the call's own, also those that a conversion of a string made (their row is marked behind its end): append onto them. -/
import Derived.Test.YtnppkdnmkhoeeaaDoorMoney
import Derived.Lib.AppendStr
import Derived.Lib.ConvBytes
import Derived.Lib.AppendIntMem
import Derived.Laws.CopyRow
namespace Go.Proofs.YtnppkdnmkhoeeaaDoor
open Go.ChangeShapes Go.WideShapes Go.ChangeAt Go.RowKit
set_option linter.unusedVariables false

theorem infoBy : (Tryd.prog.info? 5).map (fun i => (i.zero, i.size, i.bytes)) = some (some (.int .u8 0), 1, 1) := by kernel_rfl

/-- block g's row, of n bytes l and room up to cap, no cell of that room frozen -/
structure RowM (w : World) (g cap : Nat) (l : List UInt8) : Prop where
  row : ∃ cur fz, w.heap[g]? = some (.cells cur 5 fz) ∧ (∀ k, l.length ≤ k → k < cap → ¬ (fz.1 ≤ k ∧ k < fz.2)) ∧ cur.size = cap ∧ cur.toList.take l.length = Lib.byteCells l
  le : l.length ≤ cap
  max : cap ≤ maxLen

/-- a slice of bytes of the call's own, in blocks from 'base' on -/
def OwnM (base : Nat) (w : World) (v : Value) (l : List UInt8) : Prop := ∃ g cap, v = .slice (some ⟨g, 0, none⟩) l.length cap ∧ base ≤ g ∧ RowM w g cap l

theorem RowM.lt {w : World} {g cap : Nat} {l : List UInt8} (h : RowM w g cap l) : g < w.heap.size := by
  obtain ⟨cur, fz, hg, _⟩ := h.row
  exact (Array.getElem?_eq_some_iff.1 hg).1

theorem OwnM.step {base : Nat} {w w' : World} {v : Value} {l : List UInt8} (h : OwnM base w v l) (hb : Below w.heap.size w w') : OwnM base w' v l := by
  obtain ⟨g, cap, hv, hg, hr⟩ := h
  obtain ⟨cur, fz, h1, h2⟩ := hr.row
  exact ⟨g, cap, hv, hg, ⟨cur, fz, by rw [hb.block g hr.lt]; exact h1, h2⟩, hr.le, hr.max⟩

theorem OwnM.lt {base : Nat} {w : World} {v : Value} {l : List UInt8} (h : OwnM base w v l) : ∀ k, v.ownBlock = some k → base ≤ k ∧ k < w.heap.size := by
  obtain ⟨g, cap, rfl, hg, hr⟩ := h
  intro k hk
  simp [Value.ownBlock] at hk
  subst hk
  exact ⟨hg, hr.lt⟩

theorem RowM.cells {w : World} {g cap : Nat} {l : List UInt8} (h : RowM w g cap l) : ∀ j u, (Lib.byteCells l)[j]? = some u → w.cell? ((⟨g, 0, none⟩ : Addr).add j) = some u := by
  intro j u hu
  obtain ⟨cur, fz, hg, _, hs, ht⟩ := h.row
  rw [Addr.add_lit, Nat.zero_add]
  have hj : j < l.length := by
    have := (List.getElem?_eq_some_iff.1 hu).1
    simpa [Lib.byteCells] using this
  rw [← ht, List.getElem?_take, if_pos hj] at hu
  simp [World.cell?, hg]
  simpa using hu

/-- stores into cells none of which is frozen -/
theorem storeM (g o : Nat) (t : TypeId) (fz : Nat × Nat) : ∀ (vs : List Value) (i : Nat) (cur : Array Value) (w : World), w.heap[g]? = some (.cells cur t fz) → (∀ k, o + i ≤ k → k < o + i + vs.length → ¬ (fz.1 ≤ k ∧ k < fz.2)) → o + i + vs.length ≤ cur.size → (∀ v ∈ vs, v.oneCell' = true) →
    (storeCells ⟨g, o, none⟩ vs i).run Tryd.prog w = .ok () (w.setRow g (cur.toList.take (o + i) ++ vs ++ cur.toList.drop (o + i + vs.length)).toArray) := by
  intro vs
  induction vs with
  | nil =>
    intro i cur w hg _ _ _
    simp only [storeCells, List.append_nil, List.length_nil, Nat.add_zero, List.take_append_drop, Array.toArray_toList]
    rw [setRow_self w g cur t fz hg]
    rfl
  | cons v rest ih =>
    intro i cur w hg hfz hl h1
    rw [List.length_cons] at hl hfz
    have hc : w.cell? ⟨g, o + i, none⟩ = some cur[o + i] := by simp [World.cell?, hg, show o + i < cur.size by omega]
    have hn : w.frozen? ⟨g, o + i, none⟩ = false := by
      have := hfz (o + i) (Nat.le_refl _) (by omega)
      simp only [World.frozen?, hg, Bool.and_eq_false_iff, decide_eq_false_iff_not]
      omega
    have hs : (store ((⟨g, o, none⟩ : Addr).add i) v).run Tryd.prog w = .ok () (w.setRow g (cur.setIfInBounds (o + i) v)) := by
      rw [Addr.add_lit, run_store Tryd.prog w _ v _ (h1 v List.mem_cons_self), hc]
      simp [hn, setCell_eq_setRow w g (o + i) cur t fz v hg]
    have ih2 := ih (i + 1) (cur.setIfInBounds (o + i) v) (w.setRow g (cur.setIfInBounds (o + i) v)) (setRow_heap w g cur _ t _ hg) (fun k a b => hfz k (by omega) (by omega)) (by simp; omega) (fun x hx => h1 x (List.mem_cons_of_mem _ hx))
    simp only [storeCells, Sem.run_bind, hs, Result.andThen_ok, ih2, setRow_setRow]
    congr 3
    have e := list_seg_step cur.toList (o + i) v rest (by simp; omega)
    simpa [Array.toList_setIfInBounds, Nat.add_assoc] using e

/-- the row behind an append into its room -/
theorem RowM.put {w : World} {g cap : Nat} {l : List UInt8} (h : RowM w g cap l) (m : List UInt8) (hroom : l.length + m.length ≤ cap) :
    ∃ cur : Array Value, (storeCells ⟨g, l.length, none⟩ (Lib.byteCells m) 0).run Tryd.prog w = .ok () (w.setRow g cur) ∧ RowM (w.setRow g cur) g cap (l ++ m) := by
  obtain ⟨cur, fz, hg, hf, hs, ht⟩ := h.row
  have hml : (Lib.byteCells m).length = m.length := by simp [Lib.byteCells]
  have hst := storeM g l.length 5 fz (Lib.byteCells m) 0 cur w hg (fun k a b => hf k (by omega) (by rw [hml] at b; omega)) (by rw [hml]; omega) (by intro u hu; simp only [Lib.byteCells, List.mem_map] at hu; obtain ⟨b, _, rfl⟩ := hu; rfl)
  refine ⟨_, hst, ⟨_, fz, setRow_heap w g cur _ _ _ hg, fun k a b => hf k (by rw [List.length_append] at a; omega) b, ?_, ?_⟩, by rw [List.length_append]; exact hroom, h.max⟩
  · simp only [Nat.add_zero, hml, List.size_toArray, List.length_append, List.length_take, List.length_drop, Array.length_toList]
    omega
  · have e : (cur.toList.take l.length ++ Lib.byteCells m).length = (l ++ m).length := by simp [Lib.byteCells, hs]; have := h.le; omega
    simp only [Nat.add_zero]
    rw [← e, List.take_left, ht]
    simp [Lib.byteCells]

theorem grow_set (w : World) (g : Nat) (cur : Array Value) (row : Option Nat) (h : row = some g) : w.grownBy (w.setRow g cur) row :=
  ⟨rfl, rfl, rfl, by simp, fun k _ hk => setRow_other w g k _ (fun e => hk (by rw [h, e]))⟩

theorem RowM.new (w : World) (cap : Nat) (l : List UInt8) (zs : Array Value) (h1 : l.length ≤ cap) (h2 : cap ≤ maxLen) (hz : l.length + zs.size = cap) : RowM (w.alloc (.cells ((Lib.byteCells l).toArray ++ zs) 5)) w.heap.size cap l := by
  refine ⟨⟨_, (0, 0), heap_alloc_new w _, fun k _ _ => by simp, ?_, ?_⟩, h1, h2⟩
  · simp [Lib.byteCells]; omega
  · have e : (Lib.byteCells l).length = l.length := by simp [Lib.byteCells]
    simp only [Array.toList_append]
    rw [← e, List.take_left]

/-- append of a string -/
theorem appM_string {w : World} {base : Nat} {v : Value} {l : List UInt8} (hown : OwnM base w v l) (m : List UInt8) (ty : TypeId) (hlen : l.length + m.length ≤ 140737488355328) (hbase : base ≤ w.heap.size) :
    ∃ v' w', (Builtin.append_ #[52, 9] ty #[v, .string ⟨m.toArray⟩]).run Tryd.prog w = .ok v' w' ∧ OwnM base w' v' (l ++ m) ∧ w.grownBy w' v.ownBlock := by
  obtain ⟨i0, hi, hz0, hz1, hz2⟩ := info_parts infoBy
  obtain ⟨g, cap, rfl, hbg, hr⟩ := hown
  have hmz : (⟨m.toArray⟩ : ByteArray).size = m.length := by simp [ByteArray.size]
  have hsc : Lib.strCells ⟨m.toArray⟩ = Lib.byteCells m := by simp [Lib.strCells, Lib.byteCells]
  by_cases hroom : l.length + m.length ≤ cap
  · obtain ⟨cur, hst, hr2⟩ := hr.put m hroom
    have hf := Lib.run_firstCells_string (P := Tryd.prog) w 1 ⟨m.toArray⟩
    rw [hsc] at hf
    refine ⟨.slice (some ⟨g, 0, none⟩) (l.length + m.length) cap, w.setRow g cur, ?_, ⟨g, cap, by rw [List.length_append], hbg, hr2⟩, grow_set w g cur _ rfl⟩
    rw [hmz] at hf
    simp [Builtin.append_, run_underlying Tryd.underlying52, run_underlying Tryd.underlying9, sizeOf, typeInfo, hi, hz1, Builtin.lenOf, hmz, hroom, hf, Addr.add_lit, hst]
  · have hr0 := Lib.run_append_grow_string (P := Tryd.prog) w 52 9 ty 5 i0 (.int .u8 0) Tryd.underlying52 Tryd.underlying9 hi hz0 ⟨g, 0, none⟩ l.length cap (Lib.byteCells l) (by rw [hz1]; simp [Lib.byteCells]) hr.cells ⟨m.toArray⟩ (by rw [hmz]; omega) (by rw [hmz]; omega) (by rw [hz2, hmz]; exact growslice_fits (by omega) (by omega))
    rw [hmz, hsc] at hr0
    have hge := grownCap_ge w (l.length + m.length) cap 5
    have hcm := grownCap_le_maxLen w (l.length + m.length) cap 5 (by unfold maxLen; omega)
    refine ⟨_, _, hr0, ⟨w.heap.size, _, by rw [List.length_append], hbase, ?_⟩, ⟨rfl, rfl, rfl, by simp, fun k hk _ => heap_alloc_old w.drew _ hk⟩⟩
    have e : (Lib.byteCells l).toArray ++ (Lib.byteCells m).toArray = (Lib.byteCells (l ++ m)).toArray := by simp [Lib.byteCells]
    rw [e]
    exact RowM.new w.drew _ (l ++ m) _ (by rw [List.length_append]; exact hge) hcm (by rw [size_zeroCells, List.length_append]; simp [Value.cells]; omega)

/-- append of a slice's bytes -/
theorem appM_slice {w : World} {base : Nat} {v : Value} {l : List UInt8} (hown : OwnM base w v l) (m : List UInt8) (ty : TypeId) (n c : Nat) (ad : Addr) (hn : m.length = n) (hc : ∀ j u, (Lib.byteCells m)[j]? = some u → w.cell? (ad.add j) = some u) (hlen : l.length + m.length ≤ 140737488355328) (hbase : base ≤ w.heap.size) :
    ∃ v' w', (Builtin.append_ #[52, 52] ty #[v, .slice (some ad) n c]).run Tryd.prog w = .ok v' w' ∧ OwnM base w' v' (l ++ m) ∧ w.grownBy w' v.ownBlock := by
  subst hn
  obtain ⟨i0, hi, hz0, hz1, hz2⟩ := info_parts infoBy
  obtain ⟨g, cap, rfl, hbg, hr⟩ := hown
  have hml : (Lib.byteCells m).length = m.length := by simp [Lib.byteCells]
  by_cases hroom : l.length + m.length ≤ cap
  · obtain ⟨cur, hst, hr2⟩ := hr.put m hroom
    have hf := run_firstCells_some (P := Tryd.prog) w 1 m.length ad m.length c (Lib.byteCells m) (by rw [hml, Nat.mul_one]) (by simpa using hc)
    refine ⟨.slice (some ⟨g, 0, none⟩) (l.length + m.length) cap, w.setRow g cur, ?_, ⟨g, cap, by rw [List.length_append], hbg, hr2⟩, grow_set w g cur _ rfl⟩
    simp [Builtin.append_, run_underlying Tryd.underlying52, sizeOf, typeInfo, hi, hz1, Builtin.lenOf, hroom, hf, Addr.add_lit, hst]
  · have hr0 := run_append_grow (P := Tryd.prog) w 52 ty 5 i0 (.int .u8 0) Tryd.underlying52 hi hz0 ⟨g, 0, none⟩ l.length cap (Lib.byteCells l) (by rw [hz1]; simp [Lib.byteCells]) hr.cells ad m.length c (Lib.byteCells m) (by rw [hz1, hml, Nat.mul_one]) hc (by omega) (by omega) (by rw [hz2]; exact growslice_fits (by omega) (by omega))
    have hge := grownCap_ge w (l.length + m.length) cap 5
    have hcm := grownCap_le_maxLen w (l.length + m.length) cap 5 (by unfold maxLen; omega)
    refine ⟨_, _, hr0, ⟨w.heap.size, _, by rw [List.length_append], hbase, ?_⟩, ⟨rfl, rfl, rfl, by simp, fun k hk _ => heap_alloc_old w.drew _ hk⟩⟩
    have e : (Lib.byteCells l).toArray ++ (Lib.byteCells m).toArray = (Lib.byteCells (l ++ m)).toArray := by simp [Lib.byteCells]
    rw [e]
    exact RowM.new w.drew _ (l ++ m) _ (by rw [List.length_append]; exact hge) hcm (by rw [size_zeroCells, List.length_append]; simp [Value.cells]; omega)

/-- the operations, for the walk -/
theorem wpM_string {w : World} {ops : Array Oper} {rest : List Oper} {o : Oper} {a : Act} {Q : Exit → Act → World → Prop} (hgd : o.guard = none) (s x : Operand)
    (ho : o.op = .call { callee := .builtin .append, args := #[s, x], argTypes := #[52, 9] })
    (base : Nat) (v : Value) (l m : List UInt8) (hs : a.eval s = v) (hown : OwnM base w v l) (hx : a.eval x = .string ⟨m.toArray⟩) (hlen : l.length + m.length ≤ 140737488355328) (hbase : base ≤ w.heap.size)
    (h : ∀ v' w', OwnM base w' v' (l ++ m) → w.grownBy w' v.ownBlock → wpList Tryd.prog ops Q rest (a.put o.dst v') w') : wpList Tryd.prog ops Q (o :: rest) a w := by
  refine wpList_plain hgd fun K hK => ?_
  obtain ⟨v', w', hr, h2, h3⟩ := appM_string hown m o.type hlen hbase
  unfold Oper.wp execOp
  simp only [ho, resolve, invoke, builtin, Sem.run_bind, Sem.run_pure, Result.andThen_ok, List.map_toArray, List.map_cons, List.map_nil, hs, hx, hr]
  exact hK _ _ (h v' w' h2 h3)

theorem wpM_slice {w : World} {ops : Array Oper} {rest : List Oper} {o : Oper} {a : Act} {Q : Exit → Act → World → Prop} (hgd : o.guard = none) (s x : Operand)
    (ho : o.op = .call { callee := .builtin .append, args := #[s, x], argTypes := #[52, 52] })
    (base : Nat) (v : Value) (l m : List UInt8) (hs : a.eval s = v) (hown : OwnM base w v l) (n c : Nat) (ad : Addr) (hx : a.eval x = .slice (some ad) n c) (hn : m.length = n) (hc : ∀ j u, (Lib.byteCells m)[j]? = some u → w.cell? (ad.add j) = some u) (hlen : l.length + m.length ≤ 140737488355328) (hbase : base ≤ w.heap.size)
    (h : ∀ v' w', OwnM base w' v' (l ++ m) → w.grownBy w' v.ownBlock → wpList Tryd.prog ops Q rest (a.put o.dst v') w') : wpList Tryd.prog ops Q (o :: rest) a w := by
  refine wpList_plain hgd fun K hK => ?_
  obtain ⟨v', w', hr, h2, h3⟩ := appM_slice hown m o.type n c ad hn hc hlen hbase
  unfold Oper.wp execOp
  simp only [ho, resolve, invoke, builtin, Sem.run_bind, Sem.run_pure, Result.andThen_ok, List.map_toArray, List.map_cons, List.map_nil, hs, hx, hr]
  exact hK _ _ (h v' w' h2 h3)

/-- one byte that lies in a block of its own -/
theorem oneB {w : World} {B : Nat} {c : UInt8} (h : w.cell? ⟨B, 0, none⟩ = some (.int .u8 (c.toNat : Int))) : ∀ j u, (Lib.byteCells [c])[j]? = some u → w.cell? ((⟨B, 0, none⟩ : Addr).add j) = some u := by
  intro j u hj
  match j, hj with
  | 0, hj => simp [Lib.byteCells] at hj; subst hj; rw [Addr.add_lit]; exact h

/-- a conversion's row -/
theorem conv_ownM (w : World) (s : ByteArray) (hs : s.size ≤ 140737488355328) : OwnM w.heap.size (Lib.bytesWorld w 5 s) (.slice (some ⟨w.heap.size, 0, none⟩) s.size (grownCap w s.size 0 5)) s.data.toList := by
  have hge := grownCap_ge w s.size 0 5
  have hcm := grownCap_le_maxLen w s.size 0 5 (by unfold maxLen; omega)
  have hl : s.data.toList.length = s.size := by simp
  refine ⟨w.heap.size, _, by rw [hl], Nat.le_refl _, ⟨_, _, Lib.bytesWorld_at_new w 5 s, fun k a b => ?_, ?_, ?_⟩, by rw [hl]; exact hge, hcm⟩
  · simp [Lib.bytesCells]; omega
  · simp [Lib.bytesCells]; omega
  · rw [hl]
    simp only [Lib.bytesCells, Array.toList_append, Array.toList_map]
    rw [show s.size = (List.map (fun b => Value.int IntKind.u8 (b.toNat : Int)) s.data.toList).length by simp, List.take_left]
    rfl

end Go.Proofs.YtnppkdnmkhoeeaaDoor
