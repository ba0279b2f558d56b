/- Merged: Txt, Money, Brow, Parse, Digs, ReadS. -/
import Derived.Test.YtpphiekbhikadaaDoorTrx18
import Derived.Test.YtpphiekbhikadaaDoorShelf
import Derived.Lib.ItoaLen
import Derived.ShutString
import Derived.Lib.SmallJoins
import Derived.Lib.AppendIntMem
import Derived.Lib.AppendStr
import Derived.Lib.ConvBytes
import Derived.Laws.CopyRow
import Derived.Lib.IndexMore
import Derived.Lib.ParseIntB
import Derived.Laws.IdiomStrings

/- The text of money: what the program's and the model's functions return, one Lean function for both. -/
namespace Go.Proofs.YtpphiekbhikadaaDoor
open Go.ChangeShapes Go.WideShapes Go.ChangeAt Go.RowKit
set_option linter.unusedVariables false

/-- the digits of an amount of cents of at least 0: units, a dot, two digits -/
def posT (u : Nat) : List UInt8 := Lib.decDigits (u / 100) ++ 46 :: ((if u % 100 < 10 then [48] else []) ++ Lib.decDigits (u % 100))

/-- the text of money -/
def txt (n : Int) : List UInt8 := if n < 0 then 45 :: posT n.natAbs else posT n.toNat

/-- the library's table of powers of ten is as the row lists it -/
def Tab (w : World) : Prop := Lib.TabIs Tryd.prog w "internal/strconv.uint64pow10" .u64 Lib.pow10Tab

theorem gTab : Tryd.prog.globalNamed "internal/strconv.uint64pow10" = some 0 := by kernel_rfl

theorem Tab.step {w w' : World} {B : Nat} (h : Tab w) (hb : Below B w w') (hB : w.heap.size ≤ B) : Tab w' := Joins.tab_stays gTab h hb hB

/-- strconv.FormatInt(n, 10) -/
theorem fmt_any (n : Int) (w : World) (h0 : -9223372036854775808 ≤ n) (h1 : n ≤ 9223372036854775807) (ht : Tab w) :
    Calls Tryd.prog 57 #[.int .i64 n, .int .i64 10] w fun e w' => e = .returned (.string ⟨(Lib.itoa n).toArray⟩) ∧ Below w.heap.size w w' ∧ Tab w' := by
  refine (Tryd.strconv_FormatInt_10 n h0 h1 w ht).mono ?_
  rintro e w1 ⟨rfl, k, os, rfl⟩
  have hb := Lib.below_grow w.heap.size w (Nat.le_refl _) k os
  exact ⟨rfl, hb, ht.step hb (Nat.le_refl _)⟩

theorem itoa_div (u : Nat) : Lib.itoa ((u : Int) / 100) = Lib.decDigits (u / 100) := itoa_nat (u / 100)

theorem itoa_mod (u : Nat) : Lib.itoa ((u : Int) % 100) = Lib.decDigits (u % 100) := itoa_nat (u % 100)

theorem txt_nat (u : Nat) : txt (u : Int) = posT u := by unfold txt; rw [if_neg (by omega)]; simp

theorem txt_neg (u : Nat) (h : 0 < u) : txt (-(u : Int)) = 45 :: posT u := by unfold txt; rw [if_pos (by omega)]; simp

theorem posT_small (u : Nat) (h : u % 100 < 10) : posT u = Lib.decDigits (u / 100) ++ [46] ++ [48] ++ Lib.decDigits (u % 100) := by unfold posT; rw [if_pos h]; simp

theorem posT_big (u : Nat) (h : ¬ u % 100 < 10) : posT u = Lib.decDigits (u / 100) ++ [46] ++ Lib.decDigits (u % 100) := by unfold posT; rw [if_neg h]; simp

end Go.Proofs.YtpphiekbhikadaaDoor

/- MoneyText of the program and of its model: one Lean function for both; the exact law on it. -/
namespace Go.Proofs.YtpphiekbhikadaaDoor
open Go.ChangeShapes Go.WideShapes Go.ChangeAt Go.RowKit
set_option linter.unusedVariables false

theorem pad_eq (r : Nat) (h : r < 100) : (if r < 10 then [48] else []) ++ Lib.decDigits r = Lib.decDigits (r / 10) ++ Lib.decDigits (r % 10) := by
  by_cases h1 : r < 10
  · rw [if_pos h1, show r / 10 = 0 by omega, show r % 10 = r by omega, dec_small 0 (by omega)]
    rfl
  · rw [if_neg h1, dec_big r h1, dec_small (r % 10) (by omega)]
    rfl

theorem posT_eq (u : Nat) : posT u = Lib.decDigits (u / 100) ++ [46] ++ Lib.decDigits (u / 10 % 10) ++ Lib.decDigits (u % 10) := by
  have h := pad_eq (u % 100) (by omega)
  unfold posT
  rw [h, show u % 100 / 10 = u / 10 % 10 by omega, show u % 100 % 10 = u % 10 by omega]
  simp

theorem toNat_100 (u : Nat) : ((u : Int) / 100).toNat = u / 100 := by omega

theorem toNat_1010 (u : Nat) : ((u : Int) / 10 % 10).toNat = u / 10 % 10 := by omega

theorem toNat_10 (u : Nat) : ((u : Int) % 10).toNat = u % 10 := by omega

theorem dec_max (u : Nat) (h : u ≤ 9223372036854775807) : (Lib.decDigits u).length ≤ 21 := dec_len u h

theorem posT_len (u : Nat) (h : u ≤ 1000000000000) : (posT u).length ≤ 64 := by
  rw [posT_eq]
  have l1 := dec_len (u / 100) (by omega)
  have l2 := dec_len (u / 10 % 10) (by omega)
  have l3 := dec_len (u % 10) (by omega)
  simp; omega

/-- what MoneyText answers -/
def mtx (n : Int) : List UInt8 := if monB n then txt n else []

end Go.Proofs.YtpphiekbhikadaaDoor

/- Slices of bytes of the call's own, also those that a conversion of a string made (their row is marked behind its end): append onto them. -/
namespace Go.Proofs.YtpphiekbhikadaaDoor
open Go.ChangeShapes Go.WideShapes Go.ChangeAt Go.RowKit
set_option linter.unusedVariables false

theorem infoBy : (Tryd.prog.info? 5).map (fun i => (i.zero, i.size, i.bytes)) = some (some (.int .u8 0), 1, 1) := by kernel_rfl

/-- block g's row, of n bytes l and room up to cap, no cell of that room frozen -/
structure RowM (w : World) (g cap : Nat) (l : List UInt8) : Prop where
  row : ∃ cur fz, w.heap[g]? = some (.cells cur 5 fz) ∧ (∀ k, l.length ≤ k → k < cap → ¬ (fz.1 ≤ k ∧ k < fz.2)) ∧ cur.size = cap ∧ cur.toList.take l.length = Lib.byteCells l
  le : l.length ≤ cap
  max : cap ≤ maxLen

/-- a slice of bytes of the call's own, in blocks from 'base' on -/
def OwnM (base : Nat) (w : World) (v : Value) (l : List UInt8) : Prop := ∃ g cap, v = .slice (some ⟨g, 0, none⟩) l.length cap ∧ base ≤ g ∧ RowM w g cap l

theorem RowM.lt {w : World} {g cap : Nat} {l : List UInt8} (h : RowM w g cap l) : g < w.heap.size := by
  obtain ⟨cur, fz, hg, _⟩ := h.row
  exact (Array.getElem?_eq_some_iff.1 hg).1

theorem OwnM.step {base : Nat} {w w' : World} {v : Value} {l : List UInt8} (h : OwnM base w v l) (hb : Below w.heap.size w w') : OwnM base w' v l := by
  obtain ⟨g, cap, hv, hg, hr⟩ := h
  obtain ⟨cur, fz, h1, h2⟩ := hr.row
  exact ⟨g, cap, hv, hg, ⟨cur, fz, by rw [hb.block g hr.lt]; exact h1, h2⟩, hr.le, hr.max⟩

theorem OwnM.lt {base : Nat} {w : World} {v : Value} {l : List UInt8} (h : OwnM base w v l) : ∀ k, v.ownBlock = some k → base ≤ k ∧ k < w.heap.size := by
  obtain ⟨g, cap, rfl, hg, hr⟩ := h
  intro k hk
  simp [Value.ownBlock] at hk
  subst hk
  exact ⟨hg, hr.lt⟩

theorem RowM.cells {w : World} {g cap : Nat} {l : List UInt8} (h : RowM w g cap l) : ∀ j u, (Lib.byteCells l)[j]? = some u → w.cell? ((⟨g, 0, none⟩ : Addr).add j) = some u := by
  intro j u hu
  obtain ⟨cur, fz, hg, _, hs, ht⟩ := h.row
  rw [Addr.add_lit, Nat.zero_add]
  have hj : j < l.length := by
    have := (List.getElem?_eq_some_iff.1 hu).1
    simpa [Lib.byteCells] using this
  rw [← ht, List.getElem?_take, if_pos hj] at hu
  simp [World.cell?, hg]
  simpa using hu

/-- stores into cells none of which is frozen -/
theorem storeM (g o : Nat) (t : TypeId) (fz : Nat × Nat) : ∀ (vs : List Value) (i : Nat) (cur : Array Value) (w : World), w.heap[g]? = some (.cells cur t fz) → (∀ k, o + i ≤ k → k < o + i + vs.length → ¬ (fz.1 ≤ k ∧ k < fz.2)) → o + i + vs.length ≤ cur.size → (∀ v ∈ vs, v.oneCell' = true) →
    (storeCells ⟨g, o, none⟩ vs i).run Tryd.prog w = .ok () (w.setRow g (cur.toList.take (o + i) ++ vs ++ cur.toList.drop (o + i + vs.length)).toArray) := by
  intro vs
  induction vs with
  | nil =>
    intro i cur w hg _ _ _
    simp only [storeCells, List.append_nil, List.length_nil, Nat.add_zero, List.take_append_drop, Array.toArray_toList]
    rw [setRow_self w g cur t fz hg]
    rfl
  | cons v rest ih =>
    intro i cur w hg hfz hl h1
    rw [List.length_cons] at hl hfz
    have hc : w.cell? ⟨g, o + i, none⟩ = some cur[o + i] := by simp [World.cell?, hg, show o + i < cur.size by omega]
    have hn : w.frozen? ⟨g, o + i, none⟩ = false := by
      have := hfz (o + i) (Nat.le_refl _) (by omega)
      simp only [World.frozen?, hg, Bool.and_eq_false_iff, decide_eq_false_iff_not]
      omega
    have hs : (store ((⟨g, o, none⟩ : Addr).add i) v).run Tryd.prog w = .ok () (w.setRow g (cur.setIfInBounds (o + i) v)) := by
      rw [Addr.add_lit, run_store Tryd.prog w _ v _ (h1 v List.mem_cons_self), hc]
      simp [hn, setCell_eq_setRow w g (o + i) cur t fz v hg]
    have ih2 := ih (i + 1) (cur.setIfInBounds (o + i) v) (w.setRow g (cur.setIfInBounds (o + i) v)) (setRow_heap w g cur _ t _ hg) (fun k a b => hfz k (by omega) (by omega)) (by simp; omega) (fun x hx => h1 x (List.mem_cons_of_mem _ hx))
    simp only [storeCells, Sem.run_bind, hs, Result.andThen_ok, ih2, setRow_setRow]
    congr 3
    have e := list_seg_step cur.toList (o + i) v rest (by simp; omega)
    simpa [Array.toList_setIfInBounds, Nat.add_assoc] using e

/-- the row behind an append into its room -/
theorem RowM.put {w : World} {g cap : Nat} {l : List UInt8} (h : RowM w g cap l) (m : List UInt8) (hroom : l.length + m.length ≤ cap) :
    ∃ cur : Array Value, (storeCells ⟨g, l.length, none⟩ (Lib.byteCells m) 0).run Tryd.prog w = .ok () (w.setRow g cur) ∧ RowM (w.setRow g cur) g cap (l ++ m) := by
  obtain ⟨cur, fz, hg, hf, hs, ht⟩ := h.row
  have hml : (Lib.byteCells m).length = m.length := by simp [Lib.byteCells]
  have hst := storeM g l.length 5 fz (Lib.byteCells m) 0 cur w hg (fun k a b => hf k (by omega) (by rw [hml] at b; omega)) (by rw [hml]; omega) (by intro u hu; simp only [Lib.byteCells, List.mem_map] at hu; obtain ⟨b, _, rfl⟩ := hu; rfl)
  refine ⟨_, hst, ⟨_, fz, setRow_heap w g cur _ _ _ hg, fun k a b => hf k (by rw [List.length_append] at a; omega) b, ?_, ?_⟩, by rw [List.length_append]; exact hroom, h.max⟩
  · simp only [Nat.add_zero, hml, List.size_toArray, List.length_append, List.length_take, List.length_drop, Array.length_toList]
    omega
  · have e : (cur.toList.take l.length ++ Lib.byteCells m).length = (l ++ m).length := by simp [Lib.byteCells, hs]; have := h.le; omega
    simp only [Nat.add_zero]
    rw [← e, List.take_left, ht]
    simp [Lib.byteCells]

theorem grow_set (w : World) (g : Nat) (cur : Array Value) (row : Option Nat) (h : row = some g) : w.grownBy (w.setRow g cur) row :=
  ⟨rfl, rfl, rfl, by simp, fun k _ hk => setRow_other w g k _ (fun e => hk (by rw [h, e]))⟩

theorem RowM.new (w : World) (cap : Nat) (l : List UInt8) (zs : Array Value) (h1 : l.length ≤ cap) (h2 : cap ≤ maxLen) (hz : l.length + zs.size = cap) : RowM (w.alloc (.cells ((Lib.byteCells l).toArray ++ zs) 5)) w.heap.size cap l := by
  refine ⟨⟨_, (0, 0), heap_alloc_new w _, fun k _ _ => by simp, ?_, ?_⟩, h1, h2⟩
  · simp [Lib.byteCells]; omega
  · have e : (Lib.byteCells l).length = l.length := by simp [Lib.byteCells]
    simp only [Array.toList_append]
    rw [← e, List.take_left]

/-- append of a string -/
theorem appM_string {w : World} {base : Nat} {v : Value} {l : List UInt8} (hown : OwnM base w v l) (m : List UInt8) (ty : TypeId) (hlen : l.length + m.length ≤ 140737488355328) (hbase : base ≤ w.heap.size) :
    ∃ v' w', (Builtin.append_ #[22, 9] ty #[v, .string ⟨m.toArray⟩]).run Tryd.prog w = .ok v' w' ∧ OwnM base w' v' (l ++ m) ∧ w.grownBy w' v.ownBlock := by
  obtain ⟨i0, hi, hz0, hz1, hz2⟩ := info_parts infoBy
  obtain ⟨g, cap, rfl, hbg, hr⟩ := hown
  have hmz : (⟨m.toArray⟩ : ByteArray).size = m.length := by simp [ByteArray.size]
  have hsc : Lib.strCells ⟨m.toArray⟩ = Lib.byteCells m := by simp [Lib.strCells, Lib.byteCells]
  by_cases hroom : l.length + m.length ≤ cap
  · obtain ⟨cur, hst, hr2⟩ := hr.put m hroom
    have hf := Lib.run_firstCells_string (P := Tryd.prog) w 1 ⟨m.toArray⟩
    rw [hsc] at hf
    refine ⟨.slice (some ⟨g, 0, none⟩) (l.length + m.length) cap, w.setRow g cur, ?_, ⟨g, cap, by rw [List.length_append], hbg, hr2⟩, grow_set w g cur _ rfl⟩
    rw [hmz] at hf
    simp [Builtin.append_, run_underlying Tryd.underlying22, run_underlying Tryd.underlying9, sizeOf, typeInfo, hi, hz1, Builtin.lenOf, hmz, hroom, hf, Addr.add_lit, hst]
  · have hr0 := Lib.run_append_grow_string (P := Tryd.prog) w 22 9 ty 5 i0 (.int .u8 0) Tryd.underlying22 Tryd.underlying9 hi hz0 ⟨g, 0, none⟩ l.length cap (Lib.byteCells l) (by rw [hz1]; simp [Lib.byteCells]) hr.cells ⟨m.toArray⟩ (by rw [hmz]; omega) (by rw [hmz]; omega) (by rw [hz2, hmz]; exact growslice_fits (by omega) (by omega))
    rw [hmz, hsc] at hr0
    have hge := grownCap_ge w (l.length + m.length) cap 5
    have hcm := grownCap_le_maxLen w (l.length + m.length) cap 5 (by unfold maxLen; omega)
    refine ⟨_, _, hr0, ⟨w.heap.size, _, by rw [List.length_append], hbase, ?_⟩, ⟨rfl, rfl, rfl, by simp, fun k hk _ => heap_alloc_old w.drew _ hk⟩⟩
    have e : (Lib.byteCells l).toArray ++ (Lib.byteCells m).toArray = (Lib.byteCells (l ++ m)).toArray := by simp [Lib.byteCells]
    rw [e]
    exact RowM.new w.drew _ (l ++ m) _ (by rw [List.length_append]; exact hge) hcm (by rw [size_zeroCells, List.length_append]; simp [Value.cells]; omega)

/-- append of a slice's bytes -/
theorem appM_slice {w : World} {base : Nat} {v : Value} {l : List UInt8} (hown : OwnM base w v l) (m : List UInt8) (ty : TypeId) (n c : Nat) (ad : Addr) (hn : m.length = n) (hc : ∀ j u, (Lib.byteCells m)[j]? = some u → w.cell? (ad.add j) = some u) (hlen : l.length + m.length ≤ 140737488355328) (hbase : base ≤ w.heap.size) :
    ∃ v' w', (Builtin.append_ #[22, 22] ty #[v, .slice (some ad) n c]).run Tryd.prog w = .ok v' w' ∧ OwnM base w' v' (l ++ m) ∧ w.grownBy w' v.ownBlock := by
  subst hn
  obtain ⟨i0, hi, hz0, hz1, hz2⟩ := info_parts infoBy
  obtain ⟨g, cap, rfl, hbg, hr⟩ := hown
  have hml : (Lib.byteCells m).length = m.length := by simp [Lib.byteCells]
  by_cases hroom : l.length + m.length ≤ cap
  · obtain ⟨cur, hst, hr2⟩ := hr.put m hroom
    have hf := run_firstCells_some (P := Tryd.prog) w 1 m.length ad m.length c (Lib.byteCells m) (by rw [hml, Nat.mul_one]) (by simpa using hc)
    refine ⟨.slice (some ⟨g, 0, none⟩) (l.length + m.length) cap, w.setRow g cur, ?_, ⟨g, cap, by rw [List.length_append], hbg, hr2⟩, grow_set w g cur _ rfl⟩
    simp [Builtin.append_, run_underlying Tryd.underlying22, sizeOf, typeInfo, hi, hz1, Builtin.lenOf, hroom, hf, Addr.add_lit, hst]
  · have hr0 := run_append_grow (P := Tryd.prog) w 22 ty 5 i0 (.int .u8 0) Tryd.underlying22 hi hz0 ⟨g, 0, none⟩ l.length cap (Lib.byteCells l) (by rw [hz1]; simp [Lib.byteCells]) hr.cells ad m.length c (Lib.byteCells m) (by rw [hz1, hml, Nat.mul_one]) hc (by omega) (by omega) (by rw [hz2]; exact growslice_fits (by omega) (by omega))
    have hge := grownCap_ge w (l.length + m.length) cap 5
    have hcm := grownCap_le_maxLen w (l.length + m.length) cap 5 (by unfold maxLen; omega)
    refine ⟨_, _, hr0, ⟨w.heap.size, _, by rw [List.length_append], hbase, ?_⟩, ⟨rfl, rfl, rfl, by simp, fun k hk _ => heap_alloc_old w.drew _ hk⟩⟩
    have e : (Lib.byteCells l).toArray ++ (Lib.byteCells m).toArray = (Lib.byteCells (l ++ m)).toArray := by simp [Lib.byteCells]
    rw [e]
    exact RowM.new w.drew _ (l ++ m) _ (by rw [List.length_append]; exact hge) hcm (by rw [size_zeroCells, List.length_append]; simp [Value.cells]; omega)

/-- the operations, for the walk -/
theorem wpM_string {w : World} {ops : Array Oper} {rest : List Oper} {o : Oper} {a : Act} {Q : Exit → Act → World → Prop} (hgd : o.guard = none) (s x : Operand)
    (ho : o.op = .call { callee := .builtin .append, args := #[s, x], argTypes := #[22, 9] })
    (base : Nat) (v : Value) (l m : List UInt8) (hs : a.eval s = v) (hown : OwnM base w v l) (hx : a.eval x = .string ⟨m.toArray⟩) (hlen : l.length + m.length ≤ 140737488355328) (hbase : base ≤ w.heap.size)
    (h : ∀ v' w', OwnM base w' v' (l ++ m) → w.grownBy w' v.ownBlock → wpList Tryd.prog ops Q rest (a.put o.dst v') w') : wpList Tryd.prog ops Q (o :: rest) a w := by
  refine wpList_plain hgd fun K hK => ?_
  obtain ⟨v', w', hr, h2, h3⟩ := appM_string hown m o.type hlen hbase
  unfold Oper.wp execOp
  simp only [ho, resolve, invoke, builtin, Sem.run_bind, Sem.run_pure, Result.andThen_ok, List.map_toArray, List.map_cons, List.map_nil, hs, hx, hr]
  exact hK _ _ (h v' w' h2 h3)

theorem wpM_slice {w : World} {ops : Array Oper} {rest : List Oper} {o : Oper} {a : Act} {Q : Exit → Act → World → Prop} (hgd : o.guard = none) (s x : Operand)
    (ho : o.op = .call { callee := .builtin .append, args := #[s, x], argTypes := #[22, 22] })
    (base : Nat) (v : Value) (l m : List UInt8) (hs : a.eval s = v) (hown : OwnM base w v l) (n c : Nat) (ad : Addr) (hx : a.eval x = .slice (some ad) n c) (hn : m.length = n) (hc : ∀ j u, (Lib.byteCells m)[j]? = some u → w.cell? (ad.add j) = some u) (hlen : l.length + m.length ≤ 140737488355328) (hbase : base ≤ w.heap.size)
    (h : ∀ v' w', OwnM base w' v' (l ++ m) → w.grownBy w' v.ownBlock → wpList Tryd.prog ops Q rest (a.put o.dst v') w') : wpList Tryd.prog ops Q (o :: rest) a w := by
  refine wpList_plain hgd fun K hK => ?_
  obtain ⟨v', w', hr, h2, h3⟩ := appM_slice hown m o.type n c ad hn hc hlen hbase
  unfold Oper.wp execOp
  simp only [ho, resolve, invoke, builtin, Sem.run_bind, Sem.run_pure, Result.andThen_ok, List.map_toArray, List.map_cons, List.map_nil, hs, hx, hr]
  exact hK _ _ (h v' w' h2 h3)

/-- one byte that lies in a block of its own -/
theorem oneB {w : World} {B : Nat} {c : UInt8} (h : w.cell? ⟨B, 0, none⟩ = some (.int .u8 (c.toNat : Int))) : ∀ j u, (Lib.byteCells [c])[j]? = some u → w.cell? ((⟨B, 0, none⟩ : Addr).add j) = some u := by
  intro j u hj
  match j, hj with
  | 0, hj => simp [Lib.byteCells] at hj; subst hj; rw [Addr.add_lit]; exact h

/-- a conversion's row -/
theorem conv_ownM (w : World) (s : ByteArray) (hs : s.size ≤ 140737488355328) : OwnM w.heap.size (Lib.bytesWorld w 5 s) (.slice (some ⟨w.heap.size, 0, none⟩) s.size (grownCap w s.size 0 5)) s.data.toList := by
  have hge := grownCap_ge w s.size 0 5
  have hcm := grownCap_le_maxLen w s.size 0 5 (by unfold maxLen; omega)
  have hl : s.data.toList.length = s.size := by simp
  refine ⟨w.heap.size, _, by rw [hl], Nat.le_refl _, ⟨_, _, Lib.bytesWorld_at_new w 5 s, fun k a b => ?_, ?_, ?_⟩, by rw [hl]; exact hge, hcm⟩
  · simp [Lib.bytesCells]; omega
  · simp [Lib.bytesCells]; omega
  · rw [hl]
    simp only [Lib.bytesCells, Array.toList_append, Array.toList_map]
    rw [show s.size = (List.map (fun b => Value.int IntKind.u8 (b.toNat : Int)) s.data.toList).length by simp, List.take_left]
    rfl

end Go.Proofs.YtpphiekbhikadaaDoor

/- Plain facts on decimals: reading back what was written (no program in it). -/
namespace Go.Proofs.YtpphiekbhikadaaDoor
set_option linter.unusedVariables false

/-- the digit of d -/
def dch (d : Nat) : UInt8 := UInt8.ofNat (48 + d)

theorem dch_nat (d : Nat) (h : d < 10) : (dch d).toNat = 48 + d := by unfold dch; simp; omega

theorem dig_small (u : Nat) (h : u < 10) : Lib.decDigits u = [dch u] := dec_small u h

theorem dig_big (u : Nat) (h : ¬ u < 10) : Lib.decDigits u = Lib.decDigits (u / 10) ++ [dch (u % 10)] := dec_big u h

theorem posT_dch (u : Nat) : posT u = Lib.decDigits (u / 100) ++ 46 :: [dch (u / 10 % 10), dch (u % 10)] := by
  rw [posT_eq, dig_small (u / 10 % 10) (by omega), dig_small (u % 10) (by omega)]; simp

/-- every byte of a numeral is a digit -/
theorem dig_all (u : Nat) : ∀ c ∈ Lib.decDigits u, 48 ≤ c.toNat ∧ c.toNat ≤ 57 := by
  induction u using Nat.strongRecOn with
  | _ u ih =>
    intro c hc
    by_cases h : u < 10
    · rw [dig_small u h] at hc
      simp at hc
      rw [hc, dch_nat u h]; omega
    · rw [dig_big u h] at hc
      simp at hc
      rcases hc with hc | hc
      · exact ih (u / 10) (by omega) c hc
      · rw [hc, dch_nat _ (by omega)]; omega

theorem dig_ne_nil (u : Nat) : Lib.decDigits u ≠ [] := by
  by_cases h : u < 10
  · rw [dig_small u h]; simp
  · rw [dig_big u h]; simp

/-- the first digit of a number greater than 0 is not 0 -/
theorem dig_head (u : Nat) (hu : 0 < u) : ∃ c t, Lib.decDigits u = c :: t ∧ c ≠ 48 := by
  induction u using Nat.strongRecOn with
  | _ u ih =>
    by_cases h : u < 10
    · refine ⟨_, _, dig_small u h, ?_⟩
      intro e
      have := congrArg UInt8.toNat e
      rw [dch_nat u h] at this
      simp at this
      omega
    · obtain ⟨c, t, e, hc⟩ := ih (u / 10) (by omega) (by omega)
      exact ⟨c, t ++ [dch (u % 10)], by rw [dig_big u h, e]; rfl, hc⟩

theorem parse_one (M acc d : Nat) (r : List UInt8) (hd : d < 10) (h1 : acc < 1844674407370955162) (h2 : acc * 10 + d ≤ M) :
    Lib.parseUintM M acc (dch d :: r) = Lib.parseUintM M (acc * 10 + d) r := by
  have e := dch_nat d hd
  rw [Lib.parseUintM, if_pos (by omega), if_neg (by omega), e, if_neg (by omega)]
  congr 1
  omega

theorem parse_dig (M : Nat) (hM : 9223372036854775807 ≤ M) : ∀ (u : Nat) (r : List UInt8), u ≤ 1000000000000000 → Lib.parseUintM M 0 (Lib.decDigits u ++ r) = Lib.parseUintM M u r := by
  intro u
  induction u using Nat.strongRecOn with
  | _ u ih =>
    intro r hu
    by_cases h : u < 10
    · rw [dig_small u h, List.singleton_append, parse_one M 0 u r h (by omega) (by omega)]
      congr 1
      omega
    · rw [dig_big u h, List.append_assoc, ih (u / 10) (by omega) _ (by omega), List.singleton_append, parse_one M (u / 10) (u % 10) r (by omega) (by omega) (by omega)]
      congr 1
      omega

theorem index_dot (a r : List UInt8) (h : ∀ c ∈ a, c ≠ 46) : Lib.index (a ++ 46 :: r) [46] = a.length := by
  induction a with
  | nil => simp [Lib.index]
  | cons c t ih =>
    have hc := h c List.mem_cons_self
    have hi := ih fun x hx => h x (List.mem_cons_of_mem _ hx)
    rw [List.cons_append, Lib.index]
    have hp : ([46] : List UInt8).isPrefixOf (c :: (t ++ 46 :: r)) = false := by simp [List.isPrefixOf]; exact fun e => hc e.symm
    rw [if_neg (by simp [hp]), hi, if_neg (by simp)]
    simp

theorem cut_dot (a r : List UInt8) (h : ∀ c ∈ a, c ≠ 46) : Lib.cut (a ++ 46 :: r) [46] = (a, r, true) := by
  unfold Lib.cut
  rw [index_dot a r h, if_pos (by omega)]
  simp

theorem dig_dot (u : Nat) : ∀ c ∈ Lib.decDigits u, c ≠ 46 := by
  intro c hc e
  have := dig_all u c hc
  rw [e] at this
  simp at this

/-- what the program's ReadMoney hands to ParseInt -/
def joined (l : List UInt8) : List UInt8 := (Lib.cut l [46]).1 ++ (Lib.cut l [46]).2.1

theorem parse_pos (u : Nat) (hu : u ≤ 1000000000000) : Lib.parseUintB 64 (Lib.decDigits (u / 100) ++ [dch (u / 10 % 10), dch (u % 10)]) = .ok u := by
  unfold Lib.parseUintB
  rw [if_neg (by simp), parse_dig _ (by decide) (u / 100) _ (by omega), parse_one _ _ _ _ (by omega) (by omega) (by have : (9223372036854775807 : Nat) ≤ 2 ^ 64 - 1 := (by decide); omega), parse_one _ _ _ _ (by omega) (by omega) (by have : (9223372036854775807 : Nat) ≤ 2 ^ 64 - 1 := (by decide); omega)]
  rw [Lib.parseUintM]
  congr 1
  omega

/-- ParseInt finds money from its text without the dot -/
theorem parse_txt (n : Int) (h1 : -1000000000000 ≤ n) (h2 : n ≤ 1000000000000) : Lib.parseIntB 64 (joined (txt n)) = .ok n := by
  by_cases hn : n < 0
  · obtain ⟨u, hu⟩ := Int.eq_ofNat_of_zero_le (show 0 ≤ -n by omega)
    obtain rfl : n = -(u : Int) := by omega
    have e : joined (txt (-(u : Int))) = 45 :: (Lib.decDigits (u / 100) ++ [dch (u / 10 % 10), dch (u % 10)]) := by
      unfold joined
      rw [txt_neg u (by omega), posT_dch, ← List.cons_append, cut_dot _ _ (by intro c hc; simp at hc; rcases hc with rfl | hc; decide; exact dig_dot _ c hc)]
      rfl
    have h63 : (2 : Nat) ^ (64 - 1) = 9223372036854775808 := by decide
    have h45 : (45 : UInt8).toNat = 45 := by decide
    rw [e, Lib.parseIntB]
    rw [if_pos (show (45 : UInt8).toNat = 43 ∨ (45 : UInt8).toNat = 45 from .inr h45), parse_pos u (by omega)]
    simp only
    rw [if_neg (fun hh => hh.1 h45), if_neg (by rw [h63]; omega), if_pos h45]
  · obtain ⟨u, rfl⟩ := Int.eq_ofNat_of_zero_le (show 0 ≤ n by omega)
    have e : joined (txt (u : Int)) = Lib.decDigits (u / 100) ++ [dch (u / 10 % 10), dch (u % 10)] := by
      unfold joined
      rw [txt_nat, posT_dch, cut_dot _ _ (dig_dot _)]
    have hp := parse_pos u (by omega)
    rw [e]
    obtain ⟨c, t, hct⟩ : ∃ c t, Lib.decDigits (u / 100) ++ [dch (u / 10 % 10), dch (u % 10)] = c :: t := by
      cases hh : Lib.decDigits (u / 100) with
      | nil => exact absurd hh (dig_ne_nil _)
      | cons c t => exact ⟨c, t ++ [dch (u / 10 % 10), dch (u % 10)], rfl⟩
    have hc : 48 ≤ c.toNat ∧ c.toNat ≤ 57 := by
      have hm : c ∈ Lib.decDigits (u / 100) ++ [dch (u / 10 % 10), dch (u % 10)] := by rw [hct]; exact List.mem_cons_self
      simp only [List.mem_append, List.mem_cons, List.not_mem_nil, or_false] at hm
      rcases hm with hm | rfl | rfl
      · exact dig_all _ c hm
      · rw [dch_nat _ (by omega)]; omega
      · rw [dch_nat _ (by omega)]; omega
    rw [hct] at hp ⊢
    rw [Lib.parseIntB]
    simp only [if_neg (show ¬ (c.toNat = 43 ∨ c.toNat = 45) by omega), hp]
    have h63 : (2 : Nat) ^ (64 - 1) = 9223372036854775808 := by decide
    rw [if_neg (by rw [h63]; omega), if_neg (by omega), if_neg (by omega)]

/-- what the program's ReadMoney finds -/
def rd (l : List UInt8) : Option Int :=
  match Lib.parseIntB 64 (joined l) with
  | .ok v => if monB v && (txt v == l) then some v else none
  | _ => none

theorem rd_iff (l : List UInt8) (n : Int) : rd l = some n ↔ monB n = true ∧ txt n = l := by
  constructor
  · intro h
    unfold rd at h
    split at h
    · split at h
      · next hh =>
        obtain rfl := Option.some.inj h
        rw [Bool.and_eq_true] at hh
        exact ⟨hh.1, by simpa using hh.2⟩
      · cases h
    · cases h
  · rintro ⟨h, rfl⟩
    have hb := (monB_iff n).1 h
    unfold rd
    rw [parse_txt n hb.1 hb.2]
    simp [h]

theorem toList_eq (s : ByteArray) : s.toList = s.data.toList := by
  exact ByteArray.toList_eq s

end Go.Proofs.YtpphiekbhikadaaDoor

/- The model's reading of digits: what each call returns. -/
namespace Go.Proofs.YtpphiekbhikadaaDoor
open Go.ChangeShapes Go.WideShapes Go.ChangeAt Go.RowKit
set_option linter.unusedVariables false

/-- what digits spell -/
def val (l : List UInt8) : Nat := l.foldl (fun n c => n * 10 + (c.toNat - 48)) 0

theorem val_snoc (l : List UInt8) (c : UInt8) : val (l ++ [c]) = val l * 10 + (c.toNat - 48) := by simp [val]

def isDig (c : UInt8) : Bool := decide (48 ≤ c.toNat ∧ c.toNat ≤ 57)

theorem fold_lt (l : List UInt8) : ∀ acc : Nat, l.all isDig = true → l.foldl (fun n c => n * 10 + (c.toNat - 48)) acc < (acc + 1) * 10 ^ l.length := by
  induction l with
  | nil => intro acc _; simp
  | cons c t ih =>
    intro acc h
    rw [List.all_cons, Bool.and_eq_true] at h
    have hc : 48 ≤ c.toNat ∧ c.toNat ≤ 57 := by simpa [isDig] using h.1
    have := ih (acc * 10 + (c.toNat - 48)) h.2
    rw [List.foldl_cons, List.length_cons, Nat.pow_succ]
    refine Nat.lt_of_lt_of_le this ?_
    rw [Nat.mul_comm (10 ^ t.length) 10, ← Nat.mul_assoc]
    exact Nat.mul_le_mul_right _ (by omega)

theorem val_lt (l : List UInt8) (h : l.all isDig = true) : val l < 10 ^ l.length := by
  have := fold_lt l 0 h
  simpa [val] using this

theorem val_le (l : List UInt8) (h : l.all isDig = true) (hl : l.length ≤ 13) : val l ≤ 9999999999999 := by
  have := val_lt l h
  have h2 : 10 ^ l.length ≤ 10 ^ 13 := Nat.pow_le_pow_right (by omega) hl
  have h3 : (10 : Nat) ^ 13 = 10000000000000 := by decide
  omega

def dgB (l : List UInt8) : Bool := decide (1 ≤ l.length ∧ l.length ≤ 13) && l.all isDig

def dgV (l : List UInt8) : Int := if dgB l then (val l : Int) else 0

def dgO (l : List UInt8) : Bool := dgB l && (Lib.decDigits (val l) == l)

theorem take_snoc8 (s : ByteArray) (k : Nat) (h : k < s.size) : s.data.toList.take (k + 1) = s.data.toList.take k ++ [s[k]] := by
  rw [List.take_succ_eq_append_getElem (by simpa using h)]; rfl

theorem all_false8 (s : ByteArray) (k : Nat) (h : k < s.size) (hc : isDig s[k] = false) : s.data.toList.all isDig = false := by
  rw [List.all_eq_false]
  exact ⟨s[k], by have : s[k] = s.data.toList[k]'(by simpa using h) := rfl; rw [this]; exact List.getElem_mem _, by simp [hc]⟩

def DgPost (l : List UInt8) (w : World) (e : Ending) (w' : World) : Prop := e = .returned (.tuple #[.int .i64 (dgV l), .bool (dgO l)]) ∧ Below w.heap.size w w'

theorem ret_ib' {a b : Int} {c d : Bool} (h : a = b) (g : c = d) : Ending.returned (.tuple #[.int .i64 a, .bool c]) = .returned (.tuple #[.int .i64 b, .bool d]) := by rw [h, g]

set_option maxHeartbeats 400000 in
theorem digs_any (s : ByteArray) (w : World) (hs : s.size ≤ 4611686018427387904) : Calls Tryd.prog 73 #[.string s] w (DgPost s.data.toList w) := by
  have hlen : s.data.toList.length = s.size := by simp
  have HL := Lib.hid hlen
  clear hlen
  by_cases h0 : (s.size : Int) < 1
  · have hb : dgB s.data.toList = false := by unfold dgB; rw [HL.out]; simp; omega
    go_enter Tryd.func73, Tryd.ntmps73
    go_wp2_with fail
    go_ret2
    exact ⟨ret_ib' (by simp [dgV, hb]) (by simp [dgO, hb]), Below.refl _ _⟩
  · by_cases h13 : (13 : Int) < s.size
    · have hb : dgB s.data.toList = false := by unfold dgB; rw [HL.out]; simp; omega
      go_enter Tryd.func73, Tryd.ntmps73
      go_wp2_with fail
      go_ret2
      exact ⟨ret_ib' (by simp [dgV, hb]) (by simp [dgO, hb]), Below.refl _ _⟩
    · go_enter Tryd.func73, Tryd.ntmps73
      go_wp2_with fail
      go_loop [4, 5] (fun n i => ∃ k : Nat, k ≤ s.size ∧ i = .int .i64 k ∧ n = .int .i64 (val (s.data.toList.take k) : Int) ∧ Hid ((s.data.toList.take k).all isDig = true)) (fun _ i => s.size - (intOf i).toNat)
      case atStart => exact ⟨0, Nat.zero_le _, rfl, by simp [val], Lib.hid (by simp)⟩
      case round =>
        obtain ⟨k, hk, rfl, rfl, HA⟩ := hrel
        have hv := val_le (s.data.toList.take k) HA.out (by simp; omega)
        by_cases hlt : k < s.size
        · have hts := take_snoc8 s k hlt
          by_cases hd : isDig s[k] = true
          · have hc : 48 ≤ s[k].toNat ∧ s[k].toNat ≤ 57 := by simpa [isDig] using hd
            obtain ⟨d1, d2⟩ := hc
            have HT := Lib.hid hts
            have HD := Lib.hid hd
            clear hts hd
            go_wp2_with fail
            go_round
            case rel => exact ⟨k + 1, by omega, by go_num, by rw [HT.out, val_snoc]; congr 1; omega, Lib.hid (by rw [HT.out, List.all_append, HA.out]; simp [HD.out])⟩
            case measure => simp [intOf]; omega
          · have hbad : dgB s.data.toList = false := by unfold dgB; rw [all_false8 s k hlt (by simpa using hd)]; simp
            have hcc : s[k].toNat < 48 ∨ 57 < s[k].toNat := by simp [isDig] at hd; omega
            clear hd hts
            rcases hcc with hc | hc
            all_goals
              go_wp2_with fail
              go_ret2
              exact ⟨ret_ib' (by simp [dgV, hbad]) (by simp [dgO, hbad]), Below.refl _ _⟩
        · obtain rfl : k = s.size := by omega
          have e : s.data.toList.take s.size = s.data.toList := List.take_of_length_le (by rw [HL.out]; exact Nat.le_refl _)
          have hA := HA.out
          rw [e] at hA hv ⊢
          have hb : dgB s.data.toList = true := by unfold dgB; rw [hA, HL.out]; simp; omega
          have HB := Lib.hid hb
          clear hb hA e
          obtain ⟨u, hu⟩ : ∃ u, val s.data.toList = u := ⟨_, rfl⟩
          rw [hu] at hv ⊢
          have HU := Lib.hid hu
          clear hu
          go_wp2_with fail
          refine (dec_any u (u : Int) _ (by omega) (by omega) (by omega)).mono ?_
          rintro e w1 ⟨rfl, hb⟩
          have HB1 := Lib.hid hb
          clear hb
          go_wp2_with fail
          go_ret2
          exact ⟨ret_ib' (by simp [dgV, HB.out, HU.out]) (by simp [dgO, HB.out, HU.out, toList_eq]), HB1.out⟩

end Go.Proofs.YtpphiekbhikadaaDoor

/- ReadMoney of the model: what each call returns. -/
namespace Go.Proofs.YtpphiekbhikadaaDoor
open Go.ChangeShapes Go.WideShapes Go.ChangeAt Go.RowKit
set_option linter.unusedVariables false

/-- a slice of bytes of the call's own, in blocks from 'base' on -/
def OwnB (base : Nat) (w : World) (v : Value) (l : List UInt8) : Prop := w.ownsRow base 5 1 v l.length (l.map fun c => Value.int .u8 (c.toNat : Int))

theorem info8 : (Tryd.prog.info? 5).map (fun i => (i.zero, i.size, i.bytes)) = some (some (.int .u8 0), 1, 1) := by kernel_rfl

/-- what the model keeps of a text -/
def keep (l : List UInt8) : List UInt8 := l.filter isDig

theorem keep_snoc_t (l : List UInt8) (c : UInt8) (h : isDig c = true) : keep (l ++ [c]) = keep l ++ [c] := by simp [keep, List.filter_append, h]

theorem keep_snoc_f (l : List UInt8) (c : UInt8) (h : isDig c = false) : keep (l ++ [c]) = keep l := by simp [keep, List.filter_append, h]

theorem keep_len (l : List UInt8) : (keep l).length ≤ l.length := List.length_filter_le _ _

/-- without leading zeros, but for one digit -/
def strip : List UInt8 → List UInt8
  | c :: d :: t => if c = 48 then strip (d :: t) else c :: d :: t
  | l => l

theorem strip_zero (c : UInt8) (l : List UInt8) (h : c.toNat = 48) (hl : 0 < l.length) : strip (c :: l) = strip l := by
  match l, hl with
  | d :: t, _ =>
    rw [strip, if_pos]
    exact UInt8.toNat_inj.1 h

theorem strip_stop (c : UInt8) (l : List UInt8) (h : ¬ c.toNat = 48) : strip (c :: l) = c :: l := by
  cases l with
  | nil => rfl
  | cons d t => rw [strip, if_neg]; intro e; rw [e] at h; exact h rfl

theorem strip_short (l : List UInt8) (h : l.length ≤ 1) : strip l = l := by
  match l, h with
  | [], _ => rfl
  | [_], _ => rfl

/-- the length in a slot -/
def lenOf : Value → Nat
  | .slice _ n _ => n
  | _ => 0

/-- the shape of a slice that is owned and was never nil -/
def Slc (v : Value) (n : Nat) : Prop := ∃ g cap, v = .slice (some ⟨g, 0, none⟩) n cap ∧ n ≤ cap ∧ cap ≤ maxLen

theorem own_slc {base : Nat} {w : World} {v : Value} {l : List UInt8} (h : OwnB base w v l) (hl : l ≠ []) : Slc v l.length := by
  obtain ⟨_, h0 | ⟨g, cap, cur, hv, _, _, hn, hc, _⟩⟩ := h
  · exact absurd (List.length_eq_zero_iff.1 h0.2) hl
  · exact ⟨g, cap, hv, hn, hc⟩

theorem own_new (w : World) : OwnB w.heap.size (w.alloc (.cells #[] 5)) (.slice (some ⟨w.heap.size, 0, none⟩) 0 0) [] :=
  World.ownsRow_lit w #[] 0 (Nat.le_refl _) (Nat.zero_le _) rfl

theorem keep_step {w0 wr w1 : World} {v v' : Value} {l : List UInt8} {c : UInt8} {o : Obj} (hown : OwnB w0.heap.size wr v l) (hbel : Below w0.heap.size w0 wr)
    (hown' : w1.ownsRow w0.heap.size 5 1 v' (l.length + 1) (l.map (fun c => Value.int .u8 (c.toNat : Int)) ++ [.int .u8 (c.toNat : Int)])) (hg : (wr.alloc o).grownBy w1 v.ownBlock) :
    OwnB w0.heap.size w1 v' (l ++ [c]) ∧ Slc v' (l ++ [c]).length ∧ Below w0.heap.size w0 w1 := by
  have h1 : OwnB w0.heap.size w1 v' (l ++ [c]) := by
    unfold OwnB
    rw [List.length_append, List.length_singleton, List.map_append]
    exact hown'
  exact ⟨h1, own_slc h1 (by simp), (hbel.alloc hbel.size o).grown hg (by have := hbel.size; simp; omega) fun k hk => (hown.lt k hk).1⟩

/-- what the model's ReadMoney finds -/
def sdn (l : List UInt8) : Int := if l.head? = some 45 then -(dgV (strip (keep l))) else dgV (strip (keep l))

def sd (l : List UInt8) : Option Int := if dgO (strip (keep l)) && (mtx (sdn l) == l) then some (sdn l) else none

def rsPost (l : List UInt8) (w : World) (e : Ending) (w' : World) : Prop := e = .returned (.tuple #[.int .i64 ((sd l).getD 0), .bool (sd l).isSome]) ∧ Below w.heap.size w w'

theorem dgO_ne {l : List UInt8} (h : dgO l = true) : l ≠ [] := by
  intro e; subst e; simp [dgO, dgB] at h

theorem strip_nil (l : List UInt8) (h : strip l ≠ []) : l ≠ [] := by
  intro e; subst e; exact h rfl

theorem keep_nil (l : List UInt8) (h : keep l ≠ []) : l ≠ [] := by
  intro e; subst e; exact h rfl

theorem head_of (s : ByteArray) (h : 0 < s.size) : s.data.toList.head? = some s[0] := by
  have hd : 0 < s.data.toList.length := by simpa using h
  rw [List.head?_eq_getElem?, List.getElem?_eq_getElem hd]
  rfl

/-- the ways of the end of the model's ReadMoney, in the walk's own forms -/
theorem sd_split (s : ByteArray) (E : List UInt8) (hE : strip (keep s.data.toList) = E) :
    (dgO E = false ∧ sd s.data.toList = none) ∨
    (dgO E = true ∧ ∃ h : 0 < s.size, (((s[0]'h).toNat : Int) == 45) = true ∧ (mtx (-(dgV E)) == s.toList) = true ∧ sd s.data.toList = some (-(dgV E))) ∨
    (dgO E = true ∧ ∃ h : 0 < s.size, (((s[0]'h).toNat : Int) == 45) = true ∧ (mtx (-(dgV E)) == s.toList) = false ∧ sd s.data.toList = none) ∨
    (dgO E = true ∧ ∃ h : 0 < s.size, (((s[0]'h).toNat : Int) == 45) = false ∧ (mtx (dgV E) == s.toList) = true ∧ sd s.data.toList = some (dgV E)) ∨
    (dgO E = true ∧ ∃ h : 0 < s.size, (((s[0]'h).toNat : Int) == 45) = false ∧ (mtx (dgV E) == s.toList) = false ∧ sd s.data.toList = none) := by
  rw [toList_eq]
  by_cases h : dgO E = true
  · right
    have hne : s.data.toList ≠ [] := keep_nil _ (strip_nil _ (by rw [hE]; exact dgO_ne h))
    have h0 : 0 < s.size := by
      have : 0 < s.data.toList.length := List.length_pos_iff.2 hne
      simpa using this
    have hh := head_of s h0
    by_cases h45 : (s[0]'h0).toNat = 45
    · have e1 : (((s[0]'h0).toNat : Int) == 45) = true := by simp; omega
      have e2 : sdn s.data.toList = -(dgV E) := by
        unfold sdn; rw [hh, hE, if_pos (by congr 1; exact UInt8.toNat_inj.1 h45)]
      by_cases hm : (mtx (-(dgV E)) == s.data.toList) = true
      · left; exact ⟨h, h0, e1, hm, by unfold sd; rw [hE, e2, h, hm]; rfl⟩
      · right; left; exact ⟨h, h0, e1, by simpa using hm, by unfold sd; rw [hE, e2, h, if_neg (by simpa using hm)]⟩
    · have e1 : (((s[0]'h0).toNat : Int) == 45) = false := by simp; omega
      have e2 : sdn s.data.toList = dgV E := by
        unfold sdn; rw [hh, hE, if_neg]; intro e; injection e with e; rw [e] at h45; exact h45 rfl
      by_cases hm : (mtx (dgV E) == s.data.toList) = true
      · right; right; left; exact ⟨h, h0, e1, hm, by unfold sd; rw [hE, e2, h, hm]; rfl⟩
      · right; right; right; exact ⟨h, h0, e1, by simpa using hm, by unfold sd; rw [hE, e2, h, if_neg (by simpa using hm)]⟩
  · left
    have h' : dgO E = false := by simpa using h
    exact ⟨h', by unfold sd; rw [hE, h']; rfl⟩

theorem dgV_bd (l : List UInt8) : 0 ≤ dgV l ∧ dgV l ≤ 9999999999999 := by
  unfold dgV
  split
  · next h =>
    unfold dgB at h
    rw [Bool.and_eq_true, decide_eq_true_iff] at h
    have := val_le l h.2 h.1.2
    omega
  · omega

end Go.Proofs.YtpphiekbhikadaaDoor
