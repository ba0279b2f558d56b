/- The model's draws of lists: what each gives; lists that are appended to. | append onto a list of the call's own that stands beside another. | Lists of integers that a call has handed over, nil or cells of a block: they may be written, marked, looked at again. -/
import Derived.Test.YtmnddplkmljeaaaSrc
import Derived.Test.YtmnddplkmljeaaaOwn
namespace Go.Proofs.Ytmnddplkmljeaaa
open Go.ChangeShapes Go.WideShapes Go.ChangeAt Go.RowKit
set_option linter.unusedVariables false

/-- a slice of integers of the call's own, in blocks from 'base' on -/
def OwnI (base : Nat) (w : World) (v : Value) (xs : List Int) : Prop := w.ownsRow base 2 1 v xs.length (xs.map (Value.int .i64))

theorem infoI : (Try.prog.info? 2).map (fun i => (i.zero, i.size, i.bytes)) = some (some (.int .i64 0), 1, 8) := by kernel_rfl

theorem ownI_new (w : World) : OwnI w.heap.size (w.alloc (.cells #[] 2)) (.slice (some ⟨w.heap.size, 0, none⟩) 0 0) [] :=
  World.ownsRow_lit w #[] 0 (Nat.le_refl _) (Nat.zero_le _) rfl

theorem OwnI.same {base : Nat} {w w' : World} {v : Value} {xs : List Int} (h : OwnI base w v xs) (hb : ∀ k, base ≤ k → k < w.heap.size → w'.heap[k]? = w.heap[k]?) : OwnI base w' v xs := by
  obtain ⟨h0, h1 | ⟨g, cap, cur, hv, hg, hh, r⟩⟩ := h
  · exact ⟨h0, .inl h1⟩
  · have hlt : g < w.heap.size := by
      by_cases hl : g < w.heap.size
      · exact hl
      · have : w.heap[g]? = none := by simp; omega
        rw [this] at hh; cases hh
    exact ⟨h0, .inr ⟨g, cap, cur, hv, hg, by rw [hb g hg hlt]; exact hh, r⟩⟩

theorem OwnI.but {base B : Nat} {w w' : World} {v : Value} {xs : List Int} (h : OwnI base w v xs) (hb : But B w w') (hB : B < base) : OwnI base w' v xs :=
  h.same fun k hk hl => hb.block k hl (by omega)

theorem OwnI.mono {base b2 : Nat} {w : World} {v : Value} {xs : List Int} (h : OwnI base w v xs) (hb : b2 ≤ base) : OwnI b2 w v xs := by
  obtain ⟨h0, h1 | ⟨g, cap, cur, hv, hg, hh, r⟩⟩ := h
  · exact ⟨h0, .inl h1⟩
  · exact ⟨h0, .inr ⟨g, cap, cur, hv, by omega, hh, r⟩⟩

/-- its shape, and what it reads as -/
theorem OwnI.ints {base : Nat} {w : World} {v : Value} {xs : List Int} (h : OwnI base w v xs) (hm : xs.length ≤ 4611686018427387904) : ∃ a c, v = .slice a xs.length c ∧ Ints w a xs.length xs := by
  have hh := h
  obtain ⟨h0, ⟨rfl, hn⟩ | ⟨g, cap, cur, rfl, hg, hb, r⟩⟩ := h
  · rw [hn]
    exact ⟨none, 0, rfl, by simpa using hn, by omega, .inl rfl⟩
  · refine ⟨_, cap, rfl, rfl, hm, .inr ⟨g, 0, rfl, fun i hi => ?_⟩⟩
    rw [Nat.zero_add, hh.cellAt i (by omega)]
    simp [List.getD, hi]

theorem ownI_step {base : Nat} {wr w1 : World} {v v' : Value} {xs : List Int} {x : Int} {o : Obj} (hown : OwnI base wr v xs) (hbs : base ≤ wr.heap.size)
    (hown' : w1.ownsRow base 2 1 v' (xs.length + 1) (xs.map (Value.int .i64) ++ [.int .i64 x])) (hg : (wr.alloc o).grownBy w1 v.ownBlock) :
    OwnI base w1 v' (xs ++ [x]) ∧ Below base wr w1 := by
  constructor
  · unfold OwnI
    rw [List.length_append, List.length_singleton, List.map_append]
    exact hown'
  · exact ((Below.refl _ _).alloc hbs o).grown hg (by simp; omega) fun k hk => (hown.lt k hk).1

/-- a slice of numbers that a draw gives: whatever it holds -/
def ListPost (w : World) (e : Ending) (w' : World) : Prop := ∃ a l c xs, e = .returned (.slice a l c) ∧ Ints w' a l xs ∧ l ≤ 4096 ∧ Below w.heap.size w w'

theorem make_lit (l : Nat) (n : Int) (h : n = l) (hl : l ≤ 1048576) (w : World) :
    (Instr.makeSlice 24 (.int .i64 n) (.int .i64 n)).run Try.prog w = .ok (.slice (some ⟨w.heap.size, 0, none⟩) l l) (w.alloc (.cells ((List.replicate l (0 : Int)).map (Value.int .i64)).toArray 2)) := by
  subst h; exact make_ints l hl w

theorem made_list {w w4 : World} (l : Nat) (hl : l ≤ 4096) (hb : Below w.heap.size w w4) :
    ListPost w (.returned (.slice (some ⟨w4.heap.size, 0, none⟩) l l)) (w4.alloc (.cells ((List.replicate l (0 : Int)).map (Value.int .i64)).toArray 2)) :=
  ⟨_, l, l, List.replicate l 0, rfl, (Blk.new w4 _).ints (by simp) (by omega), hl, hb.trans ((Below.refl _ _).alloc hb.size _)⟩

theorem ok_value {α : Type} {v v' : α} {w w' : World} (h : (Result.ok v w : Result α) = .ok v' w') : v = v' := by cases h; rfl

/-- where the list lies behind an append: in its own block still, or in a new one -/
theorem append_where {w : World} {base : Nat} {v : Value} {xs : List Int} (ad : Addr) (y : Int) (hown : OwnI base w v xs) (hc : ∀ j u, [Value.int .i64 y][j]? = some u → w.cell? (ad.add j) = some u) (hlen : xs.length ≤ 4096) (hbase : base ≤ w.heap.size)
    (v' : Value) (w' : World) (ty : TypeId) (hr : (Builtin.append_ #[24, 24] ty #[v, .slice (some ad) 1 1]).run Try.prog w = .ok v' w') : v'.ownBlock = v.ownBlock ∨ v'.ownBlock = some w.heap.size := by
  obtain ⟨i0, hi, hz0, hz1, hz2⟩ := info_parts infoI
  have hm : maxLen = maxLen := rfl
  unfold maxLen at hm
  have hh := hown
  rcases hown.2 with ⟨rfl, hn⟩ | ⟨g, cap, cur, rfl, hbg, hg, hnc, hcm, hcs, htake⟩
  · right
    have h0 := run_append_nil (P := Try.prog) w 24 ty 2 i0 (.int .i64 0) Try.underlying24 hi hz0 ad 1 1 [.int .i64 y] (by rw [hz1]; rfl) hc (by omega) (by omega) (by rw [hz2]; omega)
    rw [h0] at hr
    rw [← ok_value hr]; rfl
  · by_cases hroom : xs.length + 1 ≤ cap
    · left
      have h0 := run_append_room (P := Try.prog) w 24 ty 2 i0 Try.underlying24 hi g xs.length cap cur hg ad 1 1 [.int .i64 y] (by rw [hz1]; rfl) hc (by intro u hu; simp at hu; subst hu; rfl) hroom (by rw [hz1, hcs]; simp; omega)
      rw [h0] at hr
      rw [← ok_value hr]; rfl
    · right
      have holds := World.ownsRow.cells hh (g := g) rfl
      have h0 := run_append_grow (P := Try.prog) w 24 ty 2 i0 (.int .i64 0) Try.underlying24 hi hz0 ⟨g, 0, none⟩ xs.length cap (xs.map (Value.int .i64)) (by rw [hz1]; simp) holds ad 1 1 [.int .i64 y] (by rw [hz1]; rfl) hc (by omega) (by omega) (growslice_fits (by omega) (by rw [hz2]; omega))
      rw [h0] at hr
      rw [← ok_value hr]; rfl

theorem wpList_app {w : World} {ops : Array Oper} {rest : List Oper} {o : Oper} {a : Act} {Q : Exit → Act → World → Prop} (hgd : o.guard = none) (s x : Operand)
    (ho : o.op = .call { callee := .builtin .append, args := #[s, x], argTypes := #[24, 24] })
    (base : Nat) (v : Value) (xs : List Int) (y : Int) (hs : a.eval s = v) (hown : OwnI base w v xs) (ad : Addr) (hx : a.eval x = .slice (some ad) 1 1) (hc : ∀ j u, [Value.int .i64 y][j]? = some u → w.cell? (ad.add j) = some u)
    (hlen : xs.length ≤ 4096) (hbase : base ≤ w.heap.size)
    (h : ∀ v' w', OwnI base w' v' (xs ++ [y]) → w.grownBy w' v.ownBlock → (v'.ownBlock = v.ownBlock ∨ v'.ownBlock = some w.heap.size) → wpList Try.prog ops Q rest (a.put o.dst v') w') : wpList Try.prog ops Q (o :: rest) a w := by
  obtain ⟨i0, hi, hz0, hz1, hz2⟩ := info_parts infoI
  have hm : maxLen = maxLen := rfl
  unfold maxLen at hm
  obtain ⟨v', w', hr, h2, h3, h4⟩ := run_append_own (P := Try.prog) w base 24 o.type 2 i0 (.int .i64 0) 1 8 Try.underlying24 hi hz0 hz1 hz2 rfl (by decide) v xs.length (xs.map (Value.int .i64)) hown ad 1 1 [.int .i64 y] rfl hc (by intro u hu; simp at hu; subst hu; rfl) (by unfold maxLen; omega) (by omega) hbase
  have h5 := append_where ad y hown hc hlen hbase v' w' o.type hr
  have h6 : OwnI base w' v' (xs ++ [y]) := by
    unfold OwnI
    rw [List.length_append, List.length_singleton, List.map_append]
    exact h2
  refine wpList_plain hgd fun _ hK => ?_
  unfold Oper.wp execOp
  simp only [ho, resolve, invoke, builtin, Sem.run_bind, Sem.run_pure, Result.andThen_ok, List.map_toArray, List.map_cons, List.map_nil, hs, hx, hr]
  exact hK _ _ (h v' w' h6 h3 h5)

/-- cells of a block that may be written -/
structure RowI (w : World) (g off : Nat) (ys : List Int) : Prop where
  cell : ∀ i, i < ys.length → w.cell? ⟨g, off + i, none⟩ = some (.int .i64 (ys.getD i 0))
  free : ∀ i, i < ys.length → w.frozen? ⟨g, off + i, none⟩ = false

theorem RowI.below {w w1 : World} {g off B : Nat} {ys : List Int} (h : RowI w g off ys) (hb : Below B w w1) (hg : g < B) : RowI w1 g off ys :=
  ⟨fun i hi => (hb.cell (p := ⟨g, off + i, none⟩) hg).trans (h.cell i hi), fun i hi => (hb.frozen (p := ⟨g, off + i, none⟩) hg).trans (h.free i hi)⟩

theorem RowI.lt {w : World} {g off : Nat} {ys : List Int} (h : RowI w g off ys) (hl : 0 < ys.length) : g < w.heap.size := block_lt (h.cell 0 hl)

theorem RowI.on {w w1 : World} {g off : Nat} {ys : List Int} (h : RowI w g off ys) (hb : Below w.heap.size w w1) : RowI w1 g off ys := by
  by_cases hl : 0 < ys.length
  · exact h.below hb (h.lt hl)
  · exact ⟨fun i hi => by omega, fun i hi => by omega⟩

theorem RowI.only {w w1 : World} {g off B : Nat} {ys : List Int} (h : RowI w g off ys) (hb : Only B w w1) (hg : g ≠ B) : RowI w1 g off ys :=
  ⟨fun i hi => (hb.cell (p := ⟨g, off + i, none⟩) hg).trans (h.cell i hi), fun i hi => (hb.frozen (p := ⟨g, off + i, none⟩) hg).trans (h.free i hi)⟩

theorem RowI.ints {w : World} {g off l : Nat} {ys : List Int} (h : RowI w g off ys) (hl : ys.length = l) (hm : l ≤ 4611686018427387904) : Ints w (some ⟨g, off, none⟩) l ys :=
  ⟨hl, hm, .inr ⟨g, off, rfl, fun i hi => h.cell i (by omega)⟩⟩

theorem OwnI.row {base g c : Nat} {w : World} {xs : List Int} (h : OwnI base w (.slice (some ⟨g, 0, none⟩) xs.length c) xs) : RowI w g 0 xs := by
  have hh := h
  obtain ⟨_, h0 | ⟨g', cap, cur, hv, _, hb, _⟩⟩ := h
  · exact absurd h0.1 (by simp)
  · simp only [Value.slice.injEq, Option.some.injEq, Addr.mk.injEq] at hv
    obtain ⟨⟨rfl, _⟩, _⟩ := hv
    refine ⟨fun i hi => ?_, fun i _ => frozen_of_row w _ _ _ _ hb⟩
    rw [Nat.zero_add, hh.cellAt i (by omega)]
    simp [List.getD, hi]

/-- a list that a call has handed over: nil, or cells of a block from 'base' on -/
def TbR (base : Nat) (w : World) (a : Option Addr) (n : Nat) (ys : List Int) : Prop :=
  ys.length = n ∧ n ≤ 4096 ∧ ((a = none ∧ n = 0) ∨ ∃ g off, a = some ⟨g, off, none⟩ ∧ base ≤ g ∧ g < w.heap.size ∧ RowI w g off ys)

theorem TbR.ints {base n : Nat} {w : World} {a : Option Addr} {ys : List Int} (h : TbR base w a n ys) : Ints w a n ys := by
  obtain ⟨h1, h2, ⟨rfl, rfl⟩ | ⟨g, off, rfl, _, _, hr⟩⟩ := h
  · exact ⟨h1, by omega, .inl rfl⟩
  · exact hr.ints h1 (by omega)

/-- of what was there only a's block may have turned -/
structure ButA (a : Option Addr) (w w' : World) : Prop where
  os : w'.os = w.os
  tape : w'.tape = w.tape
  output : w'.output = w.output
  size : w.heap.size ≤ w'.heap.size
  block : ∀ k, k < w.heap.size → (∀ x, a = some x → x.block ≠ k) → w'.heap[k]? = w.heap[k]?

theorem below_butA {a : Option Addr} {w w' : World} (h : Below w.heap.size w w') : ButA a w w' := ⟨h.os, h.tape, h.output, h.size, fun k hk _ => h.block k hk⟩

theorem ButA.trans {a : Option Addr} {w1 w2 w3 : World} (h : ButA a w1 w2) (k : ButA a w2 w3) : ButA a w1 w3 :=
  ⟨k.os.trans h.os, k.tape.trans h.tape, k.output.trans h.output, Nat.le_trans h.size k.size, fun i hi hb => (k.block i (Nat.lt_of_lt_of_le hi h.size) hb).trans (h.block i hi hb)⟩

theorem TbR.far {base n : Nat} {w : World} {a : Option Addr} {ys : List Int} (h : TbR base w a n ys) : ∀ x, a = some x → base ≤ x.block ∧ x.block < w.heap.size := by
  intro x hx
  obtain ⟨_, _, ⟨rfl, _⟩ | ⟨g, off, rfl, hb, hg, _⟩⟩ := h
  · cases hx
  · cases hx; exact ⟨hb, hg⟩

theorem ButA.low {a : Option Addr} {B : Nat} {w w' : World} (h : ButA a w w') (ha : ∀ x, a = some x → B ≤ x.block) (hB : B ≤ w.heap.size) : Below B w w' :=
  ⟨h.os, h.tape, h.output, h.size, fun k hk => h.block k (by omega) (fun x hx => by have := ha x hx; omega)⟩

theorem ButA.cell {a : Option Addr} {w w' : World} (h : ButA a w w') {p : Addr} {v : Value} (hc : w.cell? p = some v) (hn : ∀ x, a = some x → x.block ≠ p.block) : w'.cell? p = some v :=
  (World.cell?_of_block (w := w) (h.block p.block (block_lt hc) hn)).trans hc

theorem TbR.on {base n : Nat} {w w' : World} {a : Option Addr} {ys : List Int} (h : TbR base w a n ys) (hb : Below w.heap.size w w') : TbR base w' a n ys := by
  obtain ⟨h1, h2, h3 | ⟨g, off, rfl, hb1, hg, hr⟩⟩ := h
  · exact ⟨h1, h2, .inl h3⟩
  · exact ⟨h1, h2, .inr ⟨g, off, rfl, hb1, Nat.lt_of_lt_of_le hg hb.size, hr.on hb⟩⟩

theorem TbR.mono {base b2 n : Nat} {w : World} {a : Option Addr} {ys : List Int} (h : TbR base w a n ys) (hb : b2 ≤ base) : TbR b2 w a n ys := by
  obtain ⟨h1, h2, h3 | ⟨g, off, rfl, hb1, hg, hr⟩⟩ := h
  · exact ⟨h1, h2, .inl h3⟩
  · exact ⟨h1, h2, .inr ⟨g, off, rfl, by omega, hg, hr⟩⟩

theorem RowI.set {w : World} {g off : Nat} {ys : List Int} (h : RowI w g off ys) (k : Nat) (v : Int) : RowI (w.setCell ⟨g, off + k, none⟩ (.int .i64 v)) g off (ys.set k v) := by
  refine ⟨fun i hi => ?_, fun i hi => by rw [World.frozen?_setCell]; exact h.free i (by simpa using hi)⟩
  have hi' : i < ys.length := by simpa using hi
  by_cases e : i = k
  · subst e
    rw [World.cell?_setCell_same' _ _ _ (by rw [h.cell i hi']; rfl)]
    simp [List.getD, hi']
  · rw [World.cell?_setCell_other _ _ _ _ (by first | (simp; done) | (simp; omega)), h.cell i hi']
    simp [List.getD, Ne.symm e]

theorem mark_row (ys : List Int) (g off l c : Nat) (q : Int) (w : World) (h : RowI w g off ys) (hy : ys.length = l) (hl : l ≤ 1048576) (q0 : 0 ≤ q) (q1 : q ≤ 1099511627776) :
    Calls Try.prog 65 #[.slice (some ⟨g, off, none⟩) l c, .int .i64 q] w fun e w' => e = .returned (.int .i64 (q + l)) ∧ RowI w' g off (marks q l) ∧ Only g w w' := by
  have HY := Lib.hid hy
  have H := Lib.hid h
  clear h hy
  go_enter Try.func65, Try.ntmps65
  go_wp2_with fail
  go_loopw [1, 5] (fun s i wr => ∃ k : Nat, k ≤ l ∧ i = .int .i64 k ∧ s = .int .i64 (q + k) ∧ Hid (RowI wr g off (marks q k ++ ys.drop k)) ∧ Hid (Only g w wr)) (fun _ i _ => l - (intOf i).toNat)
  case atStart => exact ⟨0, Nat.zero_le _, rfl, by simp, Lib.hid (by simpa [marks] using H.out), Lib.hid (Only.refl _ _)⟩
  case round =>
    obtain ⟨k, hk, rfl, rfl, HB, HO⟩ := hrel
    by_cases hlt : k < l
    · have hx := HB.out.cell k (by simp [marks_len]; have := HY.out; omega)
      have hf := HB.out.free k (by simp [marks_len]; have := HY.out; omega)
      obtain ⟨u, hu⟩ : ∃ u, (marks q k ++ ys.drop k).getD k 0 = u := ⟨_, rfl⟩
      rw [hu] at hx
      clear hu
      go_wp2_with fail
      go_roundw
      case rel => exact ⟨k + 1, by omega, by go_num, by go_num, Lib.hid (by have := HB.out.set k (q + k); rw [mark_step _ _ _ (by rw [HY.out]; exact hlt)] at this; exact this), Lib.hid (HO.out.setCell (p := ⟨g, off + k, none⟩) rfl _)⟩
      case measure => simp [intOf]; omega
    · go_wp2_with fail
      go_ret
      obtain rfl : k = l := by omega
      refine ⟨rfl, ?_, HO.out⟩
      have := HB.out
      rw [List.drop_of_length_le (by rw [HY.out]; exact Nat.le_refl _), List.append_nil] at this
      exact this

theorem Ints.onlyT {w w' : World} {a : Option Addr} {l B : Nat} {xs : List Int} (h : Ints w a l xs) (ho : Only B w w') (hne : ∀ x, a = some x → x.block ≠ B) : Ints w' a l xs := by
  refine ⟨h.len, h.max, ?_⟩
  rcases h.cells with h0 | ⟨b, off, rfl, hc⟩
  · exact .inl h0
  · exact .inr ⟨b, off, rfl, fun i hi => (ho.cell (p := ⟨b, off + i, none⟩) (hne ⟨b, off, none⟩ rfl)).trans (hc i hi)⟩

theorem TbR.only {base n B : Nat} {w w' : World} {a : Option Addr} {ys : List Int} (h : TbR base w a n ys) (ho : Only B w w') (hne : ∀ x, a = some x → x.block ≠ B) : TbR base w' a n ys := by
  obtain ⟨h1, h2, h3 | ⟨g, off, rfl, hb1, hg, hr⟩⟩ := h
  · exact ⟨h1, h2, .inl h3⟩
  · exact ⟨h1, h2, .inr ⟨g, off, rfl, hb1, by rw [ho.size]; exact hg, hr.only ho (hne _ rfl)⟩⟩

theorem Ints.butA {w w' : World} {a g : Option Addr} {l : Nat} {xs : List Int} (h : Ints w a l xs) (ho : ButA g w w') (hne : ∀ x y, a = some x → g = some y → y.block ≠ x.block) : Ints w' a l xs := by
  refine ⟨h.len, h.max, ?_⟩
  rcases h.cells with h0 | ⟨b, off, rfl, hc⟩
  · exact .inl h0
  · exact .inr ⟨b, off, rfl, fun i hi => ho.cell (hc i hi) (fun y hy => hne ⟨b, off, none⟩ y rfl hy)⟩

/-- what a call leaves that hands over a list and a code -/
def LsPost (ys : List Int) (E : Int) (w : World) (e : Ending) (w' : World) : Prop := ∃ a n c, e = .returned (.tuple #[.slice a n c, .int .i64 E]) ∧ TbR w.heap.size w' a n ys ∧ Below w.heap.size w w'

/-- a handed-over list is marked -/
theorem markI_any (ys : List Int) (base : Nat) (a : Option Addr) (n c : Nat) (q : Int) (w : World) (h : TbR base w a n ys) (q0 : 0 ≤ q) (q1 : q ≤ 1099511627776) :
    Calls Try.prog 65 #[.slice a n c, .int .i64 q] w fun e w' => e = .returned (.int .i64 (q + n)) ∧ TbR base w' a n (marks q n) ∧ ButA a w w' := by
  obtain ⟨h1, h2, ⟨rfl, rfl⟩ | ⟨g, off, rfl, hb1, hg, hr⟩⟩ := h
  · refine (mark_nil none c q w).mono ?_
    rintro e w' ⟨rfl, rfl⟩
    exact ⟨by simp, ⟨marks_len _ _, by omega, .inl ⟨rfl, rfl⟩⟩, below_butA (Below.refl _ _)⟩
  · refine (mark_row ys g off n c q w hr h1 (by omega) q0 q1).mono ?_
    rintro e w' ⟨rfl, hr', ho⟩
    exact ⟨rfl, ⟨marks_len _ _, h2, .inr ⟨g, off, rfl, hb1, by rw [ho.size]; exact hg, hr'⟩⟩, ⟨ho.os, ho.tape, ho.output, by rw [ho.size]; exact Nat.le_refl _, fun k _ hk => ho.block k (fun e => hk _ rfl e.symm)⟩⟩

end Go.Proofs.Ytmnddplkmljeaaa
