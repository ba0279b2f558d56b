/- Merged: DrawS, Once, MdS, IntD. -/
import Derived.Test.YtpdmbmfjeankbaaGreatDoorSn1
import Derived.Test.YtpdmbmfjeankbaaGreatDoorSn3
import Derived.Defers
import Derived.Laws.Pointers
import Derived.Laws.NewBlocks
import Derived.ChangeAlike

/- The model's draws of lists: what each gives; lists that are appended to. | append onto a list of the call's own that stands beside another. | Lists of integers that a call has handed over, nil or cells of a block: they may be written, marked, looked at again. -/
namespace Go.Proofs.YtpdmbmfjeankbaaGreatDoor
open Go.ChangeShapes Go.WideShapes Go.ChangeAt Go.RowKit
set_option linter.unusedVariables false

/-- a slice of integers of the call's own, in blocks from 'base' on -/
def OwnI (base : Nat) (w : World) (v : Value) (xs : List Int) : Prop := w.ownsRow base 2 1 v xs.length (xs.map (Value.int .i64))

theorem infoI : (Tryz.prog.info? 2).map (fun i => (i.zero, i.size, i.bytes)) = some (some (.int .i64 0), 1, 8) := by kernel_rfl

theorem ownI_new (w : World) : OwnI w.heap.size (w.alloc (.cells #[] 2)) (.slice (some ⟨w.heap.size, 0, none⟩) 0 0) [] :=
  World.ownsRow_lit w #[] 0 (Nat.le_refl _) (Nat.zero_le _) rfl

theorem OwnI.same {base : Nat} {w w' : World} {v : Value} {xs : List Int} (h : OwnI base w v xs) (hb : ∀ k, base ≤ k → k < w.heap.size → w'.heap[k]? = w.heap[k]?) : OwnI base w' v xs := by
  obtain ⟨h0, h1 | ⟨g, cap, cur, hv, hg, hh, r⟩⟩ := h
  · exact ⟨h0, .inl h1⟩
  · have hlt : g < w.heap.size := by
      by_cases hl : g < w.heap.size
      · exact hl
      · have : w.heap[g]? = none := by simp; omega
        rw [this] at hh; cases hh
    exact ⟨h0, .inr ⟨g, cap, cur, hv, hg, by rw [hb g hg hlt]; exact hh, r⟩⟩

theorem OwnI.but {base B : Nat} {w w' : World} {v : Value} {xs : List Int} (h : OwnI base w v xs) (hb : But B w w') (hB : B < base) : OwnI base w' v xs :=
  h.same fun k hk hl => hb.block k hl (by omega)

theorem OwnI.mono {base b2 : Nat} {w : World} {v : Value} {xs : List Int} (h : OwnI base w v xs) (hb : b2 ≤ base) : OwnI b2 w v xs := by
  obtain ⟨h0, h1 | ⟨g, cap, cur, hv, hg, hh, r⟩⟩ := h
  · exact ⟨h0, .inl h1⟩
  · exact ⟨h0, .inr ⟨g, cap, cur, hv, by omega, hh, r⟩⟩

/-- its shape, and what it reads as -/
theorem OwnI.ints {base : Nat} {w : World} {v : Value} {xs : List Int} (h : OwnI base w v xs) (hm : xs.length ≤ 4611686018427387904) : ∃ a c, v = .slice a xs.length c ∧ Ints w a xs.length xs := by
  have hh := h
  obtain ⟨h0, ⟨rfl, hn⟩ | ⟨g, cap, cur, rfl, hg, hb, r⟩⟩ := h
  · rw [hn]
    exact ⟨none, 0, rfl, by simpa using hn, by omega, .inl rfl⟩
  · refine ⟨_, cap, rfl, rfl, hm, .inr ⟨g, 0, rfl, fun i hi => ?_⟩⟩
    rw [Nat.zero_add, hh.cellAt i (by omega)]
    simp [List.getD, hi]

theorem ownI_step {base : Nat} {wr w1 : World} {v v' : Value} {xs : List Int} {x : Int} {o : Obj} (hown : OwnI base wr v xs) (hbs : base ≤ wr.heap.size)
    (hown' : w1.ownsRow base 2 1 v' (xs.length + 1) (xs.map (Value.int .i64) ++ [.int .i64 x])) (hg : (wr.alloc o).grownBy w1 v.ownBlock) :
    OwnI base w1 v' (xs ++ [x]) ∧ Below base wr w1 := by
  constructor
  · unfold OwnI
    rw [List.length_append, List.length_singleton, List.map_append]
    exact hown'
  · exact ((Below.refl _ _).alloc hbs o).grown hg (by simp; omega) fun k hk => (hown.lt k hk).1

/-- a slice of numbers that a draw gives: whatever it holds -/
def ListPost (w : World) (e : Ending) (w' : World) : Prop := ∃ a l c xs, e = .returned (.slice a l c) ∧ Ints w' a l xs ∧ l ≤ 4096 ∧ Below w.heap.size w w'

theorem make_lit (l : Nat) (n : Int) (h : n = l) (hl : l ≤ 1048576) (w : World) :
    (Instr.makeSlice 24 (.int .i64 n) (.int .i64 n)).run Tryz.prog w = .ok (.slice (some ⟨w.heap.size, 0, none⟩) l l) (w.alloc (.cells ((List.replicate l (0 : Int)).map (Value.int .i64)).toArray 2)) := by
  subst h; exact make_ints l hl w

theorem made_list {w w4 : World} (l : Nat) (hl : l ≤ 4096) (hb : Below w.heap.size w w4) :
    ListPost w (.returned (.slice (some ⟨w4.heap.size, 0, none⟩) l l)) (w4.alloc (.cells ((List.replicate l (0 : Int)).map (Value.int .i64)).toArray 2)) :=
  ⟨_, l, l, List.replicate l 0, rfl, (Blk.new w4 _).ints (by simp) (by omega), hl, hb.trans ((Below.refl _ _).alloc hb.size _)⟩

theorem ok_value {α : Type} {v v' : α} {w w' : World} (h : (Result.ok v w : Result α) = .ok v' w') : v = v' := by cases h; rfl

/-- where the list lies behind an append: in its own block still, or in a new one -/
theorem append_where {w : World} {base : Nat} {v : Value} {xs : List Int} (ad : Addr) (y : Int) (hown : OwnI base w v xs) (hc : ∀ j u, [Value.int .i64 y][j]? = some u → w.cell? (ad.add j) = some u) (hlen : xs.length ≤ 4096) (hbase : base ≤ w.heap.size)
    (v' : Value) (w' : World) (ty : TypeId) (hr : (Builtin.append_ #[24, 24] ty #[v, .slice (some ad) 1 1]).run Tryz.prog w = .ok v' w') : v'.ownBlock = v.ownBlock ∨ v'.ownBlock = some w.heap.size := by
  obtain ⟨i0, hi, hz0, hz1, hz2⟩ := info_parts infoI
  have hm : maxLen = maxLen := rfl
  unfold maxLen at hm
  have hh := hown
  rcases hown.2 with ⟨rfl, hn⟩ | ⟨g, cap, cur, rfl, hbg, hg, hnc, hcm, hcs, htake⟩
  · right
    have h0 := run_append_nil (P := Tryz.prog) w 24 ty 2 i0 (.int .i64 0) Tryz.underlying24 hi hz0 ad 1 1 [.int .i64 y] (by rw [hz1]; rfl) hc (by omega) (by omega) (by rw [hz2]; omega)
    rw [h0] at hr
    rw [← ok_value hr]; rfl
  · by_cases hroom : xs.length + 1 ≤ cap
    · left
      have h0 := run_append_room (P := Tryz.prog) w 24 ty 2 i0 Tryz.underlying24 hi g xs.length cap cur hg ad 1 1 [.int .i64 y] (by rw [hz1]; rfl) hc (by intro u hu; simp at hu; subst hu; rfl) hroom (by rw [hz1, hcs]; simp; omega)
      rw [h0] at hr
      rw [← ok_value hr]; rfl
    · right
      have holds := World.ownsRow.cells hh (g := g) rfl
      have h0 := run_append_grow (P := Tryz.prog) w 24 ty 2 i0 (.int .i64 0) Tryz.underlying24 hi hz0 ⟨g, 0, none⟩ xs.length cap (xs.map (Value.int .i64)) (by rw [hz1]; simp) holds ad 1 1 [.int .i64 y] (by rw [hz1]; rfl) hc (by omega) (by omega) (growslice_fits (by omega) (by rw [hz2]; omega))
      rw [h0] at hr
      rw [← ok_value hr]; rfl

theorem wpList_app {w : World} {ops : Array Oper} {rest : List Oper} {o : Oper} {a : Act} {Q : Exit → Act → World → Prop} (hgd : o.guard = none) (s x : Operand)
    (ho : o.op = .call { callee := .builtin .append, args := #[s, x], argTypes := #[24, 24] })
    (base : Nat) (v : Value) (xs : List Int) (y : Int) (hs : a.eval s = v) (hown : OwnI base w v xs) (ad : Addr) (hx : a.eval x = .slice (some ad) 1 1) (hc : ∀ j u, [Value.int .i64 y][j]? = some u → w.cell? (ad.add j) = some u)
    (hlen : xs.length ≤ 4096) (hbase : base ≤ w.heap.size)
    (h : ∀ v' w', OwnI base w' v' (xs ++ [y]) → w.grownBy w' v.ownBlock → (v'.ownBlock = v.ownBlock ∨ v'.ownBlock = some w.heap.size) → wpList Tryz.prog ops Q rest (a.put o.dst v') w') : wpList Tryz.prog ops Q (o :: rest) a w := by
  obtain ⟨i0, hi, hz0, hz1, hz2⟩ := info_parts infoI
  have hm : maxLen = maxLen := rfl
  unfold maxLen at hm
  obtain ⟨v', w', hr, h2, h3, h4⟩ := run_append_own (P := Tryz.prog) w base 24 o.type 2 i0 (.int .i64 0) 1 8 Tryz.underlying24 hi hz0 hz1 hz2 rfl (by decide) v xs.length (xs.map (Value.int .i64)) hown ad 1 1 [.int .i64 y] rfl hc (by intro u hu; simp at hu; subst hu; rfl) (by unfold maxLen; omega) (by omega) hbase
  have h5 := append_where ad y hown hc hlen hbase v' w' o.type hr
  have h6 : OwnI base w' v' (xs ++ [y]) := by
    unfold OwnI
    rw [List.length_append, List.length_singleton, List.map_append]
    exact h2
  refine wpList_plain hgd fun _ hK => ?_
  unfold Oper.wp execOp
  simp only [ho, resolve, invoke, builtin, Sem.run_bind, Sem.run_pure, Result.andThen_ok, List.map_toArray, List.map_cons, List.map_nil, hs, hx, hr]
  exact hK _ _ (h v' w' h6 h3 h5)

/-- cells of a block that may be written -/
structure RowI (w : World) (g off : Nat) (ys : List Int) : Prop where
  cell : ∀ i, i < ys.length → w.cell? ⟨g, off + i, none⟩ = some (.int .i64 (ys.getD i 0))
  free : ∀ i, i < ys.length → w.frozen? ⟨g, off + i, none⟩ = false

theorem RowI.below {w w1 : World} {g off B : Nat} {ys : List Int} (h : RowI w g off ys) (hb : Below B w w1) (hg : g < B) : RowI w1 g off ys :=
  ⟨fun i hi => (hb.cell (p := ⟨g, off + i, none⟩) hg).trans (h.cell i hi), fun i hi => (hb.frozen (p := ⟨g, off + i, none⟩) hg).trans (h.free i hi)⟩

theorem RowI.lt {w : World} {g off : Nat} {ys : List Int} (h : RowI w g off ys) (hl : 0 < ys.length) : g < w.heap.size := block_lt (h.cell 0 hl)

theorem RowI.on {w w1 : World} {g off : Nat} {ys : List Int} (h : RowI w g off ys) (hb : Below w.heap.size w w1) : RowI w1 g off ys := by
  by_cases hl : 0 < ys.length
  · exact h.below hb (h.lt hl)
  · exact ⟨fun i hi => by omega, fun i hi => by omega⟩

theorem RowI.only {w w1 : World} {g off B : Nat} {ys : List Int} (h : RowI w g off ys) (hb : Only B w w1) (hg : g ≠ B) : RowI w1 g off ys :=
  ⟨fun i hi => (hb.cell (p := ⟨g, off + i, none⟩) hg).trans (h.cell i hi), fun i hi => (hb.frozen (p := ⟨g, off + i, none⟩) hg).trans (h.free i hi)⟩

theorem RowI.ints {w : World} {g off l : Nat} {ys : List Int} (h : RowI w g off ys) (hl : ys.length = l) (hm : l ≤ 4611686018427387904) : Ints w (some ⟨g, off, none⟩) l ys :=
  ⟨hl, hm, .inr ⟨g, off, rfl, fun i hi => h.cell i (by omega)⟩⟩

theorem OwnI.row {base g c : Nat} {w : World} {xs : List Int} (h : OwnI base w (.slice (some ⟨g, 0, none⟩) xs.length c) xs) : RowI w g 0 xs := by
  have hh := h
  obtain ⟨_, h0 | ⟨g', cap, cur, hv, _, hb, _⟩⟩ := h
  · exact absurd h0.1 (by simp)
  · simp only [Value.slice.injEq, Option.some.injEq, Addr.mk.injEq] at hv
    obtain ⟨⟨rfl, _⟩, _⟩ := hv
    refine ⟨fun i hi => ?_, fun i _ => frozen_of_row w _ _ _ _ hb⟩
    rw [Nat.zero_add, hh.cellAt i (by omega)]
    simp [List.getD, hi]

/-- a list that a call has handed over: nil, or cells of a block from 'base' on -/
def TbR (base : Nat) (w : World) (a : Option Addr) (n : Nat) (ys : List Int) : Prop :=
  ys.length = n ∧ n ≤ 4096 ∧ ((a = none ∧ n = 0) ∨ ∃ g off, a = some ⟨g, off, none⟩ ∧ base ≤ g ∧ g < w.heap.size ∧ RowI w g off ys)

theorem TbR.ints {base n : Nat} {w : World} {a : Option Addr} {ys : List Int} (h : TbR base w a n ys) : Ints w a n ys := by
  obtain ⟨h1, h2, ⟨rfl, rfl⟩ | ⟨g, off, rfl, _, _, hr⟩⟩ := h
  · exact ⟨h1, by omega, .inl rfl⟩
  · exact hr.ints h1 (by omega)

/-- of what was there only a's block may have turned -/
structure ButA (a : Option Addr) (w w' : World) : Prop where
  os : w'.os = w.os
  tape : w'.tape = w.tape
  output : w'.output = w.output
  size : w.heap.size ≤ w'.heap.size
  block : ∀ k, k < w.heap.size → (∀ x, a = some x → x.block ≠ k) → w'.heap[k]? = w.heap[k]?

theorem below_butA {a : Option Addr} {w w' : World} (h : Below w.heap.size w w') : ButA a w w' := ⟨h.os, h.tape, h.output, h.size, fun k hk _ => h.block k hk⟩

theorem ButA.trans {a : Option Addr} {w1 w2 w3 : World} (h : ButA a w1 w2) (k : ButA a w2 w3) : ButA a w1 w3 :=
  ⟨k.os.trans h.os, k.tape.trans h.tape, k.output.trans h.output, Nat.le_trans h.size k.size, fun i hi hb => (k.block i (Nat.lt_of_lt_of_le hi h.size) hb).trans (h.block i hi hb)⟩

theorem TbR.far {base n : Nat} {w : World} {a : Option Addr} {ys : List Int} (h : TbR base w a n ys) : ∀ x, a = some x → base ≤ x.block ∧ x.block < w.heap.size := by
  intro x hx
  obtain ⟨_, _, ⟨rfl, _⟩ | ⟨g, off, rfl, hb, hg, _⟩⟩ := h
  · cases hx
  · cases hx; exact ⟨hb, hg⟩

theorem ButA.low {a : Option Addr} {B : Nat} {w w' : World} (h : ButA a w w') (ha : ∀ x, a = some x → B ≤ x.block) (hB : B ≤ w.heap.size) : Below B w w' :=
  ⟨h.os, h.tape, h.output, h.size, fun k hk => h.block k (by omega) (fun x hx => by have := ha x hx; omega)⟩

theorem ButA.cell {a : Option Addr} {w w' : World} (h : ButA a w w') {p : Addr} {v : Value} (hc : w.cell? p = some v) (hn : ∀ x, a = some x → x.block ≠ p.block) : w'.cell? p = some v :=
  (World.cell?_of_block (w := w) (h.block p.block (block_lt hc) hn)).trans hc

theorem TbR.on {base n : Nat} {w w' : World} {a : Option Addr} {ys : List Int} (h : TbR base w a n ys) (hb : Below w.heap.size w w') : TbR base w' a n ys := by
  obtain ⟨h1, h2, h3 | ⟨g, off, rfl, hb1, hg, hr⟩⟩ := h
  · exact ⟨h1, h2, .inl h3⟩
  · exact ⟨h1, h2, .inr ⟨g, off, rfl, hb1, Nat.lt_of_lt_of_le hg hb.size, hr.on hb⟩⟩

theorem TbR.mono {base b2 n : Nat} {w : World} {a : Option Addr} {ys : List Int} (h : TbR base w a n ys) (hb : b2 ≤ base) : TbR b2 w a n ys := by
  obtain ⟨h1, h2, h3 | ⟨g, off, rfl, hb1, hg, hr⟩⟩ := h
  · exact ⟨h1, h2, .inl h3⟩
  · exact ⟨h1, h2, .inr ⟨g, off, rfl, by omega, hg, hr⟩⟩

theorem RowI.set {w : World} {g off : Nat} {ys : List Int} (h : RowI w g off ys) (k : Nat) (v : Int) : RowI (w.setCell ⟨g, off + k, none⟩ (.int .i64 v)) g off (ys.set k v) := by
  refine ⟨fun i hi => ?_, fun i hi => by rw [World.frozen?_setCell]; exact h.free i (by simpa using hi)⟩
  have hi' : i < ys.length := by simpa using hi
  by_cases e : i = k
  · subst e
    rw [World.cell?_setCell_same' _ _ _ (by rw [h.cell i hi']; rfl)]
    simp [List.getD, hi']
  · rw [World.cell?_setCell_other _ _ _ _ (by first | (simp; done) | (simp; omega)), h.cell i hi']
    simp [List.getD, Ne.symm e]

theorem Ints.onlyT {w w' : World} {a : Option Addr} {l B : Nat} {xs : List Int} (h : Ints w a l xs) (ho : Only B w w') (hne : ∀ x, a = some x → x.block ≠ B) : Ints w' a l xs := by
  refine ⟨h.len, h.max, ?_⟩
  rcases h.cells with h0 | ⟨b, off, rfl, hc⟩
  · exact .inl h0
  · exact .inr ⟨b, off, rfl, fun i hi => (ho.cell (p := ⟨b, off + i, none⟩) (hne ⟨b, off, none⟩ rfl)).trans (hc i hi)⟩

theorem TbR.only {base n B : Nat} {w w' : World} {a : Option Addr} {ys : List Int} (h : TbR base w a n ys) (ho : Only B w w') (hne : ∀ x, a = some x → x.block ≠ B) : TbR base w' a n ys := by
  obtain ⟨h1, h2, h3 | ⟨g, off, rfl, hb1, hg, hr⟩⟩ := h
  · exact ⟨h1, h2, .inl h3⟩
  · exact ⟨h1, h2, .inr ⟨g, off, rfl, hb1, by rw [ho.size]; exact hg, hr.only ho (hne _ rfl)⟩⟩

theorem Ints.butA {w w' : World} {a g : Option Addr} {l : Nat} {xs : List Int} (h : Ints w a l xs) (ho : ButA g w w') (hne : ∀ x y, a = some x → g = some y → y.block ≠ x.block) : Ints w' a l xs := by
  refine ⟨h.len, h.max, ?_⟩
  rcases h.cells with h0 | ⟨b, off, rfl, hc⟩
  · exact .inl h0
  · exact .inr ⟨b, off, rfl, fun i hi => ho.cell (hc i hi) (fun y hy => hne ⟨b, off, none⟩ y rfl hy)⟩

/-- what a call leaves that hands over a list and a code -/
def LsPost (ys : List Int) (E : Int) (w : World) (e : Ending) (w' : World) : Prop := ∃ a n c, e = .returned (.tuple #[.slice a n c, .int .i64 E]) ∧ TbR w.heap.size w' a n ys ∧ Below w.heap.size w w'

end Go.Proofs.YtpdmbmfjeankbaaGreatDoor

/- sync.Once, one goroutine: the two calls that its slow road defers, and the lock, each a contract of its own. | Discounts: their plain facts, and the value of the program that holds all discounts of a rate, computed once. -/
namespace Go.Proofs.YtpdmbmfjeankbaaGreatDoor
open Go.ChangeShapes Go.WideShapes Go.ChangeAt Go.RowKit
set_option linter.unusedVariables false
set_option maxRecDepth 100000

theorem on_disable (w : World) : (callFunc 139 #[]).run Tryz.prog w = .ok (.value (.tuple #[])) w := run_call_mark0 Tryz.func139 (by kernel_rfl) (by kernel_rfl) (by kernel_rfl) .disable (by kernel_rfl) w

theorem on_enable (w : World) : (callFunc 141 #[]).run Tryz.prog w = .ok (.value (.tuple #[])) w := run_call_mark0 Tryz.func141 (by kernel_rfl) (by kernel_rfl) (by kernel_rfl) .enable (by kernel_rfl) w

theorem on_acquire (a : Addr) (w : World) : (callFunc 142 #[.pointer (some a)]).run Tryz.prog w = .ok (.value (.tuple #[])) w := run_call_marked Tryz.func142 (by kernel_rfl) (by kernel_rfl) (by kernel_rfl) .acquire (by kernel_rfl) a w

theorem on_merge (a : Addr) (w : World) : (callFunc 144 #[.pointer (some a)]).run Tryz.prog w = .ok (.value (.tuple #[])) w := run_call_marked Tryz.func144 (by kernel_rfl) (by kernel_rfl) (by kernel_rfl) .releaseMerge (by kernel_rfl) a w

/-- (*sync/atomic.Bool).Store(true), entered as a deferred call -/
theorem store_deferred (a : Addr) (x : Value) (u : FrameMode) (w : World) (hc : w.cell? a = some x) (hz : w.frozen? a = false) :
    CallsD Tryz.prog 132 #[.pointer (some a), .bool true] u w fun e u' w' => u' = u ∧ (e = .returned (.tuple #[]) ∧ w' = w.drew.setCell a (.int .u32 1)) := by
  have hc' : w.drew.cell? a = some x := by go_simp
  have hz' : w.drew.frozen? a = false := by go_simp
  have hst := run_call_store (P := Tryz.prog) Tryz.func137 (by kernel_rfl) (by kernel_rfl) (by kernel_rfl) (by kernel_rfl) (k := .u32) (y := 1) hc' hz'
  go_enter_d Tryz.func132, Tryz.ntmps132
  go_wp2
  go_region_calls
  all_goals (go_end0; exact ⟨rfl, rfl⟩)

/-- (*sync.Mutex).Unlock, entered as a deferred call, the lock held and nobody waiting -/
theorem unlock_deferred (a : Addr) (u : FrameMode) (w : World) (hc : w.cell? a = some (.int .i32 1)) (hz : w.frozen? a = false) :
    CallsD Tryz.prog 131 #[.pointer (some a)] u w fun e u' w' => u' = u ∧ (e = .returned (.tuple #[]) ∧ w' = w.setCell a (.int .i32 0)) := by
  have hd := on_disable
  have he := on_enable
  have hr := on_merge
  have hadd := run_call_add (P := Tryz.prog) Tryz.func145 (by kernel_rfl) (by kernel_rfl) (by kernel_rfl) .i32 (by kernel_rfl) (y := -1) (s := 0) hc hz (by simp [go_sem]; rfl)
  have hcv := run_convert_to_unsafe (P := Tryz.prog) (src := 185) (dst := 189) Tryz.underlying185 Tryz.underlying189 (by kernel_rfl) hc
  go_enter_d Tryz.func131, Tryz.ntmps131
  go_wp2
  go_end0
  go_wp2
  go_end0
  exact ⟨rfl, rfl⟩

/-- (*sync.Mutex).Lock, the lock free -/
theorem lock_free (a : Addr) (w : World) (hc : w.cell? a = some (.int .i32 0)) (hz : w.frozen? a = false) :
    Calls Tryz.prog 130 #[.pointer (some a)] w fun e w' => e = .returned (.tuple #[]) ∧ w' = w.setCell a (.int .i32 1) := by
  have hd := on_disable
  have he := on_enable
  have ha := on_acquire
  have hcas := run_call_cas_hit (P := Tryz.prog) Tryz.func140 (by kernel_rfl) (by kernel_rfl) (by kernel_rfl) .i32 (by kernel_rfl) (y := 1) hc hz
  have hc' : (w.setCell a (.int .i32 1)).cell? a = some (.int .i32 1) := World.cell?_setCell_same w a _ hc
  have hcv := run_convert_to_unsafe (P := Tryz.prog) (src := 185) (dst := 189) Tryz.underlying185 Tryz.underlying189 (by kernel_rfl) hc'
  go_enter Tryz.func130, Tryz.ntmps130
  go_wp2
  first | go_end0 | (simp only [Exit.inBlock, Exit.then]; refine bodyPost_ret (results_none rfl _ _ _) rfl ?_) | refine bodyPost_ret (results_none rfl _ _ _) rfl ?_
  go_wp2
  go_end0
  exact ⟨rfl, rfl⟩

/-- the discount of rate r after k years -/
def disc (r : Int) : Nat → Int
  | 0 => 1000000000
  | k + 1 => disc r k * 1000 / (1000 + r)

/-- the first n discounts -/
def discs (r : Int) (n : Nat) : List Int := (List.range n).map (disc r)

theorem disc_bd (r : Int) (h : 0 ≤ r) (k : Nat) : 0 ≤ disc r k ∧ disc r k ≤ 1000000000 := by
  induction k with
  | zero => simp [disc]
  | succ k ih =>
    obtain ⟨h1, h2⟩ := ih
    rw [disc]
    refine ⟨Int.ediv_nonneg (by omega) (by omega), ?_⟩
    have h4 : disc r k * 1000 / (1000 + r) ≤ disc r k := by
      rw [← Int.mul_ediv_cancel (disc r k) (show (1000 + r) ≠ 0 by omega)]
      refine Int.ediv_le_ediv (by omega) ?_
      rw [Int.mul_ediv_cancel _ (by omega)]
      exact Int.mul_le_mul_of_nonneg_left (by omega) h1
    omega

theorem disc_le (r : Int) (h : 0 ≤ r) (k : Nat) : disc r (k + 1) ≤ disc r k := by
  obtain ⟨h1, h2⟩ := disc_bd r h k
  rw [disc, ← Int.mul_ediv_cancel (disc r k) (show (1000 + r) ≠ 0 by omega)]
  refine Int.ediv_le_ediv (by omega) ?_
  rw [Int.mul_ediv_cancel _ (by omega)]
  exact Int.mul_le_mul_of_nonneg_left (by omega) h1

theorem disc_q (r : Int) (h : 0 ≤ r) (k : Nat) : IntKind.i64.wrap ((disc r k * 1000).tdiv (1000 + r)) = disc r (k + 1) := by
  obtain ⟨h1, h2⟩ := disc_bd r h k
  obtain ⟨h3, h4⟩ := disc_bd r h (k + 1)
  rw [Int.tdiv_eq_ediv_of_nonneg (by omega)]
  exact IntWalk.i64_in _ (by rw [disc] at h3 h4; omega)

theorem discs_len (r : Int) (n : Nat) : (discs r n).length = n := by simp [discs]

theorem discs_get (r : Int) (n k : Nat) (h : k < n) : (discs r n).getD k 0 = disc r k := by
  simp [discs, List.getD, h]

theorem discs_set (r : Int) (k : Nat) (xs : List Int) (h : k < xs.length) : (discs r k ++ xs.drop k).set k (disc r k) = discs r (k + 1) ++ xs.drop (k + 1) := by
  rw [List.set_append_right _ _ (by rw [discs_len]; omega), discs_len, Nat.sub_self, List.drop_eq_getElem_cons h, List.set_cons_zero]
  simp [discs, List.range_succ]

/-- the cells of the program's discounts: the rate, whether they are computed, the lock, the discounts -/
def dcells (r d m : Int) (xs : List Int) : Array Value := (([Value.int .i64 r, Value.int .u32 d, Value.int .i32 m, Value.int .u32 0] : List Value) ++ xs.map (Value.int .i64)).toArray

def DBX (w : World) (B : Nat) (r d m : Int) (xs : List Int) : Prop := w.heap[B]? = some (.cells (dcells r d m xs) 116 (0, 0))

theorem DBX.lt {w : World} {B : Nat} {r d m : Int} {xs : List Int} (h : DBX w B r d m xs) : B < w.heap.size := by
  unfold DBX at h
  by_cases hb : B < w.heap.size
  · exact hb
  · have : w.heap[B]? = none := by simp; omega
    rw [this] at h; cases h

theorem DBX.rate {w : World} {B : Nat} {r d m : Int} {xs : List Int} (h : DBX w B r d m xs) : w.cell? ⟨B, 0, none⟩ = some (.int .i64 r) := by
  unfold DBX at h
  simp [World.cell?, h, dcells]

theorem DBX.done {w : World} {B : Nat} {r d m : Int} {xs : List Int} (h : DBX w B r d m xs) : w.cell? ⟨B, 1, none⟩ = some (.int .u32 d) := by
  unfold DBX at h
  simp [World.cell?, h, dcells]

theorem DBX.lock {w : World} {B : Nat} {r d m : Int} {xs : List Int} (h : DBX w B r d m xs) : w.cell? ⟨B, 2, none⟩ = some (.int .i32 m) := by
  unfold DBX at h
  simp [World.cell?, h, dcells]

theorem DBX.at {w : World} {B : Nat} {r d m : Int} {xs : List Int} (h : DBX w B r d m xs) (k : Nat) (hk : k < xs.length) : w.cell? ⟨B, 4 + k, none⟩ = some (.int .i64 (xs.getD k 0)) := by
  unfold DBX at h
  rw [Nat.add_comm]
  simp [World.cell?, h, dcells, List.getD, hk]

theorem DBX.free {w : World} {B : Nat} {r d m : Int} {xs : List Int} (h : DBX w B r d m xs) (i : Nat) : w.frozen? ⟨B, i, none⟩ = false := by
  unfold DBX at h
  simp [World.frozen?, h]

theorem DBX.setDone {w : World} {B : Nat} {r d m : Int} {xs : List Int} (h : DBX w B r d m xs) (v : Int) : DBX (w.setCell ⟨B, 1, none⟩ (.int .u32 v)) B r v m xs := by
  have hl := h.lt
  unfold DBX at h ⊢
  rw [Array.getElem?_eq_getElem hl] at h
  have h' : w.heap[B] = .cells (dcells r d m xs) 116 (0, 0) := by simpa using h
  show (w.heap.modify B _)[B]? = _
  rw [Array.getElem?_modify, if_pos rfl, Array.getElem?_eq_getElem hl, h']
  simp [dcells]

theorem DBX.setLock {w : World} {B : Nat} {r d m : Int} {xs : List Int} (h : DBX w B r d m xs) (v : Int) : DBX (w.setCell ⟨B, 2, none⟩ (.int .i32 v)) B r d v xs := by
  have hl := h.lt
  unfold DBX at h ⊢
  rw [Array.getElem?_eq_getElem hl] at h
  have h' : w.heap[B] = .cells (dcells r d m xs) 116 (0, 0) := by simpa using h
  show (w.heap.modify B _)[B]? = _
  rw [Array.getElem?_modify, if_pos rfl, Array.getElem?_eq_getElem hl, h']
  simp [dcells]

theorem DBX.setAt {w : World} {B : Nat} {r d m : Int} {xs : List Int} (h : DBX w B r d m xs) (k : Nat) (v : Int) : DBX (w.setCell ⟨B, 4 + k, none⟩ (.int .i64 v)) B r d m (xs.set k v) := by
  have hl := h.lt
  unfold DBX at h ⊢
  rw [Array.getElem?_eq_getElem hl] at h
  have h' : w.heap[B] = .cells (dcells r d m xs) 116 (0, 0) := by simpa using h
  show (w.heap.modify B _)[B]? = _
  rw [Array.getElem?_modify, if_pos rfl, Array.getElem?_eq_getElem hl, h', Nat.add_comm]
  simp [dcells]

theorem DBX.drew {w : World} {B : Nat} {r d m : Int} {xs : List Int} (h : DBX w B r d m xs) : DBX w.drew B r d m xs := h

theorem DBX.drewN {w : World} {B : Nat} {r d m : Int} {xs : List Int} (h : DBX w B r d m xs) (n : Nat) : DBX (w.drewN n) B r d m xs := h

def CompPost (B : Nat) (r d m : Int) (w : World) (e : Ending) (w' : World) : Prop := e = .returned (.tuple #[]) ∧ DBX w' B r d m (discs r 121) ∧ Only B w w'

theorem compute_any (B : Nat) (r d m : Int) (xs : List Int) (w : World) (hx : xs.length = 121) (h : DBX w B r d m xs) (h0 : 0 ≤ r) (h1 : r ≤ 200) :
    Calls Tryz.prog 102 #[.pointer (some ⟨B, 0, none⟩)] w (CompPost B r d m w) := by
  have H := Lib.hid h
  have HX := Lib.hid hx
  clear h hx
  go_enter Tryz.func102, Tryz.ntmps102
  go_wp2_with fail
  go_loopw [2, 4] (fun v i wr => ∃ k : Nat, k ≤ 121 ∧ i = .int .i64 k ∧ v = .int .i64 (disc r k) ∧ Hid (DBX wr B r d m (discs r k ++ xs.drop k)) ∧ Hid (Only B w wr)) (fun _ i _ => 121 - (intOf i).toNat)
  case atStart => exact ⟨0, by omega, rfl, rfl, Lib.hid (by simpa [discs] using H.out), Lib.hid (Only.refl _ _)⟩
  case round =>
    obtain ⟨k, hk, rfl, rfl, HB, HO⟩ := hrel
    by_cases hlt : k < 121
    · have hr := HB.out.rate
      have hy := HB.out.at k (by rw [List.length_append, discs_len, List.length_drop, HX.out]; omega)
      have hf := HB.out.free (4 + k)
      obtain ⟨u, hu⟩ : ∃ u, (discs r k ++ xs.drop k).getD k 0 = u := ⟨_, rfl⟩
      rw [hu] at hy
      clear hu
      obtain ⟨b1, b2⟩ := disc_bd r h0 k
      have hq := disc_q r h0 k
      obtain ⟨D, hD⟩ : ∃ D, disc r k = D := ⟨_, rfl⟩
      rw [hD] at b1 b2 hq ⊢
      have HD := Lib.hid hD
      clear hD
      have hB := HB.out.setAt k D
      have hr2 := hB.rate
      have HB2 := Lib.hid hB
      clear hB
      go_wp2_with fail
      go_roundw
      case rel => exact ⟨k + 1, by omega, by go_num, by first | rfl | go_num, Lib.hid (by have := HB2.out; rw [← HD.out, discs_set r k xs (by rw [HX.out]; exact hlt), HD.out] at this; exact this), Lib.hid (HO.out.setCell (p := ⟨B, 4 + k, none⟩) rfl _)⟩
      case measure => simp [intOf]; omega
    · go_wp2_with fail
      go_end0
      obtain rfl : k = 121 := by omega
      have hb := HB.out
      rw [List.drop_of_length_le (by rw [HX.out]; omega), List.append_nil] at hb
      exact ⟨rfl, hb, HO.out⟩

/-- what is left behind: the discounts of the block are computed; nothing else has turned -/
def OncePost (B : Nat) (r : Int) (w : World) (e : Ending) (w' : World) : Prop := e = .returned (.tuple #[]) ∧ DBX w' B r 1 0 (discs r 121) ∧ Only B w w'

theorem slow_any (B : Nat) (r : Int) (xs : List Int) (w : World) (hx : xs.length = 121) (h : DBX w B r 0 0 xs) (h0 : 0 ≤ r) (h1 : r ≤ 200) :
    Calls Tryz.prog 120 #[.pointer (some ⟨B, 1, none⟩), .func (.func 102) #[.pointer (some ⟨B, 0, none⟩)] #[]] w (OncePost B r w) := by
  have H := Lib.hid h
  have H1 := Lib.hid (h.setLock 1)
  have hl := run_call_load (P := Tryz.prog) Tryz.func129 (by kernel_rfl) (by kernel_rfl) (by kernel_rfl) .u32 (by kernel_rfl) (h.setLock 1).done
  have hnot : ∀ (x : Bool) (w : World), (Op.unary .not (.bool x)).run Tryz.prog w = .ok (.bool (!x)) w := fun _ _ => rfl
  have hk := h.lock
  have hz := h.free 2
  clear h
  go_enter_defers Tryz.func120, Tryz.ntmps120
  go_wp2_with (first | (go_at_call 130; refine (lock_free ⟨B, 2, none⟩ _ hk hz).mono ?_; rintro e w' ⟨rfl, rfl⟩) | (go_at_call 119; go_in) | (go_at_call 102; refine (compute_any B r 0 1 xs _ hx H1.out h0 h1).mono ?_; rintro e w2 ⟨rfl, hb, ho⟩))
  have HB := Lib.hid hb
  have HO := Lib.hid (((Only.refl B w).setCell (p := ⟨B, 2, none⟩) rfl (.int .i32 1)).trans ho)
  clear hb ho
  refine leaves_cons (f := 132) (args := #[.pointer (some ⟨B, 1, none⟩), .bool true]) (by simp) (by simp [go_sem]) ?_
  refine (store_deferred ⟨B, 1, none⟩ (.int .u32 0) .returning _ HB.out.done (HB.out.free 1)).mono ?_
  rintro e u' w'' ⟨rfl, rfl, rfl⟩
  refine leaves_cons (f := 131) (args := #[.pointer (some ⟨B, 2, none⟩)]) (by simp [settle]) (by simp [go_sem]) ?_
  refine (unlock_deferred ⟨B, 2, none⟩ _ _ (HB.out.drew.setDone 1).lock ((HB.out.drew.setDone 1).free 2)).mono ?_
  rintro e u' w'' ⟨rfl, rfl, rfl⟩
  have HF := Lib.hid ((HB.out.drew.setDone 1).setLock 0)
  have HG := Lib.hid ((HO.out.drew.setCell (p := ⟨B, 1, none⟩) rfl (.int .u32 1)).setCell (p := ⟨B, 2, none⟩) rfl (.int .i32 0))
  simp only [Leaves, settle, results, Tryz.results120]
  exact ⟨_, by simp, rfl, HF.out, HG.out⟩

theorem do_any (B : Nat) (r d : Int) (xs : List Int) (w : World) (hx : xs.length = 121) (h : DBX w B r d 0 xs) (hd : d = 0 ∨ d = 1 ∧ xs = discs r 121) (h0 : 0 ≤ r) (h1 : r ≤ 200) :
    Calls Tryz.prog 101 #[.pointer (some ⟨B, 1, none⟩), .func (.func 102) #[.pointer (some ⟨B, 0, none⟩)] #[]] w (OncePost B r w) := by
  have hl := run_call_load (P := Tryz.prog) Tryz.func129 (by kernel_rfl) (by kernel_rfl) (by kernel_rfl) .u32 (by kernel_rfl) h.done
  have hnot : ∀ (x : Bool) (w : World), (Op.unary .not (.bool x)).run Tryz.prog w = .ok (.bool (!x)) w := fun _ _ => rfl
  have H := Lib.hid h
  clear h
  rcases hd with rfl | ⟨rfl, hd⟩
  · go_enter Tryz.func101, Tryz.ntmps101
    go_wp2_with (first | (go_at_call 120; refine (slow_any B r xs _ hx H.out h0 h1).mono ?_; rintro e w2 ⟨rfl, hb, ho⟩) | (go_at_call 119; go_in))
    go_end0
    exact ⟨rfl, hb, ho⟩
  · have HD := Lib.hid hd
    clear hd
    have hn : ((1 : Int) != 0) = true := rfl
    go_enter Tryz.func101, Tryz.ntmps101
    go_wp2
    go_end0
    exact ⟨rfl, HD.out ▸ H.out, Only.refl _ _⟩

/-- block B holds the discounts of rate r, computed or not yet -/
def DB (w : World) (B : Nat) (r : Int) : Prop := ∃ (d : Int) (xs : List Int), xs.length = 121 ∧ DBX w B r d 0 xs ∧ (d = 0 ∨ d = 1 ∧ xs = discs r 121)

def AfterPost (B : Nat) (r v : Int) (w : World) (e : Ending) (w' : World) : Prop := e = .returned (.int .i64 v) ∧ DB w' B r ∧ Only B w w'

theorem after_any (B : Nat) (r : Int) (k : Nat) (w : World) (h : DB w B r) (h0 : 0 ≤ r) (h1 : r ≤ 200) (hk : k ≤ 120) :
    Calls Tryz.prog 81 #[.pointer (some ⟨B, 0, none⟩), .int .i64 k] w (AfterPost B r (disc r k) w) := by
  obtain ⟨d, xs, hx, hb, hd⟩ := h
  have H := Lib.hid hb
  clear hb
  have hmf : ∀ (fn : Fn) (first cap : Array Value) (w : World), (Instr.makeFunc fn first cap).run Tryz.prog w = .ok (.func fn first cap) w := fun _ _ _ _ => rfl
  go_enter Tryz.func81, Tryz.ntmps81
  go_wp2_with fail
  refine (do_any B r d xs _ hx H.out hd h0 h1).mono ?_
  rintro e w2 ⟨rfl, hb, ho⟩
  have hy := hb.at k (by rw [discs_len]; omega)
  rw [discs_get r 121 k (by omega)] at hy
  have HB := Lib.hid hb
  have HO := Lib.hid ho
  clear hb ho
  obtain ⟨D, hD⟩ : ∃ D, disc r k = D := ⟨_, rfl⟩
  rw [hD] at hy
  have HD := Lib.hid hD
  clear hD
  go_wp2
  go_ret
  exact ⟨ret_int HD.out.symm, ⟨1, discs r 121, discs_len r 121, HB.out, .inr ⟨rfl, rfl⟩⟩, HO.out⟩

end Go.Proofs.YtpdmbmfjeankbaaGreatDoor

/- A product divided exactly: the model's way, bit by bit. -/
namespace Go.Proofs.YtpdmbmfjeankbaaGreatDoor
open Go.ChangeShapes Go.WideShapes Go.ChangeAt Go.RowKit
set_option linter.unusedVariables false
set_option maxRecDepth 100000

def mdQ (a b c : Int) : Int := if a * b / c ≤ 1000000000000000000 then a * b / c else 2000000000000000000
def mdR (a b c : Int) : Int := if a * b / c ≤ 1000000000000000000 then a * b % c else 0

/-- one more bit of the first factor -/
theorem md_step (A D d b c q r B1 B2 U1 U2 : Int) (hI : A * b = q * c + r) (hD : D = 2 * A + d) (hB : c * B1 + B2 = b) (hU : c * U1 + U2 = 2 * r + d * B2) :
    D * b = (2 * q + d * B1 + U1) * c + U2 := by
  have e1 : D * b = 2 * (A * b) + d * b := by rw [hD, Int.add_mul, Int.mul_assoc]
  have e2 : d * b = d * (c * B1) + d * B2 := by rw [← Int.mul_add, hB]
  have e3 : (2 * q + d * B1 + U1) * c = 2 * (q * c) + d * (c * B1) + c * U1 := by
    rw [Int.add_mul, Int.add_mul, Int.mul_assoc, Int.mul_assoc, Int.mul_comm B1 c, Int.mul_comm U1 c]
  rw [e1, e2, e3, hI]
  omega

theorem md_uniq (p c q r : Int) (h : p = q * c + r) (r0 : 0 ≤ r) (r1 : r < c) : p / c = q ∧ p % c = r := by
  subst h
  constructor
  · rw [Int.add_comm, Int.add_mul_ediv_right _ _ (by omega), Int.ediv_eq_zero_of_lt r0 r1]; omega
  · rw [Int.add_comm, Int.add_mul_emod_self_right, Int.emod_eq_of_lt r0 r1]

theorem md_small (a b c : Int) (h : a * b / c ≤ 1000000000000000000) : mdQ a b c = a * b / c ∧ mdR a b c = a * b % c := by simp [mdQ, mdR, h]

theorem md_large (a b c : Int) (h : 1000000000000000000 < a * b / c) : mdQ a b c = 2000000000000000000 ∧ mdR a b c = 0 := by
  have h' : ¬ a * b / c ≤ 1000000000000000000 := by omega
  simp only [mdQ, mdR, if_neg h', and_self]

/-- a quotient that is too great already stays so -/
theorem md_over (a b c D q r : Int) (h : D * b = q * c + r) (hD : D ≤ a) (b0 : 0 ≤ b) (c0 : 1 ≤ c) (r0 : 0 ≤ r) (hq : 1000000000000000000 < q) : 1000000000000000000 < a * b / c := by
  have h1 : D * b ≤ a * b := Int.mul_le_mul_of_nonneg_right hD b0
  have h2 : q ≤ a * b / c := Int.le_ediv_of_mul_le (by omega) (by omega)
  omega

theorem div_bit (a : Int) (t : Nat) (a0 : 0 ≤ a) : a / 2 ^ t = 2 * (a / 2 ^ (t + 1)) + a / 2 ^ t % 2 := by
  have h : a / 2 ^ (t + 1) = a / 2 ^ t / 2 := by
    rw [Int.pow_succ, Int.ediv_ediv_of_nonneg]
    exact Int.pow_nonneg (by omega)
  rw [h]; omega

theorem div_le_self' (a : Int) (t : Nat) (a0 : 0 ≤ a) : 0 ≤ a / 2 ^ t ∧ a / 2 ^ t ≤ a :=
  ⟨Int.ediv_nonneg a0 (Int.pow_nonneg (by omega)), Int.ediv_le_self _ a0⟩

set_option maxHeartbeats 1000000 in
theorem sdiv_any (a b c : Int) (w : World) (a0 : 0 ≤ a) (a1 : a ≤ 1000000000000) (b0 : 0 ≤ b) (b1 : b ≤ 1000000000000000000) (c0 : 1 ≤ c) (c1 : c ≤ 1000000000000000000) :
    Calls Tryz.prog 53 #[.int .i64 a, .int .i64 b, .int .i64 c] w fun e w' => e = .returned (.tuple #[.int .i64 (mdQ a b c), .int .i64 (mdR a b c)]) ∧ w = w' := by
  have H0 : Hid (a / 2 ^ 42 * b = 0 * c + 0) := Lib.hid (by rw [Int.ediv_eq_zero_of_lt a0 (by omega)]; simp)
  go_enter Tryz.func53, Tryz.ntmps53
  go_wp2_with fail
  go_loop [8, 9, 10] (fun x y i => ∃ (s : Nat) (q r : Int), s ≤ 42 ∧ i = .int .i64 ((s : Int) - 1) ∧ x = .int .i64 q ∧ y = .int .i64 r ∧ 0 ≤ q ∧ q ≤ 1000000000000000000 ∧ 0 ≤ r ∧ r < c ∧ Hid (a / 2 ^ s * b = q * c + r)) (fun _ _ i => (intOf i + 1).toNat)
  case atStart => exact ⟨42, 0, 0, by omega, rfl, rfl, rfl, by omega, by omega, by omega, by omega, H0⟩
  case round =>
    clear H0
    obtain ⟨s, q, r, s1, rfl, rfl, rfl, q0, q1, r0, r1, HI⟩ := hrel
    by_cases hs : 0 < s
    · obtain ⟨t, rfl⟩ : ∃ t, s = t + 1 := ⟨s - 1, by omega⟩
      rw [show ((t + 1 : Nat) : Int) - 1 = (t : Int) by omega]
      have hcz : c ≠ 0 := by omega
      have hbit := div_bit a t a0
      obtain ⟨d0, d1⟩ := div_le_self' a t a0
      obtain ⟨A, hA⟩ : ∃ A, a / 2 ^ (t + 1) = A := ⟨_, rfl⟩
      obtain ⟨D, hD⟩ : ∃ A, a / 2 ^ t = A := ⟨_, rfl⟩
      rw [hA, hD] at hbit
      rw [hA] at HI
      rw [hD] at d0 d1
      obtain ⟨B1, hB1⟩ : ∃ B, b / c = B := ⟨_, rfl⟩
      obtain ⟨B2, hB2⟩ : ∃ B, b % c = B := ⟨_, rfl⟩
      have hB := Int.mul_ediv_add_emod b c
      have hB0 : 0 ≤ B1 := by rw [← hB1]; exact Int.ediv_nonneg b0 (by omega)
      have hB3 : B1 ≤ 1000000000000000000 := by rw [← hB1]; exact Int.le_trans (Int.ediv_le_self _ b0) b1
      have hB4 : 0 ≤ B2 := by rw [← hB2]; exact Int.emod_nonneg _ hcz
      have hB5 : B2 < c := by rw [← hB2]; exact Int.emod_lt_of_pos _ (by omega)
      rw [hB1, hB2] at hB
      have HBB := Lib.hid hB
      have HDD := Lib.hid hbit
      clear hB hbit hA
      have htm : D.tmod 2 = D % 2 := Int.tmod_eq_emod_of_nonneg d0
      by_cases hd : D % 2 = 1
      · obtain ⟨U1, hU1⟩ : ∃ B, (2 * r + B2) / c = B := ⟨_, rfl⟩
        obtain ⟨U2, hU2⟩ : ∃ B, (2 * r + B2) % c = B := ⟨_, rfl⟩
        have hU := Int.mul_ediv_add_emod (2 * r + B2) c
        have hU0 : 0 ≤ U1 := by rw [← hU1]; exact Int.ediv_nonneg (by omega) (by omega)
        have hU3 : U1 ≤ 2 := Int.lt_add_one_iff.1 (by rw [← hU1]; exact Int.ediv_lt_of_lt_mul (by omega) (by omega))
        have hU4 : 0 ≤ U2 := by rw [← hU2]; exact Int.emod_nonneg _ hcz
        have hU5 : U2 < c := by rw [← hU2]; exact Int.emod_lt_of_pos _ (by omega)
        rw [hU1, hU2] at hU
        have HS := Lib.hid (md_step A D 1 b c q r B1 B2 U1 U2 HI.out (by have := HDD.out; omega) HBB.out (by omega))
        clear hU
        by_cases hov : 1000000000000000000 < 2 * q + B1 + U1
        · have HO := Lib.hid (md_over a b c D (2 * q + B1 + U1) U2 (by have := HS.out; rw [Int.one_mul] at this; exact this) d1 b0 c0 hU4 hov)
          go_wp2_with fail
          go_ret2
          obtain ⟨e1, e2⟩ := md_large a b c HO.out
          rw [e1, e2]
          exact ⟨rfl, rfl⟩
        · have HS := Lib.hid (show D * b = (2 * q + B1 + U1) * c + U2 by have := HS.out; rw [Int.one_mul] at this; exact this)
          have HDt := Lib.hid hD
          go_wp2_with fail
          go_round
          case rel => exact ⟨t, _, _, by omega, rfl, rfl, rfl, by omega, by omega, by omega, by omega, Lib.hid (by rw [HDt.out, hU2]; exact HS.out)⟩
          case measure => simp [intOf]
      · have hd2 : D % 2 = 0 := by omega
        obtain ⟨U1, hU1⟩ : ∃ B, (2 * r) / c = B := ⟨_, rfl⟩
        obtain ⟨U2, hU2⟩ : ∃ B, (2 * r) % c = B := ⟨_, rfl⟩
        have hU := Int.mul_ediv_add_emod (2 * r) c
        have hU0 : 0 ≤ U1 := by rw [← hU1]; exact Int.ediv_nonneg (by omega) (by omega)
        have hU3 : U1 ≤ 2 := Int.lt_add_one_iff.1 (by rw [← hU1]; exact Int.ediv_lt_of_lt_mul (by omega) (by omega))
        have hU4 : 0 ≤ U2 := by rw [← hU2]; exact Int.emod_nonneg _ hcz
        have hU5 : U2 < c := by rw [← hU2]; exact Int.emod_lt_of_pos _ (by omega)
        rw [hU1, hU2] at hU
        have HS := Lib.hid (md_step A D 0 b c q r B1 B2 U1 U2 HI.out (by have := HDD.out; omega) HBB.out (by omega))
        clear hU
        have HS := Lib.hid (show D * b = (2 * q + U1) * c + U2 by have := HS.out; rw [Int.zero_mul, Int.add_zero] at this; exact this)
        by_cases hov : 1000000000000000000 < 2 * q + U1
        · have HO := Lib.hid (md_over a b c D (2 * q + U1) U2 HS.out d1 b0 c0 hU4 hov)
          go_wp2_with fail
          go_ret2
          obtain ⟨e1, e2⟩ := md_large a b c HO.out
          rw [e1, e2]
          exact ⟨rfl, rfl⟩
        · have HDt := Lib.hid hD
          go_wp2_with fail
          go_round
          case rel => exact ⟨t, _, _, by omega, rfl, rfl, rfl, by omega, by omega, by omega, by omega, Lib.hid (by rw [HDt.out, hU2]; exact HS.out)⟩
          case measure => simp [intOf]
    · obtain rfl : s = 0 := by omega
      have HE := Lib.hid (md_uniq (a * b) c q r (by have := HI.out; rw [Int.pow_zero, Int.ediv_one] at this; exact this) r0 r1)
      go_wp2_with fail
      go_ret2
      obtain ⟨e1, e2⟩ := HE.out
      obtain ⟨e3, e4⟩ := md_small a b c (by omega)
      rw [e3, e4, e1, e2]
      exact ⟨rfl, rfl⟩

end Go.Proofs.YtpdmbmfjeankbaaGreatDoor

/- The draws of chapter 4: numbers, and a list with a rate, whatever they are. -/
namespace Go.Proofs.YtpdmbmfjeankbaaGreatDoor
open Go.ChangeShapes Go.WideShapes Go.ChangeAt Go.RowKit
set_option linter.unusedVariables false
set_option maxRecDepth 100000

theorem bigI_any (a : Option Addr) (l c : Nat) (w : World) : Calls Tryz.prog 4 #[.slice a l c] w fun e w' => e = .returned (.bool (decide (4096 < (l : Int)))) ∧ w = w' := by
  go_enter Tryz.func4, Tryz.ntmps4
  go_wp2
  go_ret
  exact ⟨rfl, rfl⟩

theorem rate_r (B : Nat) (a : Option Addr) (l c : Nat) (z : List Int) (w : World) (h : Ready B a l c z w) :
    Calls Tryz.prog 41 #[.pointer (some ⟨B, 0, none⟩)] w (NumPost B a l c z Any w) := by
  have HS := Lib.hid h
  have HO := Lib.hid (But.refl B w)
  clear h
  go_enter Tryz.func41, Tryz.ntmps41
  go_wp2_with (first | (go_at_call 21; refine (next_r _ _ _ _ _ _ _ HS.out).mono ?_; rintro e w1 ⟨r, rfl, hd, ho, hs⟩; have HO := Lib.hid (HO.out.trans ho); have HS := Lib.hid hs; clear ho hs hd) | (go_at_call 22; ((with_reducible refine (pick4 B _ _ _ _ _ _ HS.out).mono ?_); rintro e w1 ⟨r, rfl, hd, ho, hs⟩; have HO := Lib.hid (HO.out.trans ho); have HS := Lib.hid hs; clear ho hs hd)) | (go_at_call 22; ((with_reducible refine (pick5 B _ _ _ _ _ _ _ HS.out).mono ?_); rintro e w1 ⟨r, rfl, hd, ho, hs⟩; have HO := Lib.hid (HO.out.trans ho); have HS := Lib.hid hs; clear ho hs hd)))
  all_goals
    go_ret
    exact ⟨_, rfl, trivial, HO.out, HS.out⟩

def ThreePost (w : World) (e : Ending) (w' : World) : Prop := ∃ x y z, e = .returned (.tuple #[.int .i64 x, .int .i64 y, .int .i64 z]) ∧ Below w.heap.size w w'

/-! ### a list and a rate -/

def LrPost (w : World) (e : Ending) (w' : World) : Prop := ∃ a l c xs r, e = .returned (.tuple #[.slice a l c, .int .i64 r]) ∧ Ints w' a l xs ∧ l ≤ 4096 ∧ Below w.heap.size w w'

def zeroL (l : Nat) : Obj := .cells ((List.replicate l (0 : Int)).map (Value.int .i64)).toArray 2

theorem make_zeroL (l : Nat) (n : Int) (h : n = l) (hl : l ≤ 1048576) (w : World) :
    (Instr.makeSlice 24 (.int .i64 n) (.int .i64 n)).run Tryz.prog w = .ok (.slice (some ⟨w.heap.size, 0, none⟩) l l) (w.alloc (zeroL l)) := by
  subst h; exact make_ints l hl w

theorem Blk.newL (w : World) (l : Nat) : Blk (w.alloc (zeroL l)) w.heap.size (List.replicate l 0) := Blk.new w (List.replicate l 0)

theorem one_newD (w : World) (x : Int) : ∀ j u, [Value.int .i64 x][j]? = some u → (w.alloc (.cells #[.int .i64 x] 2)).cell? ((⟨w.heap.size, 0, none⟩ : Addr).add j) = some u := by
  intro j u hj
  match j, hj with
  | 0, hj => simp at hj; subst hj; simp [Addr.add]

theorem OwnI.alloc4 {base : Nat} {w : World} {v : Value} {xs : List Int} (h : OwnI base w v xs) (o : Obj) : OwnI base (w.alloc o) v xs := h.same fun k _ hl => Below.heap_alloc _ _ _ hl

/-- a list keeps its numbers while the source of the draws turns -/
theorem Ints.but4 {w w' : World} {a : Option Addr} {l B : Nat} {xs : List Int} (h : Ints w a l xs) (ho : But B w w') (hne : ∀ x, a = some x → x.block ≠ B) : Ints w' a l xs := by
  have hlt := h.lt
  obtain ⟨h1, h2, h3⟩ := h
  refine ⟨h1, h2, ?_⟩
  rcases h3 with h0 | ⟨b, off, rfl, hc⟩
  · exact .inl h0
  · by_cases hl : l = 0
    · exact .inl hl
    · exact .inr ⟨b, off, rfl, fun i hi => by rw [ho.cell (p := ⟨b, off + i, none⟩) (hlt ⟨b, off, none⟩ rfl (by omega)) (hne ⟨b, off, none⟩ rfl)]; exact hc i hi⟩

theorem OwnI.ints4 {base : Nat} {w : World} {v : Value} {xs : List Int} (h : OwnI base w v xs) (hm : xs.length ≤ 4096) : ∃ a c, v = .slice a xs.length c ∧ Ints w a xs.length xs ∧ ∀ x, a = some x → base ≤ x.block := by
  have hh := h
  obtain ⟨h0, ⟨rfl, hn⟩ | ⟨g, cap, cur, rfl, hg, hb, r⟩⟩ := h
  · rw [hn]
    exact ⟨none, 0, rfl, ⟨by simpa using hn, by omega, .inl rfl⟩, fun x hx => by cases hx⟩
  · refine ⟨_, cap, rfl, ⟨rfl, by omega, .inr ⟨g, 0, rfl, fun i hi => ?_⟩⟩, fun x hx => by cases hx; exact hg⟩
    rw [Nat.zero_add, hh.cellAt i (by omega)]
    simp [List.getD, hi]

end Go.Proofs.YtpdmbmfjeankbaaGreatDoor
