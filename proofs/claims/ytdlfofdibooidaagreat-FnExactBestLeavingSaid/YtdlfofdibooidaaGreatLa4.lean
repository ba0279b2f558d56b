/- Merged: DrawS, MdS, Pom. -/
import Derived.Test.YtdlfofdibooidaaGreatLa1
import Derived.Test.YtdlfofdibooidaaGreatLa3

/- The model's draws of lists: what each gives; lists that are appended to. | append onto a list of the call's own that stands beside another. | Lists of integers that a call has handed over, nil or cells of a block: they may be written, marked, looked at again. -/
namespace Go.Proofs.YtdlfofdibooidaaGreat
open Go.ChangeShapes Go.WideShapes Go.ChangeAt Go.RowKit
set_option linter.unusedVariables false

/-- a slice of integers of the call's own, in blocks from 'base' on -/
def OwnI (base : Nat) (w : World) (v : Value) (xs : List Int) : Prop := w.ownsRow base 2 1 v xs.length (xs.map (Value.int .i64))

theorem infoI : (Tryz.prog.info? 2).map (fun i => (i.zero, i.size, i.bytes)) = some (some (.int .i64 0), 1, 8) := by kernel_rfl

theorem ownI_new (w : World) : OwnI w.heap.size (w.alloc (.cells #[] 2)) (.slice (some ⟨w.heap.size, 0, none⟩) 0 0) [] :=
  World.ownsRow_lit w #[] 0 (Nat.le_refl _) (Nat.zero_le _) rfl

theorem OwnI.same {base : Nat} {w w' : World} {v : Value} {xs : List Int} (h : OwnI base w v xs) (hb : ∀ k, base ≤ k → k < w.heap.size → w'.heap[k]? = w.heap[k]?) : OwnI base w' v xs := by
  obtain ⟨h0, h1 | ⟨g, cap, cur, hv, hg, hh, r⟩⟩ := h
  · exact ⟨h0, .inl h1⟩
  · have hlt : g < w.heap.size := by
      by_cases hl : g < w.heap.size
      · exact hl
      · have : w.heap[g]? = none := by simp; omega
        rw [this] at hh; cases hh
    exact ⟨h0, .inr ⟨g, cap, cur, hv, hg, by rw [hb g hg hlt]; exact hh, r⟩⟩

theorem OwnI.but {base B : Nat} {w w' : World} {v : Value} {xs : List Int} (h : OwnI base w v xs) (hb : But B w w') (hB : B < base) : OwnI base w' v xs :=
  h.same fun k hk hl => hb.block k hl (by omega)

theorem OwnI.mono {base b2 : Nat} {w : World} {v : Value} {xs : List Int} (h : OwnI base w v xs) (hb : b2 ≤ base) : OwnI b2 w v xs := by
  obtain ⟨h0, h1 | ⟨g, cap, cur, hv, hg, hh, r⟩⟩ := h
  · exact ⟨h0, .inl h1⟩
  · exact ⟨h0, .inr ⟨g, cap, cur, hv, by omega, hh, r⟩⟩

/-- its shape, and what it reads as -/
theorem OwnI.ints {base : Nat} {w : World} {v : Value} {xs : List Int} (h : OwnI base w v xs) (hm : xs.length ≤ 4611686018427387904) : ∃ a c, v = .slice a xs.length c ∧ Ints w a xs.length xs := by
  have hh := h
  obtain ⟨h0, ⟨rfl, hn⟩ | ⟨g, cap, cur, rfl, hg, hb, r⟩⟩ := h
  · rw [hn]
    exact ⟨none, 0, rfl, by simpa using hn, by omega, .inl rfl⟩
  · refine ⟨_, cap, rfl, rfl, hm, .inr ⟨g, 0, rfl, fun i hi => ?_⟩⟩
    rw [Nat.zero_add, hh.cellAt i (by omega)]
    simp [List.getD, hi]

theorem ownI_step {base : Nat} {wr w1 : World} {v v' : Value} {xs : List Int} {x : Int} {o : Obj} (hown : OwnI base wr v xs) (hbs : base ≤ wr.heap.size)
    (hown' : w1.ownsRow base 2 1 v' (xs.length + 1) (xs.map (Value.int .i64) ++ [.int .i64 x])) (hg : (wr.alloc o).grownBy w1 v.ownBlock) :
    OwnI base w1 v' (xs ++ [x]) ∧ Below base wr w1 := by
  constructor
  · unfold OwnI
    rw [List.length_append, List.length_singleton, List.map_append]
    exact hown'
  · exact ((Below.refl _ _).alloc hbs o).grown hg (by simp; omega) fun k hk => (hown.lt k hk).1

/-- a slice of numbers that a draw gives: whatever it holds -/
def ListPost (w : World) (e : Ending) (w' : World) : Prop := ∃ a l c xs, e = .returned (.slice a l c) ∧ Ints w' a l xs ∧ l ≤ 4096 ∧ Below w.heap.size w w'

theorem make_lit (l : Nat) (n : Int) (h : n = l) (hl : l ≤ 1048576) (w : World) :
    (Instr.makeSlice 24 (.int .i64 n) (.int .i64 n)).run Tryz.prog w = .ok (.slice (some ⟨w.heap.size, 0, none⟩) l l) (w.alloc (.cells ((List.replicate l (0 : Int)).map (Value.int .i64)).toArray 2)) := by
  subst h; exact make_ints l hl w

theorem made_list {w w4 : World} (l : Nat) (hl : l ≤ 4096) (hb : Below w.heap.size w w4) :
    ListPost w (.returned (.slice (some ⟨w4.heap.size, 0, none⟩) l l)) (w4.alloc (.cells ((List.replicate l (0 : Int)).map (Value.int .i64)).toArray 2)) :=
  ⟨_, l, l, List.replicate l 0, rfl, (Blk.new w4 _).ints (by simp) (by omega), hl, hb.trans ((Below.refl _ _).alloc hb.size _)⟩

theorem ok_value {α : Type} {v v' : α} {w w' : World} (h : (Result.ok v w : Result α) = .ok v' w') : v = v' := by cases h; rfl

/-- where the list lies behind an append: in its own block still, or in a new one -/
theorem append_where {w : World} {base : Nat} {v : Value} {xs : List Int} (ad : Addr) (y : Int) (hown : OwnI base w v xs) (hc : ∀ j u, [Value.int .i64 y][j]? = some u → w.cell? (ad.add j) = some u) (hlen : xs.length ≤ 4096) (hbase : base ≤ w.heap.size)
    (v' : Value) (w' : World) (ty : TypeId) (hr : (Builtin.append_ #[24, 24] ty #[v, .slice (some ad) 1 1]).run Tryz.prog w = .ok v' w') : v'.ownBlock = v.ownBlock ∨ v'.ownBlock = some w.heap.size := by
  obtain ⟨i0, hi, hz0, hz1, hz2⟩ := info_parts infoI
  have hm : maxLen = maxLen := rfl
  unfold maxLen at hm
  have hh := hown
  rcases hown.2 with ⟨rfl, hn⟩ | ⟨g, cap, cur, rfl, hbg, hg, hnc, hcm, hcs, htake⟩
  · right
    have h0 := run_append_nil (P := Tryz.prog) w 24 ty 2 i0 (.int .i64 0) Tryz.underlying24 hi hz0 ad 1 1 [.int .i64 y] (by rw [hz1]; rfl) hc (by omega) (by omega) (by rw [hz2]; omega)
    rw [h0] at hr
    rw [← ok_value hr]; rfl
  · by_cases hroom : xs.length + 1 ≤ cap
    · left
      have h0 := run_append_room (P := Tryz.prog) w 24 ty 2 i0 Tryz.underlying24 hi g xs.length cap cur hg ad 1 1 [.int .i64 y] (by rw [hz1]; rfl) hc (by intro u hu; simp at hu; subst hu; rfl) hroom (by rw [hz1, hcs]; simp; omega)
      rw [h0] at hr
      rw [← ok_value hr]; rfl
    · right
      have holds := World.ownsRow.cells hh (g := g) rfl
      have h0 := run_append_grow (P := Tryz.prog) w 24 ty 2 i0 (.int .i64 0) Tryz.underlying24 hi hz0 ⟨g, 0, none⟩ xs.length cap (xs.map (Value.int .i64)) (by rw [hz1]; simp) holds ad 1 1 [.int .i64 y] (by rw [hz1]; rfl) hc (by omega) (by omega) (growslice_fits (by omega) (by rw [hz2]; omega))
      rw [h0] at hr
      rw [← ok_value hr]; rfl

theorem wpList_app {w : World} {ops : Array Oper} {rest : List Oper} {o : Oper} {a : Act} {Q : Exit → Act → World → Prop} (hgd : o.guard = none) (s x : Operand)
    (ho : o.op = .call { callee := .builtin .append, args := #[s, x], argTypes := #[24, 24] })
    (base : Nat) (v : Value) (xs : List Int) (y : Int) (hs : a.eval s = v) (hown : OwnI base w v xs) (ad : Addr) (hx : a.eval x = .slice (some ad) 1 1) (hc : ∀ j u, [Value.int .i64 y][j]? = some u → w.cell? (ad.add j) = some u)
    (hlen : xs.length ≤ 4096) (hbase : base ≤ w.heap.size)
    (h : ∀ v' w', OwnI base w' v' (xs ++ [y]) → w.grownBy w' v.ownBlock → (v'.ownBlock = v.ownBlock ∨ v'.ownBlock = some w.heap.size) → wpList Tryz.prog ops Q rest (a.put o.dst v') w') : wpList Tryz.prog ops Q (o :: rest) a w := by
  obtain ⟨i0, hi, hz0, hz1, hz2⟩ := info_parts infoI
  have hm : maxLen = maxLen := rfl
  unfold maxLen at hm
  obtain ⟨v', w', hr, h2, h3, h4⟩ := run_append_own (P := Tryz.prog) w base 24 o.type 2 i0 (.int .i64 0) 1 8 Tryz.underlying24 hi hz0 hz1 hz2 rfl (by decide) v xs.length (xs.map (Value.int .i64)) hown ad 1 1 [.int .i64 y] rfl hc (by intro u hu; simp at hu; subst hu; rfl) (by unfold maxLen; omega) (by omega) hbase
  have h5 := append_where ad y hown hc hlen hbase v' w' o.type hr
  have h6 : OwnI base w' v' (xs ++ [y]) := by
    unfold OwnI
    rw [List.length_append, List.length_singleton, List.map_append]
    exact h2
  refine wpList_plain hgd fun _ hK => ?_
  unfold Oper.wp execOp
  simp only [ho, resolve, invoke, builtin, Sem.run_bind, Sem.run_pure, Result.andThen_ok, List.map_toArray, List.map_cons, List.map_nil, hs, hx, hr]
  exact hK _ _ (h v' w' h6 h3 h5)

/-- cells of a block that may be written -/
structure RowI (w : World) (g off : Nat) (ys : List Int) : Prop where
  cell : ∀ i, i < ys.length → w.cell? ⟨g, off + i, none⟩ = some (.int .i64 (ys.getD i 0))
  free : ∀ i, i < ys.length → w.frozen? ⟨g, off + i, none⟩ = false

theorem RowI.below {w w1 : World} {g off B : Nat} {ys : List Int} (h : RowI w g off ys) (hb : Below B w w1) (hg : g < B) : RowI w1 g off ys :=
  ⟨fun i hi => (hb.cell (p := ⟨g, off + i, none⟩) hg).trans (h.cell i hi), fun i hi => (hb.frozen (p := ⟨g, off + i, none⟩) hg).trans (h.free i hi)⟩

theorem RowI.lt {w : World} {g off : Nat} {ys : List Int} (h : RowI w g off ys) (hl : 0 < ys.length) : g < w.heap.size := block_lt (h.cell 0 hl)

theorem RowI.on {w w1 : World} {g off : Nat} {ys : List Int} (h : RowI w g off ys) (hb : Below w.heap.size w w1) : RowI w1 g off ys := by
  by_cases hl : 0 < ys.length
  · exact h.below hb (h.lt hl)
  · exact ⟨fun i hi => by omega, fun i hi => by omega⟩

theorem RowI.only {w w1 : World} {g off B : Nat} {ys : List Int} (h : RowI w g off ys) (hb : Only B w w1) (hg : g ≠ B) : RowI w1 g off ys :=
  ⟨fun i hi => (hb.cell (p := ⟨g, off + i, none⟩) hg).trans (h.cell i hi), fun i hi => (hb.frozen (p := ⟨g, off + i, none⟩) hg).trans (h.free i hi)⟩

theorem RowI.ints {w : World} {g off l : Nat} {ys : List Int} (h : RowI w g off ys) (hl : ys.length = l) (hm : l ≤ 4611686018427387904) : Ints w (some ⟨g, off, none⟩) l ys :=
  ⟨hl, hm, .inr ⟨g, off, rfl, fun i hi => h.cell i (by omega)⟩⟩

theorem OwnI.row {base g c : Nat} {w : World} {xs : List Int} (h : OwnI base w (.slice (some ⟨g, 0, none⟩) xs.length c) xs) : RowI w g 0 xs := by
  have hh := h
  obtain ⟨_, h0 | ⟨g', cap, cur, hv, _, hb, _⟩⟩ := h
  · exact absurd h0.1 (by simp)
  · simp only [Value.slice.injEq, Option.some.injEq, Addr.mk.injEq] at hv
    obtain ⟨⟨rfl, _⟩, _⟩ := hv
    refine ⟨fun i hi => ?_, fun i _ => frozen_of_row w _ _ _ _ hb⟩
    rw [Nat.zero_add, hh.cellAt i (by omega)]
    simp [List.getD, hi]

/-- a list that a call has handed over: nil, or cells of a block from 'base' on -/
def TbR (base : Nat) (w : World) (a : Option Addr) (n : Nat) (ys : List Int) : Prop :=
  ys.length = n ∧ n ≤ 4096 ∧ ((a = none ∧ n = 0) ∨ ∃ g off, a = some ⟨g, off, none⟩ ∧ base ≤ g ∧ g < w.heap.size ∧ RowI w g off ys)

theorem TbR.ints {base n : Nat} {w : World} {a : Option Addr} {ys : List Int} (h : TbR base w a n ys) : Ints w a n ys := by
  obtain ⟨h1, h2, ⟨rfl, rfl⟩ | ⟨g, off, rfl, _, _, hr⟩⟩ := h
  · exact ⟨h1, by omega, .inl rfl⟩
  · exact hr.ints h1 (by omega)

/-- of what was there only a's block may have turned -/
structure ButA (a : Option Addr) (w w' : World) : Prop where
  os : w'.os = w.os
  tape : w'.tape = w.tape
  output : w'.output = w.output
  size : w.heap.size ≤ w'.heap.size
  block : ∀ k, k < w.heap.size → (∀ x, a = some x → x.block ≠ k) → w'.heap[k]? = w.heap[k]?

theorem below_butA {a : Option Addr} {w w' : World} (h : Below w.heap.size w w') : ButA a w w' := ⟨h.os, h.tape, h.output, h.size, fun k hk _ => h.block k hk⟩

theorem ButA.trans {a : Option Addr} {w1 w2 w3 : World} (h : ButA a w1 w2) (k : ButA a w2 w3) : ButA a w1 w3 :=
  ⟨k.os.trans h.os, k.tape.trans h.tape, k.output.trans h.output, Nat.le_trans h.size k.size, fun i hi hb => (k.block i (Nat.lt_of_lt_of_le hi h.size) hb).trans (h.block i hi hb)⟩

theorem TbR.far {base n : Nat} {w : World} {a : Option Addr} {ys : List Int} (h : TbR base w a n ys) : ∀ x, a = some x → base ≤ x.block ∧ x.block < w.heap.size := by
  intro x hx
  obtain ⟨_, _, ⟨rfl, _⟩ | ⟨g, off, rfl, hb, hg, _⟩⟩ := h
  · cases hx
  · cases hx; exact ⟨hb, hg⟩

theorem ButA.low {a : Option Addr} {B : Nat} {w w' : World} (h : ButA a w w') (ha : ∀ x, a = some x → B ≤ x.block) (hB : B ≤ w.heap.size) : Below B w w' :=
  ⟨h.os, h.tape, h.output, h.size, fun k hk => h.block k (by omega) (fun x hx => by have := ha x hx; omega)⟩

theorem ButA.cell {a : Option Addr} {w w' : World} (h : ButA a w w') {p : Addr} {v : Value} (hc : w.cell? p = some v) (hn : ∀ x, a = some x → x.block ≠ p.block) : w'.cell? p = some v :=
  (World.cell?_of_block (w := w) (h.block p.block (block_lt hc) hn)).trans hc

theorem TbR.on {base n : Nat} {w w' : World} {a : Option Addr} {ys : List Int} (h : TbR base w a n ys) (hb : Below w.heap.size w w') : TbR base w' a n ys := by
  obtain ⟨h1, h2, h3 | ⟨g, off, rfl, hb1, hg, hr⟩⟩ := h
  · exact ⟨h1, h2, .inl h3⟩
  · exact ⟨h1, h2, .inr ⟨g, off, rfl, hb1, Nat.lt_of_lt_of_le hg hb.size, hr.on hb⟩⟩

theorem TbR.mono {base b2 n : Nat} {w : World} {a : Option Addr} {ys : List Int} (h : TbR base w a n ys) (hb : b2 ≤ base) : TbR b2 w a n ys := by
  obtain ⟨h1, h2, h3 | ⟨g, off, rfl, hb1, hg, hr⟩⟩ := h
  · exact ⟨h1, h2, .inl h3⟩
  · exact ⟨h1, h2, .inr ⟨g, off, rfl, by omega, hg, hr⟩⟩

theorem RowI.set {w : World} {g off : Nat} {ys : List Int} (h : RowI w g off ys) (k : Nat) (v : Int) : RowI (w.setCell ⟨g, off + k, none⟩ (.int .i64 v)) g off (ys.set k v) := by
  refine ⟨fun i hi => ?_, fun i hi => by rw [World.frozen?_setCell]; exact h.free i (by simpa using hi)⟩
  have hi' : i < ys.length := by simpa using hi
  by_cases e : i = k
  · subst e
    rw [World.cell?_setCell_same' _ _ _ (by rw [h.cell i hi']; rfl)]
    simp [List.getD, hi']
  · rw [World.cell?_setCell_other _ _ _ _ (by first | (simp; done) | (simp; omega)), h.cell i hi']
    simp [List.getD, Ne.symm e]

theorem Ints.onlyT {w w' : World} {a : Option Addr} {l B : Nat} {xs : List Int} (h : Ints w a l xs) (ho : Only B w w') (hne : ∀ x, a = some x → x.block ≠ B) : Ints w' a l xs := by
  refine ⟨h.len, h.max, ?_⟩
  rcases h.cells with h0 | ⟨b, off, rfl, hc⟩
  · exact .inl h0
  · exact .inr ⟨b, off, rfl, fun i hi => (ho.cell (p := ⟨b, off + i, none⟩) (hne ⟨b, off, none⟩ rfl)).trans (hc i hi)⟩

theorem TbR.only {base n B : Nat} {w w' : World} {a : Option Addr} {ys : List Int} (h : TbR base w a n ys) (ho : Only B w w') (hne : ∀ x, a = some x → x.block ≠ B) : TbR base w' a n ys := by
  obtain ⟨h1, h2, h3 | ⟨g, off, rfl, hb1, hg, hr⟩⟩ := h
  · exact ⟨h1, h2, .inl h3⟩
  · exact ⟨h1, h2, .inr ⟨g, off, rfl, hb1, by rw [ho.size]; exact hg, hr.only ho (hne _ rfl)⟩⟩

theorem Ints.butA {w w' : World} {a g : Option Addr} {l : Nat} {xs : List Int} (h : Ints w a l xs) (ho : ButA g w w') (hne : ∀ x y, a = some x → g = some y → y.block ≠ x.block) : Ints w' a l xs := by
  refine ⟨h.len, h.max, ?_⟩
  rcases h.cells with h0 | ⟨b, off, rfl, hc⟩
  · exact .inl h0
  · exact .inr ⟨b, off, rfl, fun i hi => ho.cell (hc i hi) (fun y hy => hne ⟨b, off, none⟩ y rfl hy)⟩

/-- what a call leaves that hands over a list and a code -/
def LsPost (ys : List Int) (E : Int) (w : World) (e : Ending) (w' : World) : Prop := ∃ a n c, e = .returned (.tuple #[.slice a n c, .int .i64 E]) ∧ TbR w.heap.size w' a n ys ∧ Below w.heap.size w w'

end Go.Proofs.YtdlfofdibooidaaGreat

/- A product divided exactly: the model's way, bit by bit. -/
namespace Go.Proofs.YtdlfofdibooidaaGreat
open Go.ChangeShapes Go.WideShapes Go.ChangeAt Go.RowKit
set_option linter.unusedVariables false
set_option maxRecDepth 100000

def mdQ (a b c : Int) : Int := if a * b / c ≤ 1000000000000000000 then a * b / c else 2000000000000000000
def mdR (a b c : Int) : Int := if a * b / c ≤ 1000000000000000000 then a * b % c else 0

/-- one more bit of the first factor -/
theorem md_step (A D d b c q r B1 B2 U1 U2 : Int) (hI : A * b = q * c + r) (hD : D = 2 * A + d) (hB : c * B1 + B2 = b) (hU : c * U1 + U2 = 2 * r + d * B2) :
    D * b = (2 * q + d * B1 + U1) * c + U2 := by
  have e1 : D * b = 2 * (A * b) + d * b := by rw [hD, Int.add_mul, Int.mul_assoc]
  have e2 : d * b = d * (c * B1) + d * B2 := by rw [← Int.mul_add, hB]
  have e3 : (2 * q + d * B1 + U1) * c = 2 * (q * c) + d * (c * B1) + c * U1 := by
    rw [Int.add_mul, Int.add_mul, Int.mul_assoc, Int.mul_assoc, Int.mul_comm B1 c, Int.mul_comm U1 c]
  rw [e1, e2, e3, hI]
  omega

theorem md_uniq (p c q r : Int) (h : p = q * c + r) (r0 : 0 ≤ r) (r1 : r < c) : p / c = q ∧ p % c = r := by
  subst h
  constructor
  · rw [Int.add_comm, Int.add_mul_ediv_right _ _ (by omega), Int.ediv_eq_zero_of_lt r0 r1]; omega
  · rw [Int.add_comm, Int.add_mul_emod_self_right, Int.emod_eq_of_lt r0 r1]

theorem md_small (a b c : Int) (h : a * b / c ≤ 1000000000000000000) : mdQ a b c = a * b / c ∧ mdR a b c = a * b % c := by simp [mdQ, mdR, h]

theorem md_large (a b c : Int) (h : 1000000000000000000 < a * b / c) : mdQ a b c = 2000000000000000000 ∧ mdR a b c = 0 := by
  have h' : ¬ a * b / c ≤ 1000000000000000000 := by omega
  simp only [mdQ, mdR, if_neg h', and_self]

/-- a quotient that is too great already stays so -/
theorem md_over (a b c D q r : Int) (h : D * b = q * c + r) (hD : D ≤ a) (b0 : 0 ≤ b) (c0 : 1 ≤ c) (r0 : 0 ≤ r) (hq : 1000000000000000000 < q) : 1000000000000000000 < a * b / c := by
  have h1 : D * b ≤ a * b := Int.mul_le_mul_of_nonneg_right hD b0
  have h2 : q ≤ a * b / c := Int.le_ediv_of_mul_le (by omega) (by omega)
  omega

theorem div_bit (a : Int) (t : Nat) (a0 : 0 ≤ a) : a / 2 ^ t = 2 * (a / 2 ^ (t + 1)) + a / 2 ^ t % 2 := by
  have h : a / 2 ^ (t + 1) = a / 2 ^ t / 2 := by
    rw [Int.pow_succ, Int.ediv_ediv_of_nonneg]
    exact Int.pow_nonneg (by omega)
  rw [h]; omega

theorem div_le_self' (a : Int) (t : Nat) (a0 : 0 ≤ a) : 0 ≤ a / 2 ^ t ∧ a / 2 ^ t ≤ a :=
  ⟨Int.ediv_nonneg a0 (Int.pow_nonneg (by omega)), Int.ediv_le_self _ a0⟩

set_option maxHeartbeats 1000000 in
theorem sdiv_any (a b c : Int) (w : World) (a0 : 0 ≤ a) (a1 : a ≤ 1000000000000) (b0 : 0 ≤ b) (b1 : b ≤ 1000000000000000000) (c0 : 1 ≤ c) (c1 : c ≤ 1000000000000000000) :
    Calls Tryz.prog 38 #[.int .i64 a, .int .i64 b, .int .i64 c] w fun e w' => e = .returned (.tuple #[.int .i64 (mdQ a b c), .int .i64 (mdR a b c)]) ∧ w = w' := by
  have H0 : Hid (a / 2 ^ 42 * b = 0 * c + 0) := Lib.hid (by rw [Int.ediv_eq_zero_of_lt a0 (by omega)]; simp)
  go_enter Tryz.func38, Tryz.ntmps38
  go_wp2_with fail
  go_loop [8, 9, 10] (fun x y i => ∃ (s : Nat) (q r : Int), s ≤ 42 ∧ i = .int .i64 ((s : Int) - 1) ∧ x = .int .i64 q ∧ y = .int .i64 r ∧ 0 ≤ q ∧ q ≤ 1000000000000000000 ∧ 0 ≤ r ∧ r < c ∧ Hid (a / 2 ^ s * b = q * c + r)) (fun _ _ i => (intOf i + 1).toNat)
  case atStart => exact ⟨42, 0, 0, by omega, rfl, rfl, rfl, by omega, by omega, by omega, by omega, H0⟩
  case round =>
    clear H0
    obtain ⟨s, q, r, s1, rfl, rfl, rfl, q0, q1, r0, r1, HI⟩ := hrel
    by_cases hs : 0 < s
    · obtain ⟨t, rfl⟩ : ∃ t, s = t + 1 := ⟨s - 1, by omega⟩
      rw [show ((t + 1 : Nat) : Int) - 1 = (t : Int) by omega]
      have hcz : c ≠ 0 := by omega
      have hbit := div_bit a t a0
      obtain ⟨d0, d1⟩ := div_le_self' a t a0
      obtain ⟨A, hA⟩ : ∃ A, a / 2 ^ (t + 1) = A := ⟨_, rfl⟩
      obtain ⟨D, hD⟩ : ∃ A, a / 2 ^ t = A := ⟨_, rfl⟩
      rw [hA, hD] at hbit
      rw [hA] at HI
      rw [hD] at d0 d1
      obtain ⟨B1, hB1⟩ : ∃ B, b / c = B := ⟨_, rfl⟩
      obtain ⟨B2, hB2⟩ : ∃ B, b % c = B := ⟨_, rfl⟩
      have hB := Int.mul_ediv_add_emod b c
      have hB0 : 0 ≤ B1 := by rw [← hB1]; exact Int.ediv_nonneg b0 (by omega)
      have hB3 : B1 ≤ 1000000000000000000 := by rw [← hB1]; exact Int.le_trans (Int.ediv_le_self _ b0) b1
      have hB4 : 0 ≤ B2 := by rw [← hB2]; exact Int.emod_nonneg _ hcz
      have hB5 : B2 < c := by rw [← hB2]; exact Int.emod_lt_of_pos _ (by omega)
      rw [hB1, hB2] at hB
      have HBB := Lib.hid hB
      have HDD := Lib.hid hbit
      clear hB hbit hA
      have htm : D.tmod 2 = D % 2 := Int.tmod_eq_emod_of_nonneg d0
      by_cases hd : D % 2 = 1
      · obtain ⟨U1, hU1⟩ : ∃ B, (2 * r + B2) / c = B := ⟨_, rfl⟩
        obtain ⟨U2, hU2⟩ : ∃ B, (2 * r + B2) % c = B := ⟨_, rfl⟩
        have hU := Int.mul_ediv_add_emod (2 * r + B2) c
        have hU0 : 0 ≤ U1 := by rw [← hU1]; exact Int.ediv_nonneg (by omega) (by omega)
        have hU3 : U1 ≤ 2 := Int.lt_add_one_iff.1 (by rw [← hU1]; exact Int.ediv_lt_of_lt_mul (by omega) (by omega))
        have hU4 : 0 ≤ U2 := by rw [← hU2]; exact Int.emod_nonneg _ hcz
        have hU5 : U2 < c := by rw [← hU2]; exact Int.emod_lt_of_pos _ (by omega)
        rw [hU1, hU2] at hU
        have HS := Lib.hid (md_step A D 1 b c q r B1 B2 U1 U2 HI.out (by have := HDD.out; omega) HBB.out (by omega))
        clear hU
        by_cases hov : 1000000000000000000 < 2 * q + B1 + U1
        · have HO := Lib.hid (md_over a b c D (2 * q + B1 + U1) U2 (by have := HS.out; rw [Int.one_mul] at this; exact this) d1 b0 c0 hU4 hov)
          go_wp2_with fail
          go_ret2
          obtain ⟨e1, e2⟩ := md_large a b c HO.out
          rw [e1, e2]
          exact ⟨rfl, rfl⟩
        · have HS := Lib.hid (show D * b = (2 * q + B1 + U1) * c + U2 by have := HS.out; rw [Int.one_mul] at this; exact this)
          have HDt := Lib.hid hD
          go_wp2_with fail
          go_round
          case rel => exact ⟨t, _, _, by omega, rfl, rfl, rfl, by omega, by omega, by omega, by omega, Lib.hid (by rw [HDt.out, hU2]; exact HS.out)⟩
          case measure => simp [intOf]
      · have hd2 : D % 2 = 0 := by omega
        obtain ⟨U1, hU1⟩ : ∃ B, (2 * r) / c = B := ⟨_, rfl⟩
        obtain ⟨U2, hU2⟩ : ∃ B, (2 * r) % c = B := ⟨_, rfl⟩
        have hU := Int.mul_ediv_add_emod (2 * r) c
        have hU0 : 0 ≤ U1 := by rw [← hU1]; exact Int.ediv_nonneg (by omega) (by omega)
        have hU3 : U1 ≤ 2 := Int.lt_add_one_iff.1 (by rw [← hU1]; exact Int.ediv_lt_of_lt_mul (by omega) (by omega))
        have hU4 : 0 ≤ U2 := by rw [← hU2]; exact Int.emod_nonneg _ hcz
        have hU5 : U2 < c := by rw [← hU2]; exact Int.emod_lt_of_pos _ (by omega)
        rw [hU1, hU2] at hU
        have HS := Lib.hid (md_step A D 0 b c q r B1 B2 U1 U2 HI.out (by have := HDD.out; omega) HBB.out (by omega))
        clear hU
        have HS := Lib.hid (show D * b = (2 * q + U1) * c + U2 by have := HS.out; rw [Int.zero_mul, Int.add_zero] at this; exact this)
        by_cases hov : 1000000000000000000 < 2 * q + U1
        · have HO := Lib.hid (md_over a b c D (2 * q + U1) U2 HS.out d1 b0 c0 hU4 hov)
          go_wp2_with fail
          go_ret2
          obtain ⟨e1, e2⟩ := md_large a b c HO.out
          rw [e1, e2]
          exact ⟨rfl, rfl⟩
        · have HDt := Lib.hid hD
          go_wp2_with fail
          go_round
          case rel => exact ⟨t, _, _, by omega, rfl, rfl, rfl, by omega, by omega, by omega, by omega, Lib.hid (by rw [HDt.out, hU2]; exact HS.out)⟩
          case measure => simp [intOf]
    · obtain rfl : s = 0 := by omega
      have HE := Lib.hid (md_uniq (a * b) c q r (by have := HI.out; rw [Int.pow_zero, Int.ediv_one] at this; exact this) r0 r1)
      go_wp2_with fail
      go_ret2
      obtain ⟨e1, e2⟩ := HE.out
      obtain ⟨e3, e4⟩ := md_small a b c (by omega)
      rw [e3, e4, e1, e2]
      exact ⟨rfl, rfl⟩

end Go.Proofs.YtdlfofdibooidaaGreat

/- Policies: the difference of two products divided, bit by bit (the model's way). (Written by wip/gen/pom.py.) -/
namespace Go.Proofs.YtdlfofdibooidaaGreat
open Go.ChangeShapes Go.WideShapes Go.ChangeAt Go.RowKit
set_option linter.unusedVariables false
set_option maxRecDepth 100000

/-- what is reckoned of the first bits stays small -/
theorem mi_bd (a b s c d Q q r : Int) (t : Nat) (b0 : 0 ≤ b) (c0 : 0 ≤ c) (d0 : 1 ≤ d) (Q0 : 0 ≤ Q) (h1 : -(Q * d) ≤ a * b - s * c) (h2 : a * b - s * c ≤ Q * d)
    (hI : a / 2 ^ t * b - s / 2 ^ t * c = q * d + r) (r0 : 0 ≤ r) (r1 : r < d) : -(Q + b) ≤ q ∧ q ≤ Q + c := by
  have hp : (0 : Int) < 2 ^ t := Int.pow_pos (by omega)
  obtain ⟨p, hpp⟩ : ∃ p : Int, (2 : Int) ^ t = p := ⟨_, rfl⟩
  rw [hpp] at hp hI
  have ea := Int.mul_ediv_add_emod a p
  have es := Int.mul_ediv_add_emod s p
  have a1 := Int.emod_nonneg a (show p ≠ 0 by omega)
  have s1 := Int.emod_nonneg s (show p ≠ 0 by omega)
  have a2 := Int.emod_lt_of_pos a hp
  have s2 := Int.emod_lt_of_pos s hp
  obtain ⟨A, hA⟩ : ∃ y, a / p = y := ⟨_, rfl⟩
  obtain ⟨S, hS⟩ : ∃ y, s / p = y := ⟨_, rfl⟩
  obtain ⟨α, hα⟩ : ∃ y, a % p = y := ⟨_, rfl⟩
  obtain ⟨σ, hσ⟩ : ∃ y, s % p = y := ⟨_, rfl⟩
  rw [hA, hα] at ea
  rw [hS, hσ] at es
  rw [hA, hS] at hI
  rw [hα] at a1 a2
  rw [hσ] at s1 s2
  obtain ⟨V, hV⟩ : ∃ y, A * b - S * c = y := ⟨_, rfl⟩
  have e1 : a * b = p * (A * b) + α * b := by rw [← ea, Int.add_mul, Int.mul_assoc]
  have e2 : s * c = p * (S * c) + σ * c := by rw [← es, Int.add_mul, Int.mul_assoc]
  have e3 : p * V = p * (A * b) - p * (S * c) := by rw [← hV, Int.mul_sub]
  have m1 : α * b ≤ p * b := Int.mul_le_mul_of_nonneg_right (by omega) b0
  have m2 : σ * c ≤ p * c := Int.mul_le_mul_of_nonneg_right (by omega) c0
  have m3 : 0 ≤ α * b := Int.mul_nonneg a1 b0
  have m4 : 0 ≤ σ * c := Int.mul_nonneg s1 c0
  have m5 : Q * d ≤ p * (Q * d) := by
    have := Int.mul_le_mul_of_nonneg_right (show (1 : Int) ≤ p by omega) (Int.mul_nonneg Q0 (show 0 ≤ d by omega))
    rwa [Int.one_mul] at this
  have u1 : V ≤ Q * d + c := by
    refine Int.le_of_mul_le_mul_left (a := p) ?_ hp
    rw [Int.mul_add]; omega
  have u2 : -(Q * d) - b ≤ V := by
    refine Int.le_of_mul_le_mul_left (a := p) ?_ hp
    rw [Int.mul_sub, Int.mul_neg]; omega
  have c1 : c ≤ c * d := by
    have := Int.mul_le_mul_of_nonneg_left d0 c0
    rwa [Int.mul_one] at this
  have b1 : b ≤ b * d := by
    have := Int.mul_le_mul_of_nonneg_left d0 b0
    rwa [Int.mul_one] at this
  constructor
  · have : -(Q + b) * d < (q + 1) * d := by rw [Int.neg_mul, Int.add_mul, Int.add_mul]; omega
    have := Int.lt_of_mul_lt_mul_right this (by omega)
    omega
  · refine Int.le_of_mul_le_mul_right (a := d) ?_ (by omega)
    rw [Int.add_mul]; omega

/-- one more bit of both factors -/
theorem mi_step (A D S E da ds b c d q r B1 B2 C1 C2 : Int) (hI : A * b - S * c = q * d + r) (hD : D = 2 * A + da) (hE : E = 2 * S + ds) (hB : d * B1 + B2 = b) (hC : d * C1 + C2 = c) :
    D * b - E * c = (2 * q + da * B1 - ds * C1) * d + (2 * r + da * B2 - ds * C2) := by
  subst hD hE
  have e1 : (2 * A + da) * b = 2 * (A * b) + da * b := by rw [Int.add_mul, Int.mul_assoc]
  have e2 : (2 * S + ds) * c = 2 * (S * c) + ds * c := by rw [Int.add_mul, Int.mul_assoc]
  have e3 : da * b = d * (da * B1) + da * B2 := by rw [← hB, Int.mul_add, Int.mul_left_comm]
  have e4 : ds * c = d * (ds * C1) + ds * C2 := by rw [← hC, Int.mul_add, Int.mul_left_comm]
  have e5 : (2 * q + da * B1 - ds * C1) * d = 2 * (q * d) + d * (da * B1) - d * (ds * C1) := by
    rw [Int.sub_mul, Int.add_mul, Int.mul_assoc, Int.mul_comm (da * B1) d, Int.mul_comm (ds * C1) d]
  rw [e1, e2, e3, e4, e5]
  omega

/-! ### the walk -/

set_option maxHeartbeats 4000000 in
theorem sminus_any (a b s c d Q : Int) (w : World) (a0 : 0 ≤ a) (a1 : a ≤ 1000000000000) (s0 : 0 ≤ s) (s1 : s ≤ 1000000000000) (b0 : 0 ≤ b) (b1 : b ≤ 200000000000000000) (c0 : 0 ≤ c) (c1 : c ≤ 200000000000000000) (d0 : 1 ≤ d) (d1 : d ≤ 1000000000000000) (Q0 : 0 ≤ Q) (Q1 : Q ≤ 1000000000000000000)
    (h1 : -(Q * d) ≤ a * b - s * c) (h2 : a * b - s * c ≤ Q * d) :
    Calls Tryz.prog 103 #[.int .i64 a, .int .i64 b, .int .i64 s, .int .i64 c, .int .i64 d] w fun e w' => e = .returned (.tuple #[.int .i64 ((a * b - s * c) / d), .int .i64 ((a * b - s * c) % d)]) ∧ w = w' := by
  have H0 : Hid (a / 2 ^ 42 * b - s / 2 ^ 42 * c = 0 * d + 0) := Lib.hid (by rw [Int.ediv_eq_zero_of_lt a0 (by omega), Int.ediv_eq_zero_of_lt s0 (by omega)]; simp)
  have HB := Lib.hid (fun (q r : Int) (t : Nat) => mi_bd a b s c d Q q r t b0 c0 d0 Q0 h1 h2)
  have HQ := Lib.hid (md_uniq (a * b - s * c) d)
  obtain ⟨X, hX⟩ : ∃ y, (a * b - s * c) / d = y := ⟨_, rfl⟩
  obtain ⟨Y, hY⟩ : ∃ y, (a * b - s * c) % d = y := ⟨_, rfl⟩
  rw [hX, hY] at HQ ⊢
  have HW : Hid (a / 2 ^ 0 * b - s / 2 ^ 0 * c = a * b - s * c) := Lib.hid (by simp)
  clear h1 h2 hX hY
  go_enter Tryz.func103, Tryz.ntmps103
  go_wp2_with fail
  go_loop [12, 13, 14] (fun x y i => ∃ (t : Nat) (q r : Int), t ≤ 42 ∧ i = .int .i64 ((t : Int) - 1) ∧ x = .int .i64 q ∧ y = .int .i64 r ∧ 0 ≤ r ∧ r < d ∧ Hid (a / 2 ^ t * b - s / 2 ^ t * c = q * d + r)) (fun _ _ i => (intOf i + 1).toNat)
  case atStart => exact ⟨42, 0, 0, by omega, rfl, rfl, rfl, by omega, by omega, H0⟩
  case round =>
    clear H0
    obtain ⟨t, q, r, t1, rfl, rfl, rfl, r0, r1, HI⟩ := hrel
    obtain ⟨q0, q1⟩ := HB.out q r t HI.out r0 r1
    by_cases hs : 0 < t
    · obtain ⟨t, rfl⟩ : ∃ u, t = u + 1 := ⟨t - 1, by omega⟩
      rw [show ((t + 1 : Nat) : Int) - 1 = (t : Int) by omega]
      have hcz : d ≠ 0 := by omega
      have hbit := div_bit a t a0
      have hbis := div_bit s t s0
      obtain ⟨u0, u1⟩ := div_le_self' a t a0
      obtain ⟨v0, v1⟩ := div_le_self' s t s0
      obtain ⟨A, hA⟩ : ∃ A, a / 2 ^ (t + 1) = A := ⟨_, rfl⟩
      obtain ⟨D, hD⟩ : ∃ A, a / 2 ^ t = A := ⟨_, rfl⟩
      obtain ⟨S, hS⟩ : ∃ A, s / 2 ^ (t + 1) = A := ⟨_, rfl⟩
      obtain ⟨E, hE⟩ : ∃ A, s / 2 ^ t = A := ⟨_, rfl⟩
      rw [hA, hD] at hbit
      rw [hS, hE] at hbis
      rw [hA, hS] at HI
      rw [hD] at u0 u1
      rw [hE] at v0 v1
      obtain ⟨B1, hB1⟩ : ∃ B, b / d = B := ⟨_, rfl⟩
      obtain ⟨B2, hB2⟩ : ∃ B, b % d = B := ⟨_, rfl⟩
      obtain ⟨C1, hC1⟩ : ∃ B, c / d = B := ⟨_, rfl⟩
      obtain ⟨C2, hC2⟩ : ∃ B, c % d = B := ⟨_, rfl⟩
      have hB := Int.mul_ediv_add_emod b d
      have hC := Int.mul_ediv_add_emod c d
      have hB0 : 0 ≤ B1 := by rw [← hB1]; exact Int.ediv_nonneg b0 (by omega)
      have hB3 : B1 ≤ 200000000000000000 := by rw [← hB1]; exact Int.le_trans (Int.ediv_le_self _ b0) b1
      have hB4 : 0 ≤ B2 := by rw [← hB2]; exact Int.emod_nonneg _ hcz
      have hB5 : B2 < d := by rw [← hB2]; exact Int.emod_lt_of_pos _ (by omega)
      have hC0 : 0 ≤ C1 := by rw [← hC1]; exact Int.ediv_nonneg c0 (by omega)
      have hC3 : C1 ≤ 200000000000000000 := by rw [← hC1]; exact Int.le_trans (Int.ediv_le_self _ c0) c1
      have hC4 : 0 ≤ C2 := by rw [← hC2]; exact Int.emod_nonneg _ hcz
      have hC5 : C2 < d := by rw [← hC2]; exact Int.emod_lt_of_pos _ (by omega)
      rw [hB1, hB2] at hB
      rw [hC1, hC2] at hC
      have HBB := Lib.hid hB
      have HCC := Lib.hid hC
      have HDD := Lib.hid hbit
      have HEE := Lib.hid hbis
      clear hB hC hbit hbis hA hS
      have htm : D.tmod 2 = D % 2 := Int.tmod_eq_emod_of_nonneg u0
      have hts : E.tmod 2 = E % 2 := Int.tmod_eq_emod_of_nonneg v0
      have HDt := Lib.hid (show D * b - E * c = a / 2 ^ t * b - s / 2 ^ t * c by rw [hD, hE])
      by_cases hd : D % 2 = 1
      · by_cases he : E % 2 = 1
        · have HS := Lib.hid (show D * b - E * c = (2 * q + B1 - C1) * d + (2 * r + B2 - C2) by have := mi_step A D S E 1 1 b c d q r B1 B2 C1 C2 HI.out (by have := HDD.out; omega) (by have := HEE.out; omega) HBB.out HCC.out; simpa using this)
          go_wp2_with fail
          go_loop [12, 13] (fun x y => ∃ (g h : Int), x = .int .i64 g ∧ y = .int .i64 h ∧ -4000000000000000000 ≤ g + h ∧ -4000000000000000000 ≤ g ∧ g ≤ 3000000000000000000 ∧ -d < h ∧ h < 3 * d ∧ Hid (D * b - E * c = g * d + h)) (fun _ y => (d - intOf y).toNat)
          case atStart => exact ⟨_, _, rfl, rfl, by omega, by omega, by omega, by omega, by omega, HS⟩
          case round =>
            clear HS
            obtain ⟨g, h, rfl, rfl, g2, g0, g1, h0, h1, HS⟩ := hrel
            by_cases hneg : h < 0
            · have HS := Lib.hid (show D * b - E * c = (g - 1) * d + (h + d) by have := HS.out; rw [this, Int.sub_mul]; omega)
              go_wp2_with fail
              go_round
              case rel => exact ⟨_, _, rfl, rfl, by omega, by omega, by omega, by omega, by omega, HS⟩
              case measure => simp [intOf]; omega
            · go_wp2_with fail
              go_loop [12, 13] (fun x y => ∃ (g h : Int), x = .int .i64 g ∧ y = .int .i64 h ∧ -4000000000000000000 ≤ g + h ∧ -4000000000000000000 ≤ g ∧ g ≤ 3000000000000000000 + (3 * d - h) ∧ 0 ≤ h ∧ h < 3 * d ∧ Hid (D * b - E * c = g * d + h)) (fun _ y => (intOf y).toNat)
              case atStart => exact ⟨_, _, rfl, rfl, by omega, by omega, by omega, by omega, by omega, HS⟩
              case round =>
                clear HS
                obtain ⟨g, h, rfl, rfl, g2, g0, g1, h0, h1, HS⟩ := hrel
                by_cases hge : d ≤ h
                · have HS := Lib.hid (show D * b - E * c = (g + 1) * d + (h - d) by have := HS.out; rw [this, Int.add_mul]; omega)
                  go_wp2_with fail
                  go_round
                  case rel => exact ⟨_, _, rfl, rfl, by omega, by omega, by omega, by omega, by omega, HS⟩
                  case measure => simp [intOf]; omega
                · go_wp2_with fail
                  go_round
                  case rel => exact ⟨t, _, _, by omega, rfl, rfl, rfl, by omega, by omega, Lib.hid (HDt.out.symm.trans HS.out)⟩
                  case measure => simp [intOf]
        · have he2 : E % 2 = 0 := by omega
          have HS := Lib.hid (show D * b - E * c = (2 * q + B1) * d + (2 * r + B2) by have := mi_step A D S E 1 0 b c d q r B1 B2 C1 C2 HI.out (by have := HDD.out; omega) (by have := HEE.out; omega) HBB.out HCC.out; simpa using this)
          go_wp2_with fail
          go_loop [12, 13] (fun x y => ∃ (g h : Int), x = .int .i64 g ∧ y = .int .i64 h ∧ -4000000000000000000 ≤ g + h ∧ -4000000000000000000 ≤ g ∧ g ≤ 3000000000000000000 ∧ -d < h ∧ h < 3 * d ∧ Hid (D * b - E * c = g * d + h)) (fun _ y => (d - intOf y).toNat)
          case atStart => exact ⟨_, _, rfl, rfl, by omega, by omega, by omega, by omega, by omega, HS⟩
          case round =>
            clear HS
            obtain ⟨g, h, rfl, rfl, g2, g0, g1, h0, h1, HS⟩ := hrel
            by_cases hneg : h < 0
            · have HS := Lib.hid (show D * b - E * c = (g - 1) * d + (h + d) by have := HS.out; rw [this, Int.sub_mul]; omega)
              go_wp2_with fail
              go_round
              case rel => exact ⟨_, _, rfl, rfl, by omega, by omega, by omega, by omega, by omega, HS⟩
              case measure => simp [intOf]; omega
            · go_wp2_with fail
              go_loop [12, 13] (fun x y => ∃ (g h : Int), x = .int .i64 g ∧ y = .int .i64 h ∧ -4000000000000000000 ≤ g + h ∧ -4000000000000000000 ≤ g ∧ g ≤ 3000000000000000000 + (3 * d - h) ∧ 0 ≤ h ∧ h < 3 * d ∧ Hid (D * b - E * c = g * d + h)) (fun _ y => (intOf y).toNat)
              case atStart => exact ⟨_, _, rfl, rfl, by omega, by omega, by omega, by omega, by omega, HS⟩
              case round =>
                clear HS
                obtain ⟨g, h, rfl, rfl, g2, g0, g1, h0, h1, HS⟩ := hrel
                by_cases hge : d ≤ h
                · have HS := Lib.hid (show D * b - E * c = (g + 1) * d + (h - d) by have := HS.out; rw [this, Int.add_mul]; omega)
                  go_wp2_with fail
                  go_round
                  case rel => exact ⟨_, _, rfl, rfl, by omega, by omega, by omega, by omega, by omega, HS⟩
                  case measure => simp [intOf]; omega
                · go_wp2_with fail
                  go_round
                  case rel => exact ⟨t, _, _, by omega, rfl, rfl, rfl, by omega, by omega, Lib.hid (HDt.out.symm.trans HS.out)⟩
                  case measure => simp [intOf]
      · have hd2 : D % 2 = 0 := by omega
        by_cases he : E % 2 = 1
        · have HS := Lib.hid (show D * b - E * c = (2 * q - C1) * d + (2 * r - C2) by have := mi_step A D S E 0 1 b c d q r B1 B2 C1 C2 HI.out (by have := HDD.out; omega) (by have := HEE.out; omega) HBB.out HCC.out; simpa using this)
          go_wp2_with fail
          go_loop [12, 13] (fun x y => ∃ (g h : Int), x = .int .i64 g ∧ y = .int .i64 h ∧ -4000000000000000000 ≤ g + h ∧ -4000000000000000000 ≤ g ∧ g ≤ 3000000000000000000 ∧ -d < h ∧ h < 3 * d ∧ Hid (D * b - E * c = g * d + h)) (fun _ y => (d - intOf y).toNat)
          case atStart => exact ⟨_, _, rfl, rfl, by omega, by omega, by omega, by omega, by omega, HS⟩
          case round =>
            clear HS
            obtain ⟨g, h, rfl, rfl, g2, g0, g1, h0, h1, HS⟩ := hrel
            by_cases hneg : h < 0
            · have HS := Lib.hid (show D * b - E * c = (g - 1) * d + (h + d) by have := HS.out; rw [this, Int.sub_mul]; omega)
              go_wp2_with fail
              go_round
              case rel => exact ⟨_, _, rfl, rfl, by omega, by omega, by omega, by omega, by omega, HS⟩
              case measure => simp [intOf]; omega
            · go_wp2_with fail
              go_loop [12, 13] (fun x y => ∃ (g h : Int), x = .int .i64 g ∧ y = .int .i64 h ∧ -4000000000000000000 ≤ g + h ∧ -4000000000000000000 ≤ g ∧ g ≤ 3000000000000000000 + (3 * d - h) ∧ 0 ≤ h ∧ h < 3 * d ∧ Hid (D * b - E * c = g * d + h)) (fun _ y => (intOf y).toNat)
              case atStart => exact ⟨_, _, rfl, rfl, by omega, by omega, by omega, by omega, by omega, HS⟩
              case round =>
                clear HS
                obtain ⟨g, h, rfl, rfl, g2, g0, g1, h0, h1, HS⟩ := hrel
                by_cases hge : d ≤ h
                · have HS := Lib.hid (show D * b - E * c = (g + 1) * d + (h - d) by have := HS.out; rw [this, Int.add_mul]; omega)
                  go_wp2_with fail
                  go_round
                  case rel => exact ⟨_, _, rfl, rfl, by omega, by omega, by omega, by omega, by omega, HS⟩
                  case measure => simp [intOf]; omega
                · go_wp2_with fail
                  go_round
                  case rel => exact ⟨t, _, _, by omega, rfl, rfl, rfl, by omega, by omega, Lib.hid (HDt.out.symm.trans HS.out)⟩
                  case measure => simp [intOf]
        · have he2 : E % 2 = 0 := by omega
          have HS := Lib.hid (show D * b - E * c = (2 * q) * d + (2 * r) by have := mi_step A D S E 0 0 b c d q r B1 B2 C1 C2 HI.out (by have := HDD.out; omega) (by have := HEE.out; omega) HBB.out HCC.out; simpa using this)
          go_wp2_with fail
          go_loop [12, 13] (fun x y => ∃ (g h : Int), x = .int .i64 g ∧ y = .int .i64 h ∧ -4000000000000000000 ≤ g + h ∧ -4000000000000000000 ≤ g ∧ g ≤ 3000000000000000000 ∧ -d < h ∧ h < 3 * d ∧ Hid (D * b - E * c = g * d + h)) (fun _ y => (d - intOf y).toNat)
          case atStart => exact ⟨_, _, rfl, rfl, by omega, by omega, by omega, by omega, by omega, HS⟩
          case round =>
            clear HS
            obtain ⟨g, h, rfl, rfl, g2, g0, g1, h0, h1, HS⟩ := hrel
            by_cases hneg : h < 0
            · have HS := Lib.hid (show D * b - E * c = (g - 1) * d + (h + d) by have := HS.out; rw [this, Int.sub_mul]; omega)
              go_wp2_with fail
              go_round
              case rel => exact ⟨_, _, rfl, rfl, by omega, by omega, by omega, by omega, by omega, HS⟩
              case measure => simp [intOf]; omega
            · go_wp2_with fail
              go_loop [12, 13] (fun x y => ∃ (g h : Int), x = .int .i64 g ∧ y = .int .i64 h ∧ -4000000000000000000 ≤ g + h ∧ -4000000000000000000 ≤ g ∧ g ≤ 3000000000000000000 + (3 * d - h) ∧ 0 ≤ h ∧ h < 3 * d ∧ Hid (D * b - E * c = g * d + h)) (fun _ y => (intOf y).toNat)
              case atStart => exact ⟨_, _, rfl, rfl, by omega, by omega, by omega, by omega, by omega, HS⟩
              case round =>
                clear HS
                obtain ⟨g, h, rfl, rfl, g2, g0, g1, h0, h1, HS⟩ := hrel
                by_cases hge : d ≤ h
                · have HS := Lib.hid (show D * b - E * c = (g + 1) * d + (h - d) by have := HS.out; rw [this, Int.add_mul]; omega)
                  go_wp2_with fail
                  go_round
                  case rel => exact ⟨_, _, rfl, rfl, by omega, by omega, by omega, by omega, by omega, HS⟩
                  case measure => simp [intOf]; omega
                · go_wp2_with fail
                  go_round
                  case rel => exact ⟨t, _, _, by omega, rfl, rfl, rfl, by omega, by omega, Lib.hid (HDt.out.symm.trans HS.out)⟩
                  case measure => simp [intOf]
    · obtain rfl : t = 0 := by omega
      have HE := Lib.hid (HQ.out q r (by rw [← HW.out]; exact HI.out) r0 r1)
      go_wp2_with fail
      go_ret2
      obtain ⟨rfl, rfl⟩ := HE.out
      exact ⟨rfl, rfl⟩

end Go.Proofs.YtdlfofdibooidaaGreat
