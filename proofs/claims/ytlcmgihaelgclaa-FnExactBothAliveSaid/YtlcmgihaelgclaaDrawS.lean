/- The model's draws of lists: what each gives; lists that are appended to. | append onto a list of the call's own that stands beside another. -/
import Derived.Test.YtlcmgihaelgclaaSrc
import Derived.Test.YtlcmgihaelgclaaOwn
namespace Go.Proofs.Ytlcmgihaelgclaa
open Go.ChangeShapes Go.WideShapes Go.ChangeAt Go.RowKit
set_option linter.unusedVariables false

/-- a slice of integers of the call's own, in blocks from 'base' on -/
def OwnI (base : Nat) (w : World) (v : Value) (xs : List Int) : Prop := w.ownsRow base 2 1 v xs.length (xs.map (Value.int .i64))

theorem infoI : (Try.prog.info? 2).map (fun i => (i.zero, i.size, i.bytes)) = some (some (.int .i64 0), 1, 8) := by kernel_rfl

theorem ownI_new (w : World) : OwnI w.heap.size (w.alloc (.cells #[] 2)) (.slice (some ⟨w.heap.size, 0, none⟩) 0 0) [] :=
  World.ownsRow_lit w #[] 0 (Nat.le_refl _) (Nat.zero_le _) rfl

theorem OwnI.same {base : Nat} {w w' : World} {v : Value} {xs : List Int} (h : OwnI base w v xs) (hb : ∀ k, base ≤ k → k < w.heap.size → w'.heap[k]? = w.heap[k]?) : OwnI base w' v xs := by
  obtain ⟨h0, h1 | ⟨g, cap, cur, hv, hg, hh, r⟩⟩ := h
  · exact ⟨h0, .inl h1⟩
  · have hlt : g < w.heap.size := by
      by_cases hl : g < w.heap.size
      · exact hl
      · have : w.heap[g]? = none := by simp; omega
        rw [this] at hh; cases hh
    exact ⟨h0, .inr ⟨g, cap, cur, hv, hg, by rw [hb g hg hlt]; exact hh, r⟩⟩

theorem OwnI.but {base B : Nat} {w w' : World} {v : Value} {xs : List Int} (h : OwnI base w v xs) (hb : But B w w') (hB : B < base) : OwnI base w' v xs :=
  h.same fun k hk hl => hb.block k hl (by omega)

theorem OwnI.mono {base b2 : Nat} {w : World} {v : Value} {xs : List Int} (h : OwnI base w v xs) (hb : b2 ≤ base) : OwnI b2 w v xs := by
  obtain ⟨h0, h1 | ⟨g, cap, cur, hv, hg, hh, r⟩⟩ := h
  · exact ⟨h0, .inl h1⟩
  · exact ⟨h0, .inr ⟨g, cap, cur, hv, by omega, hh, r⟩⟩

/-- its shape, and what it reads as -/
theorem OwnI.ints {base : Nat} {w : World} {v : Value} {xs : List Int} (h : OwnI base w v xs) (hm : xs.length ≤ 4611686018427387904) : ∃ a c, v = .slice a xs.length c ∧ Ints w a xs.length xs := by
  have hh := h
  obtain ⟨h0, ⟨rfl, hn⟩ | ⟨g, cap, cur, rfl, hg, hb, r⟩⟩ := h
  · rw [hn]
    exact ⟨none, 0, rfl, by simpa using hn, by omega, .inl rfl⟩
  · refine ⟨_, cap, rfl, rfl, hm, .inr ⟨g, 0, rfl, fun i hi => ?_⟩⟩
    rw [Nat.zero_add, hh.cellAt i (by omega)]
    simp [List.getD, hi]

theorem ownI_step {base : Nat} {wr w1 : World} {v v' : Value} {xs : List Int} {x : Int} {o : Obj} (hown : OwnI base wr v xs) (hbs : base ≤ wr.heap.size)
    (hown' : w1.ownsRow base 2 1 v' (xs.length + 1) (xs.map (Value.int .i64) ++ [.int .i64 x])) (hg : (wr.alloc o).grownBy w1 v.ownBlock) :
    OwnI base w1 v' (xs ++ [x]) ∧ Below base wr w1 := by
  constructor
  · unfold OwnI
    rw [List.length_append, List.length_singleton, List.map_append]
    exact hown'
  · exact ((Below.refl _ _).alloc hbs o).grown hg (by simp; omega) fun k hk => (hown.lt k hk).1

/-- a slice of numbers that a draw gives: whatever it holds -/
def ListPost (w : World) (e : Ending) (w' : World) : Prop := ∃ a l c xs, e = .returned (.slice a l c) ∧ Ints w' a l xs ∧ l ≤ 4096 ∧ Below w.heap.size w w'

theorem make_lit (l : Nat) (n : Int) (h : n = l) (hl : l ≤ 1048576) (w : World) :
    (Instr.makeSlice 24 (.int .i64 n) (.int .i64 n)).run Try.prog w = .ok (.slice (some ⟨w.heap.size, 0, none⟩) l l) (w.alloc (.cells ((List.replicate l (0 : Int)).map (Value.int .i64)).toArray 2)) := by
  subst h; exact make_ints l hl w

theorem made_list {w w4 : World} (l : Nat) (hl : l ≤ 4096) (hb : Below w.heap.size w w4) :
    ListPost w (.returned (.slice (some ⟨w4.heap.size, 0, none⟩) l l)) (w4.alloc (.cells ((List.replicate l (0 : Int)).map (Value.int .i64)).toArray 2)) :=
  ⟨_, l, l, List.replicate l 0, rfl, (Blk.new w4 _).ints (by simp) (by omega), hl, hb.trans ((Below.refl _ _).alloc hb.size _)⟩

theorem ok_value {α : Type} {v v' : α} {w w' : World} (h : (Result.ok v w : Result α) = .ok v' w') : v = v' := by cases h; rfl

/-- where the list lies behind an append: in its own block still, or in a new one -/
theorem append_where {w : World} {base : Nat} {v : Value} {xs : List Int} (ad : Addr) (y : Int) (hown : OwnI base w v xs) (hc : ∀ j u, [Value.int .i64 y][j]? = some u → w.cell? (ad.add j) = some u) (hlen : xs.length ≤ 4096) (hbase : base ≤ w.heap.size)
    (v' : Value) (w' : World) (ty : TypeId) (hr : (Builtin.append_ #[24, 24] ty #[v, .slice (some ad) 1 1]).run Try.prog w = .ok v' w') : v'.ownBlock = v.ownBlock ∨ v'.ownBlock = some w.heap.size := by
  obtain ⟨i0, hi, hz0, hz1, hz2⟩ := info_parts infoI
  have hm : maxLen = maxLen := rfl
  unfold maxLen at hm
  have hh := hown
  rcases hown.2 with ⟨rfl, hn⟩ | ⟨g, cap, cur, rfl, hbg, hg, hnc, hcm, hcs, htake⟩
  · right
    have h0 := run_append_nil (P := Try.prog) w 24 ty 2 i0 (.int .i64 0) Try.underlying24 hi hz0 ad 1 1 [.int .i64 y] (by rw [hz1]; rfl) hc (by omega) (by omega) (by rw [hz2]; omega)
    rw [h0] at hr
    rw [← ok_value hr]; rfl
  · by_cases hroom : xs.length + 1 ≤ cap
    · left
      have h0 := run_append_room (P := Try.prog) w 24 ty 2 i0 Try.underlying24 hi g xs.length cap cur hg ad 1 1 [.int .i64 y] (by rw [hz1]; rfl) hc (by intro u hu; simp at hu; subst hu; rfl) hroom (by rw [hz1, hcs]; simp; omega)
      rw [h0] at hr
      rw [← ok_value hr]; rfl
    · right
      have holds := World.ownsRow.cells hh (g := g) rfl
      have h0 := run_append_grow (P := Try.prog) w 24 ty 2 i0 (.int .i64 0) Try.underlying24 hi hz0 ⟨g, 0, none⟩ xs.length cap (xs.map (Value.int .i64)) (by rw [hz1]; simp) holds ad 1 1 [.int .i64 y] (by rw [hz1]; rfl) hc (by omega) (by omega) (growslice_fits (by omega) (by rw [hz2]; omega))
      rw [h0] at hr
      rw [← ok_value hr]; rfl

theorem wpList_app {w : World} {ops : Array Oper} {rest : List Oper} {o : Oper} {a : Act} {Q : Exit → Act → World → Prop} (hgd : o.guard = none) (s x : Operand)
    (ho : o.op = .call { callee := .builtin .append, args := #[s, x], argTypes := #[24, 24] })
    (base : Nat) (v : Value) (xs : List Int) (y : Int) (hs : a.eval s = v) (hown : OwnI base w v xs) (ad : Addr) (hx : a.eval x = .slice (some ad) 1 1) (hc : ∀ j u, [Value.int .i64 y][j]? = some u → w.cell? (ad.add j) = some u)
    (hlen : xs.length ≤ 4096) (hbase : base ≤ w.heap.size)
    (h : ∀ v' w', OwnI base w' v' (xs ++ [y]) → w.grownBy w' v.ownBlock → (v'.ownBlock = v.ownBlock ∨ v'.ownBlock = some w.heap.size) → wpList Try.prog ops Q rest (a.put o.dst v') w') : wpList Try.prog ops Q (o :: rest) a w := by
  obtain ⟨i0, hi, hz0, hz1, hz2⟩ := info_parts infoI
  have hm : maxLen = maxLen := rfl
  unfold maxLen at hm
  obtain ⟨v', w', hr, h2, h3, h4⟩ := run_append_own (P := Try.prog) w base 24 o.type 2 i0 (.int .i64 0) 1 8 Try.underlying24 hi hz0 hz1 hz2 rfl (by decide) v xs.length (xs.map (Value.int .i64)) hown ad 1 1 [.int .i64 y] rfl hc (by intro u hu; simp at hu; subst hu; rfl) (by unfold maxLen; omega) (by omega) hbase
  have h5 := append_where ad y hown hc hlen hbase v' w' o.type hr
  have h6 : OwnI base w' v' (xs ++ [y]) := by
    unfold OwnI
    rw [List.length_append, List.length_singleton, List.map_append]
    exact h2
  refine wpList_plain hgd fun _ hK => ?_
  unfold Oper.wp execOp
  simp only [ho, resolve, invoke, builtin, Sem.run_bind, Sem.run_pure, Result.andThen_ok, List.map_toArray, List.map_cons, List.map_nil, hs, hx, hr]
  exact hK _ _ (h v' w' h6 h3 h5)

end Go.Proofs.Ytlcmgihaelgclaa
