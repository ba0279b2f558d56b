/- The model's draws of lists: what each gives; lists that are appended to. -/
import Derived.Test.YtmcagpcldjopjaaDrawA
import Derived.Test.YtmcagpcldjopjaaOwn
namespace Go.Proofs.Ytmcagpcldjopjaa
open Go.ChangeShapes Go.WideShapes Go.ChangeAt Go.RowKit
set_option linter.unusedVariables false

/-- a slice of integers of the call's own, in blocks from 'base' on -/
def OwnI (base : Nat) (w : World) (v : Value) (xs : List Int) : Prop := w.ownsRow base 2 1 v xs.length (xs.map (Value.int .i64))

theorem infoI : (Try.prog.info? 2).map (fun i => (i.zero, i.size, i.bytes)) = some (some (.int .i64 0), 1, 8) := by kernel_rfl

theorem ownI_new (w : World) : OwnI w.heap.size (w.alloc (.cells #[] 2)) (.slice (some ⟨w.heap.size, 0, none⟩) 0 0) [] :=
  World.ownsRow_lit w #[] 0 (Nat.le_refl _) (Nat.zero_le _) rfl

theorem OwnI.same {base : Nat} {w w' : World} {v : Value} {xs : List Int} (h : OwnI base w v xs) (hb : ∀ k, base ≤ k → k < w.heap.size → w'.heap[k]? = w.heap[k]?) : OwnI base w' v xs := by
  obtain ⟨h0, h1 | ⟨g, cap, cur, hv, hg, hh, r⟩⟩ := h
  · exact ⟨h0, .inl h1⟩
  · have hlt : g < w.heap.size := by
      by_cases hl : g < w.heap.size
      · exact hl
      · have : w.heap[g]? = none := by simp; omega
        rw [this] at hh; cases hh
    exact ⟨h0, .inr ⟨g, cap, cur, hv, hg, by rw [hb g hg hlt]; exact hh, r⟩⟩

theorem OwnI.but {base B : Nat} {w w' : World} {v : Value} {xs : List Int} (h : OwnI base w v xs) (hb : But B w w') (hB : B < base) : OwnI base w' v xs :=
  h.same fun k hk hl => hb.block k hl (by omega)

theorem OwnI.mono {base b2 : Nat} {w : World} {v : Value} {xs : List Int} (h : OwnI base w v xs) (hb : b2 ≤ base) : OwnI b2 w v xs := by
  obtain ⟨h0, h1 | ⟨g, cap, cur, hv, hg, hh, r⟩⟩ := h
  · exact ⟨h0, .inl h1⟩
  · exact ⟨h0, .inr ⟨g, cap, cur, hv, by omega, hh, r⟩⟩

/-- its shape, and what it reads as -/
theorem OwnI.ints {base : Nat} {w : World} {v : Value} {xs : List Int} (h : OwnI base w v xs) (hm : xs.length ≤ 4611686018427387904) : ∃ a c, v = .slice a xs.length c ∧ Ints w a xs.length xs := by
  have hh := h
  obtain ⟨h0, ⟨rfl, hn⟩ | ⟨g, cap, cur, rfl, hg, hb, r⟩⟩ := h
  · rw [hn]
    exact ⟨none, 0, rfl, by simpa using hn, by omega, .inl rfl⟩
  · refine ⟨_, cap, rfl, rfl, hm, .inr ⟨g, 0, rfl, fun i hi => ?_⟩⟩
    rw [Nat.zero_add, hh.cellAt i (by omega)]
    simp [List.getD, hi]

theorem ownI_step {base : Nat} {wr w1 : World} {v v' : Value} {xs : List Int} {x : Int} {o : Obj} (hown : OwnI base wr v xs) (hbs : base ≤ wr.heap.size)
    (hown' : w1.ownsRow base 2 1 v' (xs.length + 1) (xs.map (Value.int .i64) ++ [.int .i64 x])) (hg : (wr.alloc o).grownBy w1 v.ownBlock) :
    OwnI base w1 v' (xs ++ [x]) ∧ Below base wr w1 := by
  constructor
  · unfold OwnI
    rw [List.length_append, List.length_singleton, List.map_append]
    exact hown'
  · exact ((Below.refl _ _).alloc hbs o).grown hg (by simp; omega) fun k hk => (hown.lt k hk).1

/-- a slice of numbers that a draw gives: whatever it holds -/
def ListPost (w : World) (e : Ending) (w' : World) : Prop := ∃ a l c xs, e = .returned (.slice a l c) ∧ Ints w' a l xs ∧ l ≤ 4096 ∧ Below w.heap.size w w'

theorem make_lit (l : Nat) (n : Int) (h : n = l) (hl : l ≤ 1048576) (w : World) :
    (Instr.makeSlice 24 (.int .i64 n) (.int .i64 n)).run Try.prog w = .ok (.slice (some ⟨w.heap.size, 0, none⟩) l l) (w.alloc (.cells ((List.replicate l (0 : Int)).map (Value.int .i64)).toArray 2)) := by
  subst h; exact make_ints l hl w

theorem made_list {w w4 : World} (l : Nat) (hl : l ≤ 4096) (hb : Below w.heap.size w w4) :
    ListPost w (.returned (.slice (some ⟨w4.heap.size, 0, none⟩) l l)) (w4.alloc (.cells ((List.replicate l (0 : Int)).map (Value.int .i64)).toArray 2)) :=
  ⟨_, l, l, List.replicate l 0, rfl, (Blk.new w4 _).ints (by simp) (by omega), hl, hb.trans ((Below.refl _ _).alloc hb.size _)⟩

end Go.Proofs.Ytmcagpcldjopjaa
