/- The model's draws of lists: what each gives; lists that are appended to. -/
import Derived.Test.YtjcedfafeakikaaDoorDrawA
import Derived.Test.YtjcedfafeakikaaDoorOwn
namespace Go.Proofs.YtjcedfafeakikaaDoor
open Go.ChangeShapes Go.WideShapes Go.ChangeAt Go.RowKit
set_option linter.unusedVariables false

/-- a slice of integers of the call's own, in blocks from 'base' on -/
def OwnI (base : Nat) (w : World) (v : Value) (xs : List Int) : Prop := w.ownsRow base 2 1 v xs.length (xs.map (Value.int .i64))

theorem infoI : (Tryd.prog.info? 2).map (fun i => (i.zero, i.size, i.bytes)) = some (some (.int .i64 0), 1, 8) := by kernel_rfl

theorem ownI_new (w : World) : OwnI w.heap.size (w.alloc (.cells #[] 2)) (.slice (some ⟨w.heap.size, 0, none⟩) 0 0) [] :=
  World.ownsRow_lit w #[] 0 (Nat.le_refl _) (Nat.zero_le _) rfl

theorem OwnI.same {base : Nat} {w w' : World} {v : Value} {xs : List Int} (h : OwnI base w v xs) (hb : ∀ k, base ≤ k → k < w.heap.size → w'.heap[k]? = w.heap[k]?) : OwnI base w' v xs := by
  obtain ⟨h0, h1 | ⟨g, cap, cur, hv, hg, hh, r⟩⟩ := h
  · exact ⟨h0, .inl h1⟩
  · have hlt : g < w.heap.size := by
      by_cases hl : g < w.heap.size
      · exact hl
      · have : w.heap[g]? = none := by simp; omega
        rw [this] at hh; cases hh
    exact ⟨h0, .inr ⟨g, cap, cur, hv, hg, by rw [hb g hg hlt]; exact hh, r⟩⟩

theorem OwnI.but {base B : Nat} {w w' : World} {v : Value} {xs : List Int} (h : OwnI base w v xs) (hb : But B w w') (hB : B < base) : OwnI base w' v xs :=
  h.same fun k hk hl => hb.block k hl (by omega)

theorem OwnI.mono {base b2 : Nat} {w : World} {v : Value} {xs : List Int} (h : OwnI base w v xs) (hb : b2 ≤ base) : OwnI b2 w v xs := by
  obtain ⟨h0, h1 | ⟨g, cap, cur, hv, hg, hh, r⟩⟩ := h
  · exact ⟨h0, .inl h1⟩
  · exact ⟨h0, .inr ⟨g, cap, cur, hv, by omega, hh, r⟩⟩

/-- its shape, and what it reads as -/
theorem OwnI.ints {base : Nat} {w : World} {v : Value} {xs : List Int} (h : OwnI base w v xs) (hm : xs.length ≤ 4611686018427387904) : ∃ a c, v = .slice a xs.length c ∧ Ints w a xs.length xs := by
  have hh := h
  obtain ⟨h0, ⟨rfl, hn⟩ | ⟨g, cap, cur, rfl, hg, hb, r⟩⟩ := h
  · rw [hn]
    exact ⟨none, 0, rfl, by simpa using hn, by omega, .inl rfl⟩
  · refine ⟨_, cap, rfl, rfl, hm, .inr ⟨g, 0, rfl, fun i hi => ?_⟩⟩
    rw [Nat.zero_add, hh.cellAt i (by omega)]
    simp [List.getD, hi]

theorem ownI_step {base : Nat} {wr w1 : World} {v v' : Value} {xs : List Int} {x : Int} {o : Obj} (hown : OwnI base wr v xs) (hbs : base ≤ wr.heap.size)
    (hown' : w1.ownsRow base 2 1 v' (xs.length + 1) (xs.map (Value.int .i64) ++ [.int .i64 x])) (hg : (wr.alloc o).grownBy w1 v.ownBlock) :
    OwnI base w1 v' (xs ++ [x]) ∧ Below base wr w1 := by
  constructor
  · unfold OwnI
    rw [List.length_append, List.length_singleton, List.map_append]
    exact hown'
  · exact ((Below.refl _ _).alloc hbs o).grown hg (by simp; omega) fun k hk => (hown.lt k hk).1

/-- a slice of numbers that a draw gives: whatever it holds -/
def ListPost (w : World) (e : Ending) (w' : World) : Prop := ∃ a l c xs, e = .returned (.slice a l c) ∧ Ints w' a l xs ∧ l ≤ 4096 ∧ Below w.heap.size w w'

theorem make_lit (l : Nat) (n : Int) (h : n = l) (hl : l ≤ 1048576) (w : World) :
    (Instr.makeSlice 29 (.int .i64 n) (.int .i64 n)).run Tryd.prog w = .ok (.slice (some ⟨w.heap.size, 0, none⟩) l l) (w.alloc (.cells ((List.replicate l (0 : Int)).map (Value.int .i64)).toArray 2)) := by
  subst h; exact make_ints l hl w

theorem made_list {w w4 : World} (l : Nat) (hl : l ≤ 4096) (hb : Below w.heap.size w w4) :
    ListPost w (.returned (.slice (some ⟨w4.heap.size, 0, none⟩) l l)) (w4.alloc (.cells ((List.replicate l (0 : Int)).map (Value.int .i64)).toArray 2)) :=
  ⟨_, l, l, List.replicate l 0, rfl, (Blk.new w4 _).ints (by simp) (by omega), hl, hb.trans ((Below.refl _ _).alloc hb.size _)⟩

set_option maxHeartbeats 1000000 in
theorem drawSO (a : Option Addr) (l c : Nat) (z : List Int) (w : World) (hr : IsRow .u8 w a l c z) : Calls Tryd.prog 12 #[.slice a l c] w (ListPost w) := by
  have HR := Lib.hid hr
  clear hr
  obtain ⟨i0, hi, hz0, hz1, hz2⟩ := info_parts infoI
  go_enter Tryd.func12, Tryd.ntmps12
  go_wp2_with fail
  refine (from_any _ _ _ z _ HR.out).mono ?_
  rintro e w1 ⟨rfl, hs, hz, hb⟩
  have HB := Lib.hid hb
  have HS := Lib.hid (ready_of HR.out hs hb)
  have HZ := Lib.hid hz
  have hown0 := ownI_new w1
  have hwz : w.heap.size < w1.heap.size := by omega
  clear hs hb hz
  go_wp2_with fail
  refine (next_r _ _ _ _ _ _ _ (HS.out.alloc _)).mono ?_
  rintro e w2 ⟨r, rfl, hd, ho, hs⟩
  have hbd := drawn_bd hd (by omega)
  have HO := Lib.hid (hown0.but ho hwz)
  have HW := Lib.hid (HB.out.trans (((Below.refl w.heap.size w1).alloc (by omega) (.cells #[] 2)).trans (ho.below (Nat.le_refl _) (by simp; omega))))
  have HS := Lib.hid hs
  have hw2 : w1.heap.size ≤ w2.heap.size := by have := ho.size; simp at this; omega
  clear hd ho hs hown0
  go_wp2_with fail
  go_loopw [4, 5] (fun v i wr => ∃ n xs, i = .int .i64 n ∧ 0 ≤ n ∧ n ≤ 12 ∧ xs.length + n.toNat ≤ 12 ∧ OwnI w1.heap.size wr v xs ∧ Hid (Ready w.heap.size a l c z wr) ∧ Hid (Below w.heap.size w wr) ∧ w1.heap.size ≤ wr.heap.size) (fun _ i _ => (intOf i).toNat)
  case atStart => exact ⟨r, [], rfl, hbd.1, by omega, by simp; omega, HO.out, HS, HW, hw2⟩
  case round =>
    obtain ⟨n, xs, rfl, hn0, hn12, hxs, hown, HS, HW, hwr⟩ := hrel
    by_cases hn : 0 < n
    · go_wp2_with fail
      refine (money_r _ _ _ _ _ _ HS.out).mono ?_
      rintro e w3 ⟨x, rfl, hd, ho, hs⟩
      have hown := hown.but ho hwz
      have HW := Lib.hid (HW.out.trans (ho.below (Nat.le_refl _) (by omega)))
      have HS := Lib.hid hs
      have hwr : w1.heap.size ≤ w3.heap.size := Nat.le_trans hwr ho.size
      clear hd ho hs
      by_cases hm : monB x = true
      · go_wp2_with (first | (go_at_call 25; refine (money_any _ _).mono ?_; rintro e w' ⟨rfl, rfl⟩) | (at_builtin; go_must (refine wpList_append_own _ rfl _ _ 29 rfl w1.heap.size 2 i0 (.int .i64 0) 1 8 Tryd.underlying29 hi hz0 hz1 hz2 rfl (by decide) _ _ _ rfl (hown.alloc _) ⟨w3.heap.size, 0, none⟩ 1 1 [.int .i64 x] rfl rfl ?c1_1 ?c1_2 ?c1_3 ?c1_4 ?c1_5 ?_)))
        case c1_1 =>
          intro j u hj
          match j, hj with
          | 0, hj => simp at hj; subst hj; simp [Addr.add]
        case c1_2 => intro u hu; simp at hu; subst hu; rfl
        case c1_3 => unfold maxLen; omega
        case c1_4 => omega
        case c1_5 => simp; omega
        intro v' w5 hown' hgrow _
        have R := ownI_step hown (by omega) hown' hgrow
        have HR5 := Lib.hid R
        clear R hown' hgrow hown
        go_wp2_with fail
        go_roundw
        case rel => exact ⟨n - 1, xs ++ [x], by go_num, by omega, by omega, by simp; omega, HR5.out.1, Lib.hid (HS.out.below HR5.out.2 hwz), Lib.hid (HW.out.trans (HR5.out.2.mono (by omega))), Nat.le_trans hwr HR5.out.2.size⟩
        case measure => simp [intOf]; omega
      · go_wp2_with (go_at_call 25; refine (money_any _ _).mono ?_; rintro e w' ⟨rfl, rfl⟩)
        refine (next_r _ _ _ _ _ _ _ HS.out).mono ?_
        rintro e w4 ⟨q, rfl, hd, ho, hs⟩
        have hown := hown.but ho hwz
        have HW := Lib.hid (HW.out.trans (ho.below (Nat.le_refl _) (by omega)))
        have HS := Lib.hid hs
        have hwr : w1.heap.size ≤ w4.heap.size := Nat.le_trans hwr ho.size
        clear hd ho hs
        by_cases hq : q = 0
        · subst hq
          go_wp2_with (first | (go_at_call 25; refine (money_any _ _).mono ?_; rintro e w' ⟨rfl, rfl⟩) | (at_builtin; go_must (refine wpList_append_own _ rfl _ _ 29 rfl w1.heap.size 2 i0 (.int .i64 0) 1 8 Tryd.underlying29 hi hz0 hz1 hz2 rfl (by decide) _ _ _ rfl (hown.alloc _) ⟨w4.heap.size, 0, none⟩ 1 1 [.int .i64 x] rfl rfl ?c2_1 ?c2_2 ?c2_3 ?c2_4 ?c2_5 ?_)))
          case c2_1 =>
            intro j u hj
            match j, hj with
            | 0, hj => simp at hj; subst hj; simp [Addr.add]
          case c2_2 => intro u hu; simp at hu; subst hu; rfl
          case c2_3 => unfold maxLen; omega
          case c2_4 => omega
          case c2_5 => simp; omega
          intro v' w5 hown' hgrow _
          have R := ownI_step hown (by omega) hown' hgrow
          have HR5 := Lib.hid R
          clear R hown' hgrow hown
          go_wp2_with fail
          go_roundw
          case rel => exact ⟨n - 1, xs ++ [x], by go_num, by omega, by omega, by simp; omega, HR5.out.1, Lib.hid (HS.out.below HR5.out.2 hwz), Lib.hid (HW.out.trans (HR5.out.2.mono (by omega))), Nat.le_trans hwr HR5.out.2.size⟩
          case measure => simp [intOf]; omega
        · have hqb : (q == 0) = false := by simpa using hq
          go_wp2_with fail
          go_roundw
          case rel => exact ⟨n - 1, xs, by go_num, by omega, by omega, by omega, hown, HS, HW, hwr⟩
          case measure => simp [intOf]; omega
    · obtain rfl : n = 0 := by omega
      go_wp2_with fail
      refine (next_r _ _ _ _ _ _ _ HS.out).mono ?_
      rintro e w3 ⟨r, rfl, hd, ho, hs⟩
      have hown := hown.but ho hwz
      have HW := Lib.hid (HW.out.trans (ho.below (Nat.le_refl _) (by omega)))
      have HS := Lib.hid hs
      clear hd ho hs
      by_cases hr : r = 0
      · subst hr
        go_wp2_with fail
        refine (next_r _ _ _ _ _ _ _ HS.out).mono ?_
        rintro e w4 ⟨q, rfl, hd, ho, hs⟩
        have hqb := drawn_bd hd (by omega)
        have HW := Lib.hid (HW.out.trans (ho.below (Nat.le_refl _) (by have := HW.out.size; omega)))
        clear hd ho hs hown
        have hmk0 := make_lit 130 130 rfl (by omega)
        have hmk1 := make_lit 131 131 rfl (by omega)
        have hqq : q = 0 ∨ q = 1 := by omega
        clear hqb
        rcases hqq with rfl | rfl
        · go_wp2_with fail
          go_ret
          exact made_list 130 (by omega) HW.out
        · go_wp2_with fail
          go_ret
          exact made_list 131 (by omega) HW.out
      · have hrb : (r == 0) = false := by simpa using hr
        obtain ⟨ad, cp, rfl, hin⟩ := hown.ints (by omega)
        have HI := Lib.hid hin
        clear hin hown
        go_wp2_with fail
        go_ret
        exact ⟨_, _, _, xs, rfl, HI.out, by omega, HW.out⟩

end Go.Proofs.YtjcedfafeakikaaDoor
