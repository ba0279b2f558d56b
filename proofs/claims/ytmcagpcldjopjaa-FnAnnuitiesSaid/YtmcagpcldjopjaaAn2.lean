/- Merged: DrawS, App, Eq, Mark, RowI, Tab, Div. -/
import Derived.Test.YtmcagpcldjopjaaAn1

/- The model's draws of lists: what each gives; lists that are appended to. -/
namespace Go.Proofs.Ytmcagpcldjopjaa
open Go.ChangeShapes Go.WideShapes Go.ChangeAt Go.RowKit
set_option linter.unusedVariables false

/-- a slice of integers of the call's own, in blocks from 'base' on -/
def OwnI (base : Nat) (w : World) (v : Value) (xs : List Int) : Prop := w.ownsRow base 2 1 v xs.length (xs.map (Value.int .i64))

theorem infoI : (Try.prog.info? 2).map (fun i => (i.zero, i.size, i.bytes)) = some (some (.int .i64 0), 1, 8) := by kernel_rfl

theorem ownI_new (w : World) : OwnI w.heap.size (w.alloc (.cells #[] 2)) (.slice (some ⟨w.heap.size, 0, none⟩) 0 0) [] :=
  World.ownsRow_lit w #[] 0 (Nat.le_refl _) (Nat.zero_le _) rfl

theorem OwnI.same {base : Nat} {w w' : World} {v : Value} {xs : List Int} (h : OwnI base w v xs) (hb : ∀ k, base ≤ k → k < w.heap.size → w'.heap[k]? = w.heap[k]?) : OwnI base w' v xs := by
  obtain ⟨h0, h1 | ⟨g, cap, cur, hv, hg, hh, r⟩⟩ := h
  · exact ⟨h0, .inl h1⟩
  · have hlt : g < w.heap.size := by
      by_cases hl : g < w.heap.size
      · exact hl
      · have : w.heap[g]? = none := by simp; omega
        rw [this] at hh; cases hh
    exact ⟨h0, .inr ⟨g, cap, cur, hv, hg, by rw [hb g hg hlt]; exact hh, r⟩⟩

theorem OwnI.but {base B : Nat} {w w' : World} {v : Value} {xs : List Int} (h : OwnI base w v xs) (hb : But B w w') (hB : B < base) : OwnI base w' v xs :=
  h.same fun k hk hl => hb.block k hl (by omega)

theorem OwnI.mono {base b2 : Nat} {w : World} {v : Value} {xs : List Int} (h : OwnI base w v xs) (hb : b2 ≤ base) : OwnI b2 w v xs := by
  obtain ⟨h0, h1 | ⟨g, cap, cur, hv, hg, hh, r⟩⟩ := h
  · exact ⟨h0, .inl h1⟩
  · exact ⟨h0, .inr ⟨g, cap, cur, hv, by omega, hh, r⟩⟩

/-- its shape, and what it reads as -/
theorem OwnI.ints {base : Nat} {w : World} {v : Value} {xs : List Int} (h : OwnI base w v xs) (hm : xs.length ≤ 4611686018427387904) : ∃ a c, v = .slice a xs.length c ∧ Ints w a xs.length xs := by
  have hh := h
  obtain ⟨h0, ⟨rfl, hn⟩ | ⟨g, cap, cur, rfl, hg, hb, r⟩⟩ := h
  · rw [hn]
    exact ⟨none, 0, rfl, by simpa using hn, by omega, .inl rfl⟩
  · refine ⟨_, cap, rfl, rfl, hm, .inr ⟨g, 0, rfl, fun i hi => ?_⟩⟩
    rw [Nat.zero_add, hh.cellAt i (by omega)]
    simp [List.getD, hi]

theorem ownI_step {base : Nat} {wr w1 : World} {v v' : Value} {xs : List Int} {x : Int} {o : Obj} (hown : OwnI base wr v xs) (hbs : base ≤ wr.heap.size)
    (hown' : w1.ownsRow base 2 1 v' (xs.length + 1) (xs.map (Value.int .i64) ++ [.int .i64 x])) (hg : (wr.alloc o).grownBy w1 v.ownBlock) :
    OwnI base w1 v' (xs ++ [x]) ∧ Below base wr w1 := by
  constructor
  · unfold OwnI
    rw [List.length_append, List.length_singleton, List.map_append]
    exact hown'
  · exact ((Below.refl _ _).alloc hbs o).grown hg (by simp; omega) fun k hk => (hown.lt k hk).1

/-- a slice of numbers that a draw gives: whatever it holds -/
def ListPost (w : World) (e : Ending) (w' : World) : Prop := ∃ a l c xs, e = .returned (.slice a l c) ∧ Ints w' a l xs ∧ l ≤ 4096 ∧ Below w.heap.size w w'

theorem make_lit (l : Nat) (n : Int) (h : n = l) (hl : l ≤ 1048576) (w : World) :
    (Instr.makeSlice 24 (.int .i64 n) (.int .i64 n)).run Try.prog w = .ok (.slice (some ⟨w.heap.size, 0, none⟩) l l) (w.alloc (.cells ((List.replicate l (0 : Int)).map (Value.int .i64)).toArray 2)) := by
  subst h; exact make_ints l hl w

theorem made_list {w w4 : World} (l : Nat) (hl : l ≤ 4096) (hb : Below w.heap.size w w4) :
    ListPost w (.returned (.slice (some ⟨w4.heap.size, 0, none⟩) l l)) (w4.alloc (.cells ((List.replicate l (0 : Int)).map (Value.int .i64)).toArray 2)) :=
  ⟨_, l, l, List.replicate l 0, rfl, (Blk.new w4 _).ints (by simp) (by omega), hl, hb.trans ((Below.refl _ _).alloc hb.size _)⟩

end Go.Proofs.Ytmcagpcldjopjaa

/- append onto a list of the call's own that stands beside another. -/
namespace Go.Proofs.Ytmcagpcldjopjaa
open Go.ChangeShapes Go.WideShapes Go.ChangeAt Go.RowKit
set_option linter.unusedVariables false

theorem ok_value {α : Type} {v v' : α} {w w' : World} (h : (Result.ok v w : Result α) = .ok v' w') : v = v' := by cases h; rfl

/-- where the list lies behind an append: in its own block still, or in a new one -/
theorem append_where {w : World} {base : Nat} {v : Value} {xs : List Int} (ad : Addr) (y : Int) (hown : OwnI base w v xs) (hc : ∀ j u, [Value.int .i64 y][j]? = some u → w.cell? (ad.add j) = some u) (hlen : xs.length ≤ 4096) (hbase : base ≤ w.heap.size)
    (v' : Value) (w' : World) (ty : TypeId) (hr : (Builtin.append_ #[24, 24] ty #[v, .slice (some ad) 1 1]).run Try.prog w = .ok v' w') : v'.ownBlock = v.ownBlock ∨ v'.ownBlock = some w.heap.size := by
  obtain ⟨i0, hi, hz0, hz1, hz2⟩ := info_parts infoI
  have hm : maxLen = maxLen := rfl
  unfold maxLen at hm
  have hh := hown
  rcases hown.2 with ⟨rfl, hn⟩ | ⟨g, cap, cur, rfl, hbg, hg, hnc, hcm, hcs, htake⟩
  · right
    have h0 := run_append_nil (P := Try.prog) w 24 ty 2 i0 (.int .i64 0) Try.underlying24 hi hz0 ad 1 1 [.int .i64 y] (by rw [hz1]; rfl) hc (by omega) (by omega) (by rw [hz2]; omega)
    rw [h0] at hr
    rw [← ok_value hr]; rfl
  · by_cases hroom : xs.length + 1 ≤ cap
    · left
      have h0 := run_append_room (P := Try.prog) w 24 ty 2 i0 Try.underlying24 hi g xs.length cap cur hg ad 1 1 [.int .i64 y] (by rw [hz1]; rfl) hc (by intro u hu; simp at hu; subst hu; rfl) hroom (by rw [hz1, hcs]; simp; omega)
      rw [h0] at hr
      rw [← ok_value hr]; rfl
    · right
      have holds := World.ownsRow.cells hh (g := g) rfl
      have h0 := run_append_grow (P := Try.prog) w 24 ty 2 i0 (.int .i64 0) Try.underlying24 hi hz0 ⟨g, 0, none⟩ xs.length cap (xs.map (Value.int .i64)) (by rw [hz1]; simp) holds ad 1 1 [.int .i64 y] (by rw [hz1]; rfl) hc (by omega) (by omega) (growslice_fits (by omega) (by rw [hz2]; omega))
      rw [h0] at hr
      rw [← ok_value hr]; rfl

theorem wpList_app {w : World} {ops : Array Oper} {rest : List Oper} {o : Oper} {a : Act} {Q : Exit → Act → World → Prop} (hgd : o.guard = none) (s x : Operand)
    (ho : o.op = .call { callee := .builtin .append, args := #[s, x], argTypes := #[24, 24] })
    (base : Nat) (v : Value) (xs : List Int) (y : Int) (hs : a.eval s = v) (hown : OwnI base w v xs) (ad : Addr) (hx : a.eval x = .slice (some ad) 1 1) (hc : ∀ j u, [Value.int .i64 y][j]? = some u → w.cell? (ad.add j) = some u)
    (hlen : xs.length ≤ 4096) (hbase : base ≤ w.heap.size)
    (h : ∀ v' w', OwnI base w' v' (xs ++ [y]) → w.grownBy w' v.ownBlock → (v'.ownBlock = v.ownBlock ∨ v'.ownBlock = some w.heap.size) → wpList Try.prog ops Q rest (a.put o.dst v') w') : wpList Try.prog ops Q (o :: rest) a w := by
  obtain ⟨i0, hi, hz0, hz1, hz2⟩ := info_parts infoI
  have hm : maxLen = maxLen := rfl
  unfold maxLen at hm
  obtain ⟨v', w', hr, h2, h3, h4⟩ := run_append_own (P := Try.prog) w base 24 o.type 2 i0 (.int .i64 0) 1 8 Try.underlying24 hi hz0 hz1 hz2 rfl (by decide) v xs.length (xs.map (Value.int .i64)) hown ad 1 1 [.int .i64 y] rfl hc (by intro u hu; simp at hu; subst hu; rfl) (by unfold maxLen; omega) (by omega) hbase
  have h5 := append_where ad y hown hc hlen hbase v' w' o.type hr
  have h6 : OwnI base w' v' (xs ++ [y]) := by
    unfold OwnI
    rw [List.length_append, List.length_singleton, List.map_append]
    exact h2
  refine wpList_plain hgd fun _ hK => ?_
  unfold Oper.wp execOp
  simp only [ho, resolve, invoke, builtin, Sem.run_bind, Sem.run_pure, Result.andThen_ok, List.map_toArray, List.map_cons, List.map_nil, hs, hx, hr]
  exact hK _ _ (h v' w' h6 h3 h5)

end Go.Proofs.Ytmcagpcldjopjaa

/- Slices of integers compared, marked and looked at again: what each call returns. -/
namespace Go.Proofs.Ytmcagpcldjopjaa
open Go.ChangeShapes Go.WideShapes Go.ChangeAt Go.RowKit
set_option linter.unusedVariables false

theorem take_eq_snoc {xs ys : List Int} {k : Nat} (h : xs.take k = ys.take k) (hx : k < xs.length) (hy : k < ys.length) (e : xs.getD k 0 = ys.getD k 0) : xs.take (k + 1) = ys.take (k + 1) := by
  rw [List.take_add_one, List.take_add_one, h, List.getElem?_eq_getElem hx, List.getElem?_eq_getElem hy]
  simp [List.getD, List.getElem?_eq_getElem hx, List.getElem?_eq_getElem hy] at e
  rw [e]

theorem eqS_any (xs ys : List Int) (a b : Option Addr) (l m c d : Nat) (w : World) (h : Ints w a l xs) (g : Ints w b m ys) :
    Calls Try.prog 39 #[.slice a l c, .slice b m d] w fun e w' => e = .returned (.bool (decide (xs = ys))) ∧ ∃ n, w' = w.drewN n := by
  have HX := Lib.hid h.len
  have HY := Lib.hid g.len
  have H := Lib.hid h
  have G := Lib.hid g
  have hm := h.max
  have gm := g.max
  clear h g
  by_cases hlm : l = m
  · subst hlm
    go_enter Try.func39, Try.ntmps39
    go_wp2_with fail
    go_loopw [5] (fun i wr => ∃ k : Nat, k ≤ l ∧ i = .int .i64 k ∧ Hid (xs.take k = ys.take k) ∧ Hid (∃ n, wr = w.drewN n)) (fun i _ => l - (intOf i).toNat)
    case atStart => exact ⟨0, Nat.zero_le _, rfl, Lib.hid (by simp), Lib.hid ⟨0, rfl⟩⟩
    case round =>
      obtain ⟨k, hk, rfl, HK, HW⟩ := hrel
      by_cases hlt : k < l
      · rcases H.out.cells with h0 | ⟨b1, o1, rfl, hc⟩
        · omega
        rcases G.out.cells with h0 | ⟨b2, o2, rfl, gc⟩
        · omega
        have hx := hc k hlt
        have hy := gc k hlt
        obtain ⟨u, hu⟩ : ∃ u, xs.getD k 0 = u := ⟨_, rfl⟩
        obtain ⟨v, hv⟩ : ∃ v, ys.getD k 0 = v := ⟨_, rfl⟩
        rw [hu] at hx
        rw [hv] at hy
        have hxr : wr.cell? ⟨b1, o1 + k, none⟩ = some (.int .i64 u) := by obtain ⟨n, rfl⟩ := HW.out; exact hx
        have hyr : wr.cell? ⟨b2, o2 + k, none⟩ = some (.int .i64 v) := by obtain ⟨n, rfl⟩ := HW.out; exact hy
        have HU := Lib.hid hu
        have HV := Lib.hid hv
        have HC := Lib.hid hc
        have GC := Lib.hid gc
        clear hu hv hc gc hx hy
        by_cases huv : u = v
        · subst huv
          go_wp2_with fail
          go_quiet (fail)
          go_wp2_with fail
          go_roundw
          case rel => exact ⟨k + 1, by omega, by go_num, Lib.hid (take_eq_snoc HK.out (by rw [HX.out]; exact hlt) (by rw [HY.out]; exact hlt) (by rw [HU.out, HV.out])), Lib.hid (by obtain ⟨n, hn⟩ := HW.out; exact ⟨n + nq, by rw [hn, World.drewN_drewN]⟩)⟩
          case measure => simp [intOf]; omega
        · have hB : (u != v) = true := by simpa using huv
          have HN := Lib.hid huv
          clear huv
          go_wp2_with fail
          go_quiet (fail)
          go_wp2_with fail
          go_ret
          exact ⟨ret_bool (by rw [eq_comm, decide_eq_false_iff_not]; intro e; rw [e, HV.out] at HU; exact HN.out HU.out.symm), by obtain ⟨n, hn⟩ := HW.out; exact ⟨n + nq, by rw [hn, World.drewN_drewN]⟩⟩
      · go_wp2_with fail
        go_ret
        obtain rfl : k = l := by omega
        have e := HK.out
        rw [List.take_of_length_le (by rw [HX.out]; exact Nat.le_refl _), List.take_of_length_le (by rw [HY.out]; exact Nat.le_refl _)] at e
        exact ⟨ret_bool (by rw [eq_comm, decide_eq_true_iff]; exact e), HW.out⟩
  · have hne : ((l : Int) != (m : Int)) = true := by simpa using by omega
    go_enter Try.func39, Try.ntmps39
    go_wp2_with fail
    go_ret
    exact ⟨ret_bool (by rw [eq_comm, decide_eq_false_iff_not]; intro e; subst e; exact hlm (HX.out.symm.trans HY.out)), 0, rfl⟩

theorem like_any (xs ys : List Int) (a b : Option Addr) (l m c d : Nat) (w : World) (h : Ints w a l xs) (g : Ints w b m ys) :
    Calls Try.prog 35 #[.slice a l c, .slice b m d] w fun e w' => e = .returned (.bool (decide (xs = ys))) ∧ ∃ n, w' = w.drewN n := by
  have HX := Lib.hid h.len
  have HY := Lib.hid g.len
  have H := Lib.hid h
  have G := Lib.hid g
  have hm := h.max
  have gm := g.max
  clear h g
  by_cases hlm : l = m
  · subst hlm
    go_enter Try.func35, Try.ntmps35
    go_wp2_with fail
    go_loopw [5] (fun i wr => ∃ k : Nat, k ≤ l ∧ i = .int .i64 k ∧ Hid (xs.take k = ys.take k) ∧ Hid (∃ n, wr = w.drewN n)) (fun i _ => l - (intOf i).toNat)
    case atStart => exact ⟨0, Nat.zero_le _, rfl, Lib.hid (by simp), Lib.hid ⟨0, rfl⟩⟩
    case round =>
      obtain ⟨k, hk, rfl, HK, HW⟩ := hrel
      by_cases hlt : k < l
      · rcases H.out.cells with h0 | ⟨b1, o1, rfl, hc⟩
        · omega
        rcases G.out.cells with h0 | ⟨b2, o2, rfl, gc⟩
        · omega
        have hx := hc k hlt
        have hy := gc k hlt
        obtain ⟨u, hu⟩ : ∃ u, xs.getD k 0 = u := ⟨_, rfl⟩
        obtain ⟨v, hv⟩ : ∃ v, ys.getD k 0 = v := ⟨_, rfl⟩
        rw [hu] at hx
        rw [hv] at hy
        have hxr : wr.cell? ⟨b1, o1 + k, none⟩ = some (.int .i64 u) := by obtain ⟨n, rfl⟩ := HW.out; exact hx
        have hyr : wr.cell? ⟨b2, o2 + k, none⟩ = some (.int .i64 v) := by obtain ⟨n, rfl⟩ := HW.out; exact hy
        have HU := Lib.hid hu
        have HV := Lib.hid hv
        have HC := Lib.hid hc
        have GC := Lib.hid gc
        clear hu hv hc gc hx hy
        by_cases huv : u = v
        · subst huv
          go_wp2_with fail
          go_quiet (fail)
          go_wp2_with fail
          go_roundw
          case rel => exact ⟨k + 1, by omega, by go_num, Lib.hid (take_eq_snoc HK.out (by rw [HX.out]; exact hlt) (by rw [HY.out]; exact hlt) (by rw [HU.out, HV.out])), Lib.hid (by obtain ⟨n, hn⟩ := HW.out; exact ⟨n + nq, by rw [hn, World.drewN_drewN]⟩)⟩
          case measure => simp [intOf]; omega
        · have hB : (u != v) = true := by simpa using huv
          have HN := Lib.hid huv
          clear huv
          go_wp2_with fail
          go_quiet (fail)
          go_wp2_with fail
          go_ret
          exact ⟨ret_bool (by rw [eq_comm, decide_eq_false_iff_not]; intro e; rw [e, HV.out] at HU; exact HN.out HU.out.symm), by obtain ⟨n, hn⟩ := HW.out; exact ⟨n + nq, by rw [hn, World.drewN_drewN]⟩⟩
      · go_wp2_with fail
        go_ret
        obtain rfl : k = l := by omega
        have e := HK.out
        rw [List.take_of_length_le (by rw [HX.out]; exact Nat.le_refl _), List.take_of_length_le (by rw [HY.out]; exact Nat.le_refl _)] at e
        exact ⟨ret_bool (by rw [eq_comm, decide_eq_true_iff]; exact e), HW.out⟩
  · have hne : ((l : Int) != (m : Int)) = true := by simpa using by omega
    go_enter Try.func35, Try.ntmps35
    go_wp2_with fail
    go_ret
    exact ⟨ret_bool (by rw [eq_comm, decide_eq_false_iff_not]; intro e; subst e; exact hlm (HX.out.symm.trans HY.out)), 0, rfl⟩

end Go.Proofs.Ytmcagpcldjopjaa

/- Slices of integers marked and looked at again: what each call returns. -/
namespace Go.Proofs.Ytmcagpcldjopjaa
open Go.ChangeShapes Go.WideShapes Go.ChangeAt Go.RowKit
set_option linter.unusedVariables false

/-- k, k + 1, .. : n numbers -/
def marks (k : Int) (n : Nat) : List Int := (List.range n).map fun (j : Nat) => k + (j : Int)

theorem marks_len (k : Int) (n : Nat) : (marks k n).length = n := by simp [marks]

theorem marks_get (k : Int) (n j : Nat) (h : j < n) : (marks k n).getD j 0 = k + j := by simp [marks, List.getD, h]

theorem marks_snoc (k : Int) (n : Nat) : marks k (n + 1) = marks k n ++ [k + n] := by simp [marks, List.range_succ]

theorem mark_step (ys : List Int) (k : Nat) (q : Int) (h : k < ys.length) : (marks q k ++ ys.drop k).set k (q + k) = marks q (k + 1) ++ ys.drop (k + 1) := by
  rw [List.set_append_right _ _ (by rw [marks_len]; exact Nat.le_refl _), marks_len, Nat.sub_self, marks_snoc, List.append_assoc]
  congr 1
  rw [List.drop_eq_getElem_cons h]
  rfl

theorem mark_any (ys : List Int) (B l c : Nat) (q : Int) (w : World) (h : Blk w B ys) (hy : ys.length = l) (hl : l ≤ 1048576) (q0 : 0 ≤ q) (q1 : q ≤ 1099511627776) :
    Calls Try.prog 41 #[.slice (some ⟨B, 0, none⟩) l c, .int .i64 q] w fun e w' => e = .returned (.int .i64 (q + l)) ∧ Blk w' B (marks q l) ∧ Only B w w' := by
  have HY := Lib.hid hy
  have H := Lib.hid h
  clear h hy
  go_enter Try.func41, Try.ntmps41
  go_wp2_with fail
  go_loopw [1, 5] (fun s i wr => ∃ k : Nat, k ≤ l ∧ i = .int .i64 k ∧ s = .int .i64 (q + k) ∧ Hid (Blk wr B (marks q k ++ ys.drop k)) ∧ Hid (Only B w wr)) (fun _ i _ => l - (intOf i).toNat)
  case atStart => exact ⟨0, Nat.zero_le _, rfl, by simp, Lib.hid (by simpa [marks] using H.out), Lib.hid (Only.refl _ _)⟩
  case round =>
    obtain ⟨k, hk, rfl, rfl, HB, HO⟩ := hrel
    by_cases hlt : k < l
    · have hx := HB.out.cell k (by simp [marks_len]; have := HY.out; omega)
      have hf := HB.out.free k
      obtain ⟨u, hu⟩ : ∃ u, (marks q k ++ ys.drop k).getD k 0 = u := ⟨_, rfl⟩
      rw [hu] at hx
      clear hu
      go_wp2_with fail
      go_roundw
      case rel => exact ⟨k + 1, by omega, by go_num, by go_num, Lib.hid (by have := HB.out.set k (q + k); rw [mark_step _ _ _ (by rw [HY.out]; exact hlt)] at this; exact this), Lib.hid (HO.out.setCell (p := ⟨B, k, none⟩) rfl _)⟩
      case measure => simp [intOf]; omega
    · go_wp2_with fail
      go_ret
      obtain rfl : k = l := by omega
      refine ⟨rfl, ?_, HO.out⟩
      have := HB.out
      rw [List.drop_of_length_le (by rw [HY.out]; exact Nat.le_refl _), List.append_nil] at this
      exact this

theorem mark_nil (a : Option Addr) (c : Nat) (q : Int) (w : World) :
    Calls Try.prog 41 #[.slice a 0 c, .int .i64 q] w fun e w' => e = .returned (.int .i64 q) ∧ w = w' := by
  go_enter Try.func41, Try.ntmps41
  go_wp2_with fail
  go_loop [1, 5] (fun s i => i = .int .i64 0 ∧ s = .int .i64 q) (fun _ _ => 0)
  case atStart => exact ⟨rfl, rfl⟩
  case round =>
    obtain ⟨rfl, rfl⟩ := hrel
    go_wp2_with fail
    go_ret
    exact ⟨rfl, rfl⟩

theorem held_any (a : Option Addr) (l c : Nat) (q : Int) (w : World) (h : Ints w a l (marks q l)) (hl : l ≤ 1048576) (q0 : 0 ≤ q) (q1 : q ≤ 1099511627776) :
    Calls Try.prog 42 #[.slice a l c, .int .i64 q] w fun e w' => e = .returned (.int .i64 (q + l)) ∧ w = w' := by
  have H := Lib.hid h
  clear h
  go_enter Try.func42, Try.ntmps42
  go_wp2_with fail
  go_loop [1, 5] (fun s i => ∃ k : Nat, k ≤ l ∧ i = .int .i64 k ∧ s = .int .i64 (q + k)) (fun _ i => l - (intOf i).toNat)
  case atStart => exact ⟨0, Nat.zero_le _, rfl, by simp⟩
  case round =>
    obtain ⟨k, hk, rfl, rfl⟩ := hrel
    by_cases hlt : k < l
    · rcases H.out.cells with h0 | ⟨b, off, rfl, hc⟩
      · omega
      have hx := hc k hlt
      rw [marks_get _ _ _ hlt] at hx
      have HC := Lib.hid hc
      clear hc
      go_wp2_with fail
      go_round
      case rel => exact ⟨k + 1, by omega, by go_num, by go_num⟩
      case measure => simp [intOf]; omega
    · go_wp2_with fail
      go_ret
      obtain rfl : k = l := by omega
      exact ⟨rfl, rfl⟩

end Go.Proofs.Ytmcagpcldjopjaa

/- Lists of integers that a call has handed over, nil or cells of a block: they may be written, marked, looked at again. -/
namespace Go.Proofs.Ytmcagpcldjopjaa
open Go.ChangeShapes Go.WideShapes Go.ChangeAt Go.RowKit
set_option linter.unusedVariables false

/-- cells of a block that may be written -/
structure RowI (w : World) (g off : Nat) (ys : List Int) : Prop where
  cell : ∀ i, i < ys.length → w.cell? ⟨g, off + i, none⟩ = some (.int .i64 (ys.getD i 0))
  free : ∀ i, i < ys.length → w.frozen? ⟨g, off + i, none⟩ = false

theorem RowI.below {w w1 : World} {g off B : Nat} {ys : List Int} (h : RowI w g off ys) (hb : Below B w w1) (hg : g < B) : RowI w1 g off ys :=
  ⟨fun i hi => (hb.cell (p := ⟨g, off + i, none⟩) hg).trans (h.cell i hi), fun i hi => (hb.frozen (p := ⟨g, off + i, none⟩) hg).trans (h.free i hi)⟩

theorem RowI.lt {w : World} {g off : Nat} {ys : List Int} (h : RowI w g off ys) (hl : 0 < ys.length) : g < w.heap.size := block_lt (h.cell 0 hl)

theorem RowI.on {w w1 : World} {g off : Nat} {ys : List Int} (h : RowI w g off ys) (hb : Below w.heap.size w w1) : RowI w1 g off ys := by
  by_cases hl : 0 < ys.length
  · exact h.below hb (h.lt hl)
  · exact ⟨fun i hi => by omega, fun i hi => by omega⟩

theorem RowI.only {w w1 : World} {g off B : Nat} {ys : List Int} (h : RowI w g off ys) (hb : Only B w w1) (hg : g ≠ B) : RowI w1 g off ys :=
  ⟨fun i hi => (hb.cell (p := ⟨g, off + i, none⟩) hg).trans (h.cell i hi), fun i hi => (hb.frozen (p := ⟨g, off + i, none⟩) hg).trans (h.free i hi)⟩

theorem RowI.ints {w : World} {g off l : Nat} {ys : List Int} (h : RowI w g off ys) (hl : ys.length = l) (hm : l ≤ 4611686018427387904) : Ints w (some ⟨g, off, none⟩) l ys :=
  ⟨hl, hm, .inr ⟨g, off, rfl, fun i hi => h.cell i (by omega)⟩⟩

theorem OwnI.row {base g c : Nat} {w : World} {xs : List Int} (h : OwnI base w (.slice (some ⟨g, 0, none⟩) xs.length c) xs) : RowI w g 0 xs := by
  have hh := h
  obtain ⟨_, h0 | ⟨g', cap, cur, hv, _, hb, _⟩⟩ := h
  · exact absurd h0.1 (by simp)
  · simp only [Value.slice.injEq, Option.some.injEq, Addr.mk.injEq] at hv
    obtain ⟨⟨rfl, _⟩, _⟩ := hv
    refine ⟨fun i hi => ?_, fun i _ => frozen_of_row w _ _ _ _ hb⟩
    rw [Nat.zero_add, hh.cellAt i (by omega)]
    simp [List.getD, hi]

/-- a list that a call has handed over: nil, or cells of a block from 'base' on -/
def TbR (base : Nat) (w : World) (a : Option Addr) (n : Nat) (ys : List Int) : Prop :=
  ys.length = n ∧ n ≤ 4096 ∧ ((a = none ∧ n = 0) ∨ ∃ g off, a = some ⟨g, off, none⟩ ∧ base ≤ g ∧ g < w.heap.size ∧ RowI w g off ys)

theorem TbR.ints {base n : Nat} {w : World} {a : Option Addr} {ys : List Int} (h : TbR base w a n ys) : Ints w a n ys := by
  obtain ⟨h1, h2, ⟨rfl, rfl⟩ | ⟨g, off, rfl, _, _, hr⟩⟩ := h
  · exact ⟨h1, by omega, .inl rfl⟩
  · exact hr.ints h1 (by omega)

/-- of what was there only a's block may have turned -/
structure ButA (a : Option Addr) (w w' : World) : Prop where
  os : w'.os = w.os
  tape : w'.tape = w.tape
  output : w'.output = w.output
  size : w.heap.size ≤ w'.heap.size
  block : ∀ k, k < w.heap.size → (∀ x, a = some x → x.block ≠ k) → w'.heap[k]? = w.heap[k]?

theorem below_butA {a : Option Addr} {w w' : World} (h : Below w.heap.size w w') : ButA a w w' := ⟨h.os, h.tape, h.output, h.size, fun k hk _ => h.block k hk⟩

theorem ButA.trans {a : Option Addr} {w1 w2 w3 : World} (h : ButA a w1 w2) (k : ButA a w2 w3) : ButA a w1 w3 :=
  ⟨k.os.trans h.os, k.tape.trans h.tape, k.output.trans h.output, Nat.le_trans h.size k.size, fun i hi hb => (k.block i (Nat.lt_of_lt_of_le hi h.size) hb).trans (h.block i hi hb)⟩

theorem TbR.far {base n : Nat} {w : World} {a : Option Addr} {ys : List Int} (h : TbR base w a n ys) : ∀ x, a = some x → base ≤ x.block ∧ x.block < w.heap.size := by
  intro x hx
  obtain ⟨_, _, ⟨rfl, _⟩ | ⟨g, off, rfl, hb, hg, _⟩⟩ := h
  · cases hx
  · cases hx; exact ⟨hb, hg⟩

theorem ButA.low {a : Option Addr} {B : Nat} {w w' : World} (h : ButA a w w') (ha : ∀ x, a = some x → B ≤ x.block) (hB : B ≤ w.heap.size) : Below B w w' :=
  ⟨h.os, h.tape, h.output, h.size, fun k hk => h.block k (by omega) (fun x hx => by have := ha x hx; omega)⟩

theorem ButA.cell {a : Option Addr} {w w' : World} (h : ButA a w w') {p : Addr} {v : Value} (hc : w.cell? p = some v) (hn : ∀ x, a = some x → x.block ≠ p.block) : w'.cell? p = some v :=
  (World.cell?_of_block (w := w) (h.block p.block (block_lt hc) hn)).trans hc

theorem TbR.on {base n : Nat} {w w' : World} {a : Option Addr} {ys : List Int} (h : TbR base w a n ys) (hb : Below w.heap.size w w') : TbR base w' a n ys := by
  obtain ⟨h1, h2, h3 | ⟨g, off, rfl, hb1, hg, hr⟩⟩ := h
  · exact ⟨h1, h2, .inl h3⟩
  · exact ⟨h1, h2, .inr ⟨g, off, rfl, hb1, Nat.lt_of_lt_of_le hg hb.size, hr.on hb⟩⟩

theorem TbR.mono {base b2 n : Nat} {w : World} {a : Option Addr} {ys : List Int} (h : TbR base w a n ys) (hb : b2 ≤ base) : TbR b2 w a n ys := by
  obtain ⟨h1, h2, h3 | ⟨g, off, rfl, hb1, hg, hr⟩⟩ := h
  · exact ⟨h1, h2, .inl h3⟩
  · exact ⟨h1, h2, .inr ⟨g, off, rfl, by omega, hg, hr⟩⟩

theorem RowI.set {w : World} {g off : Nat} {ys : List Int} (h : RowI w g off ys) (k : Nat) (v : Int) : RowI (w.setCell ⟨g, off + k, none⟩ (.int .i64 v)) g off (ys.set k v) := by
  refine ⟨fun i hi => ?_, fun i hi => by rw [World.frozen?_setCell]; exact h.free i (by simpa using hi)⟩
  have hi' : i < ys.length := by simpa using hi
  by_cases e : i = k
  · subst e
    rw [World.cell?_setCell_same' _ _ _ (by rw [h.cell i hi']; rfl)]
    simp [List.getD, hi']
  · rw [World.cell?_setCell_other _ _ _ _ (by first | (simp; done) | (simp; omega)), h.cell i hi']
    simp [List.getD, Ne.symm e]

theorem mark_row (ys : List Int) (g off l c : Nat) (q : Int) (w : World) (h : RowI w g off ys) (hy : ys.length = l) (hl : l ≤ 1048576) (q0 : 0 ≤ q) (q1 : q ≤ 1099511627776) :
    Calls Try.prog 41 #[.slice (some ⟨g, off, none⟩) l c, .int .i64 q] w fun e w' => e = .returned (.int .i64 (q + l)) ∧ RowI w' g off (marks q l) ∧ Only g w w' := by
  have HY := Lib.hid hy
  have H := Lib.hid h
  clear h hy
  go_enter Try.func41, Try.ntmps41
  go_wp2_with fail
  go_loopw [1, 5] (fun s i wr => ∃ k : Nat, k ≤ l ∧ i = .int .i64 k ∧ s = .int .i64 (q + k) ∧ Hid (RowI wr g off (marks q k ++ ys.drop k)) ∧ Hid (Only g w wr)) (fun _ i _ => l - (intOf i).toNat)
  case atStart => exact ⟨0, Nat.zero_le _, rfl, by simp, Lib.hid (by simpa [marks] using H.out), Lib.hid (Only.refl _ _)⟩
  case round =>
    obtain ⟨k, hk, rfl, rfl, HB, HO⟩ := hrel
    by_cases hlt : k < l
    · have hx := HB.out.cell k (by simp [marks_len]; have := HY.out; omega)
      have hf := HB.out.free k (by simp [marks_len]; have := HY.out; omega)
      obtain ⟨u, hu⟩ : ∃ u, (marks q k ++ ys.drop k).getD k 0 = u := ⟨_, rfl⟩
      rw [hu] at hx
      clear hu
      go_wp2_with fail
      go_roundw
      case rel => exact ⟨k + 1, by omega, by go_num, by go_num, Lib.hid (by have := HB.out.set k (q + k); rw [mark_step _ _ _ (by rw [HY.out]; exact hlt)] at this; exact this), Lib.hid (HO.out.setCell (p := ⟨g, off + k, none⟩) rfl _)⟩
      case measure => simp [intOf]; omega
    · go_wp2_with fail
      go_ret
      obtain rfl : k = l := by omega
      refine ⟨rfl, ?_, HO.out⟩
      have := HB.out
      rw [List.drop_of_length_le (by rw [HY.out]; exact Nat.le_refl _), List.append_nil] at this
      exact this

theorem Ints.onlyT {w w' : World} {a : Option Addr} {l B : Nat} {xs : List Int} (h : Ints w a l xs) (ho : Only B w w') (hne : ∀ x, a = some x → x.block ≠ B) : Ints w' a l xs := by
  refine ⟨h.len, h.max, ?_⟩
  rcases h.cells with h0 | ⟨b, off, rfl, hc⟩
  · exact .inl h0
  · exact .inr ⟨b, off, rfl, fun i hi => (ho.cell (p := ⟨b, off + i, none⟩) (hne ⟨b, off, none⟩ rfl)).trans (hc i hi)⟩

theorem TbR.only {base n B : Nat} {w w' : World} {a : Option Addr} {ys : List Int} (h : TbR base w a n ys) (ho : Only B w w') (hne : ∀ x, a = some x → x.block ≠ B) : TbR base w' a n ys := by
  obtain ⟨h1, h2, h3 | ⟨g, off, rfl, hb1, hg, hr⟩⟩ := h
  · exact ⟨h1, h2, .inl h3⟩
  · exact ⟨h1, h2, .inr ⟨g, off, rfl, hb1, by rw [ho.size]; exact hg, hr.only ho (hne _ rfl)⟩⟩

theorem Ints.butA {w w' : World} {a g : Option Addr} {l : Nat} {xs : List Int} (h : Ints w a l xs) (ho : ButA g w w') (hne : ∀ x y, a = some x → g = some y → y.block ≠ x.block) : Ints w' a l xs := by
  refine ⟨h.len, h.max, ?_⟩
  rcases h.cells with h0 | ⟨b, off, rfl, hc⟩
  · exact .inl h0
  · exact .inr ⟨b, off, rfl, fun i hi => ho.cell (hc i hi) (fun y hy => hne ⟨b, off, none⟩ y rfl hy)⟩

/-- what a call leaves that hands over a list and a code -/
def LsPost (ys : List Int) (E : Int) (w : World) (e : Ending) (w' : World) : Prop := ∃ a n c, e = .returned (.tuple #[.slice a n c, .int .i64 E]) ∧ TbR w.heap.size w' a n ys ∧ Below w.heap.size w w'

/-- a handed-over list is marked -/
theorem markI_any (ys : List Int) (base : Nat) (a : Option Addr) (n c : Nat) (q : Int) (w : World) (h : TbR base w a n ys) (q0 : 0 ≤ q) (q1 : q ≤ 1099511627776) :
    Calls Try.prog 41 #[.slice a n c, .int .i64 q] w fun e w' => e = .returned (.int .i64 (q + n)) ∧ TbR base w' a n (marks q n) ∧ ButA a w w' := by
  obtain ⟨h1, h2, ⟨rfl, rfl⟩ | ⟨g, off, rfl, hb1, hg, hr⟩⟩ := h
  · refine (mark_nil none c q w).mono ?_
    rintro e w' ⟨rfl, rfl⟩
    exact ⟨by simp, ⟨marks_len _ _, by omega, .inl ⟨rfl, rfl⟩⟩, below_butA (Below.refl _ _)⟩
  · refine (mark_row ys g off n c q w hr h1 (by omega) q0 q1).mono ?_
    rintro e w' ⟨rfl, hr', ho⟩
    exact ⟨rfl, ⟨marks_len _ _, h2, .inr ⟨g, off, rfl, hb1, by rw [ho.size]; exact hg, hr'⟩⟩, ⟨ho.os, ho.tape, ho.output, by rw [ho.size]; exact Nat.le_refl _, fun k _ hk => ho.block k (fun e => hk _ rfl e.symm)⟩⟩

end Go.Proofs.Ytmcagpcldjopjaa

/- Life tables as lists of numbers: what the walks say of them (no program in it). -/
namespace Go.Proofs.Ytmcagpcldjopjaa
set_option linter.unusedVariables false

/-- (f, xs) is a life table -/
def LTab (f : Int) (xs : List Int) : Prop :=
  (0 ≤ f ∧ f ≤ 100) ∧ (2 ≤ xs.length ∧ xs.length ≤ 120) ∧ f + (xs.length : Int) ≤ 151 ∧ (1 ≤ xs.getD 0 0 ∧ xs.getD 0 0 ≤ 1000000) ∧ xs.getD (xs.length - 1) 0 = 0 ∧
  ∀ i, i < xs.length → 1 ≤ i → xs.getD i 0 ≤ xs.getD (i - 1) 0 ∧ (i + 1 < xs.length → 1 ≤ xs.getD i 0)

def ltB (f : Int) (xs : List Int) : Bool :=
  decide ((0 ≤ f ∧ f ≤ 100) ∧ (2 ≤ xs.length ∧ xs.length ≤ 120) ∧ f + (xs.length : Int) ≤ 151 ∧ (1 ≤ xs.getD 0 0 ∧ xs.getD 0 0 ≤ 1000000) ∧ xs.getD (xs.length - 1) 0 = 0 ∧
  ∀ i, i < xs.length → 1 ≤ i → xs.getD i 0 ≤ xs.getD (i - 1) 0 ∧ (i + 1 < xs.length → 1 ≤ xs.getD i 0))

theorem ltB_iff (f : Int) (xs : List Int) : ltB f xs = true ↔ LTab f xs := by
  unfold ltB LTab; rw [decide_eq_true_iff]

theorem ltB_t {f : Int} {xs : List Int} (h : LTab f xs) : ltB f xs = true := (ltB_iff _ _).2 h

theorem ltB_f {f : Int} {xs : List Int} (h : ¬ LTab f xs) : ltB f xs = false := by
  rw [Bool.eq_false_iff]; exact fun hh => h ((ltB_iff _ _).1 hh)

theorem getD_far (xs : List Int) (i : Nat) (h : xs.length ≤ i) : xs.getD i 0 = 0 := by
  simp [List.getD, h]

theorem LTab.last {f : Int} {xs : List Int} (h : LTab f xs) (i : Nat) (hi : xs.length ≤ i + 1) : xs.getD i 0 = 0 := by
  obtain ⟨_, ⟨h2, _⟩, _, _, h5, _⟩ := h
  by_cases he : i + 1 = xs.length
  · rw [← h5]; congr 1; omega
  · exact getD_far _ _ (by omega)

theorem LTab.pos {f : Int} {xs : List Int} (h : LTab f xs) (i : Nat) (hi : i + 1 < xs.length) : 1 ≤ xs.getD i 0 := by
  obtain ⟨_, _, _, h4, _, h6⟩ := h
  by_cases h0 : i = 0
  · subst h0; exact h4.1
  · exact (h6 i (by omega) (by omega)).2 hi

theorem LTab.nonneg {f : Int} {xs : List Int} (h : LTab f xs) (i : Nat) : 0 ≤ xs.getD i 0 := by
  by_cases hi : i + 1 < xs.length
  · have := h.pos i hi; omega
  · rw [h.last i (by omega)]; omega

theorem LTab.step {f : Int} {xs : List Int} (h : LTab f xs) (i : Nat) : xs.getD (i + 1) 0 ≤ xs.getD i 0 := by
  by_cases hi : i + 1 < xs.length
  · have := (h.2.2.2.2.2 (i + 1) hi (by omega)).1
    simpa using this
  · rw [h.last (i + 1) (by omega)]; exact h.nonneg i

theorem LTab.mono {f : Int} {xs : List Int} (h : LTab f xs) (i j : Nat) (hij : i ≤ j) : xs.getD j 0 ≤ xs.getD i 0 := by
  induction j with
  | zero => obtain rfl : i = 0 := by omega
            exact Int.le_refl _
  | succ j ih =>
    by_cases he : i = j + 1
    · subst he; exact Int.le_refl _
    · exact Int.le_trans (h.step j) (ih (by omega))

theorem LTab.le {f : Int} {xs : List Int} (h : LTab f xs) (i : Nat) : xs.getD i 0 ≤ 1000000 := by
  have := h.mono 0 i (by omega)
  have := h.2.2.2.1.2
  omega

/-- the lives at an age from the first one on -/
def lvs (f : Int) (xs : List Int) (x : Int) : Int := xs.getD (x - f).toNat 0

theorem LTab.lvs_zero {f : Int} {xs : List Int} (h : LTab f xs) (x : Int) (hx : f + xs.length ≤ x + 1) : lvs f xs x = 0 := h.last _ (by omega)

theorem LTab.lvs_bd {f : Int} {xs : List Int} (h : LTab f xs) (x : Int) : 0 ≤ lvs f xs x ∧ lvs f xs x ≤ 1000000 := ⟨h.nonneg _, h.le _⟩

theorem LTab.lvs_pos {f : Int} {xs : List Int} (h : LTab f xs) (x : Int) (hx : x + 1 < f + xs.length) (hf : f ≤ x) : 1 ≤ lvs f xs x := h.pos _ (by omega)

theorem LTab.lvs_mono {f : Int} {xs : List Int} (h : LTab f xs) (x y : Int) (hx : x ≤ y) : lvs f xs y ≤ lvs f xs x := h.mono _ _ (by omega)

/-! ### the codes -/


/-- the code of a table and an age -/
def ageE (f : Int) (xs : List Int) (x : Int) : Int := if ltB f xs = true then (if f ≤ x ∧ x ≤ 150 then 0 else 2) else 1

theorem ageE_1 {f : Int} {xs : List Int} {x : Int} (h : ltB f xs = false) : ageE f xs x = 1 := by simp [ageE, h]

theorem ageE_2 {f : Int} {xs : List Int} {x : Int} (h : ltB f xs = true) (g : ¬ (f ≤ x ∧ x ≤ 150)) : ageE f xs x = 2 := by simp [ageE, h, g]

theorem ageE_0 {f : Int} {xs : List Int} {x : Int} (h : ltB f xs = true) (g : f ≤ x ∧ x ≤ 150) : ageE f xs x = 0 := by simp [ageE, h, g]

theorem ageE_iff {f : Int} {xs : List Int} {x : Int} : ageE f xs x = 0 ↔ LTab f xs ∧ f ≤ x ∧ x ≤ 150 := by
  unfold ageE; rw [← ltB_iff]
  split
  · next h => split <;> simp_all
  · next h => simp [h]

/-- the lives at an age, and 0 beside an error -/
def laV (f : Int) (xs : List Int) (x : Int) : Int := if ageE f xs x = 0 then lvs f xs x else 0

/-- the deaths at an age, and 0 beside an error -/
def daV (f : Int) (xs : List Int) (x : Int) : Int := if ageE f xs x = 0 then lvs f xs x - lvs f xs (x + 1) else 0

/-! ### sums -/

theorem take_sum_succ (ys : List Int) (k : Nat) : (ys.take (k + 1)).sum = (ys.take k).sum + ys.getD k 0 := by
  rw [List.take_add_one, List.sum_append]
  cases h : ys[k]? <;> simp [List.getD, h]

/-- the lives at all later ages -/
def laterSum (f : Int) (xs : List Int) (x : Int) : Int := (xs.drop ((x - f).toNat + 1)).sum

theorem getD_drop (xs : List Int) (d k : Nat) : (xs.drop d).getD k 0 = xs.getD (d + k) 0 := by simp [List.getD]

/-- the sum of the lives at the ages x + 1, .., x + k -/
def partSum (f : Int) (xs : List Int) (x : Int) (k : Nat) : Int := ((xs.drop ((x - f).toNat + 1)).take k).sum

theorem partSum_zero (f : Int) (xs : List Int) (x : Int) : partSum f xs x 0 = 0 := by simp [partSum]

theorem partSum_succ (f : Int) (xs : List Int) (x : Int) (k : Nat) (hx : f ≤ x) : partSum f xs x (k + 1) = partSum f xs x k + lvs f xs (x + 1 + k) := by
  unfold partSum lvs
  rw [take_sum_succ, getD_drop]
  congr 2; omega

theorem partSum_all (f : Int) (xs : List Int) (x : Int) (k : Nat) (h : xs.length ≤ (x - f).toNat + 1 + k) : partSum f xs x k = laterSum f xs x := by
  unfold partSum laterSum
  rw [List.take_of_length_le (by simp; omega)]

theorem LTab.partSum_end {f : Int} {xs : List Int} (h : LTab f xs) (x : Int) (k : Nat) (hk : xs.length ≤ (x - f).toNat + 1 + k + 1) (hx : f ≤ x) : partSum f xs x k = laterSum f xs x := by
  rw [← partSum_all f xs x (k + 1) (by omega), partSum_succ _ _ _ _ hx, h.lvs_zero _ (by omega)]; simp

theorem LTab.partSum_bd {f : Int} {xs : List Int} (h : LTab f xs) (x : Int) (hx : f ≤ x) (k : Nat) : 0 ≤ partSum f xs x k ∧ partSum f xs x k ≤ k * 1000000 := by
  induction k with
  | zero => rw [partSum_zero]; omega
  | succ k ih =>
    rw [partSum_succ _ _ _ _ hx]
    have := h.lvs_bd (x + 1 + k)
    omega

/-! ### the middle age -/

/-- the least age from x on, looked for n times, at which at most half of L are left -/
def midF (f : Int) (xs : List Int) (L : Int) : Nat → Int → Int
  | 0, x => x
  | n + 1, x => if 2 * lvs f xs x ≤ L then x else midF f xs L n (x + 1)

def mdV (f : Int) (xs : List Int) (x : Int) : Int := midF f xs (lvs f xs x) 200 x

theorem midF_eq (f : Int) (xs : List Int) (L : Int) : ∀ (n : Nat) (x m : Int), x ≤ m → m < x + n → 2 * lvs f xs m ≤ L → (∀ y, x ≤ y → y < m → ¬ 2 * lvs f xs y ≤ L) → midF f xs L n x = m := by
  intro n
  induction n with
  | zero => intro x m h1 h2; omega
  | succ n ih =>
    intro x m h1 h2 h3 h4
    unfold midF
    by_cases hxm : x = m
    · subst hxm; rw [if_pos h3]
    · rw [if_neg (h4 x (Int.le_refl _) (by omega))]
      exact ih (x + 1) m (by omega) (by omega) h3 fun y hy hm => h4 y (by omega) hm

theorem LTab.mid {f : Int} {xs : List Int} (h : LTab f xs) (x m : Int) (hf : f ≤ x) (hx : x ≤ m) (hm : m ≤ 151) (h3 : 2 * lvs f xs m ≤ lvs f xs x) (h4 : ∀ y, x ≤ y → y < m → ¬ 2 * lvs f xs y ≤ lvs f xs x) : mdV f xs x = m := by
  have := h.1
  exact midF_eq _ _ _ _ _ _ hx (by omega) h3 h4

/-! ### made tables -/

/-- a number divided by 1000, rounded up -/
def up1000 (a : Int) : Int := -(-a / 1000)

/-- the lives that are left from year to year -/
def mkL (l : Int) : List Int → List Int
  | [] => if 0 < l then [l, 0] else [l]
  | r :: rs => if 0 < l then l :: mkL (l - up1000 (l * r)) rs else [l]

theorem up_bd (l r : Int) (hl : 0 ≤ l) (h0 : 0 ≤ r) (h1 : r ≤ 1000) : 0 ≤ up1000 (l * r) ∧ up1000 (l * r) ≤ l := by
  have a := Int.mul_le_mul_of_nonneg_left h1 hl
  have b := Int.mul_nonneg hl h0
  unfold up1000
  omega

theorem mul_bd (l r : Int) (hl : 0 ≤ l) (hl2 : l ≤ 1000000) (h0 : 0 ≤ r) (h1 : r ≤ 1000) : 0 ≤ l * r ∧ l * r ≤ 1000000000 := by
  have a := Int.mul_le_mul hl2 h1 h0 (by omega)
  have b := Int.mul_nonneg hl h0
  omega

theorem mkL_len (rs : List Int) : ∀ l : Int, 1 ≤ (mkL l rs).length ∧ (mkL l rs).length ≤ rs.length + 2 := by
  induction rs with
  | nil => intro l; unfold mkL; split <;> simp
  | cons r rs ih =>
    intro l; unfold mkL; split
    · have := ih (l - up1000 (l * r)); simp; omega
    · simp

theorem mkL_head (rs : List Int) (l : Int) : (mkL l rs).getD 0 0 = l := by
  cases rs <;> (unfold mkL; split <;> simp)

theorem mkL_two (rs : List Int) (l : Int) (h : 0 < l) : 2 ≤ (mkL l rs).length := by
  cases rs with
  | nil => unfold mkL; simp [h]
  | cons r rs => unfold mkL; rw [if_pos h]; have := (mkL_len rs (l - up1000 (l * r))).1; simp; omega

theorem getD_cons_succ (x : Int) (xs : List Int) (i : Nat) : (x :: xs).getD (i + 1) 0 = xs.getD i 0 := by simp [List.getD]

/-- all that a table asks of its lives, from l on -/
theorem mkL_good (rs : List Int) (hr : ∀ r ∈ rs, 0 ≤ r ∧ r ≤ 1000) : ∀ l : Int, 0 ≤ l →
    (mkL l rs).getD ((mkL l rs).length - 1) 0 = 0 ∧ (∀ i, i < (mkL l rs).length → 1 ≤ i → (mkL l rs).getD i 0 ≤ (mkL l rs).getD (i - 1) 0) ∧ (∀ i, i + 1 < (mkL l rs).length → 1 ≤ (mkL l rs).getD i 0) := by
  induction rs with
  | nil =>
    intro l hl
    unfold mkL; split
    · next h =>
      refine ⟨by simp, ?_, ?_⟩
      · intro i hi h1
        obtain rfl : i = 1 := by simp at hi; omega
        simp; omega
      · intro i hi
        obtain rfl : i = 0 := by simp at hi; omega
        simp; omega
    · next h =>
      obtain rfl : l = 0 := by omega
      refine ⟨by simp, ?_, ?_⟩
      · intro i hi h1; simp at hi; omega
      · intro i hi; simp at hi
  | cons r rs ih =>
    intro l hl
    obtain ⟨r0, r1⟩ := hr r List.mem_cons_self
    have ub := up_bd l r hl r0 r1
    obtain ⟨i1, i2, i3⟩ := ih (fun q hq => hr q (List.mem_cons_of_mem _ hq)) (l - up1000 (l * r)) (by omega)
    have hd := mkL_head rs (l - up1000 (l * r))
    have hlen := (mkL_len rs (l - up1000 (l * r))).1
    unfold mkL; split
    · next h =>
      generalize mkL (l - up1000 (l * r)) rs = ys at *
      refine ⟨?_, ?_, ?_⟩
      · rw [List.length_cons, show ys.length + 1 - 1 = (ys.length - 1) + 1 by omega, getD_cons_succ]; exact i1
      · intro i hi h1
        obtain ⟨j, rfl⟩ : ∃ j, i = j + 1 := ⟨i - 1, by omega⟩
        rw [getD_cons_succ]
        by_cases hj : j = 0
        · subst hj; simp at hd ⊢; omega
        · obtain ⟨q, rfl⟩ : ∃ q, j = q + 1 := ⟨j - 1, by omega⟩
          rw [show q + 1 + 1 - 1 = q + 1 by omega, getD_cons_succ]
          have := i2 (q + 1) (by simp at hi; omega) (by omega)
          simpa using this
      · intro i hi
        cases i with
        | zero => simp; omega
        | succ j => rw [getD_cons_succ]; exact i3 j (by simp at hi; omega)
    · next h =>
      obtain rfl : l = 0 := by omega
      refine ⟨by simp, ?_, ?_⟩
      · intro i hi h1; simp at hi; omega
      · intro i hi; simp at hi

theorem mkL_tab (f l : Int) (rs : List Int) (hf0 : 0 ≤ f) (hf1 : f ≤ 100) (hl0 : 1 ≤ l) (hl1 : l ≤ 1000000) (hn : rs.length ≤ 118) (hn2 : (rs.length : Int) ≤ 149 - f) (hr : ∀ r ∈ rs, 0 ≤ r ∧ r ≤ 1000) : LTab f (mkL l rs) := by
  obtain ⟨g1, g2, g3⟩ := mkL_good rs hr l (by omega)
  obtain ⟨n1, n2⟩ := mkL_len rs l
  have n3 := mkL_two rs l (by omega)
  have hd := mkL_head rs l
  refine ⟨⟨hf0, hf1⟩, ⟨n3, by omega⟩, by omega, by rw [hd]; omega, g1, fun i hi h1 => ⟨g2 i hi h1, g3 i⟩⟩

/-- one more year: the deaths are the rate's part, rounded up -/
theorem mkL_deaths (rs : List Int) : ∀ (l : Int) (i : Nat), i < rs.length → 0 < (mkL l rs).getD i 0 → (mkL l rs).getD i 0 - (mkL l rs).getD (i + 1) 0 = up1000 ((mkL l rs).getD i 0 * rs.getD i 0) := by
  induction rs with
  | nil => intro l i hi; simp at hi
  | cons r rs ih =>
    intro l i hi
    unfold mkL; split
    · next h =>
      cases i with
      | zero => intro _; rw [getD_cons_succ, mkL_head]; simp; omega
      | succ j => rw [getD_cons_succ, getD_cons_succ, getD_cons_succ]; exact ih _ j (by simpa using hi)
    · next h =>
      intro hp
      exfalso
      cases i with
      | zero => simp at hp; omega
      | succ j => simp at hp

/-- k years on, still alive: what has been laid and what is to come -/
theorem mkL_split (rs : List Int) (l c : Int) (pre : List Int) (k : Nat) (h : pre ++ mkL c (rs.drop k) = mkL l rs) (hk : k < rs.length) (hc : 0 < c) : (pre ++ [c]) ++ mkL (c - up1000 (c * rs.getD k 0)) (rs.drop (k + 1)) = mkL l rs := by
  rw [← h, List.drop_eq_getElem_cons hk]
  show _ = pre ++ mkL c (rs[k] :: rs.drop (k + 1))
  rw [mkL, if_pos hc]
  simp [List.getD, hk]

theorem mkL_stop (rs : List Int) : mkL 0 rs = [0] := by cases rs <;> simp [mkL]

end Go.Proofs.Ytmcagpcldjopjaa

/- DivideDown, DivideUp and PerMille of the program and of its model: what each call returns, one Lean function for both. -/
namespace Go.Proofs.Ytmcagpcldjopjaa
open Go.ChangeShapes Go.WideShapes Go.ChangeAt Go.RowKit
set_option linter.unusedVariables false

def ddB (a b : Int) : Bool := monB a && inB b 1 1000000000

def ddV (a b : Int) : Int := if ddB a b then a / b else 0

def ddE (a b : Int) : Int := if ddB a b then 0 else 2

def duV (a b : Int) : Int := if ddB a b then -(-a / b) else 0

def pmB (a r : Int) : Bool := monB a && inB r 0 1000

def pmV (a r : Int) : Int := if pmB a r then a * r / 1000 else 0

def pmE (a r : Int) : Int := if pmB a r then 0 else 2

theorem ddB_iff (a b : Int) : ddB a b = true ↔ (-1000000000000 ≤ a ∧ a ≤ 1000000000000) ∧ (1 ≤ b ∧ b ≤ 1000000000) := by
  unfold ddB; rw [Bool.and_eq_true, monB_iff, inB_iff]

theorem pmB_iff (a r : Int) : pmB a r = true ↔ (-1000000000000 ≤ a ∧ a ≤ 1000000000000) ∧ (0 ≤ r ∧ r ≤ 1000) := by
  unfold pmB; rw [Bool.and_eq_true, monB_iff, inB_iff]

end Go.Proofs.Ytmcagpcldjopjaa
