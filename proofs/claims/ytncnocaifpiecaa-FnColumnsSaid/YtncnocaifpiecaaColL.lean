/- Lists of columns: the model's list and its four functions. -/
import Derived.Test.YtncnocaifpiecaaColS
import Derived.Test.YtncnocaifpiecaaRowI
import Derived.Test.YtncnocaifpiecaaApp
namespace Go.Proofs.Ytncnocaifpiecaa
open Go.ChangeShapes Go.WideShapes Go.ChangeAt Go.RowKit
set_option linter.unusedVariables false
set_option maxRecDepth 100000

/-- the first n values of a column -/
def colL (F : Nat → Int) (n : Nat) : List Int := (List.range n).map F

theorem colL_len (F : Nat → Int) (n : Nat) : (colL F n).length = n := by simp [colL]

theorem colL_snoc (F : Nat → Int) (n : Nat) : colL F (n + 1) = colL F n ++ [F n] := by simp [colL, List.range_succ]

theorem colL_get (F : Nat → Int) (n k : Nat) (h : k < n) : (colL F n).getD k 0 = F k := by simp [colL, List.getD, h]

theorem one_newC (w : World) (x : Int) : ∀ j u, [Value.int .i64 x][j]? = some u → (w.alloc (.cells #[.int .i64 x] 2)).cell? ((⟨w.heap.size, 0, none⟩ : Addr).add j) = some u := by
  intro j u hj
  match j, hj with
  | 0, hj => simp at hj; subst hj; simp [Addr.add]

theorem OwnI.on {base : Nat} {w w' : World} {v : Value} {xs : List Int} (h : OwnI base w v xs) (hb : Below w.heap.size w w') : OwnI base w' v xs :=
  h.same fun k _ hk => hb.block k hk

theorem own_tb {base : Nat} {w : World} {v : Value} {ys : List Int} (h : OwnI base w v ys) (hl : ys.length ≤ 4096) : ∃ a c, v = .slice a ys.length c ∧ TbR base w a ys.length ys := by
  have hh := h
  rcases h.2 with ⟨rfl, hn⟩ | ⟨g, cap, cur, rfl, hbg, hg, -⟩
  · refine ⟨none, 0, ?_, rfl, hl, .inl ⟨rfl, hn⟩⟩
    rw [hn]
  · exact ⟨_, cap, rfl, rfl, hl, .inr ⟨g, 0, rfl, hbg, (hh.lt g rfl).2, hh.row⟩⟩

theorem app_below {base : Nat} {wr w1 : World} {v : Value} {xs : List Int} {o : Obj} (hown : OwnI base wr v xs) (hbs : base ≤ wr.heap.size) (hg : (wr.alloc o).grownBy w1 v.ownBlock) : Below base wr w1 :=
  ((Below.refl _ _).alloc hbs o).grown hg (by simp; omega) fun k hk => (hown.lt k hk).1

/-- what the list of a column is: empty beside an error -/
def clY (F : Nat → Int) (r f : Int) (xs : List Int) : List Int := if coE r f xs f = 0 then colL F xs.length else []

theorem ls_cond {E : Int} {ys : List Int} {w w' : World} {v : Value} {base : Nat} (h : OwnI base w' v ys) (hl : ys.length ≤ 4096) (hb : Below w.heap.size w w') (hbs : w.heap.size ≤ base) (he : E = 0) {Y : List Int} (hY : Y = ys) :
    LsPost Y E w (.returned (.tuple #[v, .int .i64 0])) w' := by
  subst he; subst hY
  obtain ⟨a, c, rfl, ht⟩ := own_tb h hl
  exact ⟨a, _, c, rfl, ht.mono hbs, hb⟩

theorem ls_nil {E e : Int} {Y : List Int} {w w' : World} (hb : Below w.heap.size w w') (he : E = e) (hY : Y = []) : LsPost Y E w (.returned (.tuple #[.slice none 0 0, .int .i64 e])) w' := by
  subst he; subst hY
  exact ⟨none, 0, 0, rfl, ⟨rfl, by omega, .inl ⟨rfl, rfl⟩⟩, hb⟩

set_option maxHeartbeats 800000 in
theorem sListD_any (r f : Int) (xs : List Int) (a : Option Addr) (l c : Nat) (w : World) (h : Ints w a l xs) :
    Calls Try.prog 49 #[.agg #[.int .i64 f, .slice a l c], .int .i64 r, .int .i64 0] w (LsPost (clY (cD r xs) r f xs) (coE r f xs f) w) := by
  have H := Lib.hid h
  have HL := Lib.hid h.len
  have CO : Hid (∀ W, Hid (Below w.heap.size w W) → Calls Try.prog 42 #[.agg #[.int .i64 f, .slice a l c], .int .i64 r, .int .i64 f] W fun e w' => e = .returned (.int .i64 (coE r f xs f)) ∧ Below W.heap.size W w') :=
    Lib.hid (fun W hW => scode_any r f xs a l c f W (H.out.on hW.out))
  clear h
  obtain ⟨E, hE⟩ : ∃ E, coE r f xs f = E := ⟨_, rfl⟩
  obtain ⟨Y, hY⟩ : ∃ Y, clY (cD r xs) r f xs = Y := ⟨_, rfl⟩
  rw [hE] at CO ⊢
  rw [hY]
  have HY : Hid (Y = if E = 0 then colL (cD r xs) xs.length else []) := Lib.hid (by rw [← hY, ← hE]; rfl)
  have HE := Lib.hid hE
  clear hE hY
  by_cases hz : E = 0
  · subst hz
    obtain ⟨ht, ⟨r0, r1⟩, -, -⟩ := coE_iff.1 HE.out
    obtain ⟨f0, f1⟩ := ht.1
    obtain ⟨l0, l1⟩ := ht.2.1
    have hlf := ht.2.2.1
    rw [HL.out] at l0 l1 hlf
    have HT := Lib.hid ht
    clear ht
    go_enter Try.func49, Try.ntmps49
    go_wp2_with fail
    with_reducible refine (CO.out _ (Lib.hid (box_b _ _))).mono ?_
    rintro e w1 ⟨rfl, hb⟩
    obtain ⟨hB, hc0, hc1⟩ := box2 hb
    have HB := Lib.hid hB
    have hsz : w.heap.size < w1.heap.size := by have := hb.size; simp at this; omega
    have hown := ownI_new w1
    have hd0 : (w1.alloc (.cells #[] 2)).cell? ⟨w.heap.size, 0, none⟩ = some (.int .i64 f) := keep2 (box_b w1 _) hc0
    have hd1 : (w1.alloc (.cells #[] 2)).cell? ⟨w.heap.size, 1, none⟩ = some (.slice a l c) := keep2 (box_b w1 _) hc1
    have HB1 : Hid (Below w.heap.size w (w1.alloc (.cells #[] 2))) := Lib.hid (hB.alloc (by omega) _)
    have hs1 : w1.heap.size ≤ (w1.alloc (.cells #[] 2)).heap.size := by simp
    clear hb hB
    go_wp2_with fail
    clear hc0 hc1 HB
    go_loopw [9, 10] (fun v i wr => ∃ j : Nat, j ≤ l ∧ i = .int .i64 (f + j) ∧ OwnI w1.heap.size wr v (colL (cD r xs) j) ∧ wr.cell? ⟨w.heap.size, 0, none⟩ = some (.int .i64 f) ∧ wr.cell? ⟨w.heap.size, 1, none⟩ = some (.slice a l c) ∧ Hid (Below w.heap.size w wr) ∧ w1.heap.size ≤ wr.heap.size) (fun _ i _ => (f + l - intOf i).toNat)
    case atStart => exact ⟨0, by omega, by go_num, hown, hd0, hd1, HB1, hs1⟩
    case round =>
      clear hown hd0 hd1 HB1 hs1
      obtain ⟨j, hj, rfl, hown, hc0, hc1, HB, hwr⟩ := hrel
      by_cases hlt : f + (j : Int) ≤ f + l - 1
      · go_wp2_with fail
        with_reducible refine (end_spec f xs _ _ _ _ (by omega) f0 (by omega)).mono ?_
        rintro e w2 ⟨rfl, hb⟩
        have hd0 := keep2 hb hc0
        have hd1 := keep2 hb hc1
        have HB2 := Lib.hid (HB.out.trans (hb.mono HB.out.size))
        have hown2 := hown.on hb
        have hw2 : w1.heap.size ≤ w2.heap.size := Nat.le_trans hwr hb.size
        clear hb hc0 hc1 HB hown hwr
        go_wp2_with fail
        with_reducible refine (sD_any r f xs _ _ _ _ _ (H.out.on HB2.out) HT.out r0 r1 (by omega) (by omega)).mono ?_
        rintro e w3 ⟨rfl, hb⟩
        have hc0 := keep2 hb hd0
        have hc1 := keep2 hb hd1
        have HB3 := Lib.hid (HB2.out.trans (hb.mono HB2.out.size))
        have hown := hown2.on hb
        have hw3 : w1.heap.size ≤ w3.heap.size := Nat.le_trans hw2 hb.size
        clear hb hd0 hd1 HB2 hown2 hw2
        have e1 : (f + (j : Int) - f).toNat = j := by omega
        rw [e1]
        obtain ⟨y, hy⟩ : ∃ y, cD r xs j = y := ⟨_, rfl⟩
        rw [hy]
        have HYY : Hid (colL (cD r xs) (j + 1) = colL (cD r xs) j ++ [y]) := Lib.hid (by rw [colL_snoc, hy])
        have HL1 : Hid ((colL (cD r xs) j).length ≤ 4096) := Lib.hid (by rw [colL_len]; omega)
        obtain ⟨zs, hzs⟩ : ∃ zs, colL (cD r xs) j = zs := ⟨_, rfl⟩
        rw [hzs] at hown HYY HL1
        clear e1 hy hzs
        go_wp2_with (at_builtin; refine wpList_app rfl _ _ rfl w1.heap.size _ zs y rfl (hown.same (fun k hk hl => Below.heap_alloc _ _ _ hl)) ⟨w3.heap.size, 0, none⟩ rfl (one_newC w3 y) HL1.out (by simp; omega) ?_)
        intro v' w5 hown' hgrow hw
        have hb := app_below hown hw3 hgrow
        have hd0 := (hb.cell (p := ⟨w.heap.size, 0, none⟩) hsz).trans hc0
        have hd1 := (hb.cell (p := ⟨w.heap.size, 1, none⟩) hsz).trans hc1
        have HB5 := Lib.hid (HB3.out.trans (hb.mono (by omega)))
        have hw5 : w1.heap.size ≤ w5.heap.size := Nat.le_trans hw3 hb.size
        rw [← HYY.out] at hown'
        clear hgrow hown hw hb hc0 hc1 HB3
        go_wp2_with fail
        go_roundw
        case rel => exact ⟨j + 1, by omega, by go_num, hown', hd0, hd1, HB5, hw5⟩
        case measure => simp [intOf]; omega
      · go_wp2_with fail
        with_reducible refine (end_spec f xs _ _ _ _ (by omega) f0 (by omega)).mono ?_
        rintro e w2 ⟨rfl, hb⟩
        have HB2 := Lib.hid (HB.out.trans (hb.mono HB.out.size))
        have hown2 := hown.on hb
        clear hb hc0 hc1 HB hown
        go_wp2_with fail
        go_ret2
        have ej : j = xs.length := by have := HL.out; omega
        exact ls_cond hown2 (by rw [colL_len]; omega) HB2.out (by omega) rfl (by rw [HY.out, ej]; rfl)
  · have hne : (E != 0) = true := by simp [hz]
    have HYN : Hid (Y = []) := Lib.hid (by rw [HY.out, if_neg hz])
    clear hz HY HE
    go_enter Try.func49, Try.ntmps49
    go_wp2_with fail
    with_reducible refine (CO.out _ (Lib.hid (box_b _ _))).mono ?_
    rintro e w1 ⟨rfl, hb⟩
    obtain ⟨hB, hc0, hc1⟩ := box2 hb
    have HB := Lib.hid hB
    clear hb hB
    go_wp2_with fail
    go_ret2
    exact ls_nil HB.out rfl HYN.out

theorem sColumnD_any (r f : Int) (xs : List Int) (a : Option Addr) (l c : Nat) (w : World) (h : Ints w a l xs) :
    Calls Try.prog 16 #[.agg #[.int .i64 f, .slice a l c], .int .i64 r] w (LsPost (clY (cD r xs) r f xs) (coE r f xs f) w) := by
  have H := Lib.hid h
  clear h
  obtain ⟨E, hE⟩ : ∃ E, coE r f xs f = E := ⟨_, rfl⟩
  obtain ⟨Y, hY⟩ : ∃ Y, clY (cD r xs) r f xs = Y := ⟨_, rfl⟩
  have C : Hid (∀ W, Hid (Below w.heap.size w W) → Calls Try.prog 49 #[.agg #[.int .i64 f, .slice a l c], .int .i64 r, .int .i64 0] W (LsPost Y E W)) :=
    Lib.hid (fun W hW => by have := sListD_any r f xs a l c W (H.out.on hW.out); rw [hE, hY] at this; exact this)
  rw [hE, hY]
  clear hE hY
  go_enter Try.func16, Try.ntmps16
  go_wp2_with fail
  with_reducible refine (C.out _ (Lib.hid (box_b _ _))).mono ?_
  rintro e w1 ⟨sa, sn, sc, rfl, hT, hb⟩
  obtain ⟨hB, hc0, hc1⟩ := box2 hb
  have HB := Lib.hid hB
  have HT := Lib.hid hT
  clear hb hB hT
  go_wp2_with fail
  go_ret2
  exact ⟨sa, sn, sc, rfl, HT.out.mono (by simp), HB.out⟩

set_option maxHeartbeats 800000 in
theorem sListN_any (r f : Int) (xs : List Int) (a : Option Addr) (l c : Nat) (w : World) (h : Ints w a l xs) :
    Calls Try.prog 49 #[.agg #[.int .i64 f, .slice a l c], .int .i64 r, .int .i64 1] w (LsPost (clY (cN r xs) r f xs) (coE r f xs f) w) := by
  have H := Lib.hid h
  have HL := Lib.hid h.len
  have CO : Hid (∀ W, Hid (Below w.heap.size w W) → Calls Try.prog 42 #[.agg #[.int .i64 f, .slice a l c], .int .i64 r, .int .i64 f] W fun e w' => e = .returned (.int .i64 (coE r f xs f)) ∧ Below W.heap.size W w') :=
    Lib.hid (fun W hW => scode_any r f xs a l c f W (H.out.on hW.out))
  clear h
  obtain ⟨E, hE⟩ : ∃ E, coE r f xs f = E := ⟨_, rfl⟩
  obtain ⟨Y, hY⟩ : ∃ Y, clY (cN r xs) r f xs = Y := ⟨_, rfl⟩
  rw [hE] at CO ⊢
  rw [hY]
  have HY : Hid (Y = if E = 0 then colL (cN r xs) xs.length else []) := Lib.hid (by rw [← hY, ← hE]; rfl)
  have HE := Lib.hid hE
  clear hE hY
  by_cases hz : E = 0
  · subst hz
    obtain ⟨ht, ⟨r0, r1⟩, -, -⟩ := coE_iff.1 HE.out
    obtain ⟨f0, f1⟩ := ht.1
    obtain ⟨l0, l1⟩ := ht.2.1
    have hlf := ht.2.2.1
    rw [HL.out] at l0 l1 hlf
    have HT := Lib.hid ht
    clear ht
    go_enter Try.func49, Try.ntmps49
    go_wp2_with fail
    with_reducible refine (CO.out _ (Lib.hid (box_b _ _))).mono ?_
    rintro e w1 ⟨rfl, hb⟩
    obtain ⟨hB, hc0, hc1⟩ := box2 hb
    have HB := Lib.hid hB
    have hsz : w.heap.size < w1.heap.size := by have := hb.size; simp at this; omega
    have hown := ownI_new w1
    have hd0 : (w1.alloc (.cells #[] 2)).cell? ⟨w.heap.size, 0, none⟩ = some (.int .i64 f) := keep2 (box_b w1 _) hc0
    have hd1 : (w1.alloc (.cells #[] 2)).cell? ⟨w.heap.size, 1, none⟩ = some (.slice a l c) := keep2 (box_b w1 _) hc1
    have HB1 : Hid (Below w.heap.size w (w1.alloc (.cells #[] 2))) := Lib.hid (hB.alloc (by omega) _)
    have hs1 : w1.heap.size ≤ (w1.alloc (.cells #[] 2)).heap.size := by simp
    clear hb hB
    go_wp2_with fail
    clear hc0 hc1 HB
    go_loopw [9, 10] (fun v i wr => ∃ j : Nat, j ≤ l ∧ i = .int .i64 (f + j) ∧ OwnI w1.heap.size wr v (colL (cN r xs) j) ∧ wr.cell? ⟨w.heap.size, 0, none⟩ = some (.int .i64 f) ∧ wr.cell? ⟨w.heap.size, 1, none⟩ = some (.slice a l c) ∧ Hid (Below w.heap.size w wr) ∧ w1.heap.size ≤ wr.heap.size) (fun _ i _ => (f + l - intOf i).toNat)
    case atStart => exact ⟨0, by omega, by go_num, hown, hd0, hd1, HB1, hs1⟩
    case round =>
      clear hown hd0 hd1 HB1 hs1
      obtain ⟨j, hj, rfl, hown, hc0, hc1, HB, hwr⟩ := hrel
      by_cases hlt : f + (j : Int) ≤ f + l - 1
      · go_wp2_with fail
        with_reducible refine (end_spec f xs _ _ _ _ (by omega) f0 (by omega)).mono ?_
        rintro e w2 ⟨rfl, hb⟩
        have hd0 := keep2 hb hc0
        have hd1 := keep2 hb hc1
        have HB2 := Lib.hid (HB.out.trans (hb.mono HB.out.size))
        have hown2 := hown.on hb
        have hw2 : w1.heap.size ≤ w2.heap.size := Nat.le_trans hwr hb.size
        clear hb hc0 hc1 HB hown hwr
        go_wp2_with fail
        with_reducible refine (sN_any r f xs _ _ _ _ _ (H.out.on HB2.out) HT.out r0 r1 (by omega) (by omega)).mono ?_
        rintro e w3 ⟨rfl, hb⟩
        have hc0 := keep2 hb hd0
        have hc1 := keep2 hb hd1
        have HB3 := Lib.hid (HB2.out.trans (hb.mono HB2.out.size))
        have hown := hown2.on hb
        have hw3 : w1.heap.size ≤ w3.heap.size := Nat.le_trans hw2 hb.size
        clear hb hd0 hd1 HB2 hown2 hw2
        have e1 : (f + (j : Int) - f).toNat = j := by omega
        rw [e1]
        obtain ⟨y, hy⟩ : ∃ y, cN r xs j = y := ⟨_, rfl⟩
        rw [hy]
        have HYY : Hid (colL (cN r xs) (j + 1) = colL (cN r xs) j ++ [y]) := Lib.hid (by rw [colL_snoc, hy])
        have HL1 : Hid ((colL (cN r xs) j).length ≤ 4096) := Lib.hid (by rw [colL_len]; omega)
        obtain ⟨zs, hzs⟩ : ∃ zs, colL (cN r xs) j = zs := ⟨_, rfl⟩
        rw [hzs] at hown HYY HL1
        clear e1 hy hzs
        go_wp2_with (at_builtin; refine wpList_app rfl _ _ rfl w1.heap.size _ zs y rfl (hown.same (fun k hk hl => Below.heap_alloc _ _ _ hl)) ⟨w3.heap.size, 0, none⟩ rfl (one_newC w3 y) HL1.out (by simp; omega) ?_)
        intro v' w5 hown' hgrow hw
        have hb := app_below hown hw3 hgrow
        have hd0 := (hb.cell (p := ⟨w.heap.size, 0, none⟩) hsz).trans hc0
        have hd1 := (hb.cell (p := ⟨w.heap.size, 1, none⟩) hsz).trans hc1
        have HB5 := Lib.hid (HB3.out.trans (hb.mono (by omega)))
        have hw5 : w1.heap.size ≤ w5.heap.size := Nat.le_trans hw3 hb.size
        rw [← HYY.out] at hown'
        clear hgrow hown hw hb hc0 hc1 HB3
        go_wp2_with fail
        go_roundw
        case rel => exact ⟨j + 1, by omega, by go_num, hown', hd0, hd1, HB5, hw5⟩
        case measure => simp [intOf]; omega
      · go_wp2_with fail
        with_reducible refine (end_spec f xs _ _ _ _ (by omega) f0 (by omega)).mono ?_
        rintro e w2 ⟨rfl, hb⟩
        have HB2 := Lib.hid (HB.out.trans (hb.mono HB.out.size))
        have hown2 := hown.on hb
        clear hb hc0 hc1 HB hown
        go_wp2_with fail
        go_ret2
        have ej : j = xs.length := by have := HL.out; omega
        exact ls_cond hown2 (by rw [colL_len]; omega) HB2.out (by omega) rfl (by rw [HY.out, ej]; rfl)
  · have hne : (E != 0) = true := by simp [hz]
    have HYN : Hid (Y = []) := Lib.hid (by rw [HY.out, if_neg hz])
    clear hz HY HE
    go_enter Try.func49, Try.ntmps49
    go_wp2_with fail
    with_reducible refine (CO.out _ (Lib.hid (box_b _ _))).mono ?_
    rintro e w1 ⟨rfl, hb⟩
    obtain ⟨hB, hc0, hc1⟩ := box2 hb
    have HB := Lib.hid hB
    clear hb hB
    go_wp2_with fail
    go_ret2
    exact ls_nil HB.out rfl HYN.out

theorem sColumnN_any (r f : Int) (xs : List Int) (a : Option Addr) (l c : Nat) (w : World) (h : Ints w a l xs) :
    Calls Try.prog 18 #[.agg #[.int .i64 f, .slice a l c], .int .i64 r] w (LsPost (clY (cN r xs) r f xs) (coE r f xs f) w) := by
  have H := Lib.hid h
  clear h
  obtain ⟨E, hE⟩ : ∃ E, coE r f xs f = E := ⟨_, rfl⟩
  obtain ⟨Y, hY⟩ : ∃ Y, clY (cN r xs) r f xs = Y := ⟨_, rfl⟩
  have C : Hid (∀ W, Hid (Below w.heap.size w W) → Calls Try.prog 49 #[.agg #[.int .i64 f, .slice a l c], .int .i64 r, .int .i64 1] W (LsPost Y E W)) :=
    Lib.hid (fun W hW => by have := sListN_any r f xs a l c W (H.out.on hW.out); rw [hE, hY] at this; exact this)
  rw [hE, hY]
  clear hE hY
  go_enter Try.func18, Try.ntmps18
  go_wp2_with fail
  with_reducible refine (C.out _ (Lib.hid (box_b _ _))).mono ?_
  rintro e w1 ⟨sa, sn, sc, rfl, hT, hb⟩
  obtain ⟨hB, hc0, hc1⟩ := box2 hb
  have HB := Lib.hid hB
  have HT := Lib.hid hT
  clear hb hB hT
  go_wp2_with fail
  go_ret2
  exact ⟨sa, sn, sc, rfl, HT.out.mono (by simp), HB.out⟩

set_option maxHeartbeats 800000 in
theorem sListC_any (r f : Int) (xs : List Int) (a : Option Addr) (l c : Nat) (w : World) (h : Ints w a l xs) :
    Calls Try.prog 49 #[.agg #[.int .i64 f, .slice a l c], .int .i64 r, .int .i64 2] w (LsPost (clY (cC r xs) r f xs) (coE r f xs f) w) := by
  have H := Lib.hid h
  have HL := Lib.hid h.len
  have CO : Hid (∀ W, Hid (Below w.heap.size w W) → Calls Try.prog 42 #[.agg #[.int .i64 f, .slice a l c], .int .i64 r, .int .i64 f] W fun e w' => e = .returned (.int .i64 (coE r f xs f)) ∧ Below W.heap.size W w') :=
    Lib.hid (fun W hW => scode_any r f xs a l c f W (H.out.on hW.out))
  clear h
  obtain ⟨E, hE⟩ : ∃ E, coE r f xs f = E := ⟨_, rfl⟩
  obtain ⟨Y, hY⟩ : ∃ Y, clY (cC r xs) r f xs = Y := ⟨_, rfl⟩
  rw [hE] at CO ⊢
  rw [hY]
  have HY : Hid (Y = if E = 0 then colL (cC r xs) xs.length else []) := Lib.hid (by rw [← hY, ← hE]; rfl)
  have HE := Lib.hid hE
  clear hE hY
  by_cases hz : E = 0
  · subst hz
    obtain ⟨ht, ⟨r0, r1⟩, -, -⟩ := coE_iff.1 HE.out
    obtain ⟨f0, f1⟩ := ht.1
    obtain ⟨l0, l1⟩ := ht.2.1
    have hlf := ht.2.2.1
    rw [HL.out] at l0 l1 hlf
    have HT := Lib.hid ht
    clear ht
    go_enter Try.func49, Try.ntmps49
    go_wp2_with fail
    with_reducible refine (CO.out _ (Lib.hid (box_b _ _))).mono ?_
    rintro e w1 ⟨rfl, hb⟩
    obtain ⟨hB, hc0, hc1⟩ := box2 hb
    have HB := Lib.hid hB
    have hsz : w.heap.size < w1.heap.size := by have := hb.size; simp at this; omega
    have hown := ownI_new w1
    have hd0 : (w1.alloc (.cells #[] 2)).cell? ⟨w.heap.size, 0, none⟩ = some (.int .i64 f) := keep2 (box_b w1 _) hc0
    have hd1 : (w1.alloc (.cells #[] 2)).cell? ⟨w.heap.size, 1, none⟩ = some (.slice a l c) := keep2 (box_b w1 _) hc1
    have HB1 : Hid (Below w.heap.size w (w1.alloc (.cells #[] 2))) := Lib.hid (hB.alloc (by omega) _)
    have hs1 : w1.heap.size ≤ (w1.alloc (.cells #[] 2)).heap.size := by simp
    clear hb hB
    go_wp2_with fail
    clear hc0 hc1 HB
    go_loopw [9, 10] (fun v i wr => ∃ j : Nat, j ≤ l ∧ i = .int .i64 (f + j) ∧ OwnI w1.heap.size wr v (colL (cC r xs) j) ∧ wr.cell? ⟨w.heap.size, 0, none⟩ = some (.int .i64 f) ∧ wr.cell? ⟨w.heap.size, 1, none⟩ = some (.slice a l c) ∧ Hid (Below w.heap.size w wr) ∧ w1.heap.size ≤ wr.heap.size) (fun _ i _ => (f + l - intOf i).toNat)
    case atStart => exact ⟨0, by omega, by go_num, hown, hd0, hd1, HB1, hs1⟩
    case round =>
      clear hown hd0 hd1 HB1 hs1
      obtain ⟨j, hj, rfl, hown, hc0, hc1, HB, hwr⟩ := hrel
      by_cases hlt : f + (j : Int) ≤ f + l - 1
      · go_wp2_with fail
        with_reducible refine (end_spec f xs _ _ _ _ (by omega) f0 (by omega)).mono ?_
        rintro e w2 ⟨rfl, hb⟩
        have hd0 := keep2 hb hc0
        have hd1 := keep2 hb hc1
        have HB2 := Lib.hid (HB.out.trans (hb.mono HB.out.size))
        have hown2 := hown.on hb
        have hw2 : w1.heap.size ≤ w2.heap.size := Nat.le_trans hwr hb.size
        clear hb hc0 hc1 HB hown hwr
        go_wp2_with fail
        with_reducible refine (sC_any r f xs _ _ _ _ _ (H.out.on HB2.out) HT.out r0 r1 (by omega) (by omega)).mono ?_
        rintro e w3 ⟨rfl, hb⟩
        have hc0 := keep2 hb hd0
        have hc1 := keep2 hb hd1
        have HB3 := Lib.hid (HB2.out.trans (hb.mono HB2.out.size))
        have hown := hown2.on hb
        have hw3 : w1.heap.size ≤ w3.heap.size := Nat.le_trans hw2 hb.size
        clear hb hd0 hd1 HB2 hown2 hw2
        have e1 : (f + (j : Int) - f).toNat = j := by omega
        rw [e1]
        obtain ⟨y, hy⟩ : ∃ y, cC r xs j = y := ⟨_, rfl⟩
        rw [hy]
        have HYY : Hid (colL (cC r xs) (j + 1) = colL (cC r xs) j ++ [y]) := Lib.hid (by rw [colL_snoc, hy])
        have HL1 : Hid ((colL (cC r xs) j).length ≤ 4096) := Lib.hid (by rw [colL_len]; omega)
        obtain ⟨zs, hzs⟩ : ∃ zs, colL (cC r xs) j = zs := ⟨_, rfl⟩
        rw [hzs] at hown HYY HL1
        clear e1 hy hzs
        go_wp2_with (at_builtin; refine wpList_app rfl _ _ rfl w1.heap.size _ zs y rfl (hown.same (fun k hk hl => Below.heap_alloc _ _ _ hl)) ⟨w3.heap.size, 0, none⟩ rfl (one_newC w3 y) HL1.out (by simp; omega) ?_)
        intro v' w5 hown' hgrow hw
        have hb := app_below hown hw3 hgrow
        have hd0 := (hb.cell (p := ⟨w.heap.size, 0, none⟩) hsz).trans hc0
        have hd1 := (hb.cell (p := ⟨w.heap.size, 1, none⟩) hsz).trans hc1
        have HB5 := Lib.hid (HB3.out.trans (hb.mono (by omega)))
        have hw5 : w1.heap.size ≤ w5.heap.size := Nat.le_trans hw3 hb.size
        rw [← HYY.out] at hown'
        clear hgrow hown hw hb hc0 hc1 HB3
        go_wp2_with fail
        go_roundw
        case rel => exact ⟨j + 1, by omega, by go_num, hown', hd0, hd1, HB5, hw5⟩
        case measure => simp [intOf]; omega
      · go_wp2_with fail
        with_reducible refine (end_spec f xs _ _ _ _ (by omega) f0 (by omega)).mono ?_
        rintro e w2 ⟨rfl, hb⟩
        have HB2 := Lib.hid (HB.out.trans (hb.mono HB.out.size))
        have hown2 := hown.on hb
        clear hb hc0 hc1 HB hown
        go_wp2_with fail
        go_ret2
        have ej : j = xs.length := by have := HL.out; omega
        exact ls_cond hown2 (by rw [colL_len]; omega) HB2.out (by omega) rfl (by rw [HY.out, ej]; rfl)
  · have hne : (E != 0) = true := by simp [hz]
    have HYN : Hid (Y = []) := Lib.hid (by rw [HY.out, if_neg hz])
    clear hz HY HE
    go_enter Try.func49, Try.ntmps49
    go_wp2_with fail
    with_reducible refine (CO.out _ (Lib.hid (box_b _ _))).mono ?_
    rintro e w1 ⟨rfl, hb⟩
    obtain ⟨hB, hc0, hc1⟩ := box2 hb
    have HB := Lib.hid hB
    clear hb hB
    go_wp2_with fail
    go_ret2
    exact ls_nil HB.out rfl HYN.out

theorem sColumnC_any (r f : Int) (xs : List Int) (a : Option Addr) (l c : Nat) (w : World) (h : Ints w a l xs) :
    Calls Try.prog 20 #[.agg #[.int .i64 f, .slice a l c], .int .i64 r] w (LsPost (clY (cC r xs) r f xs) (coE r f xs f) w) := by
  have H := Lib.hid h
  clear h
  obtain ⟨E, hE⟩ : ∃ E, coE r f xs f = E := ⟨_, rfl⟩
  obtain ⟨Y, hY⟩ : ∃ Y, clY (cC r xs) r f xs = Y := ⟨_, rfl⟩
  have C : Hid (∀ W, Hid (Below w.heap.size w W) → Calls Try.prog 49 #[.agg #[.int .i64 f, .slice a l c], .int .i64 r, .int .i64 2] W (LsPost Y E W)) :=
    Lib.hid (fun W hW => by have := sListC_any r f xs a l c W (H.out.on hW.out); rw [hE, hY] at this; exact this)
  rw [hE, hY]
  clear hE hY
  go_enter Try.func20, Try.ntmps20
  go_wp2_with fail
  with_reducible refine (C.out _ (Lib.hid (box_b _ _))).mono ?_
  rintro e w1 ⟨sa, sn, sc, rfl, hT, hb⟩
  obtain ⟨hB, hc0, hc1⟩ := box2 hb
  have HB := Lib.hid hB
  have HT := Lib.hid hT
  clear hb hB hT
  go_wp2_with fail
  go_ret2
  exact ⟨sa, sn, sc, rfl, HT.out.mono (by simp), HB.out⟩

set_option maxHeartbeats 800000 in
theorem sListM_any (r f : Int) (xs : List Int) (a : Option Addr) (l c : Nat) (w : World) (h : Ints w a l xs) :
    Calls Try.prog 49 #[.agg #[.int .i64 f, .slice a l c], .int .i64 r, .int .i64 3] w (LsPost (clY (cM r xs) r f xs) (coE r f xs f) w) := by
  have H := Lib.hid h
  have HL := Lib.hid h.len
  have CO : Hid (∀ W, Hid (Below w.heap.size w W) → Calls Try.prog 42 #[.agg #[.int .i64 f, .slice a l c], .int .i64 r, .int .i64 f] W fun e w' => e = .returned (.int .i64 (coE r f xs f)) ∧ Below W.heap.size W w') :=
    Lib.hid (fun W hW => scode_any r f xs a l c f W (H.out.on hW.out))
  clear h
  obtain ⟨E, hE⟩ : ∃ E, coE r f xs f = E := ⟨_, rfl⟩
  obtain ⟨Y, hY⟩ : ∃ Y, clY (cM r xs) r f xs = Y := ⟨_, rfl⟩
  rw [hE] at CO ⊢
  rw [hY]
  have HY : Hid (Y = if E = 0 then colL (cM r xs) xs.length else []) := Lib.hid (by rw [← hY, ← hE]; rfl)
  have HE := Lib.hid hE
  clear hE hY
  by_cases hz : E = 0
  · subst hz
    obtain ⟨ht, ⟨r0, r1⟩, -, -⟩ := coE_iff.1 HE.out
    obtain ⟨f0, f1⟩ := ht.1
    obtain ⟨l0, l1⟩ := ht.2.1
    have hlf := ht.2.2.1
    rw [HL.out] at l0 l1 hlf
    have HT := Lib.hid ht
    clear ht
    go_enter Try.func49, Try.ntmps49
    go_wp2_with fail
    with_reducible refine (CO.out _ (Lib.hid (box_b _ _))).mono ?_
    rintro e w1 ⟨rfl, hb⟩
    obtain ⟨hB, hc0, hc1⟩ := box2 hb
    have HB := Lib.hid hB
    have hsz : w.heap.size < w1.heap.size := by have := hb.size; simp at this; omega
    have hown := ownI_new w1
    have hd0 : (w1.alloc (.cells #[] 2)).cell? ⟨w.heap.size, 0, none⟩ = some (.int .i64 f) := keep2 (box_b w1 _) hc0
    have hd1 : (w1.alloc (.cells #[] 2)).cell? ⟨w.heap.size, 1, none⟩ = some (.slice a l c) := keep2 (box_b w1 _) hc1
    have HB1 : Hid (Below w.heap.size w (w1.alloc (.cells #[] 2))) := Lib.hid (hB.alloc (by omega) _)
    have hs1 : w1.heap.size ≤ (w1.alloc (.cells #[] 2)).heap.size := by simp
    clear hb hB
    go_wp2_with fail
    clear hc0 hc1 HB
    go_loopw [9, 10] (fun v i wr => ∃ j : Nat, j ≤ l ∧ i = .int .i64 (f + j) ∧ OwnI w1.heap.size wr v (colL (cM r xs) j) ∧ wr.cell? ⟨w.heap.size, 0, none⟩ = some (.int .i64 f) ∧ wr.cell? ⟨w.heap.size, 1, none⟩ = some (.slice a l c) ∧ Hid (Below w.heap.size w wr) ∧ w1.heap.size ≤ wr.heap.size) (fun _ i _ => (f + l - intOf i).toNat)
    case atStart => exact ⟨0, by omega, by go_num, hown, hd0, hd1, HB1, hs1⟩
    case round =>
      clear hown hd0 hd1 HB1 hs1
      obtain ⟨j, hj, rfl, hown, hc0, hc1, HB, hwr⟩ := hrel
      by_cases hlt : f + (j : Int) ≤ f + l - 1
      · go_wp2_with fail
        with_reducible refine (end_spec f xs _ _ _ _ (by omega) f0 (by omega)).mono ?_
        rintro e w2 ⟨rfl, hb⟩
        have hd0 := keep2 hb hc0
        have hd1 := keep2 hb hc1
        have HB2 := Lib.hid (HB.out.trans (hb.mono HB.out.size))
        have hown2 := hown.on hb
        have hw2 : w1.heap.size ≤ w2.heap.size := Nat.le_trans hwr hb.size
        clear hb hc0 hc1 HB hown hwr
        go_wp2_with fail
        with_reducible refine (sM_any r f xs _ _ _ _ _ (H.out.on HB2.out) HT.out r0 r1 (by omega) (by omega)).mono ?_
        rintro e w3 ⟨rfl, hb⟩
        have hc0 := keep2 hb hd0
        have hc1 := keep2 hb hd1
        have HB3 := Lib.hid (HB2.out.trans (hb.mono HB2.out.size))
        have hown := hown2.on hb
        have hw3 : w1.heap.size ≤ w3.heap.size := Nat.le_trans hw2 hb.size
        clear hb hd0 hd1 HB2 hown2 hw2
        have e1 : (f + (j : Int) - f).toNat = j := by omega
        rw [e1]
        obtain ⟨y, hy⟩ : ∃ y, cM r xs j = y := ⟨_, rfl⟩
        rw [hy]
        have HYY : Hid (colL (cM r xs) (j + 1) = colL (cM r xs) j ++ [y]) := Lib.hid (by rw [colL_snoc, hy])
        have HL1 : Hid ((colL (cM r xs) j).length ≤ 4096) := Lib.hid (by rw [colL_len]; omega)
        obtain ⟨zs, hzs⟩ : ∃ zs, colL (cM r xs) j = zs := ⟨_, rfl⟩
        rw [hzs] at hown HYY HL1
        clear e1 hy hzs
        go_wp2_with (at_builtin; refine wpList_app rfl _ _ rfl w1.heap.size _ zs y rfl (hown.same (fun k hk hl => Below.heap_alloc _ _ _ hl)) ⟨w3.heap.size, 0, none⟩ rfl (one_newC w3 y) HL1.out (by simp; omega) ?_)
        intro v' w5 hown' hgrow hw
        have hb := app_below hown hw3 hgrow
        have hd0 := (hb.cell (p := ⟨w.heap.size, 0, none⟩) hsz).trans hc0
        have hd1 := (hb.cell (p := ⟨w.heap.size, 1, none⟩) hsz).trans hc1
        have HB5 := Lib.hid (HB3.out.trans (hb.mono (by omega)))
        have hw5 : w1.heap.size ≤ w5.heap.size := Nat.le_trans hw3 hb.size
        rw [← HYY.out] at hown'
        clear hgrow hown hw hb hc0 hc1 HB3
        go_wp2_with fail
        go_roundw
        case rel => exact ⟨j + 1, by omega, by go_num, hown', hd0, hd1, HB5, hw5⟩
        case measure => simp [intOf]; omega
      · go_wp2_with fail
        with_reducible refine (end_spec f xs _ _ _ _ (by omega) f0 (by omega)).mono ?_
        rintro e w2 ⟨rfl, hb⟩
        have HB2 := Lib.hid (HB.out.trans (hb.mono HB.out.size))
        have hown2 := hown.on hb
        clear hb hc0 hc1 HB hown
        go_wp2_with fail
        go_ret2
        have ej : j = xs.length := by have := HL.out; omega
        exact ls_cond hown2 (by rw [colL_len]; omega) HB2.out (by omega) rfl (by rw [HY.out, ej]; rfl)
  · have hne : (E != 0) = true := by simp [hz]
    have HYN : Hid (Y = []) := Lib.hid (by rw [HY.out, if_neg hz])
    clear hz HY HE
    go_enter Try.func49, Try.ntmps49
    go_wp2_with fail
    with_reducible refine (CO.out _ (Lib.hid (box_b _ _))).mono ?_
    rintro e w1 ⟨rfl, hb⟩
    obtain ⟨hB, hc0, hc1⟩ := box2 hb
    have HB := Lib.hid hB
    clear hb hB
    go_wp2_with fail
    go_ret2
    exact ls_nil HB.out rfl HYN.out

theorem sColumnM_any (r f : Int) (xs : List Int) (a : Option Addr) (l c : Nat) (w : World) (h : Ints w a l xs) :
    Calls Try.prog 22 #[.agg #[.int .i64 f, .slice a l c], .int .i64 r] w (LsPost (clY (cM r xs) r f xs) (coE r f xs f) w) := by
  have H := Lib.hid h
  clear h
  obtain ⟨E, hE⟩ : ∃ E, coE r f xs f = E := ⟨_, rfl⟩
  obtain ⟨Y, hY⟩ : ∃ Y, clY (cM r xs) r f xs = Y := ⟨_, rfl⟩
  have C : Hid (∀ W, Hid (Below w.heap.size w W) → Calls Try.prog 49 #[.agg #[.int .i64 f, .slice a l c], .int .i64 r, .int .i64 3] W (LsPost Y E W)) :=
    Lib.hid (fun W hW => by have := sListM_any r f xs a l c W (H.out.on hW.out); rw [hE, hY] at this; exact this)
  rw [hE, hY]
  clear hE hY
  go_enter Try.func22, Try.ntmps22
  go_wp2_with fail
  with_reducible refine (C.out _ (Lib.hid (box_b _ _))).mono ?_
  rintro e w1 ⟨sa, sn, sc, rfl, hT, hb⟩
  obtain ⟨hB, hc0, hc1⟩ := box2 hb
  have HB := Lib.hid hB
  have HT := Lib.hid hT
  clear hb hB hT
  go_wp2_with fail
  go_ret2
  exact ⟨sa, sn, sc, rfl, HT.out.mono (by simp), HB.out⟩

end Go.Proofs.Ytncnocaifpiecaa
