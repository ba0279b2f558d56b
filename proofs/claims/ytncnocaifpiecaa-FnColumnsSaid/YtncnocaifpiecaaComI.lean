/- The program's lists of columns, its columns at an age, and the functions that the document names. -/
import Derived.Test.YtncnocaifpiecaaComO
import Derived.Test.YtncnocaifpiecaaColL
import Derived.Shelf.Abstract
namespace Go.Proofs.Ytncnocaifpiecaa
open Go.ChangeShapes Go.WideShapes Go.ChangeAt Go.RowKit
set_option linter.unusedVariables false
set_option maxRecDepth 100000

def LPost (ys : List Int) (w : World) (e : Ending) (w' : World) : Prop := ∃ v, e = .returned v ∧ OwnI w.heap.size w' v ys ∧ Below w.heap.size w w'

/-- what a closure takes from the columns -/
def Takes (fn : FuncId) (pick : Int → Int → Int → Int → Int) : Prop :=
  (∀ args (w : World), (callFunc fn args).run Try.prog w = .ok (.enter fn args) w) ∧
  ∀ (a b c d : Int) (W : World), Calls Try.prog fn #[.agg #[.int .i64 a, .int .i64 b, .int .i64 c, .int .i64 d]] W fun e w' => e = .returned (.int .i64 (pick a b c d)) ∧ Below W.heap.size W w'

set_option maxHeartbeats 1000000 in
theorem list_any (fn : FuncId) (pick : Int → Int → Int → Int → Int) (hf : Takes fn pick) (r f : Int) (xs : List Int) (a : Option Addr) (l c R : Nat) (G : Nat → Int) (w : World) (hl : xs.length = l) (ht : LTab f xs) (h : CBX w R f (.slice a l c) G)
    (hg : ∀ m, f.toNat ≤ m → m ≤ 150 → G (m * 4) = cD r xs (m - f.toNat) ∧ G (m * 4 + 1) = cN r xs (m - f.toNat) ∧ G (m * 4 + 2) = cC r xs (m - f.toNat) ∧ G (m * 4 + 3) = cM r xs (m - f.toNat)) :
    Calls Try.prog 73 #[.pointer (some ⟨R, 0, none⟩), .func (.func fn) #[] #[]] w (LPost (colL (fun k => pick (cD r xs k) (cN r xs k) (cC r xs k) (cM r xs k)) xs.length) w) := by
  have H := Lib.hid h
  have HF : Hid (∀ (a b c d : Int) (W : World), Calls Try.prog fn #[.agg #[.int .i64 a, .int .i64 b, .int .i64 c, .int .i64 d]] W fun e w' => e = .returned (.int .i64 (pick a b c d)) ∧ Below W.heap.size W w') := Lib.hid hf.2
  have he := hf.1
  have HL := Lib.hid hl
  have HG := Lib.hid hg
  obtain ⟨F, hF⟩ : ∃ F : Nat → Int, (fun k => pick (cD r xs k) (cN r xs k) (cC r xs k) (cM r xs k)) = F := ⟨_, rfl⟩
  rw [hF]
  have HFF : Hid (∀ k, F k = pick (cD r xs k) (cN r xs k) (cC r xs k) (cM r xs k)) := Lib.hid (fun k => by rw [← hF])
  obtain ⟨f0, f1⟩ := ht.1
  obtain ⟨l0, l1⟩ := ht.2.1
  have hfit := ht.fit
  rw [hl] at l0 l1 hfit
  have hR := h.lt
  have hc0 := h.first
  have hc1 := h.row
  have hown := ownI_new w
  have hd0 : (w.alloc (.cells #[] 2)).cell? ⟨R, 0, none⟩ = some (.int .i64 f) := keep2 (box_b w _) hc0
  have hd1 : (w.alloc (.cells #[] 2)).cell? ⟨R, 1, none⟩ = some (.slice a l c) := keep2 (box_b w _) hc1
  have HB1 : Hid (Below w.heap.size w (w.alloc (.cells #[] 2))) := Lib.hid (box_b _ _)
  clear h hf hl ht hg hF
  go_enter Try.func73, Try.ntmps73
  go_wp2_with fail
  clear hc0 hc1
  go_loopw [5, 6] (fun v i wr => ∃ j : Nat, j ≤ l ∧ i = .int .i64 (f + j) ∧ OwnI w.heap.size wr v (colL F j) ∧ wr.cell? ⟨R, 0, none⟩ = some (.int .i64 f) ∧ wr.cell? ⟨R, 1, none⟩ = some (.slice a l c) ∧ Hid (Below w.heap.size w wr)) (fun _ i _ => (f + l - intOf i).toNat)
  case atStart => exact ⟨0, by omega, by go_num, hown, hd0, hd1, HB1⟩
  case round =>
    clear hown hd0 hd1 HB1
    obtain ⟨j, hj, rfl, hown, hc0, hc1, HB⟩ := hrel
    by_cases hlt : f + (j : Int) ≤ f + l - 1
    · go_wp2_with fail
      with_reducible refine (end_any f xs _ _ _ _ (by omega) f0 (by omega)).mono ?_
      rintro e w2 ⟨rfl, hb⟩
      have hd0 := keep2 hb hc0
      have hd1 := keep2 hb hc1
      have HB2 := Lib.hid (HB.out.trans (hb.mono HB.out.size))
      have hown2 := hown.on hb
      clear hb hc0 hc1 HB hown
      obtain ⟨m, hm⟩ : ∃ m : Nat, f.toNat + j = m := ⟨_, rfl⟩
      have hm2 : f + (j : Int) = (m : Int) := by omega
      have HCB := Lib.hid (H.out.same (HB2.out.block R hR))
      rw [hm2]
      obtain ⟨A, hA⟩ : ∃ A, cD r xs j = A := ⟨_, rfl⟩
      obtain ⟨B, hB⟩ : ∃ A, cN r xs j = A := ⟨_, rfl⟩
      obtain ⟨C, hC⟩ : ∃ A, cC r xs j = A := ⟨_, rfl⟩
      obtain ⟨E, hE⟩ : ∃ A, cM r xs j = A := ⟨_, rfl⟩
      have HAT : Hid (Calls Try.prog 41 #[.pointer (some ⟨R, 2, none⟩), .int .i64 m] w2 fun e w' => e = .returned (.agg #[.int .i64 A, .int .i64 B, .int .i64 C, .int .i64 E]) ∧ Below w2.heap.size w2 w') := Lib.hid (by
        have := colat_any R f _ G m _ HCB.out (by omega)
        obtain ⟨e0, e1, e2, e3⟩ := HG.out m (by omega) (by omega)
        unfold AtG at this
        rw [e0, e1, e2, e3, show m - f.toNat = j by omega, hA, hB, hC, hE] at this
        exact this)
      obtain ⟨y, hy⟩ : ∃ y, pick A B C E = y := ⟨_, rfl⟩
      have HYY : Hid (colL F (j + 1) = colL F j ++ [y]) := Lib.hid (by rw [colL_snoc, HFF.out j, hA, hB, hC, hE, hy])
      have HY := Lib.hid hy
      clear hA hB hC hE hy
      go_wp2_with fail
      with_reducible refine HAT.out.mono ?_
      rintro e w3 ⟨rfl, hb⟩
      have hc0 := keep2 hb hd0
      have hc1 := keep2 hb hd1
      have HB3 := Lib.hid (HB2.out.trans (hb.mono HB2.out.size))
      have hown3 := hown2.on hb
      clear hb hd0 hd1 HB2 hown2 HAT HCB
      go_wp2_with fail
      with_reducible refine (HF.out A B C E _).mono ?_
      rintro e w4 ⟨rfl, hb⟩
      have hd0 := keep2 hb hc0
      have hd1 := keep2 hb hc1
      have HB4 := Lib.hid (HB3.out.trans (hb.mono HB3.out.size))
      have hown4 := hown3.on hb
      have hw4 := HB4.out.size
      clear hb hc0 hc1 HB3 hown3
      rw [HY.out]
      have HL1 : Hid ((colL F j).length ≤ 4096) := Lib.hid (by rw [colL_len]; omega)
      obtain ⟨zs, hzs⟩ : ∃ zs, colL F j = zs := ⟨_, rfl⟩
      rw [hzs] at hown4 HYY HL1
      clear hzs
      go_wp2_with (at_builtin; refine wpList_app rfl _ _ rfl w.heap.size _ zs y rfl (hown4.same (fun k hk hl => Below.heap_alloc _ _ _ hl)) ⟨w4.heap.size, 0, none⟩ rfl (one_newC w4 y) HL1.out (by simp; omega) ?_)
      intro v' w5 hown' hgrow hw
      have hb := app_below hown4 hw4 hgrow
      have hc0 := (hb.cell (p := ⟨R, 0, none⟩) hR).trans hd0
      have hc1 := (hb.cell (p := ⟨R, 1, none⟩) hR).trans hd1
      have HB5 := Lib.hid (HB4.out.trans hb)
      rw [← HYY.out] at hown'
      clear hgrow hown4 hw hb hd0 hd1 HB4
      go_wp2_with fail
      go_roundw
      case rel => exact ⟨j + 1, by omega, by rw [show (m : Int) + 1 = f + ((j + 1 : Nat) : Int) by omega], hown', hc0, hc1, HB5⟩
      case measure => simp [intOf]; omega
    · go_wp2_with fail
      with_reducible refine (end_any f xs _ _ _ _ (by omega) f0 (by omega)).mono ?_
      rintro e w2 ⟨rfl, hb⟩
      have HB2 := Lib.hid (HB.out.trans (hb.mono HB.out.size))
      have hown2 := hown.on hb
      clear hb hc0 hc1 HB hown
      go_wp2_with fail
      go_ret
      have ej : j = xs.length := by have := HL.out; omega
      rw [← ej]
      exact ⟨_, rfl, hown2, HB2.out⟩

theorem coE_age (r f : Int) (xs : List Int) (x : Int) : coE r f xs x = if ageE f xs x = 0 then (if rateB r = true then 0 else 2) else ageE f xs x := by
  unfold coE ageE
  by_cases h1 : ltB f xs = true
  · by_cases h3 : f ≤ x ∧ x ≤ 150
    · have : inB x f 150 = true := (inB_iff _ _ _).2 h3
      simp [h1, h3, this]
    · have : ¬ inB x f 150 = true := fun h => h3 ((inB_iff _ _ _).1 h)
      simp [h1, h3, this]
  · simp [h1]

theorem icheck_any (r f : Int) (xs : List Int) (a : Option Addr) (l c : Nat) (x : Int) (w : World) (h : Ints w a l xs) (hlc : l ≤ c) :
    Calls Try.prog 39 #[.agg #[.int .i64 f, .slice a l c], .int .i64 r, .int .i64 x] w fun e w' => e = .returned (.int .i64 (coE r f xs x)) ∧ Below w.heap.size w w' := by
  have HC := Lib.hid (check_any f xs a l c x 0 (w.alloc (.cells #[.int .i64 f, .slice a l c] 26)) (h.on (box_b _ _)) hlc)
  rw [chE_age] at HC
  have HE := Lib.hid (coE_age r f xs x)
  clear h
  obtain ⟨E, hE⟩ : ∃ E, ageE f xs x = E := ⟨_, rfl⟩
  rw [hE] at HC HE
  clear hE
  by_cases hz : E = 0
  · subst hz
    by_cases hr : rateB r = true
    · have HR : Hid (coE r f xs x = 0) := Lib.hid (by rw [HE.out]; simp [hr])
      go_enter Try.func39, Try.ntmps39
      go_wp2_with fail
      refine HC.out.mono ?_
      rintro e w1 ⟨rfl, hb⟩
      obtain ⟨hB, hc0, hc1⟩ := box2 hb
      have HB := Lib.hid hB
      clear hB hb
      go_wp2_with (go_at_call 66; refine (isRate_any _ _).mono ?_; rintro e w' ⟨rfl, rfl⟩)
      go_ret
      exact ⟨ret_int HR.out.symm, HB.out⟩
    · have HR : Hid (coE r f xs x = 2) := Lib.hid (by rw [HE.out]; simp [hr])
      go_enter Try.func39, Try.ntmps39
      go_wp2_with fail
      refine HC.out.mono ?_
      rintro e w1 ⟨rfl, hb⟩
      obtain ⟨hB, hc0, hc1⟩ := box2 hb
      have HB := Lib.hid hB
      clear hB hb
      go_wp2_with (go_at_call 66; refine (isRate_any _ _).mono ?_; rintro e w' ⟨rfl, rfl⟩)
      go_ret
      exact ⟨ret_int HR.out.symm, HB.out⟩
  · have hz2 : (E == 0) = false := by simp [hz]
    have HR : Hid (coE r f xs x = E) := Lib.hid (by rw [HE.out, if_neg hz])
    go_enter Try.func39, Try.ntmps39
    go_wp2_with fail
    refine HC.out.mono ?_
    rintro e w1 ⟨rfl, hb⟩
    obtain ⟨hB, hc0, hc1⟩ := box2 hb
    have HB := Lib.hid hB
    clear hB hb
    go_wp2_with fail
    go_ret
    exact ⟨ret_int HR.out.symm, HB.out⟩

set_option maxHeartbeats 800000 in
theorem ilist_any (fn : FuncId) (pick : Int → Int → Int → Int → Int) (hf : Takes fn pick) (r f : Int) (xs : List Int) (a : Option Addr) (l c : Nat) (w : World) (h : Ints w a l xs) (hlc : l ≤ c) :
    Calls Try.prog 47 #[.agg #[.int .i64 f, .slice a l c], .int .i64 r, .func (.func fn) #[] #[]] w (LsPost (clY (fun k => pick (cD r xs k) (cN r xs k) (cC r xs k) (cM r xs k)) r f xs) (coE r f xs f) w) := by
  have H := Lib.hid h
  have HL := Lib.hid h.len
  have HF := Lib.hid hf
  have CO : Hid (∀ W, Hid (Below w.heap.size w W) → Calls Try.prog 39 #[.agg #[.int .i64 f, .slice a l c], .int .i64 r, .int .i64 f] W fun e w' => e = .returned (.int .i64 (coE r f xs f)) ∧ Below W.heap.size W w') :=
    Lib.hid (fun W hW => icheck_any r f xs a l c f W (H.out.on hW.out) hlc)
  clear h hf
  obtain ⟨E, hE⟩ : ∃ E, coE r f xs f = E := ⟨_, rfl⟩
  obtain ⟨F, hFF⟩ : ∃ F : Nat → Int, (fun k => pick (cD r xs k) (cN r xs k) (cC r xs k) (cM r xs k)) = F := ⟨_, rfl⟩
  have HFF := Lib.hid hFF
  rw [hFF]
  clear hFF
  obtain ⟨Y, hY⟩ : ∃ Y, clY F r f xs = Y := ⟨_, rfl⟩
  rw [hE] at CO ⊢
  rw [hY]
  have HY : Hid (Y = if E = 0 then colL F xs.length else []) := Lib.hid (by rw [← hY, ← hE]; rfl)
  have HE := Lib.hid hE
  clear hE hY
  by_cases hz : E = 0
  · subst hz
    obtain ⟨ht, ⟨r0, r1⟩, -, -⟩ := coE_iff.1 HE.out
    have HT := Lib.hid ht
    clear ht
    go_enter Try.func47, Try.ntmps47
    go_wp2_with fail
    with_reducible refine (CO.out _ (Lib.hid (box_b _ _))).mono ?_
    rintro e w1 ⟨rfl, hb⟩
    obtain ⟨hB, hc0, hc1⟩ := box2 hb
    have HB := Lib.hid hB
    clear hb hB
    go_wp2_with fail
    with_reducible refine (co_any r f xs a l c _ (H.out.on HB.out) HT.out r0 r1).mono ?_
    rintro e w2 ⟨R, G, rfl, hR, hG, hGs, hb⟩
    have HB2 := Lib.hid (HB.out.trans (hb.mono HB.out.size))
    have HLL := Lib.hid (list_any fn pick HF.out r f xs a l c R G w2 HL.out HT.out hG hGs)
    rw [HFF.out] at HLL
    have hs2 := HB2.out.size
    clear hG hGs hb hc0 hc1
    go_wp2_with fail
    with_reducible refine HLL.out.mono ?_
    rintro e w3 ⟨v, rfl, hown, hb⟩
    have HB3 := Lib.hid (HB2.out.trans (hb.mono HB2.out.size))
    have HO := Lib.hid hown
    clear hb hown HLL
    go_wp2_with fail
    go_ret2
    exact ls_cond HO.out (by rw [colL_len]; have := HT.out.2.1; omega) HB3.out hs2 rfl (by rw [HY.out]; rfl)
  · have hne : (E != 0) = true := by simp [hz]
    have HYN : Hid (Y = []) := Lib.hid (by rw [HY.out, if_neg hz])
    clear hz HY HE
    go_enter Try.func47, Try.ntmps47
    go_wp2_with fail
    with_reducible refine (CO.out _ (Lib.hid (box_b _ _))).mono ?_
    rintro e w1 ⟨rfl, hb⟩
    obtain ⟨hB, hc0, hc1⟩ := box2 hb
    have HB := Lib.hid hB
    clear hb hB
    go_wp2_with fail
    go_ret2
    exact ls_nil HB.out rfl HYN.out

theorem iColumnD_any (r f : Int) (xs : List Int) (a : Option Addr) (l c : Nat) (w : World) (h : Ints w a l xs) (hlc : l ≤ c) :
    Calls Try.prog 15 #[.agg #[.int .i64 f, .slice a l c], .int .i64 r] w (LsPost (clY (cD r xs) r f xs) (coE r f xs f) w) := by
  have H := Lib.hid h
  clear h
  obtain ⟨E, hE⟩ : ∃ E, coE r f xs f = E := ⟨_, rfl⟩
  obtain ⟨Y, hY⟩ : ∃ Y, clY (cD r xs) r f xs = Y := ⟨_, rfl⟩
  have C : Hid (∀ W, Hid (Below w.heap.size w W) → Calls Try.prog 47 #[.agg #[.int .i64 f, .slice a l c], .int .i64 r, .func (.func 48) #[] #[]] W (LsPost Y E W)) :=
    Lib.hid (fun W hW => by have := ilist_any 48 (fun a b c d => a) ⟨enters_of Try.func48 (by kernel_rfl) rfl, fun a b c d W => colD_any a b c d W⟩ r f xs a l c W (H.out.on hW.out) hlc; rw [hE] at this; rw [← hY]; exact this)
  rw [hE, hY]
  clear hE hY
  go_enter Try.func15, Try.ntmps15
  go_wp2_with fail
  with_reducible refine (C.out _ (Lib.hid (box_b _ _))).mono ?_
  rintro e w1 ⟨sa, sn, sc, rfl, hT, hb⟩
  obtain ⟨hB, hc0, hc1⟩ := box2 hb
  have HB := Lib.hid hB
  have HT := Lib.hid hT
  clear hb hB hT
  go_wp2_with fail
  go_ret2
  exact ⟨sa, sn, sc, rfl, HT.out.mono (by simp), HB.out⟩

theorem iColumnN_any (r f : Int) (xs : List Int) (a : Option Addr) (l c : Nat) (w : World) (h : Ints w a l xs) (hlc : l ≤ c) :
    Calls Try.prog 17 #[.agg #[.int .i64 f, .slice a l c], .int .i64 r] w (LsPost (clY (cN r xs) r f xs) (coE r f xs f) w) := by
  have H := Lib.hid h
  clear h
  obtain ⟨E, hE⟩ : ∃ E, coE r f xs f = E := ⟨_, rfl⟩
  obtain ⟨Y, hY⟩ : ∃ Y, clY (cN r xs) r f xs = Y := ⟨_, rfl⟩
  have C : Hid (∀ W, Hid (Below w.heap.size w W) → Calls Try.prog 47 #[.agg #[.int .i64 f, .slice a l c], .int .i64 r, .func (.func 50) #[] #[]] W (LsPost Y E W)) :=
    Lib.hid (fun W hW => by have := ilist_any 50 (fun a b c d => b) ⟨enters_of Try.func50 (by kernel_rfl) rfl, fun a b c d W => colN_any a b c d W⟩ r f xs a l c W (H.out.on hW.out) hlc; rw [hE] at this; rw [← hY]; exact this)
  rw [hE, hY]
  clear hE hY
  go_enter Try.func17, Try.ntmps17
  go_wp2_with fail
  with_reducible refine (C.out _ (Lib.hid (box_b _ _))).mono ?_
  rintro e w1 ⟨sa, sn, sc, rfl, hT, hb⟩
  obtain ⟨hB, hc0, hc1⟩ := box2 hb
  have HB := Lib.hid hB
  have HT := Lib.hid hT
  clear hb hB hT
  go_wp2_with fail
  go_ret2
  exact ⟨sa, sn, sc, rfl, HT.out.mono (by simp), HB.out⟩

theorem iColumnC_any (r f : Int) (xs : List Int) (a : Option Addr) (l c : Nat) (w : World) (h : Ints w a l xs) (hlc : l ≤ c) :
    Calls Try.prog 19 #[.agg #[.int .i64 f, .slice a l c], .int .i64 r] w (LsPost (clY (cC r xs) r f xs) (coE r f xs f) w) := by
  have H := Lib.hid h
  clear h
  obtain ⟨E, hE⟩ : ∃ E, coE r f xs f = E := ⟨_, rfl⟩
  obtain ⟨Y, hY⟩ : ∃ Y, clY (cC r xs) r f xs = Y := ⟨_, rfl⟩
  have C : Hid (∀ W, Hid (Below w.heap.size w W) → Calls Try.prog 47 #[.agg #[.int .i64 f, .slice a l c], .int .i64 r, .func (.func 51) #[] #[]] W (LsPost Y E W)) :=
    Lib.hid (fun W hW => by have := ilist_any 51 (fun a b c d => c) ⟨enters_of Try.func51 (by kernel_rfl) rfl, fun a b c d W => colC_any a b c d W⟩ r f xs a l c W (H.out.on hW.out) hlc; rw [hE] at this; rw [← hY]; exact this)
  rw [hE, hY]
  clear hE hY
  go_enter Try.func19, Try.ntmps19
  go_wp2_with fail
  with_reducible refine (C.out _ (Lib.hid (box_b _ _))).mono ?_
  rintro e w1 ⟨sa, sn, sc, rfl, hT, hb⟩
  obtain ⟨hB, hc0, hc1⟩ := box2 hb
  have HB := Lib.hid hB
  have HT := Lib.hid hT
  clear hb hB hT
  go_wp2_with fail
  go_ret2
  exact ⟨sa, sn, sc, rfl, HT.out.mono (by simp), HB.out⟩

theorem iColumnM_any (r f : Int) (xs : List Int) (a : Option Addr) (l c : Nat) (w : World) (h : Ints w a l xs) (hlc : l ≤ c) :
    Calls Try.prog 21 #[.agg #[.int .i64 f, .slice a l c], .int .i64 r] w (LsPost (clY (cM r xs) r f xs) (coE r f xs f) w) := by
  have H := Lib.hid h
  clear h
  obtain ⟨E, hE⟩ : ∃ E, coE r f xs f = E := ⟨_, rfl⟩
  obtain ⟨Y, hY⟩ : ∃ Y, clY (cM r xs) r f xs = Y := ⟨_, rfl⟩
  have C : Hid (∀ W, Hid (Below w.heap.size w W) → Calls Try.prog 47 #[.agg #[.int .i64 f, .slice a l c], .int .i64 r, .func (.func 52) #[] #[]] W (LsPost Y E W)) :=
    Lib.hid (fun W hW => by have := ilist_any 52 (fun a b c d => d) ⟨enters_of Try.func52 (by kernel_rfl) rfl, fun a b c d W => colM_any a b c d W⟩ r f xs a l c W (H.out.on hW.out) hlc; rw [hE] at this; rw [← hY]; exact this)
  rw [hE, hY]
  clear hE hY
  go_enter Try.func21, Try.ntmps21
  go_wp2_with fail
  with_reducible refine (C.out _ (Lib.hid (box_b _ _))).mono ?_
  rintro e w1 ⟨sa, sn, sc, rfl, hT, hb⟩
  obtain ⟨hB, hc0, hc1⟩ := box2 hb
  have HB := Lib.hid hB
  have HT := Lib.hid hT
  clear hb hB hT
  go_wp2_with fail
  go_ret2
  exact ⟨sa, sn, sc, rfl, HT.out.mono (by simp), HB.out⟩

end Go.Proofs.Ytncnocaifpiecaa
