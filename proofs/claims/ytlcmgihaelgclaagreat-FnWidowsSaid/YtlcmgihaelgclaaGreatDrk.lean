/- The model's draw of what the annuities of two lives take. (Written by wip/gen/drj2.py.) -/
import Derived.Test.YtlcmgihaelgclaaGreatDrj
import Derived.Test.YtlcmgihaelgclaaGreatDrCA
namespace Go.Proofs.YtlcmgihaelgclaaGreat
open Go.ChangeShapes Go.WideShapes Go.ChangeAt Go.RowKit
set_option linter.unusedVariables false
set_option maxRecDepth 100000

set_option maxHeartbeats 4000000 in
theorem drawJA (a : Option Addr) (l c : Nat) (z : List Int) (w : World) (hr : IsRow .u8 w a l c z) : Calls Tryz.prog 15 #[.slice a l c] w (JaPost w) := by
  have HRA := Lib.hid hr.apart
  have HR := Lib.hid hr
  clear hr
  have hq : Below w.heap.size w ((w.alloc (.cells #[.int .i64 0, .slice none 0 0] 26)).alloc (.cells #[.int .i64 0, .slice none 0 0] 26)) := (box_b _ _).trans ((box_b _ _).mono (by simp))
  have HR1 : Hid (IsRow .u8 ((w.alloc (.cells #[.int .i64 0, .slice none 0 0] 26)).alloc (.cells #[.int .i64 0, .slice none 0 0] 26)) a l c z) := Lib.hid (HR.out.below hq HRA.out)
  have hx0 := (Bx.new w [.int .i64 0, .slice none 0 0] 26).on (box_b (w.alloc (.cells #[.int .i64 0, .slice none 0 0] 26)) (.cells #[.int .i64 0, .slice none 0 0] 26))
  have hy0 := Bx.new (w.alloc (.cells #[.int .i64 0, .slice none 0 0] 26)) [.int .i64 0, .slice none 0 0] 26
  have hsz : ((w.alloc (.cells #[.int .i64 0, .slice none 0 0] 26)).alloc (.cells #[.int .i64 0, .slice none 0 0] 26)).heap.size = w.heap.size + 1 + 1 := by rw [World.size_alloc, World.size_alloc]
  rw [World.size_alloc] at hy0
  have HX := Lib.hid hx0
  have HY := Lib.hid hy0
  have HQ := Lib.hid hq
  have HSZ := Lib.hid hsz
  clear hx0 hy0 hq hsz
  go_enter Tryz.func15, Tryz.ntmps15
  go_wp2_with fail
  refine (from_any _ _ _ z _ HR1.out).mono ?_
  rintro e w1 ⟨rfl, hs, hz, hb⟩
  have HS := Lib.hid (ready_of HR1.out hs hb)
  have HX := Lib.hid (HX.out.on hb)
  have HY := Lib.hid (HY.out.on hb)
  have HB := Lib.hid (HQ.out.trans (hb.mono (by rw [HSZ.out]; omega)))
  rw [HSZ.out] at HS hz
  (try rw [HSZ.out])
  obtain ⟨X, hX⟩ : ∃ X, w.heap.size = X := ⟨_, rfl⟩
  rw [hX] at HS HX HY HB HRA hz
  (try rw [hX])
  have HE := Lib.hid hX
  obtain ⟨Y, hY⟩ : ∃ Y, X + 1 = Y := ⟨_, rfl⟩
  rw [hY] at HS HY hz
  (try rw [hY])
  obtain ⟨B, hBX⟩ : ∃ B, Y + 1 = B := ⟨_, rfl⟩
  rw [hBX] at HS hz
  (try rw [hBX])
  have oY : Y = X + 1 := hY.symm
  have OY := Lib.hid oY
  have oB : Y < B := by omega
  have oX : X < B := by omega
  have HZ1 : Hid (w1.heap.size = B + 1) := Lib.hid hz
  clear hb hs hX hBX hY hz HR1 HQ HSZ oY
  go_wp2_with fail
  refine (draw2 B a l c z w1 HS.out).mono ?_
  rintro e w2 ⟨F, ta, tn, tc, xs, x, G, ua, un, uc, ys, y, rfl, hI1, hI2, hn1, hn2, far1, far2, ho, hs⟩
  have H0 : Hid (C9 B X Y a l c z ta tn xs ua un ys w w2) := Lib.hid (by
    have oY := OY.out
    have hz := HZ1.out
    exact ⟨hs, HB.out.trans (ho.below (by omega) (by omega)), ⟨_, _, HX.out.same (ho.block _ HX.out.lt (by omega))⟩, ⟨_, _, HY.out.same (ho.block _ HY.out.lt (by omega))⟩, hI1, hI2, fun x hx => by have := far1 x hx; omega, fun x hx => by have := far2 x hx; omega, oY, oB, HE.out, HRA.out⟩)
  have hXY : X ≠ Y := by have := OY.out; omega
  have hYX : Y ≠ X := by have := OY.out; omega
  have hsz : B < w2.heap.size := by have := ho.size; have := HZ1.out; omega
  clear hI1 hI2 far1 far2 ho hs HS HX HY HB HE HZ1 HRA oX
  go_wp2_with fail
  have H9 : Hid (T9 B X Y w2.heap.size (w2.heap.size + 1) a l c z F ta tn tc xs G ua un uc ys w ((w2.alloc (.cells #[.int .i64 F, .slice ta tn tc] 26)).alloc (.cells #[.int .i64 G, .slice ua un uc] 26))) := Lib.hid (by
    have hbu := Bx.new (w2.alloc (.cells #[.int .i64 F, .slice ta tn tc] 26)) [.int .i64 G, .slice ua un uc] 26
    rw [World.size_alloc] at hbu
    exact ⟨(H0.out.call (But.alloc _) (H0.out.ready.alloc _)).call (But.alloc _) ((H0.out.ready.alloc _).alloc _), (Bx.new w2 [.int .i64 F, .slice ta tn tc] 26).on (box_b _ _), hbu, by omega, by omega⟩)
  obtain ⟨T, hT⟩ : ∃ T, w2.heap.size = T := ⟨_, rfl⟩
  rw [hT] at H9
  (try rw [hT])
  obtain ⟨U, hU⟩ : ∃ U, T + 1 = U := ⟨_, rfl⟩
  rw [hU] at H9
  (try rw [hU])
  generalize ((w2.alloc (.cells #[.int .i64 F, .slice ta tn tc] 26)).alloc (.cells #[.int .i64 G, .slice ua un uc] 26)) = v2 at H9 ⊢
  clear hT hU hsz H0
  have hTX : T ≠ X := by have := H9.out.oT; have := OY.out; omega
  have hTY : T ≠ Y := by have := H9.out.oT; have := OY.out; omega
  have hUX : U ≠ X := by have := H9.out.oU; have := OY.out; omega
  have hUY : U ≠ Y := by have := H9.out.oU; have := OY.out; omega
  have R1 : Hid (∀ W, Hid (T9 B X Y T U a l c z F ta tn tc xs G ua un uc ys w W) → Calls Tryz.prog 33 #[.pointer (some ⟨B, 0, none⟩)] W fun e w' => ∃ v, e = .returned (.int .i64 v) ∧ Hid (T9 B X Y T U a l c z F ta tn tc xs G ua un uc ys w w')) :=
    Lib.hid (fun W hW => (rate_r B a l c z W hW.out.core.ready).mono fun e w' ⟨v, he, hd, ho, hs⟩ => ⟨v, he, Lib.hid (hW.out.call ho hs)⟩)
  have A1 : Hid (∀ W, Hid (T9 B X Y T U a l c z F ta tn tc xs G ua un uc ys w W) → Calls Tryz.prog 34 #[.pointer (some ⟨B, 0, none⟩)] W fun e w' => ∃ v, e = .returned (.int .i64 v) ∧ Hid (T9 B X Y T U a l c z F ta tn tc xs G ua un uc ys w w')) :=
    Lib.hid (fun W hW => (amt_r B a l c z W hW.out.core.ready).mono fun e w' ⟨v, he, hd, ho, hs⟩ => ⟨v, he, Lib.hid (hW.out.call ho hs)⟩)
  obtain ⟨k0, k1, k2, k3, _⟩ := t9S H9.out
  go_region_held3 (fun w' => w'.cell? ⟨T, 0, none⟩ = some (.int .i64 F) ∧ w'.cell? ⟨T, 1, none⟩ = some (.slice ta tn tc) ∧ w'.cell? ⟨U, 0, none⟩ = some (.int .i64 G) ∧ w'.cell? ⟨U, 1, none⟩ = some (.slice ua un uc) ∧ Hid (T9 B X Y T U a l c z F ta tn tc xs G ua un uc ys w w'))
      (first
      | (go_split_ands; exact t9S (Hid.out (by with_reducible assumption)))
      | (go_split_ands; exact t9S (T9.drew (Hid.out (by with_reducible assumption))))
      | (go_split_ands; exact t9S (T9.alloc (Hid.out (by with_reducible assumption)) _))
      | (go_split_ands; exact t9S (T9.drew (T9.alloc (Hid.out (by with_reducible assumption)) _)))
      | (go_split_ands; exact t9S (T9.put (Hid.out (by with_reducible assumption)) (.inl rfl) _ _))
      | (go_split_ands; exact t9S (T9.put (Hid.out (by with_reducible assumption)) (.inr rfl) _ _))
      | fail)
      (first
        | (go_split_ands; go_at_call 33; ((with_reducible refine (R1.out _ (by with_reducible assumption)).mono ?_); rintro e w' ⟨v, rfl, hA8⟩))
        | (go_split_ands; go_at_call 34; ((with_reducible refine (A1.out _ (by with_reducible assumption)).mono ?_); rintro e w' ⟨v9, rfl, hA8⟩; obtain ⟨⟨_, _, r0, r1⟩, ⟨_, _, s0, s1⟩, m0, m1, m2, m3⟩ := hA8.out.core.cells; have HP := hA8))
        | fail)
  all_goals
    go_split_ands
    obtain ⟨e0, e1, e2, e3⟩ := HP.out.core.read (.int .i64 F) (.slice ta tn tc) (.int .i64 G) (.slice ua un uc)
    go_wp2_with fail
    exact bodyPost_ret (v := .tuple #[.agg #[.int .i64 F, .slice ta tn tc], .int .i64 x, .agg #[.int .i64 G, .slice ua un uc], .int .i64 y, .int .i64 v, .int .i64 v9]) (by simp [results, Tryz.results15, go_sem, e0, e1, e2, e3]) rfl ⟨F, ta, tn, tc, xs, x, G, ua, un, uc, ys, y, v, v9, rfl, HP.out.core.fin _ _ _ _, hn1, hn2, HP.out.core.far.1, HP.out.core.far.2⟩

theorem bxs_read {W : World} {X Y : Nat} {x1 x2 y1 y2 p q r s : Value} (h1 : Bx W X [x1, x2]) (h2 : Bx W Y [y1, y2]) (hn : X ≠ Y) :
    ((((W.setCell ⟨X, 0, none⟩ p).setCell ⟨X, 1, none⟩ q).setCell ⟨Y, 0, none⟩ r).setCell ⟨Y, 1, none⟩ s).cell? ⟨X, 0, none⟩ = some p ∧ ((((W.setCell ⟨X, 0, none⟩ p).setCell ⟨X, 1, none⟩ q).setCell ⟨Y, 0, none⟩ r).setCell ⟨Y, 1, none⟩ s).cell? ⟨X, 1, none⟩ = some q ∧ ((((W.setCell ⟨X, 0, none⟩ p).setCell ⟨X, 1, none⟩ q).setCell ⟨Y, 0, none⟩ r).setCell ⟨Y, 1, none⟩ s).cell? ⟨Y, 0, none⟩ = some r ∧ ((((W.setCell ⟨X, 0, none⟩ p).setCell ⟨X, 1, none⟩ q).setCell ⟨Y, 0, none⟩ r).setCell ⟨Y, 1, none⟩ s).cell? ⟨Y, 1, none⟩ = some s := by
  obtain ⟨t1, h1⟩ := h1
  obtain ⟨t2, h2⟩ := h2
  have n1 : ¬ X = Y := hn
  have n2 : ¬ Y = X := fun e => hn e.symm
  simp [World.cell?, World.setCell, Array.getElem?_modify, h1, h2, n1, n2]

set_option maxHeartbeats 4000000 in
theorem drawLA9 (a : Option Addr) (l c : Nat) (z : List Int) (w : World) (hr : IsRow .u8 w a l c z) : Calls Tryz.prog 5 #[.slice a l c] w (JaPost w) := by
  have HRA := Lib.hid hr.apart
  have HR := Lib.hid hr
  clear hr
  have hq : Below w.heap.size w ((w.alloc (.cells #[.int .i64 0, .slice none 0 0] 26)).alloc (.cells #[.int .i64 0, .slice none 0 0] 26)) := (box_b _ _).trans ((box_b _ _).mono (by simp))
  have HR1 : Hid (IsRow .u8 ((w.alloc (.cells #[.int .i64 0, .slice none 0 0] 26)).alloc (.cells #[.int .i64 0, .slice none 0 0] 26)) a l c z) := Lib.hid (HR.out.below hq HRA.out)
  have hx0 := (Bx.new w [.int .i64 0, .slice none 0 0] 26).on (box_b (w.alloc (.cells #[.int .i64 0, .slice none 0 0] 26)) (.cells #[.int .i64 0, .slice none 0 0] 26))
  have hy0 := Bx.new (w.alloc (.cells #[.int .i64 0, .slice none 0 0] 26)) [.int .i64 0, .slice none 0 0] 26
  have hsz : ((w.alloc (.cells #[.int .i64 0, .slice none 0 0] 26)).alloc (.cells #[.int .i64 0, .slice none 0 0] 26)).heap.size = w.heap.size + 1 + 1 := by rw [World.size_alloc, World.size_alloc]
  rw [World.size_alloc] at hy0
  have HX := Lib.hid hx0
  have HY := Lib.hid hy0
  have HQ := Lib.hid hq
  have HSZ := Lib.hid hsz
  clear hx0 hy0 hq hsz
  go_enter Tryz.func5, Tryz.ntmps5
  go_wp2_with fail
  refine (drawJA _ _ _ _ _ HR1.out).mono ?_
  rintro e w1 ⟨F, ta, tn, tc, xs, x, G, ua, un, uc, ys, y, r, m, rfl, ⟨hI1, hI2, hb⟩, hn1, hn2, far1, far2⟩
  have HX := Lib.hid (HX.out.on hb)
  have HY := Lib.hid (HY.out.on hb)
  have HB := Lib.hid (HQ.out.trans (hb.mono (by rw [HSZ.out]; omega)))
  have HF1 : Hid (∀ x, ta = some x → w.heap.size + 1 < x.block) := Lib.hid (fun x hx => by have := far1 x hx; rw [HSZ.out] at this; omega)
  have HF2 : Hid (∀ x, ua = some x → w.heap.size + 1 < x.block) := Lib.hid (fun x hx => by have := far2 x hx; rw [HSZ.out] at this; omega)
  have HI1 := Lib.hid hI1
  have HI2 := Lib.hid hI2
  clear hb hI1 hI2 far1 far2 HR1 HQ HSZ
  obtain ⟨Y, hY⟩ : ∃ Y, w.heap.size + 1 = Y := ⟨_, rfl⟩
  have HE := Lib.hid hY
  rw [hY] at HY HF1 HF2
  (try rw [hY])
  have hXY : w.heap.size ≠ Y := by omega
  have hYX : Y ≠ w.heap.size := by omega
  clear hY
  obtain ⟨r0, r1⟩ := HX.out.two
  obtain ⟨s0, s1⟩ := HY.out.two
  have m0 := HX.out.free 0
  have m1 := HX.out.free 1
  have m2 := HY.out.free 0
  have m3 := HY.out.free 1
  go_wp2_with fail
  obtain ⟨e0, e1, e2, e3⟩ := bxs_read (p := .int .i64 F) (q := .slice ta tn tc) (r := .int .i64 G) (s := .slice ua un uc) HX.out HY.out hXY
  have hle : w.heap.size ≤ Y := by have := HE.out; omega
  have o1 := put_only w1 w.heap.size (.int .i64 F) (.slice ta tn tc)
  have o2 := put_only ((w1.setCell ⟨w.heap.size, 0, none⟩ (.int .i64 F)).setCell ⟨w.heap.size, 1, none⟩ (.slice ta tn tc)) Y (.int .i64 G) (.slice ua un uc)
  have g1 := (HI1.out.onlyT o1 (fun x hx => by have := HF1.out x hx; omega)).onlyT o2 (fun x hx => by have := HF1.out x hx; omega)
  have g2 := (HI2.out.onlyT o1 (fun x hx => by have := HF2.out x hx; omega)).onlyT o2 (fun x hx => by have := HF2.out x hx; omega)
  exact bodyPost_ret (v := .tuple #[.agg #[.int .i64 F, .slice ta tn tc], .int .i64 x, .agg #[.int .i64 G, .slice ua un uc], .int .i64 y, .int .i64 r, .int .i64 m]) (by simp [results, Tryz.results5, go_sem, e0, e1, e2, e3]) rfl ⟨F, ta, tn, tc, xs, x, G, ua, un, uc, ys, y, r, m, rfl, ⟨g1, g2, (HB.out.trans (o1.below (Nat.le_refl _))).trans (o2.below hle)⟩, hn1, hn2, fun x hx => by have := HF1.out x hx; omega, fun x hx => by have := HF2.out x hx; omega⟩

end Go.Proofs.YtlcmgihaelgclaaGreat
