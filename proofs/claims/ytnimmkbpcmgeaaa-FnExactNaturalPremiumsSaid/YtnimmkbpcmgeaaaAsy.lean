/- The exact law on NaturalPremiums. (Written by wip/gen/asy.py.) -/
import Derived.Test.YtnimmkbpcmgeaaaAso
import Derived.Test.YtnimmkbpcmgeaaaColMT
namespace Go.Proofs.Ytnimmkbpcmgeaaa
open Go.ChangeShapes Go.WideShapes Go.ChangeAt Go.RowKit
set_option linter.unusedVariables false
set_option maxRecDepth 100000

set_option maxHeartbeats 2000000 in
theorem fnExactNaturalPremiums_walk (f0 : Int) (a0 : Option Addr) (len0 cap0 : Nat) (z0 : List Int) (a1 : Int) (a2 : Int) (a3 : Int) (a4 : Int) (w : World) (w0 : IsRow .i64 w a0 len0 cap0 z0) (w1 : (Lit.int .i64 a1).wf = true) (w2 : (Lit.int .i64 a2).wf = true) (w3 : (Lit.int .i64 a3).wf = true) (w4 : (Lit.int .i64 a4).wf = true) :
    Calls Try.prog 7 #[.agg #[.int .i64 f0, .slice a0 len0 cap0], .int .i64 a1, .int .i64 a2, .int .i64 a3, .int .i64 a4] w fun e w' => e = .returned (.bool true) ∧ Below w.heap.size w w' := by
  have hmx := w0.len_le
  unfold maxLen at hmx
  by_cases hbig : (1048576 : Int) < len0
  · go_enter Try.func7, Try.ntmps7
    go_wp2_with fail
    refine (szT_big _ _ _ _ _ (by omega) hbig).mono ?_
    rintro e w1 ⟨rfl, hb⟩
    obtain ⟨hB, hc0, hc1⟩ := box2 hb
    have HB := Lib.hid hB
    clear hb hB
    go_wp2_with fail
    go_ret
    exact ⟨rfl, HB.out⟩
  · have h0 := w0.ints (by omega)
    obtain ⟨xs, hxs⟩ : ∃ xs, z0.take len0 = xs := ⟨_, rfl⟩
    rw [hxs] at h0
    have H := Lib.hid h0
    have HL := Lib.hid h0.len
    have hfit : (len0 : Int) ≤ 1048576 := by omega
    clear h0 w0 w1 w2 w3 w4 hxs hbig hmx
    obtain ⟨Y, hY⟩ : ∃ A, npY a1 f0 xs a2 a3 a4 = A := ⟨_, rfl⟩
    obtain ⟨E, hE⟩ : ∃ A, npE a1 f0 xs a2 a3 a4 = A := ⟨_, rfl⟩
    have CS : Hid (∀ W b c, Hid (Blk W b xs) → c = len0 → Calls Try.prog 16 #[.agg #[.int .i64 f0, .slice (some ⟨b, 0, none⟩) len0 c], .int .i64 a1, .int .i64 a2, .int .i64 a3, .int .i64 a4] W (LsPost Y E W)) :=
      Lib.hid (fun W b c hk hc => by have := snat_any a1 f0 xs _ _ c a2 a3 a4 W (hk.out.ints HL.out (by omega)); rw [hY, hE] at this; exact this)
    have CI : Hid (∀ W b c, Hid (Blk W b xs) → c = len0 → Calls Try.prog 15 #[.agg #[.int .i64 f0, .slice (some ⟨b, 0, none⟩) len0 c], .int .i64 a1, .int .i64 a2, .int .i64 a3, .int .i64 a4] W (LsPost Y E W)) :=
      Lib.hid (fun W b c hk hc => by have := inat_any a1 f0 xs _ _ c a2 a3 a4 W (hk.out.ints HL.out (by omega)) (by omega); rw [hY, hE] at this; exact this)
    clear hY hE
    go_enter Try.func7, Try.ntmps7
    go_wp2_with fail
    refine (szT_fit _ _ _ _ _ hfit).mono ?_
    rintro e w1 ⟨rfl, hb⟩
    obtain ⟨hB, hc0, hc1⟩ := box2 hb
    have HB := Lib.hid hB
    have hs1 := block_lt hc0
    simp only at hs1
    clear hb hB
    go_wp2_with fail
    refine (toT_any f0 xs _ _ _ _ (H.out.on HB.out) (by omega)).mono ?_
    rintro e w2 ⟨B1, rfl, hg1, hk1, hb⟩
    have hd0 := keep2 hb hc0
    have hd1 := keep2 hb hc1
    have HB2 := Lib.hid (HB.out.trans (hb.mono HB.out.size))
    have HK1 := Lib.hid hk1
    have hs2 := hb.size
    clear hb hk1 hc0 hc1 HB
    go_wp2_with fail
    refine (CS.out _ _ _ HK1 rfl).mono ?_
    rintro e w3 ⟨sa, sn, sc, rfl, hT, hb⟩
    have hc0 := keep2 hb hd0
    have hc1 := keep2 hb hd1
    have HB3 := Lib.hid (HB2.out.trans (hb.mono HB2.out.size))
    have HS3 := Lib.hid hT.ints
    have HSA := Lib.hid hT.far
    have hs3 := hb.size
    clear hb hT hd0 hd1 HB2 CS HK1
    go_wp2_with fail
    refine (toT_any f0 xs _ _ _ _ (H.out.on HB3.out) (by omega)).mono ?_
    rintro e w4 ⟨B2, rfl, hg2, hk2, hb⟩
    have hd0 := keep2 hb hc0
    have hd1 := keep2 hb hc1
    have HB4 := Lib.hid (HB3.out.trans (hb.mono HB3.out.size))
    have HK2 := Lib.hid hk2
    have HS4 := Lib.hid (HS3.out.step hb)
    have hs4 := hb.size
    have hB2 := hk2.lt
    clear hb hk2 hc0 hc1 HB3 HS3
    go_wp2_with fail
    refine (CI.out _ _ _ (Lib.hid (HK2.out.alloc _)) rfl).mono ?_
    rintro e w5 ⟨ga, gn, gc, rfl, hT, hb⟩
    have hgn : gn ≤ 4096 := hT.2.1
    have HG5 := Lib.hid hT
    have hGA := hT.far
    rw [World.size_alloc] at hGA
    have HGA := Lib.hid hGA
    obtain ⟨hB, hx0, hx1⟩ := box2 hb
    have hc0 := keep2 hB hd0
    have hc1 := keep2 hB hd1
    have HB5 := Lib.hid (HB4.out.trans (hB.mono HB4.out.size))
    have HK5 := Lib.hid (HK2.out.step hB)
    have HS5 := Lib.hid (HS4.out.step hB)
    have hs5 := hB.size
    clear hT hGA hb hB hd0 hd1 HK2 HB4 HS4
    obtain ⟨X, hX⟩ : ∃ X, w4.heap.size = X := ⟨_, rfl⟩
    rw [hX] at hx0 hx1 hB2 hs5 HGA hs4
    go_wp2_with fail
    (try rw [hX])
    refine (eqS_any Y Y _ _ _ _ _ _ _ HG5.out.ints HS5.out).mono ?_
    rintro e w6 ⟨rfl, n6, rfl⟩
    have HB6 := Lib.hid (below_drewN HB5.out n6)
    have HS6 := Lib.hid (HS5.out.drewN n6)
    have HG6 := Lib.hid (HG5.out.on (below_drewN (Below.refl _ _) n6))
    have HK6 := Lib.hid (HK5.out.step (below_drewN (Below.refl _ _) n6))
    have hx0 := keep2 (below_drewN (Below.refl _ _) n6) hx0
    have hx1 := keep2 (below_drewN (Below.refl _ _) n6) hx1
    have hc0 := keep2 (below_drewN (Below.refl _ _) n6) hc0
    have hc1 := keep2 (below_drewN (Below.refl _ _) n6) hc1
    have hs6 : (w5.drewN n6).heap.size = w5.heap.size := rfl
    obtain ⟨w6, hw6⟩ : ∃ x, x = w5.drewN n6 := ⟨_, rfl⟩
    rw [← hw6] at HB6 HS6 HG6 HK6 hx0 hx1 hc0 hc1 hs6 ⊢
    clear hw6 HB5 HS5 HG5 HK5
    have HXS : Hid (∀ W, Hid (Below w6.heap.size w6 W) → Calls Try.prog 21 #[.agg #[.int .i64 f0, .slice a0 len0 cap0]] W (ToPost W f0 xs len0)) := Lib.hid (fun W hW => toT_any f0 xs _ _ _ W (H.out.on (HB6.out.trans (hW.out.mono HB6.out.size))) (by omega))
    have HEQ : Hid (∀ W B3, Hid (Below w6.heap.size w6 W) → Hid (Blk W B3 xs) → Calls Try.prog 22 #[.agg #[.int .i64 f0, .slice (some ⟨B2, 0, none⟩) len0 len0], .agg #[.int .i64 f0, .slice (some ⟨B3, 0, none⟩) len0 len0]] W fun e w' => e = .returned (.bool true) ∧ Below W.heap.size W w') := Lib.hid (fun W B3 hW hV => eqT_same f0 xs _ _ _ _ _ _ W ((HK6.out.step hW.out).ints HL.out (by omega)) (hV.out.ints HL.out (by omega)))
    have HDR := Lib.hid ((Below.refl w6.heap.size w6).drew)
    go_wp2_with fail
    (try rw [hX])
    clear hX
    go_region_held3 (fun w' => w'.cell? ⟨X, 0, none⟩ = some (.int .i64 f0) ∧ w'.cell? ⟨X, 1, none⟩ = some (.slice (some ⟨B2, 0, none⟩) len0 len0) ∧ w'.cell? ⟨w.heap.size, 0, none⟩ = some (.int .i64 f0) ∧ w'.cell? ⟨w.heap.size, 1, none⟩ = some (.slice a0 len0 cap0) ∧ Hid (Below w6.heap.size w6 w'))
      (first
        | (go_split_ands; exact ⟨by with_reducible assumption, by with_reducible assumption, by with_reducible assumption, by with_reducible assumption, by with_reducible assumption⟩)
        | (go_split_ands; exact ⟨hx0, hx1, hc0, hc1, HDR⟩)
        | (go_split_ands; exact ⟨keep2 hb (by with_reducible assumption), keep2 hb (by with_reducible assumption), keep2 hb (by with_reducible assumption), keep2 hb (by with_reducible assumption), Lib.hid (Below.trans (Hid.out (by with_reducible assumption)) (Below.mono hb (Below.size (Hid.out (by with_reducible assumption)))))⟩))
      (first
        | (go_split_ands; go_at_call 21; ((with_reducible refine (HXS.out _ (by with_reducible assumption)).mono ?_); rintro e w' ⟨B3, rfl, hg3, hk3, hb⟩; have HK3 := Lib.hid hk3; clear hk3))
        | (go_split_ands; go_at_call 22; ((with_reducible refine (HEQ.out _ _ (by with_reducible assumption) (by with_reducible assumption)).mono ?_); rintro e w7 ⟨rfl, hb⟩)))
    all_goals
      go_split_ands
      have HB67 : Hid (Below w6.heap.size w6 w7) := by with_reducible assumption
      have hx0 : w7.cell? ⟨X, 0, none⟩ = some (.int .i64 f0) := by with_reducible assumption
      have hx1 : w7.cell? ⟨X, 1, none⟩ = some (.slice (some ⟨B2, 0, none⟩) len0 len0) := by with_reducible assumption
      have hc0 : w7.cell? ⟨w.heap.size, 0, none⟩ = some (.int .i64 f0) := by with_reducible assumption
      have hc1 : w7.cell? ⟨w.heap.size, 1, none⟩ = some (.slice a0 len0 cap0) := by with_reducible assumption
      have hs7 := HB67.out.size
      have HB7 := Lib.hid (HB6.out.trans (HB67.out.mono HB6.out.size))
      have HS7 := Lib.hid (HS6.out.step HB67.out)
      have HG7 := Lib.hid (HG6.out.on HB67.out)
      have HK7 := Lib.hid (HK6.out.step HB67.out)
      go_wp2_with fail
      refine (markTB_any f0 xs B2 _ _ 1 _ HK7.out HL.out (by omega) (by omega) (by omega)).mono ?_
      rintro e w8 ⟨rfl, hbut⟩
      have hc0 := hbut.cell hc0 (by rintro x h; cases h; simp; omega)
      have hc1 := hbut.cell hc1 (by rintro x h; cases h; simp; omega)
      have HB8 := Lib.hid (HB7.out.trans (hbut.low (B := w.heap.size) (by rintro x h; cases h; simp; omega) HB7.out.size))
      have HS8 := Lib.hid (HS7.out.butA hbut (fun x y hx hy => by cases hy; have h1 := (HSA.out x hx).2; simp; omega))
      have HG8 := Lib.hid (tbr_butA HG7.out hbut (fun x y hx hy => by cases hy; have h1 := (HGA.out x hx).1; simp; omega))
      have hs8 := hbut.size
      clear hbut
      go_wp2_with fail
      refine (eqS_any Y Y _ _ _ _ _ _ _ HG8.out.ints HS8.out).mono ?_
      rintro e w9 ⟨rfl, n9, rfl⟩
      have HB9 := Lib.hid (below_drewN HB8.out n9)
      have HS9 := Lib.hid (HS8.out.drewN n9)
      have HG9 := Lib.hid (HG8.out.on (below_drewN (Below.refl _ _) n9))
      have hc0 := keep2 (below_drewN (Below.refl _ _) n9) hc0
      have hc1 := keep2 (below_drewN (Below.refl _ _) n9) hc1
      have hs9 : (w8.drewN n9).heap.size = w8.heap.size := rfl
      obtain ⟨w9, hw9⟩ : ∃ x, x = w8.drewN n9 := ⟨_, rfl⟩
      rw [← hw9] at HB9 HS9 HG9 hc0 hc1 hs9 ⊢
      clear hw9
      go_wp2_with fail
      refine (markI_any Y _ _ _ _ 1 _ HG9.out (by omega) (by omega)).mono ?_
      rintro e w10 ⟨rfl, hT, hbut⟩
      have hc0 := hbut.cell hc0 (fun x hx => by have := (HGA.out x hx).1; simp; omega)
      have hc1 := hbut.cell hc1 (fun x hx => by have := (HGA.out x hx).1; simp; omega)
      have HB10 := Lib.hid (HB9.out.trans (hbut.low (B := w.heap.size) (fun x hx => by have := (HGA.out x hx).1; omega) HB9.out.size))
      have HS10 := Lib.hid (HS9.out.butA hbut (fun x y hx hy => by have h1 := (HSA.out x hx).2; have h2 := (HGA.out y hy).1; omega))
      have HG10 := Lib.hid hT
      clear hT hbut
      go_wp2_with (go_at_call 30; refine (held_any _ _ _ _ _ HG10.out.ints (by omega) (by omega) (by omega)).mono ?_; rintro e w' ⟨rfl, rfl⟩)
      refine (toT_any f0 xs _ _ _ _ (H.out.on HB10.out) (by omega)).mono ?_
      rintro e w11 ⟨B4, rfl, hg4, hk4, hb⟩
      have HB11 := Lib.hid (HB10.out.trans (hb.mono HB10.out.size))
      have HK4 := Lib.hid hk4
      have HS11 := Lib.hid (HS10.out.step hb)
      have HG11 := Lib.hid (HG10.out.on hb)
      clear hb hk4 hc0 hc1 hx0 hx1
      go_wp2_with fail
      refine (CI.out _ _ _ HK4 rfl).mono ?_
      rintro e w12 ⟨ha, hn, hc, rfl, hT, hb⟩
      have HB12 := Lib.hid (HB11.out.trans (hb.mono HB11.out.size))
      have HS12 := Lib.hid (HS11.out.step hb)
      have HG12 := Lib.hid (HG11.out.on hb)
      have HH12 := Lib.hid hT.ints
      clear hb hT
      go_wp2_with fail
      refine (eqS_any Y Y _ _ _ _ _ _ _ HH12.out HS12.out).mono ?_
      rintro e w13 ⟨rfl, n13, rfl⟩
      have HB13 := Lib.hid (below_drewN HB12.out n13)
      have HG13 := Lib.hid (HG12.out.on (below_drewN (Below.refl _ _) n13))
      obtain ⟨w13, hw13⟩ : ∃ x, x = w12.drewN n13 := ⟨_, rfl⟩
      rw [← hw13] at HB13 HG13 ⊢
      clear hw13
      go_wp2_with (go_at_call 30; refine (held_any _ _ _ _ _ HG13.out.ints (by omega) (by omega) (by omega)).mono ?_; rintro e w' ⟨rfl, rfl⟩)
      go_ret
      exact ⟨rfl, HB13.out⟩

end Go.Proofs.Ytnimmkbpcmgeaaa
