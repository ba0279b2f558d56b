/- The exact law on IsBasis. (Written by wip/gen/pob.py.) -/
import Derived.Test.YtnppkdnmkhoeeaaPof
import Derived.Test.YtnppkdnmkhoeeaaPoh
import Derived.Deep.RegionHeld3
namespace Go.Proofs.Ytnppkdnmkhoeeaa
open Go.ChangeShapes Go.WideShapes Go.ChangeAt Go.RowKit
set_option linter.unusedVariables false
set_option maxRecDepth 100000

/-- the box of a basis -/
structure B3 (w : World) (f : Int) (v : Value) (r : Int) (W : World) : Prop where
  b : Bx W w.heap.size [.int .i64 f, v, .int .i64 r]
  low : Below w.heap.size w W

theorem B3.on {w : World} {f : Int} {v : Value} {r : Int} {W W' : World} (h : B3 w f v r W) (hb : Below W.heap.size W W') : B3 w f v r W' := ⟨h.b.on hb, h.low.trans (hb.mono h.low.size)⟩

/-- .. and the copy with which the program is called -/
structure LB (w : World) (f : Int) (v : Value) (r : Int) (X B l : Nat) (xs : List Int) (W : World) : Prop where
  bp : B3 w f v r W
  x : Bx W X [.int .i64 f, .slice (some ⟨B, 0, none⟩) l l, .int .i64 r]
  b : Blk W B xs

theorem LB.on {w : World} {f : Int} {v : Value} {r : Int} {X B l : Nat} {xs : List Int} {W W' : World} (h : LB w f v r X B l xs W) (hb : Below W.heap.size W W') : LB w f v r X B l xs W' := ⟨h.bp.on hb, h.x.on hb, h.b.step hb⟩

theorem LB.drew {w : World} {f : Int} {v : Value} {r : Int} {X B l : Nat} {xs : List Int} {W : World} (h : LB w f v r X B l xs W) : LB w f v r X B l xs W.drew := h.on (Below.drew (Below.refl _ _))

theorem lbS {w : World} {f : Int} {v : Value} {r : Int} {X B l : Nat} {xs : List Int} {W : World} (h : LB w f v r X B l xs W) :
    W.cell? ⟨X, 0, none⟩ = some (.int .i64 f) ∧ W.cell? ⟨X, 1, none⟩ = some (.slice (some ⟨B, 0, none⟩) l l) ∧ W.cell? ⟨X, 2, none⟩ = some (.int .i64 r) ∧ W.cell? ⟨w.heap.size, 0, none⟩ = some (.int .i64 f) ∧ W.cell? ⟨w.heap.size, 1, none⟩ = some (v) ∧ W.cell? ⟨w.heap.size, 2, none⟩ = some (.int .i64 r) ∧ Hid (LB w f v r X B l xs W) := by
  obtain ⟨c0, c1, c2⟩ := h.x.three
  obtain ⟨d0, d1, d2⟩ := h.bp.b.three
  exact ⟨c0, c1, c2, d0, d1, d2, Lib.hid h⟩

set_option maxHeartbeats 4000000 in
theorem fnExactIsBasis_walk (f : Int) (a : Option Addr) (len0 cap0 : Nat) (z0 : List Int) (r : Int) (w : World) (w0 : IsRow .i64 w a len0 cap0 z0) :
    Calls Try.prog 3 #[.agg #[.int .i64 f, .slice a len0 cap0, .int .i64 r]] w fun e w' => e = .returned (.bool true) ∧ Below w.heap.size w w' := by
  have hmx := w0.len_le
  unfold maxLen at hmx
  have HP : Hid (B3 w f (.slice a len0 cap0) r (w.alloc (.cells #[.int .i64 f, .slice a len0 cap0, .int .i64 r] 26))) := Lib.hid ⟨Bx.new w _ _, box_b _ _⟩
  by_cases hbig : (1048576 : Int) < len0
  · go_enter Try.func3, Try.ntmps3
    go_wp2_with fail
    refine (szB_big r f a len0 cap0 _ (by omega) hbig).mono ?_
    rintro e w1 ⟨rfl, hb⟩
    have HP := Lib.hid (HP.out.on hb)
    clear hb
    go_wp2_with fail
    go_ret
    exact ⟨rfl, HP.out.low⟩
  · have h0 := w0.ints (by omega)
    obtain ⟨xs, hxs⟩ : ∃ xs, z0.take len0 = xs := ⟨_, rfl⟩
    rw [hxs] at h0
    have H := Lib.hid h0
    have HL := Lib.hid h0.len
    have hfit : (len0 : Int) ≤ 1048576 := by omega
    have hl4 : len0 ≤ 4611686018427387904 := by omega
    have TB : Hid (∀ W, Hid (B3 w f (.slice a len0 cap0) r W) → Calls Try.prog 10 #[.agg #[.int .i64 f, .slice a len0 cap0, .int .i64 r]] W (TbPost W f xs len0 r)) := Lib.hid (fun W hW => toB_any r f xs a len0 cap0 W (H.out.on hW.out.low) (by omega))
    have CS : Hid (∀ B W, Hid (Blk W B xs) → Calls Try.prog 9 #[.agg #[.int .i64 f, .slice (some ⟨B, 0, none⟩) len0 len0, .int .i64 r]] W fun e w' => e = .returned (.bool (baB r f xs)) ∧ Below W.heap.size W w') := Lib.hid (fun B W hk => sbas_any r f xs (some ⟨B, 0, none⟩) len0 len0 W (hk.out.ints HL.out (by omega)))
    have CI : Hid (∀ X B W, Hid (LB w f (.slice a len0 cap0) r X B len0 xs W) → Calls Try.prog 11 #[.agg #[.int .i64 f, .slice (some ⟨B, 0, none⟩) len0 len0, .int .i64 r]] W fun e w' => e = .returned (.bool (baB r f xs)) ∧ Below W.heap.size W w') := Lib.hid (fun X B W hk => ibas_any r f xs (some ⟨B, 0, none⟩) len0 len0 W (hk.out.b.ints HL.out (by omega)) (Nat.le_refl _))
    have EQ : Hid (∀ X B C W, Hid (LB w f (.slice a len0 cap0) r X B len0 xs W) → Hid (Blk W C xs) → Calls Try.prog 12 #[.agg #[.int .i64 f, .slice (some ⟨B, 0, none⟩) len0 len0, .int .i64 r], .agg #[.int .i64 f, .slice (some ⟨C, 0, none⟩) len0 len0, .int .i64 r]] W fun e w' => e = .returned (.bool true) ∧ Below W.heap.size W w') := Lib.hid (fun X B C W hk hc => eqB_same r f xs _ _ _ _ _ _ W (hk.out.b.ints HL.out (by omega)) (hc.out.ints HL.out (by omega)))
    unfold TbPost at TB
    obtain ⟨Z, hZ⟩ : ∃ y_, baB r f xs = y_ := ⟨_, rfl⟩
    rw [hZ] at CS CI
    have hnn : ¬ (1048576 : Int) - len0 < 0 := by omega
    clear h0 w0 hxs hbig hmx hZ
    go_enter Try.func3, Try.ntmps3
    go_wp2_with fail
    refine (szB_fit r f a len0 cap0 _ hfit).mono ?_
    rintro e w1 ⟨rfl, hb⟩
    have HP := Lib.hid (HP.out.on hb)
    obtain ⟨b0, b1, b2⟩ := HP.out.b.three
    clear hb
    go_wp2_with fail
    with_reducible refine (TB.out _ HP).mono ?_
    rintro e w2 ⟨B1, rfl, hg1, hk1, hb⟩
    have HP := Lib.hid (HP.out.on hb)
    have HK := Lib.hid hk1
    clear b0 b1 b2 hb hk1 hg1
    go_wp2_with fail
    with_reducible refine (CS.out _ _ HK).mono ?_
    rintro e w3 ⟨rfl, hb⟩
    have HP := Lib.hid (HP.out.on hb)
    obtain ⟨b0, b1, b2⟩ := HP.out.b.three
    clear hb HK
    go_wp2_with fail
    with_reducible refine (TB.out _ HP).mono ?_
    rintro e w5 ⟨B2, rfl, hg2, hk2, hb⟩
    have HX : Hid (LB w f (.slice a len0 cap0) r w5.heap.size B2 len0 xs (w5.alloc (.cells #[.int .i64 f, .slice (some ⟨B2, 0, none⟩) len0 len0, .int .i64 r] 31))) := Lib.hid ⟨(HP.out.on hb).on (box_b _ _), Bx.new w5 _ _, hk2.step (box_b _ _)⟩
    clear b0 b1 b2 hb hk2 hg2 HP
    obtain ⟨x0, x1, x2, b0, b1, b2, -⟩ := lbS HX.out
    go_wp2_with fail
    with_reducible refine (CI.out _ _ _ HX).mono ?_
    rintro e w7 ⟨rfl, hb⟩
    have HX := Lib.hid (HX.out.on hb)
    obtain ⟨X, hX⟩ : ∃ y_, w5.heap.size = y_ := ⟨_, rfl⟩
    rw [hX] at HX ⊢
    clear hb hX x0 x1 x2 b0 b1 b2
    obtain ⟨x0, x1, x2, b0, b1, b2, -⟩ := lbS HX.out
    go_wp2_with fail
    go_region_held3 (fun W9 => W9.cell? ⟨X, 0, none⟩ = some (.int .i64 f) ∧ W9.cell? ⟨X, 1, none⟩ = some (.slice (some ⟨B2, 0, none⟩) len0 len0) ∧ W9.cell? ⟨X, 2, none⟩ = some (.int .i64 r) ∧ W9.cell? ⟨w.heap.size, 0, none⟩ = some (.int .i64 f) ∧ W9.cell? ⟨w.heap.size, 1, none⟩ = some (.slice a len0 cap0) ∧ W9.cell? ⟨w.heap.size, 2, none⟩ = some (.int .i64 r) ∧ Hid (LB w f (.slice a len0 cap0) r X B2 len0 xs W9))
      (first
        | (go_split_ands; with_reducible exact lbS (Hid.out (by with_reducible assumption)))
        | (go_split_ands; with_reducible exact lbS (LB.on (Hid.out (by with_reducible assumption)) hb))
        | (go_split_ands; with_reducible exact lbS (LB.drew (Hid.out (by with_reducible assumption))))
        | fail)
      (first
        | (go_split_ands; go_at_call 10; ((with_reducible refine (TB.out _ (Lib.hid (LB.bp (Hid.out (by with_reducible assumption : Hid (LB w f (.slice a len0 cap0) r X B2 len0 xs _)))))).mono ?_); rintro e w' ⟨B3, rfl, hg3, hk3, hb⟩; have HC3 := Lib.hid hk3; clear hk3 hg3))
        | (go_split_ands; go_at_call 12; ((with_reducible refine (EQ.out _ _ _ _ (by with_reducible assumption) HC3).mono ?_); rintro e w' ⟨rfl, hb⟩))
        | fail)
    all_goals
      go_split_ands
      have HZ : Hid (LB w f (.slice a len0 cap0) r X B2 len0 xs w') := by with_reducible assumption
      go_wp2_with fail
      go_ret
      exact ⟨rfl, HZ.out.bp.low⟩

end Go.Proofs.Ytnppkdnmkhoeeaa
