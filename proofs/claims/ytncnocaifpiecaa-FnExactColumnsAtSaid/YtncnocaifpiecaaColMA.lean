/- The exact law on ColumnsAt. -/
import Derived.Test.YtncnocaifpiecaaComA
import Derived.Test.YtncnocaifpiecaaTabL
import Derived.Deep.RegionHeld3
namespace Go.Proofs.Ytncnocaifpiecaa
open Go.ChangeShapes Go.WideShapes Go.ChangeAt Go.RowKit
set_option linter.unusedVariables false
set_option maxRecDepth 100000

theorem eqC_any (a b c d : Int) (w : World) : Calls Try.prog 30 #[.agg #[.int .i64 a, .int .i64 b, .int .i64 c, .int .i64 d], .agg #[.int .i64 a, .int .i64 b, .int .i64 c, .int .i64 d]] w fun e w' => e = .returned (.bool true) ∧ Below w.heap.size w w' := by
  go_enter Try.func30, Try.ntmps30
  go_wp2_with fail
  go_ret
  exact ⟨rfl, (box_b _ _).alloc (by simp) _⟩

theorem keep4 {w1 w2 : World} {p1 p2 p3 p4 : Addr} {a b c d : Value} (hb : Below w1.heap.size w1 w2) (h : w1.cell? p1 = some a ∧ w1.cell? p2 = some b ∧ w1.cell? p3 = some c ∧ w1.cell? p4 = some d) : w2.cell? p1 = some a ∧ w2.cell? p2 = some b ∧ w2.cell? p3 = some c ∧ w2.cell? p4 = some d :=
  ⟨keep2 hb h.1, keep2 hb h.2.1, keep2 hb h.2.2.1, keep2 hb h.2.2.2⟩

set_option maxHeartbeats 1000000 in
theorem fnExactColumnsAt_walk (f0 : Int) (a0 : Option Addr) (len0 cap0 : Nat) (z0 : List Int) (a1 : Int) (a2 : Int) (w : World) (w0 : IsRow .i64 w a0 len0 cap0 z0) (w1 : (Lit.int .i64 a1).wf = true) (w2 : (Lit.int .i64 a2).wf = true) :
    Calls Try.prog 5 #[.agg #[.int .i64 f0, .slice a0 len0 cap0], .int .i64 a1, .int .i64 a2] w fun e w' => e = .returned (.bool true) ∧ Below w.heap.size w w' := by
  have hmx := w0.len_le
  unfold maxLen at hmx
  by_cases hbig : (1048576 : Int) < len0
  · go_enter Try.func5, Try.ntmps5
    go_wp2_with fail
    refine (szT_big _ _ _ _ _ (by omega) hbig).mono ?_
    rintro e w1 ⟨rfl, hb⟩
    obtain ⟨hB, hc0, hc1⟩ := box2 hb
    have HB := Lib.hid hB
    clear hb hB
    go_wp2_with fail
    go_ret
    exact ⟨rfl, HB.out⟩
  · have h0 := w0.ints (by omega)
    obtain ⟨xs, hxs⟩ : ∃ xs, z0.take len0 = xs := ⟨_, rfl⟩
    rw [hxs] at h0
    have H := Lib.hid h0
    have HL := Lib.hid h0.len
    have hfit : (len0 : Int) ≤ 1048576 := by omega
    clear h0 w0 w1 w2 hxs hbig hmx
    obtain ⟨A, hA⟩ : ∃ A, atV a1 f0 xs a2 (cD a1 xs) = A := ⟨_, rfl⟩
    obtain ⟨B, hB⟩ : ∃ A, atV a1 f0 xs a2 (cN a1 xs) = A := ⟨_, rfl⟩
    obtain ⟨C, hC⟩ : ∃ A, atV a1 f0 xs a2 (cC a1 xs) = A := ⟨_, rfl⟩
    obtain ⟨D, hD⟩ : ∃ A, atV a1 f0 xs a2 (cM a1 xs) = A := ⟨_, rfl⟩
    obtain ⟨E, hE⟩ : ∃ A, coE a1 f0 xs a2 = A := ⟨_, rfl⟩
    have CS : Hid (∀ W b c, Hid (Blk W b xs) → c = len0 → Calls Try.prog 14 #[.agg #[.int .i64 f0, .slice (some ⟨b, 0, none⟩) len0 c], .int .i64 a1, .int .i64 a2] W fun e w' => e = .returned (.tuple #[.agg #[.int .i64 A, .int .i64 B, .int .i64 C, .int .i64 D], .int .i64 E]) ∧ Below W.heap.size W w') :=
      Lib.hid (fun W b c hk hc => by have := at_spec a1 f0 xs _ _ c a2 W (hk.out.ints HL.out (by omega)); unfold atPost at this; rw [hA, hB, hC, hD, hE] at this; exact this)
    have CI : Hid (∀ W b c, Hid (Blk W b xs) → c = len0 → Calls Try.prog 13 #[.agg #[.int .i64 f0, .slice (some ⟨b, 0, none⟩) len0 c], .int .i64 a1, .int .i64 a2] W fun e w' => e = .returned (.tuple #[.agg #[.int .i64 A, .int .i64 B, .int .i64 C, .int .i64 D], .int .i64 E]) ∧ Below W.heap.size W w') :=
      Lib.hid (fun W b c hk hc => by have := at_impl a1 f0 xs _ _ c a2 W (hk.out.ints HL.out (by omega)) (by omega); unfold atPost at this; rw [hA, hB, hC, hD, hE] at this; exact this)
    clear hA hB hC hD hE
    go_enter Try.func5, Try.ntmps5
    go_wp2_with fail
    refine (szT_fit _ _ _ _ _ hfit).mono ?_
    rintro e w1 ⟨rfl, hb⟩
    obtain ⟨hB, hc0, hc1⟩ := box2 hb
    have HB := Lib.hid hB
    clear hb hB
    go_wp2_with fail
    refine (toT_any f0 xs _ _ _ _ (H.out.on HB.out) (by omega)).mono ?_
    rintro e w2 ⟨B1, rfl, hg1, hk1, hb⟩
    have hd0 := keep2 hb hc0
    have hd1 := keep2 hb hc1
    have HB2 := Lib.hid (HB.out.trans (hb.mono HB.out.size))
    have HK1 := Lib.hid hk1
    clear hb hk1 hc0 hc1 HB
    go_wp2_with fail
    refine (CS.out _ _ _ HK1 rfl).mono ?_
    rintro e w3 ⟨rfl, hb⟩
    have hb' := hb.trans ((box_b w3 (.cells #[.int .i64 A, .int .i64 B, .int .i64 C, .int .i64 D] 30)).mono hb.size)
    have hc0 := keep2 hb' hd0
    have hc1 := keep2 hb' hd1
    have HB3 := Lib.hid (HB2.out.trans (hb'.mono HB2.out.size))
    have HY3 := Lib.hid (q4_new w3 A B C D).cell
    clear hb hb' hd0 hd1 HB2 CS
    go_wp2_with fail
    refine (toT_any f0 xs _ _ _ _ (H.out.on HB3.out) (by omega)).mono ?_
    rintro e w4 ⟨B2, rfl, hg2, hk2, hb⟩
    have hd0 := keep2 hb hc0
    have hd1 := keep2 hb hc1
    have HB4 := Lib.hid (HB3.out.trans (hb.mono HB3.out.size))
    have HK2 := Lib.hid hk2
    have HY4 := Lib.hid (keep4 hb HY3.out)
    clear hb hk2 hc0 hc1 HB3 HY3
    go_wp2_with fail
    refine (CI.out _ _ _ (Lib.hid (HK2.out.alloc _)) rfl).mono ?_
    rintro e w5 ⟨rfl, hb⟩
    obtain ⟨hB, hx0, hx1⟩ := box2 hb
    have hn := hB.trans ((box_b w5 (.cells #[.int .i64 A, .int .i64 B, .int .i64 C, .int .i64 D] 30)).mono hB.size)
    have hx0 := keep2 (box_b w5 (.cells #[.int .i64 A, .int .i64 B, .int .i64 C, .int .i64 D] 30)) hx0
    have hx1 := keep2 (box_b w5 (.cells #[.int .i64 A, .int .i64 B, .int .i64 C, .int .i64 D] 30)) hx1
    have hc0 := keep2 hn hd0
    have hc1 := keep2 hn hd1
    obtain ⟨y0, y1, y2, y3⟩ := keep4 hn HY4.out
    have HB5 := Lib.hid (HB4.out.trans (hn.mono HB4.out.size))
    have HK5 := Lib.hid (HK2.out.step hn)
    have HXS : Hid (∀ W, Hid (Below w.heap.size w W) → Calls Try.prog 29 #[.agg #[.int .i64 f0, .slice a0 len0 cap0]] W (ToPost W f0 xs len0)) := Lib.hid (fun W hW => toT_any f0 xs _ _ _ W (H.out.on hW.out) (by omega))
    have HEQ : Hid (∀ W B3, Hid (Blk W B2 xs) → Hid (Blk W B3 xs) → Calls Try.prog 31 #[.agg #[.int .i64 f0, .slice (some ⟨B2, 0, none⟩) len0 len0], .agg #[.int .i64 f0, .slice (some ⟨B3, 0, none⟩) len0 len0]] W fun e w' => e = .returned (.bool true) ∧ Below W.heap.size W w') := Lib.hid (fun W B3 hW hV => eqT_same f0 xs _ _ _ _ _ _ W (hW.out.ints HL.out (by omega)) (hV.out.ints HL.out (by omega)))
    obtain ⟨X, hX⟩ : ∃ X, w4.heap.size = X := ⟨_, rfl⟩
    rw [hX] at hx0 hx1
    clear hb hB hn hd0 hd1 HK1 HK2 HB4 HY4
    go_wp2_with fail
    refine (eqC_any A B C D _).mono ?_
    rintro e w6 ⟨rfl, hb⟩
    have hx0 := keep2 hb hx0
    have hx1 := keep2 hb hx1
    have hc0 := keep2 hb hc0
    have hc1 := keep2 hb hc1
    have HB6 := Lib.hid (HB5.out.trans (hb.mono HB5.out.size))
    have HK6 := Lib.hid (HK5.out.step hb)
    clear hb y0 y1 y2 y3 HB5 HK5
    go_wp2_with fail
    (try rw [hX])
    clear hX
    go_region_held3 (fun w' => w'.cell? ⟨X, 0, none⟩ = some (.int .i64 f0) ∧ w'.cell? ⟨X, 1, none⟩ = some (.slice (some ⟨B2, 0, none⟩) len0 len0) ∧ w'.cell? ⟨w.heap.size, 0, none⟩ = some (.int .i64 f0) ∧ w'.cell? ⟨w.heap.size, 1, none⟩ = some (.slice a0 len0 cap0) ∧ Hid (Below w.heap.size w w') ∧ Hid (Blk w' B2 xs))
      (first
        | (go_split_ands; exact ⟨by assumption, by assumption, by assumption, by assumption, by assumption, by assumption⟩)
        | (go_split_ands; exact ⟨by assumption, by assumption, by assumption, by assumption, Lib.hid (Below.drew (Hid.out (by assumption))), Lib.hid (Blk.drewN (Hid.out (by assumption)) 1)⟩)
        | (go_split_ands; exact ⟨keep2 hb (by assumption), keep2 hb (by assumption), keep2 hb (by assumption), keep2 hb (by assumption), Lib.hid (Below.trans (Hid.out (by assumption)) (Below.mono hb (Below.size (Hid.out (by assumption))))), Lib.hid (Blk.step (Hid.out (by assumption)) hb)⟩))
      (first
        | (go_split_ands; go_at_call 29; ((with_reducible refine (HXS.out _ (by assumption)).mono ?_); rintro e w' ⟨B3, rfl, hg3, hk3, hb⟩; have HK3 := Lib.hid hk3; clear hk3))
        | (go_split_ands; go_at_call 31; ((with_reducible refine (HEQ.out _ _ (by assumption) (by assumption)).mono ?_); rintro e w' ⟨rfl, hb⟩)))
    all_goals
      go_split_ands
      go_wp2_with fail
      go_ret
      exact ⟨rfl, Hid.out (by assumption)⟩

end Go.Proofs.Ytncnocaifpiecaa
