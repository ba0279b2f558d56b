/- Reserves: what is told of a side, the program's three reserves and the denominator. (Written by wip/gen/rvg.py.) -/
import Derived.Test.YtnclncglmnbelaaRvf
namespace Go.Proofs.Ytnclncglmnbelaa
open Go.ChangeShapes Go.WideShapes Go.ChangeAt Go.RowKit
open Go.ChangeMaps (setBlock heap_setBlock_same heap_setBlock_other)
set_option linter.unusedVariables false
set_option maxRecDepth 100000

/-- while a side is told -/
structure TW (w : World) (C R : Nat) (r f : Int) (xs : List Int) (v : Value) (k x n s u : Int) (W : World) : Prop where
  crs : Crs C R r f xs v k x n s u W
  low : Below w.heap.size w W

theorem TW.on {w : World} {C R : Nat} {r f : Int} {xs : List Int} {v : Value} {k x n s u : Int} {W W' : World} (h : TW w C R r f xs v k x n s u W) (hb : Below W.heap.size W W') : TW w C R r f xs v k x n s u W' := ⟨h.crs.on hb, h.low.trans (hb.mono h.low.size)⟩

set_option maxHeartbeats 4000000 in
theorem ide_any (r f : Int) (xs : List Int) (a : Option Addr) (l c : Nat) (k x n s u j : Int) (w : World) (h : Ints w a l xs) (hlc : l ≤ c) :
    Calls Try.prog 8 #[.agg #[.int .i64 f, .slice a l c, .int .i64 r], .agg #[.int .i64 k, .int .i64 x, .int .i64 n, .int .i64 s, .int .i64 u], .int .i64 j] w (IIPost (deV r f xs k x n s u j) (rvE r f xs k x n s u j) w) := by
  have H := Lib.hid h
  clear h
  have HP := Lib.hid (BP.new w f (.slice a l c) r k x n s u 34 36)
  unfold IIPost
  by_cases he : rvE r f xs k x n s u j = 0
  · have HV : Hid (deV r f xs k x n s u j = cD r xs (x + j - f).toNat) := Lib.hid (by unfold deV dvN; rw [if_pos he])
    rw [HV.out, he]
    have CT : Hid (∀ W, Hid (BP w f (.slice a l c) r k x n s u W) → Calls Try.prog 14 #[.agg #[.int .i64 f, .slice a l c, .int .i64 r], .agg #[.int .i64 k, .int .i64 x, .int .i64 n, .int .i64 s, .int .i64 u], .int .i64 j] W (YoYes r f xs (.slice a l c) k x n s u j W)) := Lib.hid (fun W hW => iyo_yes r f xs a l c k x n s u j W (H.out.on hW.out.low) hlc he)
    unfold YoYes at CT
    unfold yrV at CT
    clear HV he
    obtain ⟨g0, hg0⟩ : ∃ y_, cD r xs (x + j - f).toNat = y_ := ⟨_, rfl⟩
    obtain ⟨g1, hg1⟩ : ∃ y_, cN r xs (x + j - f).toNat = y_ := ⟨_, rfl⟩
    obtain ⟨g2, hg2⟩ : ∃ y_, cC r xs (x + j - f).toNat = y_ := ⟨_, rfl⟩
    obtain ⟨g3, hg3⟩ : ∃ y_, cM r xs (x + j - f).toNat = y_ := ⟨_, rfl⟩
    rw [hg0, hg1, hg2, hg3] at CT
    rw [hg0]
    clear hg0 hg1 hg2 hg3
    obtain ⟨g4, hg0⟩ : ∃ y_, cD r xs (x + j + lfN k n j - f).toNat = y_ := ⟨_, rfl⟩
    obtain ⟨g5, hg1⟩ : ∃ y_, cN r xs (x + j + lfN k n j - f).toNat = y_ := ⟨_, rfl⟩
    obtain ⟨g6, hg2⟩ : ∃ y_, cC r xs (x + j + lfN k n j - f).toNat = y_ := ⟨_, rfl⟩
    obtain ⟨g7, hg3⟩ : ∃ y_, cM r xs (x + j + lfN k n j - f).toNat = y_ := ⟨_, rfl⟩
    rw [hg0, hg1, hg2, hg3] at CT
    clear hg0 hg1 hg2 hg3
    obtain ⟨T, hT⟩ : ∃ y_, kT k = y_ := ⟨_, rfl⟩
    rw [hT] at CT
    clear hT
    go_enter Try.func8, Try.ntmps8
    go_wp2_with fail
    obtain ⟨W1, hW1⟩ : ∃ W1, ((w.alloc (.cells #[.int .i64 f, .slice a l c, .int .i64 r] 34)).alloc (.cells #[.int .i64 k, .int .i64 x, .int .i64 n, .int .i64 s, .int .i64 u] 36)) = W1 := ⟨_, rfl⟩
    rw [hW1] at HP ⊢
    clear hW1
    with_reducible refine (CT.out _ HP).mono ?_
    rintro e w1 ⟨C, R, rfl, hcr, hb⟩
    have HP := Lib.hid (HP.out.on hb)
    have HL := Lib.hid (HP.out.low.trans ((box_b w1 (.cells #[.pointer (some ⟨C, 0, none⟩), .iface T (.agg #[]), .int .i64 g0, .int .i64 g1, .int .i64 g2, .int .i64 g3, .int .i64 g4, .int .i64 g5, .int .i64 g6, .int .i64 g7] 52)).mono HP.out.low.size))
    clear hb hcr CT
    go_wp2_with fail
    go_ret2
    exact ⟨rfl, HL.out⟩
  · have HV : Hid (deV r f xs k x n s u j = 0) := Lib.hid (by unfold deV; rw [if_neg he])
    rw [HV.out]
    have CT : Hid (∀ W, Hid (BP w f (.slice a l c) r k x n s u W) → Calls Try.prog 14 #[.agg #[.int .i64 f, .slice a l c, .int .i64 r], .agg #[.int .i64 k, .int .i64 x, .int .i64 n, .int .i64 s, .int .i64 u], .int .i64 j] W (YrPost yrZ (rvE r f xs k x n s u j) W)) := Lib.hid (fun W hW => iyo_no r f xs a l c k x n s u j W (H.out.on hW.out.low) hlc he)
    unfold YrPost yrZ at CT
    obtain ⟨E, hE⟩ : ∃ y_, rvE r f xs k x n s u j = y_ := ⟨_, rfl⟩
    rw [hE] at CT ⊢
    clear hE HV he
    go_enter Try.func8, Try.ntmps8
    go_wp2_with fail
    obtain ⟨W1, hW1⟩ : ∃ W1, ((w.alloc (.cells #[.int .i64 f, .slice a l c, .int .i64 r] 34)).alloc (.cells #[.int .i64 k, .int .i64 x, .int .i64 n, .int .i64 s, .int .i64 u] 36)) = W1 := ⟨_, rfl⟩
    rw [hW1] at HP ⊢
    clear hW1
    with_reducible refine (CT.out _ HP).mono ?_
    rintro e w1 ⟨rfl, hb⟩
    have HP := Lib.hid (HP.out.on hb)
    have HL := Lib.hid (HP.out.low.trans ((box_b w1 (.cells #[.pointer none, .nilIface, .int .i64 0, .int .i64 0, .int .i64 0, .int .i64 0, .int .i64 0, .int .i64 0, .int .i64 0, .int .i64 0] 52)).mono HP.out.low.size))
    clear hb CT
    go_wp2_with fail
    go_ret2
    exact ⟨rfl, HL.out⟩

end Go.Proofs.Ytnclncglmnbelaa
