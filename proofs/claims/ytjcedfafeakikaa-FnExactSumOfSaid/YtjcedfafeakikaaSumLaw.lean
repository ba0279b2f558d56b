/- The exact law on SumOf: the program answers as its model, writes into no argument. -/
import Derived.Test.YtjcedfafeakikaaSum
import Derived.Test.YtjcedfafeakikaaMark
namespace Go.Proofs.Ytjcedfafeakikaa
open Go.ChangeShapes Go.WideShapes Go.ChangeAt Go.RowKit
set_option linter.unusedVariables false

theorem Ints.step {w w1 : World} {a : Option Addr} {l : Nat} {xs : List Int} (h : Ints w a l xs) (hb : Below w.heap.size w w1) : Ints w1 a l xs := h.below hb h.lt
theorem Blk.step {w w1 : World} {B : Nat} {ys : List Int} (h : Blk w B ys) (hb : Below w.heap.size w w1) : Blk w1 B ys := h.below hb h.lt

theorem fnExactSumOf_walk (a0 : Option Addr) (len0 cap0 : Nat) (z0 : List Int) (w : World) (w0 : IsRow .i64 w a0 len0 cap0 z0) :
    Calls Try.prog 10 #[.slice a0 len0 cap0] w fun e w' => e = .returned (.bool true) ∧ Below w.heap.size w w' := by
  by_cases hbig : (1048576 : Int) < len0
  · have := w0.len_le
    unfold maxLen at this
    go_enter Try.func10, Try.ntmps10
    go_wp2_with fail
    go_ret
    exact ⟨rfl, Below.refl _ _⟩
  · have h0 := w0.ints (by omega)
    obtain ⟨xs, hxs⟩ : ∃ xs, z0.take len0 = xs := ⟨_, rfl⟩
    rw [hxs] at h0
    have H := Lib.hid h0
    have HL := Lib.hid h0.len
    clear h0 w0 hxs
    go_enter Try.func10, Try.ntmps10
    go_wp2_with fail
    refine (toS_any xs _ _ _ _ H.out (by omega)).mono ?_
    rintro e w1 ⟨rfl, hb1, hz1, hB1⟩
    have HB1 := Lib.hid hB1; have HK1 := Lib.hid hb1; have H1 := Lib.hid (H.out.step hB1)
    clear hb1 hz1 hB1
    go_wp2_with fail
    refine (so_spec xs _ _ _ _ (HK1.out.ints HL.out (by omega))).mono ?_
    rintro e w' ⟨rfl, rfl⟩
    go_wp2_with fail
    refine (toS_any xs _ _ _ _ H1.out (by omega)).mono ?_
    rintro e w2 ⟨rfl, hb2, hz2, hB2⟩
    have HB2 := Lib.hid (HB1.out.trans (hB2.mono HB1.out.size)); have HK2 := Lib.hid hb2; have H2 := Lib.hid (H1.out.step hB2)
    clear hb2 hz2 hB2
    go_wp2_with fail
    refine (so_impl xs _ _ _ _ (HK2.out.ints HL.out (by omega))).mono ?_
    rintro e w' ⟨rfl, rfl⟩
    go_wp2_with fail
    refine (toS_any xs _ _ _ _ H2.out (by omega)).mono ?_
    rintro e w3 ⟨rfl, hb3, hz3, hB3⟩
    have HB3 := Lib.hid (HB2.out.trans (hB3.mono HB2.out.size)); have HK3 := Lib.hid hb3; have HK2 := Lib.hid (HK2.out.step hB3)
    clear hb3 hz3 hB3
    go_wp2_with fail
    refine (eqS_any xs xs _ _ _ _ _ _ _ (HK2.out.ints HL.out (by omega)) (HK3.out.ints HL.out (by omega))).mono ?_
    rintro e w4 ⟨rfl, n, rfl⟩
    go_wp2_with fail
    go_ret
    exact ⟨rfl, below_drewN HB3.out _⟩

end Go.Proofs.Ytjcedfafeakikaa
