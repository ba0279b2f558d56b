/- The exact law on PresentValue. -/
import Derived.Test.YthennmhmnimpfaaPv
import Derived.Test.YthennmhmnimpfaaMark
import Derived.Test.YthennmhmnimpfaaSumLaw
namespace Go.Proofs.Ythennmhmnimpfaa
open Go.ChangeShapes Go.WideShapes Go.ChangeAt Go.RowKit
set_option linter.unusedVariables false
set_option maxRecDepth 100000

theorem fnExactPresentValue_walk (a0 : Option Addr) (len0 cap0 : Nat) (z0 : List Int) (a1 : Int) (w : World) (w0 : IsRow .i64 w a0 len0 cap0 z0) (w1 : (Lit.int .i64 a1).wf = true) :
    Calls Try.prog 9 #[.slice a0 len0 cap0, .int .i64 a1] w fun e w' => e = .returned (.bool true) ∧ Below w.heap.size w w' := by
  by_cases hbig : (1048576 : Int) < len0
  · have := w0.len_le
    unfold maxLen at this
    go_enter Try.func9, Try.ntmps9
    go_wp2_with fail
    go_ret
    exact ⟨rfl, Below.refl _ _⟩
  · have h0 := w0.ints (by omega)
    obtain ⟨xs, hxs⟩ : ∃ xs, z0.take len0 = xs := ⟨_, rfl⟩
    rw [hxs] at h0
    have H := Lib.hid h0
    have HL := Lib.hid h0.len
    clear h0 w0 hxs
    go_enter Try.func9, Try.ntmps9
    go_wp2_with fail
    refine (toS_any xs _ _ _ _ H.out (by omega)).mono ?_
    rintro e w1 ⟨rfl, hb1, hz1, hB1⟩
    have HB1 := Lib.hid hB1; have HK1 := Lib.hid hb1; have H1 := Lib.hid (H.out.step hB1)
    clear hb1 hz1 hB1
    go_wp2_with fail
    refine (pv_spec xs _ _ _ _ _ (HK1.out.ints HL.out (by omega))).mono ?_
    rintro e w2 ⟨rfl, hb2⟩
    have HB2 := Lib.hid (HB1.out.trans (hb2.mono HB1.out.size)); have H2 := Lib.hid (H.out.step HB2.out)
    clear hb2
    go_wp2_with fail
    refine (toS_any xs _ _ _ _ H2.out (by omega)).mono ?_
    rintro e w3 ⟨rfl, hb3, hz3, hB3⟩
    have HB3 := Lib.hid (HB2.out.trans (hB3.mono HB2.out.size)); have HK3 := Lib.hid hb3; have H3 := Lib.hid (H2.out.step hB3)
    clear hb3 hz3 hB3
    go_wp2_with fail
    refine (pv_impl xs _ _ _ _ _ (HK3.out.ints HL.out (by omega))).mono ?_
    rintro e w4 ⟨rfl, hb4⟩
    have HK4 := Lib.hid (HK3.out.step hb4); have HB4 := Lib.hid (HB3.out.trans (hb4.mono HB3.out.size)); have H4 := Lib.hid (H.out.step HB4.out)
    clear hb4
    go_wp2_with fail
    refine (toS_any xs _ _ _ _ H4.out (by omega)).mono ?_
    rintro e w5 ⟨rfl, hb5, hz5, hB5⟩
    have HB5 := Lib.hid (HB4.out.trans (hB5.mono HB4.out.size)); have HK5 := Lib.hid hb5; have HK4 := Lib.hid (HK4.out.step hB5)
    clear hb5 hz5 hB5
    go_wp2_with fail
    refine (eqS_any xs xs _ _ _ _ _ _ _ (HK4.out.ints HL.out (by omega)) (HK5.out.ints HL.out (by omega))).mono ?_
    rintro e w6 ⟨rfl, n, rfl⟩
    go_wp2_with fail
    go_ret
    exact ⟨rfl, below_drewN HB5.out n⟩

end Go.Proofs.Ythennmhmnimpfaa
