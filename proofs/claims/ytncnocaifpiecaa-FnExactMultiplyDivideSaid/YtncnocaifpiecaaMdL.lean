/- The laws on MultiplyDivide: the exact one, and the one on drawn numbers. -/
import Derived.Test.YtncnocaifpiecaaMdI
import Derived.Test.YtncnocaifpiecaaIntD
namespace Go.Proofs.Ytncnocaifpiecaa
open Go.ChangeShapes Go.WideShapes Go.ChangeAt Go.RowKit
set_option linter.unusedVariables false
set_option maxRecDepth 100000

theorem fnExactMultiplyDivide_walk (a0 : Int) (a1 : Int) (a2 : Int) (w0 : (Lit.int .i64 a0).wf = true) (w1 : (Lit.int .i64 a1).wf = true) (w2 : (Lit.int .i64 a2).wf = true) (w : World) :
    Calls Try.prog 10 #[.int .i64 a0, .int .i64 a1, .int .i64 a2] w fun e w' => e = .returned (.bool true) ∧ Below w.heap.size w w' := by
  go_enter Try.func10, Try.ntmps10
  go_wp2_with (first | (go_at_call 26; refine (md_impl _ _ _ _).mono ?_; rintro e w3 ⟨rfl, hb⟩) | (go_at_call 27; refine (md_spec _ _ _ _).mono ?_; rintro e w' ⟨rfl, rfl⟩))
  go_ret
  exact ⟨rfl, hb⟩

theorem drawMD (a : Option Addr) (l c : Nat) (z : List Int) (w : World) (hr : IsRow .u8 w a l c z) : Calls Try.prog 25 #[.slice a l c] w (ThreePost w) := by
  have HR := Lib.hid hr
  clear hr
  go_enter Try.func25, Try.ntmps25
  go_wp2_with (first | (go_at_call 36; refine (from_any _ _ _ z _ HR.out).mono ?_; rintro e w1 ⟨rfl, hs, hz, hb⟩; have HB := Lib.hid hb; have HS := Lib.hid (ready_of HR.out hs hb); have HO := Lib.hid (But.refl w.heap.size w1); have HZ := Lib.hid hz; clear hs hb hz) | (go_at_call 54; refine (next_r _ _ _ _ _ _ _ HS.out).mono ?_; rintro e w1 ⟨r, rfl, hd, ho, hs⟩; have HO := Lib.hid (HO.out.trans ho); have HS := Lib.hid hs; clear ho hs hd) | (go_at_call 53; ((with_reducible refine (pick3 _ _ _ _ _ _ HS.out).mono ?_); rintro e w1 ⟨r, rfl, hd, ho, hs⟩; have HO := Lib.hid (HO.out.trans ho); have HS := Lib.hid hs; clear ho hs hd)) | (go_at_call 53; ((with_reducible refine (pick4 _ _ _ _ _ _ _ HS.out).mono ?_); rintro e w1 ⟨r, rfl, hd, ho, hs⟩; have HO := Lib.hid (HO.out.trans ho); have HS := Lib.hid hs; clear ho hs hd)))
  all_goals
    go_ret3
    exact ⟨_, _, _, rfl, HB.out.trans (HO.out.below (Nat.le_refl _) (by have := HZ.out; omega))⟩

theorem md_law (a b c : Int) (h : mdE a b c = 0) : 0 ≤ mdW a b c ∧ mdW a b c < c ∧ 0 ≤ mdV a b c ∧ (b ≤ 1000000000000 → mdE b a c = 0 ∧ mdV b a c = mdV a b c ∧ mdW b a c = mdW a b c) := by
  have hin : mdIn a b c = true := by
    cases hc : mdIn a b c
    · simp [mdE, hc] at h
    · rfl
  have hq : a * b / c ≤ 1000000000000000000 := by
    by_cases hq : a * b / c ≤ 1000000000000000000
    · exact hq
    · rw [(md_lim hin hq).1] at h; omega
  obtain ⟨-, e1, e2⟩ := md_in hin hq
  obtain ⟨⟨a0, a1⟩, ⟨b0, b1⟩, c0, c1⟩ := (mdIn_iff a b c).1 hin
  rw [e1, e2]
  refine ⟨Int.emod_nonneg _ (by omega), Int.emod_lt_of_pos _ (by omega), Int.ediv_nonneg (Int.mul_nonneg a0 b0) (by omega), fun hb => ?_⟩
  have hin2 : mdIn b a c = true := (mdIn_iff b a c).2 ⟨⟨b0, hb⟩, ⟨a0, by omega⟩, c0, c1⟩
  obtain ⟨f0, f1, f2⟩ := md_in hin2 (by rw [Int.mul_comm]; exact hq)
  rw [f0, f1, f2, Int.mul_comm b a]
  exact ⟨rfl, rfl, rfl⟩

set_option maxHeartbeats 2000000 in
theorem fnDivisions_walk (a0 : Option Addr) (len0 cap0 : Nat) (z0 : List Int) (w : World) (w0 : IsRow .u8 w a0 len0 cap0 z0) :
    Calls Try.prog 4 #[.slice a0 len0 cap0] w fun e w' => e = .returned (.bool true) ∧ Below w.heap.size w w' := by
  by_cases hbig : (4096 : Int) < len0
  · go_enter Try.func4, Try.ntmps4
    go_wp2_with (go_at_call 11; refine (bigI_any _ _ _ _).mono ?_; rintro e w' ⟨rfl, rfl⟩)
    go_ret
    exact ⟨rfl, Below.refl _ _⟩
  · have HR := Lib.hid w0
    clear w0
    go_enter Try.func4, Try.ntmps4
    go_wp2_with (go_at_call 11; refine (bigI_any _ _ _ _).mono ?_; rintro e w' ⟨rfl, rfl⟩)
    refine (drawMD _ _ _ _ _ HR.out).mono ?_
    rintro e w1 ⟨a, b, c, rfl, hb⟩
    have HB := Lib.hid hb
    clear hb
    have HMI := Lib.hid (fun W => md_impl a b c W)
    have HMS := Lib.hid (fun W => md_spec a b c W)
    have HL := Lib.hid (md_law a b c)
    have HMX := Lib.hid (fun W => md_impl b a c W)
    obtain ⟨E, hE⟩ : ∃ E, mdE a b c = E := ⟨_, rfl⟩
    obtain ⟨V, hV⟩ : ∃ E, mdV a b c = E := ⟨_, rfl⟩
    obtain ⟨Z, hZ⟩ : ∃ E, mdW a b c = E := ⟨_, rfl⟩
    rw [hE, hV, hZ] at HMI HMS HL
    clear hE hV hZ
    by_cases he : E = 0
    · subst he
      obtain ⟨z0, z1, v0, hx⟩ := HL.out rfl
      have HX := Lib.hid hx
      clear hx HL
      by_cases hbm : b ≤ 1000000000000
      · obtain ⟨x1, x2, x3⟩ := HX.out hbm
        rw [x1, x2, x3] at HMX
        clear x1 x2 x3 HX
        go_wp2_with fail
        refine (HMI.out _).mono ?_
        rintro e w2 ⟨rfl, hb⟩
        have HB2 := Lib.hid (HB.out.trans (hb.mono HB.out.size))
        clear hb HB
        go_wp2_with (first | (go_at_call 27; refine (HMS.out _).mono ?_; rintro e w' ⟨rfl, rfl⟩))
        refine (HMX.out _).mono ?_
        rintro e w3 ⟨rfl, hb⟩
        have HB3 := Lib.hid (HB2.out.trans (hb.mono HB2.out.size))
        clear hb HB2
        go_wp2_with fail
        go_ret
        exact ⟨rfl, HB3.out⟩
      · go_wp2_with fail
        refine (HMI.out _).mono ?_
        rintro e w2 ⟨rfl, hb⟩
        have HB2 := Lib.hid (HB.out.trans (hb.mono HB.out.size))
        clear hb HB
        go_wp2_with (first | (go_at_call 27; refine (HMS.out _).mono ?_; rintro e w' ⟨rfl, rfl⟩))
        go_ret
        exact ⟨rfl, HB2.out⟩
    · have hne : (E != 0) = true := by simp [he]
      go_wp2_with fail
      refine (HMI.out _).mono ?_
      rintro e w2 ⟨rfl, hb⟩
      have HB2 := Lib.hid (HB.out.trans (hb.mono HB.out.size))
      clear hb HB
      go_wp2_with (first | (go_at_call 27; refine (HMS.out _).mono ?_; rintro e w' ⟨rfl, rfl⟩))
      go_ret
      exact ⟨rfl, HB2.out⟩

end Go.Proofs.Ytncnocaifpiecaa
