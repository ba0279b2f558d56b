/- Two lives: the model's code, its joint table, its chances. (Written by wip/gen/jms.py.) -/
import Derived.Test.YtlcmgihaelgclaaFrc
namespace Go.Proofs.Ytlcmgihaelgclaa
open Go.ChangeShapes Go.WideShapes Go.ChangeAt Go.RowKit
set_option linter.unusedVariables false
set_option maxRecDepth 100000

set_option maxHeartbeats 2000000 in
theorem twcode_any (f : Int) (xs : List Int) (a : Option Addr) (l c : Nat) (x : Int) (g : Int) (ys : List Int) (b : Option Addr) (m d : Nat) (y : Int) (q : Bool) (w : World) (h : Ints w a l xs) (k : Ints w b m ys) :
    Calls Try.prog 44 #[.agg #[.int .i64 f, .slice a l c], .int .i64 x, .agg #[.int .i64 g, .slice b m d], .int .i64 y, .bool q] w fun e w' => e = .returned (.int .i64 (twE f xs x g ys y q)) ∧ Below w.heap.size w w' := by
  have H := Lib.hid h
  have K := Lib.hid k
  clear h k
  have HK : Hid (K2 w f (.slice a l c) g (.slice b m d) ((w.alloc (.cells #[.int .i64 f, .slice a l c] 26)).alloc (.cells #[.int .i64 g, .slice b m d] 26))) := Lib.hid (K2.new _ _ _ _ _ _ _)
  by_cases t1 : ltB f xs = true
  case neg =>
    have t1f : ltB f xs = false := by simpa using t1
    have HR : Hid (twE f xs x g ys y q = 1) := Lib.hid (by unfold twE; rw [if_pos (fun h => t1 h.1)])
    go_enter Try.func44, Try.ntmps44
    go_wp2_with (go_at_call 51; refine (in_any _ _ _ _).mono ?_; rintro e w' ⟨rfl, rfl⟩)
    with_reducible refine (isL_spec f xs _ _ _ _ (H.out.on HK.out.low)).mono ?_
    rintro e w1 ⟨rfl, hb⟩
    have HK := Lib.hid (HK.out.on hb)
    obtain ⟨k0, k1, k2, k3, _⟩ := HK.out
    clear hb
    go_wp2_with (go_at_call 51; refine (in_any _ _ _ _).mono ?_; rintro e w' ⟨rfl, rfl⟩)
    go_ret
    exact ⟨ret_int HR.out.symm, HK.out.low⟩
  by_cases t2 : ltB g ys = true
  case neg =>
    have t2f : ltB g ys = false := by simpa using t2
    have HR : Hid (twE f xs x g ys y q = 1) := Lib.hid (by unfold twE; rw [if_pos (fun h => t2 h.2)])
    go_enter Try.func44, Try.ntmps44
    go_wp2_with (go_at_call 51; refine (in_any _ _ _ _).mono ?_; rintro e w' ⟨rfl, rfl⟩)
    with_reducible refine (isL_spec f xs _ _ _ _ (H.out.on HK.out.low)).mono ?_
    rintro e w1 ⟨rfl, hb⟩
    have HK := Lib.hid (HK.out.on hb)
    obtain ⟨k0, k1, k2, k3, _⟩ := HK.out
    clear hb
    go_wp2_with (go_at_call 51; refine (in_any _ _ _ _).mono ?_; rintro e w' ⟨rfl, rfl⟩)
    with_reducible refine (isL_spec g ys _ _ _ _ (K.out.on HK.out.low)).mono ?_
    rintro e w1 ⟨rfl, hb⟩
    have HK := Lib.hid (HK.out.on hb)
    clear k0 k1 k2 k3
    obtain ⟨k0, k1, k2, k3, _⟩ := HK.out
    clear hb
    go_wp2_with (go_at_call 51; refine (in_any _ _ _ _).mono ?_; rintro e w' ⟨rfl, rfl⟩)
    go_ret
    exact ⟨ret_int HR.out.symm, HK.out.low⟩
  by_cases v1 : inB x f 100 = true
  case neg =>
    have v1f : inB x f 100 = false := by simpa using v1
    have HR : Hid (twE f xs x g ys y q = 2) := Lib.hid (by unfold twE; rw [if_neg (fun h => h ⟨t1, t2⟩), if_pos (fun h => v1 h.1)])
    go_enter Try.func44, Try.ntmps44
    go_wp2_with (go_at_call 51; refine (in_any _ _ _ _).mono ?_; rintro e w' ⟨rfl, rfl⟩)
    with_reducible refine (isL_spec f xs _ _ _ _ (H.out.on HK.out.low)).mono ?_
    rintro e w1 ⟨rfl, hb⟩
    have HK := Lib.hid (HK.out.on hb)
    obtain ⟨k0, k1, k2, k3, _⟩ := HK.out
    clear hb
    go_wp2_with (go_at_call 51; refine (in_any _ _ _ _).mono ?_; rintro e w' ⟨rfl, rfl⟩)
    with_reducible refine (isL_spec g ys _ _ _ _ (K.out.on HK.out.low)).mono ?_
    rintro e w1 ⟨rfl, hb⟩
    have HK := Lib.hid (HK.out.on hb)
    clear k0 k1 k2 k3
    obtain ⟨k0, k1, k2, k3, _⟩ := HK.out
    clear hb
    go_wp2_with (go_at_call 51; refine (in_any _ _ _ _).mono ?_; rintro e w' ⟨rfl, rfl⟩)
    go_ret
    exact ⟨ret_int HR.out.symm, HK.out.low⟩
  by_cases v2 : inB y g 150 = true
  case neg =>
    have v2f : inB y g 150 = false := by simpa using v2
    have HR : Hid (twE f xs x g ys y q = 2) := Lib.hid (by unfold twE; rw [if_neg (fun h => h ⟨t1, t2⟩), if_pos (fun h => v2 h.2.1)])
    go_enter Try.func44, Try.ntmps44
    go_wp2_with (go_at_call 51; refine (in_any _ _ _ _).mono ?_; rintro e w' ⟨rfl, rfl⟩)
    with_reducible refine (isL_spec f xs _ _ _ _ (H.out.on HK.out.low)).mono ?_
    rintro e w1 ⟨rfl, hb⟩
    have HK := Lib.hid (HK.out.on hb)
    obtain ⟨k0, k1, k2, k3, _⟩ := HK.out
    clear hb
    go_wp2_with (go_at_call 51; refine (in_any _ _ _ _).mono ?_; rintro e w' ⟨rfl, rfl⟩)
    with_reducible refine (isL_spec g ys _ _ _ _ (K.out.on HK.out.low)).mono ?_
    rintro e w1 ⟨rfl, hb⟩
    have HK := Lib.hid (HK.out.on hb)
    clear k0 k1 k2 k3
    obtain ⟨k0, k1, k2, k3, _⟩ := HK.out
    clear hb
    go_wp2_with (go_at_call 51; refine (in_any _ _ _ _).mono ?_; rintro e w' ⟨rfl, rfl⟩)
    go_ret
    exact ⟨ret_int HR.out.symm, HK.out.low⟩
  by_cases v3 : q = true
  case neg =>
    have v3f : q = false := by simpa using v3
    subst v3f
    have HR : Hid (twE f xs x g ys y false = 2) := Lib.hid (by unfold twE; rw [if_neg (fun h => h ⟨t1, t2⟩), if_pos (fun h => v3 h.2.2)])
    go_enter Try.func44, Try.ntmps44
    go_wp2_with (go_at_call 51; refine (in_any _ _ _ _).mono ?_; rintro e w' ⟨rfl, rfl⟩)
    with_reducible refine (isL_spec f xs _ _ _ _ (H.out.on HK.out.low)).mono ?_
    rintro e w1 ⟨rfl, hb⟩
    have HK := Lib.hid (HK.out.on hb)
    obtain ⟨k0, k1, k2, k3, _⟩ := HK.out
    clear hb
    go_wp2_with (go_at_call 51; refine (in_any _ _ _ _).mono ?_; rintro e w' ⟨rfl, rfl⟩)
    with_reducible refine (isL_spec g ys _ _ _ _ (K.out.on HK.out.low)).mono ?_
    rintro e w1 ⟨rfl, hb⟩
    have HK := Lib.hid (HK.out.on hb)
    clear k0 k1 k2 k3
    obtain ⟨k0, k1, k2, k3, _⟩ := HK.out
    clear hb
    go_wp2_with (go_at_call 51; refine (in_any _ _ _ _).mono ?_; rintro e w' ⟨rfl, rfl⟩)
    go_ret
    exact ⟨ret_int HR.out.symm, HK.out.low⟩
  subst v3
  obtain ⟨f0, f1⟩ := ((ltB_iff _ _).1 t1).1
  obtain ⟨g0, g1⟩ := ((ltB_iff _ _).1 t2).1
  obtain ⟨x0, x1⟩ := (inB_iff _ _ _).1 v1
  obtain ⟨y0, y1⟩ := (inB_iff _ _ _).1 v2
  have C1 : Hid (∀ W, Below w.heap.size w W → Calls Try.prog 79 #[.agg #[.int .i64 f, .slice a l c], .int .i64 x] W fun e w' => e = .returned (.int .i64 (lvs f xs x)) ∧ Below W.heap.size W w') :=
    Lib.hid (fun W hW => lives_any f xs a l c x W (H.out.on hW) f0 f1 x0 (by omega))
  have C2 : Hid (∀ W, Below w.heap.size w W → Calls Try.prog 79 #[.agg #[.int .i64 g, .slice b m d], .int .i64 y] W fun e w' => e = .returned (.int .i64 (lvs g ys y)) ∧ Below W.heap.size W w') :=
    Lib.hid (fun W hW => lives_any g ys b m d y W (K.out.on hW) g0 g1 y0 (by omega))
  by_cases z1 : lvs f xs x = 0
  · have HR0 : Hid (twE f xs x g ys y true = 5) := Lib.hid (by unfold twE; rw [if_neg (fun h => h ⟨t1, t2⟩), if_neg (fun h => h ⟨v1, v2, rfl⟩), if_pos (.inl z1)])
    rw [z1] at C1
    have HR : Hid (twE f xs x g ys y true = 5) := Lib.hid HR0.out
    go_enter Try.func44, Try.ntmps44
    go_wp2_with (go_at_call 51; refine (in_any _ _ _ _).mono ?_; rintro e w' ⟨rfl, rfl⟩)
    with_reducible refine (isL_spec f xs _ _ _ _ (H.out.on HK.out.low)).mono ?_
    rintro e w1 ⟨rfl, hb⟩
    have HK := Lib.hid (HK.out.on hb)
    obtain ⟨k0, k1, k2, k3, _⟩ := HK.out
    clear hb
    go_wp2_with (go_at_call 51; refine (in_any _ _ _ _).mono ?_; rintro e w' ⟨rfl, rfl⟩)
    with_reducible refine (isL_spec g ys _ _ _ _ (K.out.on HK.out.low)).mono ?_
    rintro e w1 ⟨rfl, hb⟩
    have HK := Lib.hid (HK.out.on hb)
    clear k0 k1 k2 k3
    obtain ⟨k0, k1, k2, k3, _⟩ := HK.out
    clear hb
    go_wp2_with (go_at_call 51; refine (in_any _ _ _ _).mono ?_; rintro e w' ⟨rfl, rfl⟩)
    with_reducible refine (C1.out _ HK.out.low).mono ?_
    rintro e w1 ⟨rfl, hb⟩
    have HK := Lib.hid (HK.out.on hb)
    clear k0 k1 k2 k3
    obtain ⟨k0, k1, k2, k3, _⟩ := HK.out
    clear hb
    go_wp2_with (go_at_call 51; refine (in_any _ _ _ _).mono ?_; rintro e w' ⟨rfl, rfl⟩)
    go_ret
    exact ⟨ret_int HR.out.symm, HK.out.low⟩
  obtain ⟨u, hu⟩ : ∃ y_, lvs f xs x = y_ := ⟨_, rfl⟩
  have z1f : (u == 0) = false := by rw [← hu]; simpa using z1
  by_cases z2 : lvs g ys y = 0
  · have HR0 : Hid (twE f xs x g ys y true = 5) := Lib.hid (by unfold twE; rw [if_neg (fun h => h ⟨t1, t2⟩), if_neg (fun h => h ⟨v1, v2, rfl⟩), if_pos (.inr z2)])
    rw [z2] at C2
    rw [hu] at C1
    clear hu z1
    have HR : Hid (twE f xs x g ys y true = 5) := Lib.hid HR0.out
    go_enter Try.func44, Try.ntmps44
    go_wp2_with (go_at_call 51; refine (in_any _ _ _ _).mono ?_; rintro e w' ⟨rfl, rfl⟩)
    with_reducible refine (isL_spec f xs _ _ _ _ (H.out.on HK.out.low)).mono ?_
    rintro e w1 ⟨rfl, hb⟩
    have HK := Lib.hid (HK.out.on hb)
    obtain ⟨k0, k1, k2, k3, _⟩ := HK.out
    clear hb
    go_wp2_with (go_at_call 51; refine (in_any _ _ _ _).mono ?_; rintro e w' ⟨rfl, rfl⟩)
    with_reducible refine (isL_spec g ys _ _ _ _ (K.out.on HK.out.low)).mono ?_
    rintro e w1 ⟨rfl, hb⟩
    have HK := Lib.hid (HK.out.on hb)
    clear k0 k1 k2 k3
    obtain ⟨k0, k1, k2, k3, _⟩ := HK.out
    clear hb
    go_wp2_with (go_at_call 51; refine (in_any _ _ _ _).mono ?_; rintro e w' ⟨rfl, rfl⟩)
    with_reducible refine (C1.out _ HK.out.low).mono ?_
    rintro e w1 ⟨rfl, hb⟩
    have HK := Lib.hid (HK.out.on hb)
    clear k0 k1 k2 k3
    obtain ⟨k0, k1, k2, k3, _⟩ := HK.out
    clear hb
    go_wp2_with (go_at_call 51; refine (in_any _ _ _ _).mono ?_; rintro e w' ⟨rfl, rfl⟩)
    with_reducible refine (C2.out _ HK.out.low).mono ?_
    rintro e w1 ⟨rfl, hb⟩
    have HK := Lib.hid (HK.out.on hb)
    clear k0 k1 k2 k3
    obtain ⟨k0, k1, k2, k3, _⟩ := HK.out
    clear hb
    go_wp2_with (go_at_call 51; refine (in_any _ _ _ _).mono ?_; rintro e w' ⟨rfl, rfl⟩)
    go_ret
    exact ⟨ret_int HR.out.symm, HK.out.low⟩
  · have HR0 : Hid (twE f xs x g ys y true = 0) := Lib.hid (by unfold twE; rw [if_neg (fun h => h ⟨t1, t2⟩), if_neg (fun h => h ⟨v1, v2, rfl⟩), if_neg (fun h => h.elim z1 z2)])
    obtain ⟨v, hv⟩ : ∃ y_, lvs g ys y = y_ := ⟨_, rfl⟩
    have z2f : (v == 0) = false := by rw [← hv]; simpa using z2
    rw [hv] at C2
    rw [hu] at C1
    clear hu hv z1 z2
    have HR : Hid (twE f xs x g ys y true = 0) := Lib.hid HR0.out
    go_enter Try.func44, Try.ntmps44
    go_wp2_with (go_at_call 51; refine (in_any _ _ _ _).mono ?_; rintro e w' ⟨rfl, rfl⟩)
    with_reducible refine (isL_spec f xs _ _ _ _ (H.out.on HK.out.low)).mono ?_
    rintro e w1 ⟨rfl, hb⟩
    have HK := Lib.hid (HK.out.on hb)
    obtain ⟨k0, k1, k2, k3, _⟩ := HK.out
    clear hb
    go_wp2_with (go_at_call 51; refine (in_any _ _ _ _).mono ?_; rintro e w' ⟨rfl, rfl⟩)
    with_reducible refine (isL_spec g ys _ _ _ _ (K.out.on HK.out.low)).mono ?_
    rintro e w1 ⟨rfl, hb⟩
    have HK := Lib.hid (HK.out.on hb)
    clear k0 k1 k2 k3
    obtain ⟨k0, k1, k2, k3, _⟩ := HK.out
    clear hb
    go_wp2_with (go_at_call 51; refine (in_any _ _ _ _).mono ?_; rintro e w' ⟨rfl, rfl⟩)
    with_reducible refine (C1.out _ HK.out.low).mono ?_
    rintro e w1 ⟨rfl, hb⟩
    have HK := Lib.hid (HK.out.on hb)
    clear k0 k1 k2 k3
    obtain ⟨k0, k1, k2, k3, _⟩ := HK.out
    clear hb
    go_wp2_with (go_at_call 51; refine (in_any _ _ _ _).mono ?_; rintro e w' ⟨rfl, rfl⟩)
    with_reducible refine (C2.out _ HK.out.low).mono ?_
    rintro e w1 ⟨rfl, hb⟩
    have HK := Lib.hid (HK.out.on hb)
    clear k0 k1 k2 k3
    obtain ⟨k0, k1, k2, k3, _⟩ := HK.out
    clear hb
    go_wp2_with (go_at_call 51; refine (in_any _ _ _ _).mono ?_; rintro e w' ⟨rfl, rfl⟩)
    go_ret
    exact ⟨ret_int HR.out.symm, HK.out.low⟩

end Go.Proofs.Ytlcmgihaelgclaa
