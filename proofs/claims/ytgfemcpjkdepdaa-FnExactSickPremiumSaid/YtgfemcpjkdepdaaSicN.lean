/- Sickness: SickValue, SickPremium, SickWeeks and WorstAge of the model. -/
import Derived.Test.YtgfemcpjkdepdaaSicM
namespace Go.Proofs.Ytgfemcpjkdepdaa
open Go.ChangeShapes Go.WideShapes Go.ChangeAt Go.RowKit
set_option linter.unusedVariables false
set_option linter.unusedSimpArgs false
set_option maxRecDepth 100000

set_option maxHeartbeats 1000000 in
theorem ssv_any (r f : Int) (xs : List Int) (a : Option Addr) (l c : Nat) (g : Int) (ys : List Int) (b : Option Addr) (m d : Nat) (x n q : Int) (w : World) (h : Ints w a l xs) (k : Ints w b m ys) :
    Calls Try.prog 25 #[.agg #[.int .i64 f, .slice a l c], .agg #[.int .i64 g, .slice b m d], .int .i64 r, .int .i64 x, .int .i64 n, .int .i64 q] w (IIPost (svV r f xs g ys x n q) (skE r f xs g ys x n q) w) := by
  have HK : Hid (K2 w f (.slice a l c) g (.slice b m d) ((w.alloc (.cells #[.int .i64 f, .slice a l c] 46)).alloc (.cells #[.int .i64 g, .slice b m d] 26))) := Lib.hid (K2.new _ _ _ _ _ _ _)
  have C1 : Hid (∀ W, Hid (K2 w f (.slice a l c) g (.slice b m d) W) → Calls Try.prog 48 #[.agg #[.int .i64 f, .slice a l c], .agg #[.int .i64 g, .slice b m d], .int .i64 r, .int .i64 x, .int .i64 n, .int .i64 q] W fun e w' => e = .returned (.int .i64 (skE r f xs g ys x n q)) ∧ Below W.heap.size W w') :=
    Lib.hid (fun W hW => scode9_any r f xs a l c g ys b m d x n q W (h.on hW.out.low) (k.on hW.out.low))
  obtain ⟨E, hE⟩ : ∃ y_, skE r f xs g ys x n q = y_ := ⟨_, rfl⟩
  have HV : Hid (svV r f xs g ys x n q = if E = 0 then svS r f xs g ys x q n.toNat else 0) := Lib.hid (by unfold svV; rw [hE])
  rw [hE] at C1 ⊢
  unfold IIPost
  by_cases hz : E = 0
  · subst hz
    have hs := skE_iff.1 hE
    have C2 : Hid (∀ W, Hid (K2 w f (.slice a l c) g (.slice b m d) W) → Calls Try.prog 49 #[.agg #[.int .i64 f, .slice a l c], .agg #[.int .i64 g, .slice b m d], .int .i64 r, .int .i64 x, .int .i64 n, .int .i64 q] W fun e w' => e = .returned (.int .i64 (svS r f xs g ys x q n.toNat)) ∧ Below W.heap.size W w') :=
      Lib.hid (fun W hW => sval_any r f xs a l c g ys b m d x n q W (h.on hW.out.low) (k.on hW.out.low) hs)
    clear h k hE hs
    go_enter Try.func25, Try.ntmps25
    go_wp2_with fail
    with_reducible refine (C1.out _ HK).mono ?_
    rintro e w1 ⟨rfl, hb⟩
    have HK := Lib.hid (HK.out.on hb)
    clear hb
    obtain ⟨k0, k1, k2, k3, _⟩ := HK.out
    go_wp2_with fail
    with_reducible refine (C2.out _ HK).mono ?_
    rintro e w2 ⟨rfl, hb⟩
    have HK2 := Lib.hid (HK.out.on hb)
    clear hb k0 k1 k2 k3
    go_wp2_with fail
    go_ret2
    exact ⟨ret_ii (by rw [HV.out]; rfl) rfl, HK2.out.low⟩
  · have hne : (E != 0) = true := by simp [hz]
    have HV2 : Hid (svV r f xs g ys x n q = 0) := Lib.hid (by rw [HV.out, if_neg hz])
    clear h k hz HV hE
    go_enter Try.func25, Try.ntmps25
    go_wp2_with fail
    with_reducible refine (C1.out _ HK).mono ?_
    rintro e w1 ⟨rfl, hb⟩
    have HK := Lib.hid (HK.out.on hb)
    clear hb
    obtain ⟨k0, k1, k2, k3, _⟩ := HK.out
    go_wp2_with fail
    go_ret2
    exact ⟨ret_ii HV2.out.symm rfl, HK.out.low⟩

set_option maxHeartbeats 4000000 in
theorem ssp_any (r f : Int) (xs : List Int) (a : Option Addr) (l c : Nat) (g : Int) (ys : List Int) (b : Option Addr) (m d : Nat) (x n q : Int) (w : World) (h : Ints w a l xs) (k : Ints w b m ys) :
    Calls Try.prog 29 #[.agg #[.int .i64 f, .slice a l c], .agg #[.int .i64 g, .slice b m d], .int .i64 r, .int .i64 x, .int .i64 n, .int .i64 q] w (IIPost (spV r f xs g ys x n q) (skE r f xs g ys x n q) w) := by
  have HK : Hid (K2 w f (.slice a l c) g (.slice b m d) ((w.alloc (.cells #[.int .i64 f, .slice a l c] 46)).alloc (.cells #[.int .i64 g, .slice b m d] 26))) := Lib.hid (K2.new _ _ _ _ _ _ _)
  have C1 : Hid (∀ W, Hid (K2 w f (.slice a l c) g (.slice b m d) W) → Calls Try.prog 48 #[.agg #[.int .i64 f, .slice a l c], .agg #[.int .i64 g, .slice b m d], .int .i64 r, .int .i64 x, .int .i64 n, .int .i64 q] W fun e w' => e = .returned (.int .i64 (skE r f xs g ys x n q)) ∧ Below W.heap.size W w') :=
    Lib.hid (fun W hW => scode9_any r f xs a l c g ys b m d x n q W (h.on hW.out.low) (k.on hW.out.low))
  obtain ⟨E, hE⟩ : ∃ y_, skE r f xs g ys x n q = y_ := ⟨_, rfl⟩
  have HV : Hid (spV r f xs g ys x n q = if E = 0 then upV (svS r f xs g ys x q n.toNat) (cD r xs (x - f).toNat) (cN r xs (x - f).toNat - cN r xs (x + n - f).toNat) else 0) := Lib.hid (by unfold spV; rw [hE])
  rw [hE] at C1 ⊢
  unfold IIPost
  by_cases hz : E = 0
  · subst hz
    have hs := skE_iff.1 hE
    have x0 := hs.x0
    have xn := hs.xn
    have n0 := hs.n0
    have n1 := hs.n1
    obtain ⟨f0, f1⟩ := hs.lt.1
    have C2 : Hid (∀ W, Hid (K2 w f (.slice a l c) g (.slice b m d) W) → Calls Try.prog 49 #[.agg #[.int .i64 f, .slice a l c], .agg #[.int .i64 g, .slice b m d], .int .i64 r, .int .i64 x, .int .i64 n, .int .i64 q] W fun e w' => e = .returned (.int .i64 (svS r f xs g ys x q n.toNat)) ∧ Below W.heap.size W w') :=
      Lib.hid (fun W hW => sval_any r f xs a l c g ys b m d x n q W (h.on hW.out.low) (k.on hW.out.low) hs)
    have C3 : Hid (∀ W, Hid (K2 w f (.slice a l c) g (.slice b m d) W) → Calls Try.prog 53 #[.agg #[.int .i64 f, .slice a l c], .int .i64 r, .int .i64 x] W fun e w' => e = .returned (.int .i64 (cD r xs (x - f).toNat)) ∧ Below W.heap.size W w') :=
      Lib.hid (fun W hW => sD_any r f xs a l c x W (h.on hW.out.low) hs.lt hs.r0 hs.r1 (by omega) (by omega))
    have C4 : Hid (∀ W, Hid (K2 w f (.slice a l c) g (.slice b m d) W) → Calls Try.prog 54 #[.agg #[.int .i64 f, .slice a l c], .int .i64 r, .int .i64 x] W fun e w' => e = .returned (.int .i64 (cN r xs (x - f).toNat)) ∧ Below W.heap.size W w') :=
      Lib.hid (fun W hW => sN_any r f xs a l c x W (h.on hW.out.low) hs.lt hs.r0 hs.r1 (by omega) (by omega))
    have C5 : Hid (∀ W, Hid (K2 w f (.slice a l c) g (.slice b m d) W) → Calls Try.prog 54 #[.agg #[.int .i64 f, .slice a l c], .int .i64 r, .int .i64 (x + n)] W fun e w' => e = .returned (.int .i64 (cN r xs (x + n - f).toNat)) ∧ Below W.heap.size W w') :=
      Lib.hid (fun W hW => sN_any r f xs a l c (x + n) W (h.on hW.out.low) hs.lt hs.r0 hs.r1 (by omega) (by omega))
    obtain ⟨S, D, N, M, e1, e2, e3, e4, b1, b2, b3, b4, b5, b6, b7, b8, b9, b10⟩ := hs.prem
    rw [e1] at C2
    rw [e2] at C3
    rw [e3] at C4
    rw [e4] at C5
    rw [e1, e2, e3, e4] at HV
    have CU := Lib.hid (fun W => sup_any S D (N - M) W b1 (by omega) (by omega) (by omega) b9 (by omega) (by omega))
    obtain ⟨U, hU⟩ : ∃ y_, upV S D (N - M) = y_ := ⟨_, rfl⟩
    rw [hU] at CU HV
    have r1 : IntKind.i64.wrap (x + n) = x + n := IntWalk.i64_in _ (by omega)
    have r2 : IntKind.i64.wrap (N - M) = N - M := IntWalk.i64_in _ (by omega)
    clear h k hE hs e1 e2 e3 e4 hU b10
    go_enter Try.func29, Try.ntmps29
    go_wp2_with fail
    with_reducible refine (C1.out _ HK).mono ?_
    rintro e w1 ⟨rfl, hb⟩
    have HK := Lib.hid (HK.out.on hb)
    clear hb
    obtain ⟨k0, k1, k2, k3, _⟩ := HK.out
    go_wp2_with fail
    with_reducible refine (C2.out _ HK).mono ?_
    rintro e w2 ⟨rfl, hb⟩
    have HK := Lib.hid (HK.out.on hb)
    clear hb k0 k1 k2 k3
    obtain ⟨k0, k1, k2, k3, _⟩ := HK.out
    go_wp2_with fail
    go_region_held3 (fun w' => w'.cell? ⟨w.heap.size, 0, none⟩ = some (.int .i64 f) ∧ w'.cell? ⟨w.heap.size, 1, none⟩ = some (.slice a l c) ∧ w'.cell? ⟨w.heap.size + 1, 0, none⟩ = some (.int .i64 g) ∧ w'.cell? ⟨w.heap.size + 1, 1, none⟩ = some (.slice b m d) ∧ Hid (K2 w f (.slice a l c) g (.slice b m d) w'))
      (first
        | (go_split_ands; exact k2S (Hid.out (by with_reducible assumption)))
        | (go_split_ands; exact k2S (K2.on (Hid.out (by with_reducible assumption)) hb))
        | (go_split_ands; exact k2S (K2.drew (Hid.out (by with_reducible assumption))))
        | fail)
      (first
        | (go_split_ands; go_at_call 53; ((with_reducible refine (C3.out _ (by with_reducible assumption)).mono ?_); rintro e w' ⟨rfl, hb⟩))
        | (go_split_ands; go_at_call 54; ((with_reducible refine (C4.out _ (by with_reducible assumption)).mono ?_); rintro e w' ⟨rfl, hb⟩))
        | (go_split_ands; go_at_call 54; ((with_reducible refine (C5.out _ (by with_reducible assumption)).mono ?_); rintro e w' ⟨rfl, hb⟩))
        | (go_split_ands; go_at_call 52; ((with_reducible refine (CU.out _).mono ?_); rintro e w' ⟨rfl, rfl⟩))
        | fail)
    all_goals
      go_split_ands
      have HK : Hid (K2 w f (.slice a l c) g (.slice b m d) _) := (by with_reducible assumption)
      go_wp2_with fail
      go_ret2
      exact ⟨ret_ii (by rw [HV.out]; rfl) rfl, HK.out.low⟩
  · have hne : (E != 0) = true := by simp [hz]
    have HV2 : Hid (spV r f xs g ys x n q = 0) := Lib.hid (by rw [HV.out, if_neg hz])
    clear h k hz HV hE
    go_enter Try.func29, Try.ntmps29
    go_wp2_with fail
    with_reducible refine (C1.out _ HK).mono ?_
    rintro e w1 ⟨rfl, hb⟩
    have HK := Lib.hid (HK.out.on hb)
    clear hb
    obtain ⟨k0, k1, k2, k3, _⟩ := HK.out
    go_wp2_with fail
    go_ret2
    exact ⟨ret_ii HV2.out.symm rfl, HK.out.low⟩

end Go.Proofs.Ytgfemcpjkdepdaa
