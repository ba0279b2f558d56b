/- SurvivalOf of the program and of its model: what the calls return. -/
import Derived.Test.YtonkaoacohocjaaTabF
namespace Go.Proofs.Ytonkaoacohocjaa
open Go.ChangeShapes Go.WideShapes Go.ChangeAt Go.RowKit
set_option linter.unusedVariables false

theorem clE_code {f : Int} {xs : List Int} {x y : Int} (h : ¬ ageE f xs x = 0) : clE f xs x y = ageE f xs x := by
  have hn : ¬ chE f xs x y = 0 := fun e => h (ageE_iff.2 ⟨(chE_iff.1 e).1, (chE_iff.1 e).2.1⟩)
  rw [clE_n hn]
  unfold chE ageE
  unfold ageE at h
  simp only [inB_iff]
  split
  · next ht =>
    rw [if_pos ht] at h
    by_cases hh : f ≤ x ∧ x ≤ 150
    · exact absurd (if_pos hh) h
    · rw [if_neg hh, if_neg (fun e => hh e.1)]
  · rfl

theorem clE_2 {f : Int} {xs : List Int} {x y : Int} (h : ageE f xs x = 0) (g : ¬ inB y 0 150 = true) : clE f xs x y = 2 := by
  obtain ⟨a, b⟩ := ageE_iff.1 h
  have e : chE f xs x y = 2 := chE_2 (ltB_t a) (fun hh => g hh.2)
  rw [clE_n (by omega), e]

theorem chE_ok {f : Int} {xs : List Int} {x y : Int} (h : ageE f xs x = 0) (g : inB y 0 150 = true) : chE f xs x y = 0 := by
  obtain ⟨a, b⟩ := ageE_iff.1 h
  exact chE_iff.2 ⟨a, b, (inB_iff _ _ _).1 g⟩

/-- the share of the lives at an age that are left, in lowest terms -/
def svN (f : Int) (xs : List Int) (x y : Int) : Int := if clE f xs x y = 0 then lvs f xs (x + y) / gcdI (lvs f xs (x + y)) (lvs f xs x) else 0

def svD (f : Int) (xs : List Int) (x y : Int) : Int := if clE f xs x y = 0 then lvs f xs x / gcdI (lvs f xs (x + y)) (lvs f xs x) else 0

theorem sv_n {f : Int} {xs : List Int} {x y : Int} (h : ¬ clE f xs x y = 0) : svN f xs x y = 0 ∧ svD f xs x y = 0 := by simp [svN, svD, h]

theorem sv_0 {f : Int} {xs : List Int} {x y u v : Int} (h : clE f xs x y = 0) (hu : lvs f xs (x + y) = u) (hv : lvs f xs x = v) : svN f xs x y = u / gcdI u v ∧ svD f xs x y = v / gcdI u v := by
  simp [svN, svD, h, hu, hv]

theorem ret_iii {a b c d e f : Int} (h : a = b) (g : c = d) (k : e = f) : Ending.returned (.tuple #[.int .i64 a, .int .i64 c, .int .i64 e]) = .returned (.tuple #[.int .i64 b, .int .i64 d, .int .i64 f]) := by rw [h, g, k]

set_option maxHeartbeats 400000 in
theorem sv_spec (f : Int) (xs : List Int) (a : Option Addr) (l c : Nat) (x y : Int) (w : World) (h : Ints w a l xs) :
    Calls Try.prog 15 #[.agg #[.int .i64 f, .slice a l c], .int .i64 x, .int .i64 y] w fun e w' => e = .returned (.tuple #[.int .i64 (svN f xs x y), .int .i64 (svD f xs x y), .int .i64 (clE f xs x y)]) ∧ Below w.heap.size w w' := by
  have HC := Lib.hid (code_any f xs a l c x (w.alloc (.cells #[.int .i64 f, .slice a l c] 26)) (h.on (box_b _ _)))
  have H := Lib.hid h
  clear h
  by_cases h0 : ageE f xs x = 0
  case neg =>
    have HR := Lib.hid (clE_code (y := y) h0)
    have HV := Lib.hid (sv_n (f := f) (xs := xs) (x := x) (y := y) (by rw [HR.out]; exact h0))
    obtain ⟨E, hE⟩ : ∃ E, ageE f xs x = E := ⟨_, rfl⟩
    rw [hE] at h0 HC HR
    have hne : (E != 0) = true := by simpa using h0
    clear h0 hE
    go_enter Try.func15, Try.ntmps15
    go_wp2_with fail
    refine HC.out.mono ?_
    rintro e w1 ⟨rfl, hb⟩
    obtain ⟨hB, hc0, hc1⟩ := box2 hb
    have HB := Lib.hid hB
    clear hB hb
    go_wp2_with fail
    go_ret3
    exact ⟨ret_iii HV.out.1.symm HV.out.2.symm HR.out.symm, HB.out⟩
  by_cases h1 : inB y 0 150 = true
  case neg =>
    have HR := Lib.hid (clE_2 (y := y) h0 h1)
    have HV := Lib.hid (sv_n (f := f) (xs := xs) (x := x) (y := y) (by rw [HR.out]; decide))
    rw [h0] at HC
    clear h0
    go_enter Try.func15, Try.ntmps15
    go_wp2_with fail
    refine HC.out.mono ?_
    rintro e w1 ⟨rfl, hb⟩
    obtain ⟨hB, hc0, hc1⟩ := box2 hb
    have HB := Lib.hid hB
    clear hB hb
    go_wp2_with (go_at_call 49; refine (in_any _ _ _ _).mono ?_; rintro e w' ⟨rfl, rfl⟩)
    go_ret3
    exact ⟨ret_iii HV.out.1.symm HV.out.2.symm HR.out.symm, HB.out⟩
  obtain ⟨ht, x0, x1⟩ := ageE_iff.1 h0
  obtain ⟨f0, f1⟩ := ht.1
  obtain ⟨y0, y1⟩ := (inB_iff _ _ _).1 h1
  have hch := chE_ok (y := y) h0 h1
  obtain ⟨b11, b12⟩ := ht.lvs_bd (x + y)
  obtain ⟨b21, b22⟩ := ht.lvs_bd x
  obtain ⟨u, hu⟩ : ∃ u, lvs f xs (x + y) = u := ⟨_, rfl⟩
  obtain ⟨v, hv⟩ : ∃ v, lvs f xs x = v := ⟨_, rfl⟩
  have C1 : Hid (∀ W, Hid (Below w.heap.size w W) → Calls Try.prog 50 #[.agg #[.int .i64 f, .slice a l c], .int .i64 (x + y)] W fun e w' => e = .returned (.int .i64 u) ∧ Below W.heap.size W w') :=
    Lib.hid (fun W hW => by have := lives_any f xs a l c (x + y) W (H.out.on hW.out) f0 f1 (by omega) (by omega); rw [hu] at this; exact this)
  have C2 : Hid (∀ W, Hid (Below w.heap.size w W) → Calls Try.prog 50 #[.agg #[.int .i64 f, .slice a l c], .int .i64 x] W fun e w' => e = .returned (.int .i64 v) ∧ Below W.heap.size W w') :=
    Lib.hid (fun W hW => by have := lives_any f xs a l c x W (H.out.on hW.out) f0 f1 x0 (by omega); rw [hv] at this; exact this)
  rw [hu] at b11 b12
  rw [hv] at b21 b22
  rw [h0] at HC
  by_cases hz : v = 0
  · subst hz
    have HR := Lib.hid (clE_5 hch hv)
    have HV := Lib.hid (sv_n (f := f) (xs := xs) (x := x) (y := y) (by rw [HR.out]; decide))
    clear h0 hch ht hu hv
    go_enter Try.func15, Try.ntmps15
    go_wp2_with fail
    refine HC.out.mono ?_
    rintro e w1 ⟨rfl, hb⟩
    obtain ⟨hB, hc0, hc1⟩ := box2 hb
    have HB := Lib.hid hB
    clear hB hb
    go_wp2_with (first | (go_at_call 49; refine (in_any _ _ _ _).mono ?_; rintro e w' ⟨rfl, rfl⟩) | (go_at_call 50; ((with_reducible refine (C2.out _ HB).mono ?_); rintro e w2 ⟨rfl, hb⟩); have HB2 := Lib.hid (HB.out.trans (hb.mono HB.out.size)); clear hb))
    go_ret3
    exact ⟨ret_iii HV.out.1.symm HV.out.2.symm HR.out.symm, HB2.out⟩
  · have hv0 : (v == 0) = false := by simpa using hz
    have hv1 : 1 ≤ v := by omega
    have HR := Lib.hid (clE_0 hch (by rw [hv]; exact hz))
    have HV := Lib.hid (sv_0 HR.out hu hv)
    have q1 : IntKind.i64.wrap (x + y) = x + y := IntWalk.i64_in _ (by omega)
    have C3 := Lib.hid (fun W => frac_any u v W b11 (by omega) hv1 (by omega))
    obtain ⟨N, hN⟩ : ∃ N, u / gcdI u v = N := ⟨_, rfl⟩
    obtain ⟨D, hD⟩ : ∃ D, v / gcdI u v = D := ⟨_, rfl⟩
    rw [hN, hD] at HV
    rw [hN, hD] at C3
    clear h0 hch ht hu hv hz hN hD
    go_enter Try.func15, Try.ntmps15
    go_wp2_with fail
    refine HC.out.mono ?_
    rintro e w1 ⟨rfl, hb⟩
    obtain ⟨hB, hc0, hc1⟩ := box2 hb
    have HB := Lib.hid hB
    clear hB hb
    go_wp2_with (first | (go_at_call 49; refine (in_any _ _ _ _).mono ?_; rintro e w' ⟨rfl, rfl⟩) | (go_at_call 50; ((with_reducible refine (C2.out _ HB).mono ?_); rintro e w2 ⟨rfl, hb⟩); have HB2 := Lib.hid (HB.out.trans (hb.mono HB.out.size)); have hd0 := keep2 hb hc0; have hd1 := keep2 hb hc1; clear hb))
    clear HB hc0 hc1
    go_region_held3 (fun w' => w'.cell? ⟨w.heap.size, 0, none⟩ = some (.int .i64 f) ∧ w'.cell? ⟨w.heap.size, 1, none⟩ = some (.slice a l c) ∧ Hid (Below w.heap.size w w'))
      (first
        | (go_split_ands; exact ⟨by assumption, by assumption, by assumption⟩)
        | (go_split_ands; exact ⟨by assumption, by assumption, Lib.hid (Below.drew (Hid.out (by assumption)))⟩)
        | (go_split_ands; exact ⟨by assumption, by assumption, Lib.hid (below_drewN (Hid.out (by assumption)) _)⟩)
        | (go_split_ands; exact ⟨keep2 hb (by assumption), keep2 hb (by assumption), Lib.hid (Below.trans (Hid.out (by assumption)) (Below.mono hb (Below.size (Hid.out (by assumption)))))⟩))
      (first
        | (go_split_ands; go_at_call 50; ((with_reducible refine (C1.out _ (by assumption)).mono ?_); rintro e w' ⟨rfl, hb⟩))
        | (go_split_ands; go_at_call 50; ((with_reducible refine (C2.out _ (by assumption)).mono ?_); rintro e w' ⟨rfl, hb⟩))
        | (go_split_ands; go_at_call 51; ((with_reducible refine (C3.out _).mono ?_); rintro e w' ⟨rfl, nn, rfl⟩)))
    all_goals
      go_split_ands
      go_wp2_with fail
      go_ret3
      exact ⟨ret_iii HV.out.1.symm HV.out.2.symm HR.out.symm, Hid.out (by assumption)⟩

end Go.Proofs.Ytonkaoacohocjaa
