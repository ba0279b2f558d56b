/- LivesAt and DeathsAt of the model: what the calls return. -/
import Derived.Test.YtonkaoacohocjaaDoorTabC
namespace Go.Proofs.YtonkaoacohocjaaDoor
open Go.ChangeShapes Go.WideShapes Go.ChangeAt Go.RowKit
set_option linter.unusedVariables false
set_option maxRecDepth 100000

theorem laV_0 {f : Int} {xs : List Int} {x : Int} (h : ageE f xs x = 0) : laV f xs x = lvs f xs x := by simp [laV, h]

theorem laV_n {f : Int} {xs : List Int} {x : Int} (h : ¬ ageE f xs x = 0) : laV f xs x = 0 := by simp [laV, h]

theorem daV_0 {f : Int} {xs : List Int} {x : Int} (h : ageE f xs x = 0) : daV f xs x = lvs f xs x - lvs f xs (x + 1) := by simp [daV, h]

theorem daV_n {f : Int} {xs : List Int} {x : Int} (h : ¬ ageE f xs x = 0) : daV f xs x = 0 := by simp [daV, h]

theorem la_spec (f : Int) (xs : List Int) (a : Option Addr) (l c : Nat) (x : Int) (w : World) (h : Ints w a l xs) :
    Calls Tryd.prog 11 #[.agg #[.int .i64 f, .slice a l c], .int .i64 x] w fun e w' => e = .returned (.tuple #[.int .i64 (laV f xs x), .int .i64 (ageE f xs x)]) ∧ Below w.heap.size w w' := by
  have H := Lib.hid h
  clear h
  by_cases h0 : ageE f xs x = 0
  · obtain ⟨ht, x0, x1⟩ := ageE_iff.1 h0
    obtain ⟨f0, f1⟩ := ht.1
    have HV := Lib.hid (laV_0 h0)
    have HE := Lib.hid h0
    clear ht h0
    go_enter Tryd.func11, Tryd.ntmps11
    go_wp2_with fail
    refine (code_any f xs _ _ _ _ _ (H.out.on (box_b _ _))).mono ?_
    rintro e w1 ⟨rfl, hb⟩
    obtain ⟨hB, hc0, hc1⟩ := box2 hb
    have HB := Lib.hid hB
    clear hB hb
    rw [HE.out]
    go_wp2_with fail
    refine (lives_any f xs _ _ _ _ _ (H.out.on HB.out) f0 f1 x0 (by omega)).mono ?_
    rintro e w2 ⟨rfl, hb⟩
    have HB2 := Lib.hid (HB.out.trans (hb.mono HB.out.size))
    clear hb
    go_wp2_with fail
    go_ret2
    exact ⟨ret_ii HV.out.symm HE.out.symm, HB2.out⟩
  · have HV := Lib.hid (laV_n h0)
    obtain ⟨E, hE⟩ : ∃ E, ageE f xs x = E := ⟨_, rfl⟩
    rw [hE] at h0 ⊢
    have HE := Lib.hid hE
    have hne : (E != 0) = true := by simpa using h0
    clear h0 hE
    go_enter Tryd.func11, Tryd.ntmps11
    go_wp2_with fail
    refine (code_any f xs _ _ _ _ _ (H.out.on (box_b _ _))).mono ?_
    rintro e w1 ⟨rfl, hb⟩
    obtain ⟨hB, hc0, hc1⟩ := box2 hb
    have HB := Lib.hid hB
    clear hB hb
    rw [HE.out]
    go_wp2_with fail
    go_ret2
    exact ⟨ret_ii HV.out.symm rfl, HB.out⟩

theorem da_spec (f : Int) (xs : List Int) (a : Option Addr) (l c : Nat) (x : Int) (w : World) (h : Ints w a l xs) :
    Calls Tryd.prog 9 #[.agg #[.int .i64 f, .slice a l c], .int .i64 x] w fun e w' => e = .returned (.tuple #[.int .i64 (daV f xs x), .int .i64 (ageE f xs x)]) ∧ Below w.heap.size w w' := by
  have H := Lib.hid h
  clear h
  by_cases h0 : ageE f xs x = 0
  · obtain ⟨ht, x0, x1⟩ := ageE_iff.1 h0
    obtain ⟨f0, f1⟩ := ht.1
    have HT := Lib.hid ht
    have HV := Lib.hid (daV_0 h0)
    have HE := Lib.hid h0
    have b1 := ht.lvs_bd x
    have b2 := ht.lvs_bd (x + 1)
    obtain ⟨b11, b12⟩ := b1
    obtain ⟨b21, b22⟩ := b2
    obtain ⟨u, hu⟩ : ∃ u, lvs f xs x = u := ⟨_, rfl⟩
    obtain ⟨v, hv⟩ : ∃ v, lvs f xs (x + 1) = v := ⟨_, rfl⟩
    rw [hu] at b11 b12
    rw [hv] at b21 b22
    have HU := Lib.hid hu
    have HVV := Lib.hid hv
    clear ht h0 hu hv
    by_cases h150 : x = 150
    · have hz : Hid (daV f xs x = 0) := Lib.hid (by rw [HV.out, HT.out.lvs_zero x (by have := HT.out.2.2.1; omega), HT.out.lvs_zero (x + 1) (by have := HT.out.2.2.1; omega)]; rfl)
      subst h150
      go_enter Tryd.func9, Tryd.ntmps9
      go_wp2_with fail
      refine (code_any f xs _ _ _ _ _ (H.out.on (box_b _ _))).mono ?_
      rintro e w1 ⟨rfl, hb⟩
      obtain ⟨hB, hc0, hc1⟩ := box2 hb
      have HB := Lib.hid hB
      clear hB hb
      rw [HE.out]
      go_wp2_with fail
      go_ret2
      exact ⟨ret_ii hz.out.symm HE.out.symm, HB.out⟩
    · have hne : (x == 150) = false := by simpa using h150
      have hle : x + 1 ≤ 150 := by omega
      have q1 : IntKind.i64.wrap (x + 1) = x + 1 := IntWalk.i64_in _ (by omega)
      have q2 : IntKind.i64.wrap (u - v) = u - v := IntWalk.i64_in _ (by omega)
      clear h150
      go_enter Tryd.func9, Tryd.ntmps9
      go_wp2_with fail
      refine (code_any f xs _ _ _ _ _ (H.out.on (box_b _ _))).mono ?_
      rintro e w1 ⟨rfl, hb⟩
      obtain ⟨hB, hc0, hc1⟩ := box2 hb
      have HB := Lib.hid hB
      clear hB hb
      rw [HE.out]
      go_wp2_with fail
      have C1 : Hid (∀ W, Hid (Below w.heap.size w W) → Calls Tryd.prog 28 #[.agg #[.int .i64 f, .slice a l c], .int .i64 x] W fun e w' => e = .returned (.int .i64 u) ∧ Below W.heap.size W w') :=
        Lib.hid (fun W hW => by have := lives_any f xs a l c x W (H.out.on hW.out) f0 f1 x0 (by omega); rw [HU.out] at this; exact this)
      have C2 : Hid (∀ W, Hid (Below w.heap.size w W) → Calls Tryd.prog 28 #[.agg #[.int .i64 f, .slice a l c], .int .i64 (x + 1)] W fun e w' => e = .returned (.int .i64 v) ∧ Below W.heap.size W w') :=
        Lib.hid (fun W hW => by have := lives_any f xs a l c (x + 1) W (H.out.on hW.out) f0 f1 (by omega) (by omega); rw [HVV.out] at this; exact this)
      go_region_held3 (fun w' => w'.cell? ⟨w.heap.size, 0, none⟩ = some (.int .i64 f) ∧ w'.cell? ⟨w.heap.size, 1, none⟩ = some (.slice a l c) ∧ Hid (Below w.heap.size w w'))
        (first
          | (go_split_ands; exact ⟨by assumption, by assumption, by assumption⟩)
          | (go_split_ands; exact ⟨by assumption, by assumption, Lib.hid (Below.drew (Hid.out (by assumption)))⟩)
          | (go_split_ands; exact ⟨keep2 hb (by assumption), keep2 hb (by assumption), Lib.hid (Below.trans (Hid.out (by assumption)) (Below.mono hb (Below.size (Hid.out (by assumption)))))⟩))
        (first
          | (go_split_ands; go_at_call 28; ((with_reducible refine (C1.out _ (by assumption)).mono ?_); rintro e w' ⟨rfl, hb⟩))
          | (go_split_ands; go_at_call 28; ((with_reducible refine (C2.out _ (by assumption)).mono ?_); rintro e w' ⟨rfl, hb⟩)))
      all_goals
        go_split_ands
        go_wp2_with fail
        go_ret2
        exact ⟨ret_ii (by rw [HV.out, HU.out, HVV.out]) HE.out.symm, Hid.out (by assumption)⟩
  · have HV := Lib.hid (daV_n h0)
    obtain ⟨E, hE⟩ : ∃ E, ageE f xs x = E := ⟨_, rfl⟩
    rw [hE] at h0 ⊢
    have HE := Lib.hid hE
    have hne : (E != 0) = true := by simpa using h0
    clear h0 hE
    go_enter Tryd.func9, Tryd.ntmps9
    go_wp2_with fail
    refine (code_any f xs _ _ _ _ _ (H.out.on (box_b _ _))).mono ?_
    rintro e w1 ⟨rfl, hb⟩
    obtain ⟨hB, hc0, hc1⟩ := box2 hb
    have HB := Lib.hid hB
    clear hB hb
    rw [HE.out]
    go_wp2_with fail
    go_ret2
    exact ⟨ret_ii HV.out.symm rfl, HB.out⟩

end Go.Proofs.YtonkaoacohocjaaDoor
