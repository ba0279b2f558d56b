/- MiddleAge of the model: what the calls return. -/
import Derived.Test.YtonkaoacohocjaaTabN
namespace Go.Proofs.Ytonkaoacohocjaa
open Go.ChangeShapes Go.WideShapes Go.ChangeAt Go.RowKit
set_option linter.unusedVariables false

set_option maxHeartbeats 400000 in
theorem mi_spec (f : Int) (xs : List Int) (a : Option Addr) (l c : Nat) (x : Int) (w : World) (h : Ints w a l xs) :
    Calls Try.prog 17 #[.agg #[.int .i64 f, .slice a l c], .int .i64 x] w fun e w' => e = .returned (.tuple #[.int .i64 (miV f xs x), .int .i64 (clE f xs x 0)]) ∧ Below w.heap.size w w' := by
  have HC := Lib.hid (code_any f xs a l c x (w.alloc (.cells #[.int .i64 f, .slice a l c] 26)) (h.on (box_b _ _)))
  have HL := Lib.hid h.len
  have H := Lib.hid h
  clear h
  by_cases h0 : ageE f xs x = 0
  case neg =>
    have HR := Lib.hid (clE_code (y := 0) h0)
    have HV := Lib.hid (mi_n (f := f) (xs := xs) (x := x) (by rw [HR.out]; exact h0))
    obtain ⟨E, hE⟩ : ∃ E, ageE f xs x = E := ⟨_, rfl⟩
    rw [hE] at h0 HC HR
    have hne : (E != 0) = true := by simpa using h0
    clear h0 hE
    go_enter Try.func17, Try.ntmps17
    go_wp2_with fail
    refine HC.out.mono ?_
    rintro e w1 ⟨rfl, hb⟩
    obtain ⟨hB, hc0, hc1⟩ := box2 hb
    have HB := Lib.hid hB
    clear hB hb
    go_wp2_with fail
    go_ret2
    exact ⟨ret_ii HV.out.symm HR.out.symm, HB.out⟩
  obtain ⟨ht, x0, x1⟩ := ageE_iff.1 h0
  obtain ⟨f0, f1⟩ := ht.1
  have hch := chE_ok (y := 0) h0 (by decide)
  obtain ⟨b21, b22⟩ := ht.lvs_bd x
  obtain ⟨v, hv⟩ : ∃ v, lvs f xs x = v := ⟨_, rfl⟩
  have C1 : Hid (∀ W y, Hid (Below w.heap.size w W) → f ≤ y → y ≤ 1000 → Calls Try.prog 50 #[.agg #[.int .i64 f, .slice a l c], .int .i64 y] W fun e w' => e = .returned (.int .i64 (lvs f xs y)) ∧ Below W.heap.size W w') :=
    Lib.hid (fun W y hW y0 y1 => lives_any f xs a l c y W (H.out.on hW.out) f0 f1 y0 y1)
  have C2 : Hid (∀ W, Hid (Below w.heap.size w W) → Calls Try.prog 50 #[.agg #[.int .i64 f, .slice a l c], .int .i64 x] W fun e w' => e = .returned (.int .i64 v) ∧ Below W.heap.size W w') :=
    Lib.hid (fun W hW => by have := lives_any f xs a l c x W (H.out.on hW.out) f0 f1 x0 (by omega); rw [hv] at this; exact this)
  rw [hv] at b21 b22
  rw [h0] at HC
  have HT := Lib.hid ht
  have hfe := ht.2.2.1
  by_cases hz : v = 0
  · subst hz
    have HR := Lib.hid (clE_5 hch hv)
    have HV := Lib.hid (mi_n (f := f) (xs := xs) (x := x) (by rw [HR.out]; decide))
    clear h0 hch ht hv hfe
    go_enter Try.func17, Try.ntmps17
    go_wp2_with fail
    refine HC.out.mono ?_
    rintro e w1 ⟨rfl, hb⟩
    obtain ⟨hB, hc0, hc1⟩ := box2 hb
    have HB := Lib.hid hB
    clear hB hb
    go_wp2_with (go_at_call 50; ((with_reducible refine (C2.out _ HB).mono ?_); rintro e w2 ⟨rfl, hb⟩); have HB2 := Lib.hid (HB.out.trans (hb.mono HB.out.size)); clear hb)
    go_ret2
    exact ⟨ret_ii HV.out.symm HR.out.symm, HB2.out⟩
  · have hv0 : (v == 0) = false := by simpa using hz
    have hv1 : 1 ≤ v := by omega
    have HR := Lib.hid (clE_0 hch (by rw [hv]; exact hz))
    have HV := Lib.hid (mi_0 HR.out)
    have HVV := Lib.hid hv
    have HZ : Hid (∀ y, 151 ≤ y + 1 → lvs f xs y = 0) := Lib.hid (fun y hy => ht.lvs_zero y (by omega))
    clear h0 hch ht hv hz hfe
    go_enter Try.func17, Try.ntmps17
    go_wp2_with fail
    refine HC.out.mono ?_
    rintro e w1 ⟨rfl, hb⟩
    obtain ⟨hB, hc0, hc1⟩ := box2 hb
    have HB := Lib.hid hB
    clear hB hb
    go_wp2_with (go_at_call 50; ((with_reducible refine (C2.out _ HB).mono ?_); rintro e w2 ⟨rfl, hb⟩); have HB2 := Lib.hid (HB.out.trans (hb.mono HB.out.size)); have hd0 := keep2 hb hc0; have hd1 := keep2 hb hc1; clear hb hc0 hc1)
    go_loopw [7] (fun i wr => ∃ y : Int, x ≤ y ∧ y ≤ 150 ∧ i = .int .i64 y ∧ Hid (∀ z, x ≤ z → z < y → ¬ 2 * lvs f xs z ≤ lvs f xs x) ∧ Hid (Below w.heap.size w wr) ∧ Hid (wr.cell? ⟨w.heap.size, 0, none⟩ = some (.int .i64 f)) ∧ Hid (wr.cell? ⟨w.heap.size, 1, none⟩ = some (.slice a l c))) (fun i _ => (200 - intOf i).toNat)
    case atStart => exact ⟨x, by omega, by omega, rfl, Lib.hid (fun z h1 h2 => by omega), HB2, Lib.hid hd0, Lib.hid hd1⟩
    case round =>
      obtain ⟨y, hy0, hy1, rfl, HN, HW, HC0, HC1⟩ := hrel
      have hc0 := HC0.out
      have hc1 := HC1.out
      obtain ⟨p0, p1⟩ := HT.out.lvs_bd y
      have C5 := Lib.hid (fun W hW => C1.out W y hW (by omega) (by omega))
      obtain ⟨q, hq⟩ : ∃ q, lvs f xs y = q := ⟨_, rfl⟩
      rw [hq] at p0 p1 C5
      have HQ := Lib.hid hq
      clear hq
      have q1 : IntKind.i64.wrap (2 * q) = 2 * q := IntWalk.i64_in _ (by omega)
      by_cases hgt : v < 2 * q
      · have hy150 : y + 1 ≤ 150 := by
          by_cases hh : y = 150
          · have := HZ.out y (by omega); rw [HQ.out] at this; omega
          · omega
        go_wp2_with fail
        go_region_held3 (fun w' => w'.cell? ⟨w.heap.size, 0, none⟩ = some (.int .i64 f) ∧ w'.cell? ⟨w.heap.size, 1, none⟩ = some (.slice a l c) ∧ Hid (Below w.heap.size w w'))
          (first
            | (go_split_ands; exact ⟨by assumption, by assumption, by assumption⟩)
            | (go_split_ands; exact ⟨by assumption, by assumption, Lib.hid (Below.drew (Hid.out (by assumption)))⟩)
            | (go_split_ands; exact ⟨keep2 hb (by assumption), keep2 hb (by assumption), Lib.hid (Below.trans (Hid.out (by assumption)) (Below.mono hb (Below.size (Hid.out (by assumption)))))⟩))
          (first
            | (go_split_ands; go_at_call 50; ((with_reducible refine (C5.out _ (by assumption)).mono ?_); rintro e w' ⟨rfl, hb⟩))
            | (go_split_ands; go_at_call 50; ((with_reducible refine (C2.out _ (by assumption)).mono ?_); rintro e w' ⟨rfl, hb⟩)))
        all_goals
          go_split_ands
          go_wp2_with fail
          go_roundw
          case rel => exact ⟨y + 1, by omega, by omega, rfl, Lib.hid (fun z h1 h2 => by
            by_cases e : z = y
            · subst e; rw [HQ.out, HVV.out]; omega
            · have := HN.out z h1 (by omega); omega), by assumption, Lib.hid (by assumption), Lib.hid (by assumption)⟩
          case measure => simp [intOf]; omega
      · have HM : Hid (mdV f xs x = y) := Lib.hid (HT.out.mid x y x0 hy0 (by omega) (by rw [HQ.out, HVV.out]; omega) (fun z h1 h2 => by have := HN.out z h1 h2; omega))
        go_wp2_with fail
        go_region_held3 (fun w' => w'.cell? ⟨w.heap.size, 0, none⟩ = some (.int .i64 f) ∧ w'.cell? ⟨w.heap.size, 1, none⟩ = some (.slice a l c) ∧ Hid (Below w.heap.size w w'))
          (first
            | (go_split_ands; exact ⟨by assumption, by assumption, by assumption⟩)
            | (go_split_ands; exact ⟨by assumption, by assumption, Lib.hid (Below.drew (Hid.out (by assumption)))⟩)
            | (go_split_ands; exact ⟨keep2 hb (by assumption), keep2 hb (by assumption), Lib.hid (Below.trans (Hid.out (by assumption)) (Below.mono hb (Below.size (Hid.out (by assumption)))))⟩))
          (first
            | (go_split_ands; go_at_call 50; ((with_reducible refine (C5.out _ (by assumption)).mono ?_); rintro e w' ⟨rfl, hb⟩))
            | (go_split_ands; go_at_call 50; ((with_reducible refine (C2.out _ (by assumption)).mono ?_); rintro e w' ⟨rfl, hb⟩)))
        all_goals
          go_split_ands
          go_wp2_with fail
          go_ret2
          exact ⟨ret_ii (by rw [HV.out, HM.out]) HR.out.symm, Hid.out (by assumption)⟩

end Go.Proofs.Ytonkaoacohocjaa
