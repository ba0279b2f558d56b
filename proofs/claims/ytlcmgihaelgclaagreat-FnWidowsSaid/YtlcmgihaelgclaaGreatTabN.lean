/- ExpectedYears and MiddleAge of the model: what the calls return. | MiddleAge of the model: what the calls return. -/
import Derived.Test.YtlcmgihaelgclaaGreatTabE
namespace Go.Proofs.YtlcmgihaelgclaaGreat
open Go.ChangeShapes Go.WideShapes Go.ChangeAt Go.RowKit
set_option linter.unusedVariables false

/-- the years that are still lived, in lowest terms -/
def exN (f : Int) (xs : List Int) (x : Int) : Int := if clE f xs x 0 = 0 then laterSum f xs x / gcdI (laterSum f xs x) (lvs f xs x) else 0

def exD (f : Int) (xs : List Int) (x : Int) : Int := if clE f xs x 0 = 0 then lvs f xs x / gcdI (laterSum f xs x) (lvs f xs x) else 0

theorem ex_n {f : Int} {xs : List Int} {x : Int} (h : ¬ clE f xs x 0 = 0) : exN f xs x = 0 ∧ exD f xs x = 0 := by simp [exN, exD, h]

theorem ex_0 {f : Int} {xs : List Int} {x u v : Int} (h : clE f xs x 0 = 0) (hu : laterSum f xs x = u) (hv : lvs f xs x = v) : exN f xs x = u / gcdI u v ∧ exD f xs x = v / gcdI u v := by
  simp [exN, exD, h, hu, hv]

/-- the middle age, and 0 beside an error -/
def miV (f : Int) (xs : List Int) (x : Int) : Int := if clE f xs x 0 = 0 then mdV f xs x else 0

theorem mi_n {f : Int} {xs : List Int} {x : Int} (h : ¬ clE f xs x 0 = 0) : miV f xs x = 0 := by simp [miV, h]

theorem mi_0 {f : Int} {xs : List Int} {x : Int} (h : clE f xs x 0 = 0) : miV f xs x = mdV f xs x := by simp [miV, h]

theorem LTab.later_bd {f : Int} {xs : List Int} (h : LTab f xs) (x : Int) (hx : f ≤ x) : 0 ≤ laterSum f xs x ∧ laterSum f xs x ≤ 120000000 := by
  have := h.partSum_bd x hx 120
  rw [partSum_all f xs x 120 (by have := h.2.1.2; omega)] at this
  omega

set_option maxHeartbeats 400000 in
theorem ex_spec (f : Int) (xs : List Int) (a : Option Addr) (l c : Nat) (x : Int) (w : World) (h : Ints w a l xs) :
    Calls Tryz.prog 27 #[.agg #[.int .i64 f, .slice a l c], .int .i64 x] w fun e w' => e = .returned (.tuple #[.int .i64 (exN f xs x), .int .i64 (exD f xs x), .int .i64 (clE f xs x 0)]) ∧ Below w.heap.size w w' := by
  have HC := Lib.hid (code_any f xs a l c x (w.alloc (.cells #[.int .i64 f, .slice a l c] 26)) (h.on (box_b _ _)))
  have HL := Lib.hid h.len
  have H := Lib.hid h
  clear h
  by_cases h0 : ageE f xs x = 0
  case neg =>
    have HR := Lib.hid (clE_code (y := 0) h0)
    have HV := Lib.hid (ex_n (f := f) (xs := xs) (x := x) (by rw [HR.out]; exact h0))
    obtain ⟨E, hE⟩ : ∃ E, ageE f xs x = E := ⟨_, rfl⟩
    rw [hE] at h0 HC HR
    have hne : (E != 0) = true := by simpa using h0
    clear h0 hE
    go_enter Tryz.func27, Tryz.ntmps27
    go_wp2_with fail
    refine HC.out.mono ?_
    rintro e w1 ⟨rfl, hb⟩
    obtain ⟨hB, hc0, hc1⟩ := box2 hb
    have HB := Lib.hid hB
    clear hB hb
    go_wp2_with fail
    go_ret3
    exact ⟨ret_iii HV.out.1.symm HV.out.2.symm HR.out.symm, HB.out⟩
  obtain ⟨ht, x0, x1⟩ := ageE_iff.1 h0
  obtain ⟨f0, f1⟩ := ht.1
  have hl := ht.2.1.2
  have hfe := ht.2.2.1
  rw [HL.out] at hl hfe
  have hch := chE_ok (y := 0) h0 (by decide)
  have hd := ht.dead x x0
  rw [HL.out] at hd
  obtain ⟨b11, b12⟩ := ht.later_bd x x0
  obtain ⟨b21, b22⟩ := ht.lvs_bd x
  obtain ⟨v, hv⟩ : ∃ v, lvs f xs x = v := ⟨_, rfl⟩
  have C1 : Hid (∀ W y, Hid (Below w.heap.size w W) → f ≤ y → y ≤ 1000 → Calls Tryz.prog 39 #[.agg #[.int .i64 f, .slice a l c], .int .i64 y] W fun e w' => e = .returned (.int .i64 (lvs f xs y)) ∧ Below W.heap.size W w') :=
    Lib.hid (fun W y hW y0 y1 => lives_any f xs a l c y W (H.out.on hW.out) f0 f1 y0 y1)
  have C2 : Hid (∀ W, Hid (Below w.heap.size w W) → Calls Tryz.prog 39 #[.agg #[.int .i64 f, .slice a l c], .int .i64 x] W fun e w' => e = .returned (.int .i64 v) ∧ Below W.heap.size W w') :=
    Lib.hid (fun W hW => by have := lives_any f xs a l c x W (H.out.on hW.out) f0 f1 x0 (by omega); rw [hv] at this; exact this)
  rw [hv] at b21 b22 hd
  rw [h0] at HC
  have HT := Lib.hid ht
  by_cases hz : v = 0
  · subst hz
    have HR := Lib.hid (clE_5 hch hv)
    have HV := Lib.hid (ex_n (f := f) (xs := xs) (x := x) (by rw [HR.out]; decide))
    clear h0 hch ht hv hd
    go_enter Tryz.func27, Tryz.ntmps27
    go_wp2_with fail
    refine HC.out.mono ?_
    rintro e w1 ⟨rfl, hb⟩
    obtain ⟨hB, hc0, hc1⟩ := box2 hb
    have HB := Lib.hid hB
    clear hB hb
    go_wp2_with (go_at_call 39; ((with_reducible refine (C2.out _ HB).mono ?_); rintro e w2 ⟨rfl, hb⟩); have HB2 := Lib.hid (HB.out.trans (hb.mono HB.out.size)); clear hb)
    go_ret3
    exact ⟨ret_iii HV.out.1.symm HV.out.2.symm HR.out.symm, HB2.out⟩
  · have hv0 : (v == 0) = false := by simpa using hz
    have hv1 : 1 ≤ v := by omega
    have hxe : x < f + l - 1 := by
      by_cases hh : f + l - 1 ≤ x
      · exact absurd (hd.2 hh) hz
      · omega
    have HR := Lib.hid (clE_0 hch (by rw [hv]; exact hz))
    obtain ⟨u, hu⟩ : ∃ u, laterSum f xs x = u := ⟨_, rfl⟩
    rw [hu] at b11 b12
    have HV := Lib.hid (ex_0 HR.out hu hv)
    have HU := Lib.hid hu
    have C3 := Lib.hid (fun W => frac_any u v W b11 (by omega) hv1 (by omega))
    have C4 := Lib.hid (fun W => end_spec f xs a l c W (by omega) f0 (by omega))
    obtain ⟨N, hN⟩ : ∃ N, u / gcdI u v = N := ⟨_, rfl⟩
    obtain ⟨D, hD⟩ : ∃ D, v / gcdI u v = D := ⟨_, rfl⟩
    rw [hN, hD] at HV
    rw [hN, hD] at C3
    clear h0 hch ht hv hz hN hD hd hu
    go_enter Tryz.func27, Tryz.ntmps27
    go_wp2_with fail
    refine HC.out.mono ?_
    rintro e w1 ⟨rfl, hb⟩
    obtain ⟨hB, hc0, hc1⟩ := box2 hb
    have HB := Lib.hid hB
    clear hB hb
    go_wp2_with (go_at_call 39; ((with_reducible refine (C2.out _ HB).mono ?_); rintro e w2 ⟨rfl, hb⟩); have HB2 := Lib.hid (HB.out.trans (hb.mono HB.out.size)); have hd0 := keep2 hb hc0; have hd1 := keep2 hb hc1; clear hb hc0 hc1)
    go_loopw [8, 9] (fun n i wr => ∃ k : Nat, x + 1 + k ≤ f + l - 1 ∧ i = .int .i64 (x + 1 + k) ∧ n = .int .i64 (partSum f xs x k) ∧ Hid (Below w.heap.size w wr) ∧ Hid (wr.cell? ⟨w.heap.size, 0, none⟩ = some (.int .i64 f)) ∧ Hid (wr.cell? ⟨w.heap.size, 1, none⟩ = some (.slice a l c))) (fun _ i _ => (f + l - intOf i).toNat)
    case atStart => exact ⟨0, by omega, by simp, by rw [partSum_zero], HB2, Lib.hid hd0, Lib.hid hd1⟩
    case round =>
      obtain ⟨k, hk, rfl, rfl, HW, HC0, HC1⟩ := hrel
      have hc0 := HC0.out
      have hc1 := HC1.out
      obtain ⟨p0, p1⟩ := HT.out.partSum_bd x x0 k
      have HS := Lib.hid (partSum_succ f xs x k x0)
      obtain ⟨s, hs⟩ : ∃ s, partSum f xs x k = s := ⟨_, rfl⟩
      rw [hs] at p0 p1 HS
      rw [hs]
      have HSS := Lib.hid hs
      clear hs
      obtain ⟨y0, y1⟩ := HT.out.lvs_bd (x + 1 + k)
      have hk120 : (k : Int) ≤ 120 := by omega
      by_cases hlt : x + 1 + k < f + l - 1
      · have C5 := Lib.hid (fun W hW => C1.out W (x + 1 + k) hW (by omega) (by omega))
        obtain ⟨q, hq⟩ : ∃ q, lvs f xs (x + 1 + k) = q := ⟨_, rfl⟩
        rw [hq] at y0 y1 HS C5
        clear hq
        go_wp2_with fail
        refine (C4.out _).mono ?_
        rintro e w3 ⟨rfl, hb⟩
        have he0 := keep2 hb hc0
        have he1 := keep2 hb hc1
        have HB3 := Lib.hid (HW.out.trans (hb.mono HW.out.size))
        clear hb hc0 hc1
        go_wp2_with fail
        refine (C5.out _ HB3).mono ?_
        rintro e w4 ⟨rfl, hb⟩
        have hc0 := keep2 hb he0
        have hc1 := keep2 hb he1
        have HB4 := Lib.hid (HB3.out.trans (hb.mono HB3.out.size))
        clear hb he0 he1
        go_wp2_with fail
        go_roundw
        case rel => exact ⟨k + 1, by omega, by congr 1; omega, by rw [HS.out], HB4, Lib.hid hc0, Lib.hid hc1⟩
        case measure => simp [intOf]; omega
      · have HE : Hid (s = u) := Lib.hid (by rw [← HSS.out, HT.out.partSum_end x k (by have := HL.out; omega) x0, HU.out])
        clear y0 y1
        go_wp2_with fail
        refine (C4.out _).mono ?_
        rintro e w3 ⟨rfl, hb⟩
        have he0 := keep2 hb hc0
        have he1 := keep2 hb hc1
        have HB3 := Lib.hid (HW.out.trans (hb.mono HW.out.size))
        clear hb hc0 hc1
        obtain rfl := HE.out
        go_wp2_with (first | (go_at_call 39; ((with_reducible refine (C2.out _ HB3).mono ?_); rintro e w4 ⟨rfl, hb⟩); have HB4 := Lib.hid (HB3.out.trans (hb.mono HB3.out.size)); clear hb) | (go_at_call 29; ((with_reducible refine (C3.out _).mono ?_); rintro e w' ⟨rfl, nn, rfl⟩)))
        go_ret3
        exact ⟨ret_iii HV.out.1.symm HV.out.2.symm HR.out.symm, below_drewN HB4.out _⟩

end Go.Proofs.YtlcmgihaelgclaaGreat
