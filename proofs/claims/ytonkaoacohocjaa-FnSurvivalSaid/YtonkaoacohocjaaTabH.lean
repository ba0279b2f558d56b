/- SurvivalOf of the program: what the calls return. -/
import Derived.Test.YtonkaoacohocjaaTabG
namespace Go.Proofs.Ytonkaoacohocjaa
open Go.ChangeShapes Go.WideShapes Go.ChangeAt Go.RowKit
set_option linter.unusedVariables false

set_option maxHeartbeats 400000 in
theorem sv_impl (f : Int) (xs : List Int) (a : Option Addr) (l c : Nat) (x y : Int) (w : World) (h : Ints w a l xs) (hlc : l ≤ c) :
    Calls Try.prog 14 #[.agg #[.int .i64 f, .slice a l c], .int .i64 x, .int .i64 y] w fun e w' => e = .returned (.tuple #[.int .i64 (svN f xs x y), .int .i64 (svD f xs x y), .int .i64 (clE f xs x y)]) ∧ Below w.heap.size w w' := by
  have HC := Lib.hid (living_any f xs a l c x y (w.alloc (.cells #[.int .i64 f, .slice a l c] 26)) (h.on (box_b _ _)) hlc)
  have H := Lib.hid h
  clear h
  by_cases h0 : clE f xs x y = 0
  case neg =>
    have HV := Lib.hid (sv_n h0)
    obtain ⟨E, hE⟩ : ∃ E, clE f xs x y = E := ⟨_, rfl⟩
    rw [hE] at h0 HC ⊢
    have hne : (E != 0) = true := by simpa using h0
    clear h0 hE
    go_enter Try.func14, Try.ntmps14
    go_wp2_with fail
    refine HC.out.mono ?_
    rintro e w1 ⟨rfl, hb⟩
    obtain ⟨hB, hc0, hc1⟩ := box2 hb
    have HB := Lib.hid hB
    clear hB hb
    go_wp2_with fail
    go_ret3
    exact ⟨ret_iii HV.out.1.symm HV.out.2.symm rfl, HB.out⟩
  obtain ⟨ht, ⟨x0, x1⟩, ⟨y0, y1⟩, hz⟩ := clE_iff.1 h0
  obtain ⟨f0, f1⟩ := ht.1
  have hfit := ht.2.2.1
  obtain ⟨b11, b12⟩ := ht.lvs_bd (x + y)
  obtain ⟨b21, b22⟩ := ht.lvs_bd x
  obtain ⟨u, hu⟩ : ∃ u, lvs f xs (x + y) = u := ⟨_, rfl⟩
  obtain ⟨v, hv⟩ : ∃ v, lvs f xs x = v := ⟨_, rfl⟩
  rw [hu] at b11 b12
  rw [hv] at b21 b22 hz
  rw [h0] at HC
  have hv1 : 1 ≤ v := by omega
  have HV := Lib.hid (sv_0 h0 hu hv)
  have HE := Lib.hid h0
  have HT := Lib.hid ht
  have C3 := Lib.hid (fun W => low_any u v W b11 (by omega) hv1 (by omega))
  obtain ⟨N, hN⟩ : ∃ N, u / gcdI u v = N := ⟨_, rfl⟩
  obtain ⟨D, hD⟩ : ∃ D, v / gcdI u v = D := ⟨_, rfl⟩
  rw [hN, hD] at HV
  rw [hN, hD] at C3
  have p0 : 0 ≤ x := by omega
  have p2 : x < 152 := by omega
  have HU := Lib.hid hu
  have HVV := Lib.hid hv
  have hm : ∃ m : Int, 0 ≤ m ∧ m < 152 ∧ f ≤ m ∧ lvs f xs m = u ∧ (x + y ≤ 151 ∧ m = x + y ∨ 151 < x + y ∧ m = 151) := by
    by_cases hle : x + y ≤ 151
    · exact ⟨x + y, by omega, by omega, by omega, hu, .inl ⟨hle, rfl⟩⟩
    · refine ⟨151, by omega, by omega, by omega, ?_, .inr ⟨by omega, rfl⟩⟩
      rw [← hu, ht.lvs_zero 151 (by omega), ht.lvs_zero (x + y) (by omega)]
  obtain ⟨m, m0, m1, m2, m3, m4⟩ := hm
  have HYG : Hid (∀ Zs, Arr Zs (byL f xs) → ∀ w2 : World, (w2.alloc (.cells Zs 60)).cell? ⟨w2.heap.size, m.toNat, none⟩ = some (.int .i64 u)) := Lib.hid (fun Zs hz w2 => by rw [hz.cell w2 m.toNat (by omega), ht.by m m2, m3])
  clear h0 ht hu hv hz hN hD m3 hfit
  rcases m4 with ⟨hle, rfl⟩ | ⟨hle, rfl⟩
  all_goals
    go_enter Try.func14, Try.ntmps14
    go_wp2_with fail
    refine HC.out.mono ?_
    rintro e w1 ⟨rfl, hb⟩
    obtain ⟨hB, hc0, hc1⟩ := box2 hb
    have HB := Lib.hid hB
    clear hB hb
    go_wp2_with fail
    refine (byAge_r f xs _ _ _ _ (H.out.on HB.out) HT.out).mono ?_
    rintro e w2 ⟨Zs, rfl, hz, hb⟩
    have HB2 := Lib.hid (HB.out.trans (hb.mono HB.out.size))
    have hx := hz.cell w2 x.toNat (by omega)
    have hy := HYG.out _ hz w2
    try rw [show (151 : Int).toNat = 151 from rfl] at hy
    rw [HT.out.by x x0, HVV.out] at hx
    have HZ := Lib.hid hz
    clear hb hz
    go_wp2_with (refine HZ.out.laid rfl (.tmp 10) (.tmp 22) rfl rfl rfl ?_)
    go_quiet ((go_at_call 47; exact Calls.quiet_of (C3.out _)))
    go_wp2_with fail
    go_ret3
    exact ⟨ret_iii HV.out.1.symm HV.out.2.symm HE.out.symm, below_drewN (HB2.out.alloc HB2.out.size _) _⟩

end Go.Proofs.Ytonkaoacohocjaa
