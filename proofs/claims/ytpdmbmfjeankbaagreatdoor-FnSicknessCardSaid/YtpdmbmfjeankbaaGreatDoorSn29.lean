/- Merged: SicI. -/
import Derived.Test.YtpdmbmfjeankbaaGreatDoorSn27
import Derived.Test.YtpdmbmfjeankbaaGreatDoorSn28

/- Sickness: SickValue and SickPremium of the program. (Written by wip/gen/sici.py.) -/
namespace Go.Proofs.YtpdmbmfjeankbaaGreatDoor
open Go.ChangeShapes Go.WideShapes Go.ChangeAt Go.RowKit
set_option linter.unusedVariables false
set_option linter.unusedSimpArgs false
set_option maxRecDepth 100000

theorem sco_no (r f : Int) (xs : List Int) (a : Option Addr) (l c : Nat) (g : Int) (ys : List Int) (b : Option Addr) (m d : Nat) (x n q : Int) (w : World) (h : Ints w a l xs) (k : Ints w b m ys) (hlc : l ≤ c) (hmd : m ≤ d) (hE : skE r f xs g ys x n q ≠ 0) :
    Calls Tryz.prog 23 #[.agg #[.int .i64 f, .slice a l c], .agg #[.int .i64 g, .slice b m d], .int .i64 r, .int .i64 x, .int .i64 n, .int .i64 q] w fun e w' => e = .returned (.tuple #[scz, .int .i64 (skE r f xs g ys x n q)]) ∧ Below w.heap.size w w' := by
  have e := skE_ck r f xs g ys x n q
  by_cases hk : ckE r f xs g ys x n q = 0
  · rw [if_pos hk] at e
    by_cases hd : cD r xs (x - f).toNat = 0
    · rw [if_pos hd] at e
      rw [e]
      exact sco_dead r f xs a l c g ys b m d x n q w h k hlc hmd hk hd
    · rw [if_neg hd] at e
      exact absurd e hE
  · rw [if_neg hk] at e
    rw [e]
    exact sco_err r f xs a l c g ys b m d x n q w h k hlc hmd hk

set_option maxHeartbeats 4000000 in
theorem isv_any (r f : Int) (xs : List Int) (a : Option Addr) (l c : Nat) (g : Int) (ys : List Int) (b : Option Addr) (m d : Nat) (x n q : Int) (w : World) (h : Ints w a l xs) (k : Ints w b m ys) (hlc : l ≤ c) (hmd : m ≤ d) :
    Calls Tryz.prog 6 #[.agg #[.int .i64 f, .slice a l c], .agg #[.int .i64 g, .slice b m d], .int .i64 r, .int .i64 x, .int .i64 n, .int .i64 q] w (IIPost (svV r f xs g ys x n q) (skE r f xs g ys x n q) w) := by
  have HK : Hid (K2 w f (.slice a l c) g (.slice b m d) ((w.alloc (.cells #[.int .i64 f, .slice a l c] 26)).alloc (.cells #[.int .i64 g, .slice b m d] 28))) := Lib.hid (K2.new _ _ _ _ _ _ _)
  by_cases hz : skE r f xs g ys x n q = 0
  · have C1 : Hid (∀ W, Hid (K2 w f (.slice a l c) g (.slice b m d) W) → Calls Tryz.prog 23 #[.agg #[.int .i64 f, .slice a l c], .agg #[.int .i64 g, .slice b m d], .int .i64 r, .int .i64 x, .int .i64 n, .int .i64 q] W (ScPost r f xs (.slice a l c) g b m d x n W)) :=
      Lib.hid (fun W hW => sco_yes r f xs a l c g ys b m d x n q W (h.on hW.out.low) (k.on hW.out.low) hlc hmd hz)
    have HV : Hid (svV r f xs g ys x n q = svS r f xs g ys x q n.toNat) := Lib.hid (by unfold svV; rw [if_pos hz])
    have HE := Lib.hid hz
    have HS := Lib.hid (skE_iff.1 hz)
    have HYY := Lib.hid k
    unfold ScPost scv at C1
    unfold IIPost
    clear h k hz
    go_enter Tryz.func6, Tryz.ntmps6
    go_wp2_with fail
    with_reducible refine (C1.out _ HK).mono ?_
    rintro e w2 ⟨R, rfl, hco, hb⟩
    have HK := Lib.hid (HK.out.on hb)
    have HCO := Lib.hid hco
    clear hb hco
    go_wp2_with fail
    obtain ⟨v2, hv2⟩ : ∃ y_, w2.alloc (.cells #[.pointer (some ⟨R, 0, none⟩), .int .i64 g, .slice b m d, .int .i64 x, .int .i64 n] 49) = y_ := ⟨_, rfl⟩
    have HX : Hid (Bx v2 w2.heap.size [.pointer (some ⟨R, 0, none⟩), .int .i64 g, .slice b m d, .int .i64 x, .int .i64 n]) := Lib.hid (by rw [← hv2]; exact Bx.new w2 _ _)
    have hbx := box_b w2 (.cells #[.pointer (some ⟨R, 0, none⟩), .int .i64 g, .slice b m d, .int .i64 x, .int .i64 n] 49)
    rw [hv2] at hbx
    (try rw [hv2])
    have HCO := Lib.hid (HCO.out.on hbx)
    have HK := Lib.hid (HK.out.on hbx)
    clear hbx hv2
    have CV : Hid (∀ W, Hid (Below v2.heap.size v2 W) → Calls Tryz.prog 24 #[.agg #[.pointer (some ⟨R, 0, none⟩), .int .i64 g, .slice b m d, .int .i64 x, .int .i64 n], .int .i64 q] W fun e w' => e = .returned (.int .i64 (svS r f xs g ys x q n.toNat)) ∧ Below W.heap.size W w') :=
      Lib.hid (fun W hW => ival_any r f xs _ R g ys b m d x n q W (HCO.out.on hW.out) ((HYY.out.on HK.out.low).on hW.out) hmd HS.out)
    obtain ⟨c0, c1, c2, c3, c4⟩ := HX.out.five
    go_wp2_with fail
    with_reducible refine (CV.out _ (Lib.hid (Below.refl _ _))).mono ?_
    rintro e w3 ⟨rfl, hb⟩
    have HK := Lib.hid (HK.out.on hb)
    clear hb c0 c1 c2 c3 c4
    go_wp2_with fail
    go_ret2
    exact ⟨ret_ii HV.out.symm HE.out.symm, HK.out.low⟩
  · have C1 : Hid (∀ W, Hid (K2 w f (.slice a l c) g (.slice b m d) W) → Calls Tryz.prog 23 #[.agg #[.int .i64 f, .slice a l c], .agg #[.int .i64 g, .slice b m d], .int .i64 r, .int .i64 x, .int .i64 n, .int .i64 q] W fun e w' => e = .returned (.tuple #[scz, .int .i64 (skE r f xs g ys x n q)]) ∧ Below W.heap.size W w') :=
      Lib.hid (fun W hW => sco_no r f xs a l c g ys b m d x n q W (h.on hW.out.low) (k.on hW.out.low) hlc hmd hz)
    have HV : Hid (svV r f xs g ys x n q = 0) := Lib.hid (by unfold svV; rw [if_neg hz])
    obtain ⟨E, hE⟩ : ∃ y_, skE r f xs g ys x n q = y_ := ⟨_, rfl⟩
    rw [hE] at C1 hz ⊢
    have hne : (E != 0) = true := by simp [hz]
    unfold scz at C1
    unfold IIPost
    clear h k hz hE
    go_enter Tryz.func6, Tryz.ntmps6
    go_wp2_with fail
    with_reducible refine (C1.out _ HK).mono ?_
    rintro e w2 ⟨rfl, hb⟩
    have HK := Lib.hid (HK.out.on hb)
    clear hb
    go_wp2_with fail
    go_ret2
    exact ⟨ret_ii HV.out.symm rfl, HK.out.low.alloc HK.out.low.size _⟩

set_option maxHeartbeats 4000000 in
theorem isp_any (r f : Int) (xs : List Int) (a : Option Addr) (l c : Nat) (g : Int) (ys : List Int) (b : Option Addr) (m d : Nat) (x n q : Int) (w : World) (h : Ints w a l xs) (k : Ints w b m ys) (hlc : l ≤ c) (hmd : m ≤ d) :
    Calls Tryz.prog 8 #[.agg #[.int .i64 f, .slice a l c], .agg #[.int .i64 g, .slice b m d], .int .i64 r, .int .i64 x, .int .i64 n, .int .i64 q] w (IIPost (spV r f xs g ys x n q) (skE r f xs g ys x n q) w) := by
  have HK : Hid (K2 w f (.slice a l c) g (.slice b m d) ((w.alloc (.cells #[.int .i64 f, .slice a l c] 26)).alloc (.cells #[.int .i64 g, .slice b m d] 28))) := Lib.hid (K2.new _ _ _ _ _ _ _)
  by_cases hz : skE r f xs g ys x n q = 0
  · have C1 : Hid (∀ W, Hid (K2 w f (.slice a l c) g (.slice b m d) W) → Calls Tryz.prog 23 #[.agg #[.int .i64 f, .slice a l c], .agg #[.int .i64 g, .slice b m d], .int .i64 r, .int .i64 x, .int .i64 n, .int .i64 q] W (ScPost r f xs (.slice a l c) g b m d x n W)) :=
      Lib.hid (fun W hW => sco_yes r f xs a l c g ys b m d x n q W (h.on hW.out.low) (k.on hW.out.low) hlc hmd hz)
    have HV : Hid (spV r f xs g ys x n q = upV (svS r f xs g ys x q n.toNat) (cD r xs (x - f).toNat) (cN r xs (x - f).toNat - cN r xs (x + n - f).toNat)) := Lib.hid (by unfold spV; rw [if_pos hz])
    have HE := Lib.hid hz
    have HS := Lib.hid (skE_iff.1 hz)
    have HYY := Lib.hid k
    unfold ScPost scv at C1
    unfold IIPost
    clear h k hz
    go_enter Tryz.func8, Tryz.ntmps8
    go_wp2_with fail
    with_reducible refine (C1.out _ HK).mono ?_
    rintro e w2 ⟨R, rfl, hco, hb⟩
    have HK := Lib.hid (HK.out.on hb)
    have HCO := Lib.hid hco
    clear hb hco
    go_wp2_with fail
    obtain ⟨v2, hv2⟩ : ∃ y_, w2.alloc (.cells #[.pointer (some ⟨R, 0, none⟩), .int .i64 g, .slice b m d, .int .i64 x, .int .i64 n] 49) = y_ := ⟨_, rfl⟩
    have HX : Hid (Bx v2 w2.heap.size [.pointer (some ⟨R, 0, none⟩), .int .i64 g, .slice b m d, .int .i64 x, .int .i64 n]) := Lib.hid (by rw [← hv2]; exact Bx.new w2 _ _)
    have hbx := box_b w2 (.cells #[.pointer (some ⟨R, 0, none⟩), .int .i64 g, .slice b m d, .int .i64 x, .int .i64 n] 49)
    rw [hv2] at hbx
    (try rw [hv2])
    have HCO := Lib.hid (HCO.out.on hbx)
    have HK := Lib.hid (HK.out.on hbx)
    clear hbx hv2
    have CV : Hid (∀ W, Hid (Below v2.heap.size v2 W) → Calls Tryz.prog 24 #[.agg #[.pointer (some ⟨R, 0, none⟩), .int .i64 g, .slice b m d, .int .i64 x, .int .i64 n], .int .i64 q] W fun e w' => e = .returned (.int .i64 (svS r f xs g ys x q n.toNat)) ∧ Below W.heap.size W w') :=
      Lib.hid (fun W hW => ival_any r f xs _ R g ys b m d x n q W (HCO.out.on hW.out) ((HYY.out.on HK.out.low).on hW.out) hmd HS.out)
    have CP : Hid (∀ W, Hid (Below v2.heap.size v2 W) → Calls Tryz.prog 27 #[.agg #[.pointer (some ⟨R, 0, none⟩), .int .i64 g, .slice b m d, .int .i64 x, .int .i64 n], .int .i64 (svS r f xs g ys x q n.toNat)] W fun e w' => e = .returned (.int .i64 (upV (svS r f xs g ys x q n.toNat) (cD r xs (x - f).toNat) (cN r xs (x - f).toNat - cN r xs (x + n - f).toNat))) ∧ Below W.heap.size W w') :=
      Lib.hid (fun W hW => ipre_any r f xs _ R g ys b m d x n q W (HCO.out.on hW.out) HS.out)
    obtain ⟨S, hS⟩ : ∃ y_, svS r f xs g ys x q n.toNat = y_ := ⟨_, rfl⟩
    rw [hS] at CV CP HV
    obtain ⟨U, hU⟩ : ∃ y_, upV S (cD r xs (x - f).toNat) (cN r xs (x - f).toNat - cN r xs (x + n - f).toNat) = y_ := ⟨_, rfl⟩
    rw [hU] at CP HV
    obtain ⟨c0, c1, c2, c3, c4⟩ := HX.out.five
    have HLL := Lib.hid HK.out.low
    clear hS hU HCO HS HYY HX HK C1
    go_wp2_with fail
    go_region_held3 (fun w' => w'.cell? ⟨w2.heap.size, 0, none⟩ = some (.pointer (some ⟨R, 0, none⟩)) ∧ w'.cell? ⟨w2.heap.size, 1, none⟩ = some (.int .i64 g) ∧ w'.cell? ⟨w2.heap.size, 2, none⟩ = some (.slice b m d) ∧ w'.cell? ⟨w2.heap.size, 3, none⟩ = some (.int .i64 x) ∧ w'.cell? ⟨w2.heap.size, 4, none⟩ = some (.int .i64 n) ∧ Hid (Below v2.heap.size v2 w'))
      (first
        | (go_split_ands; exact ⟨by with_reducible assumption, by with_reducible assumption, by with_reducible assumption, by with_reducible assumption, by with_reducible assumption, by with_reducible assumption⟩)
        | (go_split_ands; exact ⟨cell_drew (by with_reducible assumption), cell_drew (by with_reducible assumption), cell_drew (by with_reducible assumption), cell_drew (by with_reducible assumption), cell_drew (by with_reducible assumption), Lib.hid (Below.drew (Below.refl _ _))⟩)
        | (go_split_ands; exact ⟨keep2 hb (by with_reducible assumption), keep2 hb (by with_reducible assumption), keep2 hb (by with_reducible assumption), keep2 hb (by with_reducible assumption), keep2 hb (by with_reducible assumption), Lib.hid (Below.trans (Hid.out (by with_reducible assumption)) (Below.mono hb (Below.size (Hid.out (by with_reducible assumption)))))⟩)
        | fail)
      (first
        | (go_split_ands; go_at_call 24; ((with_reducible refine (CV.out _ (by with_reducible assumption)).mono ?_); rintro e w' ⟨rfl, hb⟩))
        | (go_split_ands; go_at_call 27; ((with_reducible refine (CP.out _ (by with_reducible assumption)).mono ?_); rintro e w' ⟨rfl, hb⟩))
        | fail)
    all_goals
      go_split_ands
      have HB2 : Hid (Below v2.heap.size v2 _) := (by with_reducible assumption)
      go_wp2_with fail
      go_ret2
      exact ⟨ret_ii HV.out.symm HE.out.symm, HLL.out.trans (HB2.out.mono HLL.out.size)⟩
  · have C1 : Hid (∀ W, Hid (K2 w f (.slice a l c) g (.slice b m d) W) → Calls Tryz.prog 23 #[.agg #[.int .i64 f, .slice a l c], .agg #[.int .i64 g, .slice b m d], .int .i64 r, .int .i64 x, .int .i64 n, .int .i64 q] W fun e w' => e = .returned (.tuple #[scz, .int .i64 (skE r f xs g ys x n q)]) ∧ Below W.heap.size W w') :=
      Lib.hid (fun W hW => sco_no r f xs a l c g ys b m d x n q W (h.on hW.out.low) (k.on hW.out.low) hlc hmd hz)
    have HV : Hid (spV r f xs g ys x n q = 0) := Lib.hid (by unfold spV; rw [if_neg hz])
    obtain ⟨E, hE⟩ : ∃ y_, skE r f xs g ys x n q = y_ := ⟨_, rfl⟩
    rw [hE] at C1 hz ⊢
    have hne : (E != 0) = true := by simp [hz]
    unfold scz at C1
    unfold IIPost
    clear h k hz hE
    go_enter Tryz.func8, Tryz.ntmps8
    go_wp2_with fail
    with_reducible refine (C1.out _ HK).mono ?_
    rintro e w2 ⟨rfl, hb⟩
    have HK := Lib.hid (HK.out.on hb)
    clear hb
    go_wp2_with fail
    go_ret2
    exact ⟨ret_ii HV.out.symm rfl, HK.out.low.alloc HK.out.low.size _⟩

end Go.Proofs.YtpdmbmfjeankbaaGreatDoor
