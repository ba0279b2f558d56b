/- Merged: AnnT. -/
import Derived.Test.YtmcagpcldjopjaaAn10
import Derived.Deep.RegionHeld3

/- Annuities: the model's prices. (Written by wip/gen/annt.py.) -/
namespace Go.Proofs.Ytmcagpcldjopjaa
open Go.ChangeShapes Go.WideShapes Go.ChangeAt Go.RowKit
set_option linter.unusedVariables false
set_option maxRecDepth 100000

def lifeV (r f : Int) (xs : List Int) (x b : Int) : Int := if anE r f xs x (inB b 1 1000000) 0 = 0 then upV b (cN r xs (x - f).toNat) (cD r xs (x - f).toNat) else 0

def termV (r f : Int) (xs : List Int) (x b n : Int) : Int := if anE r f xs x (inB b 1 1000000) n = 0 then upV b (cN r xs (x - f).toNat - cN r xs (x + n - f).toNat) (cD r xs (x - f).toNat) else 0

def lateV (r f : Int) (xs : List Int) (x b n : Int) : Int := if anE r f xs x (inB b 1 1000000) n = 0 then upV b (cN r xs (x + n - f).toNat) (cD r xs (x - f).toNat) else 0

def sureV (r f : Int) (xs : List Int) (x b n : Int) : Int := if anE r f xs x (inB b 1 1000000) n = 0 then upV b (dsum r 0 n.toNat) 1000000000 + upV b (cN r xs (x + n - f).toNat) (cD r xs (x - f).toNat) else 0

def amtV (r f : Int) (xs : List Int) (x p : Int) : Int := if anE r f xs x (inB p 1 1000000000) 0 = 0 then p * cD r xs (x - f).toNat / cN r xs (x - f).toNat else 0

def IIPost (v E : Int) (w : World) (e : Ending) (w' : World) : Prop := e = .returned (.tuple #[.int .i64 v, .int .i64 E]) ∧ Below w.heap.size w w'

theorem cell_drew {w : World} {p : Addr} {v : Value} (h : w.cell? p = some v) : w.drew.cell? p = some v := h

/-- a part of N, n years later -/
theorem LTab.late {f : Int} {xs : List Int} (h : LTab f xs) (r : Int) (r0 : 0 ≤ r) (x n : Int) (x0 : f ≤ x) (n0 : 0 ≤ n) : 0 ≤ cN r xs (x + n - f).toNat ∧ cN r xs (x + n - f).toNat ≤ cN r xs (x - f).toNat := by
  refine ⟨(h.cN_bd r r0 _).1, ?_⟩
  have := h.cN_mono r r0 (x - f).toNat n.toNat
  rw [show (x - f).toNat + n.toNat = (x + n - f).toNat by omega] at this
  exact this

theorem upV_bd (a b c m : Int) (h0 : 0 ≤ a) (h1 : 0 ≤ b) (h2 : 1 ≤ c) (hq : a * b / c ≤ m) : 0 ≤ upV a b c ∧ upV a b c ≤ m + 1 := by
  have := Int.ediv_nonneg (Int.mul_nonneg h0 h1) (show 0 ≤ c by omega)
  unfold upV
  split <;> omega

theorem sure_q (r b : Int) (n : Int) (r0 : 0 ≤ r) (n0 : 0 ≤ n) (n1 : n ≤ 120) (b0 : 0 ≤ b) (b1 : b ≤ 1000000) : 0 ≤ dsum r 0 n.toNat ∧ dsum r 0 n.toNat ≤ 120000000000 ∧ b * dsum r 0 n.toNat / 1000000000 ≤ 120000000 := by
  obtain ⟨d0, d1⟩ := dsum_bd r r0 0 n.toNat
  refine ⟨d0, by omega, ?_⟩
  have e : b * dsum r 0 n.toNat ≤ 1000000 * 120000000000 := Int.mul_le_mul b1 (by omega) d0 (by omega)
  omega

set_option maxHeartbeats 4000000 in
theorem slate0_any (r f : Int) (xs : List Int) (a : Option Addr) (l c : Nat) (x b n : Int) (w : World) (h : Ints w a l xs) (ht : LTab f xs) (r0 : 0 ≤ r) (r1 : r ≤ 200) (x0 : f ≤ x) (n0 : 0 ≤ n) (n1 : n ≤ 120) (xn : x + n ≤ 150) (hd : cD r xs (x - f).toNat ≠ 0) (b0 : 1 ≤ b) (b1 : b ≤ 1000000) :
    Calls Try.prog 65 #[.agg #[.int .i64 f, .slice a l c], .int .i64 r, .int .i64 x, .int .i64 b, .int .i64 n] w fun e w' => e = .returned (.int .i64 (upV b (cN r xs (x + n - f).toNat) (cD r xs (x - f).toNat))) ∧ Below w.heap.size w w' := by
  have H := Lib.hid h
  obtain ⟨f0, f1⟩ := ht.1
  have C3 : Hid (∀ W, Hid (Below w.heap.size w W) → Calls Try.prog 63 #[.agg #[.int .i64 f, .slice a l c], .int .i64 r, .int .i64 (x + n)] W fun e w' => e = .returned (.int .i64 (cN r xs (x + n - f).toNat)) ∧ Below W.heap.size W w') :=
    Lib.hid (fun W hW => sN_any r f xs a l c (x + n) W (H.out.on hW.out) ht r0 r1 (by omega) (by omega))
  have C2 : Hid (∀ W, Hid (Below w.heap.size w W) → Calls Try.prog 64 #[.agg #[.int .i64 f, .slice a l c], .int .i64 r, .int .i64 x] W fun e w' => e = .returned (.int .i64 (cD r xs (x - f).toNat)) ∧ Below W.heap.size W w') :=
    Lib.hid (fun W hW => sD_any r f xs a l c x W (H.out.on hW.out) ht r0 r1 x0 (by omega))
  obtain ⟨l0, l1⟩ := ht.late r r0 x n x0 n0
  obtain ⟨q1, q2, q3, q4⟩ := ht.quot r r0 (x - f).toNat (cN r xs (x + n - f).toNat) b l0 l1 hd (by omega) b1
  obtain ⟨M, hM⟩ : ∃ y_, cN r xs (x + n - f).toNat = y_ := ⟨_, rfl⟩
  rw [hM] at C3 q1 q4 l0 l1 ⊢
  clear hM
  obtain ⟨D, hD⟩ : ∃ y_, cD r xs (x - f).toNat = y_ := ⟨_, rfl⟩
  rw [hD] at C2 q2 q3 q4 hd ⊢
  clear hD
  have CU := Lib.hid (fun W => sup_any b M D W (by omega) (by omega) (by omega) q1 q2 q3 (by omega))
  have q6 : IntKind.i64.wrap (x + n) = x + n := IntWalk.i64_in _ (by omega)
  obtain ⟨U, hU⟩ : ∃ y_, upV b M D = y_ := ⟨_, rfl⟩
  rw [hU] at CU ⊢
  clear hU
  clear q1 q2 q3 q4 l0 l1
  clear h ht hd
  go_enter Try.func65, Try.ntmps65
  go_wp2_with fail
  go_region_held3 (fun w' => w'.cell? ⟨w.heap.size, 0, none⟩ = some (.int .i64 f) ∧ w'.cell? ⟨w.heap.size, 1, none⟩ = some (.slice a l c) ∧ Hid (Below w.heap.size w w'))
    (first
      | (go_split_ands; exact ⟨by with_reducible assumption, by with_reducible assumption, by with_reducible assumption⟩)
      | (go_split_ands; exact ⟨by go_simp, by go_simp, Lib.hid (Below.drew (box_b _ _))⟩)
      | (go_split_ands; exact ⟨by go_simp, by go_simp, Lib.hid (box_b _ _)⟩)
      | (go_split_ands; exact ⟨cell_drew (by with_reducible assumption), cell_drew (by with_reducible assumption), Lib.hid (Below.drew (Hid.out (by with_reducible assumption)))⟩)
      | (go_split_ands; exact ⟨keep2 hb (by with_reducible assumption), keep2 hb (by with_reducible assumption), Lib.hid (Below.trans (Hid.out (by with_reducible assumption)) (Below.mono hb (Below.size (Hid.out (by with_reducible assumption)))))⟩))
    (first
      | (go_split_ands; go_at_call 63; ((with_reducible refine (C3.out _ (by with_reducible assumption)).mono ?_); rintro e w' ⟨rfl, hb⟩))
      | (go_split_ands; go_at_call 64; ((with_reducible refine (C2.out _ (by with_reducible assumption)).mono ?_); rintro e w' ⟨rfl, hb⟩))
      | (go_split_ands; go_at_call 62; ((with_reducible refine (CU.out _).mono ?_); rintro e w' ⟨rfl, rfl⟩)))
  all_goals
    go_split_ands
    go_wp2_with fail
    go_ret
    exact ⟨rfl, Hid.out (by with_reducible assumption)⟩

set_option maxHeartbeats 4000000 in
theorem slife_any (r f : Int) (xs : List Int) (a : Option Addr) (l c : Nat) (x b : Int) (w : World) (h : Ints w a l xs) :
    Calls Try.prog 32 #[.agg #[.int .i64 f, .slice a l c], .int .i64 r, .int .i64 x, .int .i64 b] w (IIPost (lifeV r f xs x b) (anE r f xs x (inB b 1 1000000) 0) w) := by
  have H := Lib.hid h
  have CA : Hid (∀ W, Hid (Below w.heap.size w W) → Calls Try.prog 60 #[.agg #[.int .i64 f, .slice a l c], .int .i64 r, .int .i64 x, .bool (inB b 1 1000000), .int .i64 0] W fun e w' => e = .returned (.int .i64 (anE r f xs x (inB b 1 1000000) 0)) ∧ Below W.heap.size W w') :=
    Lib.hid (fun W hW => ancode_any r f xs a l c x _ 0 W (H.out.on hW.out))
  clear h
  obtain ⟨E, hE⟩ : ∃ E, anE r f xs x (inB b 1 1000000) 0 = E := ⟨_, rfl⟩
  rw [hE] at CA ⊢
  have HE := Lib.hid hE
  have HV : Hid (lifeV r f xs x b = if E = 0 then upV b (cN r xs (x - f).toNat) (cD r xs (x - f).toNat) else 0) := Lib.hid (by unfold lifeV; rw [hE])
  clear hE
  unfold IIPost
  by_cases hz : E = 0
  · subst hz
    obtain ⟨hc, hb, ⟨n0, n1⟩, xn, hd⟩ := anE_iff.1 HE.out
    obtain ⟨ht, ⟨r0, r1⟩, x0, x1⟩ := coE_iff.1 hc
    obtain ⟨f0, f1⟩ := ht.1
    obtain ⟨b0, b1⟩ := (inB_iff _ _ _).1 hb
    have C1 : Hid (∀ W, Hid (Below w.heap.size w W) → Calls Try.prog 63 #[.agg #[.int .i64 f, .slice a l c], .int .i64 r, .int .i64 x] W fun e w' => e = .returned (.int .i64 (cN r xs (x - f).toNat)) ∧ Below W.heap.size W w') :=
      Lib.hid (fun W hW => sN_any r f xs a l c x W (H.out.on hW.out) ht r0 r1 x0 (by omega))
    have C2 : Hid (∀ W, Hid (Below w.heap.size w W) → Calls Try.prog 64 #[.agg #[.int .i64 f, .slice a l c], .int .i64 r, .int .i64 x] W fun e w' => e = .returned (.int .i64 (cD r xs (x - f).toNat)) ∧ Below W.heap.size W w') :=
      Lib.hid (fun W hW => sD_any r f xs a l c x W (H.out.on hW.out) ht r0 r1 x0 (by omega))
    obtain ⟨q1, q2, q3, q4⟩ := ht.quot r r0 (x - f).toNat (cN r xs (x - f).toNat) b (ht.cN_bd r r0 _).1 (Int.le_refl _) hd (by omega) b1
    have hn0 := (ht.cN_bd r r0 (x - f).toNat).1
    obtain ⟨N, hN⟩ : ∃ y_, cN r xs (x - f).toNat = y_ := ⟨_, rfl⟩
    rw [hN] at C1 HV q1 q4 hn0
    clear hN
    obtain ⟨D, hD⟩ : ∃ y_, cD r xs (x - f).toNat = y_ := ⟨_, rfl⟩
    rw [hD] at C2 HV q2 q3 q4 hd
    clear hD
    have CU := Lib.hid (fun W => sup_any b N D W (by omega) (by omega) hn0 q1 q2 q3 (by omega))
    obtain ⟨U, hU⟩ : ∃ y_, upV b N D = y_ := ⟨_, rfl⟩
    rw [hU] at CU HV
    clear hU
    clear q1 q2 q3 q4
    clear hd hc hb ht HE
    go_enter Try.func32, Try.ntmps32
    go_wp2_with fail
    go_region_held3 (fun w' => w'.cell? ⟨w.heap.size, 0, none⟩ = some (.int .i64 f) ∧ w'.cell? ⟨w.heap.size, 1, none⟩ = some (.slice a l c) ∧ Hid (Below w.heap.size w w'))
      (first
        | (go_split_ands; exact ⟨by with_reducible assumption, by with_reducible assumption, by with_reducible assumption⟩)
        | (go_split_ands; exact ⟨by go_simp, by go_simp, Lib.hid (Below.drew (box_b _ _))⟩)
        | (go_split_ands; exact ⟨by go_simp, by go_simp, Lib.hid (box_b _ _)⟩)
        | (go_split_ands; exact ⟨cell_drew (by with_reducible assumption), cell_drew (by with_reducible assumption), Lib.hid (Below.drew (Hid.out (by with_reducible assumption)))⟩)
        | (go_split_ands; exact ⟨keep2 hb (by with_reducible assumption), keep2 hb (by with_reducible assumption), Lib.hid (Below.trans (Hid.out (by with_reducible assumption)) (Below.mono hb (Below.size (Hid.out (by with_reducible assumption)))))⟩))
      (first
        | (go_split_ands; go_at_call 61; ((with_reducible refine (samt_any _ _).mono ?_); rintro e w' ⟨rfl, rfl⟩))
        | (go_split_ands; go_at_call 60; ((with_reducible refine (CA.out _ (by with_reducible assumption)).mono ?_); rintro e w' ⟨rfl, hb⟩)))
    all_goals
      go_split_ands
      go_wp2_with fail
      go_region_held3 (fun w' => w'.cell? ⟨w.heap.size, 0, none⟩ = some (.int .i64 f) ∧ w'.cell? ⟨w.heap.size, 1, none⟩ = some (.slice a l c) ∧ Hid (Below w.heap.size w w'))
        (first
          | (go_split_ands; exact ⟨by with_reducible assumption, by with_reducible assumption, by with_reducible assumption⟩)
          | (go_split_ands; exact ⟨by go_simp, by go_simp, Lib.hid (Below.drew (box_b _ _))⟩)
          | (go_split_ands; exact ⟨by go_simp, by go_simp, Lib.hid (box_b _ _)⟩)
          | (go_split_ands; exact ⟨cell_drew (by with_reducible assumption), cell_drew (by with_reducible assumption), Lib.hid (Below.drew (Hid.out (by with_reducible assumption)))⟩)
          | (go_split_ands; exact ⟨keep2 hb (by with_reducible assumption), keep2 hb (by with_reducible assumption), Lib.hid (Below.trans (Hid.out (by with_reducible assumption)) (Below.mono hb (Below.size (Hid.out (by with_reducible assumption)))))⟩))
        (first
          | (go_split_ands; go_at_call 63; ((with_reducible refine (C1.out _ (by with_reducible assumption)).mono ?_); rintro e w' ⟨rfl, hb⟩))
          | (go_split_ands; go_at_call 64; ((with_reducible refine (C2.out _ (by with_reducible assumption)).mono ?_); rintro e w' ⟨rfl, hb⟩))
          | (go_split_ands; go_at_call 62; ((with_reducible refine (CU.out _).mono ?_); rintro e w' ⟨rfl, rfl⟩)))
      all_goals
        go_split_ands
        go_wp2_with fail
        go_ret2
        exact ⟨ret_ii (by rw [HV.out]; rfl) rfl, Hid.out (by with_reducible assumption)⟩
  · have hne : (E != 0) = true := by simp [hz]
    have HV2 : Hid (lifeV r f xs x b = 0) := Lib.hid (by rw [HV.out, if_neg hz])
    clear hz HV HE
    go_enter Try.func32, Try.ntmps32
    go_wp2_with fail
    go_region_held3 (fun w' => w'.cell? ⟨w.heap.size, 0, none⟩ = some (.int .i64 f) ∧ w'.cell? ⟨w.heap.size, 1, none⟩ = some (.slice a l c) ∧ Hid (Below w.heap.size w w'))
      (first
        | (go_split_ands; exact ⟨by with_reducible assumption, by with_reducible assumption, by with_reducible assumption⟩)
        | (go_split_ands; exact ⟨by go_simp, by go_simp, Lib.hid (Below.drew (box_b _ _))⟩)
        | (go_split_ands; exact ⟨by go_simp, by go_simp, Lib.hid (box_b _ _)⟩)
        | (go_split_ands; exact ⟨cell_drew (by with_reducible assumption), cell_drew (by with_reducible assumption), Lib.hid (Below.drew (Hid.out (by with_reducible assumption)))⟩)
        | (go_split_ands; exact ⟨keep2 hb (by with_reducible assumption), keep2 hb (by with_reducible assumption), Lib.hid (Below.trans (Hid.out (by with_reducible assumption)) (Below.mono hb (Below.size (Hid.out (by with_reducible assumption)))))⟩))
      (first
        | (go_split_ands; go_at_call 61; ((with_reducible refine (samt_any _ _).mono ?_); rintro e w' ⟨rfl, rfl⟩))
        | (go_split_ands; go_at_call 60; ((with_reducible refine (CA.out _ (by with_reducible assumption)).mono ?_); rintro e w' ⟨rfl, hb⟩)))
    all_goals
      go_split_ands
      go_wp2_with fail
      go_ret2
      exact ⟨ret_ii HV2.out.symm rfl, Hid.out (by with_reducible assumption)⟩

set_option maxHeartbeats 4000000 in
theorem sterm_any (r f : Int) (xs : List Int) (a : Option Addr) (l c : Nat) (x b n : Int) (w : World) (h : Ints w a l xs) :
    Calls Try.prog 22 #[.agg #[.int .i64 f, .slice a l c], .int .i64 r, .int .i64 x, .int .i64 b, .int .i64 n] w (IIPost (termV r f xs x b n) (anE r f xs x (inB b 1 1000000) n) w) := by
  have H := Lib.hid h
  have CA : Hid (∀ W, Hid (Below w.heap.size w W) → Calls Try.prog 60 #[.agg #[.int .i64 f, .slice a l c], .int .i64 r, .int .i64 x, .bool (inB b 1 1000000), .int .i64 n] W fun e w' => e = .returned (.int .i64 (anE r f xs x (inB b 1 1000000) n)) ∧ Below W.heap.size W w') :=
    Lib.hid (fun W hW => ancode_any r f xs a l c x _ n W (H.out.on hW.out))
  clear h
  obtain ⟨E, hE⟩ : ∃ E, anE r f xs x (inB b 1 1000000) n = E := ⟨_, rfl⟩
  rw [hE] at CA ⊢
  have HE := Lib.hid hE
  have HV : Hid (termV r f xs x b n = if E = 0 then upV b (cN r xs (x - f).toNat - cN r xs (x + n - f).toNat) (cD r xs (x - f).toNat) else 0) := Lib.hid (by unfold termV; rw [hE])
  clear hE
  unfold IIPost
  by_cases hz : E = 0
  · subst hz
    obtain ⟨hc, hb, ⟨n0, n1⟩, xn, hd⟩ := anE_iff.1 HE.out
    obtain ⟨ht, ⟨r0, r1⟩, x0, x1⟩ := coE_iff.1 hc
    obtain ⟨f0, f1⟩ := ht.1
    obtain ⟨b0, b1⟩ := (inB_iff _ _ _).1 hb
    have C1 : Hid (∀ W, Hid (Below w.heap.size w W) → Calls Try.prog 63 #[.agg #[.int .i64 f, .slice a l c], .int .i64 r, .int .i64 x] W fun e w' => e = .returned (.int .i64 (cN r xs (x - f).toNat)) ∧ Below W.heap.size W w') :=
      Lib.hid (fun W hW => sN_any r f xs a l c x W (H.out.on hW.out) ht r0 r1 x0 (by omega))
    have C3 : Hid (∀ W, Hid (Below w.heap.size w W) → Calls Try.prog 63 #[.agg #[.int .i64 f, .slice a l c], .int .i64 r, .int .i64 (x + n)] W fun e w' => e = .returned (.int .i64 (cN r xs (x + n - f).toNat)) ∧ Below W.heap.size W w') :=
      Lib.hid (fun W hW => sN_any r f xs a l c (x + n) W (H.out.on hW.out) ht r0 r1 (by omega) (by omega))
    have C2 : Hid (∀ W, Hid (Below w.heap.size w W) → Calls Try.prog 64 #[.agg #[.int .i64 f, .slice a l c], .int .i64 r, .int .i64 x] W fun e w' => e = .returned (.int .i64 (cD r xs (x - f).toNat)) ∧ Below W.heap.size W w') :=
      Lib.hid (fun W hW => sD_any r f xs a l c x W (H.out.on hW.out) ht r0 r1 x0 (by omega))
    obtain ⟨l0, l1⟩ := ht.late r r0 x n x0 n0
    obtain ⟨q1, q2, q3, q4⟩ := ht.quot r r0 (x - f).toNat (cN r xs (x - f).toNat - cN r xs (x + n - f).toNat) b (by omega) (by omega) hd (by omega) b1
    have hn0 := ht.cN_bd r r0 (x - f).toNat
    obtain ⟨N, hN⟩ : ∃ y_, cN r xs (x - f).toNat = y_ := ⟨_, rfl⟩
    rw [hN] at C1 HV q1 q4 hn0 l1
    clear hN
    obtain ⟨M, hM⟩ : ∃ y_, cN r xs (x + n - f).toNat = y_ := ⟨_, rfl⟩
    rw [hM] at C3 HV q1 q4 l0 l1
    clear hM
    obtain ⟨D, hD⟩ : ∃ y_, cD r xs (x - f).toNat = y_ := ⟨_, rfl⟩
    rw [hD] at C2 HV q2 q3 q4 hd
    clear hD
    have CU := Lib.hid (fun W => sup_any b (N - M) D W (by omega) (by omega) (by omega) q1 q2 q3 (by omega))
    have q5 : IntKind.i64.wrap (N - M) = N - M := IntWalk.i64_in _ (by omega)
    have q6 : IntKind.i64.wrap (x + n) = x + n := IntWalk.i64_in _ (by omega)
    obtain ⟨U, hU⟩ : ∃ y_, upV b (N - M) D = y_ := ⟨_, rfl⟩
    rw [hU] at CU HV
    clear hU
    clear q1 q2 q3 q4 l0 l1 hn0
    clear hd hc hb ht HE
    go_enter Try.func22, Try.ntmps22
    go_wp2_with fail
    go_region_held3 (fun w' => w'.cell? ⟨w.heap.size, 0, none⟩ = some (.int .i64 f) ∧ w'.cell? ⟨w.heap.size, 1, none⟩ = some (.slice a l c) ∧ Hid (Below w.heap.size w w'))
      (first
        | (go_split_ands; exact ⟨by with_reducible assumption, by with_reducible assumption, by with_reducible assumption⟩)
        | (go_split_ands; exact ⟨by go_simp, by go_simp, Lib.hid (Below.drew (box_b _ _))⟩)
        | (go_split_ands; exact ⟨by go_simp, by go_simp, Lib.hid (box_b _ _)⟩)
        | (go_split_ands; exact ⟨cell_drew (by with_reducible assumption), cell_drew (by with_reducible assumption), Lib.hid (Below.drew (Hid.out (by with_reducible assumption)))⟩)
        | (go_split_ands; exact ⟨keep2 hb (by with_reducible assumption), keep2 hb (by with_reducible assumption), Lib.hid (Below.trans (Hid.out (by with_reducible assumption)) (Below.mono hb (Below.size (Hid.out (by with_reducible assumption)))))⟩))
      (first
        | (go_split_ands; go_at_call 61; ((with_reducible refine (samt_any _ _).mono ?_); rintro e w' ⟨rfl, rfl⟩))
        | (go_split_ands; go_at_call 60; ((with_reducible refine (CA.out _ (by with_reducible assumption)).mono ?_); rintro e w' ⟨rfl, hb⟩)))
    all_goals
      go_split_ands
      go_wp2_with fail
      go_region_held3 (fun w' => w'.cell? ⟨w.heap.size, 0, none⟩ = some (.int .i64 f) ∧ w'.cell? ⟨w.heap.size, 1, none⟩ = some (.slice a l c) ∧ Hid (Below w.heap.size w w'))
        (first
          | (go_split_ands; exact ⟨by with_reducible assumption, by with_reducible assumption, by with_reducible assumption⟩)
          | (go_split_ands; exact ⟨by go_simp, by go_simp, Lib.hid (Below.drew (box_b _ _))⟩)
          | (go_split_ands; exact ⟨by go_simp, by go_simp, Lib.hid (box_b _ _)⟩)
          | (go_split_ands; exact ⟨cell_drew (by with_reducible assumption), cell_drew (by with_reducible assumption), Lib.hid (Below.drew (Hid.out (by with_reducible assumption)))⟩)
          | (go_split_ands; exact ⟨keep2 hb (by with_reducible assumption), keep2 hb (by with_reducible assumption), Lib.hid (Below.trans (Hid.out (by with_reducible assumption)) (Below.mono hb (Below.size (Hid.out (by with_reducible assumption)))))⟩))
        (first
          | (go_split_ands; go_at_call 63; ((with_reducible refine (C1.out _ (by with_reducible assumption)).mono ?_); rintro e w' ⟨rfl, hb⟩))
          | (go_split_ands; go_at_call 63; ((with_reducible refine (C3.out _ (by with_reducible assumption)).mono ?_); rintro e w' ⟨rfl, hb⟩))
          | (go_split_ands; go_at_call 64; ((with_reducible refine (C2.out _ (by with_reducible assumption)).mono ?_); rintro e w' ⟨rfl, hb⟩))
          | (go_split_ands; go_at_call 62; ((with_reducible refine (CU.out _).mono ?_); rintro e w' ⟨rfl, rfl⟩)))
      all_goals
        go_split_ands
        go_wp2_with fail
        go_ret2
        exact ⟨ret_ii (by rw [HV.out]; rfl) rfl, Hid.out (by with_reducible assumption)⟩
  · have hne : (E != 0) = true := by simp [hz]
    have HV2 : Hid (termV r f xs x b n = 0) := Lib.hid (by rw [HV.out, if_neg hz])
    clear hz HV HE
    go_enter Try.func22, Try.ntmps22
    go_wp2_with fail
    go_region_held3 (fun w' => w'.cell? ⟨w.heap.size, 0, none⟩ = some (.int .i64 f) ∧ w'.cell? ⟨w.heap.size, 1, none⟩ = some (.slice a l c) ∧ Hid (Below w.heap.size w w'))
      (first
        | (go_split_ands; exact ⟨by with_reducible assumption, by with_reducible assumption, by with_reducible assumption⟩)
        | (go_split_ands; exact ⟨by go_simp, by go_simp, Lib.hid (Below.drew (box_b _ _))⟩)
        | (go_split_ands; exact ⟨by go_simp, by go_simp, Lib.hid (box_b _ _)⟩)
        | (go_split_ands; exact ⟨cell_drew (by with_reducible assumption), cell_drew (by with_reducible assumption), Lib.hid (Below.drew (Hid.out (by with_reducible assumption)))⟩)
        | (go_split_ands; exact ⟨keep2 hb (by with_reducible assumption), keep2 hb (by with_reducible assumption), Lib.hid (Below.trans (Hid.out (by with_reducible assumption)) (Below.mono hb (Below.size (Hid.out (by with_reducible assumption)))))⟩))
      (first
        | (go_split_ands; go_at_call 61; ((with_reducible refine (samt_any _ _).mono ?_); rintro e w' ⟨rfl, rfl⟩))
        | (go_split_ands; go_at_call 60; ((with_reducible refine (CA.out _ (by with_reducible assumption)).mono ?_); rintro e w' ⟨rfl, hb⟩)))
    all_goals
      go_split_ands
      go_wp2_with fail
      go_ret2
      exact ⟨ret_ii HV2.out.symm rfl, Hid.out (by with_reducible assumption)⟩

set_option maxHeartbeats 4000000 in
theorem slate_any (r f : Int) (xs : List Int) (a : Option Addr) (l c : Nat) (x b n : Int) (w : World) (h : Ints w a l xs) :
    Calls Try.prog 24 #[.agg #[.int .i64 f, .slice a l c], .int .i64 r, .int .i64 x, .int .i64 b, .int .i64 n] w (IIPost (lateV r f xs x b n) (anE r f xs x (inB b 1 1000000) n) w) := by
  have H := Lib.hid h
  have CA : Hid (∀ W, Hid (Below w.heap.size w W) → Calls Try.prog 60 #[.agg #[.int .i64 f, .slice a l c], .int .i64 r, .int .i64 x, .bool (inB b 1 1000000), .int .i64 n] W fun e w' => e = .returned (.int .i64 (anE r f xs x (inB b 1 1000000) n)) ∧ Below W.heap.size W w') :=
    Lib.hid (fun W hW => ancode_any r f xs a l c x _ n W (H.out.on hW.out))
  clear h
  obtain ⟨E, hE⟩ : ∃ E, anE r f xs x (inB b 1 1000000) n = E := ⟨_, rfl⟩
  rw [hE] at CA ⊢
  have HE := Lib.hid hE
  have HV : Hid (lateV r f xs x b n = if E = 0 then upV b (cN r xs (x + n - f).toNat) (cD r xs (x - f).toNat) else 0) := Lib.hid (by unfold lateV; rw [hE])
  clear hE
  unfold IIPost
  by_cases hz : E = 0
  · subst hz
    obtain ⟨hc, hb, ⟨n0, n1⟩, xn, hd⟩ := anE_iff.1 HE.out
    obtain ⟨ht, ⟨r0, r1⟩, x0, x1⟩ := coE_iff.1 hc
    obtain ⟨f0, f1⟩ := ht.1
    obtain ⟨b0, b1⟩ := (inB_iff _ _ _).1 hb
    obtain ⟨l0, l1⟩ := ht.late r r0 x n x0 n0
    have C1 : Hid (∀ W, Hid (Below w.heap.size w W) → Calls Try.prog 65 #[.agg #[.int .i64 f, .slice a l c], .int .i64 r, .int .i64 x, .int .i64 b, .int .i64 n] W fun e w' => e = .returned (.int .i64 (upV b (cN r xs (x + n - f).toNat) (cD r xs (x - f).toNat))) ∧ Below W.heap.size W w') :=
      Lib.hid (fun W hW => slate0_any r f xs a l c x b n W (H.out.on hW.out) ht r0 r1 x0 n0 n1 xn hd b0 b1)
    obtain ⟨L, hL⟩ : ∃ y_, upV b (cN r xs (x + n - f).toNat) (cD r xs (x - f).toNat) = y_ := ⟨_, rfl⟩
    rw [hL] at C1 HV
    clear hL
    clear hd hc hb ht HE
    go_enter Try.func24, Try.ntmps24
    go_wp2_with fail
    go_region_held3 (fun w' => w'.cell? ⟨w.heap.size, 0, none⟩ = some (.int .i64 f) ∧ w'.cell? ⟨w.heap.size, 1, none⟩ = some (.slice a l c) ∧ Hid (Below w.heap.size w w'))
      (first
        | (go_split_ands; exact ⟨by with_reducible assumption, by with_reducible assumption, by with_reducible assumption⟩)
        | (go_split_ands; exact ⟨by go_simp, by go_simp, Lib.hid (Below.drew (box_b _ _))⟩)
        | (go_split_ands; exact ⟨by go_simp, by go_simp, Lib.hid (box_b _ _)⟩)
        | (go_split_ands; exact ⟨cell_drew (by with_reducible assumption), cell_drew (by with_reducible assumption), Lib.hid (Below.drew (Hid.out (by with_reducible assumption)))⟩)
        | (go_split_ands; exact ⟨keep2 hb (by with_reducible assumption), keep2 hb (by with_reducible assumption), Lib.hid (Below.trans (Hid.out (by with_reducible assumption)) (Below.mono hb (Below.size (Hid.out (by with_reducible assumption)))))⟩))
      (first
        | (go_split_ands; go_at_call 61; ((with_reducible refine (samt_any _ _).mono ?_); rintro e w' ⟨rfl, rfl⟩))
        | (go_split_ands; go_at_call 60; ((with_reducible refine (CA.out _ (by with_reducible assumption)).mono ?_); rintro e w' ⟨rfl, hb⟩)))
    all_goals
      go_split_ands
      go_wp2_with fail
      with_reducible refine (C1.out _ (by with_reducible assumption)).mono ?_
      rintro e w2 ⟨rfl, hb2⟩
      go_wp2_with fail
      go_ret2
      exact ⟨ret_ii (by rw [HV.out]; rfl) rfl, Below.trans (Hid.out (by with_reducible assumption)) (Below.mono hb2 (Below.size (Hid.out (by with_reducible assumption))))⟩
  · have hne : (E != 0) = true := by simp [hz]
    have HV2 : Hid (lateV r f xs x b n = 0) := Lib.hid (by rw [HV.out, if_neg hz])
    clear hz HV HE
    go_enter Try.func24, Try.ntmps24
    go_wp2_with fail
    go_region_held3 (fun w' => w'.cell? ⟨w.heap.size, 0, none⟩ = some (.int .i64 f) ∧ w'.cell? ⟨w.heap.size, 1, none⟩ = some (.slice a l c) ∧ Hid (Below w.heap.size w w'))
      (first
        | (go_split_ands; exact ⟨by with_reducible assumption, by with_reducible assumption, by with_reducible assumption⟩)
        | (go_split_ands; exact ⟨by go_simp, by go_simp, Lib.hid (Below.drew (box_b _ _))⟩)
        | (go_split_ands; exact ⟨by go_simp, by go_simp, Lib.hid (box_b _ _)⟩)
        | (go_split_ands; exact ⟨cell_drew (by with_reducible assumption), cell_drew (by with_reducible assumption), Lib.hid (Below.drew (Hid.out (by with_reducible assumption)))⟩)
        | (go_split_ands; exact ⟨keep2 hb (by with_reducible assumption), keep2 hb (by with_reducible assumption), Lib.hid (Below.trans (Hid.out (by with_reducible assumption)) (Below.mono hb (Below.size (Hid.out (by with_reducible assumption)))))⟩))
      (first
        | (go_split_ands; go_at_call 61; ((with_reducible refine (samt_any _ _).mono ?_); rintro e w' ⟨rfl, rfl⟩))
        | (go_split_ands; go_at_call 60; ((with_reducible refine (CA.out _ (by with_reducible assumption)).mono ?_); rintro e w' ⟨rfl, hb⟩)))
    all_goals
      go_split_ands
      go_wp2_with fail
      go_ret2
      exact ⟨ret_ii HV2.out.symm rfl, Hid.out (by with_reducible assumption)⟩

set_option maxHeartbeats 4000000 in
theorem ssure_any (r f : Int) (xs : List Int) (a : Option Addr) (l c : Nat) (x b n : Int) (w : World) (h : Ints w a l xs) :
    Calls Try.prog 26 #[.agg #[.int .i64 f, .slice a l c], .int .i64 r, .int .i64 x, .int .i64 b, .int .i64 n] w (IIPost (sureV r f xs x b n) (anE r f xs x (inB b 1 1000000) n) w) := by
  have H := Lib.hid h
  have CA : Hid (∀ W, Hid (Below w.heap.size w W) → Calls Try.prog 60 #[.agg #[.int .i64 f, .slice a l c], .int .i64 r, .int .i64 x, .bool (inB b 1 1000000), .int .i64 n] W fun e w' => e = .returned (.int .i64 (anE r f xs x (inB b 1 1000000) n)) ∧ Below W.heap.size W w') :=
    Lib.hid (fun W hW => ancode_any r f xs a l c x _ n W (H.out.on hW.out))
  clear h
  obtain ⟨E, hE⟩ : ∃ E, anE r f xs x (inB b 1 1000000) n = E := ⟨_, rfl⟩
  rw [hE] at CA ⊢
  have HE := Lib.hid hE
  have HV : Hid (sureV r f xs x b n = if E = 0 then upV b (dsum r 0 n.toNat) 1000000000 + upV b (cN r xs (x + n - f).toNat) (cD r xs (x - f).toNat) else 0) := Lib.hid (by unfold sureV; rw [hE])
  clear hE
  unfold IIPost
  by_cases hz : E = 0
  · subst hz
    obtain ⟨hc, hb, ⟨n0, n1⟩, xn, hd⟩ := anE_iff.1 HE.out
    obtain ⟨ht, ⟨r0, r1⟩, x0, x1⟩ := coE_iff.1 hc
    obtain ⟨f0, f1⟩ := ht.1
    obtain ⟨b0, b1⟩ := (inB_iff _ _ _).1 hb
    obtain ⟨l0, l1⟩ := ht.late r r0 x n x0 n0
    obtain ⟨q1, q2, q3, q4⟩ := ht.quot r r0 (x - f).toNat (cN r xs (x + n - f).toNat) b l0 l1 hd (by omega) b1
    obtain ⟨u0, u1⟩ := upV_bd b (cN r xs (x + n - f).toNat) (cD r xs (x - f).toNat) 152000000 (by omega) l0 q2 q4
    have C1 : Hid (∀ W, Hid (Below w.heap.size w W) → Calls Try.prog 65 #[.agg #[.int .i64 f, .slice a l c], .int .i64 r, .int .i64 x, .int .i64 b, .int .i64 n] W fun e w' => e = .returned (.int .i64 (upV b (cN r xs (x + n - f).toNat) (cD r xs (x - f).toNat))) ∧ Below W.heap.size W w') :=
      Lib.hid (fun W hW => slate0_any r f xs a l c x b n W (H.out.on hW.out) ht r0 r1 x0 n0 n1 xn hd b0 b1)
    obtain ⟨L, hL⟩ : ∃ y_, upV b (cN r xs (x + n - f).toNat) (cD r xs (x - f).toNat) = y_ := ⟨_, rfl⟩
    rw [hL] at C1 HV u0 u1
    clear hL
    clear q1 q2 q3 q4 l0 l1
    obtain ⟨d0, d1, d2⟩ := sure_q r b n r0 n0 n1 (by omega) b1
    obtain ⟨v0, v1⟩ := upV_bd b (dsum r 0 n.toNat) 1000000000 120000000 (by omega) d0 (by omega) d2
    have CS : Hid (∀ W, Calls Try.prog 68 #[.int .i64 r, .int .i64 0, .int .i64 n] W fun e w' => e = .returned (.int .i64 (dsum r 0 n.toNat)) ∧ W = w') := Lib.hid (fun W => by have := sann_any r 0 n.toNat W r0 r1 (by omega); rw [show ((n.toNat : Nat) : Int) = n by omega] at this; exact this)
    have CU := Lib.hid (fun W => sup_any b (dsum r 0 n.toNat) 1000000000 W (by omega) (by omega) d0 (by omega) (by omega) (by omega) (by omega))
    obtain ⟨U, hU⟩ : ∃ y_, upV b (dsum r 0 n.toNat) 1000000000 = y_ := ⟨_, rfl⟩
    rw [hU] at CU HV v0 v1
    clear hU
    obtain ⟨S, hS⟩ : ∃ y_, dsum r 0 n.toNat = y_ := ⟨_, rfl⟩
    rw [hS] at CU CS
    clear hS
    have q5 : IntKind.i64.wrap (U + L) = U + L := IntWalk.i64_in _ (by omega)
    clear hd hc hb ht HE
    go_enter Try.func26, Try.ntmps26
    go_wp2_with fail
    go_region_held3 (fun w' => w'.cell? ⟨w.heap.size, 0, none⟩ = some (.int .i64 f) ∧ w'.cell? ⟨w.heap.size, 1, none⟩ = some (.slice a l c) ∧ Hid (Below w.heap.size w w'))
      (first
        | (go_split_ands; exact ⟨by with_reducible assumption, by with_reducible assumption, by with_reducible assumption⟩)
        | (go_split_ands; exact ⟨by go_simp, by go_simp, Lib.hid (Below.drew (box_b _ _))⟩)
        | (go_split_ands; exact ⟨by go_simp, by go_simp, Lib.hid (box_b _ _)⟩)
        | (go_split_ands; exact ⟨cell_drew (by with_reducible assumption), cell_drew (by with_reducible assumption), Lib.hid (Below.drew (Hid.out (by with_reducible assumption)))⟩)
        | (go_split_ands; exact ⟨keep2 hb (by with_reducible assumption), keep2 hb (by with_reducible assumption), Lib.hid (Below.trans (Hid.out (by with_reducible assumption)) (Below.mono hb (Below.size (Hid.out (by with_reducible assumption)))))⟩))
      (first
        | (go_split_ands; go_at_call 61; ((with_reducible refine (samt_any _ _).mono ?_); rintro e w' ⟨rfl, rfl⟩))
        | (go_split_ands; go_at_call 60; ((with_reducible refine (CA.out _ (by with_reducible assumption)).mono ?_); rintro e w' ⟨rfl, hb⟩)))
    all_goals
      go_split_ands
      go_wp2_with fail
      go_region_held3 (fun w' => w'.cell? ⟨w.heap.size, 0, none⟩ = some (.int .i64 f) ∧ w'.cell? ⟨w.heap.size, 1, none⟩ = some (.slice a l c) ∧ Hid (Below w.heap.size w w'))
        (first
          | (go_split_ands; exact ⟨by with_reducible assumption, by with_reducible assumption, by with_reducible assumption⟩)
          | (go_split_ands; exact ⟨by go_simp, by go_simp, Lib.hid (Below.drew (box_b _ _))⟩)
          | (go_split_ands; exact ⟨by go_simp, by go_simp, Lib.hid (box_b _ _)⟩)
          | (go_split_ands; exact ⟨cell_drew (by with_reducible assumption), cell_drew (by with_reducible assumption), Lib.hid (Below.drew (Hid.out (by with_reducible assumption)))⟩)
          | (go_split_ands; exact ⟨keep2 hb (by with_reducible assumption), keep2 hb (by with_reducible assumption), Lib.hid (Below.trans (Hid.out (by with_reducible assumption)) (Below.mono hb (Below.size (Hid.out (by with_reducible assumption)))))⟩))
        (first
          | (go_split_ands; go_at_call 65; ((with_reducible refine (C1.out _ (by with_reducible assumption)).mono ?_); rintro e w' ⟨rfl, hb⟩))
          | (go_split_ands; go_at_call 68; ((with_reducible refine (CS.out _).mono ?_); rintro e w' ⟨rfl, rfl⟩))
          | (go_split_ands; go_at_call 62; ((with_reducible refine (CU.out _).mono ?_); rintro e w' ⟨rfl, rfl⟩)))
      all_goals
        go_split_ands
        go_wp2_with fail
        go_ret2
        exact ⟨ret_ii (by rw [HV.out]; rfl) rfl, Hid.out (by with_reducible assumption)⟩
  · have hne : (E != 0) = true := by simp [hz]
    have HV2 : Hid (sureV r f xs x b n = 0) := Lib.hid (by rw [HV.out, if_neg hz])
    clear hz HV HE
    go_enter Try.func26, Try.ntmps26
    go_wp2_with fail
    go_region_held3 (fun w' => w'.cell? ⟨w.heap.size, 0, none⟩ = some (.int .i64 f) ∧ w'.cell? ⟨w.heap.size, 1, none⟩ = some (.slice a l c) ∧ Hid (Below w.heap.size w w'))
      (first
        | (go_split_ands; exact ⟨by with_reducible assumption, by with_reducible assumption, by with_reducible assumption⟩)
        | (go_split_ands; exact ⟨by go_simp, by go_simp, Lib.hid (Below.drew (box_b _ _))⟩)
        | (go_split_ands; exact ⟨by go_simp, by go_simp, Lib.hid (box_b _ _)⟩)
        | (go_split_ands; exact ⟨cell_drew (by with_reducible assumption), cell_drew (by with_reducible assumption), Lib.hid (Below.drew (Hid.out (by with_reducible assumption)))⟩)
        | (go_split_ands; exact ⟨keep2 hb (by with_reducible assumption), keep2 hb (by with_reducible assumption), Lib.hid (Below.trans (Hid.out (by with_reducible assumption)) (Below.mono hb (Below.size (Hid.out (by with_reducible assumption)))))⟩))
      (first
        | (go_split_ands; go_at_call 61; ((with_reducible refine (samt_any _ _).mono ?_); rintro e w' ⟨rfl, rfl⟩))
        | (go_split_ands; go_at_call 60; ((with_reducible refine (CA.out _ (by with_reducible assumption)).mono ?_); rintro e w' ⟨rfl, hb⟩)))
    all_goals
      go_split_ands
      go_wp2_with fail
      go_ret2
      exact ⟨ret_ii HV2.out.symm rfl, Hid.out (by with_reducible assumption)⟩

set_option maxHeartbeats 4000000 in
theorem samtf_any (r f : Int) (xs : List Int) (a : Option Addr) (l c : Nat) (x b : Int) (w : World) (h : Ints w a l xs) :
    Calls Try.prog 30 #[.agg #[.int .i64 f, .slice a l c], .int .i64 r, .int .i64 x, .int .i64 b] w (IIPost (amtV r f xs x b) (anE r f xs x (inB b 1 1000000000) 0) w) := by
  have H := Lib.hid h
  have CA : Hid (∀ W, Hid (Below w.heap.size w W) → Calls Try.prog 60 #[.agg #[.int .i64 f, .slice a l c], .int .i64 r, .int .i64 x, .bool (inB b 1 1000000000), .int .i64 0] W fun e w' => e = .returned (.int .i64 (anE r f xs x (inB b 1 1000000000) 0)) ∧ Below W.heap.size W w') :=
    Lib.hid (fun W hW => ancode_any r f xs a l c x _ 0 W (H.out.on hW.out))
  clear h
  obtain ⟨E, hE⟩ : ∃ E, anE r f xs x (inB b 1 1000000000) 0 = E := ⟨_, rfl⟩
  rw [hE] at CA ⊢
  have HE := Lib.hid hE
  have HV : Hid (amtV r f xs x b = if E = 0 then b * cD r xs (x - f).toNat / cN r xs (x - f).toNat else 0) := Lib.hid (by unfold amtV; rw [hE])
  clear hE
  unfold IIPost
  by_cases hz : E = 0
  · subst hz
    obtain ⟨hc, hb, ⟨n0, n1⟩, xn, hd⟩ := anE_iff.1 HE.out
    obtain ⟨ht, ⟨r0, r1⟩, x0, x1⟩ := coE_iff.1 hc
    obtain ⟨f0, f1⟩ := ht.1
    obtain ⟨b0, b1⟩ := (inB_iff _ _ _).1 hb
    have C1 : Hid (∀ W, Hid (Below w.heap.size w W) → Calls Try.prog 63 #[.agg #[.int .i64 f, .slice a l c], .int .i64 r, .int .i64 x] W fun e w' => e = .returned (.int .i64 (cN r xs (x - f).toNat)) ∧ Below W.heap.size W w') :=
      Lib.hid (fun W hW => sN_any r f xs a l c x W (H.out.on hW.out) ht r0 r1 x0 (by omega))
    have C2 : Hid (∀ W, Hid (Below w.heap.size w W) → Calls Try.prog 64 #[.agg #[.int .i64 f, .slice a l c], .int .i64 r, .int .i64 x] W fun e w' => e = .returned (.int .i64 (cD r xs (x - f).toNat)) ∧ Below W.heap.size W w') :=
      Lib.hid (fun W hW => sD_any r f xs a l c x W (H.out.on hW.out) ht r0 r1 x0 (by omega))
    obtain ⟨e0, e1⟩ := ht.cD_bd r r0 (x - f).toNat
    have e2 := ht.cN_bd r r0 (x - f).toNat
    have e3 := ht.cN_ge r r0 (x - f).toNat
    obtain ⟨N, hN⟩ : ∃ y_, cN r xs (x - f).toNat = y_ := ⟨_, rfl⟩
    rw [hN] at C1 HV e2 e3
    clear hN
    obtain ⟨D, hD⟩ : ∃ y_, cD r xs (x - f).toNat = y_ := ⟨_, rfl⟩
    rw [hD] at C2 HV e0 e1 e3 hd
    clear hD
    have hq : b * D / N ≤ 1000000000 := by
      have h1 : b * D ≤ b * N := Int.mul_le_mul_of_nonneg_left e3 (by omega)
      have h2 : b * D / N ≤ b * N / N := Int.ediv_le_ediv (by omega) h1
      rw [Int.mul_ediv_cancel _ (by omega)] at h2
      omega
    have CU := Lib.hid (fun W => sdiv_any b D N W (by omega) (by omega) (by omega) (by omega) (by omega) (by omega))
    obtain ⟨g1, g2⟩ := md_small b D N (by omega)
    rw [g1, g2] at CU
    clear g1 g2
    obtain ⟨U, hU⟩ : ∃ y_, b * D / N = y_ := ⟨_, rfl⟩
    rw [hU] at CU HV hq
    clear hU
    obtain ⟨V, hV⟩ : ∃ y_, b * D % N = y_ := ⟨_, rfl⟩
    rw [hV] at CU
    clear hV
    clear hd hc hb ht HE
    go_enter Try.func30, Try.ntmps30
    go_wp2_with fail
    go_region_held3 (fun w' => w'.cell? ⟨w.heap.size, 0, none⟩ = some (.int .i64 f) ∧ w'.cell? ⟨w.heap.size, 1, none⟩ = some (.slice a l c) ∧ Hid (Below w.heap.size w w'))
      (first
        | (go_split_ands; exact ⟨by with_reducible assumption, by with_reducible assumption, by with_reducible assumption⟩)
        | (go_split_ands; exact ⟨by go_simp, by go_simp, Lib.hid (Below.drew (box_b _ _))⟩)
        | (go_split_ands; exact ⟨by go_simp, by go_simp, Lib.hid (box_b _ _)⟩)
        | (go_split_ands; exact ⟨cell_drew (by with_reducible assumption), cell_drew (by with_reducible assumption), Lib.hid (Below.drew (Hid.out (by with_reducible assumption)))⟩)
        | (go_split_ands; exact ⟨keep2 hb (by with_reducible assumption), keep2 hb (by with_reducible assumption), Lib.hid (Below.trans (Hid.out (by with_reducible assumption)) (Below.mono hb (Below.size (Hid.out (by with_reducible assumption)))))⟩))
      (first
        | (go_split_ands; go_at_call 74; ((with_reducible refine (in_any _ _ _ _).mono ?_); rintro e w' ⟨rfl, rfl⟩))
        | (go_split_ands; go_at_call 60; ((with_reducible refine (CA.out _ (by with_reducible assumption)).mono ?_); rintro e w' ⟨rfl, hb⟩)))
    all_goals
      go_split_ands
      go_wp2_with fail
      go_region_held3 (fun w' => w'.cell? ⟨w.heap.size, 0, none⟩ = some (.int .i64 f) ∧ w'.cell? ⟨w.heap.size, 1, none⟩ = some (.slice a l c) ∧ Hid (Below w.heap.size w w'))
        (first
          | (go_split_ands; exact ⟨by with_reducible assumption, by with_reducible assumption, by with_reducible assumption⟩)
          | (go_split_ands; exact ⟨by go_simp, by go_simp, Lib.hid (Below.drew (box_b _ _))⟩)
          | (go_split_ands; exact ⟨by go_simp, by go_simp, Lib.hid (box_b _ _)⟩)
          | (go_split_ands; exact ⟨cell_drew (by with_reducible assumption), cell_drew (by with_reducible assumption), Lib.hid (Below.drew (Hid.out (by with_reducible assumption)))⟩)
          | (go_split_ands; exact ⟨keep2 hb (by with_reducible assumption), keep2 hb (by with_reducible assumption), Lib.hid (Below.trans (Hid.out (by with_reducible assumption)) (Below.mono hb (Below.size (Hid.out (by with_reducible assumption)))))⟩))
        (first
          | (go_split_ands; go_at_call 63; ((with_reducible refine (C1.out _ (by with_reducible assumption)).mono ?_); rintro e w' ⟨rfl, hb⟩))
          | (go_split_ands; go_at_call 64; ((with_reducible refine (C2.out _ (by with_reducible assumption)).mono ?_); rintro e w' ⟨rfl, hb⟩))
          | (go_split_ands; go_at_call 75; ((with_reducible refine (CU.out _).mono ?_); rintro e w' ⟨rfl, rfl⟩)))
      all_goals
        go_split_ands
        go_wp2_with fail
        go_ret2
        exact ⟨ret_ii (by rw [HV.out]; rfl) rfl, Hid.out (by with_reducible assumption)⟩
  · have hne : (E != 0) = true := by simp [hz]
    have HV2 : Hid (amtV r f xs x b = 0) := Lib.hid (by rw [HV.out, if_neg hz])
    clear hz HV HE
    go_enter Try.func30, Try.ntmps30
    go_wp2_with fail
    go_region_held3 (fun w' => w'.cell? ⟨w.heap.size, 0, none⟩ = some (.int .i64 f) ∧ w'.cell? ⟨w.heap.size, 1, none⟩ = some (.slice a l c) ∧ Hid (Below w.heap.size w w'))
      (first
        | (go_split_ands; exact ⟨by with_reducible assumption, by with_reducible assumption, by with_reducible assumption⟩)
        | (go_split_ands; exact ⟨by go_simp, by go_simp, Lib.hid (Below.drew (box_b _ _))⟩)
        | (go_split_ands; exact ⟨by go_simp, by go_simp, Lib.hid (box_b _ _)⟩)
        | (go_split_ands; exact ⟨cell_drew (by with_reducible assumption), cell_drew (by with_reducible assumption), Lib.hid (Below.drew (Hid.out (by with_reducible assumption)))⟩)
        | (go_split_ands; exact ⟨keep2 hb (by with_reducible assumption), keep2 hb (by with_reducible assumption), Lib.hid (Below.trans (Hid.out (by with_reducible assumption)) (Below.mono hb (Below.size (Hid.out (by with_reducible assumption)))))⟩))
      (first
        | (go_split_ands; go_at_call 74; ((with_reducible refine (in_any _ _ _ _).mono ?_); rintro e w' ⟨rfl, rfl⟩))
        | (go_split_ands; go_at_call 60; ((with_reducible refine (CA.out _ (by with_reducible assumption)).mono ?_); rintro e w' ⟨rfl, hb⟩)))
    all_goals
      go_split_ands
      go_wp2_with fail
      go_ret2
      exact ⟨ret_ii HV2.out.symm rfl, Hid.out (by with_reducible assumption)⟩

end Go.Proofs.Ytmcagpcldjopjaa
