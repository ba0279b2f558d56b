/- Merged: TabV, Damage, DrLA. -/
import Derived.Test.YtonkaoacohocjaaDoorLt2
import Derived.Test.YtonkaoacohocjaaDoorLt7
import Derived.Test.YtonkaoacohocjaaDoorLt11
import Derived.Deep.RegionWith

/- The model's draw of what SurvivalOf takes. -/
namespace Go.Proofs.YtonkaoacohocjaaDoor
open Go.ChangeShapes Go.WideShapes Go.ChangeAt Go.RowKit
set_option linter.unusedVariables false
set_option maxRecDepth 100000

/-- in the midst of it: X the result's cells, B the source, T the table's box -/
structure SvS (B X T : Nat) (a : Option Addr) (l c : Nat) (z : List Int) (F : Int) (ta : Option Addr) (tn tc : Nat) (xs : List Int) (w w' : World) : Prop where
  ready : Ready B a l c z w'
  low : Below X w w'
  c0 : w'.cell? ⟨T, 0, none⟩ = some (.int .i64 F)
  c1 : w'.cell? ⟨T, 1, none⟩ = some (.slice ta tn tc)
  r0 : ∃ v, w'.cell? ⟨X, 0, none⟩ = some v
  r1 : ∃ v, w'.cell? ⟨X, 1, none⟩ = some v
  h0 : w'.frozen? ⟨X, 0, none⟩ = false
  h1 : w'.frozen? ⟨X, 1, none⟩ = false
  ints : Ints w' ta tn xs
  far : ∀ x, ta = some x → B < x.block
  eX : w.heap.size = X
  oB : X < B
  oT : B < T
  ap : Apart a z X

theorem SvS.call {B X T : Nat} {a : Option Addr} {l c : Nat} {z : List Int} {F : Int} {ta : Option Addr} {tn tc : Nat} {xs : List Int} {w w1 w2 : World} (h : SvS B X T a l c z F ta tn tc xs w w1) (ho : But B w1 w2) (hs : Ready B a l c z w2) : SvS B X T a l c z F ta tn tc xs w w2 := by
  have oB := h.oB
  have oT := h.oT
  obtain ⟨u0, g0⟩ := h.r0
  obtain ⟨u1, g1⟩ := h.r1
  have hX : X < w1.heap.size := block_lt g0
  exact ⟨hs, h.low.trans (ho.below (by omega) (by omega)), (ho.cell (p := ⟨T, 0, none⟩) (block_lt h.c0) (by show T ≠ B; omega)).trans h.c0, (ho.cell (p := ⟨T, 1, none⟩) (block_lt h.c1) (by show T ≠ B; omega)).trans h.c1,
    ⟨u0, (ho.cell (p := ⟨X, 0, none⟩) hX (by show X ≠ B; omega)).trans g0⟩, ⟨u1, (ho.cell (p := ⟨X, 1, none⟩) hX (by show X ≠ B; omega)).trans g1⟩, (ho.frozen (p := ⟨X, 0, none⟩) hX (by show X ≠ B; omega)).trans h.h0, (ho.frozen (p := ⟨X, 1, none⟩) hX (by show X ≠ B; omega)).trans h.h1,
    h.ints.butT ho (fun x hx => by have := h.far x hx; omega), h.far, h.eX, oB, oT, h.ap⟩

theorem SvS.alloc {B X T : Nat} {a : Option Addr} {l c : Nat} {z : List Int} {F : Int} {ta : Option Addr} {tn tc : Nat} {xs : List Int} {w w1 : World} (h : SvS B X T a l c z F ta tn tc xs w w1) (o : Obj) : SvS B X T a l c z F ta tn tc xs w (w1.alloc o) := h.call (But.alloc _) (h.ready.alloc _)

theorem SvS.drew {B X T : Nat} {a : Option Addr} {l c : Nat} {z : List Int} {F : Int} {ta : Option Addr} {tn tc : Nat} {xs : List Int} {w w1 : World} (h : SvS B X T a l c z F ta tn tc xs w w1) : SvS B X T a l c z F ta tn tc xs w w1.drew := h.call (But.refl _ _).drew h.ready.drew

/-- the result is written -/
theorem SvS.put {B X T : Nat} {a : Option Addr} {l c : Nat} {z : List Int} {F : Int} {ta : Option Addr} {tn tc : Nat} {xs : List Int} {w w1 : World} (h : SvS B X T a l c z F ta tn tc xs w w1) (u v : Value) : SvS B X T a l c z F ta tn tc xs w ((w1.setCell ⟨X, 0, none⟩ u).setCell ⟨X, 1, none⟩ v) ∧
    ((w1.setCell ⟨X, 0, none⟩ u).setCell ⟨X, 1, none⟩ v).cell? ⟨X, 0, none⟩ = some u ∧ ((w1.setCell ⟨X, 0, none⟩ u).setCell ⟨X, 1, none⟩ v).cell? ⟨X, 1, none⟩ = some v := by
  have oB := h.oB
  have oT := h.oT
  obtain ⟨u0, g0⟩ := h.r0
  obtain ⟨u1, g1⟩ := h.r1
  have n1 : (⟨X, 0, none⟩ : Addr) ≠ ⟨X, 1, none⟩ := fun e => by injection e; omega
  have e0 : ((w1.setCell ⟨X, 0, none⟩ u).setCell ⟨X, 1, none⟩ v).cell? ⟨X, 0, none⟩ = some u := by rw [far_set n1]; exact World.cell?_setCell_same' _ _ _ (by rw [g0]; rfl)
  have e1 : ((w1.setCell ⟨X, 0, none⟩ u).setCell ⟨X, 1, none⟩ v).cell? ⟨X, 1, none⟩ = some v := World.cell?_setCell_same' _ _ _ (by rw [far_set n1.symm, g1]; rfl)
  have ho : Only X w1 ((w1.setCell ⟨X, 0, none⟩ u).setCell ⟨X, 1, none⟩ v) := ((Only.refl _ _).setCell (p := ⟨X, 0, none⟩) rfl _).setCell (p := ⟨X, 1, none⟩) rfl _
  refine ⟨⟨?_, h.low.trans (ho.below (Nat.le_refl _)), (ho.cell (p := ⟨T, 0, none⟩) (by show T ≠ X; omega)).trans h.c0, (ho.cell (p := ⟨T, 1, none⟩) (by show T ≠ X; omega)).trans h.c1, ⟨_, e0⟩, ⟨_, e1⟩, ?_, ?_, h.ints.onlyT ho (fun x hx => by have := h.far x hx; omega), h.far, h.eX, oB, oT, h.ap⟩, e0, e1⟩
  · obtain ⟨⟨t, x, S⟩, r, p⟩ := h.ready
    have hne : B ≠ X := by omega
    exact ⟨⟨t, x, by rw [ho.size]; exact S.here, (ho.cell (p := ⟨B, 0, none⟩) hne).trans S.code, (ho.cell (p := ⟨B, 1, none⟩) hne).trans S.att, (ho.cell (p := ⟨B, 2, none⟩) hne).trans S.seed,
      (ho.frozen (p := ⟨B, 0, none⟩) hne).trans S.free0, (ho.frozen (p := ⟨B, 1, none⟩) hne).trans S.free1, (ho.frozen (p := ⟨B, 2, none⟩) hne).trans S.free2, S.t0, S.tl, S.x0, S.xl⟩, r.below (ho.below (Nat.le_refl X)) h.ap, p⟩
  · rw [World.frozen?_setCell, World.frozen?_setCell]; exact h.h0
  · rw [World.frozen?_setCell, World.frozen?_setCell]; exact h.h1

theorem SvS.three {B X T : Nat} {a : Option Addr} {l c : Nat} {z : List Int} {F : Int} {ta : Option Addr} {tn tc : Nat} {xs : List Int} {w w1 : World} (h : Hid (SvS B X T a l c z F ta tn tc xs w w1)) : w1.cell? ⟨T, 0, none⟩ = some (.int .i64 F) ∧ w1.cell? ⟨T, 1, none⟩ = some (.slice ta tn tc) ∧ Hid (SvS B X T a l c z F ta tn tc xs w w1) := ⟨h.out.c0, h.out.c1, h⟩

def SvPost (w : World) (e : Ending) (w' : World) : Prop :=
  ∃ F ta tn tc xs x y, e = .returned (.tuple #[.agg #[.int .i64 F, .slice ta tn tc], .int .i64 x, .int .i64 y]) ∧ Ints w' ta tn xs ∧ tn ≤ tc ∧ tn ≤ 4096 ∧ Below w.heap.size w w'

theorem SvS.fin {B X T : Nat} {a : Option Addr} {l c : Nat} {z : List Int} {F : Int} {ta : Option Addr} {tn tc : Nat} {xs : List Int} {w w1 : World} {x y : Int} (h : Hid (SvS B X T a l c z F ta tn tc xs w w1)) (hn : tn ≤ tc) (hm : tn ≤ 4096) :
    SvPost w (.returned (.tuple #[.agg #[.int .i64 F, .slice ta tn tc], .int .i64 x, .int .i64 y])) w1 :=
  ⟨F, ta, tn, tc, xs, x, y, rfl, h.out.ints, hn, hm, by rw [h.out.eX]; exact h.out.low⟩

end Go.Proofs.YtonkaoacohocjaaDoor

/- The model's draws of texts: some text, not too long. -/
namespace Go.Proofs.YtonkaoacohocjaaDoor
open Go.ChangeShapes Go.WideShapes Go.ChangeAt Go.RowKit
set_option linter.unusedVariables false

def StrPost (B : Nat) (a : Option Addr) (l c : Nat) (z : List Int) (n : Nat) (w : World) (e : Ending) (w' : World) : Prop :=
  ∃ s : ByteArray, e = .returned (.string s) ∧ s.size ≤ n ∧ But B w w' ∧ Ready B a l c z w'

theorem ext_size (t : ByteArray) (i j : Nat) : (t.extract i j).size ≤ t.size := by
  rw [ByteArray.size_extract]; omega

theorem ext_two (t : ByteArray) (k : Nat) (h : k < t.size) : (t.extract 0 k).size + (t.extract (k + 1) t.size).size ≤ t.size + 1 := by
  rw [ByteArray.size_extract, ByteArray.size_extract]; omega

theorem ext_all (t : ByteArray) (k : Nat) (h : k ≤ t.size) : (t.extract 0 k).size + (t.extract k t.size).size = t.size := by
  rw [ByteArray.size_extract, ByteArray.size_extract]; omega

abbrev eight : Array Value := #[.string ⟨#[48]⟩, .string ⟨#[49]⟩, .string ⟨#[32]⟩, .string ⟨#[45]⟩, .string ⟨#[44]⟩, .string ⟨#[46]⟩, .string ⟨#[10]⟩, .string ⟨#[97]⟩]

theorem str8 (j : Nat) (h : j < 8) : ∃ x : ByteArray, eight[j]? = some (.string x) ∧ x.size = 1 := by
  rcases (show j = 0 ∨ j = 1 ∨ j = 2 ∨ j = 3 ∨ j = 4 ∨ j = 5 ∨ j = 6 ∨ j = 7 by omega) with rfl | rfl | rfl | rfl | rfl | rfl | rfl | rfl
  all_goals exact ⟨_, rfl, rfl⟩

theorem new8 {j : Nat} {x : ByteArray} {T : TypeId} (h : eight[j]? = some (.string x)) (wx : World) : (wx.alloc (.cells eight T)).cell? ⟨wx.heap.size, j, none⟩ = some (.string x) := by
  rw [World.cell?_alloc_new]; exact h

set_option maxHeartbeats 1000000 in
theorem damage_any (B : Nat) (a : Option Addr) (l c : Nat) (z : List Int) (t : ByteArray) (w : World) (h : Ready B a l c z w) (ht : t.size ≤ 1000000) :
    Calls Tryd.prog 34 #[.pointer (some ⟨B, 0, none⟩), .string t] w (StrPost B a l c z (t.size + 1) w) := by
  have HS := Lib.hid h
  clear h
  go_enter Tryd.func34, Tryd.ntmps34
  go_wp2_with fail
  refine (next_r _ _ _ _ _ _ _ HS.out).mono ?_
  rintro e w1 ⟨k, rfl, hd, ho, hs⟩
  have hk := drawn_bd hd (by omega)
  have HO := Lib.hid ho
  have HS := Lib.hid hs
  clear hd ho hs
  obtain ⟨k, rfl⟩ := Int.eq_ofNat_of_zero_le hk.1
  have hk2 : k ≤ t.size := by omega
  clear hk
  go_wp2_with fail
  refine (next_r _ _ _ _ _ _ _ HS.out).mono ?_
  rintro e w2 ⟨r, rfl, hd, ho, hs⟩
  have HO := Lib.hid (HO.out.trans ho)
  have HS := Lib.hid hs
  clear hd ho hs
  by_cases h0 : r = 0
  · subst h0
    go_wp2_with fail
    go_ret
    exact ⟨_, rfl, by have := ext_size t 0 k; omega, HO.out, HS.out⟩
  · by_cases h1 : r = 1
    · subst h1
      have e1 := ext_size t 0 k
      have e2 := ext_size t k t.size
      have q3 := ext_all t k hk2
      have hB := HS.out.here
      go_wp2_with fail
      go_region_with (go_at_call 33; first | ((with_reducible refine (next_r _ _ _ _ _ _ w2.drew HS.out.drew).mono ?_); go_must (rintro e w3 ⟨q, rfl, hd, ho, hs⟩; have hq := drawn_bd hd (by omega); obtain ⟨j, rfl⟩ := Int.eq_ofNat_of_zero_le hq.1; have hj : j < 8 := (by omega); obtain ⟨x, hx, hx1⟩ := str8 j hj; have hc := new8 (T := 9) hx; have HO := Lib.hid (HO.out.drew.trans ho); have HS := Lib.hid hs; clear hd ho hs hq hx)) | ((with_reducible refine (next_r _ _ _ _ _ _ ((w2.alloc (.cells eight 9)).drew) (HS.out.alloc _).drew).mono ?_); rintro e w3 ⟨q, rfl, hd, ho, hs⟩; have hq := drawn_bd hd (by omega); obtain ⟨j, rfl⟩ := Int.eq_ofNat_of_zero_le hq.1; have hj : j < 8 := (by omega); obtain ⟨x, hx, hx1⟩ := str8 j hj; have hc := (ho.cell (p := ⟨w2.heap.size, j, none⟩) (by simp) (by simp; omega)).trans (new8 hx w2); have HO := Lib.hid ((HO.out.trans (But.alloc _)).drew.trans ho); have HS := Lib.hid hs; clear hd ho hs hq hx))
      all_goals
        go_wp2_with fail
        go_ret
        refine ⟨_, rfl, by rw [ByteArray.size_append, ByteArray.size_append]; omega, ?_, ?_⟩
        · first | exact HO.out | exact HO.out.drew | exact HO.out.trans (But.alloc _) | exact (HO.out.trans (But.alloc _)).drew
        · first | exact HS.out | exact HS.out.drew | exact HS.out.alloc _ | exact (HS.out.alloc _).drew
    · by_cases h2 : r = 2
      · subst h2
        have e1 := ext_size t 0 k
        have e2 := ext_size t (k + 1) t.size
        have q1 : IntKind.i64.wrap ((k : Int) + 1) = (k : Int) + 1 := IntWalk.i64_in _ (by omega)
        have q2 : ((k : Int) + 1).toNat = k + 1 := by omega
        by_cases hk3 : k < t.size
        · have q3 : (t.extract 0 k).size + (t.extract (k + 1) t.size).size ≤ t.size + 1 := ext_two t k hk3
          go_wp2_with fail
          go_quiet (fail)
          go_wp2_with fail
          go_ret
          exact ⟨_, rfl, by rw [ByteArray.size_append]; exact q3, HO.out.drewN _, HS.out.drewN _⟩
        · go_wp2_with fail
          go_ret
          exact ⟨t, rfl, by omega, HO.out, HS.out⟩
      · have e0 : (r == 0) = false := by simpa using h0
        have e1 : (r == 1) = false := by simpa using h1
        have e2 : (r == 2) = false := by simpa using h2
        clear h0 h1 h2
        go_wp2_with fail
        go_ret
        exact ⟨t, rfl, by omega, HO.out, HS.out⟩

end Go.Proofs.YtonkaoacohocjaaDoor

/- The model's draws of what LivesAt and DeathsAt take, and of a life table's text. -/
namespace Go.Proofs.YtonkaoacohocjaaDoor
open Go.ChangeShapes Go.WideShapes Go.ChangeAt Go.RowKit
set_option linter.unusedVariables false

def LaPost (w : World) (e : Ending) (w' : World) : Prop :=
  ∃ F ta tn tc xs x, e = .returned (.tuple #[.agg #[.int .i64 F, .slice ta tn tc], .int .i64 x]) ∧ Ints w' ta tn xs ∧ tn ≤ tc ∧ tn ≤ 4096 ∧ (∀ y, ta = some y → w.heap.size ≤ y.block) ∧ Below w.heap.size w w'

theorem SvS.finLA {B X T : Nat} {a : Option Addr} {l c : Nat} {z : List Int} {F : Int} {ta : Option Addr} {tn tc : Nat} {xs : List Int} {w w1 : World} {x : Int} (h : Hid (SvS B X T a l c z F ta tn tc xs w w1)) (hn : tn ≤ tc) (hm : tn ≤ 4096) :
    LaPost w (.returned (.tuple #[.agg #[.int .i64 F, .slice ta tn tc], .int .i64 x])) w1 :=
  ⟨F, ta, tn, tc, xs, x, rfl, h.out.ints, hn, hm, fun y hy => by have := h.out.far y hy; have := h.out.oB; have := h.out.eX; omega, by rw [h.out.eX]; exact h.out.low⟩

set_option maxRecDepth 100000 in
set_option maxHeartbeats 1000000 in
theorem drawLA (a : Option Addr) (l c : Nat) (z : List Int) (w : World) (hr : IsRow .u8 w a l c z) : Calls Tryd.prog 24 #[.slice a l c] w (LaPost w) := by
  have HRA := Lib.hid hr.apart
  have HR := Lib.hid hr
  clear hr
  have hq := box_b w (.cells #[.int .i64 0, .slice none 0 0] 26)
  have HR1 : Hid (IsRow .u8 (w.alloc (.cells #[.int .i64 0, .slice none 0 0] 26)) a l c z) := Lib.hid (HR.out.below hq HRA.out)
  go_enter Tryd.func24, Tryd.ntmps24
  go_wp2_with fail
  refine (from_any _ _ _ z _ HR1.out).mono ?_
  rintro e w1 ⟨rfl, hs, hz, hb⟩
  have HS := Lib.hid (ready_of HR1.out hs hb)
  have far0 : w1.heap.size = w.heap.size + 1 + 1 := by rw [hz, World.size_alloc]
  have r0 : w1.cell? ⟨w.heap.size, 0, none⟩ = some (.int .i64 0) := (hb.cell (p := ⟨w.heap.size, 0, none⟩) (by simp)).trans (by go_simp)
  have r1 : w1.cell? ⟨w.heap.size, 1, none⟩ = some (.slice none 0 0) := (hb.cell (p := ⟨w.heap.size, 1, none⟩) (by simp)).trans (by go_simp)
  have h0 : w1.frozen? ⟨w.heap.size, 0, none⟩ = false := (hb.frozen (p := ⟨w.heap.size, 0, none⟩) (by simp)).trans (by go_simp)
  have h1 : w1.frozen? ⟨w.heap.size, 1, none⟩ = false := (hb.frozen (p := ⟨w.heap.size, 1, none⟩) (by simp)).trans (by go_simp)
  have HB := Lib.hid (hq.trans (hb.mono (by simp)))
  rw [World.size_alloc] at HS ⊢
  obtain ⟨X, hX⟩ : ∃ X, w.heap.size = X := ⟨_, rfl⟩
  rw [hX] at r0 r1 h0 h1 HS HB far0 HRA ⊢
  have HX := Lib.hid hX
  obtain ⟨B, hBX⟩ : ∃ B, X + 1 = B := ⟨_, rfl⟩
  have oB : X < B := by omega
  rw [hBX] at HS far0 ⊢
  clear hb hz hs hX hBX hq
  go_wp2_with fail
  refine (dtable B a l c z w1 HS.out).mono ?_
  rintro e w2 ⟨F, ta, tn, tc, xs, rfl, hI, htc, htn, f0, f1, far, ho, hs⟩
  have hX1 : X < w1.heap.size := block_lt r0
  have r0 := (ho.cell (p := ⟨X, 0, none⟩) hX1 (by show X ≠ B; omega)).trans r0
  have r1 := (ho.cell (p := ⟨X, 1, none⟩) hX1 (by show X ≠ B; omega)).trans r1
  have h0 := (ho.frozen (p := ⟨X, 0, none⟩) hX1 (by show X ≠ B; omega)).trans h0
  have h1 := (ho.frozen (p := ⟨X, 1, none⟩) hX1 (by show X ≠ B; omega)).trans h1
  have hX2 : X < w2.heap.size := block_lt r0
  have hsz := ho.size
  have hA0 : Hid (SvS B X w2.heap.size a l c z F ta tn tc xs w (w2.alloc (.cells #[.int .i64 F, .slice ta tn tc] 26))) := Lib.hid (by
    have hq := box_b w2 (.cells #[.int .i64 F, .slice ta tn tc] 26)
    exact ⟨hs.alloc _, (HB.out.trans (ho.below (by omega) (by omega))).trans (hq.mono (by omega)), by go_simp, by go_simp, ⟨_, keep2 hq r0⟩, ⟨_, keep2 hq r1⟩, (hq.frozen (p := ⟨X, 0, none⟩) hX2).trans h0, (hq.frozen (p := ⟨X, 1, none⟩) hX2).trans h1, hI.on hq, fun x hx => by have := far x hx; omega, HX.out, oB, by omega, HRA.out⟩)
  clear r0 r1 h0 h1 hX1 hX2 hsz hs ho far hI HS HB
  obtain ⟨T, hT⟩ : ∃ T, w2.heap.size = T := ⟨_, rfl⟩
  rw [hT] at hA0
  (try rw [hT])
  have HA := hA0
  have k0 := HA.out.c0
  have k1 := HA.out.c1
  have hv : ∃ v, w2.alloc (.cells #[.int .i64 F, .slice ta tn tc] 26) = v := ⟨_, rfl⟩
  obtain ⟨v2, hv2⟩ := hv
  rw [hv2] at HA k0 k1
  have A1 : Hid (∀ W, Hid (SvS B X T a l c z F ta tn tc xs w W) → Calls Tryd.prog 47 #[.pointer (some ⟨B, 0, none⟩), .agg #[.int .i64 F, .slice ta tn tc]] W fun e w' => ∃ v, e = .returned (.int .i64 v) ∧ Hid (SvS B X T a l c z F ta tn tc xs w w')) :=
    Lib.hid (fun W hW => (dage B a l c z F ta tn tc W hW.out.ready f0 f1 htn).mono fun e w' ⟨v, he, ho, hs⟩ => ⟨v, he, Lib.hid (hW.out.call ho hs)⟩)
  clear hA0
  go_wp2_with fail
  (try rw [hv2])
  (try rw [hT])
  clear hv2 hT
  go_region_held3 (fun w' => w'.cell? ⟨T, 0, none⟩ = some (.int .i64 F) ∧ w'.cell? ⟨T, 1, none⟩ = some (.slice ta tn tc) ∧ Hid (SvS B X T a l c z F ta tn tc xs w w'))
    (first
      | (go_split_ands; exact SvS.three (by assumption))
      | (go_split_ands; exact SvS.three (Lib.hid (SvS.drew (Hid.out (by assumption)))))
      | (go_split_ands; exact SvS.three (Lib.hid (SvS.alloc (Hid.out (by assumption)) _)))
      | (go_split_ands; exact SvS.three (Lib.hid (SvS.put (Hid.out (by assumption)) _ _).1)))
    (first | (go_split_ands; go_at_call 47; ((with_reducible refine (A1.out _ (by assumption)).mono ?_); rintro e w' ⟨va, rfl, hA8⟩; obtain ⟨u0, k2⟩ := hA8.out.r0; obtain ⟨u1, k3⟩ := hA8.out.r1; have k4 := hA8.out.h0; have k5 := hA8.out.h1)))
  all_goals
    go_split_ands
    have hP := hA8.out.put (.int .i64 F) (.slice ta tn tc)
    have e0 := hP.2.1
    have e1 := hP.2.2
    have HF := Lib.hid hP.1
    clear hP
    go_wp2_with fail
    exact bodyPost_ret (v := .tuple #[.agg #[.int .i64 F, .slice ta tn tc], .int .i64 va]) (by simp [results, Tryd.results24, go_sem, e0, e1]) rfl (SvS.finLA HF htc htn)

theorem put2 (w1 : World) (X : Nat) (u v : Value) (g0 : ∃ v, w1.cell? ⟨X, 0, none⟩ = some v) (g1 : ∃ v, w1.cell? ⟨X, 1, none⟩ = some v) :
    ((w1.setCell ⟨X, 0, none⟩ u).setCell ⟨X, 1, none⟩ v).cell? ⟨X, 0, none⟩ = some u ∧ ((w1.setCell ⟨X, 0, none⟩ u).setCell ⟨X, 1, none⟩ v).cell? ⟨X, 1, none⟩ = some v ∧ Only X w1 ((w1.setCell ⟨X, 0, none⟩ u).setCell ⟨X, 1, none⟩ v) := by
  obtain ⟨v0, g0⟩ := g0
  obtain ⟨v1, g1⟩ := g1
  have n1 : (⟨X, 0, none⟩ : Addr) ≠ ⟨X, 1, none⟩ := fun e => by injection e; omega
  exact ⟨by rw [far_set n1]; exact World.cell?_setCell_same' _ _ _ (by rw [g0]; rfl), World.cell?_setCell_same' _ _ _ (by rw [far_set n1.symm, g1]; rfl), ((Only.refl _ _).setCell (p := ⟨X, 0, none⟩) rfl _).setCell (p := ⟨X, 1, none⟩) rfl _⟩

theorem box2g {w w1 : World} {x y : Value} {T : TypeId} (hb : Below (w.alloc (.cells #[x, y] T)).heap.size (w.alloc (.cells #[x, y] T)) w1) (i : Nat) (hi : i < 2) : w1.frozen? ⟨w.heap.size, i, none⟩ = false := by
  refine (hb.frozen (p := ⟨w.heap.size, i, none⟩) (by simp)).trans ?_
  match i, hi with
  | 0, _ => go_simp
  | 1, _ => go_simp

set_option maxRecDepth 100000 in
set_option maxHeartbeats 1000000 in
theorem drawDA (a : Option Addr) (l c : Nat) (z : List Int) (w : World) (hr : IsRow .u8 w a l c z) : Calls Tryd.prog 7 #[.slice a l c] w (LaPost w) := by
  have hq := box_b w (.cells #[.int .i64 0, .slice none 0 0] 26)
  have HD := Lib.hid (drawLA a l c z (w.alloc (.cells #[.int .i64 0, .slice none 0 0] 26)) (hr.below hq hr.apart))
  clear hr hq
  go_enter Tryd.func7, Tryd.ntmps7
  go_wp2_with fail
  refine HD.out.mono ?_
  rintro e w1 ⟨F, ta, tn, tc, xs, x, rfl, hI, htc, htn, far, hb⟩
  have far2 : ∀ y, ta = some y → w.heap.size < y.block := fun y hy => by have := far y hy; rw [World.size_alloc] at this; omega
  have HFR := Lib.hid far2
  clear far far2
  obtain ⟨hB, hd0, hd1⟩ := box2 hb
  have hf0 := box2g hb 0 (by omega)
  have hf1 := box2g hb 1 (by omega)
  obtain ⟨e0, e1, ho⟩ := put2 w1 w.heap.size (.int .i64 F) (.slice ta tn tc) ⟨_, hd0⟩ ⟨_, hd1⟩
  have HO := Lib.hid ho
  have HB := Lib.hid hB
  have HI := Lib.hid hI
  clear HD hb ho hB hI
  go_wp2_with fail
  exact bodyPost_ret (v := .tuple #[.agg #[.int .i64 F, .slice ta tn tc], .int .i64 x]) (by simp [results, Tryd.results7, go_sem, e0, e1]) rfl ⟨F, ta, tn, tc, xs, x, rfl, HI.out.onlyT HO.out (fun y hy => by have := HFR.out y hy; omega), htc, htn, fun y hy => by have := HFR.out y hy; omega, HB.out.trans (HO.out.below (Nat.le_refl _))⟩

/-- some text, not too long -/
def TxPost (w : World) (e : Ending) (w' : World) : Prop := ∃ s : ByteArray, e = .returned (.string s) ∧ s.size ≤ 100000 ∧ Below w.heap.size w w'

theorem ttT_len (F : Int) (xs : List Int) : (ttT F xs).length ≤ 3000 := by
  cases h : ltB F xs with
  | true =>
    rw [ttT_t h]
    have h2 := (ltB_iff _ _).1 h
    have h3 := jn_len (F :: xs) h2.nums
    have h4 := h2.2.1.2
    simp at h3; omega
  | false => rw [ttT_f h]; simp

set_option maxRecDepth 100000 in
set_option maxHeartbeats 1000000 in
theorem drawRT (a : Option Addr) (l c : Nat) (z : List Int) (w : World) (hr : IsRow .u8 w a l c z) : Calls Tryd.prog 14 #[.slice a l c] w (TxPost w) := by
  have HR := Lib.hid hr
  clear hr
  go_enter Tryd.func14, Tryd.ntmps14
  go_wp2_with fail
  refine (from_any _ _ _ z _ HR.out).mono ?_
  rintro e w1 ⟨rfl, hs, hz, hb⟩
  have HS := Lib.hid (ready_of HR.out hs hb)
  have HB := Lib.hid hb
  have hsz : w1.heap.size = w.heap.size + 1 := hz
  clear hs hz hb
  go_wp2_with fail
  refine (dtable _ _ _ _ _ _ HS.out).mono ?_
  rintro e w2 ⟨F, ta, tn, tc, xs, rfl, hI, htc, htn, f0, f1, far, ho, hs⟩
  have HS2 := Lib.hid hs
  have HB2 := Lib.hid (HB.out.trans (ho.below (Nat.le_refl _) (by omega)))
  have HI := Lib.hid hI
  clear hs ho hI far HB
  go_wp2_with fail
  refine (tt_spec F xs _ _ _ _ HI.out).mono ?_
  rintro e w3 ⟨rfl, hb⟩
  have htl := ttT_len F xs
  obtain ⟨t, ht⟩ : ∃ t : ByteArray, (⟨(ttT F xs).toArray⟩ : ByteArray) = t := ⟨_, rfl⟩
  have hts : t.size ≤ 3000 := by rw [← ht]; show (ttT F xs).toArray.size ≤ 3000; simpa using htl
  rw [ht]
  have HB3 := Lib.hid (HB2.out.trans (hb.mono HB2.out.size))
  have HS3 := Lib.hid (HS2.out.below hb HS2.out.here)
  clear ht htl hb HS2 HB2
  go_wp2_with fail
  refine (next_r _ _ _ _ _ _ _ HS3.out).mono ?_
  rintro e w4 ⟨r, rfl, hd, ho, hs⟩
  have HS4 := Lib.hid hs
  have HB4 := Lib.hid (HB3.out.trans (ho.below (Nat.le_refl _) (by have := HB3.out.size; have := HS3.out.here; omega)))
  clear hd ho hs HB3 HS3
  by_cases hr0 : r = 0
  · subst hr0
    go_wp2_with fail
    refine (damage_any _ _ _ _ _ t _ HS4.out (by omega)).mono ?_
    rintro e w5 ⟨u, rfl, hu, ho, hs⟩
    have HB5 := Lib.hid (HB4.out.trans (ho.below (Nat.le_refl _) (by have := HS4.out.here; omega)))
    clear ho hs
    go_wp2_with fail
    go_ret
    exact ⟨u, rfl, by omega, HB5.out⟩
  · have hrb : (r == 0) = false := by simpa using hr0
    go_wp2_with fail
    go_ret
    exact ⟨t, rfl, by omega, HB4.out⟩

end Go.Proofs.YtonkaoacohocjaaDoor
