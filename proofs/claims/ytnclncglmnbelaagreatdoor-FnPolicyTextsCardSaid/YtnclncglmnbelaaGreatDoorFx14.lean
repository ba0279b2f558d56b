/- Merged: Damage. -/
import Derived.Test.YtnclncglmnbelaaGreatDoorFx2
import Derived.Deep.RegionWith

/- The model's draws of texts: some text, not too long. -/
namespace Go.Proofs.YtnclncglmnbelaaGreatDoor
open Go.ChangeShapes Go.WideShapes Go.ChangeAt Go.RowKit
set_option linter.unusedVariables false

def StrPost (B : Nat) (a : Option Addr) (l c : Nat) (z : List Int) (n : Nat) (w : World) (e : Ending) (w' : World) : Prop :=
  ∃ s : ByteArray, e = .returned (.string s) ∧ s.size ≤ n ∧ But B w w' ∧ Ready B a l c z w'

theorem ext_size (t : ByteArray) (i j : Nat) : (t.extract i j).size ≤ t.size := by
  rw [ByteArray.size_extract]; omega

theorem ext_two (t : ByteArray) (k : Nat) (h : k < t.size) : (t.extract 0 k).size + (t.extract (k + 1) t.size).size ≤ t.size + 1 := by
  rw [ByteArray.size_extract, ByteArray.size_extract]; omega

theorem ext_all (t : ByteArray) (k : Nat) (h : k ≤ t.size) : (t.extract 0 k).size + (t.extract k t.size).size = t.size := by
  rw [ByteArray.size_extract, ByteArray.size_extract]; omega

abbrev eight : Array Value := #[.string ⟨#[48]⟩, .string ⟨#[49]⟩, .string ⟨#[32]⟩, .string ⟨#[45]⟩, .string ⟨#[44]⟩, .string ⟨#[46]⟩, .string ⟨#[10]⟩, .string ⟨#[97]⟩]

theorem str8 (j : Nat) (h : j < 8) : ∃ x : ByteArray, eight[j]? = some (.string x) ∧ x.size = 1 := by
  rcases (show j = 0 ∨ j = 1 ∨ j = 2 ∨ j = 3 ∨ j = 4 ∨ j = 5 ∨ j = 6 ∨ j = 7 by omega) with rfl | rfl | rfl | rfl | rfl | rfl | rfl | rfl
  all_goals exact ⟨_, rfl, rfl⟩

theorem new8 {j : Nat} {x : ByteArray} {T : TypeId} (h : eight[j]? = some (.string x)) (wx : World) : (wx.alloc (.cells eight T)).cell? ⟨wx.heap.size, j, none⟩ = some (.string x) := by
  rw [World.cell?_alloc_new]; exact h

set_option maxHeartbeats 1000000 in
theorem damage_any (B : Nat) (a : Option Addr) (l c : Nat) (z : List Int) (t : ByteArray) (w : World) (h : Ready B a l c z w) (ht : t.size ≤ 1000000) :
    Calls Tryz.prog 31 #[.pointer (some ⟨B, 0, none⟩), .string t] w (StrPost B a l c z (t.size + 1) w) := by
  have HS := Lib.hid h
  clear h
  go_enter Tryz.func31, Tryz.ntmps31
  go_wp2_with fail
  refine (next_r _ _ _ _ _ _ _ HS.out).mono ?_
  rintro e w1 ⟨k, rfl, hd, ho, hs⟩
  have hk := drawn_bd hd (by omega)
  have HO := Lib.hid ho
  have HS := Lib.hid hs
  clear hd ho hs
  obtain ⟨k, rfl⟩ := Int.eq_ofNat_of_zero_le hk.1
  have hk2 : k ≤ t.size := by omega
  clear hk
  go_wp2_with fail
  refine (next_r _ _ _ _ _ _ _ HS.out).mono ?_
  rintro e w2 ⟨r, rfl, hd, ho, hs⟩
  have HO := Lib.hid (HO.out.trans ho)
  have HS := Lib.hid hs
  clear hd ho hs
  by_cases h0 : r = 0
  · subst h0
    go_wp2_with fail
    go_ret
    exact ⟨_, rfl, by have := ext_size t 0 k; omega, HO.out, HS.out⟩
  · by_cases h1 : r = 1
    · subst h1
      have e1 := ext_size t 0 k
      have e2 := ext_size t k t.size
      have q3 := ext_all t k hk2
      have hB := HS.out.here
      go_wp2_with fail
      go_region_with (go_at_call 17; first | ((with_reducible refine (next_r _ _ _ _ _ _ w2.drew HS.out.drew).mono ?_); go_must (rintro e w3 ⟨q, rfl, hd, ho, hs⟩; have hq := drawn_bd hd (by omega); obtain ⟨j, rfl⟩ := Int.eq_ofNat_of_zero_le hq.1; have hj : j < 8 := (by omega); obtain ⟨x, hx, hx1⟩ := str8 j hj; have hc := new8 (T := 9) hx; have HO := Lib.hid (HO.out.drew.trans ho); have HS := Lib.hid hs; clear hd ho hs hq hx)) | ((with_reducible refine (next_r _ _ _ _ _ _ ((w2.alloc (.cells eight 9)).drew) (HS.out.alloc _).drew).mono ?_); rintro e w3 ⟨q, rfl, hd, ho, hs⟩; have hq := drawn_bd hd (by omega); obtain ⟨j, rfl⟩ := Int.eq_ofNat_of_zero_le hq.1; have hj : j < 8 := (by omega); obtain ⟨x, hx, hx1⟩ := str8 j hj; have hc := (ho.cell (p := ⟨w2.heap.size, j, none⟩) (by simp) (by simp; omega)).trans (new8 hx w2); have HO := Lib.hid ((HO.out.trans (But.alloc _)).drew.trans ho); have HS := Lib.hid hs; clear hd ho hs hq hx))
      all_goals
        go_wp2_with fail
        go_ret
        refine ⟨_, rfl, by rw [ByteArray.size_append, ByteArray.size_append]; omega, ?_, ?_⟩
        · first | exact HO.out | exact HO.out.drew | exact HO.out.trans (But.alloc _) | exact (HO.out.trans (But.alloc _)).drew
        · first | exact HS.out | exact HS.out.drew | exact HS.out.alloc _ | exact (HS.out.alloc _).drew
    · by_cases h2 : r = 2
      · subst h2
        have e1 := ext_size t 0 k
        have e2 := ext_size t (k + 1) t.size
        have q1 : IntKind.i64.wrap ((k : Int) + 1) = (k : Int) + 1 := IntWalk.i64_in _ (by omega)
        have q2 : ((k : Int) + 1).toNat = k + 1 := by omega
        by_cases hk3 : k < t.size
        · have q3 : (t.extract 0 k).size + (t.extract (k + 1) t.size).size ≤ t.size + 1 := ext_two t k hk3
          go_wp2_with fail
          go_quiet (fail)
          go_wp2_with fail
          go_ret
          exact ⟨_, rfl, by rw [ByteArray.size_append]; exact q3, HO.out.drewN _, HS.out.drewN _⟩
        · go_wp2_with fail
          go_ret
          exact ⟨t, rfl, by omega, HO.out, HS.out⟩
      · have e0 : (r == 0) = false := by simpa using h0
        have e1 : (r == 1) = false := by simpa using h1
        have e2 : (r == 2) = false := by simpa using h2
        clear h0 h1 h2
        go_wp2_with fail
        go_ret
        exact ⟨t, rfl, by omega, HO.out, HS.out⟩

end Go.Proofs.YtnclncglmnbelaaGreatDoor
