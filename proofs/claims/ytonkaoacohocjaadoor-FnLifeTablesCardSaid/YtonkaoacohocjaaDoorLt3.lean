/- Merged: TabC, TabD, ByAge, Gcd, TabE, TabF, TabG, Make, MakeI. -/
import Derived.Test.YtonkaoacohocjaaDoorLt2
import Derived.Deep.RegionHeld3
import Derived.Deep.WholeRow
import Derived.Deep.RegionLaw
import Derived.Laws.CopyOwn

/- Codes of a table and an age; the lives at an age: what the calls return. -/
namespace Go.Proofs.YtonkaoacohocjaaDoor
open Go.ChangeShapes Go.WideShapes Go.ChangeAt Go.RowKit
set_option linter.unusedVariables false
set_option maxRecDepth 100000

/-- behind a call that was made when a block of two cells had just been laid -/
theorem box2 {w w1 : World} {x y : Value} {T : TypeId} (hb : Below (w.alloc (.cells #[x, y] T)).heap.size (w.alloc (.cells #[x, y] T)) w1) :
    Below w.heap.size w w1 ∧ w1.cell? ⟨w.heap.size, 0, none⟩ = some x ∧ w1.cell? ⟨w.heap.size, 1, none⟩ = some y :=
  ⟨((Below.refl w.heap.size w).alloc (Nat.le_refl _) _).trans (hb.mono (by simp)), (hb.cell (p := ⟨w.heap.size, 0, none⟩) (by simp)).trans (World.cell?_alloc_new _ _ _ _), (hb.cell (p := ⟨w.heap.size, 1, none⟩) (by simp)).trans (World.cell?_alloc_new _ _ _ _)⟩

/-- .. and behind the next one -/
theorem keep2 {w1 w2 : World} {p : Addr} {x : Value} (hb : Below w1.heap.size w1 w2) (h : w1.cell? p = some x) : w2.cell? p = some x := (hb.cell (block_lt h)).trans h

theorem box_b (w : World) (o : Obj) : Below w.heap.size w (w.alloc o) := (Below.refl _ _).alloc (Nat.le_refl _) _

/-- years in their range, too -/
def chE (f : Int) (xs : List Int) (x y : Int) : Int := if ltB f xs = true then (if inB x f 150 = true ∧ inB y 0 150 = true then 0 else 2) else 1

theorem chE_1 {f : Int} {xs : List Int} {x y : Int} (h : ltB f xs = false) : chE f xs x y = 1 := by simp [chE, h]

theorem chE_2 {f : Int} {xs : List Int} {x y : Int} (h : ltB f xs = true) (g : ¬ (inB x f 150 = true ∧ inB y 0 150 = true)) : chE f xs x y = 2 := by unfold chE; rw [if_pos h, if_neg g]

theorem chE_0 {f : Int} {xs : List Int} {x y : Int} (h : ltB f xs = true) (g : inB x f 150 = true) (k : inB y 0 150 = true) : chE f xs x y = 0 := by unfold chE; rw [if_pos h, if_pos ⟨g, k⟩]

theorem chE_age (f : Int) (xs : List Int) (x : Int) : chE f xs x 0 = ageE f xs x := by
  unfold chE ageE
  simp only [inB_iff]
  simp

theorem chE_iff {f : Int} {xs : List Int} {x y : Int} : chE f xs x y = 0 ↔ LTab f xs ∧ (f ≤ x ∧ x ≤ 150) ∧ 0 ≤ y ∧ y ≤ 150 := by
  unfold chE; rw [← ltB_iff]
  simp only [inB_iff]
  split
  · next h => split <;> simp_all
  · next h => simp [h]

set_option maxHeartbeats 400000 in
theorem check_any (f : Int) (xs : List Int) (a : Option Addr) (l c : Nat) (x y : Int) (w : World) (h : Ints w a l xs) (hlc : l ≤ c) :
    Calls Tryd.prog 25 #[.agg #[.int .i64 f, .slice a l c], .int .i64 x, .int .i64 y] w fun e w' => e = .returned (.int .i64 (chE f xs x y)) ∧ Below w.heap.size w w' := by
  have H := Lib.hid h
  clear h
  by_cases h1 : ltB f xs = true
  · by_cases h2 : inB x f 150 = true
    · by_cases h3 : inB y 0 150 = true
      · have HR := Lib.hid (chE_0 h1 h2 h3)
        go_enter Tryd.func25, Tryd.ntmps25
        go_wp2_with (first | (go_at_call 40; refine (within_any _ _ _ _).mono ?_; rintro e w' ⟨rfl, rfl⟩) | (go_at_call 18; refine (isL_impl f xs _ _ _ _ (H.out.on (box_b _ _)) hlc).mono ?_; rintro e w1 ⟨rfl, hb⟩; obtain ⟨hB, hc0, hc1⟩ := box2 hb; have HB := Lib.hid hB; clear hB hb))
        go_ret
        exact ⟨ret_int HR.out.symm, HB.out⟩
      · have HR := Lib.hid (chE_2 (x := x) (y := y) h1 (fun hh => h3 hh.2))
        go_enter Tryd.func25, Tryd.ntmps25
        go_wp2_with (first | (go_at_call 40; refine (within_any _ _ _ _).mono ?_; rintro e w' ⟨rfl, rfl⟩) | (go_at_call 18; refine (isL_impl f xs _ _ _ _ (H.out.on (box_b _ _)) hlc).mono ?_; rintro e w1 ⟨rfl, hb⟩; obtain ⟨hB, hc0, hc1⟩ := box2 hb; have HB := Lib.hid hB; clear hB hb))
        go_ret
        exact ⟨ret_int HR.out.symm, HB.out⟩
    · have HR := Lib.hid (chE_2 (x := x) (y := y) h1 (fun hh => h2 hh.1))
      go_enter Tryd.func25, Tryd.ntmps25
      go_wp2_with (first | (go_at_call 40; refine (within_any _ _ _ _).mono ?_; rintro e w' ⟨rfl, rfl⟩) | (go_at_call 18; refine (isL_impl f xs _ _ _ _ (H.out.on (box_b _ _)) hlc).mono ?_; rintro e w1 ⟨rfl, hb⟩; obtain ⟨hB, hc0, hc1⟩ := box2 hb; have HB := Lib.hid hB; clear hB hb))
      go_ret
      exact ⟨ret_int HR.out.symm, HB.out⟩
  · have h1' : ltB f xs = false := by simpa using h1
    have HR := Lib.hid (chE_1 (x := x) (y := y) h1')
    clear h1
    go_enter Tryd.func25, Tryd.ntmps25
    go_wp2_with (go_at_call 18; refine (isL_impl f xs _ _ _ _ (H.out.on (box_b _ _)) hlc).mono ?_; rintro e w1 ⟨rfl, hb⟩; obtain ⟨hB, hc0, hc1⟩ := box2 hb; have HB := Lib.hid hB; clear hB hb)
    go_ret
    exact ⟨ret_int HR.out.symm, HB.out⟩

set_option maxHeartbeats 400000 in
theorem code_any (f : Int) (xs : List Int) (a : Option Addr) (l c : Nat) (x : Int) (w : World) (h : Ints w a l xs) :
    Calls Tryd.prog 27 #[.agg #[.int .i64 f, .slice a l c], .int .i64 x] w fun e w' => e = .returned (.int .i64 (ageE f xs x)) ∧ Below w.heap.size w w' := by
  have H := Lib.hid h
  clear h
  by_cases h1 : ltB f xs = true
  · by_cases h2 : inB x f 150 = true
    · have HR := Lib.hid (ageE_0 h1 ((inB_iff _ _ _).1 h2))
      go_enter Tryd.func27, Tryd.ntmps27
      go_wp2_with (first | (go_at_call 48; refine (in_any _ _ _ _).mono ?_; rintro e w' ⟨rfl, rfl⟩) | (go_at_call 37; refine (isL_spec f xs _ _ _ _ (H.out.on (box_b _ _))).mono ?_; rintro e w1 ⟨rfl, hb⟩; obtain ⟨hB, hc0, hc1⟩ := box2 hb; have HB := Lib.hid hB; clear hB hb))
      go_ret
      exact ⟨ret_int HR.out.symm, HB.out⟩
    · have HR := Lib.hid (ageE_2 (x := x) h1 (fun hh => h2 ((inB_iff _ _ _).2 hh)))
      go_enter Tryd.func27, Tryd.ntmps27
      go_wp2_with (first | (go_at_call 48; refine (in_any _ _ _ _).mono ?_; rintro e w' ⟨rfl, rfl⟩) | (go_at_call 37; refine (isL_spec f xs _ _ _ _ (H.out.on (box_b _ _))).mono ?_; rintro e w1 ⟨rfl, hb⟩; obtain ⟨hB, hc0, hc1⟩ := box2 hb; have HB := Lib.hid hB; clear hB hb))
      go_ret
      exact ⟨ret_int HR.out.symm, HB.out⟩
  · have h1' : ltB f xs = false := by simpa using h1
    have HR := Lib.hid (ageE_1 (x := x) h1')
    clear h1
    go_enter Tryd.func27, Tryd.ntmps27
    go_wp2_with (go_at_call 37; refine (isL_spec f xs _ _ _ _ (H.out.on (box_b _ _))).mono ?_; rintro e w1 ⟨rfl, hb⟩; obtain ⟨hB, hc0, hc1⟩ := box2 hb; have HB := Lib.hid hB; clear hB hb)
    go_ret
    exact ⟨ret_int HR.out.symm, HB.out⟩

theorem lives_any (f : Int) (xs : List Int) (a : Option Addr) (l c : Nat) (x : Int) (w : World) (h : Ints w a l xs) (f0 : 0 ≤ f) (f1 : f ≤ 100) (x0 : f ≤ x) (x1 : x ≤ 1000) :
    Calls Tryd.prog 28 #[.agg #[.int .i64 f, .slice a l c], .int .i64 x] w fun e w' => e = .returned (.int .i64 (lvs f xs x)) ∧ Below w.heap.size w w' := by
  have hm := h.max
  have HL := Lib.hid h.len
  have H := Lib.hid h
  clear h
  by_cases hlt : (l : Int) ≤ x - f
  · have HR : Hid (lvs f xs x = 0) := Lib.hid (getD_far _ _ (by have := HL.out; omega))
    go_enter Tryd.func28, Tryd.ntmps28
    go_wp2_with fail
    go_ret
    exact ⟨ret_int HR.out.symm, box_b _ _⟩
  · obtain ⟨b, off, rfl, hb, hc⟩ := H.out.at (by omega)
    have hx := hc (x - f).toNat (by omega)
    obtain ⟨v, hv⟩ : ∃ v, xs.getD (x - f).toNat 0 = v := ⟨_, rfl⟩
    rw [hv] at hx
    have HR : Hid (lvs f xs x = v) := Lib.hid hv
    have q1 : (x - f).toNat < l := by omega
    clear hv hc
    go_enter Tryd.func28, Tryd.ntmps28
    go_wp2_with fail
    go_ret
    exact ⟨ret_int HR.out.symm, box_b _ _⟩

theorem end_spec (f : Int) (xs : List Int) (a : Option Addr) (l c : Nat) (w : World) (hl : l ≤ 1000000) (h0 : 0 ≤ f) (h1 : f ≤ 1000) :
    Calls Tryd.prog 58 #[.agg #[.int .i64 f, .slice a l c]] w fun e w' => e = .returned (.int .i64 (f + l - 1)) ∧ Below w.heap.size w w' := by
  go_enter Tryd.func58, Tryd.ntmps58
  go_wp2_with fail
  go_ret
  exact ⟨rfl, box_b _ _⟩

end Go.Proofs.YtonkaoacohocjaaDoor

/- LivesAt and DeathsAt of the model: what the calls return. -/
namespace Go.Proofs.YtonkaoacohocjaaDoor
open Go.ChangeShapes Go.WideShapes Go.ChangeAt Go.RowKit
set_option linter.unusedVariables false
set_option maxRecDepth 100000

theorem laV_0 {f : Int} {xs : List Int} {x : Int} (h : ageE f xs x = 0) : laV f xs x = lvs f xs x := by simp [laV, h]

theorem laV_n {f : Int} {xs : List Int} {x : Int} (h : ¬ ageE f xs x = 0) : laV f xs x = 0 := by simp [laV, h]

theorem daV_0 {f : Int} {xs : List Int} {x : Int} (h : ageE f xs x = 0) : daV f xs x = lvs f xs x - lvs f xs (x + 1) := by simp [daV, h]

theorem daV_n {f : Int} {xs : List Int} {x : Int} (h : ¬ ageE f xs x = 0) : daV f xs x = 0 := by simp [daV, h]

theorem la_spec (f : Int) (xs : List Int) (a : Option Addr) (l c : Nat) (x : Int) (w : World) (h : Ints w a l xs) :
    Calls Tryd.prog 11 #[.agg #[.int .i64 f, .slice a l c], .int .i64 x] w fun e w' => e = .returned (.tuple #[.int .i64 (laV f xs x), .int .i64 (ageE f xs x)]) ∧ Below w.heap.size w w' := by
  have H := Lib.hid h
  clear h
  by_cases h0 : ageE f xs x = 0
  · obtain ⟨ht, x0, x1⟩ := ageE_iff.1 h0
    obtain ⟨f0, f1⟩ := ht.1
    have HV := Lib.hid (laV_0 h0)
    have HE := Lib.hid h0
    clear ht h0
    go_enter Tryd.func11, Tryd.ntmps11
    go_wp2_with fail
    refine (code_any f xs _ _ _ _ _ (H.out.on (box_b _ _))).mono ?_
    rintro e w1 ⟨rfl, hb⟩
    obtain ⟨hB, hc0, hc1⟩ := box2 hb
    have HB := Lib.hid hB
    clear hB hb
    rw [HE.out]
    go_wp2_with fail
    refine (lives_any f xs _ _ _ _ _ (H.out.on HB.out) f0 f1 x0 (by omega)).mono ?_
    rintro e w2 ⟨rfl, hb⟩
    have HB2 := Lib.hid (HB.out.trans (hb.mono HB.out.size))
    clear hb
    go_wp2_with fail
    go_ret2
    exact ⟨ret_ii HV.out.symm HE.out.symm, HB2.out⟩
  · have HV := Lib.hid (laV_n h0)
    obtain ⟨E, hE⟩ : ∃ E, ageE f xs x = E := ⟨_, rfl⟩
    rw [hE] at h0 ⊢
    have HE := Lib.hid hE
    have hne : (E != 0) = true := by simpa using h0
    clear h0 hE
    go_enter Tryd.func11, Tryd.ntmps11
    go_wp2_with fail
    refine (code_any f xs _ _ _ _ _ (H.out.on (box_b _ _))).mono ?_
    rintro e w1 ⟨rfl, hb⟩
    obtain ⟨hB, hc0, hc1⟩ := box2 hb
    have HB := Lib.hid hB
    clear hB hb
    rw [HE.out]
    go_wp2_with fail
    go_ret2
    exact ⟨ret_ii HV.out.symm rfl, HB.out⟩

theorem da_spec (f : Int) (xs : List Int) (a : Option Addr) (l c : Nat) (x : Int) (w : World) (h : Ints w a l xs) :
    Calls Tryd.prog 9 #[.agg #[.int .i64 f, .slice a l c], .int .i64 x] w fun e w' => e = .returned (.tuple #[.int .i64 (daV f xs x), .int .i64 (ageE f xs x)]) ∧ Below w.heap.size w w' := by
  have H := Lib.hid h
  clear h
  by_cases h0 : ageE f xs x = 0
  · obtain ⟨ht, x0, x1⟩ := ageE_iff.1 h0
    obtain ⟨f0, f1⟩ := ht.1
    have HT := Lib.hid ht
    have HV := Lib.hid (daV_0 h0)
    have HE := Lib.hid h0
    have b1 := ht.lvs_bd x
    have b2 := ht.lvs_bd (x + 1)
    obtain ⟨b11, b12⟩ := b1
    obtain ⟨b21, b22⟩ := b2
    obtain ⟨u, hu⟩ : ∃ u, lvs f xs x = u := ⟨_, rfl⟩
    obtain ⟨v, hv⟩ : ∃ v, lvs f xs (x + 1) = v := ⟨_, rfl⟩
    rw [hu] at b11 b12
    rw [hv] at b21 b22
    have HU := Lib.hid hu
    have HVV := Lib.hid hv
    clear ht h0 hu hv
    by_cases h150 : x = 150
    · have hz : Hid (daV f xs x = 0) := Lib.hid (by rw [HV.out, HT.out.lvs_zero x (by have := HT.out.2.2.1; omega), HT.out.lvs_zero (x + 1) (by have := HT.out.2.2.1; omega)]; rfl)
      subst h150
      go_enter Tryd.func9, Tryd.ntmps9
      go_wp2_with fail
      refine (code_any f xs _ _ _ _ _ (H.out.on (box_b _ _))).mono ?_
      rintro e w1 ⟨rfl, hb⟩
      obtain ⟨hB, hc0, hc1⟩ := box2 hb
      have HB := Lib.hid hB
      clear hB hb
      rw [HE.out]
      go_wp2_with fail
      go_ret2
      exact ⟨ret_ii hz.out.symm HE.out.symm, HB.out⟩
    · have hne : (x == 150) = false := by simpa using h150
      have hle : x + 1 ≤ 150 := by omega
      have q1 : IntKind.i64.wrap (x + 1) = x + 1 := IntWalk.i64_in _ (by omega)
      have q2 : IntKind.i64.wrap (u - v) = u - v := IntWalk.i64_in _ (by omega)
      clear h150
      go_enter Tryd.func9, Tryd.ntmps9
      go_wp2_with fail
      refine (code_any f xs _ _ _ _ _ (H.out.on (box_b _ _))).mono ?_
      rintro e w1 ⟨rfl, hb⟩
      obtain ⟨hB, hc0, hc1⟩ := box2 hb
      have HB := Lib.hid hB
      clear hB hb
      rw [HE.out]
      go_wp2_with fail
      have C1 : Hid (∀ W, Hid (Below w.heap.size w W) → Calls Tryd.prog 28 #[.agg #[.int .i64 f, .slice a l c], .int .i64 x] W fun e w' => e = .returned (.int .i64 u) ∧ Below W.heap.size W w') :=
        Lib.hid (fun W hW => by have := lives_any f xs a l c x W (H.out.on hW.out) f0 f1 x0 (by omega); rw [HU.out] at this; exact this)
      have C2 : Hid (∀ W, Hid (Below w.heap.size w W) → Calls Tryd.prog 28 #[.agg #[.int .i64 f, .slice a l c], .int .i64 (x + 1)] W fun e w' => e = .returned (.int .i64 v) ∧ Below W.heap.size W w') :=
        Lib.hid (fun W hW => by have := lives_any f xs a l c (x + 1) W (H.out.on hW.out) f0 f1 (by omega) (by omega); rw [HVV.out] at this; exact this)
      go_region_held3 (fun w' => w'.cell? ⟨w.heap.size, 0, none⟩ = some (.int .i64 f) ∧ w'.cell? ⟨w.heap.size, 1, none⟩ = some (.slice a l c) ∧ Hid (Below w.heap.size w w'))
        (first
          | (go_split_ands; exact ⟨by assumption, by assumption, by assumption⟩)
          | (go_split_ands; exact ⟨by assumption, by assumption, Lib.hid (Below.drew (Hid.out (by assumption)))⟩)
          | (go_split_ands; exact ⟨keep2 hb (by assumption), keep2 hb (by assumption), Lib.hid (Below.trans (Hid.out (by assumption)) (Below.mono hb (Below.size (Hid.out (by assumption)))))⟩))
        (first
          | (go_split_ands; go_at_call 28; ((with_reducible refine (C1.out _ (by assumption)).mono ?_); rintro e w' ⟨rfl, hb⟩))
          | (go_split_ands; go_at_call 28; ((with_reducible refine (C2.out _ (by assumption)).mono ?_); rintro e w' ⟨rfl, hb⟩)))
      all_goals
        go_split_ands
        go_wp2_with fail
        go_ret2
        exact ⟨ret_ii (by rw [HV.out, HU.out, HVV.out]) HE.out.symm, Hid.out (by assumption)⟩
  · have HV := Lib.hid (daV_n h0)
    obtain ⟨E, hE⟩ : ∃ E, ageE f xs x = E := ⟨_, rfl⟩
    rw [hE] at h0 ⊢
    have HE := Lib.hid hE
    have hne : (E != 0) = true := by simpa using h0
    clear h0 hE
    go_enter Tryd.func9, Tryd.ntmps9
    go_wp2_with fail
    refine (code_any f xs _ _ _ _ _ (H.out.on (box_b _ _))).mono ?_
    rintro e w1 ⟨rfl, hb⟩
    obtain ⟨hB, hc0, hc1⟩ := box2 hb
    have HB := Lib.hid hB
    clear hB hb
    rw [HE.out]
    go_wp2_with fail
    go_ret2
    exact ⟨ret_ii HV.out.symm rfl, HB.out⟩

end Go.Proofs.YtonkaoacohocjaaDoor

/- The lives by age, as an array of the program's. -/
namespace Go.Proofs.YtonkaoacohocjaaDoor
open Go.ChangeShapes Go.WideShapes Go.ChangeAt Go.RowKit
set_option linter.unusedVariables false
set_option maxRecDepth 100000

/-- the lives by age: 152 numbers, those of the table from its first age on -/
def byL (f : Int) (xs : List Int) : List Int := List.replicate f.toNat 0 ++ (xs ++ List.replicate (152 - (f.toNat + xs.length)) 0)

theorem byL_len (f : Int) (xs : List Int) (h : f.toNat + xs.length ≤ 152) : (byL f xs).length = 152 := by simp [byL]; omega

theorem byL_get (f : Int) (xs : List Int) (i : Nat) (h : f.toNat ≤ i) : (byL f xs).getD i 0 = xs.getD (i - f.toNat) 0 := by
  unfold byL
  rw [List.getD_eq_getElem?_getD, List.getElem?_append_right (by simpa using h), List.length_replicate, List.getD_eq_getElem?_getD]
  by_cases hi : i - f.toNat < xs.length
  · rw [List.getElem?_append_left hi]
  · rw [List.getElem?_append_right (by omega), List.getElem?_eq_none (l := xs) (by omega), List.getElem?_replicate]
    split <;> rfl

theorem LTab.fit {f : Int} {xs : List Int} (h : LTab f xs) : f.toNat + xs.length ≤ 151 := by
  have := h.1; have := h.2.2.1; omega

/-- the lives at an age, in the array -/
theorem LTab.by {f : Int} {xs : List Int} (h : LTab f xs) (x : Int) (hx : f ≤ x) : (byL f xs).getD x.toNat 0 = lvs f xs x := by
  have := h.1
  rw [byL_get _ _ _ (by omega)]
  unfold lvs
  congr 1; omega

theorem zero152 : Tryd.zeroCells45 = (List.replicate 152 (Value.int .i64 0)).toArray := by kernel_rfl

theorem splice_by (f : Int) (xs : List Int) (h : f.toNat + xs.length ≤ 152) : splice (List.replicate 152 (Value.int .i64 0)) f.toNat (xs.map (Value.int .i64)) = (byL f xs).map (Value.int .i64) := by
  unfold splice byL
  simp only [List.take_replicate, List.drop_replicate, List.map_append, List.map_replicate, List.length_map]
  congr 2
  omega

theorem und152 : Tryd.prog.underlying 45 = some (.array (Tryd.prog.arrayLen 45) (Tryd.prog.elem 45)) := by kernel_rfl

theorem len152 : Tryd.prog.arrayLen 45 = 152 := by kernel_rfl

theorem elem152 : Tryd.prog.elem 45 = 2 := by kernel_rfl

theorem slice152 (B : Nat) (f : Int) (f0 : 0 ≤ f) (f1 : f ≤ 100) (W : World) : (Instr.sliceAt 45 (.pointer (some ⟨B, 0, none⟩)) (some (.int .i64 f)) none none).run Tryd.prog W = .ok (.slice (some ⟨B, f.toNat, none⟩) (152 - f.toNat) (152 - f.toNat)) W := by
  rw [run_sliceAt_array_l W _ _ und152 .i64 f f0 (by rw [len152]; omega), len152, elem152]
  have hs : (sizeOf 2).run Tryd.prog W = .ok 1 W := by
    simp [sizeOf, go_sem]
    rfl
  rw [hs]
  simp only [Result.andThen, slicedAt]
  rw [if_neg (by omega), Go.WideShapes.add_plain]
  simp

set_option maxHeartbeats 400000 in
theorem byAge_any (f : Int) (xs : List Int) (a : Option Addr) (l c : Nat) (w : World) (h : Ints w a l xs) (ht : LTab f xs) :
    Calls Tryd.prog 26 #[.agg #[.int .i64 f, .slice a l c]] w fun e w' => e = .returned (.agg ((byL f xs).map (Value.int .i64)).toArray) ∧ Below w.heap.size w w' := by
  have hlen := h.len
  have hfit := ht.fit
  obtain ⟨f0, f1⟩ := ht.1
  obtain ⟨l0, l1⟩ := ht.2.1
  rw [hlen] at l0 l1
  obtain ⟨b, off, rfl, hb, hc⟩ := h.at (by omega)
  have hz := zero152
  have HB : Hid (Below w.heap.size w (((w.alloc (.cells #[.int .i64 f, .slice (some ⟨b, off, none⟩) l c] 26)).alloc (.cells Tryd.zeroCells45 45)).alloc (.cells Tryd.zeroCells45 45))) :=
    Lib.hid (((box_b _ _).alloc (by simp) _).alloc (by simp; omega) _)
  have HG : Hid ((((w.alloc (.cells #[.int .i64 f, .slice (some ⟨b, off, none⟩) l c] 26)).alloc (.cells Tryd.zeroCells45 45)).alloc (.cells Tryd.zeroCells45 45)).heap[w.heap.size + 1 + 1]? = some (.cells (List.replicate 152 (Value.int .i64 0)).toArray 45 (0, 0))) := Lib.hid (by
      have := heap_alloc_new ((w.alloc (.cells #[.int .i64 f, .slice (some ⟨b, off, none⟩) l c] 26)).alloc (.cells Tryd.zeroCells45 45)) (.cells Tryd.zeroCells45 45)
      rw [World.size_alloc, World.size_alloc] at this
      rw [this, hz])
  have HC : Hid (∀ j v, (xs.map (Value.int .i64))[j]? = some v → (((w.alloc (.cells #[.int .i64 f, .slice (some ⟨b, off, none⟩) l c] 26)).alloc (.cells Tryd.zeroCells45 45)).alloc (.cells Tryd.zeroCells45 45)).cell? ((⟨b, off, none⟩ : Addr).add j) = some v) := Lib.hid (by
      intro j v hj
      have hjl : j < l := by
        have := (List.getElem?_eq_some_iff.1 hj).1
        simpa [hlen] using this
      rw [Go.WideShapes.add_plain, HB.out.cell (p := ⟨b, off + j, none⟩) hb, hc j hjl]
      rw [List.getElem?_map, List.getElem?_eq_getElem (by omega)] at hj
      simp [List.getD, List.getElem?_eq_getElem (show j < xs.length by omega)] at hj ⊢
      exact hj)
  obtain ⟨Zs, hZs⟩ : ∃ Zs, ((byL f xs).map (Value.int .i64)).toArray = Zs := ⟨_, rfl⟩
  have HS : Hid ((splice (List.replicate 152 (Value.int .i64 0)) f.toNat (xs.map (Value.int .i64))).toArray = Zs) := Lib.hid (by rw [splice_by f xs (by omega), hZs])
  have HZ : Hid (Zs.size = 152) := Lib.hid (by rw [← hZs]; simp [byL_len f xs (by omega)])
  have HO : Hid (Zs.all (·.oneCell') = true) := Lib.hid (by rw [← hZs, Array.all_eq_true_iff_forall_mem]; intro v hv; simp at hv; obtain ⟨x, _, rfl⟩ := hv; rfl)
  have HP : Hid ((((w.alloc (.cells #[.int .i64 f, .slice (some ⟨b, off, none⟩) l c] 26)).alloc (.cells Tryd.zeroCells45 45)).alloc (.cells Tryd.zeroCells45 45)).heap[w.heap.size + 1]? = some (.cells Tryd.zeroCells45 45 (0, 0))) := Lib.hid (by
      rw [Below.heap_alloc _ _ _ (by simp)]
      have := heap_alloc_new (w.alloc (.cells #[.int .i64 f, .slice (some ⟨b, off, none⟩) l c] 26)) (.cells Tryd.zeroCells45 45)
      rw [World.size_alloc] at this
      exact this)
  have HL := Lib.hid hlen
  have hfl : f.toNat + l ≤ 151 := by omega
  have hft : f.toNat ≤ 152 := by omega
  have HZZ : Hid (Zs = ((byL f xs).map (Value.int .i64)).toArray) := Lib.hid hZs.symm
  clear hz hc hlen ht h hZs hfit
  have hsl := slice152 (w.heap.size + 1 + 1) f f0 f1
  go_enter Tryd.func26, Tryd.ntmps26
  go_wp2_with fail
  go_region_law (refine step_copy_splice rfl (.tmp 6) (.tmp 8) 24 24 rfl 2 Tryd.underlying24 (by kernel_rfl) (some ⟨w.heap.size + 1 + 1, f.toNat, none⟩) (some ⟨b, off, none⟩) _ _ l c (by rfl) (by rfl) (w.heap.size + 1 + 1) f.toNat (List.replicate 152 (.int .i64 0)) 45 HG.out (xs.map (.int .i64)) (by rw [List.length_map, HL.out]; exact (Nat.min_eq_left (by omega)).symm) (fun _ => ⟨rfl, ⟨b, off, none⟩, rfl, HC.out⟩) (by rw [List.length_map, HL.out, List.length_replicate]; omega) (by intro v hv; obtain ⟨x, _, rfl⟩ := List.mem_map.1 hv; rfl) (w.heap.size + 1 + 1) _ (Below.refl _ _) (by omega) ?_; intro w4 hg4 hb4)
  all_goals
    have hrow : w4.heap[w.heap.size + 1 + 1]? = some (.cells Zs 45 (0, 0)) := by rw [← HS.out]; exact hg4.out
    have hres : w4.heap[w.heap.size + 1]? = some (.cells Tryd.zeroCells45 45 (0, 0)) := (hb4.block (w.heap.size + 1) (by omega)).trans HP.out
    have HW : Hid (Below w.heap.size w w4) := Lib.hid (by first | exact HB.out.drew.trans (hb4.mono (by omega)) | exact HB.out.trans (hb4.mono (by omega)))
    clear hg4 hb4
    go_wp2_with (first | (refine wpList_load_row rfl 45 (.tmp 3) rfl (w.heap.size + 1 + 1) rfl 45 Zs (0, 0) _ hrow und152 rfl (by rw [HZ.out]; kernel_rfl) ?_) | (refine wpList_store_row rfl 45 (.tmp 2) (.tmp 10) rfl (w.heap.size + 1) Zs rfl rfl 45 _ hres (by rw [HZ.out]; kernel_rfl) (by rw [HZ.out]; kernel_rfl) HO.out ?_))
    refine bodyPost_ret (v := .agg Zs) (results_cell_row rfl _ _ (w.heap.size + 1) 45 Zs (0, 0) _ rfl (setRow_heap w4 _ _ Zs _ _ hres) und152 rfl (by rw [HZ.out]; kernel_rfl)) rfl ⟨by rw [HZZ.out], below_setRow HW.out (by omega) Zs⟩

/-- an array of 152 numbers -/
structure Arr (Zs : Array Value) (ys : List Int) : Prop where
  eq : Zs = (ys.map (Value.int .i64)).toArray
  len : ys.length = 152

theorem Arr.size {Zs : Array Value} {ys : List Int} (h : Arr Zs ys) : Zs.size = 152 := by rw [h.eq]; simp [h.len]

theorem Arr.one {Zs : Array Value} {ys : List Int} (h : Arr Zs ys) : Zs.all (·.oneCell') = true := by
  rw [h.eq, Array.all_eq_true_iff_forall_mem]
  intro v hv
  simp at hv
  obtain ⟨x, _, rfl⟩ := hv
  rfl

theorem Arr.get {Zs : Array Value} {ys : List Int} (h : Arr Zs ys) (i : Nat) (hi : i < 152) : Zs[i]? = some (.int .i64 (ys.getD i 0)) := by
  rw [h.eq]
  have := h.len
  simp [List.getD, show i < ys.length by omega]

theorem Arr.info {Zs : Array Value} {ys : List Int} (h : Arr Zs ys) : (Tryd.prog.info? 45).map (·.size) = some Zs.size := by
  rw [h.size]; kernel_rfl

theorem Arr.old {Zs : Array Value} {ys : List Int} (h : Arr Zs ys) : Tryd.zeroCells45.size = Zs.size := by
  rw [h.size]; kernel_rfl

def ByPost (f : Int) (xs : List Int) (w : World) (e : Ending) (w' : World) : Prop := ∃ Zs, e = .returned (.agg Zs) ∧ Arr Zs (byL f xs) ∧ Below w.heap.size w w'

theorem byAge_r (f : Int) (xs : List Int) (a : Option Addr) (l c : Nat) (w : World) (h : Ints w a l xs) (ht : LTab f xs) :
    Calls Tryd.prog 26 #[.agg #[.int .i64 f, .slice a l c]] w (ByPost f xs w) :=
  (byAge_any f xs a l c w h ht).mono fun e w' ⟨he, hb⟩ => ⟨_, he, ⟨rfl, byL_len _ _ (by have := ht.fit; omega)⟩, hb⟩

/-- a cell of a block that was laid with the array -/
theorem Arr.cell {Zs : Array Value} {ys : List Int} (h : Arr Zs ys) (w : World) (i : Nat) (hi : i < 152) : (w.alloc (.cells Zs 45)).cell? ⟨w.heap.size, i, none⟩ = some (.int .i64 (ys.getD i 0)) := by
  rw [World.cell?_alloc_new]; exact h.get i hi

end Go.Proofs.YtonkaoacohocjaaDoor

/- CommonFactor of the program and of its model: what each call returns (the greatest common divisor), one Lean function for both. -/
namespace Go.Proofs.YtonkaoacohocjaaDoor
open Go.ChangeShapes Go.WideShapes Go.ChangeAt Go.RowKit
set_option linter.unusedVariables false

def gcdI (a b : Int) : Int := ((Nat.gcd a.toNat b.toNat : Nat) : Int)

theorem gcdI_zero (a : Int) (h : 0 ≤ a) : gcdI a 0 = a := by unfold gcdI; simp; omega

theorem gcdI_step (a b : Int) (ha : 0 ≤ a) (hb : 0 < b) : gcdI b (a % b) = gcdI a b := by
  unfold gcdI
  obtain ⟨x, rfl⟩ := Int.eq_ofNat_of_zero_le ha
  obtain ⟨y, rfl⟩ := Int.eq_ofNat_of_zero_le (show 0 ≤ b by omega)
  have e : ((x : Int) % (y : Int)).toNat = x % y := by
    omega
  rw [e]
  simp only [Int.toNat_natCast]
  rw [Nat.gcd_comm y, ← Nat.gcd_rec, Nat.gcd_comm]

def cfB (a b : Int) : Bool := inB a 0 1000000000000 && inB b 0 1000000000000

def cfV (a b : Int) : Int := if cfB a b then gcdI a b else 0

def cfE (a b : Int) : Int := if cfB a b then 0 else 2

end Go.Proofs.YtonkaoacohocjaaDoor

/- Fractions in lowest terms; who lives: what the calls return. -/
namespace Go.Proofs.YtonkaoacohocjaaDoor
open Go.ChangeShapes Go.WideShapes Go.ChangeAt Go.RowKit
set_option linter.unusedVariables false
set_option maxRecDepth 100000

theorem gcdI_pos (a b : Int) (ha : 0 ≤ a) (hb : 1 ≤ b) : 1 ≤ gcdI a b := by
  unfold gcdI
  have : 0 < Nat.gcd a.toNat b.toNat := Nat.gcd_pos_of_pos_right _ (by omega)
  omega

theorem gcdI_ge (a b : Int) : 0 ≤ gcdI a b := by unfold gcdI; omega

theorem div_in (a g M : Int) (h0 : 0 ≤ a) (h1 : a ≤ M) (hg : 1 ≤ g) : 0 ≤ a / g ∧ a / g ≤ M := by
  have h2 := Int.ediv_nonneg h0 (show 0 ≤ g by omega)
  have h3 := Int.ediv_le_self g h0
  omega

/-! ### who lives -/

theorem LTab.dead {f : Int} {xs : List Int} (h : LTab f xs) (x : Int) (hx : f ≤ x) : lvs f xs x = 0 ↔ f + xs.length - 1 ≤ x := by
  constructor
  · intro h0
    by_cases hh : x + 1 < f + xs.length
    · have := h.lvs_pos x hh hx; omega
    · omega
  · intro h0; exact h.lvs_zero x (by omega)

/-- .. and no lives are left at the age -/
def clE (f : Int) (xs : List Int) (x y : Int) : Int := if chE f xs x y = 0 then (if lvs f xs x = 0 then 5 else 0) else chE f xs x y

theorem clE_n {f : Int} {xs : List Int} {x y : Int} (h : ¬ chE f xs x y = 0) : clE f xs x y = chE f xs x y := by simp [clE, h]

theorem clE_5 {f : Int} {xs : List Int} {x y : Int} (h : chE f xs x y = 0) (g : lvs f xs x = 0) : clE f xs x y = 5 := by simp [clE, h, g]

theorem clE_0 {f : Int} {xs : List Int} {x y : Int} (h : chE f xs x y = 0) (g : ¬ lvs f xs x = 0) : clE f xs x y = 0 := by simp [clE, h, g]

theorem clE_iff {f : Int} {xs : List Int} {x y : Int} : clE f xs x y = 0 ↔ LTab f xs ∧ (f ≤ x ∧ x ≤ 150) ∧ (0 ≤ y ∧ y ≤ 150) ∧ ¬ lvs f xs x = 0 := by
  unfold clE
  split
  · next h =>
    obtain ⟨h1, h2, h3⟩ := chE_iff.1 h
    split
    · next g => simp [g]
    · next g => simp [h1, h2, h3, g]
  · next h =>
    constructor
    · intro e; exact absurd e h
    · rintro ⟨a, b, c, _⟩; exact chE_iff.2 ⟨a, b, c⟩

end Go.Proofs.YtonkaoacohocjaaDoor

/- LivesAt, DeathsAt and SurvivalOf of the program: what the calls return. -/
namespace Go.Proofs.YtonkaoacohocjaaDoor
open Go.ChangeShapes Go.WideShapes Go.ChangeAt Go.RowKit
set_option linter.unusedVariables false
set_option maxRecDepth 100000

theorem index152 (Zs : Array Value) (x : Int) (v : Int) (x0 : 0 ≤ x) (x1 : x < 152) (h : Zs[x.toNat]? = some (.int .i64 v)) (W : World) :
    (Instr.index 45 (.agg Zs) (.int .i64 x)).run Tryd.prog W = .ok (.int .i64 v) W := by
  simp [Instr.index, run_underlying und152, asIntOf, x0, x1, go_sem, h]

/-- the array is laid into a new block -/
theorem Arr.laid {Zs : Array Value} {ys : List Int} (h : Arr Zs ys) {w : World} {ops : Array Oper} {rest : List Oper} {o : Oper} {a : Act} {Q : Exit → Act → World → Prop} (hgd : o.guard = none) (x y : Operand) (ho : o.op = .store 45 x y)
    (hx : a.eval x = .pointer (some ⟨w.heap.size, 0, none⟩)) (hy : a.eval y = .agg Zs) (hk : wpList Tryd.prog ops Q rest (a.put o.dst undef) (w.alloc (.cells Zs 45))) :
    wpList Tryd.prog ops Q (o :: rest) a (w.alloc (.cells Tryd.zeroCells45 45)) :=
  wpList_store_row hgd 45 x y ho w.heap.size Zs hx hy 45 _ (heap_alloc_new _ _) h.info h.old h.one (by rw [World.setRow_alloc_new]; exact hk)

theorem la_impl (f : Int) (xs : List Int) (a : Option Addr) (l c : Nat) (x : Int) (w : World) (h : Ints w a l xs) (hlc : l ≤ c) :
    Calls Tryd.prog 10 #[.agg #[.int .i64 f, .slice a l c], .int .i64 x] w fun e w' => e = .returned (.tuple #[.int .i64 (laV f xs x), .int .i64 (ageE f xs x)]) ∧ Below w.heap.size w w' := by
  have HC := Lib.hid (check_any f xs a l c x 0 (w.alloc (.cells #[.int .i64 f, .slice a l c] 26)) (h.on (box_b _ _)) hlc)
  rw [chE_age] at HC
  have H := Lib.hid h
  clear h
  by_cases h0 : ageE f xs x = 0
  · obtain ⟨ht, x0, x1⟩ := ageE_iff.1 h0
    obtain ⟨f0, f1⟩ := ht.1
    have HT := Lib.hid ht
    have HV := Lib.hid (laV_0 h0)
    have HE := Lib.hid h0
    rw [h0] at HC
    obtain ⟨v, hv⟩ : ∃ v, lvs f xs x = v := ⟨_, rfl⟩
    have HVV := Lib.hid hv
    clear ht h0 hv
    go_enter Tryd.func10, Tryd.ntmps10
    go_wp2_with fail
    refine HC.out.mono ?_
    rintro e w1 ⟨rfl, hb⟩
    obtain ⟨hB, hc0, hc1⟩ := box2 hb
    have HB := Lib.hid hB
    clear hB hb
    go_wp2_with fail
    refine (byAge_r f xs _ _ _ _ (H.out.on HB.out) HT.out).mono ?_
    rintro e w2 ⟨Zs, rfl, hz, hb⟩
    have HB2 := Lib.hid (HB.out.trans (hb.mono HB.out.size))
    have hix := index152 Zs x v (by omega) (by omega) (by rw [hz.get _ (by omega), HT.out.by x x0, HVV.out])
    clear hb hz
    go_wp2_with fail
    go_ret2
    exact ⟨ret_ii (by rw [HV.out, HVV.out]) HE.out.symm, HB2.out⟩
  · have HV := Lib.hid (laV_n h0)
    obtain ⟨E, hE⟩ : ∃ E, ageE f xs x = E := ⟨_, rfl⟩
    rw [hE] at h0 HC ⊢
    have hne : (E != 0) = true := by simpa using h0
    clear h0 hE
    go_enter Tryd.func10, Tryd.ntmps10
    go_wp2_with fail
    refine HC.out.mono ?_
    rintro e w1 ⟨rfl, hb⟩
    obtain ⟨hB, hc0, hc1⟩ := box2 hb
    have HB := Lib.hid hB
    clear hB hb
    go_wp2_with fail
    go_ret2
    exact ⟨ret_ii HV.out.symm rfl, HB.out⟩

theorem da_impl (f : Int) (xs : List Int) (a : Option Addr) (l c : Nat) (x : Int) (w : World) (h : Ints w a l xs) (hlc : l ≤ c) :
    Calls Tryd.prog 8 #[.agg #[.int .i64 f, .slice a l c], .int .i64 x] w fun e w' => e = .returned (.tuple #[.int .i64 (daV f xs x), .int .i64 (ageE f xs x)]) ∧ Below w.heap.size w w' := by
  have HC := Lib.hid (check_any f xs a l c x 0 (w.alloc (.cells #[.int .i64 f, .slice a l c] 26)) (h.on (box_b _ _)) hlc)
  rw [chE_age] at HC
  have H := Lib.hid h
  clear h
  by_cases h0 : ageE f xs x = 0
  · obtain ⟨ht, x0, x1⟩ := ageE_iff.1 h0
    obtain ⟨f0, f1⟩ := ht.1
    have HT := Lib.hid ht
    have HV := Lib.hid (daV_0 h0)
    have HE := Lib.hid h0
    rw [h0] at HC
    obtain ⟨b11, b12⟩ := ht.lvs_bd x
    obtain ⟨b21, b22⟩ := ht.lvs_bd (x + 1)
    obtain ⟨u, hu⟩ : ∃ u, lvs f xs x = u := ⟨_, rfl⟩
    obtain ⟨v, hv⟩ : ∃ v, lvs f xs (x + 1) = v := ⟨_, rfl⟩
    rw [hu] at b11 b12
    rw [hv] at b21 b22
    have HU := Lib.hid hu
    have HVV := Lib.hid hv
    have q1 : IntKind.i64.wrap (x + 1) = x + 1 := IntWalk.i64_in _ (by omega)
    have q2 : IntKind.i64.wrap (u - v) = u - v := IntWalk.i64_in _ (by omega)
    have p0 : 0 ≤ x := by omega
    have p1 : 0 ≤ x + 1 := by omega
    have p2 : x < 152 := by omega
    have p3 : x + 1 < 152 := by omega
    clear ht h0 hu hv
    go_enter Tryd.func8, Tryd.ntmps8
    go_wp2_with fail
    refine HC.out.mono ?_
    rintro e w1 ⟨rfl, hb⟩
    obtain ⟨hB, hc0, hc1⟩ := box2 hb
    have HB := Lib.hid hB
    clear hB hb
    go_wp2_with fail
    refine (byAge_r f xs _ _ _ _ (H.out.on HB.out) HT.out).mono ?_
    rintro e w2 ⟨Zs, rfl, hz, hb⟩
    have HB2 := Lib.hid (HB.out.trans (hb.mono HB.out.size))
    have hx := hz.cell w2 x.toNat (by omega)
    have hy := hz.cell w2 (x + 1).toNat (by omega)
    rw [HT.out.by x x0, HU.out] at hx
    rw [HT.out.by (x + 1) (by omega), HVV.out] at hy
    have HZ := Lib.hid hz
    clear hb hz
    go_wp2_with (refine HZ.out.laid rfl (.tmp 7) (.tmp 15) rfl rfl rfl ?_)
    go_quiet (fail)
    go_wp2_with fail
    go_ret2
    exact ⟨ret_ii (by rw [HV.out, HU.out, HVV.out]) HE.out.symm, below_drewN (HB2.out.alloc HB2.out.size _) _⟩
  · have HV := Lib.hid (daV_n h0)
    obtain ⟨E, hE⟩ : ∃ E, ageE f xs x = E := ⟨_, rfl⟩
    rw [hE] at h0 HC ⊢
    have hne : (E != 0) = true := by simpa using h0
    clear h0 hE
    go_enter Tryd.func8, Tryd.ntmps8
    go_wp2_with fail
    refine HC.out.mono ?_
    rintro e w1 ⟨rfl, hb⟩
    obtain ⟨hB, hc0, hc1⟩ := box2 hb
    have HB := Lib.hid hB
    clear hB hb
    go_wp2_with fail
    go_ret2
    exact ⟨ret_ii HV.out.symm rfl, HB.out⟩

end Go.Proofs.YtonkaoacohocjaaDoor

/- SurvivalOf of the program and of its model: what the calls return. -/
namespace Go.Proofs.YtonkaoacohocjaaDoor
open Go.ChangeShapes Go.WideShapes Go.ChangeAt Go.RowKit
set_option linter.unusedVariables false
set_option maxRecDepth 100000

theorem clE_code {f : Int} {xs : List Int} {x y : Int} (h : ¬ ageE f xs x = 0) : clE f xs x y = ageE f xs x := by
  have hn : ¬ chE f xs x y = 0 := fun e => h (ageE_iff.2 ⟨(chE_iff.1 e).1, (chE_iff.1 e).2.1⟩)
  rw [clE_n hn]
  unfold chE ageE
  unfold ageE at h
  simp only [inB_iff]
  split
  · next ht =>
    rw [if_pos ht] at h
    by_cases hh : f ≤ x ∧ x ≤ 150
    · exact absurd (if_pos hh) h
    · rw [if_neg hh, if_neg (fun e => hh e.1)]
  · rfl

theorem clE_2 {f : Int} {xs : List Int} {x y : Int} (h : ageE f xs x = 0) (g : ¬ inB y 0 150 = true) : clE f xs x y = 2 := by
  obtain ⟨a, b⟩ := ageE_iff.1 h
  have e : chE f xs x y = 2 := chE_2 (ltB_t a) (fun hh => g hh.2)
  rw [clE_n (by omega), e]

theorem chE_ok {f : Int} {xs : List Int} {x y : Int} (h : ageE f xs x = 0) (g : inB y 0 150 = true) : chE f xs x y = 0 := by
  obtain ⟨a, b⟩ := ageE_iff.1 h
  exact chE_iff.2 ⟨a, b, (inB_iff _ _ _).1 g⟩

/-- the share of the lives at an age that are left, in lowest terms -/
def svN (f : Int) (xs : List Int) (x y : Int) : Int := if clE f xs x y = 0 then lvs f xs (x + y) / gcdI (lvs f xs (x + y)) (lvs f xs x) else 0

def svD (f : Int) (xs : List Int) (x y : Int) : Int := if clE f xs x y = 0 then lvs f xs x / gcdI (lvs f xs (x + y)) (lvs f xs x) else 0

theorem sv_n {f : Int} {xs : List Int} {x y : Int} (h : ¬ clE f xs x y = 0) : svN f xs x y = 0 ∧ svD f xs x y = 0 := by simp [svN, svD, h]

theorem sv_0 {f : Int} {xs : List Int} {x y u v : Int} (h : clE f xs x y = 0) (hu : lvs f xs (x + y) = u) (hv : lvs f xs x = v) : svN f xs x y = u / gcdI u v ∧ svD f xs x y = v / gcdI u v := by
  simp [svN, svD, h, hu, hv]

theorem ret_iii {a b c d e f : Int} (h : a = b) (g : c = d) (k : e = f) : Ending.returned (.tuple #[.int .i64 a, .int .i64 c, .int .i64 e]) = .returned (.tuple #[.int .i64 b, .int .i64 d, .int .i64 f]) := by rw [h, g, k]

end Go.Proofs.YtonkaoacohocjaaDoor

/- MakeTable of the program: what the calls return. -/
namespace Go.Proofs.YtonkaoacohocjaaDoor
open Go.ChangeShapes Go.WideShapes Go.ChangeAt Go.RowKit
set_option linter.unusedVariables false
set_option maxRecDepth 100000

theorem one_newT (w : World) (x : Int) : ∀ j u, [Value.int .i64 x][j]? = some u → (w.alloc (.cells #[.int .i64 x] 2)).cell? ((⟨w.heap.size, 0, none⟩ : Addr).add j) = some u := by
  intro j u hj
  match j, hj with
  | 0, hj => simp at hj; subst hj; simp [Addr.add]

theorem ownI_one (w : World) (x : Int) : OwnI w.heap.size (w.alloc (.cells #[.int .i64 x] 2)) (.slice (some ⟨w.heap.size, 0, none⟩) 1 1) [x] :=
  World.ownsRow_lit w #[.int .i64 x] 1 (Nat.le_refl _) (by unfold maxLen; omega) rfl

/-- cells of a block that may be written -/
structure RowI (w : World) (g off : Nat) (ys : List Int) : Prop where
  cell : ∀ i, i < ys.length → w.cell? ⟨g, off + i, none⟩ = some (.int .i64 (ys.getD i 0))
  free : ∀ i, i < ys.length → w.frozen? ⟨g, off + i, none⟩ = false

theorem RowI.below {w w1 : World} {g off B : Nat} {ys : List Int} (h : RowI w g off ys) (hb : Below B w w1) (hg : g < B) : RowI w1 g off ys :=
  ⟨fun i hi => (hb.cell (p := ⟨g, off + i, none⟩) hg).trans (h.cell i hi), fun i hi => (hb.frozen (p := ⟨g, off + i, none⟩) hg).trans (h.free i hi)⟩

theorem RowI.lt {w : World} {g off : Nat} {ys : List Int} (h : RowI w g off ys) (hl : 0 < ys.length) : g < w.heap.size := block_lt (h.cell 0 hl)

theorem RowI.on {w w1 : World} {g off : Nat} {ys : List Int} (h : RowI w g off ys) (hb : Below w.heap.size w w1) : RowI w1 g off ys := by
  by_cases hl : 0 < ys.length
  · exact h.below hb (h.lt hl)
  · exact ⟨fun i hi => by omega, fun i hi => by omega⟩

theorem RowI.only {w w1 : World} {g off B : Nat} {ys : List Int} (h : RowI w g off ys) (hb : Only B w w1) (hg : g ≠ B) : RowI w1 g off ys :=
  ⟨fun i hi => (hb.cell (p := ⟨g, off + i, none⟩) hg).trans (h.cell i hi), fun i hi => (hb.frozen (p := ⟨g, off + i, none⟩) hg).trans (h.free i hi)⟩

theorem RowI.ints {w : World} {g off l : Nat} {ys : List Int} (h : RowI w g off ys) (hl : ys.length = l) (hm : l ≤ 4611686018427387904) : Ints w (some ⟨g, off, none⟩) l ys :=
  ⟨hl, hm, .inr ⟨g, off, rfl, fun i hi => h.cell i (by omega)⟩⟩

theorem OwnI.row {base g c : Nat} {w : World} {xs : List Int} (h : OwnI base w (.slice (some ⟨g, 0, none⟩) xs.length c) xs) : RowI w g 0 xs := by
  have hh := h
  obtain ⟨_, h0 | ⟨g', cap, cur, hv, _, hb, _⟩⟩ := h
  · exact absurd h0.1 (by simp)
  · simp only [Value.slice.injEq, Option.some.injEq, Addr.mk.injEq] at hv
    obtain ⟨⟨rfl, _⟩, _⟩ := hv
    refine ⟨fun i hi => ?_, fun i _ => frozen_of_row w _ _ _ _ hb⟩
    rw [Nat.zero_add, hh.cellAt i (by omega)]
    simp [List.getD, hi]

/-- a list that a call has made: where it lies, what it holds -/
def Made (w : World) (xs : List Int) (v : Value) (w' : World) : Prop := ∃ g c, v = .slice (some ⟨g, 0, none⟩) xs.length c ∧ xs.length ≤ c ∧ w.heap.size ≤ g ∧ RowI w' g 0 xs ∧ Below w.heap.size w w'

theorem OwnI.made {w w' : World} {v : Value} {xs : List Int} (h : OwnI w.heap.size w' v xs) (hb : Below w.heap.size w w') (hl : 0 < xs.length) : Made w xs v w' := by
  have hh := h
  obtain ⟨_, ⟨rfl, h0⟩ | ⟨g, cap, cur, rfl, hg, hc, hn, hcap, _⟩⟩ := h
  · omega
  · exact ⟨g, cap, rfl, hn, hg, hh.row, hb⟩

/-- rates of a table -/
def rtB (rs : List Int) : Bool := rs.all fun r => inB r 0 1000

theorem rtB_iff (rs : List Int) : rtB rs = true ↔ ∀ r ∈ rs, 0 ≤ r ∧ r ≤ 1000 := by
  unfold rtB; rw [List.all_eq_true]
  exact ⟨fun h r hr => (inB_iff _ _ _).1 (h r hr), fun h r hr => (inB_iff _ _ _).2 (h r hr)⟩

theorem du_1000 (a : Int) (h0 : 0 ≤ a) (h1 : a ≤ 1000000000) : duV a 1000 = up1000 a := by
  have : ddB a 1000 = true := (ddB_iff _ _).2 (by omega)
  simp [duV, this, up1000]

end Go.Proofs.YtonkaoacohocjaaDoor

/- MakeTable of the program: what the calls return. -/
namespace Go.Proofs.YtonkaoacohocjaaDoor
open Go.ChangeShapes Go.WideShapes Go.ChangeAt Go.RowKit
set_option linter.unusedVariables false
set_option maxRecDepth 100000

/-- whether a table is made of these -/
def mkB (f L : Int) (rs : List Int) : Bool := inB f 0 100 && inB L 1 1000000 && (decide (rs.length ≤ 118) && decide ((rs.length : Int) ≤ 149 - f)) && rtB rs

theorem mkB_iff (f L : Int) (rs : List Int) : mkB f L rs = true ↔ (0 ≤ f ∧ f ≤ 100) ∧ (1 ≤ L ∧ L ≤ 1000000) ∧ (rs.length ≤ 118 ∧ (rs.length : Int) ≤ 149 - f) ∧ ∀ r ∈ rs, 0 ≤ r ∧ r ≤ 1000 := by
  unfold mkB
  simp only [Bool.and_eq_true, inB_iff, rtB_iff, decide_eq_true_iff]
  constructor
  · rintro ⟨⟨⟨a, b⟩, c⟩, d⟩; exact ⟨a, b, c, d⟩
  · rintro ⟨a, b, c, d⟩; exact ⟨⟨⟨a, b⟩, c⟩, d⟩

theorem mkB_no {f L : Int} {rs : List Int} (h : mkB f L rs = true → False) : mkB f L rs = false := by
  rw [Bool.eq_false_iff]; exact h

def MkPost (f L : Int) (rs : List Int) (w : World) (e : Ending) (w' : World) : Prop :=
  (mkB f L rs = true ∧ ∃ v, e = .returned (.tuple #[.agg #[.int .i64 f, v], .int .i64 0]) ∧ Made w (mkL L rs) v w') ∨
  (mkB f L rs = false ∧ e = .returned (.tuple #[.agg #[.int .i64 0, .slice none 0 0], .int .i64 2]) ∧ Below w.heap.size w w')

theorem MkPost.bad {f L : Int} {rs : List Int} {w w' : World} (h : mkB f L rs = false) (hb : Below w.heap.size w w') : MkPost f L rs w (.returned (.tuple #[.agg #[.int .i64 0, .slice none 0 0], .int .i64 2])) w' := .inr ⟨h, rfl, hb⟩

theorem two_set (w : World) (x y u v : Value) (T : TypeId) : (((w.alloc (.cells #[x, y] T)).setCell ⟨w.heap.size, 0, none⟩ u).setCell ⟨w.heap.size, 1, none⟩ v).cell? ⟨w.heap.size, 0, none⟩ = some u ∧ (((w.alloc (.cells #[x, y] T)).setCell ⟨w.heap.size, 0, none⟩ u).setCell ⟨w.heap.size, 1, none⟩ v).cell? ⟨w.heap.size, 1, none⟩ = some v := by
  constructor <;> go_simp

end Go.Proofs.YtonkaoacohocjaaDoor
