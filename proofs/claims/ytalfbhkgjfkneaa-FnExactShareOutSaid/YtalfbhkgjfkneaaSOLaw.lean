/- The exact law on ShareOut: the program answers as its model, writes into no argument, its answer owns its memory. -/
import Derived.Test.YtalfbhkgjfkneaaSpecSO
namespace Go.Proofs.Ytalfbhkgjfkneaa
open Go.ChangeShapes Go.WideShapes Go.ChangeAt Go.RowKit
set_option linter.unusedVariables false

theorem ints_nil (w : World) : Ints w none 0 [] := ⟨rfl, by omega, .inl rfl⟩

theorem so_case (A : Int) (xs : List Int) : shB A xs = false ∨ (shB A xs = true ∧ xs.sum = 0) ∨ (shB A xs = true ∧ xs.sum ≠ 0) := by
  by_cases hb : shB A xs = true
  · by_cases hz : xs.sum = 0
    · exact .inr (.inl ⟨hb, hz⟩)
    · exact .inr (.inr ⟨hb, hz⟩)
  · exact .inl (by simpa using hb)

/-- no shares: both answer nil and the same code -/
theorem solaw_nil (E : Int) (a0 : Int) (xs : List Int) (al : Option Addr) (len0 cap0 : Nat) (w : World) (h : Ints w al len0 xs) (hbig : ¬ (1048576 : Int) < len0)
    (hs : Hid (∀ (a : Option Addr) (l c : Nat) (w : World), Ints w a l xs → Calls Try.prog 16 #[.int .i64 a0, .slice a l c] w fun e w' => e = .returned (.tuple #[.slice none 0 0, .int .i64 E]) ∧ w = w'))
    (hi : Hid (∀ (a : Option Addr) (l c : Nat) (w : World), Ints w a l xs → Calls Try.prog 15 #[.int .i64 a0, .slice a l c] w fun e w' => e = .returned (.tuple #[.slice none 0 0, .int .i64 E]) ∧ w = w')) :
    Calls Try.prog 4 #[.int .i64 a0, .slice al len0 cap0] w fun e w' => e = .returned (.bool true) ∧ Below w.heap.size w w' := by
  have H := Lib.hid h
  have HL := Lib.hid h.len
  clear h
  go_enter Try.func4, Try.ntmps4
  go_wp2_with fail
  refine (toS_any xs _ _ _ _ H.out (by omega)).mono ?_
  rintro e w1 ⟨rfl, hb1, hz1, hB1⟩
  have HB1 := Lib.hid hB1; have HK1 := Lib.hid hb1; have H1 := Lib.hid (H.out.step hB1)
  clear hb1 hz1 hB1
  go_wp2_with fail
  refine (hs.out _ _ _ _ (HK1.out.ints HL.out (by omega))).mono ?_
  rintro e w' ⟨rfl, rfl⟩
  go_wp2_with fail
  refine (toS_any xs _ _ _ _ H1.out (by omega)).mono ?_
  rintro e w2 ⟨rfl, hb2, hz2, hB2⟩
  have HB2 := Lib.hid (HB1.out.trans (hB2.mono HB1.out.size)); have HK2 := Lib.hid hb2; have H2 := Lib.hid (H1.out.step hB2)
  clear hb2 hz2 hB2
  go_wp2_with fail
  refine (hi.out _ _ _ _ (HK2.out.ints HL.out (by omega))).mono ?_
  rintro e w' ⟨rfl, rfl⟩
  go_wp2_with fail
  refine (eqS_any [] [] _ _ _ _ _ _ _ (ints_nil _) (ints_nil _)).mono ?_
  rintro e w4 ⟨rfl, n4, rfl⟩
  have HB4 := Lib.hid (below_drewN HB2.out n4); have HK4 := Lib.hid (HK2.out.drewN n4); have H4 := Lib.hid (H2.out.drewN n4)
  obtain ⟨w4, hw4⟩ : ∃ x, x = w2.drewN n4 := ⟨_, rfl⟩
  rw [← hw4] at HB4 HK4 H4 ⊢
  clear hw4
  go_wp2_with fail
  refine (toS_any xs _ _ _ _ H4.out (by omega)).mono ?_
  rintro e w5 ⟨rfl, hb5, hz5, hB5⟩
  have HB5 := Lib.hid (HB4.out.trans (hB5.mono HB4.out.size)); have HK5 := Lib.hid hb5; have H5 := Lib.hid (H4.out.step hB5); have HK4 := Lib.hid (HK4.out.step hB5)
  clear hb5 hz5 hB5
  go_wp2_with fail
  refine (eqS_any xs xs _ _ _ _ _ _ _ (HK4.out.ints HL.out (by omega)) (HK5.out.ints HL.out (by omega))).mono ?_
  rintro e w6 ⟨rfl, n6, rfl⟩
  have HB6 := Lib.hid (below_drewN HB5.out n6); have HK6 := Lib.hid (HK4.out.drewN n6); have H6 := Lib.hid (H5.out.drewN n6)
  obtain ⟨w6, hw6⟩ : ∃ x, x = w5.drewN n6 := ⟨_, rfl⟩
  rw [← hw6] at HB6 HK6 H6 ⊢
  clear hw6
  go_wp2_with fail
  refine (mark_any xs _ _ _ 1 _ HK6.out HL.out (by omega) (by omega) (by omega)).mono ?_
  rintro e w7 ⟨rfl, hk7, ho7⟩
  have HB7 := Lib.hid (HB6.out.trans (ho7.below HB1.out.size))
  clear hk7 ho7
  go_wp2_with fail
  refine (eqS_any [] [] _ _ _ _ _ _ _ (ints_nil _) (ints_nil _)).mono ?_
  rintro e w' ⟨rfl, n8, rfl⟩
  have HB8 := Lib.hid (below_drewN HB7.out n8)
  obtain ⟨w8, hw8⟩ : ∃ x, x = w7.drewN n8 := ⟨_, rfl⟩
  rw [← hw8] at HB8 ⊢
  clear hw8
  go_wp2_with (first | (go_at_call 21; refine (mark_nil _ _ _ _).mono ?_; rintro e w' ⟨rfl, rfl⟩) | (go_at_call 22; refine (held_any _ 0 _ _ _ (ints_nil _) (by omega) (by omega) (by omega)).mono ?_; rintro e w' ⟨rfl, rfl⟩))
  refine (toS_any xs _ _ _ _ (H.out.step HB8.out) (by omega)).mono ?_
  rintro e w9 ⟨rfl, hb9, hz9, hB9⟩
  have HB9 := Lib.hid (HB8.out.trans (hB9.mono HB8.out.size)); have HK9 := Lib.hid hb9
  clear hb9 hz9 hB9
  go_wp2_with fail
  refine (hi.out _ _ _ _ (HK9.out.ints HL.out (by omega))).mono ?_
  rintro e w' ⟨rfl, rfl⟩
  go_wp2_with fail
  refine (eqS_any [] [] _ _ _ _ _ _ _ (ints_nil _) (ints_nil _)).mono ?_
  rintro e w' ⟨rfl, n10, rfl⟩
  have HB10 := Lib.hid (below_drewN HB9.out n10)
  go_wp2_with (first | (go_at_call 22; refine (held_any _ 0 _ _ _ (ints_nil _) (by omega) (by omega) (by omega)).mono ?_; rintro e w' ⟨rfl, rfl⟩))
  go_ret
  exact ⟨rfl, HB10.out⟩

set_option maxRecDepth 100000 in
set_option maxHeartbeats 1000000 in
theorem solaw_good (A : Int) (xs : List Int) (al : Option Addr) (len0 cap0 : Nat) (w : World) (h : Ints w al len0 xs) (hbig : ¬ (1048576 : Int) < len0) (hb : shB A xs = true) (hz : xs.sum ≠ 0) :
    Calls Try.prog 4 #[.int .i64 A, .slice al len0 cap0] w fun e w' => e = .returned (.bool true) ∧ Below w.heap.size w w' := by
  have H := Lib.hid h
  have HL := Lib.hid h.len
  have HSB := Lib.hid hb
  have HSZ := Lib.hid hz
  clear h hb hz
  go_enter Try.func4, Try.ntmps4
  go_wp2_with fail
  refine (toS_any xs _ _ _ _ H.out (by omega)).mono ?_
  rintro e w1 ⟨rfl, hb1, hz1, hB1⟩
  have HB1 := Lib.hid hB1; have HK1 := Lib.hid hb1
  clear hb1 hz1 hB1
  go_wp2_with fail
  refine (shs_good A xs _ _ _ _ (HK1.out.ints HL.out (by omega)) HSB.out HSZ.out).mono ?_
  rintro e w2 ⟨gs, cs, ys, rfl, hown, hyl, hbel, hall⟩
  have HB2 := Lib.hid (HB1.out.trans (hbel.mono HB1.out.size))
  have HY := Lib.hid hyl
  have HALL := Lib.hid hall
  have HGS : Hid (gs < w2.heap.size) := Lib.hid (World.ownsRow.lt hown gs rfl).2
  have HI2 : Hid (Ints w2 (some ⟨gs, 0, none⟩) len0 ys) := Lib.hid (by
    obtain ⟨a1, c3, e3, h3⟩ := hown.ints (by rw [hyl]; omega)
    simp only [Value.slice.injEq] at e3
    obtain ⟨rfl, e4, rfl⟩ := e3
    rw [← e4] at h3; exact h3)
  clear hown hyl hbel hall
  go_wp2_with fail
  refine (toS_any xs _ _ _ _ (H.out.step HB2.out) (by omega)).mono ?_
  rintro e w3 ⟨rfl, hb3, hz3, hB3⟩
  have HB3 := Lib.hid (HB2.out.trans (hB3.mono HB2.out.size)); have HX3 := Lib.hid hb3; have HI3 := Lib.hid (HI2.out.step hB3)
  have HZ3 := Lib.hid hz3
  clear hb3 hz3 hB3
  go_wp2_with fail
  refine (sh_good A xs _ _ _ _ (HX3.out.ints HL.out (by omega)) HSB.out HSZ.out).mono ?_
  rintro e w4 ⟨rfl, g, hp, hsr, hblk, hB4⟩
  rw [← HALL.out g hp hsr] at hblk
  have HB4 := Lib.hid (HB3.out.trans (hB4.mono HB3.out.size)); have HX4 := Lib.hid (HX3.out.step hB4); have HI4 := Lib.hid (HI3.out.step hB4); have HG4 := Lib.hid hblk
  clear hp hsr hblk hB4
  go_wp2_with fail
  refine (eqS_any ys ys _ _ _ _ _ _ _ (HG4.out.ints HY.out (by omega)) HI4.out).mono ?_
  rintro e w' ⟨rfl, n5, rfl⟩
  have HB5 := Lib.hid (below_drewN HB4.out n5); have HX5 := Lib.hid (HX4.out.drewN n5); have HI5 := Lib.hid (HI4.out.drewN n5); have HG5 := Lib.hid (HG4.out.drewN n5)
  obtain ⟨w5, hw5⟩ : ∃ x, x = w4.drewN n5 := ⟨_, rfl⟩
  rw [← hw5] at HB5 HX5 HI5 HG5 ⊢
  clear hw5
  go_wp2_with fail
  refine (toS_any xs _ _ _ _ (H.out.step HB5.out) (by omega)).mono ?_
  rintro e w6 ⟨rfl, hb6, hz6, hB6⟩
  have HB6 := Lib.hid (HB5.out.trans (hB6.mono HB5.out.size)); have HK6 := Lib.hid hb6; have HX6 := Lib.hid (HX5.out.step hB6); have HI6 := Lib.hid (HI5.out.step hB6); have HG6 := Lib.hid (HG5.out.step hB6)
  clear hb6 hz6 hB6
  go_wp2_with fail
  refine (eqS_any xs xs _ _ _ _ _ _ _ (HX6.out.ints HL.out (by omega)) (HK6.out.ints HL.out (by omega))).mono ?_
  rintro e w' ⟨rfl, n7, rfl⟩
  have HB7 := Lib.hid (below_drewN HB6.out n7); have HX7 := Lib.hid (HX6.out.drewN n7); have HI7 := Lib.hid (HI6.out.drewN n7); have HG7 := Lib.hid (HG6.out.drewN n7)
  obtain ⟨w7, hw7⟩ : ∃ x, x = w6.drewN n7 := ⟨_, rfl⟩
  rw [← hw7] at HB7 HX7 HI7 HG7 ⊢
  clear hw7
  go_wp2_with fail
  refine (mark_any xs _ _ _ 1 _ HX7.out HL.out (by omega) (by omega) (by omega)).mono ?_
  rintro e w8 ⟨rfl, hk8, ho8⟩
  have HB8 := Lib.hid (HB7.out.trans (ho8.below HB2.out.size))
  have HI8 := Lib.hid (HI7.out.only ho8 (by intro x hx; cases hx; have := HGS.out; simp; omega))
  have HG8 := Lib.hid (HG7.out.only ho8 (by have := HZ3.out; omega))
  clear hk8 ho8
  go_wp2_with fail
  refine (eqS_any ys ys _ _ _ _ _ _ _ (HG8.out.ints HY.out (by omega)) HI8.out).mono ?_
  rintro e w' ⟨rfl, n9, rfl⟩
  have HB9 := Lib.hid (below_drewN HB8.out n9); have HI9 := Lib.hid (HI8.out.drewN n9); have HG9 := Lib.hid (HG8.out.drewN n9)
  obtain ⟨w9, hw9⟩ : ∃ x, x = w8.drewN n9 := ⟨_, rfl⟩
  rw [← hw9] at HB9 HI9 HG9 ⊢
  clear hw9
  go_wp2_with fail
  refine (mark_any ys _ _ _ 1 _ HG9.out HY.out (by omega) (by omega) (by omega)).mono ?_
  rintro e w10 ⟨rfl, hk10, ho10⟩
  have HB10 := Lib.hid (HB9.out.trans (ho10.below HB3.out.size))
  have HI10 := Lib.hid (HI9.out.only ho10 (by intro x hx; cases hx; have := HGS.out; have := HZ3.out; simp; omega))
  have HG10 := Lib.hid hk10
  clear hk10 ho10
  go_wp2_with (go_at_call 22; refine (held_any _ _ _ _ _ (HG10.out.ints (marks_len _ _) (by omega)) (by omega) (by omega) (by omega)).mono ?_; rintro e w' ⟨rfl, rfl⟩)
  refine (toS_any xs _ _ _ _ (H.out.step HB10.out) (by omega)).mono ?_
  rintro e w11 ⟨rfl, hb11, hz11, hB11⟩
  have HB11 := Lib.hid (HB10.out.trans (hB11.mono HB10.out.size)); have HK11 := Lib.hid hb11; have HI11 := Lib.hid (HI10.out.step hB11); have HG11 := Lib.hid (HG10.out.step hB11)
  clear hb11 hz11 hB11
  go_wp2_with fail
  refine (sh_good A xs _ _ _ _ (HK11.out.ints HL.out (by omega)) HSB.out HSZ.out).mono ?_
  rintro e w12 ⟨rfl, g2, hp, hsr, hblk, hB12⟩
  rw [← HALL.out g2 hp hsr] at hblk
  have HB12 := Lib.hid (HB11.out.trans (hB12.mono HB11.out.size)); have HI12 := Lib.hid (HI11.out.step hB12); have HG12 := Lib.hid (HG11.out.step hB12); have HK12 := Lib.hid hblk
  clear hp hsr hblk hB12
  go_wp2_with fail
  refine (eqS_any ys ys _ _ _ _ _ _ _ (HK12.out.ints HY.out (by omega)) HI12.out).mono ?_
  rintro e w' ⟨rfl, n13, rfl⟩
  have HB13 := Lib.hid (below_drewN HB12.out n13); have HG13 := Lib.hid (HG12.out.drewN n13)
  obtain ⟨w13, hw13⟩ : ∃ x, x = w12.drewN n13 := ⟨_, rfl⟩
  rw [← hw13] at HB13 HG13 ⊢
  clear hw13
  go_wp2_with (go_at_call 22; refine (held_any _ _ _ _ _ (HG13.out.ints (marks_len _ _) (by omega)) (by omega) (by omega) (by omega)).mono ?_; rintro e w' ⟨rfl, rfl⟩)
  go_ret
  exact ⟨rfl, HB13.out⟩

theorem fnExactShareOut_walk (a0 : Int) (a1 : Option Addr) (len1 cap1 : Nat) (z1 : List Int) (w : World) (w0 : (Lit.int .i64 a0).wf = true) (w1 : IsRow .i64 w a1 len1 cap1 z1) :
    Calls Try.prog 4 #[.int .i64 a0, .slice a1 len1 cap1] w fun e w' => e = .returned (.bool true) ∧ Below w.heap.size w w' := by
  by_cases hbig : (1048576 : Int) < len1
  · have := w1.len_le
    unfold maxLen at this
    go_enter Try.func4, Try.ntmps4
    go_wp2_with fail
    go_ret
    exact ⟨rfl, Below.refl _ _⟩
  · have h0 := w1.ints (by omega)
    obtain ⟨xs, hxs⟩ : ∃ xs, z1.take len1 = xs := ⟨_, rfl⟩
    rw [hxs] at h0
    rcases so_case a0 xs with hb | ⟨hb, hz⟩ | ⟨hb, hz⟩
    · exact solaw_nil 2 a0 xs _ _ _ _ h0 hbig (Lib.hid fun a l c w h => shs_bad a0 xs a l c w h hb) (Lib.hid fun a l c w h => sh_bad a0 xs a l c w h hb)
    · exact solaw_nil 5 a0 xs _ _ _ _ h0 hbig (Lib.hid fun a l c w h => shs_zero a0 xs a l c w h hb hz) (Lib.hid fun a l c w h => sh_zero a0 xs a l c w h hb hz)
    · exact solaw_good a0 xs _ _ _ _ h0 hbig hb hz

end Go.Proofs.Ytalfbhkgjfkneaa
