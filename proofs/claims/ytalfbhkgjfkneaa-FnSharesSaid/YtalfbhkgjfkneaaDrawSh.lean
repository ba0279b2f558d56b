/- The model's draw for ShareOut: an amount and a list of numbers, whatever they are. -/
import Derived.Test.YtalfbhkgjfkneaaSpecSO
namespace Go.Proofs.Ytalfbhkgjfkneaa
open Go.ChangeShapes Go.WideShapes Go.ChangeAt Go.RowKit
set_option linter.unusedVariables false

def AmtPost (w : World) (e : Ending) (w' : World) : Prop := ∃ A a l c xs, e = .returned (.tuple #[.int .i64 A, .slice a l c]) ∧ Ints w' a l xs ∧ l ≤ 4096 ∧ Below w.heap.size w w'

theorem Ints.but {w w' : World} {a : Option Addr} {l B : Nat} {xs : List Int} (h : Ints w a l xs) (ho : But B w w') (hne : ∀ x, a = some x → x.block ≠ B) : Ints w' a l xs := by
  have hlt := h.lt
  obtain ⟨h1, h2, h3⟩ := h
  refine ⟨h1, h2, ?_⟩
  rcases h3 with h0 | ⟨b, off, rfl, hc⟩
  · exact .inl h0
  · by_cases hl : l = 0
    · exact .inl hl
    · exact .inr ⟨b, off, rfl, fun i hi => by rw [ho.cell (p := ⟨b, off + i, none⟩) (hlt ⟨b, off, none⟩ rfl (by omega)) (hne ⟨b, off, none⟩ rfl)]; exact hc i hi⟩

/-- its shape, what it reads as, and where it lies -/
theorem OwnI.intsN {base : Nat} {w : World} {v : Value} {xs : List Int} (h : OwnI base w v xs) (hm : xs.length ≤ 4096) : ∃ a c, v = .slice a xs.length c ∧ Ints w a xs.length xs ∧ ∀ x, a = some x → base ≤ x.block := by
  have hh := h
  obtain ⟨h0, ⟨rfl, hn⟩ | ⟨g, cap, cur, rfl, hg, hb, r⟩⟩ := h
  · rw [hn]
    exact ⟨none, 0, rfl, ⟨by simpa using hn, by omega, .inl rfl⟩, fun x hx => by cases hx⟩
  · refine ⟨_, cap, rfl, ⟨rfl, by omega, .inr ⟨g, 0, rfl, fun i hi => ?_⟩⟩, fun x hx => by cases hx; exact hg⟩
    rw [Nat.zero_add, hh.cellAt i (by omega)]
    simp [List.getD, hi]

theorem make_zl (l : Nat) (n : Int) (h : n = l) (hl : l ≤ 1048576) (w : World) :
    (Instr.makeSlice 24 (.int .i64 n) (.int .i64 n)).run Try.prog w = .ok (.slice (some ⟨w.heap.size, 0, none⟩) l l) (w.alloc (zeroO l)) := by
  subst h; exact make_z l hl w

set_option maxRecDepth 100000 in
set_option maxHeartbeats 2000000 in
theorem drawSh (a : Option Addr) (l c : Nat) (z : List Int) (w : World) (hr : IsRow .u8 w a l c z) : Calls Try.prog 14 #[.slice a l c] w (AmtPost w) := by
  have HR := Lib.hid hr
  clear hr
  go_enter Try.func14, Try.ntmps14
  go_wp2_with fail
  refine (from_any _ _ _ z _ HR.out).mono ?_
  rintro e w1 ⟨rfl, hs, hz, hb⟩
  have HB := Lib.hid hb
  have HS := Lib.hid (ready_of HR.out hs hb)
  have HZ := Lib.hid hz
  have hown0 := ownI_new w1
  have hwz : w.heap.size < w1.heap.size := by omega
  clear hs hb hz
  go_wp2_with fail
  refine (next_r _ _ _ _ _ _ _ (HS.out.alloc _)).mono ?_
  rintro e w2 ⟨r, rfl, hd, ho, hs⟩
  have hbd := drawn_bd hd (by omega)
  have HO := Lib.hid (hown0.but ho hwz)
  have HW := Lib.hid (HB.out.trans (((Below.refl w.heap.size w1).alloc (by omega) (.cells #[] 2)).trans (ho.below (Nat.le_refl _) (by simp; omega))))
  have HS := Lib.hid hs
  have hw2 : w1.heap.size ≤ w2.heap.size := by have := ho.size; simp at this; omega
  clear hd ho hs hown0
  go_wp2_with fail
  go_loopw [5, 6] (fun v i wr => ∃ n xs, i = .int .i64 n ∧ 0 ≤ n ∧ n ≤ 9 ∧ xs.length + n.toNat ≤ 9 ∧ OwnI w1.heap.size wr v xs ∧ Hid (Ready w.heap.size a l c z wr) ∧ Hid (Below w.heap.size w wr) ∧ w1.heap.size ≤ wr.heap.size) (fun _ i _ => (intOf i).toNat)
  case atStart => exact ⟨r, [], rfl, hbd.1, by omega, by simp; omega, HO.out, HS, HW, hw2⟩
  case round =>
    obtain ⟨n, xs, rfl, hn0, hn12, hxs, hown, HS, HW, hwr⟩ := hrel
    by_cases hn : 0 < n
    · go_wp2_with fail
      refine (pick3 _ _ _ _ _ _ HS.out).mono ?_
      rintro e w3 ⟨q, rfl, hd, ho, hs⟩
      have hown := hown.but ho hwz
      have HW := Lib.hid (HW.out.trans (ho.below (Nat.le_refl _) (by omega)))
      have HS := Lib.hid hs
      have hwr : w1.heap.size ≤ w3.heap.size := Nat.le_trans hwr ho.size
      clear hd ho hs
      go_wp2_with fail
      refine (next_r _ _ _ _ _ _ _ HS.out).mono ?_
      rintro e w4 ⟨x, rfl, hd, ho, hs⟩
      have hown := hown.but ho hwz
      have HW := Lib.hid (HW.out.trans (ho.below (Nat.le_refl _) (by omega)))
      have HS := Lib.hid hs
      have hwr : w1.heap.size ≤ w4.heap.size := Nat.le_trans hwr ho.size
      clear hd ho hs
      go_wp2_with (at_builtin; refine wpList_app rfl _ _ rfl w1.heap.size _ xs x rfl (hown.alloc _) ⟨w4.heap.size, 0, none⟩ rfl (one_newA w4 x) (by omega) (by simp; omega) ?_)
      intro v' w5 hO hg hw
      have hbel := Lib.hid (((Below.refl w1.heap.size w4).alloc hwr _).grown hg (by simp; omega) fun k hk => (World.ownsRow.lt hown k hk).1)
      have HO5 := Lib.hid hO
      clear hO hg hw hown
      go_wp2_with fail
      go_roundw
      case rel => exact ⟨n - 1, xs ++ [x], by go_num, by omega, by omega, by simp; omega, HO5.out, Lib.hid (HS.out.below hbel.out hwz), Lib.hid (HW.out.trans (hbel.out.mono (by omega))), Nat.le_trans hwr hbel.out.size⟩
      case measure => simp [intOf]; omega
    · obtain rfl : n = 0 := by omega
      go_wp2_with fail
      refine (next_r _ _ _ _ _ _ _ HS.out).mono ?_
      rintro e w3 ⟨r, rfl, hd, ho, hs⟩
      have hown := hown.but ho hwz
      have HW := Lib.hid (HW.out.trans (ho.below (Nat.le_refl _) (by omega)))
      have HS := Lib.hid hs
      have hwr : w1.heap.size ≤ w3.heap.size := Nat.le_trans hwr ho.size
      clear hd ho hs
      by_cases hr : r = 0
      · subst hr
        go_wp2_with fail
        refine (pick3 _ _ _ _ _ _ HS.out).mono ?_
        rintro e w4 ⟨x, rfl, hd, ho, hs⟩
        have hown := hown.but ho hwz
        have HW := Lib.hid (HW.out.trans (ho.below (Nat.le_refl _) (by omega)))
        have HS := Lib.hid hs
        have hwr : w1.heap.size ≤ w4.heap.size := Nat.le_trans hwr ho.size
        clear hd ho hs
        go_wp2_with (at_builtin; refine wpList_app rfl _ _ rfl w1.heap.size _ xs x rfl (hown.alloc _) ⟨w4.heap.size, 0, none⟩ rfl (one_newA w4 x) (by omega) (by simp; omega) ?_)
        intro v' w9 hO hg hw
        have hbel := Lib.hid (((Below.refl w1.heap.size w4).alloc hwr _).grown hg (by simp; omega) fun k hk => (World.ownsRow.lt hown k hk).1)
        obtain ⟨al, cl, rfl, hI, hN⟩ := hO.intsN (by simp; omega)
        have HI := Lib.hid hI
        have HN := Lib.hid (show ∀ x, al = some x → x.block ≠ w.heap.size from fun x hx => by have := hN x hx; omega)
        have HW := Lib.hid (HW.out.trans (hbel.out.mono (by omega)))
        have HS := Lib.hid (HS.out.below hbel.out hwz)
        obtain ⟨ll, hll⟩ : ∃ ll, (xs ++ [x]).length = ll := ⟨_, rfl⟩
        rw [hll] at HI ⊢
        have HL := Lib.hid (show ll ≤ 4096 by simp at hll; omega)
        clear hO hg hw hown hI hN hll hbel
        go_wp2_with fail
        refine (next_r _ _ _ _ _ _ _ HS.out).mono ?_
        rintro e w10 ⟨r2, rfl, hd, ho, hs⟩
        have HI := Lib.hid (HI.out.but ho HN.out)
        have HW := Lib.hid (HW.out.trans (ho.below (Nat.le_refl _) HW.out.size))
        have HS := Lib.hid hs
        clear hd ho hs
        by_cases hr2 : r2 = 0
        · subst hr2
          go_wp2_with fail
          refine (pick4 _ _ _ _ _ _ _ HS.out).mono ?_
          rintro e w11 ⟨x2, rfl, hd, ho, hs⟩
          have HI := Lib.hid (HI.out.but ho HN.out)
          have HW := Lib.hid (HW.out.trans (ho.below (Nat.le_refl _) HW.out.size))
          clear hd ho hs
          go_wp2_with fail
          go_ret2
          exact ⟨_, _, _, _, _, rfl, HI.out, HL.out, HW.out⟩
        · have hrb2 : (r2 == 0) = false := by simpa using hr2
          go_wp2_with fail
          refine (pick3 _ _ _ _ _ _ HS.out).mono ?_
          rintro e w11 ⟨x2, rfl, hd, ho, hs⟩
          have HI := Lib.hid (HI.out.but ho HN.out)
          have HW := Lib.hid (HW.out.trans (ho.below (Nat.le_refl _) HW.out.size))
          have HS := Lib.hid hs
          clear hd ho hs
          go_wp2_with fail
          refine (next_r _ _ _ _ _ _ _ HS.out).mono ?_
          rintro e w12 ⟨x3, rfl, hd, ho, hs⟩
          have HI := Lib.hid (HI.out.but ho HN.out)
          have HW := Lib.hid (HW.out.trans (ho.below (Nat.le_refl _) HW.out.size))
          clear hd ho hs
          go_wp2_with fail
          go_ret2
          exact ⟨_, _, _, _, _, rfl, HI.out, HL.out, HW.out⟩
      · have hrb : (r == 0) = false := by simpa using hr
        by_cases hr1 : r = 1
        · subst hr1
          clear hrb
          go_wp2_with fail
          refine (next_r _ _ _ _ _ _ _ HS.out).mono ?_
          rintro e w4 ⟨q, rfl, hd, ho, hs⟩
          have hqb := drawn_bd hd (by omega)
          have HW := Lib.hid (HW.out.trans (ho.below (Nat.le_refl _) HW.out.size))
          have HS := Lib.hid hs
          clear hd ho hs hown
          have hqq : q = 0 ∨ q = 1 := by omega
          clear hqb
          rcases hqq with rfl | rfl
          · have hmk := make_zl 130 130 rfl (by omega) w4
            have hc3 : (w4.alloc (zeroO 130)).cell? ⟨w4.heap.size, 3, none⟩ = some (.int .i64 0) := (Blk.newz w4 130).cell 3 (by simp)
            have hf3 : (w4.alloc (zeroO 130)).frozen? ⟨w4.heap.size, 3, none⟩ = false := (Blk.newz w4 130).free 3
            go_wp2_with fail
            have hblk := (Blk.newz w4 130).set 3 5
            have hbel : Below w4.heap.size w4 ((w4.alloc (zeroO 130)).setCell ⟨w4.heap.size, 3, none⟩ (.int .i64 5)) := ((Below.refl _ _).alloc (Nat.le_refl _) _).setCell (p := ⟨w4.heap.size, 3, none⟩) (Nat.le_refl _) _
            obtain ⟨w9, hw9⟩ : ∃ x, x = (w4.alloc (zeroO 130)).setCell ⟨w4.heap.size, 3, none⟩ (.int .i64 5) := ⟨_, rfl⟩
            rw [← hw9] at hblk hbel ⊢
            have HI := Lib.hid (hblk.ints (l := 130) (by simp) (by omega))
            have HN : Hid (∀ x, (some ⟨w4.heap.size, 0, none⟩ : Option Addr) = some x → x.block ≠ w.heap.size) := Lib.hid (fun x hx => by cases hx; have := HS.out.here; simp; omega)
            have HL := Lib.hid (show 130 ≤ 4096 by omega)
            have HS := Lib.hid (HS.out.below hbel HS.out.here)
            have HW := Lib.hid (HW.out.trans (hbel.mono HW.out.size))
            clear hmk hc3 hf3 hw9 hblk hbel
            go_wp2_with fail
            refine (next_r _ _ _ _ _ _ _ HS.out).mono ?_
            rintro e w10 ⟨r2, rfl, hd, ho, hs⟩
            have HI := Lib.hid (HI.out.but ho HN.out)
            have HW := Lib.hid (HW.out.trans (ho.below (Nat.le_refl _) HW.out.size))
            have HS := Lib.hid hs
            clear hd ho hs
            by_cases hr2 : r2 = 0
            · subst hr2
              go_wp2_with fail
              refine (pick4 _ _ _ _ _ _ _ HS.out).mono ?_
              rintro e w11 ⟨x2, rfl, hd, ho, hs⟩
              have HI := Lib.hid (HI.out.but ho HN.out)
              have HW := Lib.hid (HW.out.trans (ho.below (Nat.le_refl _) HW.out.size))
              clear hd ho hs
              go_wp2_with fail
              go_ret2
              exact ⟨_, _, _, _, _, rfl, HI.out, HL.out, HW.out⟩
            · have hrb2 : (r2 == 0) = false := by simpa using hr2
              go_wp2_with fail
              refine (pick3 _ _ _ _ _ _ HS.out).mono ?_
              rintro e w11 ⟨x2, rfl, hd, ho, hs⟩
              have HI := Lib.hid (HI.out.but ho HN.out)
              have HW := Lib.hid (HW.out.trans (ho.below (Nat.le_refl _) HW.out.size))
              have HS := Lib.hid hs
              clear hd ho hs
              go_wp2_with fail
              refine (next_r _ _ _ _ _ _ _ HS.out).mono ?_
              rintro e w12 ⟨x3, rfl, hd, ho, hs⟩
              have HI := Lib.hid (HI.out.but ho HN.out)
              have HW := Lib.hid (HW.out.trans (ho.below (Nat.le_refl _) HW.out.size))
              clear hd ho hs
              go_wp2_with fail
              go_ret2
              exact ⟨_, _, _, _, _, rfl, HI.out, HL.out, HW.out⟩
          · have hmk := make_zl 131 131 rfl (by omega) w4
            have hc3 : (w4.alloc (zeroO 131)).cell? ⟨w4.heap.size, 3, none⟩ = some (.int .i64 0) := (Blk.newz w4 131).cell 3 (by simp)
            have hf3 : (w4.alloc (zeroO 131)).frozen? ⟨w4.heap.size, 3, none⟩ = false := (Blk.newz w4 131).free 3
            go_wp2_with fail
            have hblk := (Blk.newz w4 131).set 3 5
            have hbel : Below w4.heap.size w4 ((w4.alloc (zeroO 131)).setCell ⟨w4.heap.size, 3, none⟩ (.int .i64 5)) := ((Below.refl _ _).alloc (Nat.le_refl _) _).setCell (p := ⟨w4.heap.size, 3, none⟩) (Nat.le_refl _) _
            obtain ⟨w9, hw9⟩ : ∃ x, x = (w4.alloc (zeroO 131)).setCell ⟨w4.heap.size, 3, none⟩ (.int .i64 5) := ⟨_, rfl⟩
            rw [← hw9] at hblk hbel ⊢
            have HI := Lib.hid (hblk.ints (l := 131) (by simp) (by omega))
            have HN : Hid (∀ x, (some ⟨w4.heap.size, 0, none⟩ : Option Addr) = some x → x.block ≠ w.heap.size) := Lib.hid (fun x hx => by cases hx; have := HS.out.here; simp; omega)
            have HL := Lib.hid (show 131 ≤ 4096 by omega)
            have HS := Lib.hid (HS.out.below hbel HS.out.here)
            have HW := Lib.hid (HW.out.trans (hbel.mono HW.out.size))
            clear hmk hc3 hf3 hw9 hblk hbel
            go_wp2_with fail
            refine (next_r _ _ _ _ _ _ _ HS.out).mono ?_
            rintro e w10 ⟨r2, rfl, hd, ho, hs⟩
            have HI := Lib.hid (HI.out.but ho HN.out)
            have HW := Lib.hid (HW.out.trans (ho.below (Nat.le_refl _) HW.out.size))
            have HS := Lib.hid hs
            clear hd ho hs
            by_cases hr2 : r2 = 0
            · subst hr2
              go_wp2_with fail
              refine (pick4 _ _ _ _ _ _ _ HS.out).mono ?_
              rintro e w11 ⟨x2, rfl, hd, ho, hs⟩
              have HI := Lib.hid (HI.out.but ho HN.out)
              have HW := Lib.hid (HW.out.trans (ho.below (Nat.le_refl _) HW.out.size))
              clear hd ho hs
              go_wp2_with fail
              go_ret2
              exact ⟨_, _, _, _, _, rfl, HI.out, HL.out, HW.out⟩
            · have hrb2 : (r2 == 0) = false := by simpa using hr2
              go_wp2_with fail
              refine (pick3 _ _ _ _ _ _ HS.out).mono ?_
              rintro e w11 ⟨x2, rfl, hd, ho, hs⟩
              have HI := Lib.hid (HI.out.but ho HN.out)
              have HW := Lib.hid (HW.out.trans (ho.below (Nat.le_refl _) HW.out.size))
              have HS := Lib.hid hs
              clear hd ho hs
              go_wp2_with fail
              refine (next_r _ _ _ _ _ _ _ HS.out).mono ?_
              rintro e w12 ⟨x3, rfl, hd, ho, hs⟩
              have HI := Lib.hid (HI.out.but ho HN.out)
              have HW := Lib.hid (HW.out.trans (ho.below (Nat.le_refl _) HW.out.size))
              clear hd ho hs
              go_wp2_with fail
              go_ret2
              exact ⟨_, _, _, _, _, rfl, HI.out, HL.out, HW.out⟩
        · have hrb1 : (r == 1) = false := by simpa using hr1
          obtain ⟨al, cl, rfl, hI, hN⟩ := hown.intsN (by omega)
          have HI := Lib.hid hI
          have HN := Lib.hid (show ∀ x, al = some x → x.block ≠ w.heap.size from fun x hx => by have := hN x hx; omega)
          obtain ⟨ll, hll⟩ : ∃ ll, xs.length = ll := ⟨_, rfl⟩
          rw [hll] at HI ⊢
          have HL := Lib.hid (show ll ≤ 4096 by omega)
          clear hown hI hN hll
          go_wp2_with fail
          refine (next_r _ _ _ _ _ _ _ HS.out).mono ?_
          rintro e w10 ⟨r2, rfl, hd, ho, hs⟩
          have HI := Lib.hid (HI.out.but ho HN.out)
          have HW := Lib.hid (HW.out.trans (ho.below (Nat.le_refl _) HW.out.size))
          have HS := Lib.hid hs
          clear hd ho hs
          by_cases hr2 : r2 = 0
          · subst hr2
            go_wp2_with fail
            refine (pick4 _ _ _ _ _ _ _ HS.out).mono ?_
            rintro e w11 ⟨x2, rfl, hd, ho, hs⟩
            have HI := Lib.hid (HI.out.but ho HN.out)
            have HW := Lib.hid (HW.out.trans (ho.below (Nat.le_refl _) HW.out.size))
            clear hd ho hs
            go_wp2_with fail
            go_ret2
            exact ⟨_, _, _, _, _, rfl, HI.out, HL.out, HW.out⟩
          · have hrb2 : (r2 == 0) = false := by simpa using hr2
            go_wp2_with fail
            refine (pick3 _ _ _ _ _ _ HS.out).mono ?_
            rintro e w11 ⟨x2, rfl, hd, ho, hs⟩
            have HI := Lib.hid (HI.out.but ho HN.out)
            have HW := Lib.hid (HW.out.trans (ho.below (Nat.le_refl _) HW.out.size))
            have HS := Lib.hid hs
            clear hd ho hs
            go_wp2_with fail
            refine (next_r _ _ _ _ _ _ _ HS.out).mono ?_
            rintro e w12 ⟨x3, rfl, hd, ho, hs⟩
            have HI := Lib.hid (HI.out.but ho HN.out)
            have HW := Lib.hid (HW.out.trans (ho.below (Nat.le_refl _) HW.out.size))
            clear hd ho hs
            go_wp2_with fail
            go_ret2
            exact ⟨_, _, _, _, _, rfl, HI.out, HL.out, HW.out⟩

end Go.Proofs.Ytalfbhkgjfkneaa
