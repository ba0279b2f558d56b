/- Merged: Trs, Trr. -/
import Derived.Test.YtpphiekbhikadaaDoorTrx28

/- Tontines: ReadClass of the model. (Written by wip/gen/trs.py.) -/
namespace Go.Proofs.YtpphiekbhikadaaDoor
open Go.ChangeShapes Go.WideShapes Go.ChangeAt Go.RowKit
set_option linter.unusedVariables false
set_option linter.unusedSimpArgs false
set_option maxRecDepth 100000

theorem Rdc.new2 {w w1 : World} {F : Int} (r : Bx w1 w.heap.size [.slice none 0 0, .slice none 0 0, .int .i64 0]) (low : Below w.heap.size w w1) (hlt : w.heap.size < w1.heap.size) (T : TypeId) :
    Rdc w w1 (w1.heap.size + 2) (.slice (some ⟨w1.heap.size, 0, none⟩) 0 0) (.slice (some ⟨w1.heap.size + 1, 0, none⟩) 0 0) [] [] F (((w1.alloc (.cells #[] 2)).alloc (.cells #[] 2)).alloc (.cells #[.slice (some ⟨w1.heap.size, 0, none⟩) 0 0, .slice (some ⟨w1.heap.size + 1, 0, none⟩) 0 0, .int .i64 F] T)) := by
  have b1 := box_b w1 (.cells #[] 2)
  have b2 := box_b (w1.alloc (.cells #[] 2)) (.cells #[] 2)
  have b3 := box_b ((w1.alloc (.cells #[] 2)).alloc (.cells #[] 2)) (.cells #[.slice (some ⟨w1.heap.size, 0, none⟩) 0 0, .slice (some ⟨w1.heap.size + 1, 0, none⟩) 0 0, .int .i64 F] T)
  have o2 := ownI_new (w1.alloc (.cells #[] 2))
  rw [World.size_alloc] at o2
  have x3 := Bx.new ((w1.alloc (.cells #[] 2)).alloc (.cells #[] 2)) [.slice (some ⟨w1.heap.size, 0, none⟩) 0 0, .slice (some ⟨w1.heap.size + 1, 0, none⟩) 0 0, .int .i64 F] T
  rw [World.size_alloc, World.size_alloc] at x3
  have b := b1.trans ((b2.mono b1.size).trans (b3.mono (by simp; omega)))
  exact ⟨((r.on b1).on b2).on b3, x3, (((ownI_new w1).on b2).on b3), (OwnI.mono o2 (by omega)).on b3, (fun k h1 h2 => by
    have h1 : some w1.heap.size = some k := h1
    have h2 : some (w1.heap.size + 1) = some k := h2
    simp only [Option.some.injEq] at h1 h2
    omega), (fun h => by
    have h : some w1.heap.size = some (w1.heap.size + 2) := h
    simp at h), (fun h => by
    have h : some (w1.heap.size + 1) = some (w1.heap.size + 2) := h
    simp at h), b, low.trans (b.mono low.size), by omega, hlt⟩

set_option maxHeartbeats 4000000 in
theorem srcl_any (s : ByteArray) (w : World) (hs : s.size ≤ 1048576) : Calls Tryd.prog 12 #[.string s] w (CEPost (rrS s.data.toList) (rrD s.data.toList) (rrF s.data.toList) (rrX s.data.toList) w) := by
  have HC0 := Lib.hid (Bx.new w [.slice none 0 0, .slice none 0 0, .int .i64 0] 26)
  have HSP := Lib.hid (fun W => split_spec s W hs)
  have hsz : s.data.toList.length = s.size := by simp
  have hsh := sp_short s.data.toList
  have HST := Lib.hid (sc_eq s.data.toList)
  obtain ⟨l, hl⟩ : ∃ l, s.data.toList = l := ⟨_, rfl⟩
  unfold SplitPost at HSP
  rw [hl] at HSP hsz hsh HST
  (try rw [hl])
  have HSH := Lib.hid hsh
  clear hl hsh
  go_enter Tryd.func12, Tryd.ntmps12
  go_wp2_with fail
  refine (HSP.out _).mono ?_
  rintro e w1 ⟨g, c, W, rfl, hW, hWl, hcs, hb1⟩
  have HC1 := Lib.hid (HC0.out.on hb1)
  have hp : 0 < W.length := by
    have h1 := congrArg List.length hW
    have h2 := List.length_pos_iff.2 (sp_ne l)
    rw [List.length_map] at h1; omega
  have hgl := block_lt (hcs 0 hp)
  have HN := Lib.hid (nums_spec W (sp l) hW g W.length c rfl (by omega) (fun x hx => by have := HSH.out.2 x hx; omega) w1 hgl hcs)
  have HB1 := Lib.hid ((box_b w (.cells #[.slice none 0 0, .slice none 0 0, .int .i64 0] 26)).trans (hb1.mono (by simp)))
  clear hcs hb1 hgl hW HC0
  go_wp2_with fail
  refine HN.out.mono ?_
  rintro e w2 ⟨hres, hb2⟩
  have HC2 := Lib.hid (HC1.out.on hb2)
  have HB2 := Lib.hid (HB1.out.trans (hb2.mono HB1.out.size))
  have hs1 : w.heap.size < w1.heap.size := HC1.out.lt
  have hs2 : w.heap.size < w2.heap.size := HC2.out.lt
  clear HN HSP HC1 HB1
  rcases hres with ⟨hall, v0, rfl, hown⟩ | ⟨hall, rfl⟩
  · have hsg : sgs l = (sp l).map sgV := rfl
    rw [← hsg] at hown
    have hsl : (sgs l).length = (sp l).length := by simp [sgs]
    have hsp0 := List.length_pos_iff.2 (sp_ne l)
    have HM := hown.made hb2 (by omega)
    have hlen : (sgs l).length ≤ 1048577 := by have := HSH.out.1; omega
    obtain ⟨g2, c2, rfl, hc2, hg2, hr2, _⟩ := HM
    have HSW := sgs_wide l
    obtain ⟨F, Y, hFY⟩ : ∃ F Y, sgs l = F :: Y := by
      cases h : sgs l with
      | nil => rw [h] at hsl; simp at hsl; omega
      | cons a b => exact ⟨a, b, rfl⟩
    have HRO : Hid (rcO l = rcB F Y) := Lib.hid (by
      rw [← HST.out]; unfold scO; rw [hall, hFY]; rfl)
    have HOK : Hid (rcO l = true → rnF l = F ∧ rnL l = Y) := Lib.hid (fun h => by
      have := (rc_st h).2
      rw [hFY] at this
      injection this with h1 h2
      exact ⟨h1.symm, h2.symm⟩)
    rw [hFY] at hr2 hc2 hlen HSW
    have HW : Hid (Wide Y) := Lib.hid (fun y hy => HSW y (List.mem_cons_of_mem _ hy))
    have hI := hr2.ints (l := (F :: Y).length) rfl (by omega)
    rw [hFY]
    obtain ⟨n, hn⟩ : ∃ n, (F :: Y).length = n := ⟨_, rfl⟩
    rw [hn] at hc2 hlen hI
    (try rw [hn])
    have HYL : Hid (Y.length = n - 1) := Lib.hid (by rw [← hn]; simp)
    have hn1 : 1 ≤ n := by rw [← hn]; simp
    obtain ⟨A2, hA2⟩ : ∃ y_, (some ⟨g2, 0, none⟩ : Option Addr) = y_ := ⟨_, rfl⟩
    rw [hA2] at hI
    (try rw [hA2])
    clear hA2 hown hr2 hsg hsl hsp0 HSW hall hFY hg2 hn
    obtain ⟨b1, o1, rfl, hb1, hc⟩ := hI.at (by omega)
    have hx00 : w2.cell? ⟨b1, o1, none⟩ = some (.int .i64 F) := hc 0 (by omega)
    have HC := Lib.hid hc
    have HD0 := Lib.hid (Rdc.new2 (F := F) HC2.out HB2.out hs2 26)
    clear hc hI
    go_wp2_with fail
    obtain ⟨X, hX⟩ : ∃ y_, w2.heap.size + 2 = y_ := ⟨_, rfl⟩
    rw [hX] at HD0
    (try rw [hX])
    go_loopw [7] (fun i wr => ∃ (j : Nat) (v u : Value), 1 ≤ j ∧ j ≤ n ∧ i = .int .i64 j ∧ Hid (Rdc w w2 X v u (abL (Y.take (j - 1))) (ngL Y (j - 1)) F wr)) (fun i _ => n - (intOf i).toNat)
    case atStart => exact ⟨1, _, _, Nat.le_refl _, hn1, rfl, HD0⟩
    case round =>
      obtain ⟨j, v, u, hj1, hj, rfl, HD⟩ := hrel
      obtain ⟨k, hkj⟩ : ∃ k, j - 1 = k := ⟨_, rfl⟩
      rw [hkj] at HD
      obtain ⟨c0, c1, c2'⟩ := HD.out.o.threeT
      have hsz : w2.heap.size < wr.heap.size := Nat.lt_of_le_of_lt HD.out.x0 HD.out.o.lt
      have hl1 : (abL (Y.take k)).length ≤ 1100000 := Nat.le_trans (abL_len Y k) (by omega)
      have hl2 : (ngL Y k).length ≤ 1100000 := Nat.le_trans (ngL_len Y k) (by omega)
      clear HD0
      by_cases hlt : j < n
      · have hx0 := HC.out j hlt
        have hjk : (F :: Y).getD j 0 = Y.getD k 0 := by rw [show j = k + 1 by omega, getD_cons_succ]
        rw [hjk] at hx0
        have hxw := HW.out.get k
        have has := abL_snoc (Y := Y) (k := k) (by rw [HYL.out]; omega)
        have hng := ngL_neg (Y := Y) (k := k)
        have hnp := ngL_pos (Y := Y) (k := k)
        obtain ⟨x, hx1⟩ : ∃ y_, Y.getD k 0 = y_ := ⟨_, rfl⟩
        rw [hx1] at hx0 hxw has hng hnp
        obtain ⟨m1, m2⟩ := max_abW hxw.1 hxw.2
        obtain ⟨z, hz⟩ : ∃ y_, abW x = y_ := ⟨_, rfl⟩
        rw [hz] at m1 m2 has
        have HAS := Lib.hid has
        have hx := (HD.out.old.cell (p := ⟨b1, o1 + j, none⟩) hb1).trans hx0
        have hdj : decide ((j : Int) < (n : Int)) = true := by simp; omega
        clear hx1 has hjk hz hxw
        go_wp2_with fail
        have hx2 := hx
        refine wpTill_start (S := (fun w' => w'.cell? ⟨X, 0, none⟩ = some v ∧ w'.cell? ⟨b1, o1 + j, none⟩ = some (.int .i64 x))) (L := 15) (by kernel_rfl) ⟨HD.out.drew.o.threeT.1, cell_drew hx⟩ (fun hHeld => ?_)
        have HDD := Lib.hid HD.out.drew
        have hxd := cell_drew hx
        refine wpTill_take (i := 0) (v := ?_) rfl (by kernel_rfl) (by kernel_rfl) (by kernel_rfl) (by kernel_rfl) (by kernel_rfl) (fun _ _ _ h => h) (Or.inl ⟨by rfl, ?_⟩) (by assumption) ?_
        rotate_left
        · (intro w hSw; (try dsimp only at hSw); go_simp; try with_reducible rfl)
        try simp only [Act.put, List.setIfInBounds_toArray, List.set_cons_zero, List.set_cons_succ]
        refine wpTill_take (i := 1) (v := ?_) rfl (by kernel_rfl) (by kernel_rfl) (by kernel_rfl) (by kernel_rfl) (by kernel_rfl) (fun _ _ _ h => h) (Or.inl ⟨by rfl, ?_⟩) (by assumption) ?_
        rotate_left
        · (intro w hSw; (try dsimp only at hSw); go_simp; try with_reducible rfl)
        try simp only [Act.put, List.setIfInBounds_toArray, List.set_cons_zero, List.set_cons_succ]
        refine wpTill_take (i := 2) (v := ?_) rfl (by kernel_rfl) (by kernel_rfl) (by kernel_rfl) (by kernel_rfl) (by kernel_rfl) (fun _ _ _ h => h) (Or.inl ⟨by rfl, ?_⟩) (by assumption) ?_
        rotate_left
        · (intro w hSw; (try dsimp only at hSw); go_simp; try with_reducible rfl)
        try simp only [Act.put, List.setIfInBounds_toArray, List.set_cons_zero, List.set_cons_succ]
        refine wpTill_take (i := 3) (v := ?_) rfl (by kernel_rfl) (by kernel_rfl) (by kernel_rfl) (by kernel_rfl) (by kernel_rfl) (fun _ _ _ h => h) (Or.inl ⟨by rfl, ?_⟩) (by assumption) ?_
        rotate_left
        · (intro w hSw; (try dsimp only at hSw); go_simp; try with_reducible rfl)
        try simp only [Act.put, List.setIfInBounds_toArray, List.set_cons_zero, List.set_cons_succ]
        refine wpTill_take (i := 4) (v := ?_) rfl (by kernel_rfl) (by kernel_rfl) (by kernel_rfl) (by kernel_rfl) (by kernel_rfl) (fun _ _ _ h => h) (Or.inl ⟨by rfl, ?_⟩) (by assumption) ?_
        rotate_left
        · (intro w hSw; (try dsimp only at hSw); go_simp; try with_reducible rfl)
        try simp only [Act.put, List.setIfInBounds_toArray, List.set_cons_zero, List.set_cons_succ]
        refine wpTill_take (i := 5) (v := ?_) rfl (by kernel_rfl) (by kernel_rfl) (by kernel_rfl) (by kernel_rfl) (by kernel_rfl) (fun _ _ _ h => h) (Or.inl ⟨by rfl, ?_⟩) (by assumption) ?_
        rotate_left
        · (intro w hSw; (try dsimp only at hSw); go_simp; try with_reducible rfl)
        try simp only [Act.put, List.setIfInBounds_toArray, List.set_cons_zero, List.set_cons_succ]
        refine wpTill_take (i := 6) (v := ?_) rfl (by kernel_rfl) (by kernel_rfl) (by kernel_rfl) (by kernel_rfl) (by kernel_rfl) (fun _ _ _ h => h) (Or.inl ⟨by rfl, ?_⟩) (by assumption) ?_
        rotate_left
        · (intro w hSw; (try dsimp only at hSw); go_simp; try with_reducible rfl)
        try simp only [Act.put, List.setIfInBounds_toArray, List.set_cons_zero, List.set_cons_succ]
        refine wpTill_take (i := 7) (v := ?_) rfl (by kernel_rfl) (by kernel_rfl) (by kernel_rfl) (by kernel_rfl) (by kernel_rfl) (fun _ _ _ h => h) (Or.inl ⟨by rfl, ?_⟩) (by assumption) ?_
        rotate_left
        · (intro w hSw; (try dsimp only at hSw); go_simp; try with_reducible rfl)
        try simp only [Act.put, List.setIfInBounds_toArray, List.set_cons_zero, List.set_cons_succ]
        refine wpTill_take (i := 8) (v := ?_) rfl (by kernel_rfl) (by kernel_rfl) (by kernel_rfl) (by kernel_rfl) (by kernel_rfl) (fun _ _ _ h => h) (Or.inl ⟨by rfl, ?_⟩) (by assumption) ?_
        rotate_left
        · (intro w hSw; (try dsimp only at hSw); go_simp; try with_reducible rfl)
        try simp only [Act.put, List.setIfInBounds_toArray, List.set_cons_zero, List.set_cons_succ]
        refine wpTill_take (i := 9) (v := ?_) rfl (by kernel_rfl) (by kernel_rfl) (by kernel_rfl) (by kernel_rfl) (by kernel_rfl) (fun _ _ _ h => h) (Or.inl ⟨by rfl, ?_⟩) (by assumption) ?_
        rotate_left
        · (intro w hSw; (try dsimp only at hSw); go_simp; try with_reducible rfl)
        try simp only [Act.put, List.setIfInBounds_toArray, List.set_cons_zero, List.set_cons_succ]
        refine wpTill_take (i := 10) (v := ?_) rfl (by kernel_rfl) (by kernel_rfl) (by kernel_rfl) (by kernel_rfl) (by kernel_rfl) (fun _ _ _ h => h) (Or.inl ⟨by rfl, ?_⟩) (by assumption) ?_
        rotate_left
        · (intro w hSw; (try dsimp only at hSw); go_simp; try with_reducible rfl)
        try simp only [Act.put, List.setIfInBounds_toArray, List.set_cons_zero, List.set_cons_succ]
        refine wpTill_ready (rs := [11]) (by kernel_rfl) (by simp) ?_
        refine AllTill.cons (o := _) rfl (fun K hK => ?_) AllTill.nil
        go_simp
        (try simp only [m1, m2])
        refine hK.out _ _ (fun _ => ?_) (fun hHeld => ?_)
        · exact ⟨HDD.out.o.threeT.1, hxd⟩
        have hHeld := hHeld (by decide)
        clear hK K
        try simp only [Act.put, List.setIfInBounds_toArray, List.set_cons_zero, List.set_cons_succ]
        refine wpTill_ready (rs := [12]) (by kernel_rfl) (by simp) ?_
        refine AllTill.cons (o := _) rfl (fun K hK => ?_) AllTill.nil
        go_simp
        have HD3 := Lib.hid (HDD.out.up (box_b wr.drew (.cells #[.int .i64 z] 2)))
        have hx3 := (HD3.out.old.cell (p := ⟨b1, o1 + j, none⟩) hb1).trans hx0
        refine hK.out _ _ (fun _ => ?_) (fun hHeld => ?_)
        · exact ⟨HD3.out.o.threeT.1, hx3⟩
        have hHeld := hHeld (by decide)
        clear hK K
        try simp only [Act.put, List.setIfInBounds_toArray, List.set_cons_zero, List.set_cons_succ]
        refine wpTill_ready (rs := [13]) (by kernel_rfl) (by simp) ?_
        refine AllTill.cons (o := _) rfl (fun K hK => ?_) AllTill.nil
        refine step_appZ (by rfl) _ _ (by rfl) w2.heap.size v (abL (Y.take k)) z (by rfl) HD3.out.a ⟨wr.drew.heap.size, 0, none⟩ (by rfl) (one_newC wr.drew z) hl1 HD3.out.old.size ?_
        intro v' w5 hO hg hw
        obtain ⟨a6, e6, hv6, -⟩ := OwnI.ints hO (by simp; omega)
        subst hv6
        obtain ⟨l6, hl6⟩ : ∃ y_, (abL (Y.take k) ++ [z]).length = y_ := ⟨_, rfl⟩
        rw [hl6] at hO hw ⊢
        clear hl6
        obtain ⟨X5, D5⟩ := Rdc.appA HD3.out hO hg hw
        have hx5 := (((HD3.out.old.grown hg HD3.out.old.size (fun k e => (World.ownsRow.lt HD3.out.a k e).1)).cell (p := ⟨b1, o1 + j, none⟩) hb1)).trans hx0
        obtain ⟨d0, d1, d2⟩ := X5.threeT
        have f5 := X5.free 0
        have HD5 := Lib.hid D5
        refine hK.out _ _ (fun _ => ?_) (fun hHeld => ?_)
        · exact ⟨d0, hx5⟩
        have hHeld := hHeld (by decide)
        clear hK K
        try simp only [Act.put, List.setIfInBounds_toArray, List.set_cons_zero, List.set_cons_succ]
        clear X5 D5 hO hg hw
        refine wpTill_take (i := 14) (v := ?_) rfl (by kernel_rfl) (by kernel_rfl) (by kernel_rfl) (by kernel_rfl) (by kernel_rfl) (fun _ _ _ h => h) (Or.inl ⟨by rfl, ?_⟩) (by assumption) ?_
        rotate_left
        · (intro w hSw; (try dsimp only at hSw); go_simp; try with_reducible rfl)
        try simp only [Act.put, List.setIfInBounds_toArray, List.set_cons_zero, List.set_cons_succ]
        refine wpTill_ready (rs := [15]) (by kernel_rfl) (by simp) ?_
        refine AllTill.cons (o := _) rfl (fun K hK => ?_) AllTill.nil
        go_simp
        refine hK.out _ _ (fun h => absurd rfl h) (fun _ => ?_)
        clear hK K hHeld
        try simp only [Act.put, List.setIfInBounds_toArray, List.set_cons_zero, List.set_cons_succ]
        refine wpTill_done (by kernel_rfl) ?_ _
        obtain ⟨W7, hW7⟩ : ∃ y_, w5.setCell ⟨X, 0, none⟩ (.slice a6 l6 e6) = y_ := ⟨_, rfl⟩
        rw [hW7] at HD5 ⊢
        clear hW7 d0 d1 d2 f5 hx5 hx3 HD3 HDD hxd hx2 hx HD
        have hx := (HD5.out.old.cell (p := ⟨b1, o1 + j, none⟩) hb1).trans hx0
        obtain ⟨c0, c1, c2⟩ := HD5.out.o.threeT
        by_cases hneg : x < 0
        · have HNG := Lib.hid (hng hneg)
          have HUP := Lib.hid (HD5.out.up (box_b W7 (.cells #[.int .i64 (k : Int)] 2)))
          have q3 : IntKind.i64.wrap ((j : Int) - 1) = (k : Int) := by rw [show (j : Int) - 1 = (k : Int) by omega]; exact IntWalk.i64_in _ (by omega)
          have q4 : wrap64 ((j : Int) - 1) = (k : Int) := by rw [show (j : Int) - 1 = (k : Int) by omega]; exact IntWalk.wrap64_in _ (by omega)
          clear hng hnp m1 m2
          go_wp2_with (at_builtin; go_must (refine wpList_appZ rfl _ _ rfl w2.heap.size u (ngL Y k) (k : Int) rfl HUP.out.b ⟨W7.heap.size, 0, none⟩ rfl (one_newC W7 (k : Int)) hl2 HUP.out.old.size ?_))
          intro u' w8 hO hg hw
          obtain ⟨a8, e8, hv8, -⟩ := OwnI.ints hO (by simp; omega)
          subst hv8
          obtain ⟨l8, hl8⟩ : ∃ y_, (ngL Y k ++ [(k : Int)]).length = y_ := ⟨_, rfl⟩
          rw [hl8] at hO hw ⊢
          clear hl8
          obtain ⟨X8, D8⟩ := Rdc.appB HUP.out hO hg (by first | exact hw | (rw [World.size_alloc]; exact hw) | (simpa using hw))
          obtain ⟨d0, d1, d2⟩ := X8.threeT
          have f8 := X8.free 1
          have HD8 := Lib.hid D8
          clear X8 D8 hO hg hw c0 c1 c2 HUP hx
          go_wp2_with fail
          go_roundw
          case rel => exact ⟨j + 1, _, _, by omega, by omega, by go_num, Lib.hid (by rw [show j + 1 - 1 = k + 1 by omega, HAS.out, HNG.out]; exact HD8.out)⟩
          case measure => simp [intOf]; omega
        · have HNG := Lib.hid (hnp (by omega))
          clear hng hnp m1 m2
          go_wp2_with fail
          go_roundw
          case rel => exact ⟨j + 1, _, _, by omega, by omega, by go_num, Lib.hid (by rw [show j + 1 - 1 = k + 1 by omega, HAS.out, HNG.out]; exact HD5.out)⟩
          case measure => simp [intOf]; omega
      · clear c0 c1 c2'
        obtain rfl : j = n := by omega
        have htk : Y.take k = Y := List.take_of_length_le (by rw [HYL.out, hkj]; exact Nat.le_refl _)
        rw [htk] at HD hl1
        obtain ⟨a5, c5, rfl, h5⟩ := HD.out.a.ints (by omega)
        obtain ⟨b5, d5, rfl, g5⟩ := HD.out.b.ints (by omega)
        have CI := Lib.hid (tcS_any (abL Y) (ngL Y k) a5 b5 _ c5 _ d5 F wr h5 g5)
        have hyk : Y.length = k := by rw [HYL.out, hkj]
        have HYK := Lib.hid hyk
        have hB : tcB (abL Y) (ngL Y k) F = rcB F Y := by unfold rcB; rw [hyk]
        rw [hB] at CI
        have HL := Lib.hid (fun h : rcB F Y = true => rcB_len h)
        rw [hyk] at HL
        have HAL : Hid ((abL Y).length = k) := Lib.hid (by unfold abL; rw [List.length_map]; exact hyk)
        rw [HAL.out] at CI HD hl1 h5
        obtain ⟨m2, hm2⟩ : ∃ y_, (ngL Y k).length = y_ := ⟨_, rfl⟩
        rw [hm2] at CI HD hl2 HL g5
        have HM2 := Lib.hid hm2
        obtain ⟨c0, c1, c2⟩ := HD.out.o.threeT
        (try rw [HAL.out])
        (try rw [hm2])
        obtain ⟨r0, r1, r2⟩ := HD.out.r.threeT
        have z0 := HD.out.r.free 0
        have z1 := HD.out.r.free 1
        have z2 := HD.out.r.free 2
        have hdj : decide ((j : Int) < (j : Int)) = false := by simp
        clear htk hB h5 g5 hm2 hyk
        obtain ⟨B, hB⟩ : ∃ y_, rcB F Y = y_ := ⟨_, rfl⟩
        rw [hB] at CI HRO HL
        clear hB
        cases B with
        | false =>
          have HR : Hid (rcO l = false) := HRO
          go_wp2_with (go_at_call 31; refine CI.out.mono ?_; rintro e w4 ⟨rfl, hb⟩; have HD4 := Lib.hid (HD.out.up hb); obtain ⟨c0, c1, c2⟩ := HD4.out.o.threeT; obtain ⟨r0, r1, r2⟩ := HD4.out.r.threeT; have z0 := HD4.out.r.free 0; have z1 := HD4.out.r.free 1; have z2 := HD4.out.r.free 2; obtain ⟨e0, e1, e2, e3⟩ := Rdc.stored HD4.out (.slice none 0 0) (.slice none 0 0) (.int .i64 0); have HEB := Lib.hid e3; clear hb e3)
          refine bodyPost_ret (v := .tuple #[.agg #[.slice none 0 0, .slice none 0 0, .int .i64 0], .int .i64 6]) (by simp [results, Tryd.results12, go_sem, e0, e1, e2]) rfl ?_
          exact rr_bad HR.out HEB.out
        | true =>
          have HR : Hid (rcO l = true) := HRO
          obtain ⟨h60, h61⟩ := HL.out rfl
          go_wp2_with (go_at_call 31; refine CI.out.mono ?_; rintro e w4 ⟨rfl, hb⟩; have HD4 := Lib.hid (HD.out.up hb); obtain ⟨c0, c1, c2⟩ := HD4.out.o.threeT; obtain ⟨r0, r1, r2⟩ := HD4.out.r.threeT; have z0 := HD4.out.r.free 0; have z1 := HD4.out.r.free 1; have z2 := HD4.out.r.free 2; obtain ⟨e0, e1, e2, e3⟩ := Rdc.stored HD4.out (.slice a5 k c5) (.slice b5 m2 d5) (.int .i64 F); have HEB := Lib.hid e3; clear hb e3)
          obtain ⟨t1, t2, t3⟩ := Rdc.lists HD4.out (.slice a5 k c5) (.slice b5 m2 d5) (.int .i64 F) HAL.out HM2.out (by omega) (by omega)
          refine bodyPost_ret (v := .tuple #[.agg #[.slice a5 k c5, .slice b5 m2 d5, .int .i64 F], .int .i64 0]) (by simp [results, Tryd.results12, go_sem, e0, e1, e2]) rfl ?_
          exact rr_good HR.out (HOK.out HR.out).1 (HOK.out HR.out).2 t1 (by rw [HYK.out]; exact t2) t3 HEB.out
  · have HR : Hid (rcO l = false) := Lib.hid (by rw [← HST.out]; unfold scO; rw [hall]; rfl)
    obtain ⟨r0, r1, r2⟩ := HC2.out.threeT
    have z0 := HC2.out.free 0
    have z1 := HC2.out.free 1
    have z2 := HC2.out.free 2
    obtain ⟨e0, e1, e2⟩ := (sets3_box (p := .slice none 0 0) (q := .slice none 0 0) (r := .int .i64 0) HC2.out).threeT
    have HEB := Lib.hid (sets3_below HB2.out (.slice none 0 0) (.slice none 0 0) (.int .i64 0))
    clear hall
    go_wp2_with fail
    refine bodyPost_ret (v := .tuple #[.agg #[.slice none 0 0, .slice none 0 0, .int .i64 0], .int .i64 6]) (by simp [results, Tryd.results12, go_sem, e0, e1, e2]) rfl ?_
    exact rr_bad HR.out HEB.out

end Go.Proofs.YtpphiekbhikadaaDoor

/- Tontines: the exact law on ReadClass. (Written by wip/gen/trr.py.) -/
namespace Go.Proofs.YtpphiekbhikadaaDoor
open Go.ChangeShapes Go.WideShapes Go.ChangeAt Go.RowKit
set_option linter.unusedVariables false
set_option maxRecDepth 100000

theorem lw_apartR {w W : World} {bs : List (Nat × List Value)} {pre post : List (Option Addr × Nat × List Int)} {a b : Option Addr} {n m : Nat} {ys us : List Int} (h : LW w bs (pre ++ (a, n, ys) :: (b, m, us) :: post) W) : Aprt a b := by
  have hap := h.ap
  rw [List.pairwise_append, List.pairwise_cons] at hap
  exact hap.2.1.1 (b, m, us) (List.mem_cons_self ..)

set_option maxHeartbeats 4000000 in
theorem fnExactReadClass_walk (s0 : ByteArray) (ws0 : s0.size ≤ maxLen) (w : World) (ht : Tab w) (hsh : w.ShapedOpen Tryd.prog) (h1 : ErrIs w "strconv.ErrSyntax") (h2 : ErrIs w "strconv.ErrRange") :
    Calls Tryd.prog 5 #[.string s0] w fun e w' => e = .returned (.bool true) ∧ Below w.heap.size w w' := by
  have HA := Lib.hid (AskT.mk ht ⟨h1, h2, hsh⟩)
  clear ht hsh h1 h2
  by_cases hbig : (1048576 : Int) < s0.size
  · unfold maxLen at ws0
    go_enter Tryd.func5, Tryd.ntmps5
    go_wp2_with fail
    go_ret
    exact ⟨rfl, Below.refl _ _⟩
  · obtain ⟨S1, hS1⟩ : ∃ y_, rrS s0.data.toList = y_ := ⟨_, rfl⟩
    obtain ⟨S2, hS2⟩ : ∃ y_, rrD s0.data.toList = y_ := ⟨_, rfl⟩
    obtain ⟨S3, hS3⟩ : ∃ y_, rrF s0.data.toList = y_ := ⟨_, rfl⟩
    obtain ⟨S5, hS5⟩ : ∃ y_, rrX s0.data.toList = y_ := ⟨_, rfl⟩
    have CS : Hid (∀ W : World, Calls Tryd.prog 12 #[.string s0] W (CEPost S1 S2 S3 S5 W)) := Lib.hid (fun W => by rw [← hS1, ← hS2, ← hS3, ← hS5]; exact srcl_any s0 W (by omega))
    have CI : Hid (∀ W : World, Below w.heap.size w W → Calls Tryd.prog 11 #[.string s0] W (CEPost S1 S2 S3 S5 W)) := Lib.hid (fun W hW => by rw [← hS1, ← hS2, ← hS3, ← hS5]; exact ircl_any s0 W (by omega) (HA.out.step hW))
    clear hS1 hS2 hS3 hS5 HA
    unfold CEPost at CS CI
    have HL := Lib.hid (LW.start w)
    go_enter Tryd.func5, Tryd.ntmps5
    go_wp2_with fail
    refine (CS.out _).mono ?_
    rintro e w1 ⟨sa, sn, sc, sb, sm, sd, rfl, t1, t2, hab, hb⟩
    have hBs : sn ≤ 4096 ∧ sm ≤ 4096 := ⟨t1.2.1, t2.2.1⟩
    have HL := Lib.hid (HL.out.add2 hb (tl_of t1) (tl_of t2) hab)
    clear hb t1 t2 hab
    have HL := Lib.hid (HL.out.box [.slice sa sn sc, .slice sb sm sd, .int .i64 S3] 26)
    obtain ⟨p0_0, p0_1, p0_2⟩ := HL.out.c3 (.head _)
    go_wp2_with fail
    refine (CI.out _ HL.out.low).mono ?_
    rintro e w2 ⟨ga, gn, gc, gb, gm, gd, rfl, t1, t2, hab, hb⟩
    have hBg : gn ≤ 4096 ∧ gm ≤ 4096 := ⟨t1.2.1, t2.2.1⟩
    have HL := Lib.hid (HL.out.add2 hb (tl_of t1) (tl_of t2) hab)
    clear hb t1 t2 hab
    have HL := Lib.hid (HL.out.box [.slice ga gn gc, .slice gb gm gd, .int .i64 S3] 26)
    obtain ⟨p0_0, p0_1, p0_2⟩ := HL.out.c3 (.head _)
    obtain ⟨p1_0, p1_1, p1_2⟩ := HL.out.c3 (.tail _ (.head _))
    go_wp2_with fail
    refine (eqTc_any S1 S2 _ _ _ _ gn gc gm gd sn sc sm sd S3 _ ((HL.out.tl _ (.head _)).ints) ((HL.out.tl _ (.tail _ (.head _))).ints) ((HL.out.tl _ (.tail _ (.tail _ (.head _)))).ints) ((HL.out.tl _ (.tail _ (.tail _ (.tail _ (.head _))))).ints)).mono ?_
    rintro e w3 ⟨rfl, hb⟩
    have HL := Lib.hid (HL.out.on hb)
    clear hb
    obtain ⟨p0_0, p0_1, p0_2⟩ := HL.out.c3 (.head _)
    obtain ⟨p1_0, p1_1, p1_2⟩ := HL.out.c3 (.tail _ (.head _))
    go_wp2_with fail
    refine (markTc_any S1 S2 w.heap.size _ _ gn gc gm gd S3 1 _ (HL.out.tl _ (.head _)) (HL.out.tl _ (.tail _ (.head _))) (lw_apartR HL.out (pre := [])) (by omega) (by omega)).mono ?_
    rintro e w4 ⟨rfl, t1, t2, hb⟩
    have HL := Lib.hid (HL.out.mark2 (pre := []) hb t1 t2)
    clear hb t1 t2
    have HL : Hid (LW w [(w2.heap.size, [.slice ga gn gc, .slice gb gm gd, .int .i64 S3]), (w1.heap.size, [.slice sa sn sc, .slice sb sm sd, .int .i64 S3])] [(ga, gn, marks 1 gn), (gb, gm, marks (1 + gn) gm), (sa, sn, S1), (sb, sm, S2)] w4) := HL
    obtain ⟨p0_0, p0_1, p0_2⟩ := HL.out.c3 (.head _)
    obtain ⟨p1_0, p1_1, p1_2⟩ := HL.out.c3 (.tail _ (.head _))
    have hg0 : ¬ (1 : Int) + gn + gm < 0 := by omega
    go_wp2_with fail
    refine (heldTc_any _ _ gn gc gm gd S3 1 _ ((HL.out.tl _ (.head _)).ints) ((HL.out.tl _ (.tail _ (.head _))).ints) (by omega) (by omega) (by omega) (by omega)).mono ?_
    rintro e w5 ⟨rfl, hb⟩
    have HL := Lib.hid (HL.out.on hb)
    clear hb
    obtain ⟨p0_0, p0_1, p0_2⟩ := HL.out.c3 (.head _)
    obtain ⟨p1_0, p1_1, p1_2⟩ := HL.out.c3 (.tail _ (.head _))
    go_wp2_with fail
    refine (CI.out _ HL.out.low).mono ?_
    rintro e w6 ⟨ha, hn, hc, hB9, hm, hd, rfl, t1, t2, hab, hb⟩
    have hBh : hn ≤ 4096 ∧ hm ≤ 4096 := ⟨t1.2.1, t2.2.1⟩
    have HL := Lib.hid (HL.out.add2 hb (tl_of t1) (tl_of t2) hab)
    clear hb t1 t2 hab
    have HL := Lib.hid (HL.out.box [.slice ha hn hc, .slice hB9 hm hd, .int .i64 S3] 26)
    obtain ⟨p0_0, p0_1, p0_2⟩ := HL.out.c3 (.head _)
    obtain ⟨p1_0, p1_1, p1_2⟩ := HL.out.c3 (.tail _ (.head _))
    obtain ⟨p2_0, p2_1, p2_2⟩ := HL.out.c3 (.tail _ (.tail _ (.head _)))
    go_wp2_with fail
    refine (eqTc_any S1 S2 _ _ _ _ hn hc hm hd sn sc sm sd S3 _ ((HL.out.tl _ (.head _)).ints) ((HL.out.tl _ (.tail _ (.head _))).ints) ((HL.out.tl _ (.tail _ (.tail _ (.tail _ (.tail _ (.head _)))))).ints) ((HL.out.tl _ (.tail _ (.tail _ (.tail _ (.tail _ (.tail _ (.head _))))))).ints)).mono ?_
    rintro e w7 ⟨rfl, hb⟩
    have HL := Lib.hid (HL.out.on hb)
    clear hb
    obtain ⟨p0_0, p0_1, p0_2⟩ := HL.out.c3 (.head _)
    obtain ⟨p1_0, p1_1, p1_2⟩ := HL.out.c3 (.tail _ (.head _))
    obtain ⟨p2_0, p2_1, p2_2⟩ := HL.out.c3 (.tail _ (.tail _ (.head _)))
    go_wp2_with fail
    refine (heldTc_any _ _ gn gc gm gd S3 1 _ ((HL.out.tl _ (.tail _ (.tail _ (.head _)))).ints) ((HL.out.tl _ (.tail _ (.tail _ (.tail _ (.head _))))).ints) (by omega) (by omega) (by omega) (by omega)).mono ?_
    rintro e w8 ⟨rfl, hb⟩
    have HL := Lib.hid (HL.out.on hb)
    clear hb
    obtain ⟨p0_0, p0_1, p0_2⟩ := HL.out.c3 (.head _)
    obtain ⟨p1_0, p1_1, p1_2⟩ := HL.out.c3 (.tail _ (.head _))
    obtain ⟨p2_0, p2_1, p2_2⟩ := HL.out.c3 (.tail _ (.tail _ (.head _)))
    go_wp2_with fail
    go_ret
    exact ⟨rfl, HL.out.low⟩
    
end Go.Proofs.YtpphiekbhikadaaDoor
