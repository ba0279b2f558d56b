/- The model's draw of a sickness table: the walk. (Written by wip/gen/dkw.py.) -/
import Derived.Test.YtgfemcpjkdepdaaDkS
namespace Go.Proofs.Ytgfemcpjkdepdaa
open Go.ChangeShapes Go.WideShapes Go.ChangeAt Go.RowKit
set_option linter.unusedVariables false
set_option linter.unusedSimpArgs false
set_option maxRecDepth 100000

set_option maxHeartbeats 4000000 in
theorem dsick (B : Nat) (a : Option Addr) (l c : Nat) (z : List Int) (w : World) (h : Ready B a l c z w) : Calls Try.prog 34 #[.pointer (some ⟨B, 0, none⟩)] w (DrawnK B a l c z w) := by
  have hB := h.here
  have HS := Lib.hid h
  clear h
  go_enter Try.func34, Try.ntmps34
  go_wp2_with fail
  refine (pick4M _ _ _ _ _ _ _ _ (HS.out.alloc _) (World.size_alloc _ _)).mono ?_
  rintro e w1 ⟨q, rfl, hd, ho, hs⟩
  obtain ⟨X, hX⟩ : ∃ X, w.heap.size = X := ⟨_, rfl⟩
  (try rw [hX])
  have hq := mem4 hd
  have hr1 : Bx w1 X [.int .i64 0, .slice none 0 0] := (by rw [← hX]; exact Bx.new w _ _ : Bx (w.alloc (.cells #[.int .i64 0, .slice none 0 0] 26)) X [.int .i64 0, .slice none 0 0]).same (ho.block X (by rw [World.size_alloc]; omega) (by omega))
  have hs1 : X < w1.heap.size := hr1.lt
  have hG : Hid (DK B X (w1.heap.size + 1) w1.heap.size a l c z q (.slice (some ⟨w1.heap.size, 0, none⟩) 0 0) [] w ((w1.alloc (.cells #[] 2)).alloc (.cells #[.int .i64 q, .slice (some ⟨w1.heap.size, 0, none⟩) 0 0] 26))) := Lib.hid (by
    have o1 := ownI_new w1
    have p1 := hr1.on (box_b w1 (.cells #[] 2))
    have z1 := World.size_alloc w1 (.cells #[] 2)
    have rd := hs.alloc (.cells #[] 2)
    have bt := ((But.alloc _).trans ho).trans (But.alloc (B := B) (w := w1) (.cells #[] 2))
    generalize w1.alloc (.cells #[] 2) = W2 at *
    have p2 := Bx.new W2 [.int .i64 q, .slice (some ⟨w1.heap.size, 0, none⟩) 0 0] 26
    rw [z1] at p2
    have hb := box_b W2 (.cells #[.int .i64 q, .slice (some ⟨w1.heap.size, 0, none⟩) 0 0] 26)
    exact ⟨rd.alloc _, bt.trans (But.alloc _), p1.on hb, p2, o1.on hb, by simp [Value.ownBlock], hX, by omega, hs1, by omega⟩)
  have hqb : -1 ≤ q ∧ q ≤ 101 := by omega
  clear hd ho hs hr1 HS hq
  go_wp2_with fail
  obtain ⟨base, hbase⟩ : ∃ y_, w1.heap.size = y_ := ⟨_, rfl⟩
  rw [hbase] at hG
  (try rw [hbase])
  generalize ((w1.alloc (.cells #[] 2)).alloc (.cells #[.int .i64 q, .slice (some ⟨base, 0, none⟩) 0 0] 26)) = w2 at hG ⊢
  obtain ⟨T, hT⟩ : ∃ y_, base + 1 = y_ := ⟨_, rfl⟩
  rw [hT] at hG
  (try rw [hT])
  clear hbase hT hs1
  refine (next_r _ _ _ _ _ _ _ hG.out.ready).mono ?_
  rintro e w3 ⟨y, rfl, hd, ho, hs⟩
  have hy := drawn_bd hd (by omega)
  have hG := Lib.hid (hG.out.call ho hs)
  clear hd ho hs
  go_wp2_with fail
  refine (next_r _ _ _ _ _ _ _ hG.out.ready).mono ?_
  rintro e w4 ⟨r, rfl, hd, ho, hs⟩
  have hr := drawn_bd hd (by omega)
  have hG := Lib.hid (hG.out.call ho hs)
  clear hd ho hs
  go_wp2_with fail
  go_loopw [4, 5] (fun u i wr => ∃ (n y : Int) (v : Value) (L : List Int), i = .int .i64 n ∧ u = .int .i64 y ∧ 0 ≤ n ∧ L.length + n ≤ 30 ∧ 1 ≤ L.length + n ∧ 0 ≤ y ∧ y ≤ 1000 + 300 * (30 - n) ∧ Hid (DK B X T base a l c z q v L w wr)) (fun _ i _ => (intOf i).toNat)
  case atStart => exact ⟨1 + r, y, _, [], by go_num, rfl, by omega, by simp; omega, by simp; omega, hy.1, by omega, hG⟩
  case round =>
    clear hG hy hr
    obtain ⟨n, y, v, L, rfl, rfl, hn0, hn30, hn1, y0, y1, HG⟩ := hrel
    by_cases hn : 0 < n
    · have hv := HG.out.tb.two.2
      have hown := HG.out.own
      have hoT := HG.out.oT
      have hTl := HG.out.tb.lt
      go_wp2_with (at_builtin; refine wpList_app rfl _ _ rfl base _ L y rfl (hown.same (fun k hk hl => Below.heap_alloc _ _ _ hl)) ⟨wr.heap.size, 0, none⟩ rfl (one_newC wr y) (by omega) (by simp; omega) ?_)
      intro v' w5 hown' hgrow hw
      obtain ⟨g, n9, c9, rfl, hg9, -⟩ := own_shk hown' (by simp)
      have tb5 := Bx.grown HG.out.tb hgrow (Ne.symm HG.out.ne)
      have c1 := tb5.two.2
      have f1 := tb5.free 1
      have HG := Lib.hid (HG.out.push hgrow hown' (by rw [World.size_alloc]; exact hw))
      clear hown hown' hgrow hw hv hoT hTl tb5
      go_wp2_with fail
      refine (next_r _ _ _ _ _ _ _ HG.out.ready).mono ?_
      rintro e w6 ⟨y2, rfl, hd, ho, hs⟩
      have hy2 := drawn_bd hd (by omega)
      have HG := Lib.hid (HG.out.call ho hs)
      clear hd ho hs c1 f1
      go_wp2_with fail
      go_roundw
      case rel => exact ⟨n - 1, y + y2, _, L ++ [y], by go_num, by go_num, by omega, by simp; omega, by simp; omega, by omega, by omega, HG⟩
      case measure => simp [intOf]; omega
    · obtain rfl : n = 0 := by omega
      obtain ⟨g, n, cc, rfl, hgb, hnl, hgc⟩ := own_shk HG.out.own (by omega)
      have hn1' : 1 ≤ n := by omega
      have hn30' : n ≤ 30 := by omega
      have HD := Lib.hid (HG.out.drs hnl (by omega) hgb)
      have ft := HG.out.tb.free 1
      have hTl := HG.out.tb.lt
      have hTB : T ≠ B := by have := HD.out.oT; have := HD.out.oB; omega
      clear HG hnl hgb hn0 hn30 hn1 y0 y1 hn
      go_wp2_with fail
      refine (next_r _ _ _ _ _ _ _ HD.out.ready).mono ?_
      rintro e w7 ⟨sw, rfl, hd, ho, hs⟩
      have HD := Lib.hid (HD.out.call ho hs)
      have kt := (ho.frozen (p := ⟨T, 1, none⟩) hTl hTB).trans ft
      clear hd ho hs ft
      by_cases hs0 : sw = 0
      · subst hs0
        have n1 := HD.out.ne
        have n0 : (0 : Int) < (n : Int) := by omega
        have n00 : 0 < n := by omega
        have n01 : ¬ n = 0 := by omega
        go_wp2_with fail
        have C2 : Hid (∀ W M, W.heap.size = M → DrS B X T g n cc a l c z q w W → Calls Try.prog 36 #[.pointer (some ⟨B, 0, none⟩), .slice (some ⟨M, 0, none⟩) 3 3] (W.alloc (.cells #[.int .i64 (-1), .int .i64 52000, .int .i64 52001] 2)) (fun e w' => ∃ v, e = .returned (.int .i64 v) ∧ DrS B X T g n cc a l c z q w w')) :=
          Lib.hid (fun W M hM hW => by subst hM; exact (pick3 _ _ _ _ _ _ hW.ready).mono fun e w' ⟨v, he, _, ho, hs⟩ => ⟨v, he, hW.call ho hs⟩)
        have C1 : Hid (∀ W M, W.heap.size = M → DrS B X T g n cc a l c z q w W → Calls Try.prog 36 #[.pointer (some ⟨B, 0, none⟩), .slice (some ⟨M, 0, none⟩) 3 3] (W.alloc (.cells #[.int .i64 (-1), .int .i64 52000, .int .i64 52001] 2)).drew (fun e w' => ∃ v, e = .returned (.int .i64 v) ∧ DrS B X T g n cc a l c z q w w')) :=
          Lib.hid (fun W M hM hW => by
            subst hM
            refine (pick_r B W.heap.size a l c 3 z [-1, 52000, 52001] _ ((hW.ready.alloc _).drew) (by have := hW.ready.here; omega) rfl (by decide) (by decide) (fun i hi => new_cells W [-1, 52000, 52001] 2 i hi)).mono ?_
            rintro e w' ⟨v, he, _, ho, hs⟩
            exact ⟨v, he, ((hW.alloc _).drew).call ho hs⟩)
        have k1 := HD.out.c1
        go_region_held3 (fun w' => w'.cell? ⟨T, 1, none⟩ = some (.slice (some ⟨g, 0, none⟩) n cc) ∧ Hid (DrS B X T g n cc a l c z q w w'))
          (first
            | (go_split_ands; exact ⟨by assumption, by assumption⟩)
            | (go_split_ands; exact ⟨by assumption, Lib.hid (DrS.drew (Hid.out (by assumption)))⟩)
            | (go_split_ands; exact ⟨hD8.out.c1, hD8⟩)
            | (go_split_ands; exact ⟨hD8.out.drew.c1, Lib.hid hD8.out.drew⟩)
            | (go_split_ands; exact ⟨(hD8.out.put 0 _).c1, Lib.hid (hD8.out.put 0 _)⟩)
            | (go_split_ands; exact ⟨(hD8.out.drew.put 0 _).c1, Lib.hid (hD8.out.drew.put 0 _)⟩)
            | (go_split_ands; exact ⟨(HD.out.alloc _).c1, Lib.hid (HD.out.alloc _)⟩)
            | (go_split_ands; exact ⟨(HD.out.alloc _).drew.c1, Lib.hid (HD.out.alloc _).drew⟩)
            | (go_split_ands; exact ⟨(HD.out.drew.alloc _).c1, Lib.hid (HD.out.drew.alloc _)⟩)
            | (go_split_ands; exact ⟨(HD.out.drew.alloc _).drew.c1, Lib.hid (HD.out.drew.alloc _).drew⟩))
          (first
            | (go_split_ands; go_at_call 36; (first | ((with_reducible refine (C1.out w7 _ rfl HD.out).mono ?_)) | ((with_reducible refine (C2.out w7 _ rfl HD.out).mono ?_)) | ((with_reducible refine (C1.out w7.drew _ rfl HD.out.drew).mono ?_)) | ((with_reducible refine (C2.out w7.drew _ rfl HD.out.drew).mono ?_))); rintro e w8 ⟨v, rfl, hd8⟩; obtain ⟨ys, hyl, hyr⟩ := hd8.row; have kc := hyr.cell 0 (by omega); have kf := hyr.free 0 (by omega); have hD8 := Lib.hid hd8; clear hd8 hyl hyr))
        all_goals
          go_split_ands
          have HD := hD8
          (try obtain ⟨ws, hws⟩ : ∃ W, W = w8.setCell ⟨g, 0, none⟩ (.int .i64 v) := ⟨_, rfl⟩)
          have HD := Lib.hid (hD8.out.put 0 v)
          rw [← hws] at HD ⊢
          clear hws kc kf hD8
          have HP := HD
          obtain ⟨e0, e1⟩ := HP.out.res (.int .i64 q) (.slice (some ⟨g, 0, none⟩) n cc)
          have k0 := HD.out.c0
          have k1 := HD.out.c1
          have k2 := HD.out.r0
          have k3 := HD.out.r1
          have k4 := HD.out.h0
          have k5 := HD.out.h1
          have n1 := HD.out.ne
          have n2 : T ≠ g := fun e => n1 e.symm
          have n3 : X ≠ g := by have := HD.out.og; omega
          have n4 : g ≠ X := by have := HD.out.og; omega
          have n5 : X ≠ T := by have := HD.out.oT; omega
          have n6 : T ≠ X := by have := HD.out.oT; omega
          go_wp2_with fail
          exact bodyPost_ret (v := .agg #[.int .i64 q, .slice (some ⟨g, 0, none⟩) n cc]) (by simp [results, Try.results34, go_sem, e0, e1]) rfl ((HP.out.post hgc (by omega) (by omega) (by omega)).few (by omega) (by have := HP.out.gl; simpa [World.setCell] using this))
      have b0 : (sw == 0) = false := by simpa using hs0
      by_cases hs1 : sw = 1
      · subst hs1
        clear b0 hs0
        go_wp2_with fail
        refine (pick3 _ _ _ _ _ _ HD.out.ready).mono ?_
        rintro e w8 ⟨v, rfl, hd, ho, hs⟩
        have hv := mem3 hd
        have hv1 : -1 ≤ v ∧ v ≤ 101 := by omega
        have HD := Lib.hid (HD.out.call ho hs)
        clear hd ho hs hv
        have kf := HD.out.f0
        have HP := Lib.hid (HD.out.first v)
        obtain ⟨e0, e1⟩ := HP.out.res (.int .i64 v) (.slice (some ⟨g, 0, none⟩) n cc)
        have k0 := HD.out.c0
        have k1 := HD.out.c1
        have k2 := HD.out.r0
        have k3 := HD.out.r1
        have k4 := HD.out.h0
        have k5 := HD.out.h1
        have n1 := HD.out.ne
        have n2 : T ≠ g := fun e => n1 e.symm
        have n3 : X ≠ g := by have := HD.out.og; omega
        have n4 : g ≠ X := by have := HD.out.og; omega
        have n5 : X ≠ T := by have := HD.out.oT; omega
        have n6 : T ≠ X := by have := HD.out.oT; omega
        go_wp2_with fail
        exact bodyPost_ret (v := .agg #[.int .i64 v, .slice (some ⟨g, 0, none⟩) n cc]) (by simp [results, Try.results34, go_sem, e0, e1]) rfl ((HP.out.post hgc (by omega) (by omega) (by omega)).few (by omega) (by have := HP.out.gl; simpa [World.setCell] using this))
      have b1 : (sw == 1) = false := by simpa using hs1
      by_cases hs2 : sw = 2
      · subst hs2
        clear b0 hs0 b1 hs1
        obtain ⟨hpo, e0, e1⟩ := HD.out.noW (by omega) (by omega)
        have HPO := Lib.hid hpo
        clear hpo
        have k0 := HD.out.c0
        have k1 := HD.out.c1
        have k2 := HD.out.r0
        have k3 := HD.out.r1
        have k4 := HD.out.h0
        have k5 := HD.out.h1
        have n1 := HD.out.ne
        have n2 : T ≠ g := fun e => n1 e.symm
        have n3 : X ≠ g := by have := HD.out.og; omega
        have n4 : g ≠ X := by have := HD.out.og; omega
        have n5 : X ≠ T := by have := HD.out.oT; omega
        have n6 : T ≠ X := by have := HD.out.oT; omega
        go_wp2_with fail
        exact bodyPost_ret (v := .agg #[.int .i64 q, .slice none 0 0]) (by simp [results, Try.results34, go_sem, e0, e1]) rfl HPO.out
      have b2 : (sw == 2) = false := by simpa using hs2
      have HP := HD
      obtain ⟨e0, e1⟩ := HP.out.res (.int .i64 q) (.slice (some ⟨g, 0, none⟩) n cc)
      have k0 := HD.out.c0
      have k1 := HD.out.c1
      have k2 := HD.out.r0
      have k3 := HD.out.r1
      have k4 := HD.out.h0
      have k5 := HD.out.h1
      have n1 := HD.out.ne
      have n2 : T ≠ g := fun e => n1 e.symm
      have n3 : X ≠ g := by have := HD.out.og; omega
      have n4 : g ≠ X := by have := HD.out.og; omega
      have n5 : X ≠ T := by have := HD.out.oT; omega
      have n6 : T ≠ X := by have := HD.out.oT; omega
      go_wp2_with fail
      exact bodyPost_ret (v := .agg #[.int .i64 q, .slice (some ⟨g, 0, none⟩) n cc]) (by simp [results, Try.results34, go_sem, e0, e1]) rfl ((HP.out.post hgc (by omega) (by omega) (by omega)).few (by omega) (by have := HP.out.gl; simpa [World.setCell] using this))

end Go.Proofs.Ytgfemcpjkdepdaa
