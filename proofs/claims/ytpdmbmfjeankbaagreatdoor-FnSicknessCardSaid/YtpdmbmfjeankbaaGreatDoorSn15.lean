/- Merged: DkS, DkW, Mid9, SicW, SicP, Comm. -/
import Derived.Test.YtpdmbmfjeankbaaGreatDoorSn4
import Derived.Test.YtpdmbmfjeankbaaGreatDoorSn6
import Derived.Test.YtpdmbmfjeankbaaGreatDoorSn13
import Derived.Test.YtpdmbmfjeankbaaGreatDoorSn14
import Derived.Deep.RegionHeld3

/- The model's draw of a sickness table. -/
namespace Go.Proofs.YtpdmbmfjeankbaaGreatDoor
open Go.ChangeShapes Go.WideShapes Go.ChangeAt Go.RowKit
set_option linter.unusedVariables false
set_option linter.unusedSimpArgs false
set_option maxRecDepth 100000

/-- a drawn sickness table, its weeks still to come: the result's cells X, its box T, its weeks so far -/
structure DK (B X T base : Nat) (a : Option Addr) (l c : Nat) (z : List Int) (q : Int) (v : Value) (L : List Int) (w W : World) : Prop where
  ready : Ready B a l c z W
  but : But B w W
  rb : Bx W X [.int .i64 0, .slice none 0 0]
  tb : Bx W T [.int .i64 q, v]
  own : OwnI base W v L
  ne : v.ownBlock ≠ some T
  eX : w.heap.size = X
  oB : B < X
  ob : X < base
  oT : base ≤ T

theorem DK.call {B X T base : Nat} {a : Option Addr} {l c : Nat} {z : List Int} {q : Int} {v : Value} {L : List Int} {w W W' : World} (h : DK B X T base a l c z q v L w W) (ho : But B W W') (hs : Ready B a l c z W') : DK B X T base a l c z q v L w W' := by
  have oB := h.oB
  have ob := h.ob
  have oT := h.oT
  exact ⟨hs, h.but.trans ho, h.rb.same (ho.block X h.rb.lt (by omega)), h.tb.same (ho.block T h.tb.lt (by omega)), h.own.but ho (by omega), h.ne, h.eX, oB, ob, oT⟩

/-- one more number of weeks -/
theorem DK.push {B X T base : Nat} {a : Option Addr} {l c : Nat} {z : List Int} {q : Int} {v : Value} {L L2 : List Int} {w W w5 : World} {o : Obj} {g n cc : Nat} (h : DK B X T base a l c z q v L w W) (hg : (W.alloc o).grownBy w5 v.ownBlock) (hown' : OwnI base w5 (.slice (some ⟨g, 0, none⟩) n cc) L2) (hw : (Value.slice (some ⟨g, 0, none⟩) n cc).ownBlock = v.ownBlock ∨ (Value.slice (some ⟨g, 0, none⟩) n cc).ownBlock = some (W.alloc o).heap.size) :
    DK B X T base a l c z q (.slice (some ⟨g, 0, none⟩) n cc) L2 w (w5.setCell ⟨T, 1, none⟩ (.slice (some ⟨g, 0, none⟩) n cc)) := by
  have oB := h.oB
  have ob := h.ob
  have oT := h.oT
  have hTl := h.tb.lt
  have hb := app_below h.own (by omega) hg
  have hgT : g ≠ T := by
    rcases hw with e | e
    · intro e2; subst e2; exact h.ne e.symm
    · simp [Value.ownBlock] at e; omega
  have far : ∀ k, k ≠ T → (w5.setCell ⟨T, 1, none⟩ (.slice (some ⟨g, 0, none⟩) n cc)).heap[k]? = w5.heap[k]? := fun k hk => far_setCell _ _ _ _ (by show k ≠ T; exact hk)
  have hl : Below X w5 (w5.setCell ⟨T, 1, none⟩ (.slice (some ⟨g, 0, none⟩) n cc)) := (Below.refl _ _).setCell (p := ⟨T, 1, none⟩) (by show X ≤ T; omega) _
  refine ⟨(h.ready.below hb (by omega)).below hl oB, (h.but.low (hb.mono (by rw [h.eX]; omega))).low (by rw [h.eX]; exact hl), (h.rb.same (hb.block X (by omega))).same (far X (by omega)), (Bx.grown h.tb hg (Ne.symm h.ne)).set1 _, ?_, by simp [Value.ownBlock]; exact hgT, h.eX, oB, ob, oT⟩
  obtain ⟨h1, h0 | ⟨g', cap, cur, hv, hgb, hcell, rr⟩⟩ := hown'
  · exact absurd h0.1 (by simp)
  · refine ⟨h1, .inr ⟨g', cap, cur, hv, hgb, ?_, rr⟩⟩
    simp only [Value.slice.injEq, Option.some.injEq, Addr.mk.injEq] at hv
    obtain ⟨⟨rfl, _⟩, _⟩ := hv
    rw [far_setCell _ _ _ _ hgT]
    exact hcell

theorem own_shk {base : Nat} {w : World} {v : Value} {ys : List Int} (h : OwnI base w v ys) (hl : 0 < ys.length) : ∃ g n c, v = .slice (some ⟨g, 0, none⟩) n c ∧ base ≤ g ∧ n = ys.length ∧ n ≤ c := by
  obtain ⟨_, h0 | ⟨g, cap, cur, hv, hb, _, hn, _⟩⟩ := h
  · omega
  · exact ⟨g, _, cap, hv, hb, rfl, hn⟩

/-- all weeks are there -/
theorem DK.drs {B X T base : Nat} {a : Option Addr} {l c : Nat} {z : List Int} {q : Int} {g n cc : Nat} {L : List Int} {w W : World} (h : DK B X T base a l c z q (.slice (some ⟨g, 0, none⟩) n cc) L w W) (hn : n = L.length) (hl : 0 < n) (hg : base ≤ g) : DrS B X T g n cc a l c z q w W := by
  subst hn
  have ob := h.ob
  have oT := h.oT
  have hr := h.own.row
  exact ⟨h.ready, h.but, h.tb.two.1, h.tb.two.2, h.tb.free 0, h.rb.two.1, h.rb.two.2, h.rb.free 0, h.rb.free 1, ⟨L, rfl, hr⟩, h.eX, h.oB, by omega, by omega, fun e => by have := h.ne; simp [Value.ownBlock] at this; exact this e, hr.lt hl⟩

/-- a drawn sickness table: few weeks -/
def DrawnK (B : Nat) (a : Option Addr) (l c : Nat) (z : List Int) (w : World) (e : Ending) (w' : World) : Prop :=
  ∃ F ta tn tc xs, e = .returned (.agg #[.int .i64 F, .slice ta tn tc]) ∧ Ints w' ta tn xs ∧ tn ≤ tc ∧ tn ≤ 30 ∧ -1 ≤ F ∧ F ≤ 101 ∧ (∀ x, ta = some x → w.heap.size ≤ x.block ∧ x.block < w'.heap.size) ∧ But B w w' ∧ Ready B a l c z w'

theorem DrawnT.few {B : Nat} {a : Option Addr} {l c : Nat} {z : List Int} {w w' : World} {F : Int} {g n cc : Nat} (h : DrawnT B a l c z w (.returned (.agg #[.int .i64 F, .slice (some ⟨g, 0, none⟩) n cc])) w') (hn : n ≤ 30) (hg : g < w'.heap.size) : DrawnK B a l c z w (.returned (.agg #[.int .i64 F, .slice (some ⟨g, 0, none⟩) n cc])) w' := by
  obtain ⟨F', ta, tn, tc, xs, he, h1, h2, h3, h4, h5, h6, h7, h8⟩ := h
  simp only [Ending.returned.injEq, Value.agg.injEq, Array.mk.injEq, List.cons.injEq, Value.int.injEq, Value.slice.injEq, and_true, true_and] at he
  obtain ⟨rfl, rfl, rfl, rfl⟩ := he
  exact ⟨_, _, _, _, xs, rfl, h1, h2, hn, h4, h5, fun x hx => ⟨h6 x hx, by cases hx; exact hg⟩, h7, h8⟩

/-- a drawn table without weeks -/
theorem DrS.noW {B X T g n cc : Nat} {a : Option Addr} {l c : Nat} {z : List Int} {F : Int} {w W : World} (h : DrS B X T g n cc a l c z F w W) (f0 : -1 ≤ F) (f1 : F ≤ 101) :
    DrawnK B a l c z w (.returned (.agg #[.int .i64 F, .slice none 0 0])) (((W.setCell ⟨T, 1, none⟩ (.slice none 0 0)).setCell ⟨X, 0, none⟩ (.int .i64 F)).setCell ⟨X, 1, none⟩ (.slice none 0 0)) ∧
    (((W.setCell ⟨T, 1, none⟩ (.slice none 0 0)).setCell ⟨X, 0, none⟩ (.int .i64 F)).setCell ⟨X, 1, none⟩ (.slice none 0 0)).cell? ⟨X, 0, none⟩ = some (.int .i64 F) ∧
    (((W.setCell ⟨T, 1, none⟩ (.slice none 0 0)).setCell ⟨X, 0, none⟩ (.int .i64 F)).setCell ⟨X, 1, none⟩ (.slice none 0 0)).cell? ⟨X, 1, none⟩ = some (.slice none 0 0) := by
  have oB := h.oB
  have oT := h.oT
  have hb : Below X W (((W.setCell ⟨T, 1, none⟩ (.slice none 0 0)).setCell ⟨X, 0, none⟩ (.int .i64 F)).setCell ⟨X, 1, none⟩ (.slice none 0 0)) := (((Below.refl _ _).setCell (p := ⟨T, 1, none⟩) (by show X ≤ T; omega) _).setCell (p := ⟨X, 0, none⟩) (Nat.le_refl _) _).setCell (p := ⟨X, 1, none⟩) (Nat.le_refl _) _
  have n1 : (⟨X, 0, none⟩ : Addr) ≠ ⟨X, 1, none⟩ := fun e => by injection e; omega
  have nT : ∀ j, (⟨X, j, none⟩ : Addr) ≠ ⟨T, 1, none⟩ := fun j e => by injection e; omega
  have r0 : (W.setCell ⟨T, 1, none⟩ (.slice none 0 0)).cell? ⟨X, 0, none⟩ = some (.int .i64 0) := (far_set (nT 0) _).trans h.r0
  have r1 : (W.setCell ⟨T, 1, none⟩ (.slice none 0 0)).cell? ⟨X, 1, none⟩ = some (.slice none 0 0) := (far_set (nT 1) _).trans h.r1
  refine ⟨⟨F, none, 0, 0, [], rfl, ⟨rfl, by omega, .inl rfl⟩, Nat.le_refl _, by omega, f0, f1, fun x hx => (by cases hx), h.but.low (by rw [h.eX]; exact hb), h.ready.below hb oB⟩, ?_, ?_⟩
  · rw [far_set n1]; exact World.cell?_setCell_same' _ _ _ (by rw [r0]; rfl)
  · exact World.cell?_setCell_same' _ _ _ (by rw [far_set n1.symm, r1]; rfl)

end Go.Proofs.YtpdmbmfjeankbaaGreatDoor

/- The model's draw of a sickness table: the walk. (Written by wip/gen/dkw.py.) -/
namespace Go.Proofs.YtpdmbmfjeankbaaGreatDoor
open Go.ChangeShapes Go.WideShapes Go.ChangeAt Go.RowKit
set_option linter.unusedVariables false
set_option linter.unusedSimpArgs false
set_option maxRecDepth 100000

set_option maxHeartbeats 4000000 in
theorem dsick (B : Nat) (a : Option Addr) (l c : Nat) (z : List Int) (w : World) (h : Ready B a l c z w) : Calls Tryz.prog 20 #[.pointer (some ⟨B, 0, none⟩)] w (DrawnK B a l c z w) := by
  have hB := h.here
  have HS := Lib.hid h
  clear h
  go_enter Tryz.func20, Tryz.ntmps20
  go_wp2_with fail
  refine (pick4M _ _ _ _ _ _ _ _ (HS.out.alloc _) (World.size_alloc _ _)).mono ?_
  rintro e w1 ⟨q, rfl, hd, ho, hs⟩
  obtain ⟨X, hX⟩ : ∃ X, w.heap.size = X := ⟨_, rfl⟩
  (try rw [hX])
  have hq := mem4 hd
  have hr1 : Bx w1 X [.int .i64 0, .slice none 0 0] := (by rw [← hX]; exact Bx.new w _ _ : Bx (w.alloc (.cells #[.int .i64 0, .slice none 0 0] 28)) X [.int .i64 0, .slice none 0 0]).same (ho.block X (by rw [World.size_alloc]; omega) (by omega))
  have hs1 : X < w1.heap.size := hr1.lt
  have hG : Hid (DK B X (w1.heap.size + 1) w1.heap.size a l c z q (.slice (some ⟨w1.heap.size, 0, none⟩) 0 0) [] w ((w1.alloc (.cells #[] 2)).alloc (.cells #[.int .i64 q, .slice (some ⟨w1.heap.size, 0, none⟩) 0 0] 28))) := Lib.hid (by
    have o1 := ownI_new w1
    have p1 := hr1.on (box_b w1 (.cells #[] 2))
    have z1 := World.size_alloc w1 (.cells #[] 2)
    have rd := hs.alloc (.cells #[] 2)
    have bt := ((But.alloc _).trans ho).trans (But.alloc (B := B) (w := w1) (.cells #[] 2))
    generalize w1.alloc (.cells #[] 2) = W2 at *
    have p2 := Bx.new W2 [.int .i64 q, .slice (some ⟨w1.heap.size, 0, none⟩) 0 0] 28
    rw [z1] at p2
    have hb := box_b W2 (.cells #[.int .i64 q, .slice (some ⟨w1.heap.size, 0, none⟩) 0 0] 28)
    exact ⟨rd.alloc _, bt.trans (But.alloc _), p1.on hb, p2, o1.on hb, by simp [Value.ownBlock], hX, by omega, hs1, by omega⟩)
  have hqb : -1 ≤ q ∧ q ≤ 101 := by omega
  clear hd ho hs hr1 HS hq
  go_wp2_with fail
  obtain ⟨base, hbase⟩ : ∃ y_, w1.heap.size = y_ := ⟨_, rfl⟩
  rw [hbase] at hG
  (try rw [hbase])
  generalize ((w1.alloc (.cells #[] 2)).alloc (.cells #[.int .i64 q, .slice (some ⟨base, 0, none⟩) 0 0] 28)) = w2 at hG ⊢
  obtain ⟨T, hT⟩ : ∃ y_, base + 1 = y_ := ⟨_, rfl⟩
  rw [hT] at hG
  (try rw [hT])
  clear hbase hT hs1
  refine (next_r _ _ _ _ _ _ _ hG.out.ready).mono ?_
  rintro e w3 ⟨y, rfl, hd, ho, hs⟩
  have hy := drawn_bd hd (by omega)
  have hG := Lib.hid (hG.out.call ho hs)
  clear hd ho hs
  go_wp2_with fail
  refine (next_r _ _ _ _ _ _ _ hG.out.ready).mono ?_
  rintro e w4 ⟨r, rfl, hd, ho, hs⟩
  have hr := drawn_bd hd (by omega)
  have hG := Lib.hid (hG.out.call ho hs)
  clear hd ho hs
  go_wp2_with fail
  go_loopw [4, 5] (fun u i wr => ∃ (n y : Int) (v : Value) (L : List Int), i = .int .i64 n ∧ u = .int .i64 y ∧ 0 ≤ n ∧ L.length + n ≤ 30 ∧ 1 ≤ L.length + n ∧ 0 ≤ y ∧ y ≤ 1000 + 300 * (30 - n) ∧ Hid (DK B X T base a l c z q v L w wr)) (fun _ i _ => (intOf i).toNat)
  case atStart => exact ⟨1 + r, y, _, [], by go_num, rfl, by omega, by simp; omega, by simp; omega, hy.1, by omega, hG⟩
  case round =>
    clear hG hy hr
    obtain ⟨n, y, v, L, rfl, rfl, hn0, hn30, hn1, y0, y1, HG⟩ := hrel
    by_cases hn : 0 < n
    · have hv := HG.out.tb.two.2
      have hown := HG.out.own
      have hoT := HG.out.oT
      have hTl := HG.out.tb.lt
      go_wp2_with (at_builtin; refine wpList_app rfl _ _ rfl base _ L y rfl (hown.same (fun k hk hl => Below.heap_alloc _ _ _ hl)) ⟨wr.heap.size, 0, none⟩ rfl (one_newC wr y) (by omega) (by simp; omega) ?_)
      intro v' w5 hown' hgrow hw
      obtain ⟨g, n9, c9, rfl, hg9, -⟩ := own_shk hown' (by simp)
      have tb5 := Bx.grown HG.out.tb hgrow (Ne.symm HG.out.ne)
      have c1 := tb5.two.2
      have f1 := tb5.free 1
      have HG := Lib.hid (HG.out.push hgrow hown' (by rw [World.size_alloc]; exact hw))
      clear hown hown' hgrow hw hv hoT hTl tb5
      go_wp2_with fail
      refine (next_r _ _ _ _ _ _ _ HG.out.ready).mono ?_
      rintro e w6 ⟨y2, rfl, hd, ho, hs⟩
      have hy2 := drawn_bd hd (by omega)
      have HG := Lib.hid (HG.out.call ho hs)
      clear hd ho hs c1 f1
      go_wp2_with fail
      go_roundw
      case rel => exact ⟨n - 1, y + y2, _, L ++ [y], by go_num, by go_num, by omega, by simp; omega, by simp; omega, by omega, by omega, HG⟩
      case measure => simp [intOf]; omega
    · obtain rfl : n = 0 := by omega
      obtain ⟨g, n, cc, rfl, hgb, hnl, hgc⟩ := own_shk HG.out.own (by omega)
      have hn1' : 1 ≤ n := by omega
      have hn30' : n ≤ 30 := by omega
      have HD := Lib.hid (HG.out.drs hnl (by omega) hgb)
      have ft := HG.out.tb.free 1
      have hTl := HG.out.tb.lt
      have hTB : T ≠ B := by have := HD.out.oT; have := HD.out.oB; omega
      clear HG hnl hgb hn0 hn30 hn1 y0 y1 hn
      go_wp2_with fail
      refine (next_r _ _ _ _ _ _ _ HD.out.ready).mono ?_
      rintro e w7 ⟨sw, rfl, hd, ho, hs⟩
      have HD := Lib.hid (HD.out.call ho hs)
      have kt := (ho.frozen (p := ⟨T, 1, none⟩) hTl hTB).trans ft
      clear hd ho hs ft
      by_cases hs0 : sw = 0
      · subst hs0
        have n1 := HD.out.ne
        have n0 : (0 : Int) < (n : Int) := by omega
        have n00 : 0 < n := by omega
        have n01 : ¬ n = 0 := by omega
        go_wp2_with fail
        have C2 : Hid (∀ W M, W.heap.size = M → DrS B X T g n cc a l c z q w W → Calls Tryz.prog 22 #[.pointer (some ⟨B, 0, none⟩), .slice (some ⟨M, 0, none⟩) 3 3] (W.alloc (.cells #[.int .i64 (-1), .int .i64 52000, .int .i64 52001] 2)) (fun e w' => ∃ v, e = .returned (.int .i64 v) ∧ DrS B X T g n cc a l c z q w w')) :=
          Lib.hid (fun W M hM hW => by subst hM; exact (pick3 _ _ _ _ _ _ hW.ready).mono fun e w' ⟨v, he, _, ho, hs⟩ => ⟨v, he, hW.call ho hs⟩)
        have C1 : Hid (∀ W M, W.heap.size = M → DrS B X T g n cc a l c z q w W → Calls Tryz.prog 22 #[.pointer (some ⟨B, 0, none⟩), .slice (some ⟨M, 0, none⟩) 3 3] (W.alloc (.cells #[.int .i64 (-1), .int .i64 52000, .int .i64 52001] 2)).drew (fun e w' => ∃ v, e = .returned (.int .i64 v) ∧ DrS B X T g n cc a l c z q w w')) :=
          Lib.hid (fun W M hM hW => by
            subst hM
            refine (pick_r B W.heap.size a l c 3 z [-1, 52000, 52001] _ ((hW.ready.alloc _).drew) (by have := hW.ready.here; omega) rfl (by decide) (by decide) (fun i hi => new_cells W [-1, 52000, 52001] 2 i hi)).mono ?_
            rintro e w' ⟨v, he, _, ho, hs⟩
            exact ⟨v, he, ((hW.alloc _).drew).call ho hs⟩)
        have k1 := HD.out.c1
        go_region_held3 (fun w' => w'.cell? ⟨T, 1, none⟩ = some (.slice (some ⟨g, 0, none⟩) n cc) ∧ Hid (DrS B X T g n cc a l c z q w w'))
          (first
            | (go_split_ands; exact ⟨by assumption, by assumption⟩)
            | (go_split_ands; exact ⟨by assumption, Lib.hid (DrS.drew (Hid.out (by assumption)))⟩)
            | (go_split_ands; exact ⟨hD8.out.c1, hD8⟩)
            | (go_split_ands; exact ⟨hD8.out.drew.c1, Lib.hid hD8.out.drew⟩)
            | (go_split_ands; exact ⟨(hD8.out.put 0 _).c1, Lib.hid (hD8.out.put 0 _)⟩)
            | (go_split_ands; exact ⟨(hD8.out.drew.put 0 _).c1, Lib.hid (hD8.out.drew.put 0 _)⟩)
            | (go_split_ands; exact ⟨(HD.out.alloc _).c1, Lib.hid (HD.out.alloc _)⟩)
            | (go_split_ands; exact ⟨(HD.out.alloc _).drew.c1, Lib.hid (HD.out.alloc _).drew⟩)
            | (go_split_ands; exact ⟨(HD.out.drew.alloc _).c1, Lib.hid (HD.out.drew.alloc _)⟩)
            | (go_split_ands; exact ⟨(HD.out.drew.alloc _).drew.c1, Lib.hid (HD.out.drew.alloc _).drew⟩))
          (first
            | (go_split_ands; go_at_call 22; (first | ((with_reducible refine (C1.out w7 _ rfl HD.out).mono ?_)) | ((with_reducible refine (C2.out w7 _ rfl HD.out).mono ?_)) | ((with_reducible refine (C1.out w7.drew _ rfl HD.out.drew).mono ?_)) | ((with_reducible refine (C2.out w7.drew _ rfl HD.out.drew).mono ?_))); rintro e w8 ⟨v, rfl, hd8⟩; obtain ⟨ys, hyl, hyr⟩ := hd8.row; have kc := hyr.cell 0 (by omega); have kf := hyr.free 0 (by omega); have hD8 := Lib.hid hd8; clear hd8 hyl hyr))
        all_goals
          go_split_ands
          have HD := hD8
          (try obtain ⟨ws, hws⟩ : ∃ W, W = w8.setCell ⟨g, 0, none⟩ (.int .i64 v) := ⟨_, rfl⟩)
          have HD := Lib.hid (hD8.out.put 0 v)
          rw [← hws] at HD ⊢
          clear hws kc kf hD8
          have HP := HD
          obtain ⟨e0, e1⟩ := HP.out.res (.int .i64 q) (.slice (some ⟨g, 0, none⟩) n cc)
          have k0 := HD.out.c0
          have k1 := HD.out.c1
          have k2 := HD.out.r0
          have k3 := HD.out.r1
          have k4 := HD.out.h0
          have k5 := HD.out.h1
          have n1 := HD.out.ne
          have n2 : T ≠ g := fun e => n1 e.symm
          have n3 : X ≠ g := by have := HD.out.og; omega
          have n4 : g ≠ X := by have := HD.out.og; omega
          have n5 : X ≠ T := by have := HD.out.oT; omega
          have n6 : T ≠ X := by have := HD.out.oT; omega
          go_wp2_with fail
          exact bodyPost_ret (v := .agg #[.int .i64 q, .slice (some ⟨g, 0, none⟩) n cc]) (by simp [results, Tryz.results20, go_sem, e0, e1]) rfl ((HP.out.post hgc (by omega) (by omega) (by omega)).few (by omega) (by have := HP.out.gl; simpa [World.setCell] using this))
      have b0 : (sw == 0) = false := by simpa using hs0
      by_cases hs1 : sw = 1
      · subst hs1
        clear b0 hs0
        go_wp2_with fail
        refine (pick3 _ _ _ _ _ _ HD.out.ready).mono ?_
        rintro e w8 ⟨v, rfl, hd, ho, hs⟩
        have hv := mem3 hd
        have hv1 : -1 ≤ v ∧ v ≤ 101 := by omega
        have HD := Lib.hid (HD.out.call ho hs)
        clear hd ho hs hv
        have kf := HD.out.f0
        have HP := Lib.hid (HD.out.first v)
        obtain ⟨e0, e1⟩ := HP.out.res (.int .i64 v) (.slice (some ⟨g, 0, none⟩) n cc)
        have k0 := HD.out.c0
        have k1 := HD.out.c1
        have k2 := HD.out.r0
        have k3 := HD.out.r1
        have k4 := HD.out.h0
        have k5 := HD.out.h1
        have n1 := HD.out.ne
        have n2 : T ≠ g := fun e => n1 e.symm
        have n3 : X ≠ g := by have := HD.out.og; omega
        have n4 : g ≠ X := by have := HD.out.og; omega
        have n5 : X ≠ T := by have := HD.out.oT; omega
        have n6 : T ≠ X := by have := HD.out.oT; omega
        go_wp2_with fail
        exact bodyPost_ret (v := .agg #[.int .i64 v, .slice (some ⟨g, 0, none⟩) n cc]) (by simp [results, Tryz.results20, go_sem, e0, e1]) rfl ((HP.out.post hgc (by omega) (by omega) (by omega)).few (by omega) (by have := HP.out.gl; simpa [World.setCell] using this))
      have b1 : (sw == 1) = false := by simpa using hs1
      by_cases hs2 : sw = 2
      · subst hs2
        clear b0 hs0 b1 hs1
        obtain ⟨hpo, e0, e1⟩ := HD.out.noW (by omega) (by omega)
        have HPO := Lib.hid hpo
        clear hpo
        have k0 := HD.out.c0
        have k1 := HD.out.c1
        have k2 := HD.out.r0
        have k3 := HD.out.r1
        have k4 := HD.out.h0
        have k5 := HD.out.h1
        have n1 := HD.out.ne
        have n2 : T ≠ g := fun e => n1 e.symm
        have n3 : X ≠ g := by have := HD.out.og; omega
        have n4 : g ≠ X := by have := HD.out.og; omega
        have n5 : X ≠ T := by have := HD.out.oT; omega
        have n6 : T ≠ X := by have := HD.out.oT; omega
        go_wp2_with fail
        exact bodyPost_ret (v := .agg #[.int .i64 q, .slice none 0 0]) (by simp [results, Tryz.results20, go_sem, e0, e1]) rfl HPO.out
      have b2 : (sw == 2) = false := by simpa using hs2
      have HP := HD
      obtain ⟨e0, e1⟩ := HP.out.res (.int .i64 q) (.slice (some ⟨g, 0, none⟩) n cc)
      have k0 := HD.out.c0
      have k1 := HD.out.c1
      have k2 := HD.out.r0
      have k3 := HD.out.r1
      have k4 := HD.out.h0
      have k5 := HD.out.h1
      have n1 := HD.out.ne
      have n2 : T ≠ g := fun e => n1 e.symm
      have n3 : X ≠ g := by have := HD.out.og; omega
      have n4 : g ≠ X := by have := HD.out.og; omega
      have n5 : X ≠ T := by have := HD.out.oT; omega
      have n6 : T ≠ X := by have := HD.out.oT; omega
      go_wp2_with fail
      exact bodyPost_ret (v := .agg #[.int .i64 q, .slice (some ⟨g, 0, none⟩) n cc]) (by simp [results, Tryz.results20, go_sem, e0, e1]) rfl ((HP.out.post hgc (by omega) (by omega) (by omega)).few (by omega) (by have := HP.out.gl; simpa [World.setCell] using this))

end Go.Proofs.YtpdmbmfjeankbaaGreatDoor

/- In the midst of a draw with two boxes for its result. -/
namespace Go.Proofs.YtpdmbmfjeankbaaGreatDoor
open Go.ChangeShapes Go.WideShapes Go.ChangeAt Go.RowKit
set_option linter.unusedVariables false
set_option maxRecDepth 100000

/-- in the midst of a draw: X and Y the result's boxes, B the source -/
structure C9 (B X Y : Nat) (a : Option Addr) (l c : Nat) (z : List Int) (ta : Option Addr) (tn : Nat) (xs : List Int) (ua : Option Addr) (un : Nat) (ys : List Int) (w W : World) : Prop where
  ready : Ready B a l c z W
  low : Below X w W
  rx : ∃ p q, Bx W X [p, q]
  ry : ∃ p q, Bx W Y [p, q]
  i1 : Ints W ta tn xs
  i2 : Ints W ua un ys
  f1 : ∀ x, ta = some x → B < x.block
  f2 : ∀ x, ua = some x → B < x.block
  oY : Y = X + 1
  oB : Y < B
  eX : w.heap.size = X
  ap : Apart a z X

theorem C9.call {B X Y : Nat} {a : Option Addr} {l c : Nat} {z : List Int} {ta : Option Addr} {tn : Nat} {xs : List Int} {ua : Option Addr} {un : Nat} {ys : List Int} {w W : World} {W' : World} (h : C9 B X Y a l c z ta tn xs ua un ys w W) (ho : But B W W') (hs : Ready B a l c z W') : C9 B X Y a l c z ta tn xs ua un ys w W' := by
  have oY := h.oY
  have oB := h.oB
  obtain ⟨p, q, hx⟩ := h.rx
  obtain ⟨r, s, hy⟩ := h.ry
  have lx := hx.lt
  exact ⟨hs, h.low.trans (ho.below (by omega) (by omega)), ⟨p, q, hx.same (ho.block _ hx.lt (by omega))⟩, ⟨r, s, hy.same (ho.block _ hy.lt (by omega))⟩, h.i1.butT ho (fun x hx => by have := h.f1 x hx; omega), h.i2.butT ho (fun x hx => by have := h.f2 x hx; omega), h.f1, h.f2, oY, oB, h.eX, h.ap⟩

theorem ready_only {B K X : Nat} {a : Option Addr} {l c : Nat} {z : List Int} {W W' : World} (h : Ready B a l c z W) (ho : Only K W W') (hne : B ≠ K) (hX : X ≤ K) (hap : Apart a z X) : Ready B a l c z W' := by
  obtain ⟨⟨t, x, S⟩, r, p⟩ := h
  exact ⟨⟨t, x, by rw [ho.size]; exact S.here, (ho.cell (p := ⟨B, 0, none⟩) hne).trans S.code, (ho.cell (p := ⟨B, 1, none⟩) hne).trans S.att, (ho.cell (p := ⟨B, 2, none⟩) hne).trans S.seed,
    (ho.frozen (p := ⟨B, 0, none⟩) hne).trans S.free0, (ho.frozen (p := ⟨B, 1, none⟩) hne).trans S.free1, (ho.frozen (p := ⟨B, 2, none⟩) hne).trans S.free2, S.t0, S.tl, S.x0, S.xl⟩, r.below (ho.below hX) hap, p⟩

theorem bx_put {W : World} {K : Nat} {x y u v : Value} (h : Bx W K [x, y]) : Bx ((W.setCell ⟨K, 0, none⟩ u).setCell ⟨K, 1, none⟩ v) K [u, v] := by
  obtain ⟨T, h⟩ := h
  refine ⟨T, ?_⟩
  simp [World.setCell, Array.getElem?_modify, h]

theorem put_only (W : World) (K : Nat) (u v : Value) : Only K W ((W.setCell ⟨K, 0, none⟩ u).setCell ⟨K, 1, none⟩ v) := ((Only.refl _ _).setCell (p := ⟨K, 0, none⟩) rfl _).setCell (p := ⟨K, 1, none⟩) rfl _

theorem C9.put {B X Y : Nat} {a : Option Addr} {l c : Nat} {z : List Int} {ta : Option Addr} {tn : Nat} {xs : List Int} {ua : Option Addr} {un : Nat} {ys : List Int} {w W : World} (h : C9 B X Y a l c z ta tn xs ua un ys w W) {K : Nat} (hK : K = X ∨ K = Y) (u v : Value) : C9 B X Y a l c z ta tn xs ua un ys w ((W.setCell ⟨K, 0, none⟩ u).setCell ⟨K, 1, none⟩ v) := by
  have oY := h.oY
  have oB := h.oB
  have ho := put_only W K u v
  obtain ⟨p, q, hx⟩ := h.rx
  obtain ⟨r, s, hy⟩ := h.ry
  refine ⟨ready_only h.ready ho (by omega) (show X ≤ K by omega) h.ap, h.low.trans (ho.below (by omega)), ?_, ?_, h.i1.onlyT ho (fun x hx => by have := h.f1 x hx; omega), h.i2.onlyT ho (fun x hx => by have := h.f2 x hx; omega), h.f1, h.f2, oY, oB, h.eX, h.ap⟩
  · by_cases e : K = X
    · subst e; exact ⟨_, _, bx_put hx⟩
    · exact ⟨_, _, hx.same (ho.block _ (by omega))⟩
  · by_cases e : K = Y
    · subst e; exact ⟨_, _, bx_put hy⟩
    · exact ⟨_, _, hy.same (ho.block _ (by omega))⟩

theorem C9.read {B X Y : Nat} {a : Option Addr} {l c : Nat} {z : List Int} {ta : Option Addr} {tn : Nat} {xs : List Int} {ua : Option Addr} {un : Nat} {ys : List Int} {w W : World} (h : C9 B X Y a l c z ta tn xs ua un ys w W) (p q r s : Value) :
    ((((W.setCell ⟨X, 0, none⟩ p).setCell ⟨X, 1, none⟩ q).setCell ⟨Y, 0, none⟩ r).setCell ⟨Y, 1, none⟩ s).cell? ⟨X, 0, none⟩ = some p ∧ ((((W.setCell ⟨X, 0, none⟩ p).setCell ⟨X, 1, none⟩ q).setCell ⟨Y, 0, none⟩ r).setCell ⟨Y, 1, none⟩ s).cell? ⟨X, 1, none⟩ = some q ∧ ((((W.setCell ⟨X, 0, none⟩ p).setCell ⟨X, 1, none⟩ q).setCell ⟨Y, 0, none⟩ r).setCell ⟨Y, 1, none⟩ s).cell? ⟨Y, 0, none⟩ = some r ∧ ((((W.setCell ⟨X, 0, none⟩ p).setCell ⟨X, 1, none⟩ q).setCell ⟨Y, 0, none⟩ r).setCell ⟨Y, 1, none⟩ s).cell? ⟨Y, 1, none⟩ = some s := by
  obtain ⟨_, _, t1, h1⟩ := h.rx
  obtain ⟨_, _, t2, h2⟩ := h.ry
  have oY := h.oY
  have n1 : ¬ X = Y := by omega
  have n2 : ¬ Y = X := by omega
  simp [World.cell?, World.setCell, Array.getElem?_modify, h1, h2, n1, n2]

theorem C9.fin {B X Y : Nat} {a : Option Addr} {l c : Nat} {z : List Int} {ta : Option Addr} {tn : Nat} {xs : List Int} {ua : Option Addr} {un : Nat} {ys : List Int} {w W : World} (h : C9 B X Y a l c z ta tn xs ua un ys w W) (p q r s : Value) : Ints ((((W.setCell ⟨X, 0, none⟩ p).setCell ⟨X, 1, none⟩ q).setCell ⟨Y, 0, none⟩ r).setCell ⟨Y, 1, none⟩ s) ta tn xs ∧ Ints ((((W.setCell ⟨X, 0, none⟩ p).setCell ⟨X, 1, none⟩ q).setCell ⟨Y, 0, none⟩ r).setCell ⟨Y, 1, none⟩ s) ua un ys ∧ Below w.heap.size w ((((W.setCell ⟨X, 0, none⟩ p).setCell ⟨X, 1, none⟩ q).setCell ⟨Y, 0, none⟩ r).setCell ⟨Y, 1, none⟩ s) := by
  have h2 := (h.put (.inl rfl) p q).put (.inr rfl) r s
  exact ⟨h2.i1, h2.i2, by rw [h.eX]; exact h2.low⟩

/-- .. with the drawn tables in their boxes T and U -/
structure T9 (B X Y T U : Nat) (a : Option Addr) (l c : Nat) (z : List Int) (F : Int) (ta : Option Addr) (tn tc : Nat) (xs : List Int) (G : Int) (ua : Option Addr) (un uc : Nat) (ys : List Int) (w W : World) : Prop where
  core : C9 B X Y a l c z ta tn xs ua un ys w W
  bt : Bx W T [.int .i64 F, .slice ta tn tc]
  bu : Bx W U [.int .i64 G, .slice ua un uc]
  oT : B < T
  oU : B < U

theorem T9.call {B X Y T U : Nat} {a : Option Addr} {l c : Nat} {z : List Int} {F : Int} {ta : Option Addr} {tn tc : Nat} {xs : List Int} {G : Int} {ua : Option Addr} {un uc : Nat} {ys : List Int} {w W : World} {W' : World} (h : T9 B X Y T U a l c z F ta tn tc xs G ua un uc ys w W) (ho : But B W W') (hs : Ready B a l c z W') : T9 B X Y T U a l c z F ta tn tc xs G ua un uc ys w W' :=
  ⟨h.core.call ho hs, h.bt.same (ho.block _ h.bt.lt (by have := h.oT; omega)), h.bu.same (ho.block _ h.bu.lt (by have := h.oU; omega)), h.oT, h.oU⟩

theorem T9.drew {B X Y T U : Nat} {a : Option Addr} {l c : Nat} {z : List Int} {F : Int} {ta : Option Addr} {tn tc : Nat} {xs : List Int} {G : Int} {ua : Option Addr} {un uc : Nat} {ys : List Int} {w W : World} (h : T9 B X Y T U a l c z F ta tn tc xs G ua un uc ys w W) : T9 B X Y T U a l c z F ta tn tc xs G ua un uc ys w W.drew := h.call (But.refl _ _).drew h.core.ready.drew

theorem T9.alloc {B X Y T U : Nat} {a : Option Addr} {l c : Nat} {z : List Int} {F : Int} {ta : Option Addr} {tn tc : Nat} {xs : List Int} {G : Int} {ua : Option Addr} {un uc : Nat} {ys : List Int} {w W : World} (h : T9 B X Y T U a l c z F ta tn tc xs G ua un uc ys w W) (o : Obj) : T9 B X Y T U a l c z F ta tn tc xs G ua un uc ys w (W.alloc o) := h.call (But.alloc _) (h.core.ready.alloc _)

theorem T9.put {B X Y T U : Nat} {a : Option Addr} {l c : Nat} {z : List Int} {F : Int} {ta : Option Addr} {tn tc : Nat} {xs : List Int} {G : Int} {ua : Option Addr} {un uc : Nat} {ys : List Int} {w W : World} (h : T9 B X Y T U a l c z F ta tn tc xs G ua un uc ys w W) {K : Nat} (hK : K = X ∨ K = Y) (u v : Value) : T9 B X Y T U a l c z F ta tn tc xs G ua un uc ys w ((W.setCell ⟨K, 0, none⟩ u).setCell ⟨K, 1, none⟩ v) := by
  have ho := put_only W K u v
  have oY := h.core.oY
  have oB := h.core.oB
  have oT := h.oT
  have oU := h.oU
  exact ⟨h.core.put hK u v, h.bt.same (ho.block _ (by omega)), h.bu.same (ho.block _ (by omega)), oT, oU⟩

theorem t9S {B X Y T U : Nat} {a : Option Addr} {l c : Nat} {z : List Int} {F : Int} {ta : Option Addr} {tn tc : Nat} {xs : List Int} {G : Int} {ua : Option Addr} {un uc : Nat} {ys : List Int} {w W : World} (h : T9 B X Y T U a l c z F ta tn tc xs G ua un uc ys w W) : W.cell? ⟨T, 0, none⟩ = some (.int .i64 F) ∧ W.cell? ⟨T, 1, none⟩ = some (.slice ta tn tc) ∧ W.cell? ⟨U, 0, none⟩ = some (.int .i64 G) ∧ W.cell? ⟨U, 1, none⟩ = some (.slice ua un uc) ∧ Hid (T9 B X Y T U a l c z F ta tn tc xs G ua un uc ys w W) := ⟨h.bt.two.1, h.bt.two.2, h.bu.two.1, h.bu.two.2, Lib.hid h⟩

theorem C9.cells {B X Y : Nat} {a : Option Addr} {l c : Nat} {z : List Int} {ta : Option Addr} {tn : Nat} {xs : List Int} {ua : Option Addr} {un : Nat} {ys : List Int} {w W : World} (h : C9 B X Y a l c z ta tn xs ua un ys w W) : (∃ p q, W.cell? ⟨X, 0, none⟩ = some p ∧ W.cell? ⟨X, 1, none⟩ = some q) ∧ (∃ r s, W.cell? ⟨Y, 0, none⟩ = some r ∧ W.cell? ⟨Y, 1, none⟩ = some s) ∧ W.frozen? ⟨X, 0, none⟩ = false ∧ W.frozen? ⟨X, 1, none⟩ = false ∧ W.frozen? ⟨Y, 0, none⟩ = false ∧ W.frozen? ⟨Y, 1, none⟩ = false := by
  obtain ⟨p, q, hx⟩ := h.rx
  obtain ⟨r, s, hy⟩ := h.ry
  exact ⟨⟨p, q, hx.two⟩, ⟨r, s, hy.two⟩, hx.free 0, hx.free 1, hy.free 0, hy.free 1⟩

theorem pick4D (B : Nat) (x1 x2 x3 x4 : Int) (T : TypeId) (w : World) {a : Option Addr} {l c : Nat} {z : List Int} (h : Ready B a l c z w) :
    Calls Tryz.prog 22 #[.pointer (some ⟨B, 0, none⟩), .slice (some ⟨w.heap.size, 0, none⟩) 4 4] (w.alloc (.cells #[.int .i64 x1, .int .i64 x2, .int .i64 x3, .int .i64 x4] T)).drew (NumPost B a l c z (· ∈ [x1, x2, x3, x4]) w) := by
  refine (pick_r B w.heap.size a l c 4 z [x1, x2, x3, x4] _ ((h.alloc _).drew) (by have := h.here; omega) rfl (by decide) (by decide) (fun i hi => new_cells w [x1, x2, x3, x4] T i hi)).mono ?_
  rintro e w' ⟨v, he, hd, ho, hs⟩
  exact ⟨v, he, hd, ((But.alloc _).drew).trans ho, hs⟩

theorem C9.far {B X Y : Nat} {a : Option Addr} {l c : Nat} {z : List Int} {ta : Option Addr} {tn : Nat} {xs : List Int} {ua : Option Addr} {un : Nat} {ys : List Int} {w W : World} (h : C9 B X Y a l c z ta tn xs ua un ys w W) : (∀ x, ta = some x → w.heap.size ≤ x.block) ∧ (∀ x, ua = some x → w.heap.size ≤ x.block) := by
  have e := h.eX
  have oY := h.oY
  have oB := h.oB
  exact ⟨fun x hx => by have := h.f1 x hx; omega, fun x hx => by have := h.f2 x hx; omega⟩

end Go.Proofs.YtpdmbmfjeankbaaGreatDoor

/- Sickness: weeks of members, the worst age: numbers, and the model's two functions. -/
namespace Go.Proofs.YtpdmbmfjeankbaaGreatDoor
open Go.ChangeShapes Go.WideShapes Go.ChangeAt Go.RowKit
set_option linter.unusedVariables false
set_option linter.unusedSimpArgs false
set_option maxRecDepth 100000

/-- the weeks of members with some ages -/
def swS (g : Int) (ys zs : List Int) : Int := (zs.map (wk g ys)).sum

def swE (g : Int) (ys zs : List Int) : Int := if skB g ys = true then (if (zs.all (fun x => inB x 0 150) && decide ((zs.length : Int) ≤ 130)) = true then 0 else 2) else 1

def swV (g : Int) (ys zs : List Int) : Int := if swE g ys zs = 0 then -(-swS g ys zs / 1000) else 0

theorem swS_take (g : Int) (ys zs : List Int) (k : Nat) (hk : k < zs.length) : swS g ys (zs.take (k + 1)) = swS g ys (zs.take k) + wk g ys (zs.getD k 0) := by
  unfold swS
  rw [List.take_add_one, List.getElem?_eq_getElem hk, List.map_append, List.sum_append]
  simp [List.getD, List.getElem?_eq_getElem hk]

theorem STab.sw_bd {g : Int} {ys : List Int} (h : STab g ys) (zs : List Int) : 0 ≤ swS g ys zs ∧ swS g ys zs ≤ zs.length * 52000 := by
  induction zs with
  | nil => simp [swS]
  | cons a t ih =>
    have := h.wk_bd a
    unfold swS at ih ⊢
    rw [List.map_cons, List.sum_cons, List.length_cons]
    omega

theorem swE_iff {g : Int} {ys zs : List Int} : swE g ys zs = 0 ↔ STab g ys ∧ zs.length ≤ 130 ∧ ∀ x ∈ zs, 0 ≤ x ∧ x ≤ 150 := by
  unfold swE
  rw [← skB_iff]
  by_cases h1 : skB g ys = true
  · rw [if_pos h1]
    by_cases h2 : (zs.all (fun x => inB x 0 150) && decide ((zs.length : Int) ≤ 130)) = true
    · rw [if_pos h2]
      rw [Bool.and_eq_true, List.all_eq_true, decide_eq_true_iff] at h2
      simp only [inB_iff] at h2
      constructor
      · intro _; exact ⟨h1, by omega, h2.1⟩
      · intro _; rfl
    · rw [if_neg h2]
      constructor
      · intro h; cases h
      · rintro ⟨_, a, b⟩
        refine absurd ?_ h2
        rw [Bool.and_eq_true, List.all_eq_true, decide_eq_true_iff]
        simp only [inB_iff]
        exact ⟨b, by omega⟩
  · rw [if_neg h1]
    constructor
    · intro h; cases h
    · rintro ⟨a, _⟩; exact absurd a h1

/-- the first index of the most weeks, among the first k -/
def bestN (ys : List Int) : Nat → Nat
  | 0 => 0
  | k + 1 => if ys.getD (bestN ys k) 0 < ys.getD k 0 then k else bestN ys k

theorem bestN_lt (ys : List Int) (k : Nat) (h : 0 < k) : bestN ys k < k := by
  induction k with
  | zero => omega
  | succ k ih =>
    unfold bestN
    split
    · omega
    · by_cases hk : 0 < k
      · have := ih hk; omega
      · obtain rfl : k = 0 := by omega
        simp [bestN]

theorem bestN_ge (ys : List Int) (k j : Nat) (h : j < k) : ys.getD j 0 ≤ ys.getD (bestN ys k) 0 := by
  induction k with
  | zero => omega
  | succ k ih =>
    unfold bestN
    by_cases hj : j = k
    · subst hj
      split
      · exact Int.le_refl _
      · omega
    · have := ih (by omega)
      split
      · omega
      · exact this

theorem bestN_first (ys : List Int) (k j : Nat) (h : j < bestN ys k) : ys.getD j 0 < ys.getD (bestN ys k) 0 := by
  induction k with
  | zero => simp [bestN] at h
  | succ k ih =>
    unfold bestN at h ⊢
    split
    · next hlt =>
      rw [if_pos hlt] at h
      have := bestN_ge ys k j h
      omega
    · next hlt =>
      rw [if_neg hlt] at h
      exact ih h

def woV (g : Int) (ys : List Int) : Int := if siE g ys = 0 then g + bestN ys ys.length else 0

end Go.Proofs.YtpdmbmfjeankbaaGreatDoor

/- Sickness: the program's small functions: is it a table, the weeks at an age, sums, the weeks of members, the worst age. -/
namespace Go.Proofs.YtpdmbmfjeankbaaGreatDoor
open Go.ChangeShapes Go.WideShapes Go.ChangeAt Go.RowKit
set_option linter.unusedVariables false
set_option linter.unusedSimpArgs false
set_option maxRecDepth 100000

theorem iwk_any (g : Int) (ys : List Int) (a : Option Addr) (l c : Nat) (x : Int) (w : World) (h : Ints w a l ys) (g0 : 0 ≤ g) (g1 : g ≤ 100) (x0 : 0 ≤ x) (x1 : x ≤ 1000) (hl : l ≤ 1000) (hlc : l ≤ c) :
    Calls Tryz.prog 49 #[.agg #[.int .i64 g, .slice a l c], .int .i64 x] w fun e w' => e = .returned (.int .i64 (wk g ys x)) ∧ Below w.heap.size w w' := by
  have HL := Lib.hid h.len
  have H := Lib.hid h
  clear h
  have HR0 : Hid (wk g ys x = if inB (x - g) 0 ((l : Int) - 1) = true then ys.getD (x - g).toNat 0 else 0) := Lib.hid (by unfold wk; rw [HL.out])
  have q1 : IntKind.i64.wrap (x - g) = x - g := IntWalk.i64_in _ (by omega)
  have q2 : IntKind.i64.wrap ((l : Int) - 1) = (l : Int) - 1 := IntWalk.i64_in _ (by omega)
  by_cases hin : inB (x - g) 0 ((l : Int) - 1) = true
  · obtain ⟨i0, i1⟩ := (inB_iff _ _ _).1 hin
    obtain ⟨b, off, rfl, hb, hc⟩ := H.out.at (by omega)
    have hx := hc (x - g).toNat (by omega)
    obtain ⟨v, hv⟩ : ∃ v, ys.getD (x - g).toNat 0 = v := ⟨_, rfl⟩
    rw [hv] at hx
    have HR : Hid (wk g ys x = v) := Lib.hid (by rw [HR0.out, if_pos hin, hv])
    have q3 : (x - g).toNat < l := by omega
    clear hv hc HR0
    go_enter Tryz.func49, Tryz.ntmps49
    go_wp2_with (go_at_call 39; refine (within_any _ _ _ _).mono ?_; rintro e w' ⟨rfl, rfl⟩)
    go_ret
    exact ⟨ret_int HR.out.symm, box_b _ _⟩
  · have HR : Hid (wk g ys x = 0) := Lib.hid (by rw [HR0.out, if_neg hin])
    have hin2 : inB (x - g) 0 ((l : Int) - 1) = false := by simpa using hin
    clear HR0 hin
    go_enter Tryz.func49, Tryz.ntmps49
    go_wp2_with (go_at_call 39; refine (within_any _ _ _ _).mono ?_; rintro e w' ⟨rfl, rfl⟩)
    go_ret
    exact ⟨ret_int HR.out.symm, box_b _ _⟩

/-- the sum of numbers -/
theorem tot_any (zs : List Int) (a : Option Addr) (l c : Nat) (w : World) (h : Ints w a l zs) (hlc : l ≤ c) (hs : ∀ k, 0 ≤ (zs.take k).sum ∧ (zs.take k).sum ≤ 1000000000000) :
    Calls Tryz.prog 47 #[.slice a l c] w fun e w' => e = .returned (.int .i64 zs.sum) ∧ w = w' := by
  have hm := h.max
  have HL := Lib.hid h.len
  have H := Lib.hid h
  have HS := Lib.hid hs
  clear h hs
  go_enter Tryz.func47, Tryz.ntmps47
  go_wp2_with fail
  go_loop [3, 8] (fun v i => ∃ k : Nat, k ≤ l ∧ i = .int .i64 k ∧ v = .int .i64 (zs.take k).sum) (fun _ i => l - (intOf i).toNat)
  case atStart => exact ⟨0, Nat.zero_le _, rfl, rfl⟩
  case round =>
    obtain ⟨k, hk, rfl, rfl⟩ := hrel
    by_cases hlt : k < l
    · obtain ⟨b, off, rfl, hb, hc⟩ := H.out.at (by omega)
      have hx := hc k hlt
      have h1 := HS.out k
      have h2 := HS.out (k + 1)
      rw [take_sum_succ] at h2
      have HT := Lib.hid (take_sum_succ zs k)
      obtain ⟨A, hA⟩ : ∃ y_, (zs.take k).sum = y_ := ⟨_, rfl⟩
      obtain ⟨X, hX⟩ : ∃ y_, zs.getD k 0 = y_ := ⟨_, rfl⟩
      rw [hA] at h1 h2 HT ⊢
      rw [hX] at hx h2 HT
      clear hA hX hc
      go_wp2_with fail
      go_round
      case rel => exact ⟨k + 1, by omega, by go_num, by rw [HT.out]⟩
      case measure => simp [intOf]; omega
    · obtain rfl : k = l := by omega
      have e : zs.take k = zs := List.take_of_length_le (by rw [HL.out]; exact Nat.le_refl _)
      rw [e]
      go_wp2_with fail
      go_ret
      exact ⟨rfl, rfl⟩

end Go.Proofs.YtpdmbmfjeankbaaGreatDoor

/- The program's columns: a number times a discount, the block of a table with its columns, its columns at an age, the check of the arguments. -/
namespace Go.Proofs.YtpdmbmfjeankbaaGreatDoor
open Go.ChangeShapes Go.WideShapes Go.ChangeAt Go.RowKit
set_option linter.unusedVariables false
set_option maxRecDepth 100000

theorem termB_iff (n : Int) : termB n = true ↔ 0 ≤ n ∧ n ≤ 120 := by unfold termB; rw [inB_iff]

theorem times_any (B : Nat) (r n : Int) (k : Nat) (w : World) (h : DB w B r) (h0 : 0 ≤ r) (h1 : r ≤ 200) (n0 : 0 ≤ n) (n1 : n ≤ 1000000) :
    Calls Tryz.prog 67 #[.pointer (some ⟨B, 0, none⟩), .int .i64 n, .int .i64 k] w (AfterPost B r (if k ≤ 120 then n * disc r k else 0) w) := by
  have H := Lib.hid h
  clear h
  by_cases hk : k ≤ 120
  · have ht : termB (k : Int) = true := (termB_iff _).2 (by omega)
    rw [if_pos hk]
    obtain ⟨d0, d1⟩ := disc_bd r h0 k
    obtain ⟨p0, p1⟩ := prod_bd n (disc r k) n0 n1 d0 d1
    have HA := Lib.hid (after_any B r k w H.out h0 h1 hk)
    obtain ⟨D, hD⟩ : ∃ D, disc r k = D := ⟨_, rfl⟩
    rw [hD] at d0 d1 p0 p1 HA ⊢
    clear hD
    go_enter Tryz.func67, Tryz.ntmps67
    go_wp2_with (first | (go_at_call 80; refine (isTerm_any _ _).mono ?_; rintro e w' ⟨rfl, rfl⟩) | (go_at_call 81; refine (HA.out).mono ?_; rintro e w2 ⟨rfl, hb, ho⟩))
    go_ret
    exact ⟨rfl, hb, ho⟩
  · have ht : termB (k : Int) = false := by
      cases hc : termB (k : Int)
      · rfl
      · have := (termB_iff _).1 hc; omega
    rw [if_neg hk]
    go_enter Tryz.func67, Tryz.ntmps67
    go_wp2_with (go_at_call 80; refine (isTerm_any _ _).mono ?_; rintro e w' ⟨rfl, rfl⟩)
    go_ret
    exact ⟨rfl, H.out, Only.refl _ _⟩

/-! ### the block of a table and its columns -/

/-- its cells: the first age, the lives, the columns -/
def ccells (f : Int) (v : Value) (G : Nat → Int) : Array Value := (([Value.int .i64 f, v] : List Value) ++ (List.range 604).map fun k => Value.int .i64 (G k)).toArray

def CBX (w : World) (R : Nat) (f : Int) (v : Value) (G : Nat → Int) : Prop := w.heap[R]? = some (.cells (ccells f v G) 79 (0, 0))

theorem CBX.lt {w : World} {R : Nat} {f : Int} {v : Value} {G : Nat → Int} (h : CBX w R f v G) : R < w.heap.size := by
  unfold CBX at h
  by_cases hb : R < w.heap.size
  · exact hb
  · have : w.heap[R]? = none := by simp; omega
    rw [this] at h; cases h

theorem CBX.first {w : World} {R : Nat} {f : Int} {v : Value} {G : Nat → Int} (h : CBX w R f v G) : w.cell? ⟨R, 0, none⟩ = some (.int .i64 f) := by
  unfold CBX at h
  simp [World.cell?, h, ccells]

theorem CBX.row {w : World} {R : Nat} {f : Int} {v : Value} {G : Nat → Int} (h : CBX w R f v G) : w.cell? ⟨R, 1, none⟩ = some v := by
  unfold CBX at h
  simp [World.cell?, h, ccells]

theorem CBX.at {w : World} {R : Nat} {f : Int} {v : Value} {G : Nat → Int} (h : CBX w R f v G) (k : Nat) (hk : k < 604) (u : Int) (hu : G k = u) (i : Nat) (hi : i = k + 2) : w.cell? ⟨R, i, none⟩ = some (.int .i64 u) := by
  subst hi
  unfold CBX at h
  simp [World.cell?, h, ccells, hk, hu]

theorem CBX.free {w : World} {R : Nat} {f : Int} {v : Value} {G : Nat → Int} (h : CBX w R f v G) (i : Nat) : w.frozen? ⟨R, i, none⟩ = false := by
  unfold CBX at h
  simp [World.frozen?, h]

theorem CBX.same {w w' : World} {R : Nat} {f : Int} {v : Value} {G : Nat → Int} (h : CBX w R f v G) (hb : w'.heap[R]? = w.heap[R]?) : CBX w' R f v G := by
  unfold CBX at h ⊢; rw [hb, h]

theorem CBX.set {w : World} {R : Nat} {f : Int} {v : Value} {G : Nat → Int} (h : CBX w R f v G) (k : Nat) (u : Int) (i : Nat) (hi : i = k + 2) : CBX (w.setCell ⟨R, i, none⟩ (.int .i64 u)) R f v (fun j => if j = k then u else G j) := by
  subst hi
  have hl := h.lt
  unfold CBX at h ⊢
  rw [Array.getElem?_eq_getElem hl] at h
  have h' : w.heap[R] = .cells (ccells f v G) 79 (0, 0) := by simpa using h
  show (w.heap.modify R _)[R]? = _
  rw [Array.getElem?_modify, if_pos rfl, Array.getElem?_eq_getElem hl, h']
  have e : (ccells f v G).setIfInBounds (k + 2) (.int .i64 u) = ccells f v (fun j => if j = k then u else G j) := by
    unfold ccells
    apply Array.ext'
    simp only [Array.toList_setIfInBounds, List.cons_append, List.nil_append, List.set_cons_succ, List.cons.injEq, true_and]
    apply List.ext_getElem
    · simp
    · intro n h1 h2
      simp only [List.getElem_set, List.getElem_map, List.getElem_range]
      by_cases hn : k = n
      · subst hn; simp
      · rw [if_neg hn, if_neg (fun e => hn e.symm)]
  simp [e]

/-- the columns of four functions at an age -/
def AtG (G : Nat → Int) (m : Nat) : Value := .agg #[.int .i64 (G (m * 4)), .int .i64 (G (m * 4 + 1)), .int .i64 (G (m * 4 + 2)), .int .i64 (G (m * 4 + 3))]

theorem colat_any (R : Nat) (f : Int) (v : Value) (G : Nat → Int) (m : Nat) (w : World) (h : CBX w R f v G) (hm : m ≤ 150) :
    Calls Tryz.prog 45 #[.pointer (some ⟨R, 2, none⟩), .int .i64 m] w fun e w' => e = .returned (AtG G m) ∧ Below w.heap.size w w' := by
  have H := Lib.hid h
  have hl := h.lt
  unfold AtG
  obtain ⟨a, ha⟩ : ∃ a, G (m * 4) = a := ⟨_, rfl⟩
  obtain ⟨b, hb⟩ : ∃ a, G (m * 4 + 1) = a := ⟨_, rfl⟩
  obtain ⟨c, hc⟩ : ∃ a, G (m * 4 + 2) = a := ⟨_, rfl⟩
  obtain ⟨d, hd⟩ : ∃ a, G (m * 4 + 3) = a := ⟨_, rfl⟩
  rw [ha, hb, hc, hd]
  have y0 := h.at _ (by omega) a ha (2 + m * 4) (by omega)
  have y1 := h.at _ (by omega) b hb (2 + m * 4 + 1) (by omega)
  have y2 := h.at _ (by omega) c hc (2 + m * 4 + 2) (by omega)
  have y3 := h.at _ (by omega) d hd (2 + m * 4 + 3) (by omega)
  clear h ha hb hc hd
  go_enter Tryz.func45, Tryz.ntmps45
  go_wp2_with fail
  refine bodyPost_ret (v := .agg #[.int .i64 a, .int .i64 b, .int .i64 c, .int .i64 d]) ?_ rfl ⟨rfl, box_b _ _⟩
  simp [results, Tryz.results45, go_sem]

end Go.Proofs.YtpdmbmfjeankbaaGreatDoor
