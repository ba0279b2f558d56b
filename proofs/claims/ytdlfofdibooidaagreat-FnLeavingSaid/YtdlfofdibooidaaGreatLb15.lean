/- Merged: MakeS, MakeL, MakeM, TabQ, TabR, TabS. -/
import Derived.Test.YtdlfofdibooidaaGreatLb2
import Derived.Test.YtdlfofdibooidaaGreatLb6
import Derived.Test.YtdlfofdibooidaaGreatLb7
import Derived.Deep.AppendLies

/- MakeTable of the model: what the calls return. -/
namespace Go.Proofs.YtdlfofdibooidaaGreat
open Go.ChangeShapes Go.WideShapes Go.ChangeAt Go.RowKit
set_option linter.unusedVariables false

/-- the table that the model is making: its box, its list -/
structure Mkg (X : Nat) (f : Int) (w : World) (v : Value) (ys : List Int) (wr : World) : Prop where
  own : OwnI (X + 1) wr v ys
  ne : v.ownBlock ≠ some (X + 1 + 1)
  c0 : wr.cell? ⟨X + 1 + 1, 0, none⟩ = some (.int .i64 f)
  c1 : wr.cell? ⟨X + 1 + 1, 1, none⟩ = some v
  g1 : wr.frozen? ⟨X + 1 + 1, 1, none⟩ = false
  r0 : wr.cell? ⟨X, 0, none⟩ = some (.int .i64 0)
  r1 : wr.cell? ⟨X, 1, none⟩ = some (.slice none 0 0)
  h0 : wr.frozen? ⟨X, 0, none⟩ = false
  h1 : wr.frozen? ⟨X, 1, none⟩ = false
  low : Below X w wr
  size : X + 1 + 1 < wr.heap.size

theorem up_call (a : Int) (h0 : 0 ≤ a) (h1 : a ≤ 1000000000) (w : World) : Calls Tryz.prog 86 #[.int .i64 a, .int .i64 1000] w fun e w' => e = .returned (.int .i64 (up1000 a)) ∧ w = w' := by
  have := up_any a 1000 w (by omega) (by omega) (by omega)
  exact this

/-- behind an append onto its list, and the store into its box -/
theorem Mkg.app {X : Nat} {f : Int} {w wr w5 : World} {v : Value} {g n c : Nat} {ys : List Int} {y : Int} (H : Mkg X f w v ys wr) (hX : w.heap.size = X)
    (hown : OwnI (X + 1) w5 (.slice (some ⟨g, 0, none⟩) n c) (ys ++ [y])) (hg : (wr.alloc (.cells #[.int .i64 y] 2)).grownBy w5 v.ownBlock)
    (hw : (Value.slice (some ⟨g, 0, none⟩) n c).ownBlock = v.ownBlock ∨ (Value.slice (some ⟨g, 0, none⟩) n c).ownBlock = some (wr.heap.size + 1)) :
    g ≠ X + 1 + 1 ∧ X < g ∧ w5.frozen? ⟨X + 1 + 1, 1, none⟩ = false ∧ w5.cell? ⟨X + 1 + 1, 0, none⟩ = some (.int .i64 f) ∧ w5.cell? ⟨X + 1 + 1, 1, none⟩ = some v ∧ Mkg X f w (.slice (some ⟨g, 0, none⟩) n c) (ys ++ [y]) (w5.setCell ⟨X + 1 + 1, 1, none⟩ (.slice (some ⟨g, 0, none⟩) n c)) := by
  have hz := H.size
  have hgz := hg.size
  have hbX : ∀ k, v.ownBlock = some k → X + 1 ≤ k := fun k hk => (H.own.lt k hk).1
  have hne0 : some X ≠ v.ownBlock := fun e => by have := hbX _ e.symm; omega
  have far : ∀ (b i : Nat), b < wr.heap.size → some b ≠ v.ownBlock → w5.cell? ⟨b, i, none⟩ = wr.cell? ⟨b, i, none⟩ := fun b i hb hn =>
    (hg.cell_far ⟨b, i, none⟩ (by simp; omega) hn).trans (World.cell?_alloc_lt _ _ _ hb)
  have farf : ∀ (b i : Nat), b < wr.heap.size → some b ≠ v.ownBlock → w5.frozen? ⟨b, i, none⟩ = wr.frozen? ⟨b, i, none⟩ := fun b i hb hn =>
    (hg.frozen_far ⟨b, i, none⟩ (by simp; omega) hn).trans ((Below.refl wr.heap.size wr).alloc (Nat.le_refl _) _ |>.frozen (p := ⟨b, i, none⟩) hb)
  have hgne : g ≠ X + 1 + 1 := by
    rcases hw with h | h
    · intro e; subst e; exact H.ne h.symm
    · simp [Value.ownBlock] at h; omega
  have hgX : X < g := by
    obtain ⟨_, h0 | ⟨g', cap, cur, hv, hgb, _⟩⟩ := hown
    · exact absurd h0.1 (by simp)
    · simp only [Value.slice.injEq, Option.some.injEq, Addr.mk.injEq] at hv
      obtain ⟨⟨rfl, _⟩, _⟩ := hv
      omega
  have k1 := (farf (X + 1 + 1) 1 (by omega) (Ne.symm H.ne)).trans H.g1
  have k2 := (far (X + 1 + 1) 0 (by omega) (Ne.symm H.ne)).trans H.c0
  have k3 := (far (X + 1 + 1) 1 (by omega) (Ne.symm H.ne)).trans H.c1
  refine ⟨hgne, hgX, k1, k2, k3, ?_⟩
  refine ⟨?_, ?_, ?_, ?_, ?_, ?_, ?_, ?_, ?_, ?_, ?_⟩
  · have hh := hown
    obtain ⟨h1, h0 | ⟨g', cap, cur, hv, hgb, hcell, r⟩⟩ := hown
    · exact absurd h0.1 (by simp)
    · refine ⟨h1, .inr ⟨g', cap, cur, hv, hgb, ?_, r⟩⟩
      simp only [Value.slice.injEq, Option.some.injEq, Addr.mk.injEq] at hv
      obtain ⟨⟨rfl, _⟩, _⟩ := hv
      rw [Below.heap_setCell _ _ _ _ (by show _ ≠ X + 1 + 1; omega)]
      exact hcell
  · simp [Value.ownBlock]; omega
  · rw [World.cell?_setCell_other _ _ _ _ (by simp)]; exact k2
  · exact World.cell?_setCell_same' _ _ _ (by rw [k3]; rfl)
  · rw [World.frozen?_setCell]; exact k1
  · rw [World.cell?_setCell_other _ _ _ _ (by simp)]; exact (far X 0 (by omega) hne0).trans H.r0
  · rw [World.cell?_setCell_other _ _ _ _ (by simp)]; exact (far X 1 (by omega) hne0).trans H.r1
  · rw [World.frozen?_setCell]; exact (farf X 0 (by omega) hne0).trans H.h0
  · rw [World.frozen?_setCell]; exact (farf X 1 (by omega) hne0).trans H.h1
  · exact ((H.low.alloc (by omega) _).grown hg (by simp; omega) (fun k hk => by have := hbX k hk; omega)).setCell (p := ⟨X + 1 + 1, 1, none⟩) (by show X ≤ X + 1 + 1; omega) _
  · simp [World.setCell] at hgz ⊢; omega

theorem own_shape {base : Nat} {w : World} {v : Value} {ys : List Int} (h : OwnI base w v ys) (hl : 0 < ys.length) : ∃ g n c, v = .slice (some ⟨g, 0, none⟩) n c := by
  obtain ⟨_, h0 | ⟨g, cap, cur, hv, _⟩⟩ := h
  · omega
  · exact ⟨g, _, cap, hv⟩

/-- it is handed over -/
theorem Mkg.post {X : Nat} {f L : Int} {rs : List Int} {w wr : World} {g n c : Nat} {ys : List Int} (H : Mkg X f w (.slice (some ⟨g, 0, none⟩) n c) ys wr) (hX : w.heap.size = X) (hm : mkB f L rs = true) (he : ys = mkL L rs) :
    MkPost f L rs w (.returned (.tuple #[.agg #[.int .i64 f, .slice (some ⟨g, 0, none⟩) n c], .int .i64 0])) ((wr.setCell ⟨X, 0, none⟩ (.int .i64 f)).setCell ⟨X, 1, none⟩ (.slice (some ⟨g, 0, none⟩) n c)) := by
  subst he
  have hlc : n = (mkL L rs).length ∧ (mkL L rs).length ≤ c ∧ X + 1 ≤ g := by
    obtain ⟨h1, h0 | ⟨g', cap, cur, hv, hgb, _, hn, _⟩⟩ := H.own
    · exact absurd h0.1 (by simp)
    · simp only [Value.slice.injEq, Option.some.injEq, Addr.mk.injEq] at hv
      obtain ⟨⟨rfl, _⟩, hn2, rfl⟩ := hv
      exact ⟨hn2, hn, hgb⟩
  obtain ⟨rfl, hlc⟩ := hlc
  refine .inl ⟨hm, _, rfl, g, c, rfl, hlc.1, by omega, ?_, ?_⟩
  · exact H.own.row.only (((Only.refl X wr).setCell (p := ⟨X, 0, none⟩) rfl _).setCell (p := ⟨X, 1, none⟩) rfl _) (by omega)
  · rw [hX]; exact (H.low.setCell (p := ⟨X, 0, none⟩) (Nat.le_refl _) _).setCell (p := ⟨X, 1, none⟩) (Nat.le_refl _) _

set_option maxRecDepth 100000 in
set_option maxHeartbeats 6000000 in
theorem mk_spec (f L : Int) (rs : List Int) (a : Option Addr) (l c : Nat) (w : World) (h : Ints w a l rs) :
    Calls Tryz.prog 138 #[.int .i64 f, .int .i64 L, .slice a l c] w (MkPost f L rs w) := by
  have HL := Lib.hid h.len
  have hm := h.max
  have H := Lib.hid h
  have HB0 := Lib.hid (box_b w (.cells #[.int .i64 0, .slice none 0 0] 26))
  clear h
  by_cases c1 : inB f 0 100 = true
  case neg =>
    have HR := Lib.hid (mkB_no (f := f) (L := L) (rs := rs) (fun e => c1 ((inB_iff _ _ _).2 ((mkB_iff _ _ _).1 e).1)))
    go_enter Tryz.func138, Tryz.ntmps138
    go_wp2_with (go_at_call 82; refine (in_any _ _ _ _).mono ?_; rintro e w' ⟨rfl, rfl⟩)
    exact bodyPost_ret (v := .tuple #[.agg #[.int .i64 0, .slice none 0 0], .int .i64 2]) (by simp [results, Tryz.results138, go_sem]) rfl (MkPost.bad HR.out HB0.out)
  by_cases c2 : inB L 1 1000000 = true
  case neg =>
    have HR := Lib.hid (mkB_no (f := f) (L := L) (rs := rs) (fun e => c2 ((inB_iff _ _ _).2 ((mkB_iff _ _ _).1 e).2.1)))
    go_enter Tryz.func138, Tryz.ntmps138
    go_wp2_with (go_at_call 82; refine (in_any _ _ _ _).mono ?_; rintro e w' ⟨rfl, rfl⟩)
    exact bodyPost_ret (v := .tuple #[.agg #[.int .i64 0, .slice none 0 0], .int .i64 2]) (by simp [results, Tryz.results138, go_sem]) rfl (MkPost.bad HR.out HB0.out)
  obtain ⟨f0, f1⟩ := (inB_iff _ _ _).1 c1
  obtain ⟨l0, l1⟩ := (inB_iff _ _ _).1 c2
  have hmin : ∃ m : Int, (118 ≤ 149 - f ∧ m = 118 ∨ 149 - f < 118 ∧ m = 149 - f) ∧ m ≤ 118 ∧ m ≤ 149 - f ∧ (m = 118 ∨ m = 149 - f) := by
    by_cases hh : 118 ≤ 149 - f
    · exact ⟨118, .inl ⟨hh, rfl⟩, by omega, hh, .inl rfl⟩
    · exact ⟨149 - f, .inr ⟨by omega, rfl⟩, by omega, by omega, .inr rfl⟩
  obtain ⟨m, hmm, m1, m2, m3⟩ := hmin
  have HWI : Hid (∀ W, Below w.heap.size w W → Calls Tryz.prog 144 #[.slice a l c, .int .i64 m, .int .i64 0, .int .i64 1000] W fun e w' => e = .returned (.bool (rtsB rs && decide ((l : Int) ≤ m))) ∧ W = w') := Lib.hid (fun W hW => inAll_any rs a l c m 0 1000 W (H.out.on hW))
  by_cases c3 : (rtsB rs && decide ((l : Int) ≤ m)) = true
  case neg =>
    have HR := Lib.hid (mkB_no (f := f) (L := L) (rs := rs) (fun e => c3 (by
      obtain ⟨_, _, e3, e4⟩ := (mkB_iff _ _ _).1 e
      rw [Bool.and_eq_true, decide_eq_true_iff]
      rw [HL.out] at e3
      exact ⟨(rtsB_iff _).2 e4, by omega⟩)))
    have c3' : (rtsB rs && decide ((l : Int) ≤ m)) = false := by simpa using c3
    rw [c3'] at HWI
    clear c3 c3' m3
    rcases hmm with ⟨hq, rfl⟩ | ⟨hq, rfl⟩
    all_goals
      go_enter Tryz.func138, Tryz.ntmps138
      go_wp2_with (first | (go_at_call 82; refine (in_any _ _ _ _).mono ?_; rintro e w' ⟨rfl, rfl⟩) | (go_at_call 144; refine (HWI.out _ HB0.out).mono ?_; rintro e w' ⟨rfl, rfl⟩))
      exact bodyPost_ret (v := .tuple #[.agg #[.int .i64 0, .slice none 0 0], .int .i64 2]) (by simp [results, Tryz.results138, go_sem]) rfl (MkPost.bad HR.out HB0.out)
  have HMB : Hid (mkB f L rs = true) := Lib.hid (by
    rw [Bool.and_eq_true, decide_eq_true_iff] at c3
    exact (mkB_iff _ _ _).2 ⟨⟨f0, f1⟩, ⟨l0, l1⟩, by rw [HL.out]; omega, (rtsB_iff _).1 c3.1⟩)
  have HRR := Lib.hid ((mkB_iff _ _ _).1 HMB.out).2.2.2
  have hl118 : l ≤ 118 := by have := ((mkB_iff _ _ _).1 HMB.out).2.2.1.1; rw [HL.out] at this; exact this
  rw [c3] at HWI
  have HLN := Lib.hid (mkL_len rs L)
  obtain ⟨X, hX⟩ : ∃ X, w.heap.size = X := ⟨_, rfl⟩
  have HX := Lib.hid hX
  have HK0 : Hid (Mkg X f w (.slice (some ⟨X + 1, 0, none⟩) 1 1) [L] (((w.alloc (.cells #[.int .i64 0, .slice none 0 0] 26)).alloc (.cells #[.int .i64 L] 2)).alloc (.cells #[.int .i64 f, .slice (some ⟨X + 1, 0, none⟩) 1 1] 26))) := Lib.hid (by
    subst hX
    have ho := ownI_one (w.alloc (.cells #[.int .i64 0, .slice none 0 0] 26)) L
    rw [World.size_alloc] at ho
    refine ⟨ho.same (fun k _ hk => Below.heap_alloc _ _ _ hk), by simp [Value.ownBlock], by go_simp, by go_simp, by go_simp, by go_simp, by go_simp, by go_simp, by go_simp, ((box_b _ _).alloc (by simp) _).alloc (by simp; omega) _, by simp⟩)
  clear c3 m3 hX
  rcases hmm with ⟨hq, rfl⟩ | ⟨hq, rfl⟩
  all_goals
    go_enter Tryz.func138, Tryz.ntmps138
    go_wp2_with (first | (go_at_call 82; refine (in_any _ _ _ _).mono ?_; rintro e w' ⟨rfl, rfl⟩) | (go_at_call 144; refine (HWI.out _ HB0.out).mono ?_; rintro e w' ⟨rfl, rfl⟩))
    rw [HX.out]
    go_loopw [1, 9] (fun s i wr => ∃ (k : Nat) (cur : Int) (pre : List Int) (v : Value), k ≤ l ∧ i = .int .i64 k ∧ s = .int .i64 cur ∧ 0 ≤ cur ∧ cur ≤ 1000000 ∧ pre.length = k ∧ Hid (pre ++ mkL cur (rs.drop k) = mkL L rs) ∧ Hid (Mkg X f w v (pre ++ [cur]) wr)) (fun _ i _ => l - (intOf i).toNat)
    case atStart => exact ⟨0, L, [], _, Nat.zero_le _, rfl, rfl, by omega, l1, rfl, Lib.hid (by simp), HK0⟩
    case round =>
      obtain ⟨k, cur, pre, v, hk, rfl, rfl, hc0, hc1, hpl, HM, HG⟩ := hrel
      have hl1 : (pre ++ [cur]).length ≤ 4096 := by simp; omega
      have hl2 : (pre ++ [cur]).length = k + 1 := by simp; omega
      have HSPL := Lib.hid (fun hk hh => mkL_split rs L cur pre k HM.out hk hh)
      have HST : Hid (cur = 0 → pre ++ [cur] = mkL L rs) := Lib.hid (fun e => by rw [← HM.out, e, mkL_stop])
      have HSE : Hid (k = l → 0 < cur → (pre ++ [cur]) ++ [0] = mkL L rs) := Lib.hid (fun e hp => by
        rw [← HM.out, List.drop_of_length_le (by rw [HL.out, e]; exact Nat.le_refl _), mkL, if_pos hp]; simp)
      obtain ⟨ys, hys⟩ : ∃ ys, pre ++ [cur] = ys := ⟨_, rfl⟩
      rw [hys] at HG hl1 hl2 HSPL HST HSE
      have HL2 := Lib.hid hl2
      have hyp : 0 < ys.length := by omega
      clear hys HM hpl hl2
      have hown := HG.out.own
      have hb0 := HG.out.c0
      have hb1 := HG.out.c1
      have hbf := HG.out.g1
      have hsz := HG.out.size
      have hXw : w.heap.size ≤ X := by rw [HX.out]; exact Nat.le_refl _
      by_cases hgo : k < l ∧ 0 < cur
      · obtain ⟨hlt, hcp⟩ := hgo
        obtain ⟨b, off, rfl, hb, hcell⟩ := H.out.at (by omega)
        have hx := (HG.out.low.cell (p := ⟨b, off + k, none⟩) (by show b < X; omega)).trans (hcell k hlt)
        have hrk := HRR.out (rs.getD k 0) (by have := HL.out; rw [List.getD_eq_getElem?_getD, List.getElem?_eq_getElem (by omega)]; exact List.getElem_mem _)
        have HSP := Lib.hid (fun hh => HSPL.out (by rw [HL.out]; exact hlt) hh)
        obtain ⟨r, hr0⟩ : ∃ r, rs.getD k 0 = r := ⟨_, rfl⟩
        rw [hr0] at hx hrk HSP
        obtain ⟨r0, r1⟩ := hrk
        obtain ⟨m0, m1⟩ := mul_bd cur r (by omega) hc1 r0 r1
        obtain ⟨u0, u1⟩ := up_bd cur r (by omega) r0 r1
        have HDU := Lib.hid (fun w => up_call (cur * r) m0 m1 w)
        obtain ⟨q, hq1⟩ : ∃ q, cur * r = q := ⟨_, rfl⟩
        rw [hq1] at HDU HSP m0 m1 u0 u1
        obtain ⟨u, hu⟩ : ∃ u, up1000 q = u := ⟨_, rfl⟩
        rw [hu] at HDU HSP u0 u1
        have q1 : IntKind.i64.wrap (cur * r) = q := by rw [hq1]; exact IntWalk.i64_in _ (by omega)
        have HS2 := Lib.hid (HSP.out hcp)
        have hx' : wr.cell? ⟨b, off + k, none⟩ = some (.int .i64 r) := hx
        clear hr0 hu hcell HSP hx hq1
        have hd0 : 0 ≤ cur - u := by omega
        have hd1 : cur - u ≤ 1000000 := by omega
        go_wp2_with fail
        refine (HDU.out _).mono ?_
        rintro e w' ⟨rfl, rfl⟩
        go_wp2_with (at_builtin; refine wpList_app rfl _ _ rfl (X + 1) _ ys (cur - u) rfl (hown.same (fun k hk hl => Below.heap_alloc _ _ _ hl)) ⟨wr.heap.size, 0, none⟩ rfl (one_newT wr (cur - u)) hl1 (by simp; omega) ?_)
        intro v' w5 hown' hgrow hwh
        obtain ⟨g, nn, cc, rfl⟩ := own_shape hown' (by simp)
        obtain ⟨j1, j2, j3, j4, j5, j6⟩ := HG.out.app HX.out hown' hgrow (hwh.imp id (fun h => by simpa using h))
        have HJ := Lib.hid j6
        clear hown' hgrow hwh hown hb0 hb1 hbf j6
        go_wp2_with fail
        go_roundw
        case rel => exact ⟨k + 1, cur - u, ys, _, by omega, by go_num, rfl, hd0, hd1, HL2.out, HS2, HJ⟩
        case measure => simp [intOf]; omega
      · have hr0 := HG.out.r0
        have hr1 := HG.out.r1
        have hh0 := HG.out.h0
        have hh1 := HG.out.h1
        by_cases hcp : 0 < cur
        · obtain rfl : k = l := by omega
          have HSL := Lib.hid (HSE.out rfl hcp)
          clear hgo
          go_wp2_with (at_builtin; refine wpList_app rfl _ _ rfl (X + 1) _ ys 0 rfl (hown.same (fun k hk hl => Below.heap_alloc _ _ _ hl)) ⟨wr.heap.size, 0, none⟩ rfl (one_newT wr 0) hl1 (by simp; omega) ?_)
          intro v' w5 hown' hgrow hwh
          obtain ⟨g, nn, cc, rfl⟩ := own_shape hown' (by simp)
          obtain ⟨j1, j2, j3, j4, j5, j6⟩ := HG.out.app HX.out hown' hgrow (hwh.imp id (fun h => by simpa using h))
          have s0 := j6.r0
          have s1 := j6.r1
          have t0 := j6.h0
          have t1 := j6.h1
          have b0 := j6.c0
          have b1 := j6.c1
          have HJ := Lib.hid j6
          clear hown' hgrow hwh hown hb0 hb1 hbf j6 hr0 hr1 hh0 hh1
          go_wp2_with fail
          exact bodyPost_ret (v := .tuple #[.agg #[.int .i64 f, .slice (some ⟨g, 0, none⟩) nn cc], .int .i64 0]) (by simp [results, Tryz.results138, go_sem, s0, s1]) rfl (HJ.out.post HX.out HMB.out HSL.out)
        · obtain rfl : cur = 0 := by omega
          have HSL := Lib.hid (HST.out rfl)
          obtain ⟨g, nn, cc, rfl⟩ := own_shape hown hyp
          by_cases hlt : k < l
          all_goals
            go_wp2_with fail
            exact bodyPost_ret (v := .tuple #[.agg #[.int .i64 f, .slice (some ⟨g, 0, none⟩) nn cc], .int .i64 0]) (by simp [results, Tryz.results138, go_sem, hr0, hr1]) rfl (HG.out.post HX.out HMB.out HSL.out)

end Go.Proofs.YtdlfofdibooidaaGreat

/- The exact law on MakeTable: the program answers as its model, what it hands over is its own. -/
namespace Go.Proofs.YtdlfofdibooidaaGreat
open Go.ChangeShapes Go.WideShapes Go.ChangeAt Go.RowKit
set_option linter.unusedVariables false

/-- what MakeTable hands over: its first age, its lives, its code -/
def mkF (f L : Int) (rs : List Int) : Int := if mkB f L rs = true then f else 0

def mkY (f L : Int) (rs : List Int) : List Int := if mkB f L rs = true then mkL L rs else []

def mkE (f L : Int) (rs : List Int) : Int := if mkB f L rs = true then 0 else 2

def TbPost (F : Int) (ys : List Int) (E : Int) (w : World) (e : Ending) (w' : World) : Prop :=
  ∃ a n c, e = .returned (.tuple #[.agg #[.int .i64 F, .slice a n c], .int .i64 E]) ∧ TbR w.heap.size w' a n ys ∧ Below w.heap.size w w'

theorem mk_tb {f L : Int} {rs : List Int} {w : World} {e : Ending} {w' : World} (h : MkPost f L rs w e w') : TbPost (mkF f L rs) (mkY f L rs) (mkE f L rs) w e w' := by
  rcases h with ⟨hm, v, rfl, g, c, rfl, hc, hg, hr, hb⟩ | ⟨hm, rfl, hb⟩
  · have hl := ((mkB_iff _ _ _).1 hm).2.2.1.1
    have hn := mkL_len rs L
    have e1 : mkY f L rs = mkL L rs := by simp [mkY, hm]
    refine ⟨some ⟨g, 0, none⟩, (mkL L rs).length, c, by simp [mkF, mkE, hm], ?_, hb⟩
    rw [e1]
    exact ⟨rfl, by omega, .inr ⟨g, 0, rfl, hg, hr.lt (by omega), hr⟩⟩
  · exact ⟨none, 0, 0, by simp [mkF, mkE, hm], ⟨by simp [mkY, hm], by omega, .inl ⟨rfl, rfl⟩⟩, hb⟩

theorem eqT_tb (F : Int) (ys : List Int) (a b : Option Addr) (n m c d : Nat) (w : World) (h : Ints w a n ys) (k : Ints w b m ys) : Calls Tryz.prog 56 #[.agg #[.int .i64 F, .slice a n c], .agg #[.int .i64 F, .slice b m d]] w fun e w' => e = .returned (.bool true) ∧ Below w.heap.size w w' := eqT_same F ys a b n m c d w h k

theorem box3 {w w1 : World} {x y : Value} {T : TypeId} (hb : Below w.heap.size (w.alloc (.cells #[x, y] T)) w1) : Below w.heap.size w w1 := ((Below.refl w.heap.size w).alloc (Nat.le_refl _) _).trans hb

end Go.Proofs.YtdlfofdibooidaaGreat

/- The exact law on MakeTable: the program answers as its model, what it hands over is its own. -/
namespace Go.Proofs.YtdlfofdibooidaaGreat
open Go.ChangeShapes Go.WideShapes Go.ChangeAt Go.RowKit
set_option linter.unusedVariables false

end Go.Proofs.YtdlfofdibooidaaGreat

/- The model's draws of rates and of what MakeTable takes. -/
namespace Go.Proofs.YtdlfofdibooidaaGreat
open Go.ChangeShapes Go.WideShapes Go.ChangeAt Go.RowKit
set_option linter.unusedVariables false

/-- rates of a draw: a list of the call's own -/
def RatesPost (B : Nat) (a : Option Addr) (l c : Nat) (z : List Int) (w : World) (e : Ending) (w' : World) : Prop :=
  ∃ v xs, e = .returned v ∧ OwnI w.heap.size w' v xs ∧ xs.length ≤ 25 ∧ (∀ r ∈ xs, 0 ≤ r ∧ r ≤ 1000) ∧ But B w w' ∧ Ready B a l c z w'

theorem all_snocR {xs : List Int} {y : Int} (h : ∀ r ∈ xs, 0 ≤ r ∧ r ≤ 1000) (h0 : 0 ≤ y) (h1 : y ≤ 1000) : ∀ r ∈ xs ++ [y], 0 ≤ r ∧ r ≤ 1000 := by
  intro r hr
  rcases List.mem_append.1 hr with hr | hr
  · exact h r hr
  · rw [List.mem_singleton] at hr; subst hr; exact ⟨h0, h1⟩

set_option maxRecDepth 100000 in
set_option maxHeartbeats 2000000 in
theorem drates (B : Nat) (a : Option Addr) (l c : Nat) (z : List Int) (w : World) (h : Ready B a l c z w) : Calls Tryz.prog 139 #[.pointer (some ⟨B, 0, none⟩)] w (RatesPost B a l c z w) := by
  have hB := h.here
  have HS := Lib.hid h
  have hown0 := ownI_new w
  clear h
  go_enter Tryz.func139, Tryz.ntmps139
  go_wp2_with fail
  refine (next_r _ _ _ _ _ _ _ (HS.out.alloc _)).mono ?_
  rintro e w1 ⟨q, rfl, hd, ho, hs⟩
  have hq := drawn_bd hd (by omega)
  have hown := hown0.but ho hB
  have HB := Lib.hid ((But.alloc _).trans ho)
  have HS := Lib.hid hs
  clear hd ho hs hown0
  go_wp2_with fail
  refine (next_r _ _ _ _ _ _ _ HS.out).mono ?_
  rintro e w2 ⟨r, rfl, hd, ho, hs⟩
  have hr := drawn_bd hd (by omega)
  have hown := hown.but ho hB
  have HB := Lib.hid (HB.out.trans ho)
  have HS := Lib.hid hs
  clear hd ho hs
  go_wp2_with fail
  go_loopw [3, 4, 5] (fun v t i wr => ∃ (n rt : Int) (xs : List Int), i = .int .i64 n ∧ t = .int .i64 rt ∧ 0 ≤ n ∧ xs.length + n ≤ 25 ∧ 0 ≤ rt ∧ rt ≤ 20 + 30 * (25 - n) ∧ OwnI w.heap.size wr v xs ∧ Hid (∀ r ∈ xs, 0 ≤ r ∧ r ≤ 1000) ∧ Hid (Ready B a l c z wr) ∧ Hid (But B w wr)) (fun _ _ i _ => (intOf i).toNat)
  case atStart => exact ⟨1 + r, q, [], rfl, rfl, by omega, by simp; omega, hq.1, by omega, hown, Lib.hid (by simp), HS, HB⟩
  case round =>
    obtain ⟨n, rt, xs, rfl, rfl, hn0, hn25, h0, h1, hown, HA, HS, HB⟩ := hrel
    have hsz := HB.out.size
    by_cases hn : 0 < n
    · have hq : rt < 1000 := by omega
      have HA := Lib.hid (all_snocR HA.out h0 (by omega))
      go_wp2_with (at_builtin; refine wpList_app rfl _ _ rfl w.heap.size _ xs rt rfl (hown.alloc _) ⟨wr.heap.size, 0, none⟩ rfl (one_newT wr rt) (by omega) (by simp; omega) ?_)
      intro v' w5 hO hg hw
      have hbel := Lib.hid (((Below.refl w.heap.size wr).alloc hsz _).grown hg (by simp; omega) fun k hk => (World.ownsRow.lt hown k hk).1)
      have hown := hO
      have HS := Lib.hid (HS.out.below hbel.out hB)
      have HB := Lib.hid (HB.out.low hbel.out)
      clear hO hg hw hbel
      go_wp2_with fail
      refine (next_r _ _ _ _ _ _ _ HS.out).mono ?_
      rintro e w6 ⟨y, rfl, hd, ho, hs⟩
      have hy := drawn_bd hd (by omega)
      have hown := hown.but ho hB
      have HB := Lib.hid (HB.out.trans ho)
      have HS := Lib.hid hs
      clear hd ho hs
      have HO := Lib.hid hown
      clear hown
      go_wp2_with fail
      go_roundw
      case rel => exact ⟨n - 1, rt + y, xs ++ [rt], by go_num, by go_num, by omega, by simp; omega, by omega, by omega, HO.out, HA, HS, HB⟩
      case measure => simp [intOf]; omega
    · obtain rfl : n = 0 := by omega
      have HO := Lib.hid hown
      clear hown
      go_wp2_with fail
      go_ret
      exact ⟨_, xs, rfl, HO.out, by omega, HA.out, HB.out, HS.out⟩

def MtPost (w : World) (e : Ending) (w' : World) : Prop := ∃ f L a l c xs, e = .returned (.tuple #[.int .i64 f, .int .i64 L, .slice a l c]) ∧ Ints w' a l xs ∧ l ≤ 4096 ∧ Below w.heap.size w w'

end Go.Proofs.YtdlfofdibooidaaGreat

/- The law on made tables. -/
namespace Go.Proofs.YtdlfofdibooidaaGreat
open Go.ChangeShapes Go.WideShapes Go.ChangeAt Go.RowKit
set_option linter.unusedVariables false

def TbC (F : Int) (ys : List Int) (E : Int) (w : World) (e : Ending) (w' : World) : Prop :=
  ∃ a n c, e = .returned (.tuple #[.agg #[.int .i64 F, .slice a n c], .int .i64 E]) ∧ Ints w' a n ys ∧ n ≤ c ∧ Below w.heap.size w w'

theorem mk_tc {f L : Int} {rs : List Int} {w : World} {e : Ending} {w' : World} (h : MkPost f L rs w e w') : TbC (mkF f L rs) (mkY f L rs) (mkE f L rs) w e w' := by
  rcases h with ⟨hm, v, rfl, g, c, rfl, hc, hg, hr, hb⟩ | ⟨hm, rfl, hb⟩
  · have hl := ((mkB_iff _ _ _).1 hm).2.2.1.1
    have hn := mkL_len rs L
    have e1 : mkY f L rs = mkL L rs := by simp [mkY, hm]
    refine ⟨some ⟨g, 0, none⟩, (mkL L rs).length, c, by simp [mkF, mkE, hm], ?_, hc, hb⟩
    rw [e1]
    exact hr.ints rfl (by omega)
  · exact ⟨none, 0, 0, by simp [mkF, mkE, hm], ⟨by simp [mkY, hm], by omega, .inl rfl⟩, Nat.le_refl _, hb⟩

/-- what the law needs to know of a table that is made of L and rs -/
structure MadeOf (f : Int) (rs ys : List Int) : Prop where
  tab : LTab f ys
  few : rs.length ≤ 118
  rate : ∀ i, i < rs.length → 0 ≤ rs.getD i 0 ∧ rs.getD i 0 ≤ 1000
  dead : ∀ i, i < rs.length → 0 < ys.getD i 0 → ys.getD i 0 - ys.getD (i + 1) 0 = up1000 (ys.getD i 0 * rs.getD i 0)

theorem madeOf {f L : Int} {rs : List Int} (h : mkB f L rs = true) : MadeOf f rs (mkL L rs) := by
  obtain ⟨⟨f0, f1⟩, ⟨l0, l1⟩, ⟨h118, h149⟩, hr⟩ := (mkB_iff _ _ _).1 h
  refine ⟨mkL_tab f L rs f0 f1 l0 l1 h118 h149 hr, h118, fun i hi => ?_, mkL_deaths rs L⟩
  exact hr _ (by rw [List.getD_eq_getElem?_getD, List.getElem?_eq_getElem hi]; exact List.getElem_mem _)

/-- the deaths at the k-th age -/
theorem MadeOf.at {f : Int} {rs ys : List Int} (h : MadeOf f rs ys) (k : Nat) (hk : k < rs.length) (hp : 0 < ys.getD k 0) : ageE f ys (f + k) = 0 ∧ daV f ys (f + k) = duV (ys.getD k 0 * rs.getD k 0) 1000 ∧ ddE (ys.getD k 0 * rs.getD k 0) 1000 = 0 ∧ k + 1 < ys.length ∧
    0 ≤ ys.getD k 0 * rs.getD k 0 ∧ ys.getD k 0 * rs.getD k 0 ≤ 1000000000 := by
  have hk1 : k + 1 < ys.length := by
    by_cases hh : k + 1 < ys.length
    · exact hh
    · rw [h.tab.last k (by omega)] at hp; omega
  have t3 := h.tab.2.2.1
  have f0 := h.tab.1.1
  have ha : ageE f ys (f + k) = 0 := ageE_iff.2 ⟨h.tab, by omega, by omega⟩
  obtain ⟨r0, r1⟩ := h.rate k hk
  obtain ⟨m0, m1⟩ := mul_bd (ys.getD k 0) (rs.getD k 0) (by omega) (h.tab.le k) r0 r1
  refine ⟨ha, ?_, ?_, hk1, m0, m1⟩
  · rw [daV_0 ha, du_1000 _ m0 m1, ← h.dead k hk hp]
    unfold lvs
    congr 2 <;> congr 1 <;> omega
  · have : ddB (ys.getD k 0 * rs.getD k 0) 1000 = true := (ddB_iff _ _).2 (by omega)
    unfold ddE; rw [this]; rfl

end Go.Proofs.YtdlfofdibooidaaGreat

/- The model's draw of a life table. -/
namespace Go.Proofs.YtdlfofdibooidaaGreat
open Go.ChangeShapes Go.WideShapes Go.ChangeAt Go.RowKit
set_option linter.unusedVariables false

set_option maxRecDepth 100000 in
set_option maxHeartbeats 4000000 in
theorem dtable (B : Nat) (a : Option Addr) (l c : Nat) (z : List Int) (w : World) (h : Ready B a l c z w) : Calls Tryz.prog 127 #[.pointer (some ⟨B, 0, none⟩)] w (DrawnT B a l c z w) := by
  have hB := h.here
  have HS := Lib.hid h
  clear h
  go_enter Tryz.func127, Tryz.ntmps127
  go_wp2_with fail
  refine (pick4M _ _ _ _ _ _ _ _ (HS.out.alloc _) (World.size_alloc _ _)).mono ?_
  rintro e w1 ⟨q, rfl, hd, ho, hs⟩
  obtain ⟨X, hX⟩ : ∃ X, w.heap.size = X := ⟨_, rfl⟩
  (try rw [hX])
  have hq := mem4 hd
  have r0 : w1.cell? ⟨X, 0, none⟩ = some (.int .i64 0) := (ho.cell (p := ⟨X, 0, none⟩) (by rw [World.size_alloc]; show X < _; omega) (by show X ≠ B; omega)).trans (by subst hX; go_simp)
  have r1 : w1.cell? ⟨X, 1, none⟩ = some (.slice none 0 0) := (ho.cell (p := ⟨X, 1, none⟩) (by rw [World.size_alloc]; show X < _; omega) (by show X ≠ B; omega)).trans (by subst hX; go_simp)
  have h0 : w1.frozen? ⟨X, 0, none⟩ = false := (ho.frozen (p := ⟨X, 0, none⟩) (by rw [World.size_alloc]; show X < _; omega) (by show X ≠ B; omega)).trans (by subst hX; go_simp)
  have h1 : w1.frozen? ⟨X, 1, none⟩ = false := (ho.frozen (p := ⟨X, 1, none⟩) (by rw [World.size_alloc]; show X < _; omega) (by show X ≠ B; omega)).trans (by subst hX; go_simp)
  have hz1 : X < w1.heap.size := block_lt r0
  have HB := Lib.hid ((But.alloc _).trans ho)
  have HS := Lib.hid hs
  have HX := Lib.hid hX
  have hB : B < X := by omega
  clear hd ho hs hX
  go_wp2_with fail
  refine (next_r _ _ _ _ _ _ _ HS.out).mono ?_
  rintro e w2 ⟨y, rfl, hd, ho, hs⟩
  have hy := drawn_bd hd (by omega)
  have r0 := (ho.cell (p := ⟨X, 0, none⟩) hz1 (by show X ≠ B; omega)).trans r0
  have r1 := (ho.cell (p := ⟨X, 1, none⟩) hz1 (by show X ≠ B; omega)).trans r1
  have h0 := (ho.frozen (p := ⟨X, 0, none⟩) hz1 (by show X ≠ B; omega)).trans h0
  have h1 := (ho.frozen (p := ⟨X, 1, none⟩) hz1 (by show X ≠ B; omega)).trans h1
  have hz1 : X < w2.heap.size := block_lt r0
  have HB := Lib.hid (HB.out.trans ho)
  have HS := Lib.hid hs
  clear hd ho hs
  go_wp2_with fail
  refine (pick4 _ _ _ _ _ _ _ HS.out).mono ?_
  rintro e w3 ⟨L, rfl, hd, ho, hs⟩
  have hL := mem4 hd
  have hL0 : 1 ≤ L ∧ L ≤ 1000000 := by omega
  clear hL hy
  have r0 := (ho.cell (p := ⟨X, 0, none⟩) hz1 (by show X ≠ B; omega)).trans r0
  have r1 := (ho.cell (p := ⟨X, 1, none⟩) hz1 (by show X ≠ B; omega)).trans r1
  have h0 := (ho.frozen (p := ⟨X, 0, none⟩) hz1 (by show X ≠ B; omega)).trans h0
  have h1 := (ho.frozen (p := ⟨X, 1, none⟩) hz1 (by show X ≠ B; omega)).trans h1
  have hz1 : X < w3.heap.size := block_lt r0
  have HB := Lib.hid (HB.out.trans ho)
  have HS := Lib.hid hs
  clear hd ho hs
  go_wp2_with fail
  refine (drates _ _ _ _ _ _ HS.out).mono ?_
  rintro e w4 ⟨v, rs, rfl, hown, hx25, hrr, ho, hs⟩
  have r0 := (ho.cell (p := ⟨X, 0, none⟩) hz1 (by show X ≠ B; omega)).trans r0
  have r1 := (ho.cell (p := ⟨X, 1, none⟩) hz1 (by show X ≠ B; omega)).trans r1
  have h0 := (ho.frozen (p := ⟨X, 0, none⟩) hz1 (by show X ≠ B; omega)).trans h0
  have h1 := (ho.frozen (p := ⟨X, 1, none⟩) hz1 (by show X ≠ B; omega)).trans h1
  have hz1 : X < w4.heap.size := block_lt r0
  have HB := Lib.hid (HB.out.trans ho)
  have HS := Lib.hid hs
  obtain ⟨al, cl, rfl, hI, _⟩ := hown.intsT (by omega)
  have HI := Lib.hid hI
  have hmk : mkB q L rs = true := (mkB_iff _ _ _).2 ⟨by omega, hL0, ⟨by omega, by omega⟩, hrr⟩
  have HN := Lib.hid (mkL_len rs L)
  have HTW := Lib.hid (mkL_two rs L (by omega))
  have HMK := Lib.hid (fun W hW => mk_spec q L rs al rs.length cl W hW)
  have hq1 : -1 ≤ q ∧ q ≤ 101 := by omega
  obtain ⟨ln, hln⟩ : ∃ ln, rs.length = ln := ⟨_, rfl⟩
  rw [hln] at HI HMK HN hx25 ⊢
  clear ho hs hown hI hrr hq hL0
  go_wp2_with fail
  refine (HMK.out _ HI.out).mono ?_
  rintro e w5 hh
  rcases hh with ⟨_, v, rfl, g, cc, rfl, hgc, hg, hr, hb⟩ | ⟨hm, _, _⟩
  case inr => rw [hmk] at hm; cases hm
  have r0 := keep2 hb r0
  have r1 := keep2 hb r1
  have h0 := (hb.frozen (p := ⟨X, 0, none⟩) hz1).trans h0
  have h1 := (hb.frozen (p := ⟨X, 1, none⟩) hz1).trans h1
  have hz1 : X < w5.heap.size := block_lt r0
  have HB := Lib.hid (HB.out.low (hb.mono HB.out.size))
  have HS := Lib.hid (HS.out.below hb HS.out.here)
  have HG := Lib.hid hg
  have hnn := HN.out
  have hn2 := HTW.out
  obtain ⟨n, hn⟩ : ∃ n, (mkL L rs).length = n := ⟨_, rfl⟩
  have HR := Lib.hid hr
  rw [hn] at hgc hnn hn2 ⊢
  have hglt : g < w5.heap.size := hr.lt (by omega)
  have hDT : Hid (DrS B X w5.heap.size g n cc a l c z q w (w5.alloc (.cells #[.int .i64 q, .slice (some ⟨g, 0, none⟩) n cc] 26))) := Lib.hid (by
    have hq := box_b w5 (.cells #[.int .i64 q, .slice (some ⟨g, 0, none⟩) n cc] 26)
    refine ⟨HS.out.alloc _, HB.out.trans (But.alloc _), by go_simp, by go_simp, by go_simp, keep2 hq r0, keep2 hq r1, (hq.frozen (p := ⟨X, 0, none⟩) hz1).trans h0, (hq.frozen (p := ⟨X, 1, none⟩) hz1).trans h1, ⟨_, hn, HR.out.on hq⟩, HX.out, hB, by omega, hz1, by omega, by rw [World.size_alloc]; omega⟩)
  clear r0 r1 h0 h1 hz1 HB HS hg hr HR hb hn HN HMK HI hln hmk HTW
  go_wp2_with fail
  obtain ⟨T, hT⟩ : ∃ T, w5.heap.size = T := ⟨_, rfl⟩
  rw [hT] at hDT
  (try rw [hT])
  clear hT hglt HG
  generalize (w5.alloc (.cells #[.int .i64 q, .slice (some ⟨g, 0, none⟩) n cc] 26)) = w6 at hDT ⊢
  refine (next_r _ _ _ _ _ _ _ hDT.out.ready).mono ?_
  rintro e w7 ⟨sw, rfl, hd, ho, hs⟩
  have HD := Lib.hid (hDT.out.call ho hs)
  clear hd ho hs hDT
  by_cases hs0 : sw = 0
  · subst hs0
    go_wp2_with fail
    have n1 := HD.out.ne
    have n0 : (0 : Int) < (n : Int) := by omega
    have n00 : 0 < n := by omega
    have n01 : ¬ n = 0 := by omega
    have C2 : Hid (∀ W M, W.heap.size = M → DrS B X T g n cc a l c z q w W → Calls Tryz.prog 77 #[.pointer (some ⟨B, 0, none⟩), .slice (some ⟨M, 0, none⟩) 3 3] (W.alloc (.cells #[.int .i64 0, .int .i64 1000000, .int .i64 1000001] 2)) (fun e w' => ∃ v, e = .returned (.int .i64 v) ∧ DrS B X T g n cc a l c z q w w')) :=
      Lib.hid (fun W M hM hW => by subst hM; exact (pick3 _ _ _ _ _ _ hW.ready).mono fun e w' ⟨v, he, _, ho, hs⟩ => ⟨v, he, hW.call ho hs⟩)
    have C1 : Hid (∀ W M, W.heap.size = M → DrS B X T g n cc a l c z q w W → Calls Tryz.prog 77 #[.pointer (some ⟨B, 0, none⟩), .slice (some ⟨M, 0, none⟩) 3 3] (W.alloc (.cells #[.int .i64 0, .int .i64 1000000, .int .i64 1000001] 2)).drew (fun e w' => ∃ v, e = .returned (.int .i64 v) ∧ DrS B X T g n cc a l c z q w w')) :=
      Lib.hid (fun W M hM hW => by
        subst hM
        refine (pick_r B W.heap.size a l c 3 z [0, 1000000, 1000001] _ ((hW.ready.alloc _).drew) (by have := hW.ready.here; omega) rfl (by decide) (by decide) (fun i hi => new_cells W [0, 1000000, 1000001] 2 i hi)).mono ?_
        rintro e w' ⟨v, he, _, ho, hs⟩
        exact ⟨v, he, ((hW.alloc _).drew).call ho hs⟩)
    have k1 := HD.out.c1
    go_region_held3 (fun w' => w'.cell? ⟨T, 1, none⟩ = some (.slice (some ⟨g, 0, none⟩) n cc) ∧ Hid (DrS B X T g n cc a l c z q w w'))
      (first
        | (go_split_ands; exact ⟨by assumption, by assumption⟩)
        | (go_split_ands; exact ⟨by assumption, Lib.hid (DrS.drew (Hid.out (by assumption)))⟩)
        | (go_split_ands; exact ⟨hD8.out.c1, hD8⟩)
        | (go_split_ands; exact ⟨hD8.out.drew.c1, Lib.hid hD8.out.drew⟩)
        | (go_split_ands; exact ⟨(hD8.out.put 0 _).c1, Lib.hid (hD8.out.put 0 _)⟩)
        | (go_split_ands; exact ⟨(hD8.out.drew.put 0 _).c1, Lib.hid (hD8.out.drew.put 0 _)⟩)
        | (go_split_ands; exact ⟨(HD.out.alloc _).c1, Lib.hid (HD.out.alloc _)⟩)
        | (go_split_ands; exact ⟨(HD.out.alloc _).drew.c1, Lib.hid (HD.out.alloc _).drew⟩)
        | (go_split_ands; exact ⟨(HD.out.drew.alloc _).c1, Lib.hid (HD.out.drew.alloc _)⟩)
        | (go_split_ands; exact ⟨(HD.out.drew.alloc _).drew.c1, Lib.hid (HD.out.drew.alloc _).drew⟩))
      (first
        | (go_split_ands; go_at_call 77; (first | ((with_reducible refine (C1.out w7 _ rfl HD.out).mono ?_)) | ((with_reducible refine (C2.out w7 _ rfl HD.out).mono ?_)) | ((with_reducible refine (C1.out w7.drew _ rfl HD.out.drew).mono ?_)) | ((with_reducible refine (C2.out w7.drew _ rfl HD.out.drew).mono ?_))); rintro e w8 ⟨v, rfl, hd8⟩; obtain ⟨ys, hyl, hyr⟩ := hd8.row; have kc := hyr.cell 0 (by omega); have kf := hyr.free 0 (by omega); have hD8 := Lib.hid hd8; clear hd8 hyl hyr))
    all_goals
      go_split_ands
      have HD := hD8
      (try obtain ⟨ws, hws⟩ : ∃ W, W = w8.setCell ⟨g, 0, none⟩ (.int .i64 v) := ⟨_, rfl⟩)
      have HD := Lib.hid (hD8.out.put 0 v)
      rw [← hws] at HD ⊢
      clear hws kc kf hD8
      have HP := HD
      obtain ⟨e0, e1⟩ := HP.out.res (.int .i64 q) (.slice (some ⟨g, 0, none⟩) n cc)
      have k0 := HD.out.c0
      have k1 := HD.out.c1
      have k2 := HD.out.r0
      have k3 := HD.out.r1
      have k4 := HD.out.h0
      have k5 := HD.out.h1
      have n1 := HD.out.ne
      have n2 : T ≠ g := fun e => n1 e.symm
      have n3 : X ≠ g := by have := HD.out.og; omega
      have n4 : g ≠ X := by have := HD.out.og; omega
      have n5 : X ≠ T := by have := HD.out.oT; omega
      have n6 : T ≠ X := by have := HD.out.oT; omega
      go_wp2_with fail
      exact bodyPost_ret (v := .agg #[.int .i64 q, .slice (some ⟨g, 0, none⟩) n cc]) (by simp [results, Tryz.results127, go_sem, e0, e1]) rfl (HP.out.post hgc (by omega) (by omega) (by omega))

  have b0 : (sw == 0) = false := by simpa using hs0
  by_cases hs1 : sw = 1
  · subst hs1
    clear b0 hs0
    have hidx : ((n : Int) - 1).toNat = n - 1 := by omega
    obtain ⟨ys, hyl, hyr⟩ := HD.out.row
    have kc := hyr.cell (n - 1) (by omega)
    have kf := hyr.free (n - 1) (by omega)
    rw [Nat.zero_add] at kc kf
    have HP := Lib.hid (HD.out.put (n - 1) 1)
    have q1 : (0 : Int) ≤ (n : Int) - 1 := by omega
    have q2 : (n : Int) - 1 < (n : Int) := by omega
    obtain ⟨e0, e1⟩ := HP.out.res (.int .i64 q) (.slice (some ⟨g, 0, none⟩) n cc)
    clear hyr hyl
    have k0 := HD.out.c0
    have k1 := HD.out.c1
    have k2 := HD.out.r0
    have k3 := HD.out.r1
    have k4 := HD.out.h0
    have k5 := HD.out.h1
    have n1 := HD.out.ne
    have n2 : T ≠ g := fun e => n1 e.symm
    have n3 : X ≠ g := by have := HD.out.og; omega
    have n4 : g ≠ X := by have := HD.out.og; omega
    have n5 : X ≠ T := by have := HD.out.oT; omega
    have n6 : T ≠ X := by have := HD.out.oT; omega
    go_wp2_with fail
    exact bodyPost_ret (v := .agg #[.int .i64 q, .slice (some ⟨g, 0, none⟩) n cc]) (by simp [results, Tryz.results127, go_sem, e0, e1]) rfl (HP.out.post hgc (by omega) (by omega) (by omega))
  have b1 : (sw == 1) = false := by simpa using hs1
  by_cases hs2 : sw = 2
  · subst hs2
    clear b0 hs0 b1 hs1
    go_wp2_with fail
    refine (pick3 _ _ _ _ _ _ HD.out.ready).mono ?_
    rintro e w8 ⟨v, rfl, hd, ho, hs⟩
    have hv := mem3 hd
    have hv1 : -1 ≤ v ∧ v ≤ 101 := by omega
    have HD := Lib.hid (HD.out.call ho hs)
    clear hd ho hs hv
    have kf := HD.out.f0
    have HP := Lib.hid (HD.out.first v)
    obtain ⟨e0, e1⟩ := HP.out.res (.int .i64 v) (.slice (some ⟨g, 0, none⟩) n cc)
    have k0 := HD.out.c0
    have k1 := HD.out.c1
    have k2 := HD.out.r0
    have k3 := HD.out.r1
    have k4 := HD.out.h0
    have k5 := HD.out.h1
    have n1 := HD.out.ne
    have n2 : T ≠ g := fun e => n1 e.symm
    have n3 : X ≠ g := by have := HD.out.og; omega
    have n4 : g ≠ X := by have := HD.out.og; omega
    have n5 : X ≠ T := by have := HD.out.oT; omega
    have n6 : T ≠ X := by have := HD.out.oT; omega
    go_wp2_with fail
    exact bodyPost_ret (v := .agg #[.int .i64 v, .slice (some ⟨g, 0, none⟩) n cc]) (by simp [results, Tryz.results127, go_sem, e0, e1]) rfl (HP.out.post hgc (by omega) (by omega) (by omega))
  have b2 : (sw == 2) = false := by simpa using hs2
  have HP := HD
  obtain ⟨e0, e1⟩ := HP.out.res (.int .i64 q) (.slice (some ⟨g, 0, none⟩) n cc)
  have k0 := HD.out.c0
  have k1 := HD.out.c1
  have k2 := HD.out.r0
  have k3 := HD.out.r1
  have k4 := HD.out.h0
  have k5 := HD.out.h1
  have n1 := HD.out.ne
  have n2 : T ≠ g := fun e => n1 e.symm
  have n3 : X ≠ g := by have := HD.out.og; omega
  have n4 : g ≠ X := by have := HD.out.og; omega
  have n5 : X ≠ T := by have := HD.out.oT; omega
  have n6 : T ≠ X := by have := HD.out.oT; omega
  go_wp2_with fail
  exact bodyPost_ret (v := .agg #[.int .i64 q, .slice (some ⟨g, 0, none⟩) n cc]) (by simp [results, Tryz.results127, go_sem, e0, e1]) rfl (HP.out.post hgc (by omega) (by omega) (by omega))

end Go.Proofs.YtdlfofdibooidaaGreat
