/- MakeTable of the model: what the calls return. -/
import Derived.Test.YtlcmgihaelgclaaGreatMakeI
import Derived.Deep.AppendLies
namespace Go.Proofs.YtlcmgihaelgclaaGreat
open Go.ChangeShapes Go.WideShapes Go.ChangeAt Go.RowKit
set_option linter.unusedVariables false

/-- the table that the model is making: its box, its list -/
structure Mkg (X : Nat) (f : Int) (w : World) (v : Value) (ys : List Int) (wr : World) : Prop where
  own : OwnI (X + 1) wr v ys
  ne : v.ownBlock ≠ some (X + 1 + 1)
  c0 : wr.cell? ⟨X + 1 + 1, 0, none⟩ = some (.int .i64 f)
  c1 : wr.cell? ⟨X + 1 + 1, 1, none⟩ = some v
  g1 : wr.frozen? ⟨X + 1 + 1, 1, none⟩ = false
  r0 : wr.cell? ⟨X, 0, none⟩ = some (.int .i64 0)
  r1 : wr.cell? ⟨X, 1, none⟩ = some (.slice none 0 0)
  h0 : wr.frozen? ⟨X, 0, none⟩ = false
  h1 : wr.frozen? ⟨X, 1, none⟩ = false
  low : Below X w wr
  size : X + 1 + 1 < wr.heap.size

theorem up_call (a : Int) (h0 : 0 ≤ a) (h1 : a ≤ 1000000000) (w : World) : Calls Tryz.prog 88 #[.int .i64 a, .int .i64 1000] w fun e w' => e = .returned (.int .i64 (up1000 a)) ∧ w = w' := by
  have := up_any a 1000 w (by omega) (by omega) (by omega)
  exact this

/-- behind an append onto its list, and the store into its box -/
theorem Mkg.app {X : Nat} {f : Int} {w wr w5 : World} {v : Value} {g n c : Nat} {ys : List Int} {y : Int} (H : Mkg X f w v ys wr) (hX : w.heap.size = X)
    (hown : OwnI (X + 1) w5 (.slice (some ⟨g, 0, none⟩) n c) (ys ++ [y])) (hg : (wr.alloc (.cells #[.int .i64 y] 2)).grownBy w5 v.ownBlock)
    (hw : (Value.slice (some ⟨g, 0, none⟩) n c).ownBlock = v.ownBlock ∨ (Value.slice (some ⟨g, 0, none⟩) n c).ownBlock = some (wr.heap.size + 1)) :
    g ≠ X + 1 + 1 ∧ X < g ∧ w5.frozen? ⟨X + 1 + 1, 1, none⟩ = false ∧ w5.cell? ⟨X + 1 + 1, 0, none⟩ = some (.int .i64 f) ∧ w5.cell? ⟨X + 1 + 1, 1, none⟩ = some v ∧ Mkg X f w (.slice (some ⟨g, 0, none⟩) n c) (ys ++ [y]) (w5.setCell ⟨X + 1 + 1, 1, none⟩ (.slice (some ⟨g, 0, none⟩) n c)) := by
  have hz := H.size
  have hgz := hg.size
  have hbX : ∀ k, v.ownBlock = some k → X + 1 ≤ k := fun k hk => (H.own.lt k hk).1
  have hne0 : some X ≠ v.ownBlock := fun e => by have := hbX _ e.symm; omega
  have far : ∀ (b i : Nat), b < wr.heap.size → some b ≠ v.ownBlock → w5.cell? ⟨b, i, none⟩ = wr.cell? ⟨b, i, none⟩ := fun b i hb hn =>
    (hg.cell_far ⟨b, i, none⟩ (by simp; omega) hn).trans (World.cell?_alloc_lt _ _ _ hb)
  have farf : ∀ (b i : Nat), b < wr.heap.size → some b ≠ v.ownBlock → w5.frozen? ⟨b, i, none⟩ = wr.frozen? ⟨b, i, none⟩ := fun b i hb hn =>
    (hg.frozen_far ⟨b, i, none⟩ (by simp; omega) hn).trans ((Below.refl wr.heap.size wr).alloc (Nat.le_refl _) _ |>.frozen (p := ⟨b, i, none⟩) hb)
  have hgne : g ≠ X + 1 + 1 := by
    rcases hw with h | h
    · intro e; subst e; exact H.ne h.symm
    · simp [Value.ownBlock] at h; omega
  have hgX : X < g := by
    obtain ⟨_, h0 | ⟨g', cap, cur, hv, hgb, _⟩⟩ := hown
    · exact absurd h0.1 (by simp)
    · simp only [Value.slice.injEq, Option.some.injEq, Addr.mk.injEq] at hv
      obtain ⟨⟨rfl, _⟩, _⟩ := hv
      omega
  have k1 := (farf (X + 1 + 1) 1 (by omega) (Ne.symm H.ne)).trans H.g1
  have k2 := (far (X + 1 + 1) 0 (by omega) (Ne.symm H.ne)).trans H.c0
  have k3 := (far (X + 1 + 1) 1 (by omega) (Ne.symm H.ne)).trans H.c1
  refine ⟨hgne, hgX, k1, k2, k3, ?_⟩
  refine ⟨?_, ?_, ?_, ?_, ?_, ?_, ?_, ?_, ?_, ?_, ?_⟩
  · have hh := hown
    obtain ⟨h1, h0 | ⟨g', cap, cur, hv, hgb, hcell, r⟩⟩ := hown
    · exact absurd h0.1 (by simp)
    · refine ⟨h1, .inr ⟨g', cap, cur, hv, hgb, ?_, r⟩⟩
      simp only [Value.slice.injEq, Option.some.injEq, Addr.mk.injEq] at hv
      obtain ⟨⟨rfl, _⟩, _⟩ := hv
      rw [Below.heap_setCell _ _ _ _ (by show _ ≠ X + 1 + 1; omega)]
      exact hcell
  · simp [Value.ownBlock]; omega
  · rw [World.cell?_setCell_other _ _ _ _ (by simp)]; exact k2
  · exact World.cell?_setCell_same' _ _ _ (by rw [k3]; rfl)
  · rw [World.frozen?_setCell]; exact k1
  · rw [World.cell?_setCell_other _ _ _ _ (by simp)]; exact (far X 0 (by omega) hne0).trans H.r0
  · rw [World.cell?_setCell_other _ _ _ _ (by simp)]; exact (far X 1 (by omega) hne0).trans H.r1
  · rw [World.frozen?_setCell]; exact (farf X 0 (by omega) hne0).trans H.h0
  · rw [World.frozen?_setCell]; exact (farf X 1 (by omega) hne0).trans H.h1
  · exact ((H.low.alloc (by omega) _).grown hg (by simp; omega) (fun k hk => by have := hbX k hk; omega)).setCell (p := ⟨X + 1 + 1, 1, none⟩) (by show X ≤ X + 1 + 1; omega) _
  · simp [World.setCell] at hgz ⊢; omega

theorem own_shape {base : Nat} {w : World} {v : Value} {ys : List Int} (h : OwnI base w v ys) (hl : 0 < ys.length) : ∃ g n c, v = .slice (some ⟨g, 0, none⟩) n c := by
  obtain ⟨_, h0 | ⟨g, cap, cur, hv, _⟩⟩ := h
  · omega
  · exact ⟨g, _, cap, hv⟩

/-- it is handed over -/
theorem Mkg.post {X : Nat} {f L : Int} {rs : List Int} {w wr : World} {g n c : Nat} {ys : List Int} (H : Mkg X f w (.slice (some ⟨g, 0, none⟩) n c) ys wr) (hX : w.heap.size = X) (hm : mkB f L rs = true) (he : ys = mkL L rs) :
    MkPost f L rs w (.returned (.tuple #[.agg #[.int .i64 f, .slice (some ⟨g, 0, none⟩) n c], .int .i64 0])) ((wr.setCell ⟨X, 0, none⟩ (.int .i64 f)).setCell ⟨X, 1, none⟩ (.slice (some ⟨g, 0, none⟩) n c)) := by
  subst he
  have hlc : n = (mkL L rs).length ∧ (mkL L rs).length ≤ c ∧ X + 1 ≤ g := by
    obtain ⟨h1, h0 | ⟨g', cap, cur, hv, hgb, _, hn, _⟩⟩ := H.own
    · exact absurd h0.1 (by simp)
    · simp only [Value.slice.injEq, Option.some.injEq, Addr.mk.injEq] at hv
      obtain ⟨⟨rfl, _⟩, hn2, rfl⟩ := hv
      exact ⟨hn2, hn, hgb⟩
  obtain ⟨rfl, hlc⟩ := hlc
  refine .inl ⟨hm, _, rfl, g, c, rfl, hlc.1, by omega, ?_, ?_⟩
  · exact H.own.row.only (((Only.refl X wr).setCell (p := ⟨X, 0, none⟩) rfl _).setCell (p := ⟨X, 1, none⟩) rfl _) (by omega)
  · rw [hX]; exact (H.low.setCell (p := ⟨X, 0, none⟩) (Nat.le_refl _) _).setCell (p := ⟨X, 1, none⟩) (Nat.le_refl _) _

set_option maxRecDepth 100000 in
set_option maxHeartbeats 6000000 in
theorem mk_spec (f L : Int) (rs : List Int) (a : Option Addr) (l c : Nat) (w : World) (h : Ints w a l rs) :
    Calls Tryz.prog 80 #[.int .i64 f, .int .i64 L, .slice a l c] w (MkPost f L rs w) := by
  have HL := Lib.hid h.len
  have hm := h.max
  have H := Lib.hid h
  have HB0 := Lib.hid (box_b w (.cells #[.int .i64 0, .slice none 0 0] 26))
  clear h
  by_cases c1 : inB f 0 100 = true
  case neg =>
    have HR := Lib.hid (mkB_no (f := f) (L := L) (rs := rs) (fun e => c1 ((inB_iff _ _ _).2 ((mkB_iff _ _ _).1 e).1)))
    go_enter Tryz.func80, Tryz.ntmps80
    go_wp2_with (go_at_call 54; refine (in_any _ _ _ _).mono ?_; rintro e w' ⟨rfl, rfl⟩)
    exact bodyPost_ret (v := .tuple #[.agg #[.int .i64 0, .slice none 0 0], .int .i64 2]) (by simp [results, Tryz.results80, go_sem]) rfl (MkPost.bad HR.out HB0.out)
  by_cases c2 : inB L 1 1000000 = true
  case neg =>
    have HR := Lib.hid (mkB_no (f := f) (L := L) (rs := rs) (fun e => c2 ((inB_iff _ _ _).2 ((mkB_iff _ _ _).1 e).2.1)))
    go_enter Tryz.func80, Tryz.ntmps80
    go_wp2_with (go_at_call 54; refine (in_any _ _ _ _).mono ?_; rintro e w' ⟨rfl, rfl⟩)
    exact bodyPost_ret (v := .tuple #[.agg #[.int .i64 0, .slice none 0 0], .int .i64 2]) (by simp [results, Tryz.results80, go_sem]) rfl (MkPost.bad HR.out HB0.out)
  obtain ⟨f0, f1⟩ := (inB_iff _ _ _).1 c1
  obtain ⟨l0, l1⟩ := (inB_iff _ _ _).1 c2
  have hmin : ∃ m : Int, (118 ≤ 149 - f ∧ m = 118 ∨ 149 - f < 118 ∧ m = 149 - f) ∧ m ≤ 118 ∧ m ≤ 149 - f ∧ (m = 118 ∨ m = 149 - f) := by
    by_cases hh : 118 ≤ 149 - f
    · exact ⟨118, .inl ⟨hh, rfl⟩, by omega, hh, .inl rfl⟩
    · exact ⟨149 - f, .inr ⟨by omega, rfl⟩, by omega, by omega, .inr rfl⟩
  obtain ⟨m, hmm, m1, m2, m3⟩ := hmin
  have HWI : Hid (∀ W, Below w.heap.size w W → Calls Tryz.prog 87 #[.slice a l c, .int .i64 m, .int .i64 0, .int .i64 1000] W fun e w' => e = .returned (.bool (rtsB rs && decide ((l : Int) ≤ m))) ∧ W = w') := Lib.hid (fun W hW => inAll_any rs a l c m 0 1000 W (H.out.on hW))
  by_cases c3 : (rtsB rs && decide ((l : Int) ≤ m)) = true
  case neg =>
    have HR := Lib.hid (mkB_no (f := f) (L := L) (rs := rs) (fun e => c3 (by
      obtain ⟨_, _, e3, e4⟩ := (mkB_iff _ _ _).1 e
      rw [Bool.and_eq_true, decide_eq_true_iff]
      rw [HL.out] at e3
      exact ⟨(rtsB_iff _).2 e4, by omega⟩)))
    have c3' : (rtsB rs && decide ((l : Int) ≤ m)) = false := by simpa using c3
    rw [c3'] at HWI
    clear c3 c3' m3
    rcases hmm with ⟨hq, rfl⟩ | ⟨hq, rfl⟩
    all_goals
      go_enter Tryz.func80, Tryz.ntmps80
      go_wp2_with (first | (go_at_call 54; refine (in_any _ _ _ _).mono ?_; rintro e w' ⟨rfl, rfl⟩) | (go_at_call 87; refine (HWI.out _ HB0.out).mono ?_; rintro e w' ⟨rfl, rfl⟩))
      exact bodyPost_ret (v := .tuple #[.agg #[.int .i64 0, .slice none 0 0], .int .i64 2]) (by simp [results, Tryz.results80, go_sem]) rfl (MkPost.bad HR.out HB0.out)
  have HMB : Hid (mkB f L rs = true) := Lib.hid (by
    rw [Bool.and_eq_true, decide_eq_true_iff] at c3
    exact (mkB_iff _ _ _).2 ⟨⟨f0, f1⟩, ⟨l0, l1⟩, by rw [HL.out]; omega, (rtsB_iff _).1 c3.1⟩)
  have HRR := Lib.hid ((mkB_iff _ _ _).1 HMB.out).2.2.2
  have hl118 : l ≤ 118 := by have := ((mkB_iff _ _ _).1 HMB.out).2.2.1.1; rw [HL.out] at this; exact this
  rw [c3] at HWI
  have HLN := Lib.hid (mkL_len rs L)
  obtain ⟨X, hX⟩ : ∃ X, w.heap.size = X := ⟨_, rfl⟩
  have HX := Lib.hid hX
  have HK0 : Hid (Mkg X f w (.slice (some ⟨X + 1, 0, none⟩) 1 1) [L] (((w.alloc (.cells #[.int .i64 0, .slice none 0 0] 26)).alloc (.cells #[.int .i64 L] 2)).alloc (.cells #[.int .i64 f, .slice (some ⟨X + 1, 0, none⟩) 1 1] 26))) := Lib.hid (by
    subst hX
    have ho := ownI_one (w.alloc (.cells #[.int .i64 0, .slice none 0 0] 26)) L
    rw [World.size_alloc] at ho
    refine ⟨ho.same (fun k _ hk => Below.heap_alloc _ _ _ hk), by simp [Value.ownBlock], by go_simp, by go_simp, by go_simp, by go_simp, by go_simp, by go_simp, by go_simp, ((box_b _ _).alloc (by simp) _).alloc (by simp; omega) _, by simp⟩)
  clear c3 m3 hX
  rcases hmm with ⟨hq, rfl⟩ | ⟨hq, rfl⟩
  all_goals
    go_enter Tryz.func80, Tryz.ntmps80
    go_wp2_with (first | (go_at_call 54; refine (in_any _ _ _ _).mono ?_; rintro e w' ⟨rfl, rfl⟩) | (go_at_call 87; refine (HWI.out _ HB0.out).mono ?_; rintro e w' ⟨rfl, rfl⟩))
    rw [HX.out]
    go_loopw [1, 9] (fun s i wr => ∃ (k : Nat) (cur : Int) (pre : List Int) (v : Value), k ≤ l ∧ i = .int .i64 k ∧ s = .int .i64 cur ∧ 0 ≤ cur ∧ cur ≤ 1000000 ∧ pre.length = k ∧ Hid (pre ++ mkL cur (rs.drop k) = mkL L rs) ∧ Hid (Mkg X f w v (pre ++ [cur]) wr)) (fun _ i _ => l - (intOf i).toNat)
    case atStart => exact ⟨0, L, [], _, Nat.zero_le _, rfl, rfl, by omega, l1, rfl, Lib.hid (by simp), HK0⟩
    case round =>
      obtain ⟨k, cur, pre, v, hk, rfl, rfl, hc0, hc1, hpl, HM, HG⟩ := hrel
      have hl1 : (pre ++ [cur]).length ≤ 4096 := by simp; omega
      have hl2 : (pre ++ [cur]).length = k + 1 := by simp; omega
      have HSPL := Lib.hid (fun hk hh => mkL_split rs L cur pre k HM.out hk hh)
      have HST : Hid (cur = 0 → pre ++ [cur] = mkL L rs) := Lib.hid (fun e => by rw [← HM.out, e, mkL_stop])
      have HSE : Hid (k = l → 0 < cur → (pre ++ [cur]) ++ [0] = mkL L rs) := Lib.hid (fun e hp => by
        rw [← HM.out, List.drop_of_length_le (by rw [HL.out, e]; exact Nat.le_refl _), mkL, if_pos hp]; simp)
      obtain ⟨ys, hys⟩ : ∃ ys, pre ++ [cur] = ys := ⟨_, rfl⟩
      rw [hys] at HG hl1 hl2 HSPL HST HSE
      have HL2 := Lib.hid hl2
      have hyp : 0 < ys.length := by omega
      clear hys HM hpl hl2
      have hown := HG.out.own
      have hb0 := HG.out.c0
      have hb1 := HG.out.c1
      have hbf := HG.out.g1
      have hsz := HG.out.size
      have hXw : w.heap.size ≤ X := by rw [HX.out]; exact Nat.le_refl _
      by_cases hgo : k < l ∧ 0 < cur
      · obtain ⟨hlt, hcp⟩ := hgo
        obtain ⟨b, off, rfl, hb, hcell⟩ := H.out.at (by omega)
        have hx := (HG.out.low.cell (p := ⟨b, off + k, none⟩) (by show b < X; omega)).trans (hcell k hlt)
        have hrk := HRR.out (rs.getD k 0) (by have := HL.out; rw [List.getD_eq_getElem?_getD, List.getElem?_eq_getElem (by omega)]; exact List.getElem_mem _)
        have HSP := Lib.hid (fun hh => HSPL.out (by rw [HL.out]; exact hlt) hh)
        obtain ⟨r, hr0⟩ : ∃ r, rs.getD k 0 = r := ⟨_, rfl⟩
        rw [hr0] at hx hrk HSP
        obtain ⟨r0, r1⟩ := hrk
        obtain ⟨m0, m1⟩ := mul_bd cur r (by omega) hc1 r0 r1
        obtain ⟨u0, u1⟩ := up_bd cur r (by omega) r0 r1
        have HDU := Lib.hid (fun w => up_call (cur * r) m0 m1 w)
        obtain ⟨q, hq1⟩ : ∃ q, cur * r = q := ⟨_, rfl⟩
        rw [hq1] at HDU HSP m0 m1 u0 u1
        obtain ⟨u, hu⟩ : ∃ u, up1000 q = u := ⟨_, rfl⟩
        rw [hu] at HDU HSP u0 u1
        have q1 : IntKind.i64.wrap (cur * r) = q := by rw [hq1]; exact IntWalk.i64_in _ (by omega)
        have HS2 := Lib.hid (HSP.out hcp)
        have hx' : wr.cell? ⟨b, off + k, none⟩ = some (.int .i64 r) := hx
        clear hr0 hu hcell HSP hx hq1
        have hd0 : 0 ≤ cur - u := by omega
        have hd1 : cur - u ≤ 1000000 := by omega
        go_wp2_with fail
        refine (HDU.out _).mono ?_
        rintro e w' ⟨rfl, rfl⟩
        go_wp2_with (at_builtin; refine wpList_app rfl _ _ rfl (X + 1) _ ys (cur - u) rfl (hown.same (fun k hk hl => Below.heap_alloc _ _ _ hl)) ⟨wr.heap.size, 0, none⟩ rfl (one_newT wr (cur - u)) hl1 (by simp; omega) ?_)
        intro v' w5 hown' hgrow hwh
        obtain ⟨g, nn, cc, rfl⟩ := own_shape hown' (by simp)
        obtain ⟨j1, j2, j3, j4, j5, j6⟩ := HG.out.app HX.out hown' hgrow (hwh.imp id (fun h => by simpa using h))
        have HJ := Lib.hid j6
        clear hown' hgrow hwh hown hb0 hb1 hbf j6
        go_wp2_with fail
        go_roundw
        case rel => exact ⟨k + 1, cur - u, ys, _, by omega, by go_num, rfl, hd0, hd1, HL2.out, HS2, HJ⟩
        case measure => simp [intOf]; omega
      · have hr0 := HG.out.r0
        have hr1 := HG.out.r1
        have hh0 := HG.out.h0
        have hh1 := HG.out.h1
        by_cases hcp : 0 < cur
        · obtain rfl : k = l := by omega
          have HSL := Lib.hid (HSE.out rfl hcp)
          clear hgo
          go_wp2_with (at_builtin; refine wpList_app rfl _ _ rfl (X + 1) _ ys 0 rfl (hown.same (fun k hk hl => Below.heap_alloc _ _ _ hl)) ⟨wr.heap.size, 0, none⟩ rfl (one_newT wr 0) hl1 (by simp; omega) ?_)
          intro v' w5 hown' hgrow hwh
          obtain ⟨g, nn, cc, rfl⟩ := own_shape hown' (by simp)
          obtain ⟨j1, j2, j3, j4, j5, j6⟩ := HG.out.app HX.out hown' hgrow (hwh.imp id (fun h => by simpa using h))
          have s0 := j6.r0
          have s1 := j6.r1
          have t0 := j6.h0
          have t1 := j6.h1
          have b0 := j6.c0
          have b1 := j6.c1
          have HJ := Lib.hid j6
          clear hown' hgrow hwh hown hb0 hb1 hbf j6 hr0 hr1 hh0 hh1
          go_wp2_with fail
          exact bodyPost_ret (v := .tuple #[.agg #[.int .i64 f, .slice (some ⟨g, 0, none⟩) nn cc], .int .i64 0]) (by simp [results, Tryz.results80, go_sem, s0, s1]) rfl (HJ.out.post HX.out HMB.out HSL.out)
        · obtain rfl : cur = 0 := by omega
          have HSL := Lib.hid (HST.out rfl)
          obtain ⟨g, nn, cc, rfl⟩ := own_shape hown hyp
          by_cases hlt : k < l
          all_goals
            go_wp2_with fail
            exact bodyPost_ret (v := .tuple #[.agg #[.int .i64 f, .slice (some ⟨g, 0, none⟩) nn cc], .int .i64 0]) (by simp [results, Tryz.results80, go_sem, hr0, hr1]) rfl (HG.out.post HX.out HMB.out HSL.out)

end Go.Proofs.YtlcmgihaelgclaaGreat
