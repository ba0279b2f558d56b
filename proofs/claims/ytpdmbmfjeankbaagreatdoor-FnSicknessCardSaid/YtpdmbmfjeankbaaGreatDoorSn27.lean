/- Merged: SicU. -/
import Derived.Test.YtpdmbmfjeankbaaGreatDoorSn16
import Derived.Test.YtpdmbmfjeankbaaGreatDoorSn26

/- Sickness: the program's value of a benefit: the walk. (Written by wip/gen/sicu.py.) -/
namespace Go.Proofs.YtpdmbmfjeankbaaGreatDoor
open Go.ChangeShapes Go.WideShapes Go.ChangeAt Go.RowKit
set_option linter.unusedVariables false
set_option linter.unusedSimpArgs false
set_option maxRecDepth 100000

theorem sgS {w : World} {R : Nat} {r f : Int} {xs : List Int} {v : Value} {g : Int} {ys : List Int} {b : Option Addr} {m d : Nat} {x n : Int} {u : Value} {L : List Int} {W : World} (h : SG w R r f xs v g ys b m d x n u L W) :
    W.cell? ⟨w.heap.size, 0, none⟩ = some (.pointer (some ⟨R, 0, none⟩)) ∧ W.cell? ⟨w.heap.size, 3, none⟩ = some (.int .i64 x) ∧ Hid (SG w R r f xs v g ys b m d x n u L W) := ⟨h.sv.bx.five.1, h.sv.bx.five.2.2.2.1, Lib.hid h⟩

theorem svT {w : World} {R : Nat} {r f : Int} {xs : List Int} {v : Value} {g : Int} {ys : List Int} {b : Option Addr} {m d : Nat} {x n : Int} {u : Value} {W : World} (h : SV w R r f xs v g ys b m d x n W) (k : Bx W (w.heap.size + 3) [u]) :
    W.cell? ⟨w.heap.size, 1, none⟩ = some (.int .i64 g) ∧ W.cell? ⟨w.heap.size, 2, none⟩ = some (.slice b m d) ∧ W.cell? ⟨w.heap.size + 1 + 1 + 1, 0, none⟩ = some u ∧ w.heap.size + 2 ≤ W.heap.size ∧ Hid (SV w R r f xs v g ys b m d x n W) := ⟨h.bx.five.2.1, h.bx.five.2.2.1, k.one, by have := h.sz; omega, Lib.hid h⟩

theorem own_sh9 {base : Nat} {w : World} {v : Value} {ys : List Int} (h : OwnI base w v ys) (hl : 0 < ys.length) : ∃ g n c, v = .slice (some ⟨g, 0, none⟩) n c ∧ base ≤ g ∧ n = ys.length := by
  obtain ⟨_, h0 | ⟨g, cap, cur, hv, hb, _⟩⟩ := h
  · omega
  · exact ⟨g, _, cap, hv, hb, rfl⟩

theorem own_ne9 {w W : World} {o : Obj} {v : Value} {g n c : Nat} (hne : v.ownBlock ≠ some (w.heap.size + 3)) (hs : w.heap.size + 3 < W.heap.size) (hw : (Value.slice (some ⟨g, 0, none⟩) n c).ownBlock = v.ownBlock ∨ (Value.slice (some ⟨g, 0, none⟩) n c).ownBlock = some (W.alloc o).heap.size) : g ≠ w.heap.size + 3 := by
  rcases hw with h | h
  · intro e; subst e; exact hne h.symm
  · simp [Value.ownBlock] at h; omega

/-- the numbers' header is written -/
theorem SG.fin {w : World} {R : Nat} {r f : Int} {xs : List Int} {v : Value} {g : Int} {ys : List Int} {b : Option Addr} {m d : Nat} {x n : Int} {u : Value} {L : List Int} {q k c : Nat} {W : World} (h : SV w R r f xs v g ys b m d x n W) (hd : Bx W (w.heap.size + 3) [u]) (hown : OwnI (w.heap.size + 2) W (.slice (some ⟨q, 0, none⟩) k c) L) (hq : q ≠ w.heap.size + 3) (hR : R < w.heap.size) (hY : Ints w b m ys) :
    SG w R r f xs v g ys b m d x n (.slice (some ⟨q, 0, none⟩) k c) L (W.setCell ⟨w.heap.size + 3, 0, none⟩ (.slice (some ⟨q, 0, none⟩) k c)) := by
  refine ⟨h.set _ hR hY, hd.put1 _, ?_, by simp [Value.ownBlock]; omega⟩
  obtain ⟨h1, h0 | ⟨g', cap, cur, hv, hgb, hcell, rr⟩⟩ := hown
  · exact absurd h0.1 (by simp)
  · refine ⟨h1, .inr ⟨g', cap, cur, hv, hgb, ?_, rr⟩⟩
    simp only [Value.slice.injEq, Option.some.injEq, Addr.mk.injEq] at hv
    obtain ⟨⟨rfl, _⟩, _⟩ := hv
    rw [far_setCell _ _ _ _ hq]
    exact hcell

set_option maxHeartbeats 8000000 in
theorem ival_any (r f : Int) (xs : List Int) (v : Value) (R : Nat) (g : Int) (ys : List Int) (b : Option Addr) (m d : Nat) (x n q : Int) (w : World) (h : Cols w R r f xs v) (k : Ints w b m ys) (hmd : m ≤ d) (hs : SkIn r f xs g ys x n q) :
    Calls Tryz.prog 24 #[scv R g b m d x n, .int .i64 q] w fun e w' => e = .returned (.int .i64 (svS r f xs g ys x q n.toNat)) ∧ Below w.heap.size w w' := by
  have HS := Lib.hid hs
  have hRl := h.lt
  have HYY := Lib.hid k
  have x0 := hs.x0
  have xn := hs.xn
  have n0 := hs.n0
  have n1 := hs.n1
  obtain ⟨f0, f1⟩ := hs.lt.1
  obtain ⟨N, rfl⟩ : ∃ N : Nat, n = N := ⟨n.toNat, by omega⟩
  rw [Int.toNat_natCast]
  have hmf : ∀ (fn : Fn) (first cap : Array Value) (w : World), (Instr.makeFunc fn first cap).run Tryz.prog w = .ok (.func fn first cap) w := fun _ _ _ _ => rfl
  have HG0 := Lib.hid (SG.new (x := x) (n := (N : Int)) (g := g) (d := d) 49 2 24 h k)
  have C1 : Hid (∀ (z : Int) W, f ≤ z → z ≤ 150 → Hid (SV w R r f xs v g ys b m d x N W) → Calls Tryz.prog 45 #[.pointer (some ⟨R, 2, none⟩), .int .i64 z] W fun e w' => e = .returned (.agg #[.int .i64 (cD r xs (z - f).toNat), .int .i64 (cN r xs (z - f).toNat), .int .i64 (cC r xs (z - f).toNat), .int .i64 (cM r xs (z - f).toNat)]) ∧ Below W.heap.size W w') :=
    Lib.hid (fun z W z0 z1 hW => at_cols r f xs v R z W hW.out.co f0 z0 z1)
  have C2 : Hid (∀ (z : Int) W, 0 ≤ z → z ≤ 150 → Hid (SV w R r f xs v g ys b m d x N W) → Calls Tryz.prog 49 #[.agg #[.int .i64 g, .slice b m d], .int .i64 z] W fun e w' => e = .returned (.int .i64 (wk g ys z)) ∧ Below W.heap.size W w') :=
    Lib.hid (fun z W z0 z1 hW => iwk_any g ys b m d z W hW.out.yy hs.st.1.1 hs.st.1.2 z0 (by omega) (by have := hs.st.2.1.2; rw [k.len] at this; omega) hmd)
  have HSUM : Hid (∀ j, j ≤ 60 → ∀ k, 0 ≤ ((colL (svF r f xs g ys x q) j).take k).sum ∧ ((colL (svF r f xs g ys x q) j).take k).sum ≤ 1000000000000) := Lib.hid (fun j hj k => by
    rw [colL_takes, colL_sum]
    have := hs.sum_bd (min k j) (by omega)
    unfold svS at this
    omega)
  have D1 := Lib.hid (fun W => C1.out x W x0 (by omega))
  obtain ⟨D, hD⟩ : ∃ y_, cD r xs (x - f).toNat = y_ := ⟨_, rfl⟩
  obtain ⟨DN, hDN⟩ : ∃ y_, cN r xs (x - f).toNat = y_ := ⟨_, rfl⟩
  obtain ⟨DC, hDC⟩ : ∃ y_, cC r xs (x - f).toNat = y_ := ⟨_, rfl⟩
  obtain ⟨DM, hDM⟩ : ∃ y_, cM r xs (x - f).toNat = y_ := ⟨_, rfl⟩
  rw [hD, hDN, hDC, hDM] at D1
  have HD := Lib.hid hD
  have hfl := fldD D DN DC DM
  unfold scv
  clear h k hs hD hDN hDC hDM
  go_enter_defers Tryz.func24, Tryz.ntmps24
  go_wp2_with fail
  obtain ⟨W0, hW0⟩ : ∃ y_, (((w.alloc (.cells #[.pointer (some ⟨R, 0, none⟩), .int .i64 g, .slice b m d, .int .i64 x, .int .i64 N] 49)).alloc (.cells #[.int .i64 0] 2)).alloc (.cells #[] 2)).alloc (.cells #[.slice (some ⟨w.heap.size + 1 + 1, 0, none⟩) 0 0] 24) = y_ := ⟨_, rfl⟩
  rw [hW0]
  have HG : Hid (SG w R r f xs v g ys b m d x N (.slice (some ⟨w.heap.size + 2, 0, none⟩) 0 0) [] W0) := Lib.hid (by rw [← hW0]; exact HG0.out)
  clear hW0 HG0
  go_region_held3 (fun w' => w'.cell? ⟨w.heap.size, 0, none⟩ = some (.pointer (some ⟨R, 0, none⟩)) ∧ w'.cell? ⟨w.heap.size, 3, none⟩ = some (.int .i64 x) ∧ Hid (SG w R r f xs v g ys b m d x N (.slice (some ⟨w.heap.size + 2, 0, none⟩) 0 0) [] w'))
    (first
      | (go_split_ands; exact sgS (Hid.out (by with_reducible assumption)))
      | (go_split_ands; exact sgS (SG.on (Hid.out (by with_reducible assumption)) hb))
      | (go_split_ands; exact sgS (SG.on (Hid.out (by with_reducible assumption)) (Below.drew (Below.refl _ _))))
      | fail)
    (first
      | (go_split_ands; go_at_call 45; ((with_reducible refine (D1.out _ (Lib.hid (SG.sv (Hid.out (by with_reducible assumption))))).mono ?_); rintro e w' ⟨rfl, hb⟩))
      | fail)
  go_split_ands
  have HGB : Hid (SG w R r f xs v g ys b m d x N (.slice (some ⟨w.heap.size + 2, 0, none⟩) 0 0) [] _) := (by with_reducible assumption)
  have hk3 := HGB.out.sv.bx.five.2.2.2.1
  clear HG D1
  go_wp2_with fail
  go_loopw [7] (fun i wr => ∃ (j : Nat) (u : Value), j ≤ N ∧ i = .int .i64 (x + j) ∧ Hid (SG w R r f xs v g ys b m d x N u (colL (svF r f xs g ys x q) j) wr)) (fun i _ => (x + N - intOf i).toNat)
  case atStart => exact ⟨0, _, Nat.zero_le _, by go_num, HGB⟩
  case round =>
    clear HGB hk3
    obtain ⟨j, u, hj, rfl, HG⟩ := hrel
    obtain ⟨k0, k1, k2, k3, k4⟩ := HG.out.sv.bx.five
    have q1 : IntKind.i64.wrap (x + (N : Int)) = x + N := IntWalk.i64_in _ (by omega)
    by_cases hlt : j < N
    · have hlt2 : x + (j : Int) < x + N := by omega
      have D2 := Lib.hid (fun W => C1.out (x + j) W (by omega) (by omega))
      have D3 := Lib.hid (fun W => C2.out (x + j) W (by omega) (by omega))
      obtain ⟨V, L, D', e1, e2, e3, e4, b1, b2, b3, b4, b5, b6, b7, b8, b9, b10, b11⟩ := HS.out.year j
      rw [HD.out] at e3
      subst e3
      have HST := Lib.hid (fun (hz : L = 0) => HS.out.stop j N hj (by rw [e2]; exact hz))
      obtain ⟨LN, hLN⟩ : ∃ y_, cN r xs (x + j - f).toNat = y_ := ⟨_, rfl⟩
      obtain ⟨LC, hLC⟩ : ∃ y_, cC r xs (x + j - f).toNat = y_ := ⟨_, rfl⟩
      obtain ⟨LM, hLM⟩ : ∃ y_, cM r xs (x + j - f).toNat = y_ := ⟨_, rfl⟩
      rw [e2, hLN, hLC, hLM] at D2
      rw [e1] at D3
      have hfl2 := fldD L LN LC LM
      have HF := Lib.hid e4
      clear e1 e2 e4 hLN hLC hLM
      by_cases hz : L = 0
      · have HEND : Hid ((colL (svF r f xs g ys x q) j).sum = svS r f xs g ys x q N) := Lib.hid (by rw [HST.out hz, colL_sum]; rfl)
        subst hz
        clear HST
        go_wp2_with fail
        with_reducible refine (D2.out _ (Lib.hid HG.out.sv)).mono ?_
        rintro e w2 ⟨rfl, hb⟩
        have HGD := Lib.hid (HG.out.on hb)
        clear hb HG k0 k1 k2 k3 k4
        go_wp2_with fail
        have HG := HGD
        obtain ⟨a5, c5, rfl, h5, h6⟩ := HG.out.own.ints9 (by rw [colL_len]; omega)
        refine leaves_cons (f := 46) (args := #[.pointer (some ⟨w.heap.size + 1 + 1 + 1, 0, none⟩), .pointer (some ⟨w.heap.size + 1, 0, none⟩)]) (by simp) (by simp [go_sem]) ?_
        refine (vdef_any (colL (svF r f xs g ys x q) j) (w.heap.size + 1 + 1 + 1) (w.heap.size + 1) a5 _ c5 (.int .i64 0) .returning _ HG.out.hd.one h5 h6 (HSUM.out j (by omega)) HG.out.sv.rs.one (HG.out.sv.rs.free 0)).mono ?_
        rintro e u' w'' ⟨rfl, rfl, rfl⟩
        have hcl := (HG.out.sv.rs.put1 (.int .i64 (colL (svF r f xs g ys x q) j).sum)).one
        rw [HEND.out] at hcl ⊢
        have hlow := HG.out.sv.low.setCell (p := ⟨w.heap.size + 1, 0, none⟩) (by show w.heap.size ≤ w.heap.size + 1; omega) (.int .i64 (svS r f xs g ys x q N))
        simp only [Leaves, settle, results, Tryz.results24]
        exact ⟨_, by simp [go_sem, hcl], rfl, hlow⟩
      · have hz2 : (L == 0) = false := by simp [hz]
        have hown := HG.out.own
        have HSUC : Hid (colL (svF r f xs g ys x q) (j + 1) = colL (svF r f xs g ys x q) j ++ [upV (q * V) L (1000 * D)]) := Lib.hid (by rw [colL_snoc, HF.out])
        have HLE : Hid ((colL (svF r f xs g ys x q) j).length ≤ 4096) := Lib.hid (by rw [colL_len]; omega)
        have CU := Lib.hid (fun W => tu_any (q * V) L (1000 * D) W b3 (by omega) b5 (by omega) (by omega) (by omega) (by omega))
        obtain ⟨U, hU⟩ : ∃ y_, upV (q * V) L (1000 * D) = y_ := ⟨_, rfl⟩
        rw [hU] at CU HSUC b10 b11
        obtain ⟨zs, hzs⟩ : ∃ y_, colL (svF r f xs g ys x q) j = y_ := ⟨_, rfl⟩
        rw [hzs] at HG HSUC HLE hown
        have r1 : IntKind.i64.wrap (q * V) = q * V := IntWalk.i64_in _ (by omega)
        have r2 : IntKind.i64.wrap (1000 * D) = 1000 * D := IntWalk.i64_in _ (by omega)
        clear hzs hU HST hz HF b9
        go_wp2_with fail
        with_reducible refine (D2.out _ (Lib.hid HG.out.sv)).mono ?_
        rintro e w2 ⟨rfl, hb⟩
        have HG := Lib.hid (HG.out.on hb)
        clear hb k0 k1 k2 k3 k4 D2 hown
        go_wp2_with fail
        have hsv := HG.out.sv.drew
        have hob : Bx w2.drew (w.heap.size + 3) [u] := HG.out.hd
        have hown : OwnI (w.heap.size + 2) w2.drew u zs := HG.out.own
        have HNE := Lib.hid HG.out.ne
        have hf : w2.drew.frozen? ⟨w.heap.size + 3, 0, none⟩ = false := hob.free 0
        have hsz : w.heap.size + 3 < w2.drew.heap.size := HG.out.sv.sz
        clear HG
        refine wp_region_noPanic ?_
        refine wpTill_start (S := fun w' => w'.cell? ⟨w.heap.size, 1, none⟩ = some (.int .i64 g) ∧ w'.cell? ⟨w.heap.size, 2, none⟩ = some (.slice b m d) ∧ w'.cell? ⟨w.heap.size + 1 + 1 + 1, 0, none⟩ = some u ∧ w.heap.size + 2 ≤ w'.heap.size ∧ Hid (SV w R r f xs v g ys b m d x N w')) (L := 13) (by kernel_rfl) (svT hsv hob) (fun hHeld => ?_)
        refine wpTill_take (i := 0) (v := ?_) rfl (by kernel_rfl) (by kernel_rfl) (by kernel_rfl) (by kernel_rfl) (by kernel_rfl) (fun _ _ _ h => h) (Or.inl ⟨by rfl, ?_⟩) (by assumption) ?_
        rotate_left
        · (intro w hSw; (try dsimp only at hSw); go_simp; try with_reducible rfl)
        try simp only [Act.put, List.setIfInBounds_toArray, List.set_cons_zero, List.set_cons_succ]
        refine wpTill_take (i := 1) (v := ?_) rfl (by kernel_rfl) (by kernel_rfl) (by kernel_rfl) (by kernel_rfl) (by kernel_rfl) (fun _ _ _ h => h) (Or.inl ⟨by rfl, ?_⟩) (by assumption) ?_
        rotate_left
        · (intro w hSw; (try dsimp only at hSw); go_simp; try with_reducible rfl)
        try simp only [Act.put, List.setIfInBounds_toArray, List.set_cons_zero, List.set_cons_succ]
        refine wpTill_take (i := 2) (v := ?_) rfl (by kernel_rfl) (by kernel_rfl) (by kernel_rfl) (by kernel_rfl) (by kernel_rfl) (fun _ _ _ h => h) (Or.inl ⟨by rfl, ?_⟩) (by assumption) ?_
        rotate_left
        · (intro w hSw; (try dsimp only at hSw); go_simp; try with_reducible rfl)
        try simp only [Act.put, List.setIfInBounds_toArray, List.set_cons_zero, List.set_cons_succ]
        refine wpTill_take (i := 3) (v := ?_) rfl (by kernel_rfl) (by kernel_rfl) (by kernel_rfl) (by kernel_rfl) (by kernel_rfl) (fun _ _ _ h => h) (Or.inl ⟨by rfl, ?_⟩) (by assumption) ?_
        rotate_left
        · (intro w hSw; (try dsimp only at hSw); go_simp; try with_reducible rfl)
        try simp only [Act.put, List.setIfInBounds_toArray, List.set_cons_zero, List.set_cons_succ]
        refine wpTill_take (i := 4) (v := ?_) rfl (by kernel_rfl) (by kernel_rfl) (by kernel_rfl) (by kernel_rfl) (by kernel_rfl) (fun _ _ _ h => h) (Or.inl ⟨by rfl, ?_⟩) (by assumption) ?_
        rotate_left
        · (intro w hSw; (try dsimp only at hSw); go_simp; try with_reducible rfl)
        try simp only [Act.put, List.setIfInBounds_toArray, List.set_cons_zero, List.set_cons_succ]
        refine wpTill_take (i := 7) (v := ?_) rfl (by kernel_rfl) (by kernel_rfl) (by kernel_rfl) (by kernel_rfl) (by kernel_rfl) (fun _ _ _ h => h) (Or.inl ⟨by rfl, ?_⟩) (by assumption) ?_
        rotate_left
        · (intro w hSw; (try dsimp only at hSw); go_simp; try with_reducible rfl)
        try simp only [Act.put, List.setIfInBounds_toArray, List.set_cons_zero, List.set_cons_succ]
        refine wpTill_take (i := 8) (v := ?_) rfl (by kernel_rfl) (by kernel_rfl) (by kernel_rfl) (by kernel_rfl) (by kernel_rfl) (fun _ _ _ h => h) (Or.inl ⟨by rfl, ?_⟩) (by assumption) ?_
        rotate_left
        · (intro w hSw; (try dsimp only at hSw); go_simp; try with_reducible rfl)
        try simp only [Act.put, List.setIfInBounds_toArray, List.set_cons_zero, List.set_cons_succ]
        refine wpTill_take (i := 9) (v := ?_) rfl (by kernel_rfl) (by kernel_rfl) (by kernel_rfl) (by kernel_rfl) (by kernel_rfl) (fun _ _ _ h => h) (Or.inl ⟨by rfl, ?_⟩) (by assumption) ?_
        rotate_left
        · (intro w hSw; (try dsimp only at hSw); go_simp; try with_reducible rfl)
        try simp only [Act.put, List.setIfInBounds_toArray, List.set_cons_zero, List.set_cons_succ]
        refine wpTill_ready (rs := [5]) (by kernel_rfl) (by simp) ?_
        refine AllTill.cons (o := _) rfl (fun K hK => ?_) AllTill.nil
        go_simp
        go_split_ands
        with_reducible refine (D3.out _ (by with_reducible assumption)).mono ?_
        rintro e w' ⟨rfl, hb⟩
        replace hown := OwnI.on hown hb
        replace hob := Bx.on hob hb
        replace hf := hob.free 0
        replace hsz := Nat.lt_of_lt_of_le hsz hb.size
        refine hK.out _ _ (fun _ => ?_) (fun hHeld => ?_)
        · exact svT (SV.on (Hid.out (by with_reducible assumption)) hb) hob
        have hHeld := hHeld (by decide)
        clear hK K
        try simp only [Act.put, List.setIfInBounds_toArray, List.set_cons_zero, List.set_cons_succ]
        refine wpTill_take (i := 6) (v := ?_) rfl (by kernel_rfl) (by kernel_rfl) (by kernel_rfl) (by kernel_rfl) (by kernel_rfl) (fun _ _ _ h => h) (Or.inl ⟨by rfl, ?_⟩) (by assumption) ?_
        rotate_left
        · (intro w hSw; (try dsimp only at hSw); go_simp; try with_reducible rfl)
        try simp only [Act.put, List.setIfInBounds_toArray, List.set_cons_zero, List.set_cons_succ]
        refine wpTill_ready (rs := [10]) (by kernel_rfl) (by simp) ?_
        refine AllTill.cons (o := _) rfl (fun K hK => ?_) AllTill.nil
        go_simp
        go_split_ands
        with_reducible refine (CU.out _).mono ?_
        rintro e w' ⟨rfl, hb⟩
        replace hown := OwnI.on hown hb
        replace hob := Bx.on hob hb
        replace hf := hob.free 0
        replace hsz := Nat.lt_of_lt_of_le hsz hb.size
        refine hK.out _ _ (fun _ => ?_) (fun hHeld => ?_)
        · exact svT (SV.on (Hid.out (by with_reducible assumption)) hb) hob
        have hHeld := hHeld (by decide)
        clear hK K
        try simp only [Act.put, List.setIfInBounds_toArray, List.set_cons_zero, List.set_cons_succ]
        refine wpTill_ready (rs := [11]) (by kernel_rfl) (by simp) ?_
        refine AllTill.cons (o := _) rfl (fun K hK => ?_) AllTill.nil
        go_simp
        refine hK.out _ _ (fun _ => ?_) (fun hHeld => ?_)
        · exact svT (SV.on hHeld.2.2.2.2.out (box_b _ _)) (hob.on (box_b _ _))
        have hHeld := hHeld (by decide)
        clear hK K
        try simp only [Act.put, List.setIfInBounds_toArray, List.set_cons_zero, List.set_cons_succ]
        refine wpTill_ready (rs := [12]) (by kernel_rfl) (by simp) ?_
        refine AllTill.cons (o := _) rfl (fun K hK => ?_) AllTill.nil
        refine step_apj (by rfl) _ _ (by rfl) (w.heap.size + 2) _ zs U (by rfl) (hown.same (fun k hk hl => Below.heap_alloc _ _ _ hl)) _ (by rfl) (one_newC _ U) HLE.out hHeld.2.2.2.1 ?_
        intro v' w5 hown' hgrow hw
        obtain ⟨q9, n9, c9, rfl, hq9, -⟩ := own_sh9 hown' (by simp)
        have hne9 := own_ne9 HNE.out hsz hw
        have hsv9 := SV.app hHeld.2.2.2.2.out hgrow (fun k hk => (hown.lt k hk).1) hRl HYY.out
        have hob9 := Bx.grown hob hgrow (Ne.symm HNE.out)
        have hv9 := hob9.one
        have hf9 := hob9.free 0
        refine hK.out _ _ (fun _ => ?_) (fun hHeld => ?_)
        · exact svT hsv9 hob9
        have hHeld := hHeld (by decide)
        clear hK K
        try simp only [Act.put, List.setIfInBounds_toArray, List.set_cons_zero, List.set_cons_succ]
        refine wpTill_ready (rs := [13]) (by kernel_rfl) (by simp) ?_
        refine AllTill.cons (o := _) rfl (fun K hK => ?_) AllTill.nil
        go_simp
        refine hK.out _ _ (fun h => absurd rfl h) (fun _ => ?_)
        clear hK K
        try simp only [Act.put, List.setIfInBounds_toArray, List.set_cons_zero, List.set_cons_succ]
        refine wpTill_done (by kernel_rfl) ?_ _
        refine NoPanic.normal ?_
        have HG9 := Lib.hid (SG.fin hsv9 hob9 hown' hne9 hRl HYY.out)
        rw [← HSUC.out] at HG9
        clear hsv9 hob9 hown' hgrow hw hv9 hf9 hown hob hf hHeld hsv
        go_wp2_with fail
        go_roundw
        case rel => exact ⟨j + 1, _, by omega, by go_num, HG9⟩
        case measure => simp [intOf]; omega
    · obtain rfl : j = N := by omega
      have hge : ¬ x + (j : Int) < x + j := by omega
      have HEND : Hid ((colL (svF r f xs g ys x q) j).sum = svS r f xs g ys x q j) := Lib.hid (by rw [colL_sum]; rfl)
      have HGD := HG
      go_wp2_with fail
      have HG := HGD
      obtain ⟨a5, c5, rfl, h5, h6⟩ := HG.out.own.ints9 (by rw [colL_len]; omega)
      refine leaves_cons (f := 46) (args := #[.pointer (some ⟨w.heap.size + 1 + 1 + 1, 0, none⟩), .pointer (some ⟨w.heap.size + 1, 0, none⟩)]) (by simp) (by simp [go_sem]) ?_
      refine (vdef_any (colL (svF r f xs g ys x q) j) (w.heap.size + 1 + 1 + 1) (w.heap.size + 1) a5 _ c5 (.int .i64 0) .returning _ HG.out.hd.one h5 h6 (HSUM.out j (by omega)) HG.out.sv.rs.one (HG.out.sv.rs.free 0)).mono ?_
      rintro e u' w'' ⟨rfl, rfl, rfl⟩
      have hcl := (HG.out.sv.rs.put1 (.int .i64 (colL (svF r f xs g ys x q) j).sum)).one
      rw [HEND.out] at hcl ⊢
      have hlow := HG.out.sv.low.setCell (p := ⟨w.heap.size + 1, 0, none⟩) (by show w.heap.size ≤ w.heap.size + 1; omega) (.int .i64 (svS r f xs g ys x q j))
      simp only [Leaves, settle, results, Tryz.results24]
      exact ⟨_, by simp [go_sem, hcl], rfl, hlow⟩

end Go.Proofs.YtpdmbmfjeankbaaGreatDoor
