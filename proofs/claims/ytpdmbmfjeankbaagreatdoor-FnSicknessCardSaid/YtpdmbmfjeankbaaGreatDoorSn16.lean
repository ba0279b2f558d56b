/- Merged: ColA, SicQ, SicM, SicN, Tb1. -/
import Derived.Test.YtpdmbmfjeankbaaGreatDoorSn13
import Derived.Test.YtpdmbmfjeankbaaGreatDoorSn14
import Derived.Test.YtpdmbmfjeankbaaGreatDoorSn15
import Derived.Deep.RegionHeld3

/- ColumnsAt of the model. -/
namespace Go.Proofs.YtpdmbmfjeankbaaGreatDoor
open Go.ChangeShapes Go.WideShapes Go.ChangeAt Go.RowKit
set_option linter.unusedVariables false
set_option maxRecDepth 100000

/-- what ColumnsAt answers -/
def atV (r f : Int) (xs : List Int) (x : Int) (F : Nat → Int) : Int := if coE r f xs x = 0 then F (x - f).toNat else 0

theorem ret_at {a b c d e a' b' c' d' e' : Int} (h1 : a = a') (h2 : b = b') (h3 : c = c') (h4 : d = d') (h5 : e = e') :
    Ending.returned (.tuple #[.agg #[.int .i64 a, .int .i64 b, .int .i64 c, .int .i64 d], .int .i64 e]) = .returned (.tuple #[.agg #[.int .i64 a', .int .i64 b', .int .i64 c', .int .i64 d'], .int .i64 e']) := by
  rw [h1, h2, h3, h4, h5]

/-- a block of four cells -/
def Q4 (w : World) (B : Nat) (a b c d : Int) : Prop := w.heap[B]? = some (.cells #[.int .i64 a, .int .i64 b, .int .i64 c, .int .i64 d] 74 (0, 0))

def atPost (r f : Int) (xs : List Int) (x : Int) (w : World) (e : Ending) (w' : World) : Prop :=
  e = .returned (.tuple #[.agg #[.int .i64 (atV r f xs x (cD r xs)), .int .i64 (atV r f xs x (cN r xs)), .int .i64 (atV r f xs x (cC r xs)), .int .i64 (atV r f xs x (cM r xs))], .int .i64 (coE r f xs x)]) ∧ Below w.heap.size w w'

end Go.Proofs.YtpdmbmfjeankbaaGreatDoor

/- Sickness: SickWeeks and WorstAge of the program. -/
namespace Go.Proofs.YtpdmbmfjeankbaaGreatDoor
open Go.ChangeShapes Go.WideShapes Go.ChangeAt Go.RowKit
set_option linter.unusedVariables false
set_option linter.unusedSimpArgs false
set_option maxRecDepth 100000

theorem OwnI.ints9 {base : Nat} {w : World} {v : Value} {xs : List Int} (h : OwnI base w v xs) (hm : xs.length ≤ 4096) : ∃ a c, v = .slice a xs.length c ∧ Ints w a xs.length xs ∧ xs.length ≤ c := by
  have hh := h
  obtain ⟨h0, ⟨rfl, hn⟩ | ⟨g, cap, cur, rfl, hg, hb, hc, r⟩⟩ := h
  · rw [hn]
    exact ⟨none, 0, rfl, ⟨by simpa using hn, by omega, .inl rfl⟩, Nat.le_refl _⟩
  · refine ⟨_, cap, rfl, ⟨rfl, by omega, .inr ⟨g, 0, rfl, fun i hi => ?_⟩⟩, hc⟩
    rw [Nat.zero_add, hh.cellAt i (by omega)]
    simp [List.getD, hi]

/-- the weeks of the first members -/
def swL (g : Int) (ys zs : List Int) : List Int := zs.map (wk g ys)

theorem swL_take (g : Int) (ys zs : List Int) (k : Nat) (hk : k < zs.length) : swL g ys (zs.take (k + 1)) = swL g ys (zs.take k) ++ [wk g ys (zs.getD k 0)] := by
  unfold swL
  rw [List.take_add_one, List.getElem?_eq_getElem hk, List.map_append]
  simp [List.getD, List.getElem?_eq_getElem hk]

end Go.Proofs.YtpdmbmfjeankbaaGreatDoor

/- Sickness: the model's code, value and premium of a benefit. -/
namespace Go.Proofs.YtpdmbmfjeankbaaGreatDoor
open Go.ChangeShapes Go.WideShapes Go.ChangeAt Go.RowKit
set_option linter.unusedVariables false
set_option linter.unusedSimpArgs false
set_option maxRecDepth 100000

set_option maxHeartbeats 1000000 in
theorem scode9_any (r f : Int) (xs : List Int) (a : Option Addr) (l c : Nat) (g : Int) (ys : List Int) (b : Option Addr) (m d : Nat) (x n q : Int) (w : World) (h : Ints w a l xs) (k : Ints w b m ys) :
    Calls Tryz.prog 25 #[.agg #[.int .i64 f, .slice a l c], .agg #[.int .i64 g, .slice b m d], .int .i64 r, .int .i64 x, .int .i64 n, .int .i64 q] w fun e w' => e = .returned (.int .i64 (skE r f xs g ys x n q)) ∧ Below w.heap.size w w' := by
  have HK : Hid (K2 w f (.slice a l c) g (.slice b m d) ((w.alloc (.cells #[.int .i64 f, .slice a l c] 26)).alloc (.cells #[.int .i64 g, .slice b m d] 28))) := Lib.hid (K2.new _ _ _ _ _ _ _)
  have C1 : Hid (∀ W, Hid (K2 w f (.slice a l c) g (.slice b m d) W) → Calls Tryz.prog 36 #[.agg #[.int .i64 g, .slice b m d]] W fun e w' => e = .returned (.bool (skB g ys)) ∧ Below W.heap.size W w') :=
    Lib.hid (fun W hW => isS_spec g ys b m d W (k.on hW.out.low))
  have C2 : Hid (∀ W (z : Bool), Hid (K2 w f (.slice a l c) g (.slice b m d) W) → Calls Tryz.prog 50 #[.agg #[.int .i64 f, .slice a l c], .int .i64 r, .int .i64 x, .bool z, .int .i64 n] W fun e w' => e = .returned (.int .i64 (anE r f xs x z n)) ∧ Below W.heap.size W w') :=
    Lib.hid (fun W z hW => ancode_any r f xs a l c x z n W (h.on hW.out.low))
  clear h k
  by_cases h1 : skB g ys = true
  · have HR : Hid (skE r f xs g ys x n q = anE r f xs x (inB n 1 60 && inB q 1 100000) n) := Lib.hid (by unfold skE; rw [if_pos h1])
    rw [h1] at C1
    clear h1
    by_cases h2 : inB n 1 60 = true
    · rw [h2, Bool.true_and] at HR
      go_enter Tryz.func25, Tryz.ntmps25
      go_wp2_with fail
      with_reducible refine (C1.out _ HK).mono ?_
      rintro e w1 ⟨rfl, hb⟩
      have HK := Lib.hid (HK.out.on hb)
      clear hb
      obtain ⟨k0, k1, k2, k3, _⟩ := HK.out
      go_wp2_with fail
      go_region_held3 (fun w' => w'.cell? ⟨w.heap.size, 0, none⟩ = some (.int .i64 f) ∧ w'.cell? ⟨w.heap.size, 1, none⟩ = some (.slice a l c) ∧ w'.cell? ⟨w.heap.size + 1, 0, none⟩ = some (.int .i64 g) ∧ w'.cell? ⟨w.heap.size + 1, 1, none⟩ = some (.slice b m d) ∧ Hid (K2 w f (.slice a l c) g (.slice b m d) w'))
        (first
          | (go_split_ands; exact k2S (Hid.out (by with_reducible assumption)))
          | (go_split_ands; exact k2S (K2.on (Hid.out (by with_reducible assumption)) hb))
          | (go_split_ands; exact k2S (K2.drew (Hid.out (by with_reducible assumption))))
          | fail)
        (first
          | (go_split_ands; go_at_call 51; ((with_reducible refine (in_any _ _ _ _).mono ?_); rintro e w' ⟨rfl, rfl⟩))
          | (go_split_ands; go_at_call 50; ((with_reducible refine (C2.out _ _ (by with_reducible assumption)).mono ?_); rintro e w' ⟨rfl, hb⟩))
          | fail)
      all_goals
        go_split_ands
        have HK2 : Hid (K2 w f (.slice a l c) g (.slice b m d) _) := (by with_reducible assumption)
        go_wp2_with fail
        go_ret
        exact ⟨ret_int HR.out.symm, HK2.out.low⟩
    · have h3 : inB n 1 60 = false := by simpa using h2
      rw [h3, Bool.false_and] at HR
      clear h2
      go_enter Tryz.func25, Tryz.ntmps25
      go_wp2_with fail
      with_reducible refine (C1.out _ HK).mono ?_
      rintro e w1 ⟨rfl, hb⟩
      have HK := Lib.hid (HK.out.on hb)
      clear hb
      obtain ⟨k0, k1, k2, k3, _⟩ := HK.out
      go_wp2_with fail
      refine wp_region_held_drew (S := (fun w' => w'.cell? ⟨w.heap.size, 0, none⟩ = some (.int .i64 f) ∧ w'.cell? ⟨w.heap.size, 1, none⟩ = some (.slice a l c) ∧ w'.cell? ⟨w.heap.size + 1, 0, none⟩ = some (.int .i64 g) ∧ w'.cell? ⟨w.heap.size + 1, 1, none⟩ = some (.slice b m d) ∧ Hid (K2 w f (.slice a l c) g (.slice b m d) w'))) (by kernel_rfl) (k2S HK.out.drew) (fun hHeld => ?_)
      refine wpAnyH_take (i := 0) (v := ?_) rfl (by kernel_rfl) (by kernel_rfl) (by kernel_rfl) (fun _ _ _ h => h) (Or.inl ⟨by rfl, ?_⟩) (by assumption) ?_
      rotate_left
      · (intro w hSw; (try dsimp only at hSw); go_simp; try with_reducible rfl)
      try simp only [Act.put, List.setIfInBounds_toArray, List.set_cons_zero, List.set_cons_succ]
      refine wpAnyH_take (i := 1) (v := ?_) rfl (by kernel_rfl) (by kernel_rfl) (by kernel_rfl) (fun _ _ _ h => h) (Or.inl ⟨by rfl, ?_⟩) (by assumption) ?_
      rotate_left
      · (intro w hSw; (try dsimp only at hSw); go_simp; try with_reducible rfl)
      try simp only [Act.put, List.setIfInBounds_toArray, List.set_cons_zero, List.set_cons_succ]
      refine wpAnyH_take (i := 2) (v := ?_) rfl (by kernel_rfl) (by kernel_rfl) (by kernel_rfl) (fun _ _ _ h => h) (Or.inl ⟨by rfl, ?_⟩) (by assumption) ?_
      rotate_left
      · (intro w hSw; (try dsimp only at hSw); go_simp; try with_reducible rfl)
      try simp only [Act.put, List.setIfInBounds_toArray, List.set_cons_zero, List.set_cons_succ]
      refine wpAnyH_take (i := 3) (v := ?_) rfl (by kernel_rfl) (by kernel_rfl) (by kernel_rfl) (fun _ _ _ h => h) (Or.inl ⟨by rfl, ?_⟩) (by assumption) ?_
      rotate_left
      · (intro w hSw; (try dsimp only at hSw); go_simp; try with_reducible rfl)
      try simp only [Act.put, List.setIfInBounds_toArray, List.set_cons_zero, List.set_cons_succ]
      refine wpAnyH_take (i := 9) (v := ?_) rfl (by kernel_rfl) (by kernel_rfl) (by kernel_rfl) (fun _ _ _ h => h) (Or.inl ⟨by rfl, ?_⟩) (by assumption) ?_
      rotate_left
      · (intro w hSw; (try dsimp only at hSw); go_simp; try with_reducible rfl)
      try simp only [Act.put, List.setIfInBounds_toArray, List.set_cons_zero, List.set_cons_succ]
      refine wpAnyH_ready (rs := [4]) (by kernel_rfl) (by simp) ?_
      refine AllReadyH.cons (o := _) rfl (fun K hK => ?_) AllReadyH.nil
      go_simp
      with_reducible refine (in_any _ _ _ _).mono ?_
      rintro e w' ⟨rfl, rfl⟩
      rw [h3]
      refine hK.out _ _ ?_ (fun hHeld => ?_)
      · exact hHeld
      clear hK K
      try simp only [Act.put, List.setIfInBounds_toArray, List.set_cons_zero, List.set_cons_succ]
      refine wpAnyH_take (i := 5) (v := ?_) rfl (by kernel_rfl) (by kernel_rfl) (by kernel_rfl) (fun _ _ _ h => h) (Or.inl ⟨by rfl, ?_⟩) (by assumption) ?_
      rotate_left
      · (intro w hSw; (try dsimp only at hSw); go_simp; try with_reducible rfl)
      try simp only [Act.put, List.setIfInBounds_toArray, List.set_cons_zero, List.set_cons_succ]
      refine wpAnyH_take (i := 6) (v := undef) rfl (by kernel_rfl) (by kernel_rfl) (by kernel_rfl) (fun _ _ _ h => h) (Or.inr ⟨by rfl, rfl⟩) (by assumption) ?_
      try simp only [Act.put, List.setIfInBounds_toArray, List.set_cons_zero, List.set_cons_succ]
      refine wpAnyH_take (i := 7) (v := undef) rfl (by kernel_rfl) (by kernel_rfl) (by kernel_rfl) (fun _ _ _ h => h) (Or.inr ⟨by rfl, rfl⟩) (by assumption) ?_
      try simp only [Act.put, List.setIfInBounds_toArray, List.set_cons_zero, List.set_cons_succ]
      refine wpAnyH_take (i := 8) (v := ?_) rfl (by kernel_rfl) (by kernel_rfl) (by kernel_rfl) (fun _ _ _ h => h) (Or.inl ⟨by rfl, ?_⟩) (by assumption) ?_
      rotate_left
      · (intro w hSw; (try dsimp only at hSw); go_simp; try with_reducible rfl)
      try simp only [Act.put, List.setIfInBounds_toArray, List.set_cons_zero, List.set_cons_succ]
      refine wpAnyH_ready (rs := [10]) (by kernel_rfl) (by simp) ?_
      refine AllReadyH.cons (o := _) rfl (fun K hK => ?_) AllReadyH.nil
      go_simp
      with_reducible refine (C2.out _ _ (Lib.hid HK.out.drew)).mono ?_
      rintro e w' ⟨rfl, hb⟩
      refine hK.out _ _ ?_ (fun hHeld => ?_)
      · exact k2S (HK.out.drew.on hb)
      clear hK K
      try simp only [Act.put, List.setIfInBounds_toArray, List.set_cons_zero, List.set_cons_succ]
      have HB := Lib.hid hHeld.2.2.2.2.out.low
      refine wpAnyH_take (i := 11) (v := ?_) rfl (by kernel_rfl) (by kernel_rfl) (by kernel_rfl) (fun _ _ _ h => h) (Or.inl ⟨by rfl, ?_⟩) (by assumption) ?_
      rotate_left
      · (intro w hSw; (try dsimp only at hSw); go_simp; try with_reducible rfl)
      try simp only [Act.put, List.setIfInBounds_toArray, List.set_cons_zero, List.set_cons_succ]
      refine wpAnyH_done (by kernel_rfl) ?_ _
      simp only [List.getElem_toArray, List.getElem_cons_succ, List.getElem_cons_zero, List.setIfInBounds_toArray, List.set_cons_zero, List.set_cons_succ]
      go_wp2_with fail
      go_ret
      exact ⟨ret_int HR.out.symm, HB.out⟩
  · have HR : Hid (skE r f xs g ys x n q = 1) := Lib.hid (by unfold skE; rw [if_neg h1])
    have h1' : skB g ys = false := by simpa using h1
    rw [h1'] at C1
    clear h1 h1'
    go_enter Tryz.func25, Tryz.ntmps25
    go_wp2_with fail
    with_reducible refine (C1.out _ HK).mono ?_
    rintro e w1 ⟨rfl, hb⟩
    have HK := Lib.hid (HK.out.on hb)
    clear hb
    obtain ⟨k0, k1, k2, k3, _⟩ := HK.out
    go_wp2_with fail
    go_ret
    exact ⟨ret_int HR.out.symm, HK.out.low⟩

set_option maxHeartbeats 4000000 in
theorem sval_any (r f : Int) (xs : List Int) (a : Option Addr) (l c : Nat) (g : Int) (ys : List Int) (b : Option Addr) (m d : Nat) (x n q : Int) (w : World) (h : Ints w a l xs) (k : Ints w b m ys) (hs : SkIn r f xs g ys x n q) :
    Calls Tryz.prog 26 #[.agg #[.int .i64 f, .slice a l c], .agg #[.int .i64 g, .slice b m d], .int .i64 r, .int .i64 x, .int .i64 n, .int .i64 q] w fun e w' => e = .returned (.int .i64 (svS r f xs g ys x q n.toNat)) ∧ Below w.heap.size w w' := by
  have HK : Hid (K2 w f (.slice a l c) g (.slice b m d) ((w.alloc (.cells #[.int .i64 f, .slice a l c] 26)).alloc (.cells #[.int .i64 g, .slice b m d] 28))) := Lib.hid (K2.new _ _ _ _ _ _ _)
  have HS := Lib.hid hs
  have x0 := hs.x0
  have xn := hs.xn
  have n0 := hs.n0
  have n1 := hs.n1
  obtain ⟨f0, f1⟩ := hs.lt.1
  have C1 : Hid (∀ (j : Nat) W, x + j ≤ 150 → Hid (K2 w f (.slice a l c) g (.slice b m d) W) → Calls Tryz.prog 52 #[.agg #[.int .i64 g, .slice b m d], .int .i64 (x + j)] W fun e w' => e = .returned (.int .i64 (wk g ys (x + j))) ∧ Below W.heap.size W w') :=
    Lib.hid (fun j W hj hW => swk_any g ys b m d (x + j) W (k.on hW.out.low) hs.st.1.1 hs.st.1.2 (by omega) (by omega) (by have := hs.st.2.1.2; rw [k.len] at this; omega))
  have C2 : Hid (∀ (j : Nat) W, x + j ≤ 150 → Hid (K2 w f (.slice a l c) g (.slice b m d) W) → Calls Tryz.prog 29 #[.agg #[.int .i64 f, .slice a l c], .int .i64 r, .int .i64 (x + j)] W fun e w' => e = .returned (.int .i64 (cD r xs (x + j - f).toNat)) ∧ Below W.heap.size W w') :=
    Lib.hid (fun j W hj hW => sD_any r f xs a l c (x + j) W (h.on hW.out.low) hs.lt hs.r0 hs.r1 (by omega) (by omega))
  have C3 : Hid (∀ W, Hid (K2 w f (.slice a l c) g (.slice b m d) W) → Calls Tryz.prog 29 #[.agg #[.int .i64 f, .slice a l c], .int .i64 r, .int .i64 x] W fun e w' => e = .returned (.int .i64 (cD r xs (x - f).toNat)) ∧ Below W.heap.size W w') :=
    Lib.hid (fun W hW => sD_any r f xs a l c x W (h.on hW.out.low) hs.lt hs.r0 hs.r1 (by omega) (by omega))
  obtain ⟨N, rfl⟩ : ∃ N : Nat, n = N := ⟨n.toNat, by omega⟩
  rw [Int.toNat_natCast]
  clear h k hs
  go_enter Tryz.func26, Tryz.ntmps26
  go_wp2_with fail
  go_loopw [13, 14] (fun v i wr => ∃ j : Nat, j ≤ N ∧ i = .int .i64 j ∧ v = .int .i64 (svS r f xs g ys x q j) ∧ Hid (K2 w f (.slice a l c) g (.slice b m d) wr)) (fun _ i _ => N - (intOf i).toNat)
  case atStart => exact ⟨0, Nat.zero_le _, rfl, rfl, HK⟩
  case round =>
    obtain ⟨j, hj, rfl, rfl, HK⟩ := hrel
    obtain ⟨S, hS⟩ : ∃ y_, svS r f xs g ys x q j = y_ := ⟨_, rfl⟩
    have hsb := HS.out.sum_bd j (by omega)
    rw [hS] at hsb ⊢
    have HSS := Lib.hid hS
    clear hS
    by_cases hlt : j < N
    · have D1 := Lib.hid (fun W => C1.out j W (by omega))
      have D2 := Lib.hid (fun W => C2.out j W (by omega))
      have D3 := C3
      obtain ⟨W0, L, D, e1, e2, e3, e4, b1, b2, b3, b4, b5, b6, b7, b8, b9, b10, b11⟩ := HS.out.year j
      rw [e1] at D1
      rw [e2] at D2
      rw [e3] at D3
      have hx := svS_succ r f xs g ys x q j
      rw [HSS.out, e4] at hx
      have HX := Lib.hid hx
      have DU := Lib.hid (fun W => sup_any (q * W0) L (1000 * D) W b3 (by omega) b5 (by omega) (by omega) (by omega) (by omega))
      obtain ⟨U, hU⟩ : ∃ y_, upV (q * W0) L (1000 * D) = y_ := ⟨_, rfl⟩
      rw [hU] at DU HX b10 b11
      obtain ⟨k0, k1, k2, k3, _⟩ := HK.out
      clear e1 e2 e3 e4 hx hU b9
      have hlt2 : (j : Int) < N := by omega
      have r1 : IntKind.i64.wrap (x + (j : Int)) = x + j := IntWalk.i64_in _ (by omega)
      have r2 : IntKind.i64.wrap (q * W0) = q * W0 := IntWalk.i64_in _ (by omega)
      have r3 : IntKind.i64.wrap (1000 * D) = 1000 * D := IntWalk.i64_in _ (by omega)
      have r4 : IntKind.i64.wrap (S + U) = S + U := IntWalk.i64_in _ (by omega)
      go_wp2_with fail
      go_region_held3 (fun w' => w'.cell? ⟨w.heap.size, 0, none⟩ = some (.int .i64 f) ∧ w'.cell? ⟨w.heap.size, 1, none⟩ = some (.slice a l c) ∧ w'.cell? ⟨w.heap.size + 1, 0, none⟩ = some (.int .i64 g) ∧ w'.cell? ⟨w.heap.size + 1, 1, none⟩ = some (.slice b m d) ∧ Hid (K2 w f (.slice a l c) g (.slice b m d) w'))
        (first
          | (go_split_ands; exact k2S (Hid.out (by with_reducible assumption)))
          | (go_split_ands; exact k2S (K2.on (Hid.out (by with_reducible assumption)) hb))
          | (go_split_ands; exact k2S (K2.drew (Hid.out (by with_reducible assumption))))
          | fail)
        (first
          | (go_split_ands; go_at_call 52; ((with_reducible refine (D1.out _ (by with_reducible assumption)).mono ?_); rintro e w' ⟨rfl, hb⟩))
          | (go_split_ands; go_at_call 29; ((with_reducible refine (D2.out _ (by with_reducible assumption)).mono ?_); rintro e w' ⟨rfl, hb⟩))
          | (go_split_ands; go_at_call 29; ((with_reducible refine (D3.out _ (by with_reducible assumption)).mono ?_); rintro e w' ⟨rfl, hb⟩))
          | (go_split_ands; go_at_call 28; ((with_reducible refine (DU.out _).mono ?_); rintro e w' ⟨rfl, rfl⟩))
          | fail)
      all_goals
        go_split_ands
        have HK : Hid (K2 w f (.slice a l c) g (.slice b m d) _) := (by with_reducible assumption)
        go_wp2_with fail
        go_roundw
        case rel => exact ⟨j + 1, by omega, by go_num, by rw [HX.out], HK⟩
        case measure => simp [intOf]; omega
    · obtain rfl : j = N := by omega
      go_wp2_with fail
      go_ret
      exact ⟨ret_int HSS.out.symm, HK.out.low⟩

end Go.Proofs.YtpdmbmfjeankbaaGreatDoor

/- Sickness: SickValue, SickPremium, SickWeeks and WorstAge of the model. -/
namespace Go.Proofs.YtpdmbmfjeankbaaGreatDoor
open Go.ChangeShapes Go.WideShapes Go.ChangeAt Go.RowKit
set_option linter.unusedVariables false
set_option linter.unusedSimpArgs false
set_option maxRecDepth 100000

set_option maxHeartbeats 1000000 in
theorem ssv_any (r f : Int) (xs : List Int) (a : Option Addr) (l c : Nat) (g : Int) (ys : List Int) (b : Option Addr) (m d : Nat) (x n q : Int) (w : World) (h : Ints w a l xs) (k : Ints w b m ys) :
    Calls Tryz.prog 7 #[.agg #[.int .i64 f, .slice a l c], .agg #[.int .i64 g, .slice b m d], .int .i64 r, .int .i64 x, .int .i64 n, .int .i64 q] w (IIPost (svV r f xs g ys x n q) (skE r f xs g ys x n q) w) := by
  have HK : Hid (K2 w f (.slice a l c) g (.slice b m d) ((w.alloc (.cells #[.int .i64 f, .slice a l c] 26)).alloc (.cells #[.int .i64 g, .slice b m d] 28))) := Lib.hid (K2.new _ _ _ _ _ _ _)
  have C1 : Hid (∀ W, Hid (K2 w f (.slice a l c) g (.slice b m d) W) → Calls Tryz.prog 25 #[.agg #[.int .i64 f, .slice a l c], .agg #[.int .i64 g, .slice b m d], .int .i64 r, .int .i64 x, .int .i64 n, .int .i64 q] W fun e w' => e = .returned (.int .i64 (skE r f xs g ys x n q)) ∧ Below W.heap.size W w') :=
    Lib.hid (fun W hW => scode9_any r f xs a l c g ys b m d x n q W (h.on hW.out.low) (k.on hW.out.low))
  obtain ⟨E, hE⟩ : ∃ y_, skE r f xs g ys x n q = y_ := ⟨_, rfl⟩
  have HV : Hid (svV r f xs g ys x n q = if E = 0 then svS r f xs g ys x q n.toNat else 0) := Lib.hid (by unfold svV; rw [hE])
  rw [hE] at C1 ⊢
  unfold IIPost
  by_cases hz : E = 0
  · subst hz
    have hs := skE_iff.1 hE
    have C2 : Hid (∀ W, Hid (K2 w f (.slice a l c) g (.slice b m d) W) → Calls Tryz.prog 26 #[.agg #[.int .i64 f, .slice a l c], .agg #[.int .i64 g, .slice b m d], .int .i64 r, .int .i64 x, .int .i64 n, .int .i64 q] W fun e w' => e = .returned (.int .i64 (svS r f xs g ys x q n.toNat)) ∧ Below W.heap.size W w') :=
      Lib.hid (fun W hW => sval_any r f xs a l c g ys b m d x n q W (h.on hW.out.low) (k.on hW.out.low) hs)
    clear h k hE hs
    go_enter Tryz.func7, Tryz.ntmps7
    go_wp2_with fail
    with_reducible refine (C1.out _ HK).mono ?_
    rintro e w1 ⟨rfl, hb⟩
    have HK := Lib.hid (HK.out.on hb)
    clear hb
    obtain ⟨k0, k1, k2, k3, _⟩ := HK.out
    go_wp2_with fail
    with_reducible refine (C2.out _ HK).mono ?_
    rintro e w2 ⟨rfl, hb⟩
    have HK2 := Lib.hid (HK.out.on hb)
    clear hb k0 k1 k2 k3
    go_wp2_with fail
    go_ret2
    exact ⟨ret_ii (by rw [HV.out]; rfl) rfl, HK2.out.low⟩
  · have hne : (E != 0) = true := by simp [hz]
    have HV2 : Hid (svV r f xs g ys x n q = 0) := Lib.hid (by rw [HV.out, if_neg hz])
    clear h k hz HV hE
    go_enter Tryz.func7, Tryz.ntmps7
    go_wp2_with fail
    with_reducible refine (C1.out _ HK).mono ?_
    rintro e w1 ⟨rfl, hb⟩
    have HK := Lib.hid (HK.out.on hb)
    clear hb
    obtain ⟨k0, k1, k2, k3, _⟩ := HK.out
    go_wp2_with fail
    go_ret2
    exact ⟨ret_ii HV2.out.symm rfl, HK.out.low⟩

set_option maxHeartbeats 4000000 in
theorem ssp_any (r f : Int) (xs : List Int) (a : Option Addr) (l c : Nat) (g : Int) (ys : List Int) (b : Option Addr) (m d : Nat) (x n q : Int) (w : World) (h : Ints w a l xs) (k : Ints w b m ys) :
    Calls Tryz.prog 9 #[.agg #[.int .i64 f, .slice a l c], .agg #[.int .i64 g, .slice b m d], .int .i64 r, .int .i64 x, .int .i64 n, .int .i64 q] w (IIPost (spV r f xs g ys x n q) (skE r f xs g ys x n q) w) := by
  have HK : Hid (K2 w f (.slice a l c) g (.slice b m d) ((w.alloc (.cells #[.int .i64 f, .slice a l c] 26)).alloc (.cells #[.int .i64 g, .slice b m d] 28))) := Lib.hid (K2.new _ _ _ _ _ _ _)
  have C1 : Hid (∀ W, Hid (K2 w f (.slice a l c) g (.slice b m d) W) → Calls Tryz.prog 25 #[.agg #[.int .i64 f, .slice a l c], .agg #[.int .i64 g, .slice b m d], .int .i64 r, .int .i64 x, .int .i64 n, .int .i64 q] W fun e w' => e = .returned (.int .i64 (skE r f xs g ys x n q)) ∧ Below W.heap.size W w') :=
    Lib.hid (fun W hW => scode9_any r f xs a l c g ys b m d x n q W (h.on hW.out.low) (k.on hW.out.low))
  obtain ⟨E, hE⟩ : ∃ y_, skE r f xs g ys x n q = y_ := ⟨_, rfl⟩
  have HV : Hid (spV r f xs g ys x n q = if E = 0 then upV (svS r f xs g ys x q n.toNat) (cD r xs (x - f).toNat) (cN r xs (x - f).toNat - cN r xs (x + n - f).toNat) else 0) := Lib.hid (by unfold spV; rw [hE])
  rw [hE] at C1 ⊢
  unfold IIPost
  by_cases hz : E = 0
  · subst hz
    have hs := skE_iff.1 hE
    have x0 := hs.x0
    have xn := hs.xn
    have n0 := hs.n0
    have n1 := hs.n1
    obtain ⟨f0, f1⟩ := hs.lt.1
    have C2 : Hid (∀ W, Hid (K2 w f (.slice a l c) g (.slice b m d) W) → Calls Tryz.prog 26 #[.agg #[.int .i64 f, .slice a l c], .agg #[.int .i64 g, .slice b m d], .int .i64 r, .int .i64 x, .int .i64 n, .int .i64 q] W fun e w' => e = .returned (.int .i64 (svS r f xs g ys x q n.toNat)) ∧ Below W.heap.size W w') :=
      Lib.hid (fun W hW => sval_any r f xs a l c g ys b m d x n q W (h.on hW.out.low) (k.on hW.out.low) hs)
    have C3 : Hid (∀ W, Hid (K2 w f (.slice a l c) g (.slice b m d) W) → Calls Tryz.prog 29 #[.agg #[.int .i64 f, .slice a l c], .int .i64 r, .int .i64 x] W fun e w' => e = .returned (.int .i64 (cD r xs (x - f).toNat)) ∧ Below W.heap.size W w') :=
      Lib.hid (fun W hW => sD_any r f xs a l c x W (h.on hW.out.low) hs.lt hs.r0 hs.r1 (by omega) (by omega))
    have C4 : Hid (∀ W, Hid (K2 w f (.slice a l c) g (.slice b m d) W) → Calls Tryz.prog 30 #[.agg #[.int .i64 f, .slice a l c], .int .i64 r, .int .i64 x] W fun e w' => e = .returned (.int .i64 (cN r xs (x - f).toNat)) ∧ Below W.heap.size W w') :=
      Lib.hid (fun W hW => sN_any r f xs a l c x W (h.on hW.out.low) hs.lt hs.r0 hs.r1 (by omega) (by omega))
    have C5 : Hid (∀ W, Hid (K2 w f (.slice a l c) g (.slice b m d) W) → Calls Tryz.prog 30 #[.agg #[.int .i64 f, .slice a l c], .int .i64 r, .int .i64 (x + n)] W fun e w' => e = .returned (.int .i64 (cN r xs (x + n - f).toNat)) ∧ Below W.heap.size W w') :=
      Lib.hid (fun W hW => sN_any r f xs a l c (x + n) W (h.on hW.out.low) hs.lt hs.r0 hs.r1 (by omega) (by omega))
    obtain ⟨S, D, N, M, e1, e2, e3, e4, b1, b2, b3, b4, b5, b6, b7, b8, b9, b10⟩ := hs.prem
    rw [e1] at C2
    rw [e2] at C3
    rw [e3] at C4
    rw [e4] at C5
    rw [e1, e2, e3, e4] at HV
    have CU := Lib.hid (fun W => sup_any S D (N - M) W b1 (by omega) (by omega) (by omega) b9 (by omega) (by omega))
    obtain ⟨U, hU⟩ : ∃ y_, upV S D (N - M) = y_ := ⟨_, rfl⟩
    rw [hU] at CU HV
    have r1 : IntKind.i64.wrap (x + n) = x + n := IntWalk.i64_in _ (by omega)
    have r2 : IntKind.i64.wrap (N - M) = N - M := IntWalk.i64_in _ (by omega)
    clear h k hE hs e1 e2 e3 e4 hU b10
    go_enter Tryz.func9, Tryz.ntmps9
    go_wp2_with fail
    with_reducible refine (C1.out _ HK).mono ?_
    rintro e w1 ⟨rfl, hb⟩
    have HK := Lib.hid (HK.out.on hb)
    clear hb
    obtain ⟨k0, k1, k2, k3, _⟩ := HK.out
    go_wp2_with fail
    with_reducible refine (C2.out _ HK).mono ?_
    rintro e w2 ⟨rfl, hb⟩
    have HK := Lib.hid (HK.out.on hb)
    clear hb k0 k1 k2 k3
    obtain ⟨k0, k1, k2, k3, _⟩ := HK.out
    go_wp2_with fail
    go_region_held3 (fun w' => w'.cell? ⟨w.heap.size, 0, none⟩ = some (.int .i64 f) ∧ w'.cell? ⟨w.heap.size, 1, none⟩ = some (.slice a l c) ∧ w'.cell? ⟨w.heap.size + 1, 0, none⟩ = some (.int .i64 g) ∧ w'.cell? ⟨w.heap.size + 1, 1, none⟩ = some (.slice b m d) ∧ Hid (K2 w f (.slice a l c) g (.slice b m d) w'))
      (first
        | (go_split_ands; exact k2S (Hid.out (by with_reducible assumption)))
        | (go_split_ands; exact k2S (K2.on (Hid.out (by with_reducible assumption)) hb))
        | (go_split_ands; exact k2S (K2.drew (Hid.out (by with_reducible assumption))))
        | fail)
      (first
        | (go_split_ands; go_at_call 29; ((with_reducible refine (C3.out _ (by with_reducible assumption)).mono ?_); rintro e w' ⟨rfl, hb⟩))
        | (go_split_ands; go_at_call 30; ((with_reducible refine (C4.out _ (by with_reducible assumption)).mono ?_); rintro e w' ⟨rfl, hb⟩))
        | (go_split_ands; go_at_call 30; ((with_reducible refine (C5.out _ (by with_reducible assumption)).mono ?_); rintro e w' ⟨rfl, hb⟩))
        | (go_split_ands; go_at_call 28; ((with_reducible refine (CU.out _).mono ?_); rintro e w' ⟨rfl, rfl⟩))
        | fail)
    all_goals
      go_split_ands
      have HK : Hid (K2 w f (.slice a l c) g (.slice b m d) _) := (by with_reducible assumption)
      go_wp2_with fail
      go_ret2
      exact ⟨ret_ii (by rw [HV.out]; rfl) rfl, HK.out.low⟩
  · have hne : (E != 0) = true := by simp [hz]
    have HV2 : Hid (spV r f xs g ys x n q = 0) := Lib.hid (by rw [HV.out, if_neg hz])
    clear h k hz HV hE
    go_enter Tryz.func9, Tryz.ntmps9
    go_wp2_with fail
    with_reducible refine (C1.out _ HK).mono ?_
    rintro e w1 ⟨rfl, hb⟩
    have HK := Lib.hid (HK.out.on hb)
    clear hb
    obtain ⟨k0, k1, k2, k3, _⟩ := HK.out
    go_wp2_with fail
    go_ret2
    exact ⟨ret_ii HV2.out.symm rfl, HK.out.low⟩

end Go.Proofs.YtpdmbmfjeankbaaGreatDoor

/- A table in its box, as a law with many calls keeps it. -/
namespace Go.Proofs.YtpdmbmfjeankbaaGreatDoor
open Go.ChangeShapes Go.WideShapes Go.ChangeAt Go.RowKit
set_option linter.unusedVariables false
set_option maxRecDepth 100000

/-- a table in its box -/
structure T1 (T : Nat) (F : Int) (ta : Option Addr) (tn tc : Nat) (xs : List Int) (w W : World) : Prop where
  low : Below w.heap.size w W
  bt : Bx W T [.int .i64 F, .slice ta tn tc]
  ii : Ints W ta tn xs

theorem T1.on {T : Nat} {F : Int} {ta : Option Addr} {tn tc : Nat} {xs : List Int} {w W W' : World} (h : T1 T F ta tn tc xs w W) (hb : Below W.heap.size W W') : T1 T F ta tn tc xs w W' := ⟨h.low.trans (hb.mono h.low.size), h.bt.on hb, h.ii.on hb⟩

theorem T1.new {F : Int} {ta : Option Addr} {tn tc : Nat} {xs : List Int} {w W : World} {ty : TypeId} (hl : Below w.heap.size w W) (hi : Ints W ta tn xs) : T1 W.heap.size F ta tn tc xs w (W.alloc (.cells #[.int .i64 F, .slice ta tn tc] ty)) := ⟨hl.trans ((box_b _ _).mono hl.size), Bx.new W _ _, hi.on (box_b _ _)⟩

theorem T1.two {F : Int} {ta : Option Addr} {tn tc : Nat} {xs : List Int} {G : Int} {ua : Option Addr} {un uc : Nat} {ys : List Int} {w W : World} {t1 t2 : TypeId} (hl : Below w.heap.size w W) (h1 : Ints W ta tn xs) (h2 : Ints W ua un ys) : T1 W.heap.size F ta tn tc xs w ((W.alloc (.cells #[.int .i64 F, .slice ta tn tc] t1)).alloc (.cells #[.int .i64 G, .slice ua un uc] t2)) ∧ T1 (W.heap.size + 1) G ua un uc ys w ((W.alloc (.cells #[.int .i64 F, .slice ta tn tc] t1)).alloc (.cells #[.int .i64 G, .slice ua un uc] t2)) := by
  have hq := box_b W (.cells #[.int .i64 F, .slice ta tn tc] t1)
  have hx := T1.new (F := G) (tc := uc) (ty := t2) (hl.trans (hq.mono hl.size)) (h2.on hq)
  rw [World.size_alloc] at hx
  exact ⟨(T1.new hl h1).on (box_b _ _), hx⟩

end Go.Proofs.YtpdmbmfjeankbaaGreatDoor
