/- Sickness: the model's code, value and premium of a benefit. -/
import Derived.Test.YtgfemcpjkdepdaaSic
import Derived.Test.YtgfemcpjkdepdaaBxs
import Derived.Deep.RegionHeld3
namespace Go.Proofs.Ytgfemcpjkdepdaa
open Go.ChangeShapes Go.WideShapes Go.ChangeAt Go.RowKit
set_option linter.unusedVariables false
set_option linter.unusedSimpArgs false
set_option maxRecDepth 100000

set_option maxHeartbeats 1000000 in
theorem scode9_any (r f : Int) (xs : List Int) (a : Option Addr) (l c : Nat) (g : Int) (ys : List Int) (b : Option Addr) (m d : Nat) (x n q : Int) (w : World) (h : Ints w a l xs) (k : Ints w b m ys) :
    Calls Try.prog 48 #[.agg #[.int .i64 f, .slice a l c], .agg #[.int .i64 g, .slice b m d], .int .i64 r, .int .i64 x, .int .i64 n, .int .i64 q] w fun e w' => e = .returned (.int .i64 (skE r f xs g ys x n q)) ∧ Below w.heap.size w w' := by
  have HK : Hid (K2 w f (.slice a l c) g (.slice b m d) ((w.alloc (.cells #[.int .i64 f, .slice a l c] 46)).alloc (.cells #[.int .i64 g, .slice b m d] 26))) := Lib.hid (K2.new _ _ _ _ _ _ _)
  have C1 : Hid (∀ W, Hid (K2 w f (.slice a l c) g (.slice b m d) W) → Calls Try.prog 20 #[.agg #[.int .i64 g, .slice b m d]] W fun e w' => e = .returned (.bool (skB g ys)) ∧ Below W.heap.size W w') :=
    Lib.hid (fun W hW => isS_spec g ys b m d W (k.on hW.out.low))
  have C2 : Hid (∀ W (z : Bool), Hid (K2 w f (.slice a l c) g (.slice b m d) W) → Calls Try.prog 59 #[.agg #[.int .i64 f, .slice a l c], .int .i64 r, .int .i64 x, .bool z, .int .i64 n] W fun e w' => e = .returned (.int .i64 (anE r f xs x z n)) ∧ Below W.heap.size W w') :=
    Lib.hid (fun W z hW => ancode_any r f xs a l c x z n W (h.on hW.out.low))
  clear h k
  by_cases h1 : skB g ys = true
  · have HR : Hid (skE r f xs g ys x n q = anE r f xs x (inB n 1 60 && inB q 1 100000) n) := Lib.hid (by unfold skE; rw [if_pos h1])
    rw [h1] at C1
    clear h1
    by_cases h2 : inB n 1 60 = true
    · rw [h2, Bool.true_and] at HR
      go_enter Try.func48, Try.ntmps48
      go_wp2_with fail
      with_reducible refine (C1.out _ HK).mono ?_
      rintro e w1 ⟨rfl, hb⟩
      have HK := Lib.hid (HK.out.on hb)
      clear hb
      obtain ⟨k0, k1, k2, k3, _⟩ := HK.out
      go_wp2_with fail
      go_region_held3 (fun w' => w'.cell? ⟨w.heap.size, 0, none⟩ = some (.int .i64 f) ∧ w'.cell? ⟨w.heap.size, 1, none⟩ = some (.slice a l c) ∧ w'.cell? ⟨w.heap.size + 1, 0, none⟩ = some (.int .i64 g) ∧ w'.cell? ⟨w.heap.size + 1, 1, none⟩ = some (.slice b m d) ∧ Hid (K2 w f (.slice a l c) g (.slice b m d) w'))
        (first
          | (go_split_ands; exact k2S (Hid.out (by with_reducible assumption)))
          | (go_split_ands; exact k2S (K2.on (Hid.out (by with_reducible assumption)) hb))
          | (go_split_ands; exact k2S (K2.drew (Hid.out (by with_reducible assumption))))
          | fail)
        (first
          | (go_split_ands; go_at_call 44; ((with_reducible refine (in_any _ _ _ _).mono ?_); rintro e w' ⟨rfl, rfl⟩))
          | (go_split_ands; go_at_call 59; ((with_reducible refine (C2.out _ _ (by with_reducible assumption)).mono ?_); rintro e w' ⟨rfl, hb⟩))
          | fail)
      all_goals
        go_split_ands
        have HK2 : Hid (K2 w f (.slice a l c) g (.slice b m d) _) := (by with_reducible assumption)
        go_wp2_with fail
        go_ret
        exact ⟨ret_int HR.out.symm, HK2.out.low⟩
    · have h3 : inB n 1 60 = false := by simpa using h2
      rw [h3, Bool.false_and] at HR
      clear h2
      go_enter Try.func48, Try.ntmps48
      go_wp2_with fail
      with_reducible refine (C1.out _ HK).mono ?_
      rintro e w1 ⟨rfl, hb⟩
      have HK := Lib.hid (HK.out.on hb)
      clear hb
      obtain ⟨k0, k1, k2, k3, _⟩ := HK.out
      go_wp2_with fail
      refine wp_region_held_drew (S := (fun w' => w'.cell? ⟨w.heap.size, 0, none⟩ = some (.int .i64 f) ∧ w'.cell? ⟨w.heap.size, 1, none⟩ = some (.slice a l c) ∧ w'.cell? ⟨w.heap.size + 1, 0, none⟩ = some (.int .i64 g) ∧ w'.cell? ⟨w.heap.size + 1, 1, none⟩ = some (.slice b m d) ∧ Hid (K2 w f (.slice a l c) g (.slice b m d) w'))) (by kernel_rfl) (k2S HK.out.drew) (fun hHeld => ?_)
      refine wpAnyH_take (i := 0) (v := ?_) rfl (by kernel_rfl) (by kernel_rfl) (by kernel_rfl) (fun _ _ _ h => h) (Or.inl ⟨by rfl, ?_⟩) (by assumption) ?_
      rotate_left
      · (intro w hSw; (try dsimp only at hSw); go_simp; try with_reducible rfl)
      try simp only [Act.put, List.setIfInBounds_toArray, List.set_cons_zero, List.set_cons_succ]
      refine wpAnyH_take (i := 1) (v := ?_) rfl (by kernel_rfl) (by kernel_rfl) (by kernel_rfl) (fun _ _ _ h => h) (Or.inl ⟨by rfl, ?_⟩) (by assumption) ?_
      rotate_left
      · (intro w hSw; (try dsimp only at hSw); go_simp; try with_reducible rfl)
      try simp only [Act.put, List.setIfInBounds_toArray, List.set_cons_zero, List.set_cons_succ]
      refine wpAnyH_take (i := 2) (v := ?_) rfl (by kernel_rfl) (by kernel_rfl) (by kernel_rfl) (fun _ _ _ h => h) (Or.inl ⟨by rfl, ?_⟩) (by assumption) ?_
      rotate_left
      · (intro w hSw; (try dsimp only at hSw); go_simp; try with_reducible rfl)
      try simp only [Act.put, List.setIfInBounds_toArray, List.set_cons_zero, List.set_cons_succ]
      refine wpAnyH_take (i := 3) (v := ?_) rfl (by kernel_rfl) (by kernel_rfl) (by kernel_rfl) (fun _ _ _ h => h) (Or.inl ⟨by rfl, ?_⟩) (by assumption) ?_
      rotate_left
      · (intro w hSw; (try dsimp only at hSw); go_simp; try with_reducible rfl)
      try simp only [Act.put, List.setIfInBounds_toArray, List.set_cons_zero, List.set_cons_succ]
      refine wpAnyH_take (i := 9) (v := ?_) rfl (by kernel_rfl) (by kernel_rfl) (by kernel_rfl) (fun _ _ _ h => h) (Or.inl ⟨by rfl, ?_⟩) (by assumption) ?_
      rotate_left
      · (intro w hSw; (try dsimp only at hSw); go_simp; try with_reducible rfl)
      try simp only [Act.put, List.setIfInBounds_toArray, List.set_cons_zero, List.set_cons_succ]
      refine wpAnyH_ready (rs := [4]) (by kernel_rfl) (by simp) ?_
      refine AllReadyH.cons (o := _) rfl (fun K hK => ?_) AllReadyH.nil
      go_simp
      with_reducible refine (in_any _ _ _ _).mono ?_
      rintro e w' ⟨rfl, rfl⟩
      rw [h3]
      refine hK.out _ _ ?_ (fun hHeld => ?_)
      · exact hHeld
      clear hK K
      try simp only [Act.put, List.setIfInBounds_toArray, List.set_cons_zero, List.set_cons_succ]
      refine wpAnyH_take (i := 5) (v := ?_) rfl (by kernel_rfl) (by kernel_rfl) (by kernel_rfl) (fun _ _ _ h => h) (Or.inl ⟨by rfl, ?_⟩) (by assumption) ?_
      rotate_left
      · (intro w hSw; (try dsimp only at hSw); go_simp; try with_reducible rfl)
      try simp only [Act.put, List.setIfInBounds_toArray, List.set_cons_zero, List.set_cons_succ]
      refine wpAnyH_take (i := 6) (v := undef) rfl (by kernel_rfl) (by kernel_rfl) (by kernel_rfl) (fun _ _ _ h => h) (Or.inr ⟨by rfl, rfl⟩) (by assumption) ?_
      try simp only [Act.put, List.setIfInBounds_toArray, List.set_cons_zero, List.set_cons_succ]
      refine wpAnyH_take (i := 7) (v := undef) rfl (by kernel_rfl) (by kernel_rfl) (by kernel_rfl) (fun _ _ _ h => h) (Or.inr ⟨by rfl, rfl⟩) (by assumption) ?_
      try simp only [Act.put, List.setIfInBounds_toArray, List.set_cons_zero, List.set_cons_succ]
      refine wpAnyH_take (i := 8) (v := ?_) rfl (by kernel_rfl) (by kernel_rfl) (by kernel_rfl) (fun _ _ _ h => h) (Or.inl ⟨by rfl, ?_⟩) (by assumption) ?_
      rotate_left
      · (intro w hSw; (try dsimp only at hSw); go_simp; try with_reducible rfl)
      try simp only [Act.put, List.setIfInBounds_toArray, List.set_cons_zero, List.set_cons_succ]
      refine wpAnyH_ready (rs := [10]) (by kernel_rfl) (by simp) ?_
      refine AllReadyH.cons (o := _) rfl (fun K hK => ?_) AllReadyH.nil
      go_simp
      with_reducible refine (C2.out _ _ (Lib.hid HK.out.drew)).mono ?_
      rintro e w' ⟨rfl, hb⟩
      refine hK.out _ _ ?_ (fun hHeld => ?_)
      · exact k2S (HK.out.drew.on hb)
      clear hK K
      try simp only [Act.put, List.setIfInBounds_toArray, List.set_cons_zero, List.set_cons_succ]
      have HB := Lib.hid hHeld.2.2.2.2.out.low
      refine wpAnyH_take (i := 11) (v := ?_) rfl (by kernel_rfl) (by kernel_rfl) (by kernel_rfl) (fun _ _ _ h => h) (Or.inl ⟨by rfl, ?_⟩) (by assumption) ?_
      rotate_left
      · (intro w hSw; (try dsimp only at hSw); go_simp; try with_reducible rfl)
      try simp only [Act.put, List.setIfInBounds_toArray, List.set_cons_zero, List.set_cons_succ]
      refine wpAnyH_done (by kernel_rfl) ?_ _
      simp only [List.getElem_toArray, List.getElem_cons_succ, List.getElem_cons_zero, List.setIfInBounds_toArray, List.set_cons_zero, List.set_cons_succ]
      go_wp2_with fail
      go_ret
      exact ⟨ret_int HR.out.symm, HB.out⟩
  · have HR : Hid (skE r f xs g ys x n q = 1) := Lib.hid (by unfold skE; rw [if_neg h1])
    have h1' : skB g ys = false := by simpa using h1
    rw [h1'] at C1
    clear h1 h1'
    go_enter Try.func48, Try.ntmps48
    go_wp2_with fail
    with_reducible refine (C1.out _ HK).mono ?_
    rintro e w1 ⟨rfl, hb⟩
    have HK := Lib.hid (HK.out.on hb)
    clear hb
    obtain ⟨k0, k1, k2, k3, _⟩ := HK.out
    go_wp2_with fail
    go_ret
    exact ⟨ret_int HR.out.symm, HK.out.low⟩

set_option maxHeartbeats 4000000 in
theorem sval_any (r f : Int) (xs : List Int) (a : Option Addr) (l c : Nat) (g : Int) (ys : List Int) (b : Option Addr) (m d : Nat) (x n q : Int) (w : World) (h : Ints w a l xs) (k : Ints w b m ys) (hs : SkIn r f xs g ys x n q) :
    Calls Try.prog 49 #[.agg #[.int .i64 f, .slice a l c], .agg #[.int .i64 g, .slice b m d], .int .i64 r, .int .i64 x, .int .i64 n, .int .i64 q] w fun e w' => e = .returned (.int .i64 (svS r f xs g ys x q n.toNat)) ∧ Below w.heap.size w w' := by
  have HK : Hid (K2 w f (.slice a l c) g (.slice b m d) ((w.alloc (.cells #[.int .i64 f, .slice a l c] 46)).alloc (.cells #[.int .i64 g, .slice b m d] 26))) := Lib.hid (K2.new _ _ _ _ _ _ _)
  have HS := Lib.hid hs
  have x0 := hs.x0
  have xn := hs.xn
  have n0 := hs.n0
  have n1 := hs.n1
  obtain ⟨f0, f1⟩ := hs.lt.1
  have C1 : Hid (∀ (j : Nat) W, x + j ≤ 150 → Hid (K2 w f (.slice a l c) g (.slice b m d) W) → Calls Try.prog 42 #[.agg #[.int .i64 g, .slice b m d], .int .i64 (x + j)] W fun e w' => e = .returned (.int .i64 (wk g ys (x + j))) ∧ Below W.heap.size W w') :=
    Lib.hid (fun j W hj hW => swk_any g ys b m d (x + j) W (k.on hW.out.low) hs.st.1.1 hs.st.1.2 (by omega) (by omega) (by have := hs.st.2.1.2; rw [k.len] at this; omega))
  have C2 : Hid (∀ (j : Nat) W, x + j ≤ 150 → Hid (K2 w f (.slice a l c) g (.slice b m d) W) → Calls Try.prog 53 #[.agg #[.int .i64 f, .slice a l c], .int .i64 r, .int .i64 (x + j)] W fun e w' => e = .returned (.int .i64 (cD r xs (x + j - f).toNat)) ∧ Below W.heap.size W w') :=
    Lib.hid (fun j W hj hW => sD_any r f xs a l c (x + j) W (h.on hW.out.low) hs.lt hs.r0 hs.r1 (by omega) (by omega))
  have C3 : Hid (∀ W, Hid (K2 w f (.slice a l c) g (.slice b m d) W) → Calls Try.prog 53 #[.agg #[.int .i64 f, .slice a l c], .int .i64 r, .int .i64 x] W fun e w' => e = .returned (.int .i64 (cD r xs (x - f).toNat)) ∧ Below W.heap.size W w') :=
    Lib.hid (fun W hW => sD_any r f xs a l c x W (h.on hW.out.low) hs.lt hs.r0 hs.r1 (by omega) (by omega))
  obtain ⟨N, rfl⟩ : ∃ N : Nat, n = N := ⟨n.toNat, by omega⟩
  rw [Int.toNat_natCast]
  clear h k hs
  go_enter Try.func49, Try.ntmps49
  go_wp2_with fail
  go_loopw [13, 14] (fun v i wr => ∃ j : Nat, j ≤ N ∧ i = .int .i64 j ∧ v = .int .i64 (svS r f xs g ys x q j) ∧ Hid (K2 w f (.slice a l c) g (.slice b m d) wr)) (fun _ i _ => N - (intOf i).toNat)
  case atStart => exact ⟨0, Nat.zero_le _, rfl, rfl, HK⟩
  case round =>
    obtain ⟨j, hj, rfl, rfl, HK⟩ := hrel
    obtain ⟨S, hS⟩ : ∃ y_, svS r f xs g ys x q j = y_ := ⟨_, rfl⟩
    have hsb := HS.out.sum_bd j (by omega)
    rw [hS] at hsb ⊢
    have HSS := Lib.hid hS
    clear hS
    by_cases hlt : j < N
    · have D1 := Lib.hid (fun W => C1.out j W (by omega))
      have D2 := Lib.hid (fun W => C2.out j W (by omega))
      have D3 := C3
      obtain ⟨W0, L, D, e1, e2, e3, e4, b1, b2, b3, b4, b5, b6, b7, b8, b9, b10, b11⟩ := HS.out.year j
      rw [e1] at D1
      rw [e2] at D2
      rw [e3] at D3
      have hx := svS_succ r f xs g ys x q j
      rw [HSS.out, e4] at hx
      have HX := Lib.hid hx
      have DU := Lib.hid (fun W => sup_any (q * W0) L (1000 * D) W b3 (by omega) b5 (by omega) (by omega) (by omega) (by omega))
      obtain ⟨U, hU⟩ : ∃ y_, upV (q * W0) L (1000 * D) = y_ := ⟨_, rfl⟩
      rw [hU] at DU HX b10 b11
      obtain ⟨k0, k1, k2, k3, _⟩ := HK.out
      clear e1 e2 e3 e4 hx hU b9
      have hlt2 : (j : Int) < N := by omega
      have r1 : IntKind.i64.wrap (x + (j : Int)) = x + j := IntWalk.i64_in _ (by omega)
      have r2 : IntKind.i64.wrap (q * W0) = q * W0 := IntWalk.i64_in _ (by omega)
      have r3 : IntKind.i64.wrap (1000 * D) = 1000 * D := IntWalk.i64_in _ (by omega)
      have r4 : IntKind.i64.wrap (S + U) = S + U := IntWalk.i64_in _ (by omega)
      go_wp2_with fail
      go_region_held3 (fun w' => w'.cell? ⟨w.heap.size, 0, none⟩ = some (.int .i64 f) ∧ w'.cell? ⟨w.heap.size, 1, none⟩ = some (.slice a l c) ∧ w'.cell? ⟨w.heap.size + 1, 0, none⟩ = some (.int .i64 g) ∧ w'.cell? ⟨w.heap.size + 1, 1, none⟩ = some (.slice b m d) ∧ Hid (K2 w f (.slice a l c) g (.slice b m d) w'))
        (first
          | (go_split_ands; exact k2S (Hid.out (by with_reducible assumption)))
          | (go_split_ands; exact k2S (K2.on (Hid.out (by with_reducible assumption)) hb))
          | (go_split_ands; exact k2S (K2.drew (Hid.out (by with_reducible assumption))))
          | fail)
        (first
          | (go_split_ands; go_at_call 42; ((with_reducible refine (D1.out _ (by with_reducible assumption)).mono ?_); rintro e w' ⟨rfl, hb⟩))
          | (go_split_ands; go_at_call 53; ((with_reducible refine (D2.out _ (by with_reducible assumption)).mono ?_); rintro e w' ⟨rfl, hb⟩))
          | (go_split_ands; go_at_call 53; ((with_reducible refine (D3.out _ (by with_reducible assumption)).mono ?_); rintro e w' ⟨rfl, hb⟩))
          | (go_split_ands; go_at_call 52; ((with_reducible refine (DU.out _).mono ?_); rintro e w' ⟨rfl, rfl⟩))
          | fail)
      all_goals
        go_split_ands
        have HK : Hid (K2 w f (.slice a l c) g (.slice b m d) _) := (by with_reducible assumption)
        go_wp2_with fail
        go_roundw
        case rel => exact ⟨j + 1, by omega, by go_num, by rw [HX.out], HK⟩
        case measure => simp [intOf]; omega
    · obtain rfl : j = N := by omega
      go_wp2_with fail
      go_ret
      exact ⟨ret_int HSS.out.symm, HK.out.low⟩

end Go.Proofs.Ytgfemcpjkdepdaa
