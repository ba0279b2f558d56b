/- The joint table of the model: the walk. -/
import Derived.Test.YtlcmgihaelgclaaJmj
import Derived.Test.YtlcmgihaelgclaaJhl
namespace Go.Proofs.Ytlcmgihaelgclaa
open Go.ChangeShapes Go.WideShapes Go.ChangeAt Go.RowKit
set_option linter.unusedVariables false
set_option linter.unusedSimpArgs false
set_option maxRecDepth 100000

set_option maxHeartbeats 40000000 in
theorem sjoint_any (f : Int) (xs : List Int) (a : Option Addr) (l c : Nat) (x : Int) (g : Int) (ys : List Int) (b : Option Addr) (m d : Nat) (y : Int) (w : World) (h : Ints w a l xs) (k : Ints w b m ys) (hD : Duo f xs x g ys y) :
    Calls Try.prog 45 #[.agg #[.int .i64 f, .slice a l c], .int .i64 x, .agg #[.int .i64 g, .slice b m d], .int .i64 y] w (JtPost x (jtL f xs x g ys y) w) := by
  have H := Lib.hid h
  have K := Lib.hid k
  have HD := Lib.hid hD
  obtain ⟨f0, f1⟩ := hD.t.1
  obtain ⟨g0, g1⟩ := hD.u.1
  have x0 := hD.x0
  have x1 := hD.x1
  have y0 := hD.y0
  have y1 := hD.y1
  obtain ⟨n0, n1⟩ := hD.jn_le
  have HP := Lib.hid hD.jn_pos
  have HZ := Lib.hid hD.jn_hit
  have HA : Hid (jtK f xs x g ys y (jn f xs x g ys y + 1) = jtL f xs x g ys y) := Lib.hid jtK_all
  have HG0 : Hid (Jg w f (.slice a l c) g (.slice b m d) x (.slice (some ⟨w.heap.size + 3, 0, none⟩) 0 0) (jtK f xs x g ys y 0) (((((w.alloc (.cells #[.int .i64 f, .slice a l c] 26)).alloc (.cells #[.int .i64 g, .slice b m d] 26)).alloc (.cells #[.int .i64 0, .slice none 0 0] 26)).alloc (.cells #[] 2)).alloc (.cells #[.int .i64 x, .slice (some ⟨w.heap.size + 3, 0, none⟩) 0 0] 26))) := Lib.hid (by
    have k1 := K2.new w f (.slice a l c) g (.slice b m d) 26 26
    generalize e1 : ((w.alloc (.cells #[.int .i64 f, .slice a l c] 26)).alloc (.cells #[.int .i64 g, .slice b m d] 26)) = W1 at k1 ⊢
    have s1 : W1.heap.size = w.heap.size + 2 := by rw [← e1]; simp
    have r1 := Bx.new W1 [.int .i64 0, .slice none 0 0] 26
    have k2 := k1.on (box_b W1 (.cells #[.int .i64 0, .slice none 0 0] 26))
    rw [s1] at r1
    generalize e2 : W1.alloc (.cells #[.int .i64 0, .slice none 0 0] 26) = W2 at r1 k2 ⊢
    have s2 : W2.heap.size = w.heap.size + 3 := by rw [← e2]; simp [s1]
    have o1 := ownI_new W2
    have k3 := k2.on (box_b W2 (.cells #[] 2))
    have r2 := r1.on (box_b W2 (.cells #[] 2))
    rw [s2] at o1
    generalize e3 : W2.alloc (.cells #[] 2) = W3 at o1 k3 r2 ⊢
    have s3 : W3.heap.size = w.heap.size + 4 := by rw [← e3]; simp [s2]
    have q1 := Bx.new W3 [.int .i64 x, .slice (some ⟨w.heap.size + 3, 0, none⟩) 0 0] 26
    rw [s3] at q1
    exact ⟨k3.on (box_b _ _), r2.on (box_b _ _), q1, o1.on (box_b _ _), by simp [Value.ownBlock], by simp [s3]⟩)
  obtain ⟨N, hN⟩ : ∃ y_, jn f xs x g ys y = y_ := ⟨_, rfl⟩
  rw [hN] at n0 n1 HP HZ HA
  have CL : Hid (∀ (z : Int), f ≤ z → z ≤ 1000 → ∀ W, Hid (SJ w f (.slice a l c) g (.slice b m d) W) → Calls Try.prog 79 #[.agg #[.int .i64 f, .slice a l c], .int .i64 z] W fun e w' => e = .returned (.int .i64 (lvs f xs z)) ∧ Below W.heap.size W w') :=
    Lib.hid (fun z z0 z1 W hW => lives_any f xs a l c z W (H.out.on hW.out.k2.low) f0 f1 z0 z1)
  have CM : Hid (∀ (z : Int), g ≤ z → z ≤ 1000 → ∀ W, Hid (SJ w f (.slice a l c) g (.slice b m d) W) → Calls Try.prog 79 #[.agg #[.int .i64 g, .slice b m d], .int .i64 z] W fun e w' => e = .returned (.int .i64 (lvs g ys z)) ∧ Below W.heap.size W w') :=
    Lib.hid (fun z z0 z1 W hW => lives_any g ys b m d z W (K.out.on hW.out.k2.low) g0 g1 z0 z1)
  clear h k hD hN
  go_enter Try.func45, Try.ntmps45
  go_wp2_with fail
  go_loopw [10] (fun i wr => ∃ (k : Nat) (v : Value), k ≤ N + 1 ∧ i = .int .i64 k ∧ Hid (Jg w f (.slice a l c) g (.slice b m d) x v (jtK f xs x g ys y k) wr)) (fun i _ => 200 - (intOf i).toNat)
  case atStart => exact ⟨0, _, by omega, rfl, HG0⟩
  case round =>
    clear HG0
    obtain ⟨k, v, hk, rfl, HG⟩ := hrel
    have hsj : SJ w f (.slice a l c) g (.slice b m d) wr := ⟨HG.out.k2, HG.out.rb, HG.out.size⟩
    have hob := HG.out.ob
    have hown := HG.out.own
    have hne := HG.out.ne
    have hv := hob.two.2
    have hv0 := hob.two.1
    have hf := hob.free 1
    have hr0 := HG.out.rb.two.1
    have hr1 := HG.out.rb.two.2
    have hg0 := HG.out.rb.free 0
    have hg1 := HG.out.rb.free 1
    have hsz := HG.out.size
    by_cases hlast : k = N + 1
    · obtain ⟨q, n, cc, rfl, hq, hn⟩ := own_sh3 hown (by rw [jtK_len]; omega)
      have hrow : RowI wr q 0 (jtK f xs x g ys y k) := by subst hn; exact hown.row
      have hcell := hrow.cell N (by rw [jtK_len]; omega)
      rw [jtK_get _ _ (by omega), HZ.out, Nat.zero_add] at hcell
      rw [jtK_len] at hn
      have hk0 : ((k : Int) == 0) = false := by simp; omega
      have q1 : IntKind.i64.wrap ((k : Int) - 1) = (N : Int) := by rw [show (k : Int) - 1 = (N : Int) by omega]; exact IntWalk.i64_in _ (by omega)
      have hNn : N < n := by omega
      have HPO := Lib.hid (HG.out.post (ys := jtL f xs x g ys y) (by rw [hlast]; exact HA.out) (by rw [jtK_len]; exact hn) (by omega) (by omega))
      clear hrow hown hob hsj hlast hn hk HG
      go_wp2_with fail
      exact bodyPost_ret (v := .agg #[.int .i64 x, .slice (some ⟨q, 0, none⟩) n cc]) (by simp [results, Try.results45, go_sem, hr0, hr1]) rfl HPO.out
    · have hkN : k ≤ N := by omega
      have HSUC := Lib.hid (jtK_succ (f := f) (xs := xs) (x := x) (g := g) (ys := ys) (y := y) k)
      have HLE : Hid ((jtK f xs x g ys y k).length ≤ 4096) := Lib.hid (by rw [jtK_len]; omega)
      have HJ : Hid (jv f xs x g ys y k = lvs f xs (x + k) * lvs g ys (y + k) / lvs g ys y) := Lib.hid rfl
      obtain ⟨a0, a1⟩ := HD.out.t.lvs_bd (x + k)
      obtain ⟨b0, b1⟩ := HD.out.u.lvs_bd (y + k)
      obtain ⟨d0, d1⟩ := HD.out.u.lvs_bd y
      have d2 := HD.out.uy
      obtain ⟨j0, j1⟩ := HD.out.jv_bd k
      have C1 := Lib.hid (CL.out (x + k) (by omega) (by omega))
      have C2 := Lib.hid (CM.out (y + k) (by omega) (by omega))
      have C3 := Lib.hid (CM.out y (by omega) (by omega))
      obtain ⟨V, hV⟩ : ∃ y_, jv f xs x g ys y k = y_ := ⟨_, rfl⟩
      obtain ⟨A, hA⟩ : ∃ y_, lvs f xs (x + k) = y_ := ⟨_, rfl⟩
      obtain ⟨B, hB⟩ : ∃ y_, lvs g ys (y + k) = y_ := ⟨_, rfl⟩
      obtain ⟨D, hD⟩ : ∃ y_, lvs g ys y = y_ := ⟨_, rfl⟩
      rw [hV] at HSUC HJ j0 j1
      rw [hA] at HJ a0 a1 C1 j1
      rw [hB] at HJ b0 b1 C2
      rw [hD] at HJ d0 d1 d2 C3
      clear hV hA hB hD
      have e0 : 0 ≤ A * B := Int.mul_nonneg a0 b0
      have e1 : A * B ≤ 1000000000000 := by
        have := Int.mul_le_mul a1 b1 b0 (show (0 : Int) ≤ 1000000 by omega); omega
      obtain ⟨P0, hP0⟩ : ∃ y_, A * B = y_ := ⟨_, rfl⟩
      rw [hP0] at HJ e0 e1
      have q1 : IntKind.i64.wrap (x + (k : Int)) = x + k := IntWalk.i64_in _ (by omega)
      have q2 : IntKind.i64.wrap (y + (k : Int)) = y + k := IntWalk.i64_in _ (by omega)
      have q3 : IntKind.i64.wrap (A * B) = P0 := by rw [hP0]; exact IntWalk.i64_in _ (by omega)
      have q4 : IntKind.i64.wrap (P0.tdiv D) = V := by rw [Int.tdiv_eq_ediv_of_nonneg e0, ← HJ.out]; exact IntWalk.i64_in _ (by omega)
      have q5 : 0 < D := by omega
      have q6 : ¬ D = 0 := by omega
      obtain ⟨zs, hzs⟩ : ∃ y_, jtK f xs x g ys y k = y_ := ⟨_, rfl⟩
      rw [hzs] at hown HSUC HLE
      have HNE := Lib.hid hne
      have hsz2 := hsz
      by_cases hz : k = 0
      · have hk0 : ((k : Int) == 0) = true := by simp; omega
        clear hz hzs hP0 hr0 hr1 hg0 hg1 hlast hv0 HG CL CM
        go_wp2_with fail
        have hown : OwnI (w.heap.size + 3) wr.drew v zs := hown
        have hob : Bx wr.drew (w.heap.size + 4) [.int .i64 x, v] := hob
        have hf : wr.drew.frozen? ⟨w.heap.size + 4, 1, none⟩ = false := hf
        have hsz : w.heap.size + 4 < wr.drew.heap.size := hsz
        refine wpTill_start (S := fun w' => w'.cell? ⟨w.heap.size, 0, none⟩ = some (.int .i64 f) ∧ w'.cell? ⟨w.heap.size, 1, none⟩ = some (.slice a l c) ∧ w'.cell? ⟨w.heap.size + 1, 0, none⟩ = some (.int .i64 g) ∧ w'.cell? ⟨w.heap.size + 1, 1, none⟩ = some (.slice b m d) ∧ w'.cell? ⟨w.heap.size + 1 + 1 + 1 + 1, 1, none⟩ = some v ∧ w.heap.size + 3 ≤ w'.heap.size ∧ Hid (SJ w f (.slice a l c) g (.slice b m d) w')) (L := 20) (by kernel_rfl) (sjS hsj.drew hob) (fun hHeld => ?_)
        refine wpTill_take (i := 0) (v := ?_) rfl (by kernel_rfl) (by kernel_rfl) (by kernel_rfl) (by kernel_rfl) (by kernel_rfl) (fun _ _ _ h => h) (Or.inl ⟨by rfl, ?_⟩) (by assumption) ?_
        rotate_left
        · (intro w hSw; (try dsimp only at hSw); go_simp; try with_reducible rfl)
        try simp only [Act.put, List.setIfInBounds_toArray, List.set_cons_zero, List.set_cons_succ]
        refine wpTill_take (i := 1) (v := ?_) rfl (by kernel_rfl) (by kernel_rfl) (by kernel_rfl) (by kernel_rfl) (by kernel_rfl) (fun _ _ _ h => h) (Or.inl ⟨by rfl, ?_⟩) (by assumption) ?_
        rotate_left
        · (intro w hSw; (try dsimp only at hSw); go_simp; try with_reducible rfl)
        try simp only [Act.put, List.setIfInBounds_toArray, List.set_cons_zero, List.set_cons_succ]
        refine wpTill_take (i := 2) (v := ?_) rfl (by kernel_rfl) (by kernel_rfl) (by kernel_rfl) (by kernel_rfl) (by kernel_rfl) (fun _ _ _ h => h) (Or.inl ⟨by rfl, ?_⟩) (by assumption) ?_
        rotate_left
        · (intro w hSw; (try dsimp only at hSw); go_simp; try with_reducible rfl)
        try simp only [Act.put, List.setIfInBounds_toArray, List.set_cons_zero, List.set_cons_succ]
        refine wpTill_take (i := 3) (v := ?_) rfl (by kernel_rfl) (by kernel_rfl) (by kernel_rfl) (by kernel_rfl) (by kernel_rfl) (fun _ _ _ h => h) (Or.inl ⟨by rfl, ?_⟩) (by assumption) ?_
        rotate_left
        · (intro w hSw; (try dsimp only at hSw); go_simp; try with_reducible rfl)
        try simp only [Act.put, List.setIfInBounds_toArray, List.set_cons_zero, List.set_cons_succ]
        refine wpTill_take (i := 4) (v := ?_) rfl (by kernel_rfl) (by kernel_rfl) (by kernel_rfl) (by kernel_rfl) (by kernel_rfl) (fun _ _ _ h => h) (Or.inl ⟨by rfl, ?_⟩) (by assumption) ?_
        rotate_left
        · (intro w hSw; (try dsimp only at hSw); go_simp; try with_reducible rfl)
        try simp only [Act.put, List.setIfInBounds_toArray, List.set_cons_zero, List.set_cons_succ]
        refine wpTill_take (i := 5) (v := ?_) rfl (by kernel_rfl) (by kernel_rfl) (by kernel_rfl) (by kernel_rfl) (by kernel_rfl) (fun _ _ _ h => h) (Or.inl ⟨by rfl, ?_⟩) (by assumption) ?_
        rotate_left
        · (intro w hSw; (try dsimp only at hSw); go_simp; try with_reducible rfl)
        try simp only [Act.put, List.setIfInBounds_toArray, List.set_cons_zero, List.set_cons_succ]
        refine wpTill_take (i := 7) (v := ?_) rfl (by kernel_rfl) (by kernel_rfl) (by kernel_rfl) (by kernel_rfl) (by kernel_rfl) (fun _ _ _ h => h) (Or.inl ⟨by rfl, ?_⟩) (by assumption) ?_
        rotate_left
        · (intro w hSw; (try dsimp only at hSw); go_simp; try with_reducible rfl)
        try simp only [Act.put, List.setIfInBounds_toArray, List.set_cons_zero, List.set_cons_succ]
        refine wpTill_take (i := 8) (v := ?_) rfl (by kernel_rfl) (by kernel_rfl) (by kernel_rfl) (by kernel_rfl) (by kernel_rfl) (fun _ _ _ h => h) (Or.inl ⟨by rfl, ?_⟩) (by assumption) ?_
        rotate_left
        · (intro w hSw; (try dsimp only at hSw); go_simp; try with_reducible rfl)
        try simp only [Act.put, List.setIfInBounds_toArray, List.set_cons_zero, List.set_cons_succ]
        refine wpTill_take (i := 9) (v := ?_) rfl (by kernel_rfl) (by kernel_rfl) (by kernel_rfl) (by kernel_rfl) (by kernel_rfl) (fun _ _ _ h => h) (Or.inl ⟨by rfl, ?_⟩) (by assumption) ?_
        rotate_left
        · (intro w hSw; (try dsimp only at hSw); go_simp; try with_reducible rfl)
        try simp only [Act.put, List.setIfInBounds_toArray, List.set_cons_zero, List.set_cons_succ]
        refine wpTill_take (i := 10) (v := ?_) rfl (by kernel_rfl) (by kernel_rfl) (by kernel_rfl) (by kernel_rfl) (by kernel_rfl) (fun _ _ _ h => h) (Or.inl ⟨by rfl, ?_⟩) (by assumption) ?_
        rotate_left
        · (intro w hSw; (try dsimp only at hSw); go_simp; try with_reducible rfl)
        try simp only [Act.put, List.setIfInBounds_toArray, List.set_cons_zero, List.set_cons_succ]
        refine wpTill_take (i := 13) (v := ?_) rfl (by kernel_rfl) (by kernel_rfl) (by kernel_rfl) (by kernel_rfl) (by kernel_rfl) (fun _ _ _ h => h) (Or.inl ⟨by rfl, ?_⟩) (by assumption) ?_
        rotate_left
        · (intro w hSw; (try dsimp only at hSw); go_simp; try with_reducible rfl)
        try simp only [Act.put, List.setIfInBounds_toArray, List.set_cons_zero, List.set_cons_succ]
        refine wpTill_take (i := 14) (v := ?_) rfl (by kernel_rfl) (by kernel_rfl) (by kernel_rfl) (by kernel_rfl) (by kernel_rfl) (fun _ _ _ h => h) (Or.inl ⟨by rfl, ?_⟩) (by assumption) ?_
        rotate_left
        · (intro w hSw; (try dsimp only at hSw); go_simp; try with_reducible rfl)
        try simp only [Act.put, List.setIfInBounds_toArray, List.set_cons_zero, List.set_cons_succ]
        refine wpTill_ready (rs := [6]) (by kernel_rfl) (by simp) ?_
        refine AllTill.cons (o := _) rfl (fun K hK => ?_) ?_
        · go_simp
          go_split_ands
          with_reducible refine (C1.out _ (by with_reducible assumption)).mono ?_
          rintro e w' ⟨rfl, hb⟩
          replace hown := OwnI.on hown hb
          replace hob := Bx.on hob hb
          replace hf := hob.free 1
          replace hsz := Nat.lt_of_lt_of_le hsz hb.size
          refine hK.out _ _ (fun _ => ?_) (fun hHeld => ?_)
          · exact sjS (SJ.on (Hid.out (by with_reducible assumption)) hb) hob
          have hHeld := hHeld (by decide)
          clear hK K
          try simp only [Act.put, List.setIfInBounds_toArray, List.set_cons_zero, List.set_cons_succ]
          refine wpTill_ready (rs := [11]) (by kernel_rfl) (by simp) ?_
          refine AllTill.cons (o := _) rfl (fun K hK => ?_) ?_
          · go_simp
            go_split_ands
            with_reducible refine (C2.out _ (by with_reducible assumption)).mono ?_
            rintro e w' ⟨rfl, hb⟩
            replace hown := OwnI.on hown hb
            replace hob := Bx.on hob hb
            replace hf := hob.free 1
            replace hsz := Nat.lt_of_lt_of_le hsz hb.size
            refine hK.out _ _ (fun _ => ?_) (fun hHeld => ?_)
            · exact sjS (SJ.on (Hid.out (by with_reducible assumption)) hb) hob
            have hHeld := hHeld (by decide)
            clear hK K
            try simp only [Act.put, List.setIfInBounds_toArray, List.set_cons_zero, List.set_cons_succ]
            refine wpTill_take (i := 12) (v := ?_) rfl (by kernel_rfl) (by kernel_rfl) (by kernel_rfl) (by kernel_rfl) (by kernel_rfl) (fun _ _ _ h => h) (Or.inl ⟨by rfl, ?_⟩) (by assumption) ?_
            rotate_left
            · (intro w hSw; (try dsimp only at hSw); go_simp; try with_reducible rfl)
            try simp only [Act.put, List.setIfInBounds_toArray, List.set_cons_zero, List.set_cons_succ]
            refine wpTill_ready (rs := [15]) (by kernel_rfl) (by simp) ?_
            refine AllTill.cons (o := _) rfl (fun K hK => ?_) ?_
            · go_simp
              go_split_ands
              with_reducible refine (C3.out _ (by with_reducible assumption)).mono ?_
              rintro e w' ⟨rfl, hb⟩
              replace hown := OwnI.on hown hb
              replace hob := Bx.on hob hb
              replace hf := hob.free 1
              replace hsz := Nat.lt_of_lt_of_le hsz hb.size
              refine hK.out _ _ (fun _ => ?_) (fun hHeld => ?_)
              · exact sjS (SJ.on (Hid.out (by with_reducible assumption)) hb) hob
              have hHeld := hHeld (by decide)
              clear hK K
              try simp only [Act.put, List.setIfInBounds_toArray, List.set_cons_zero, List.set_cons_succ]
              refine wpTill_take (i := 16) (v := ?_) rfl (by kernel_rfl) (by kernel_rfl) (by kernel_rfl) (by kernel_rfl) (by kernel_rfl) (fun _ _ _ h => h) (Or.inl ⟨by rfl, ?_⟩) (by assumption) ?_
              rotate_left
              · (intro w hSw; (try dsimp only at hSw); go_simp; try with_reducible rfl)
              try simp only [Act.put, List.setIfInBounds_toArray, List.set_cons_zero, List.set_cons_succ]
              refine wpTill_ready (rs := [17]) (by kernel_rfl) (by simp) ?_
              refine AllTill.cons (o := _) rfl (fun K hK => ?_) ?_
              · go_simp
                refine hK.out _ _ (fun _ => ?_) (fun hHeld => ?_)
                · exact sjS (SJ.on hHeld.2.2.2.2.2.2.out (box_b _ _)) (hob.on (box_b _ _))
                have hHeld := hHeld (by decide)
                clear hK K
                try simp only [Act.put, List.setIfInBounds_toArray, List.set_cons_zero, List.set_cons_succ]
                refine wpTill_ready (rs := [18]) (by kernel_rfl) (by simp) ?_
                refine AllTill.cons (o := _) rfl (fun K hK => ?_) ?_
                · refine step_apj (by rfl) _ _ (by rfl) (w.heap.size + 3) _ zs V (by rfl) (hown.same (fun k hk hl => Below.heap_alloc _ _ _ hl)) _ (by rfl) (one_newC _ V) HLE.out hHeld.2.2.2.2.2.1 ?_
                  intro v' w5 hown' hgrow hw
                  obtain ⟨q9, n9, c9, rfl, hq9, -⟩ := own_sh3 hown' (by simp)
                  have hne9 := own_ne HNE.out hsz hw
                  have hsj9 := SJ.app hHeld.2.2.2.2.2.2.out hgrow (fun k hk => (hown.lt k hk).1)
                  have hob9 := Bx.grown hob hgrow (Ne.symm HNE.out)
                  have hv9 := hob9.two.2
                  have hf9 := hob9.free 1
                  refine hK.out _ _ (fun _ => ?_) (fun hHeld => ?_)
                  · exact sjS hsj9 hob9
                  have hHeld := hHeld (by decide)
                  clear hK K
                  try simp only [Act.put, List.setIfInBounds_toArray, List.set_cons_zero, List.set_cons_succ]
                  refine wpTill_take (i := 19) (v := ?_) rfl (by kernel_rfl) (by kernel_rfl) (by kernel_rfl) (by kernel_rfl) (by kernel_rfl) (fun _ _ _ h => h) (Or.inl ⟨by rfl, ?_⟩) (by assumption) ?_
                  rotate_left
                  · (intro w hSw; (try dsimp only at hSw); go_simp; try with_reducible rfl)
                  try simp only [Act.put, List.setIfInBounds_toArray, List.set_cons_zero, List.set_cons_succ]
                  refine wpTill_ready (rs := [20]) (by kernel_rfl) (by simp) ?_
                  refine AllTill.cons (o := _) rfl (fun K hK => ?_) ?_
                  · go_simp
                    refine hK.out _ _ (fun h => absurd rfl h) (fun _ => ?_)
                    clear hK K
                    try simp only [Act.put, List.setIfInBounds_toArray, List.set_cons_zero, List.set_cons_succ]
                    refine wpTill_done (by kernel_rfl) ?_ _
                    have HG9 := Lib.hid (Jg.fin hsj9.k2 hsj9.rb hob9 hown' hne9 hsj9.size)
                    rw [← HSUC.out] at HG9
                    clear hsj9 hob9 hown' hgrow hw hv9 hf9 hown hob hf hHeld
                    go_wp2_with fail
                    go_roundw
                    case rel => exact ⟨k + 1, _, by omega, by go_num, HG9⟩
                    case measure => simp [intOf]; omega
                  exact AllTill.nil
                exact AllTill.nil
              exact AllTill.nil
            exact AllTill.nil
          exact AllTill.nil
        exact AllTill.nil
      · have hk0 : ((k : Int) == 0) = false := by simp; omega
        obtain ⟨q, n, cc, rfl, hq, hn⟩ := own_sh3 hown (by rw [← hzs, jtK_len]; omega)
        have hrow : RowI wr q 0 zs := by subst hn; exact hown.row
        have hl : zs.length = k := by rw [← hzs, jtK_len]
        obtain ⟨j, hj⟩ : ∃ j, k - 1 = j := ⟨_, rfl⟩
        have hcell := hrow.cell j (by omega)
        rw [← hzs, jtK_get _ _ (by omega), Nat.zero_add] at hcell
        have hu := HP.out j (by omega)
        obtain ⟨u, hu0⟩ : ∃ y_, jv f xs x g ys y j = y_ := ⟨_, rfl⟩
        rw [hu0] at hu hcell
        have q8 : IntKind.i64.wrap ((k : Int) - 1) = (j : Int) := by rw [show (k : Int) - 1 = (j : Int) by omega]; exact IntWalk.i64_in _ (by omega)
        have hjn : j < n := by omega
        have hu1 : 0 < u := by omega
        clear hz hzs hP0 hr0 hr1 hg0 hg1 hlast hv0 HG CL CM hrow hl hj hu0 hn hu
        go_wp2_with fail
        have hown : OwnI (w.heap.size + 3) wr.drew (.slice (some ⟨q, 0, none⟩) n cc) zs := hown
        have hob : Bx wr.drew (w.heap.size + 4) [.int .i64 x, (.slice (some ⟨q, 0, none⟩) n cc)] := hob
        have hf : wr.drew.frozen? ⟨w.heap.size + 4, 1, none⟩ = false := hf
        have hsz : w.heap.size + 4 < wr.drew.heap.size := hsz
        refine wpTill_start (S := fun w' => w'.cell? ⟨w.heap.size, 0, none⟩ = some (.int .i64 f) ∧ w'.cell? ⟨w.heap.size, 1, none⟩ = some (.slice a l c) ∧ w'.cell? ⟨w.heap.size + 1, 0, none⟩ = some (.int .i64 g) ∧ w'.cell? ⟨w.heap.size + 1, 1, none⟩ = some (.slice b m d) ∧ w'.cell? ⟨w.heap.size + 1 + 1 + 1 + 1, 1, none⟩ = some (.slice (some ⟨q, 0, none⟩) n cc) ∧ w.heap.size + 3 ≤ w'.heap.size ∧ Hid (SJ w f (.slice a l c) g (.slice b m d) w')) (L := 20) (by kernel_rfl) (sjS hsj.drew hob) (fun hHeld => ?_)
        refine wpTill_take (i := 0) (v := ?_) rfl (by kernel_rfl) (by kernel_rfl) (by kernel_rfl) (by kernel_rfl) (by kernel_rfl) (fun _ _ _ h => h) (Or.inl ⟨by rfl, ?_⟩) (by assumption) ?_
        rotate_left
        · (intro w hSw; (try dsimp only at hSw); go_simp; try with_reducible rfl)
        try simp only [Act.put, List.setIfInBounds_toArray, List.set_cons_zero, List.set_cons_succ]
        refine wpTill_take (i := 1) (v := ?_) rfl (by kernel_rfl) (by kernel_rfl) (by kernel_rfl) (by kernel_rfl) (by kernel_rfl) (fun _ _ _ h => h) (Or.inl ⟨by rfl, ?_⟩) (by assumption) ?_
        rotate_left
        · (intro w hSw; (try dsimp only at hSw); go_simp; try with_reducible rfl)
        try simp only [Act.put, List.setIfInBounds_toArray, List.set_cons_zero, List.set_cons_succ]
        refine wpTill_take (i := 2) (v := ?_) rfl (by kernel_rfl) (by kernel_rfl) (by kernel_rfl) (by kernel_rfl) (by kernel_rfl) (fun _ _ _ h => h) (Or.inl ⟨by rfl, ?_⟩) (by assumption) ?_
        rotate_left
        · (intro w hSw; (try dsimp only at hSw); go_simp; try with_reducible rfl)
        try simp only [Act.put, List.setIfInBounds_toArray, List.set_cons_zero, List.set_cons_succ]
        refine wpTill_take (i := 3) (v := ?_) rfl (by kernel_rfl) (by kernel_rfl) (by kernel_rfl) (by kernel_rfl) (by kernel_rfl) (fun _ _ _ h => h) (Or.inl ⟨by rfl, ?_⟩) (by assumption) ?_
        rotate_left
        · (intro w hSw; (try dsimp only at hSw); go_simp; try with_reducible rfl)
        try simp only [Act.put, List.setIfInBounds_toArray, List.set_cons_zero, List.set_cons_succ]
        refine wpTill_take (i := 4) (v := ?_) rfl (by kernel_rfl) (by kernel_rfl) (by kernel_rfl) (by kernel_rfl) (by kernel_rfl) (fun _ _ _ h => h) (Or.inl ⟨by rfl, ?_⟩) (by assumption) ?_
        rotate_left
        · (intro w hSw; (try dsimp only at hSw); go_simp; try with_reducible rfl)
        try simp only [Act.put, List.setIfInBounds_toArray, List.set_cons_zero, List.set_cons_succ]
        refine wpTill_take (i := 5) (v := ?_) rfl (by kernel_rfl) (by kernel_rfl) (by kernel_rfl) (by kernel_rfl) (by kernel_rfl) (fun _ _ _ h => h) (Or.inl ⟨by rfl, ?_⟩) (by assumption) ?_
        rotate_left
        · (intro w hSw; (try dsimp only at hSw); go_simp; try with_reducible rfl)
        try simp only [Act.put, List.setIfInBounds_toArray, List.set_cons_zero, List.set_cons_succ]
        refine wpTill_take (i := 7) (v := ?_) rfl (by kernel_rfl) (by kernel_rfl) (by kernel_rfl) (by kernel_rfl) (by kernel_rfl) (fun _ _ _ h => h) (Or.inl ⟨by rfl, ?_⟩) (by assumption) ?_
        rotate_left
        · (intro w hSw; (try dsimp only at hSw); go_simp; try with_reducible rfl)
        try simp only [Act.put, List.setIfInBounds_toArray, List.set_cons_zero, List.set_cons_succ]
        refine wpTill_take (i := 8) (v := ?_) rfl (by kernel_rfl) (by kernel_rfl) (by kernel_rfl) (by kernel_rfl) (by kernel_rfl) (fun _ _ _ h => h) (Or.inl ⟨by rfl, ?_⟩) (by assumption) ?_
        rotate_left
        · (intro w hSw; (try dsimp only at hSw); go_simp; try with_reducible rfl)
        try simp only [Act.put, List.setIfInBounds_toArray, List.set_cons_zero, List.set_cons_succ]
        refine wpTill_take (i := 9) (v := ?_) rfl (by kernel_rfl) (by kernel_rfl) (by kernel_rfl) (by kernel_rfl) (by kernel_rfl) (fun _ _ _ h => h) (Or.inl ⟨by rfl, ?_⟩) (by assumption) ?_
        rotate_left
        · (intro w hSw; (try dsimp only at hSw); go_simp; try with_reducible rfl)
        try simp only [Act.put, List.setIfInBounds_toArray, List.set_cons_zero, List.set_cons_succ]
        refine wpTill_take (i := 10) (v := ?_) rfl (by kernel_rfl) (by kernel_rfl) (by kernel_rfl) (by kernel_rfl) (by kernel_rfl) (fun _ _ _ h => h) (Or.inl ⟨by rfl, ?_⟩) (by assumption) ?_
        rotate_left
        · (intro w hSw; (try dsimp only at hSw); go_simp; try with_reducible rfl)
        try simp only [Act.put, List.setIfInBounds_toArray, List.set_cons_zero, List.set_cons_succ]
        refine wpTill_take (i := 13) (v := ?_) rfl (by kernel_rfl) (by kernel_rfl) (by kernel_rfl) (by kernel_rfl) (by kernel_rfl) (fun _ _ _ h => h) (Or.inl ⟨by rfl, ?_⟩) (by assumption) ?_
        rotate_left
        · (intro w hSw; (try dsimp only at hSw); go_simp; try with_reducible rfl)
        try simp only [Act.put, List.setIfInBounds_toArray, List.set_cons_zero, List.set_cons_succ]
        refine wpTill_take (i := 14) (v := ?_) rfl (by kernel_rfl) (by kernel_rfl) (by kernel_rfl) (by kernel_rfl) (by kernel_rfl) (fun _ _ _ h => h) (Or.inl ⟨by rfl, ?_⟩) (by assumption) ?_
        rotate_left
        · (intro w hSw; (try dsimp only at hSw); go_simp; try with_reducible rfl)
        try simp only [Act.put, List.setIfInBounds_toArray, List.set_cons_zero, List.set_cons_succ]
        refine wpTill_ready (rs := [6]) (by kernel_rfl) (by simp) ?_
        refine AllTill.cons (o := _) rfl (fun K hK => ?_) ?_
        · go_simp
          go_split_ands
          with_reducible refine (C1.out _ (by with_reducible assumption)).mono ?_
          rintro e w' ⟨rfl, hb⟩
          replace hown := OwnI.on hown hb
          replace hob := Bx.on hob hb
          replace hf := hob.free 1
          replace hsz := Nat.lt_of_lt_of_le hsz hb.size
          refine hK.out _ _ (fun _ => ?_) (fun hHeld => ?_)
          · exact sjS (SJ.on (Hid.out (by with_reducible assumption)) hb) hob
          have hHeld := hHeld (by decide)
          clear hK K
          try simp only [Act.put, List.setIfInBounds_toArray, List.set_cons_zero, List.set_cons_succ]
          refine wpTill_ready (rs := [11]) (by kernel_rfl) (by simp) ?_
          refine AllTill.cons (o := _) rfl (fun K hK => ?_) ?_
          · go_simp
            go_split_ands
            with_reducible refine (C2.out _ (by with_reducible assumption)).mono ?_
            rintro e w' ⟨rfl, hb⟩
            replace hown := OwnI.on hown hb
            replace hob := Bx.on hob hb
            replace hf := hob.free 1
            replace hsz := Nat.lt_of_lt_of_le hsz hb.size
            refine hK.out _ _ (fun _ => ?_) (fun hHeld => ?_)
            · exact sjS (SJ.on (Hid.out (by with_reducible assumption)) hb) hob
            have hHeld := hHeld (by decide)
            clear hK K
            try simp only [Act.put, List.setIfInBounds_toArray, List.set_cons_zero, List.set_cons_succ]
            refine wpTill_take (i := 12) (v := ?_) rfl (by kernel_rfl) (by kernel_rfl) (by kernel_rfl) (by kernel_rfl) (by kernel_rfl) (fun _ _ _ h => h) (Or.inl ⟨by rfl, ?_⟩) (by assumption) ?_
            rotate_left
            · (intro w hSw; (try dsimp only at hSw); go_simp; try with_reducible rfl)
            try simp only [Act.put, List.setIfInBounds_toArray, List.set_cons_zero, List.set_cons_succ]
            refine wpTill_ready (rs := [15]) (by kernel_rfl) (by simp) ?_
            refine AllTill.cons (o := _) rfl (fun K hK => ?_) ?_
            · go_simp
              go_split_ands
              with_reducible refine (C3.out _ (by with_reducible assumption)).mono ?_
              rintro e w' ⟨rfl, hb⟩
              replace hown := OwnI.on hown hb
              replace hob := Bx.on hob hb
              replace hf := hob.free 1
              replace hsz := Nat.lt_of_lt_of_le hsz hb.size
              refine hK.out _ _ (fun _ => ?_) (fun hHeld => ?_)
              · exact sjS (SJ.on (Hid.out (by with_reducible assumption)) hb) hob
              have hHeld := hHeld (by decide)
              clear hK K
              try simp only [Act.put, List.setIfInBounds_toArray, List.set_cons_zero, List.set_cons_succ]
              refine wpTill_take (i := 16) (v := ?_) rfl (by kernel_rfl) (by kernel_rfl) (by kernel_rfl) (by kernel_rfl) (by kernel_rfl) (fun _ _ _ h => h) (Or.inl ⟨by rfl, ?_⟩) (by assumption) ?_
              rotate_left
              · (intro w hSw; (try dsimp only at hSw); go_simp; try with_reducible rfl)
              try simp only [Act.put, List.setIfInBounds_toArray, List.set_cons_zero, List.set_cons_succ]
              refine wpTill_ready (rs := [17]) (by kernel_rfl) (by simp) ?_
              refine AllTill.cons (o := _) rfl (fun K hK => ?_) ?_
              · go_simp
                refine hK.out _ _ (fun _ => ?_) (fun hHeld => ?_)
                · exact sjS (SJ.on hHeld.2.2.2.2.2.2.out (box_b _ _)) (hob.on (box_b _ _))
                have hHeld := hHeld (by decide)
                clear hK K
                try simp only [Act.put, List.setIfInBounds_toArray, List.set_cons_zero, List.set_cons_succ]
                refine wpTill_ready (rs := [18]) (by kernel_rfl) (by simp) ?_
                refine AllTill.cons (o := _) rfl (fun K hK => ?_) ?_
                · refine step_apj (by rfl) _ _ (by rfl) (w.heap.size + 3) _ zs V (by rfl) (hown.same (fun k hk hl => Below.heap_alloc _ _ _ hl)) _ (by rfl) (one_newC _ V) HLE.out hHeld.2.2.2.2.2.1 ?_
                  intro v' w5 hown' hgrow hw
                  obtain ⟨q9, n9, c9, rfl, hq9, -⟩ := own_sh3 hown' (by simp)
                  have hne9 := own_ne HNE.out hsz hw
                  have hsj9 := SJ.app hHeld.2.2.2.2.2.2.out hgrow (fun k hk => (hown.lt k hk).1)
                  have hob9 := Bx.grown hob hgrow (Ne.symm HNE.out)
                  have hv9 := hob9.two.2
                  have hf9 := hob9.free 1
                  refine hK.out _ _ (fun _ => ?_) (fun hHeld => ?_)
                  · exact sjS hsj9 hob9
                  have hHeld := hHeld (by decide)
                  clear hK K
                  try simp only [Act.put, List.setIfInBounds_toArray, List.set_cons_zero, List.set_cons_succ]
                  refine wpTill_take (i := 19) (v := ?_) rfl (by kernel_rfl) (by kernel_rfl) (by kernel_rfl) (by kernel_rfl) (by kernel_rfl) (fun _ _ _ h => h) (Or.inl ⟨by rfl, ?_⟩) (by assumption) ?_
                  rotate_left
                  · (intro w hSw; (try dsimp only at hSw); go_simp; try with_reducible rfl)
                  try simp only [Act.put, List.setIfInBounds_toArray, List.set_cons_zero, List.set_cons_succ]
                  refine wpTill_ready (rs := [20]) (by kernel_rfl) (by simp) ?_
                  refine AllTill.cons (o := _) rfl (fun K hK => ?_) ?_
                  · go_simp
                    refine hK.out _ _ (fun h => absurd rfl h) (fun _ => ?_)
                    clear hK K
                    try simp only [Act.put, List.setIfInBounds_toArray, List.set_cons_zero, List.set_cons_succ]
                    refine wpTill_done (by kernel_rfl) ?_ _
                    have HG9 := Lib.hid (Jg.fin hsj9.k2 hsj9.rb hob9 hown' hne9 hsj9.size)
                    rw [← HSUC.out] at HG9
                    clear hsj9 hob9 hown' hgrow hw hv9 hf9 hown hob hf hHeld
                    go_wp2_with fail
                    go_roundw
                    case rel => exact ⟨k + 1, _, by omega, by go_num, HG9⟩
                    case measure => simp [intOf]; omega
                  exact AllTill.nil
                exact AllTill.nil
              exact AllTill.nil
            exact AllTill.nil
          exact AllTill.nil
        exact AllTill.nil

end Go.Proofs.Ytlcmgihaelgclaa
