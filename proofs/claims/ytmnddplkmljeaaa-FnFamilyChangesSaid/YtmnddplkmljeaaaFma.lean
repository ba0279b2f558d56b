/- Families: the program: valid families. (Written by wip/gen/fma.py.) -/
import Derived.Test.YtmnddplkmljeaaaFms
import Derived.Test.YtmnddplkmljeaaaFmb
namespace Go.Proofs.Ytmnddplkmljeaaa
open Go.ChangeShapes Go.WideShapes Go.ChangeAt Go.RowKit
set_option linter.unusedVariables false
set_option linter.unusedSimpArgs false
set_option maxRecDepth 100000

theorem imn_any (n : Int) (w : World) : Calls Try.prog 88 #[.int .i64 n] w fun e w' => e = .returned (.bool (opB n)) ∧ w = w' := by
  by_cases h : n = -1
  · have h1 : (n == -1) = true := by simpa using h
    have HR : Hid (opB n = true) := Lib.hid (by unfold opB; simp [h])
    clear h
    go_enter Try.func88, Try.ntmps88
    go_wp2_with (go_at_call 74; refine (mvalid_any _ _).mono ?_; rintro e w' ⟨rfl, rfl⟩)
    go_ret
    exact ⟨ret_bool HR.out.symm, rfl⟩
  · have h1 : (n == -1) = false := by simpa using h
    have HR : Hid (opB n = mthB n) := Lib.hid (by unfold opB; simp [h])
    clear h
    go_enter Try.func88, Try.ntmps88
    go_wp2_with (go_at_call 74; refine (mvalid_any _ _).mono ?_; rintro e w' ⟨rfl, rfl⟩)
    go_ret
    exact ⟨ret_bool HR.out.symm, rfl⟩

theorem iad_any (d m v l : Int) (ch : List Int) (a : Option Addr) (n c : Nat) (w : World) (h0 : 0 ≤ d) (h1 : d ≤ 35999) : Calls Try.prog 95 #[.agg #[.int .i64 d, .int .i64 m, .int .i64 v, .int .i64 l, .slice a n c]] w fun e w' => e = .returned (.int .i64 (d + 1)) ∧ Below w.heap.size w w' := by
  have q1 : IntKind.i64.wrap (d + 1) = d + 1 := IntWalk.i64_in _ (by omega)
  go_enter Try.func95, Try.ntmps95
  go_wp2_with fail
  go_ret
  exact ⟨rfl, box_b _ _⟩

/-- the claim that a family tells -/
def clB (d m v l : Int) : Bool := decide ((v = -1 ∧ l = -1) ∨ (v ≠ -1 ∧ m ≠ -1 ∧ m ≤ d ∧ v = d + 1 ∧ (l = -1 ∨ v ≤ l)))

set_option maxHeartbeats 1000000 in
theorem icl_any (d m v l : Int) (ch : List Int) (a : Option Addr) (n c : Nat) (w : World) (h : Ints w a n ch) (h0 : 0 ≤ d) (h1 : d ≤ 35999) : Calls Try.prog 89 #[.agg #[.int .i64 d, .int .i64 m, .int .i64 v, .int .i64 l, .slice a n c]] w fun e w' => e = .returned (.bool (clB d m v l)) ∧ Below w.heap.size w w' := by
  have HB := Lib.hid (FB.new w d m v l (c := c) h)
  have CA : Hid (∀ W, Hid (FB w d m v l a n c ch W) → Calls Try.prog 95 #[.agg #[.int .i64 d, .int .i64 m, .int .i64 v, .int .i64 l, .slice a n c]] W fun e w' => e = .returned (.int .i64 (d + 1)) ∧ Below W.heap.size W w') := Lib.hid (fun W hW => iad_any d m v l ch a n c W h0 h1)
  clear h
  obtain ⟨f0, f1, f2, f3, f4, -⟩ := fbS HB.out
  rcases Classical.em (v = -1) with e1 | e1
  · have b1 : (v == -1) = true := by simpa using e1
    rcases Classical.em (l = -1) with e2 | e2
    · have b2 : (l == -1) = true := by simpa using e2
      have HR : Hid (clB d m v l = true) := Lib.hid (by unfold clB; simp; omega)
      clear h0 h1 e1 e2
      go_enter Try.func89, Try.ntmps89
      go_wp2_with fail
      go_ret
      exact ⟨ret_bool HR.out.symm, HB.out.low⟩
    · have b2 : (l == -1) = false := by simpa using e2
      have HR : Hid (clB d m v l = false) := Lib.hid (by unfold clB; simp; omega)
      clear h0 h1 e1 e2
      go_enter Try.func89, Try.ntmps89
      go_wp2_with fail
      go_ret
      exact ⟨ret_bool HR.out.symm, HB.out.low⟩
  · have b1 : (v == -1) = false := by simpa using e1
    rcases Classical.em (m = -1) with e2 | e2
    · have b2 : (m == -1) = true := by simpa using e2
      have HR : Hid (clB d m v l = false) := Lib.hid (by unfold clB; simp; omega)
      clear h0 h1 e1 e2
      go_enter Try.func89, Try.ntmps89
      go_wp2_with fail
      go_ret
      exact ⟨ret_bool HR.out.symm, HB.out.low⟩
    · have b2 : (m == -1) = false := by simpa using e2
      rcases Classical.em (m ≤ d) with e3 | e3
      · have b3 : ¬ d < m := by omega
        rcases Classical.em (v = d + 1) with e4 | e4
        · have b4 : (v == d + 1) = true := by simpa using e4
          rcases Classical.em (l = -1) with e5 | e5
          · have b5 : (l == -1) = true := by simpa using e5
            have HR : Hid (clB d m v l = true) := Lib.hid (by unfold clB; simp; omega)
            clear h0 h1 e1 e2 e4 e5
            go_enter Try.func89, Try.ntmps89
            go_wp2_with fail
            have HBd := Lib.hid (FB.drew HB.out)
            refine wp_region_held_drew (S := (fun W9 => W9.cell? ⟨w.heap.size, 0, none⟩ = some (.int .i64 d) ∧ W9.cell? ⟨w.heap.size, 1, none⟩ = some (.int .i64 m) ∧ W9.cell? ⟨w.heap.size, 2, none⟩ = some (.int .i64 v) ∧ W9.cell? ⟨w.heap.size, 3, none⟩ = some (.int .i64 l) ∧ W9.cell? ⟨w.heap.size, 4, none⟩ = some (.slice a n c) ∧ Hid (FB w d m v l a n c ch W9))) (by kernel_rfl) (fbS HBd.out) (fun hHeld => ?_)
            refine wpAnyH_take (i := 0) (v := ?_) rfl (by kernel_rfl) (by kernel_rfl) (by kernel_rfl) (fun _ _ _ h => h) (Or.inl ⟨by kernel_rfl, ?_⟩) (by assumption) ?_
            rotate_left
            · (intro w hSw; (try dsimp only at hSw); go_split_ands; go_simp; try with_reducible rfl)
            try simp only [Act.put, List.setIfInBounds_toArray, List.set_cons_zero, List.set_cons_succ]
            refine wpAnyH_take (i := 1) (v := ?_) rfl (by kernel_rfl) (by kernel_rfl) (by kernel_rfl) (fun _ _ _ h => h) (Or.inl ⟨by kernel_rfl, ?_⟩) (by assumption) ?_
            rotate_left
            · (intro w hSw; (try dsimp only at hSw); go_split_ands; go_simp; try with_reducible rfl)
            try simp only [Act.put, List.setIfInBounds_toArray, List.set_cons_zero, List.set_cons_succ]
            refine wpAnyH_take (i := 2) (v := ?_) rfl (by kernel_rfl) (by kernel_rfl) (by kernel_rfl) (fun _ _ _ h => h) (Or.inl ⟨by kernel_rfl, ?_⟩) (by assumption) ?_
            rotate_left
            · (intro w hSw; (try dsimp only at hSw); go_split_ands; go_simp; try with_reducible rfl)
            try simp only [Act.put, List.setIfInBounds_toArray, List.set_cons_zero, List.set_cons_succ]
            refine wpAnyH_ready (rs := [3]) (by kernel_rfl) (by simp) ?_
            refine AllReadyH.cons (o := _) rfl (fun K hK => ?_) AllReadyH.nil
            try simp only [List.getElem_toArray, List.getElem_cons_succ, List.getElem_cons_zero]
            go_simp
            with_reducible refine (CA.out _ HBd).mono ?_
            rintro e w3 ⟨rfl, hb⟩
            have HBd := Lib.hid (FB.on HBd.out hb)
            clear hb
            refine hK.out _ _ ?_ (fun hHeld => ?_)
            · exact fbS HBd.out
            clear hK K
            try simp only [Act.put, List.setIfInBounds_toArray, List.set_cons_zero, List.set_cons_succ]
            refine wpAnyH_take (i := 4) (v := ?_) rfl (by kernel_rfl) (by kernel_rfl) (by kernel_rfl) (fun _ _ _ h => h) (Or.inl ⟨by kernel_rfl, ?_⟩) (by assumption) ?_
            rotate_left
            · (intro w hSw; (try dsimp only at hSw); go_split_ands; go_simp; try with_reducible rfl)
            try simp only [Act.put, List.setIfInBounds_toArray, List.set_cons_zero, List.set_cons_succ]
            refine wpAnyH_take (i := 5) (v := ?_) rfl (by kernel_rfl) (by kernel_rfl) (by kernel_rfl) (fun _ _ _ h => h) (Or.inl ⟨by kernel_rfl, ?_⟩) (by assumption) ?_
            rotate_left
            · (intro w hSw; (try dsimp only at hSw); go_split_ands; go_simp; try with_reducible rfl)
            try simp only [Act.put, List.setIfInBounds_toArray, List.set_cons_zero, List.set_cons_succ]
            refine wpAnyH_take (i := 6) (v := ?_) rfl (by kernel_rfl) (by kernel_rfl) (by kernel_rfl) (fun _ _ _ h => h) (Or.inl ⟨by kernel_rfl, ?_⟩) (by assumption) ?_
            rotate_left
            · (intro w hSw; (try dsimp only at hSw); go_split_ands; go_simp; try with_reducible rfl)
            try simp only [Act.put, List.setIfInBounds_toArray, List.set_cons_zero, List.set_cons_succ]
            refine wpAnyH_take (i := 7) (v := ?_) rfl (by kernel_rfl) (by kernel_rfl) (by kernel_rfl) (fun _ _ _ h => h) (Or.inl ⟨by kernel_rfl, ?_⟩) (by assumption) ?_
            rotate_left
            · (intro w hSw; (try dsimp only at hSw); go_split_ands; go_simp; try with_reducible rfl)
            try simp only [Act.put, List.setIfInBounds_toArray, List.set_cons_zero, List.set_cons_succ]
            refine wpAnyH_take (i := 8) (v := ?_) rfl (by kernel_rfl) (by kernel_rfl) (by kernel_rfl) (fun _ _ _ h => h) (Or.inl ⟨by kernel_rfl, ?_⟩) (by assumption) ?_
            rotate_left
            · (intro w hSw; (try dsimp only at hSw); go_split_ands; go_simp; try with_reducible rfl)
            try simp only [Act.put, List.setIfInBounds_toArray, List.set_cons_zero, List.set_cons_succ]
            refine wpAnyH_take (i := 9) (v := ?_) rfl (by kernel_rfl) (by kernel_rfl) (by kernel_rfl) (fun _ _ _ h => h) (Or.inl ⟨by kernel_rfl, ?_⟩) (by assumption) ?_
            rotate_left
            · (intro w hSw; (try dsimp only at hSw); go_split_ands; go_simp; try with_reducible rfl)
            try simp only [Act.put, List.setIfInBounds_toArray, List.set_cons_zero, List.set_cons_succ]
            refine wpAnyH_take (i := 10) (v := undef) rfl (by kernel_rfl) (by kernel_rfl) (by kernel_rfl) (fun _ _ _ h => h) (Or.inr ⟨by kernel_rfl, rfl⟩) (by assumption) ?_
            try simp only [Act.put, List.setIfInBounds_toArray, List.set_cons_zero, List.set_cons_succ]
            refine wpAnyH_take (i := 11) (v := undef) rfl (by kernel_rfl) (by kernel_rfl) (by kernel_rfl) (fun _ _ _ h => h) (Or.inr ⟨by kernel_rfl, rfl⟩) (by assumption) ?_
            try simp only [Act.put, List.setIfInBounds_toArray, List.set_cons_zero, List.set_cons_succ]
            refine wpAnyH_take (i := 12) (v := undef) rfl (by kernel_rfl) (by kernel_rfl) (by kernel_rfl) (fun _ _ _ h => h) (Or.inr ⟨by kernel_rfl, rfl⟩) (by assumption) ?_
            try simp only [Act.put, List.setIfInBounds_toArray, List.set_cons_zero, List.set_cons_succ]
            refine wpAnyH_take (i := 13) (v := undef) rfl (by kernel_rfl) (by kernel_rfl) (by kernel_rfl) (fun _ _ _ h => h) (Or.inr ⟨by kernel_rfl, rfl⟩) (by assumption) ?_
            try simp only [Act.put, List.setIfInBounds_toArray, List.set_cons_zero, List.set_cons_succ]
            refine wpAnyH_take (i := 14) (v := undef) rfl (by kernel_rfl) (by kernel_rfl) (by kernel_rfl) (fun _ _ _ h => h) (Or.inr ⟨by kernel_rfl, rfl⟩) (by assumption) ?_
            try simp only [Act.put, List.setIfInBounds_toArray, List.set_cons_zero, List.set_cons_succ]
            refine wpAnyH_take (i := 15) (v := ?_) rfl (by kernel_rfl) (by kernel_rfl) (by kernel_rfl) (fun _ _ _ h => h) (Or.inl ⟨by kernel_rfl, ?_⟩) (by assumption) ?_
            rotate_left
            · (intro w hSw; (try dsimp only at hSw); go_split_ands; go_simp; try with_reducible rfl)
            try simp only [Act.put, List.setIfInBounds_toArray, List.set_cons_zero, List.set_cons_succ]
            refine wpAnyH_take (i := 16) (v := ?_) rfl (by kernel_rfl) (by kernel_rfl) (by kernel_rfl) (fun _ _ _ h => h) (Or.inl ⟨by kernel_rfl, ?_⟩) (by assumption) ?_
            rotate_left
            · (intro w hSw; (try dsimp only at hSw); go_split_ands; go_simp; try with_reducible rfl)
            try simp only [Act.put, List.setIfInBounds_toArray, List.set_cons_zero, List.set_cons_succ]
            refine wpAnyH_take (i := 17) (v := ?_) rfl (by kernel_rfl) (by kernel_rfl) (by kernel_rfl) (fun _ _ _ h => h) (Or.inl ⟨by kernel_rfl, ?_⟩) (by assumption) ?_
            rotate_left
            · (intro w hSw; (try dsimp only at hSw); go_split_ands; go_simp; try with_reducible rfl)
            try simp only [Act.put, List.setIfInBounds_toArray, List.set_cons_zero, List.set_cons_succ]
            refine wpAnyH_done (by kernel_rfl) ?_ _
            try simp only [List.getElem_toArray, List.getElem_cons_succ, List.getElem_cons_zero, List.setIfInBounds_toArray, List.set_cons_zero, List.set_cons_succ]
            go_wp2_with fail
            go_ret
            exact ⟨ret_bool (by first | (rw [HR.out]; done) | (rw [HR.out]; simp; omega)), HBd.out.low⟩
          · have b5 : (l == -1) = false := by simpa using e5
            rcases Classical.em (v ≤ l) with e6 | e6
            · have HR : Hid (clB d m v l = true) := Lib.hid (by unfold clB; simp; omega)
              clear h0 h1 e1 e2 e4 e5
              go_enter Try.func89, Try.ntmps89
              go_wp2_with fail
              have HBd := Lib.hid (FB.drew HB.out)
              refine wp_region_held_drew (S := (fun W9 => W9.cell? ⟨w.heap.size, 0, none⟩ = some (.int .i64 d) ∧ W9.cell? ⟨w.heap.size, 1, none⟩ = some (.int .i64 m) ∧ W9.cell? ⟨w.heap.size, 2, none⟩ = some (.int .i64 v) ∧ W9.cell? ⟨w.heap.size, 3, none⟩ = some (.int .i64 l) ∧ W9.cell? ⟨w.heap.size, 4, none⟩ = some (.slice a n c) ∧ Hid (FB w d m v l a n c ch W9))) (by kernel_rfl) (fbS HBd.out) (fun hHeld => ?_)
              refine wpAnyH_take (i := 0) (v := ?_) rfl (by kernel_rfl) (by kernel_rfl) (by kernel_rfl) (fun _ _ _ h => h) (Or.inl ⟨by kernel_rfl, ?_⟩) (by assumption) ?_
              rotate_left
              · (intro w hSw; (try dsimp only at hSw); go_split_ands; go_simp; try with_reducible rfl)
              try simp only [Act.put, List.setIfInBounds_toArray, List.set_cons_zero, List.set_cons_succ]
              refine wpAnyH_take (i := 1) (v := ?_) rfl (by kernel_rfl) (by kernel_rfl) (by kernel_rfl) (fun _ _ _ h => h) (Or.inl ⟨by kernel_rfl, ?_⟩) (by assumption) ?_
              rotate_left
              · (intro w hSw; (try dsimp only at hSw); go_split_ands; go_simp; try with_reducible rfl)
              try simp only [Act.put, List.setIfInBounds_toArray, List.set_cons_zero, List.set_cons_succ]
              refine wpAnyH_take (i := 2) (v := ?_) rfl (by kernel_rfl) (by kernel_rfl) (by kernel_rfl) (fun _ _ _ h => h) (Or.inl ⟨by kernel_rfl, ?_⟩) (by assumption) ?_
              rotate_left
              · (intro w hSw; (try dsimp only at hSw); go_split_ands; go_simp; try with_reducible rfl)
              try simp only [Act.put, List.setIfInBounds_toArray, List.set_cons_zero, List.set_cons_succ]
              refine wpAnyH_ready (rs := [3]) (by kernel_rfl) (by simp) ?_
              refine AllReadyH.cons (o := _) rfl (fun K hK => ?_) AllReadyH.nil
              try simp only [List.getElem_toArray, List.getElem_cons_succ, List.getElem_cons_zero]
              go_simp
              with_reducible refine (CA.out _ HBd).mono ?_
              rintro e w3 ⟨rfl, hb⟩
              have HBd := Lib.hid (FB.on HBd.out hb)
              clear hb
              refine hK.out _ _ ?_ (fun hHeld => ?_)
              · exact fbS HBd.out
              clear hK K
              try simp only [Act.put, List.setIfInBounds_toArray, List.set_cons_zero, List.set_cons_succ]
              refine wpAnyH_take (i := 4) (v := ?_) rfl (by kernel_rfl) (by kernel_rfl) (by kernel_rfl) (fun _ _ _ h => h) (Or.inl ⟨by kernel_rfl, ?_⟩) (by assumption) ?_
              rotate_left
              · (intro w hSw; (try dsimp only at hSw); go_split_ands; go_simp; try with_reducible rfl)
              try simp only [Act.put, List.setIfInBounds_toArray, List.set_cons_zero, List.set_cons_succ]
              refine wpAnyH_take (i := 5) (v := ?_) rfl (by kernel_rfl) (by kernel_rfl) (by kernel_rfl) (fun _ _ _ h => h) (Or.inl ⟨by kernel_rfl, ?_⟩) (by assumption) ?_
              rotate_left
              · (intro w hSw; (try dsimp only at hSw); go_split_ands; go_simp; try with_reducible rfl)
              try simp only [Act.put, List.setIfInBounds_toArray, List.set_cons_zero, List.set_cons_succ]
              refine wpAnyH_take (i := 6) (v := ?_) rfl (by kernel_rfl) (by kernel_rfl) (by kernel_rfl) (fun _ _ _ h => h) (Or.inl ⟨by kernel_rfl, ?_⟩) (by assumption) ?_
              rotate_left
              · (intro w hSw; (try dsimp only at hSw); go_split_ands; go_simp; try with_reducible rfl)
              try simp only [Act.put, List.setIfInBounds_toArray, List.set_cons_zero, List.set_cons_succ]
              refine wpAnyH_take (i := 7) (v := ?_) rfl (by kernel_rfl) (by kernel_rfl) (by kernel_rfl) (fun _ _ _ h => h) (Or.inl ⟨by kernel_rfl, ?_⟩) (by assumption) ?_
              rotate_left
              · (intro w hSw; (try dsimp only at hSw); go_split_ands; go_simp; try with_reducible rfl)
              try simp only [Act.put, List.setIfInBounds_toArray, List.set_cons_zero, List.set_cons_succ]
              refine wpAnyH_take (i := 8) (v := ?_) rfl (by kernel_rfl) (by kernel_rfl) (by kernel_rfl) (fun _ _ _ h => h) (Or.inl ⟨by kernel_rfl, ?_⟩) (by assumption) ?_
              rotate_left
              · (intro w hSw; (try dsimp only at hSw); go_split_ands; go_simp; try with_reducible rfl)
              try simp only [Act.put, List.setIfInBounds_toArray, List.set_cons_zero, List.set_cons_succ]
              refine wpAnyH_take (i := 9) (v := ?_) rfl (by kernel_rfl) (by kernel_rfl) (by kernel_rfl) (fun _ _ _ h => h) (Or.inl ⟨by kernel_rfl, ?_⟩) (by assumption) ?_
              rotate_left
              · (intro w hSw; (try dsimp only at hSw); go_split_ands; go_simp; try with_reducible rfl)
              try simp only [Act.put, List.setIfInBounds_toArray, List.set_cons_zero, List.set_cons_succ]
              refine wpAnyH_take (i := 10) (v := ?_) rfl (by kernel_rfl) (by kernel_rfl) (by kernel_rfl) (fun _ _ _ h => h) (Or.inl ⟨by kernel_rfl, ?_⟩) (by assumption) ?_
              rotate_left
              · (intro w hSw; (try dsimp only at hSw); go_split_ands; go_simp; try with_reducible rfl)
              try simp only [Act.put, List.setIfInBounds_toArray, List.set_cons_zero, List.set_cons_succ]
              refine wpAnyH_take (i := 11) (v := ?_) rfl (by kernel_rfl) (by kernel_rfl) (by kernel_rfl) (fun _ _ _ h => h) (Or.inl ⟨by kernel_rfl, ?_⟩) (by assumption) ?_
              rotate_left
              · (intro w hSw; (try dsimp only at hSw); go_split_ands; go_simp; try with_reducible rfl)
              try simp only [Act.put, List.setIfInBounds_toArray, List.set_cons_zero, List.set_cons_succ]
              refine wpAnyH_take (i := 12) (v := ?_) rfl (by kernel_rfl) (by kernel_rfl) (by kernel_rfl) (fun _ _ _ h => h) (Or.inl ⟨by kernel_rfl, ?_⟩) (by assumption) ?_
              rotate_left
              · (intro w hSw; (try dsimp only at hSw); go_split_ands; go_simp; try with_reducible rfl)
              try simp only [Act.put, List.setIfInBounds_toArray, List.set_cons_zero, List.set_cons_succ]
              refine wpAnyH_take (i := 13) (v := ?_) rfl (by kernel_rfl) (by kernel_rfl) (by kernel_rfl) (fun _ _ _ h => h) (Or.inl ⟨by kernel_rfl, ?_⟩) (by assumption) ?_
              rotate_left
              · (intro w hSw; (try dsimp only at hSw); go_split_ands; go_simp; try with_reducible rfl)
              try simp only [Act.put, List.setIfInBounds_toArray, List.set_cons_zero, List.set_cons_succ]
              refine wpAnyH_take (i := 14) (v := ?_) rfl (by kernel_rfl) (by kernel_rfl) (by kernel_rfl) (fun _ _ _ h => h) (Or.inl ⟨by kernel_rfl, ?_⟩) (by assumption) ?_
              rotate_left
              · (intro w hSw; (try dsimp only at hSw); go_split_ands; go_simp; try with_reducible rfl)
              try simp only [Act.put, List.setIfInBounds_toArray, List.set_cons_zero, List.set_cons_succ]
              refine wpAnyH_take (i := 15) (v := ?_) rfl (by kernel_rfl) (by kernel_rfl) (by kernel_rfl) (fun _ _ _ h => h) (Or.inl ⟨by kernel_rfl, ?_⟩) (by assumption) ?_
              rotate_left
              · (intro w hSw; (try dsimp only at hSw); go_split_ands; go_simp; try with_reducible rfl)
              try simp only [Act.put, List.setIfInBounds_toArray, List.set_cons_zero, List.set_cons_succ]
              refine wpAnyH_take (i := 16) (v := ?_) rfl (by kernel_rfl) (by kernel_rfl) (by kernel_rfl) (fun _ _ _ h => h) (Or.inl ⟨by kernel_rfl, ?_⟩) (by assumption) ?_
              rotate_left
              · (intro w hSw; (try dsimp only at hSw); go_split_ands; go_simp; try with_reducible rfl)
              try simp only [Act.put, List.setIfInBounds_toArray, List.set_cons_zero, List.set_cons_succ]
              refine wpAnyH_take (i := 17) (v := ?_) rfl (by kernel_rfl) (by kernel_rfl) (by kernel_rfl) (fun _ _ _ h => h) (Or.inl ⟨by kernel_rfl, ?_⟩) (by assumption) ?_
              rotate_left
              · (intro w hSw; (try dsimp only at hSw); go_split_ands; go_simp; try with_reducible rfl)
              try simp only [Act.put, List.setIfInBounds_toArray, List.set_cons_zero, List.set_cons_succ]
              refine wpAnyH_done (by kernel_rfl) ?_ _
              try simp only [List.getElem_toArray, List.getElem_cons_succ, List.getElem_cons_zero, List.setIfInBounds_toArray, List.set_cons_zero, List.set_cons_succ]
              go_wp2_with fail
              go_ret
              exact ⟨ret_bool (by first | (rw [HR.out]; done) | (rw [HR.out]; simp; omega)), HBd.out.low⟩
            · have HR : Hid (clB d m v l = false) := Lib.hid (by unfold clB; simp; omega)
              clear h0 h1 e1 e2 e4 e5
              go_enter Try.func89, Try.ntmps89
              go_wp2_with fail
              have HBd := Lib.hid (FB.drew HB.out)
              refine wp_region_held_drew (S := (fun W9 => W9.cell? ⟨w.heap.size, 0, none⟩ = some (.int .i64 d) ∧ W9.cell? ⟨w.heap.size, 1, none⟩ = some (.int .i64 m) ∧ W9.cell? ⟨w.heap.size, 2, none⟩ = some (.int .i64 v) ∧ W9.cell? ⟨w.heap.size, 3, none⟩ = some (.int .i64 l) ∧ W9.cell? ⟨w.heap.size, 4, none⟩ = some (.slice a n c) ∧ Hid (FB w d m v l a n c ch W9))) (by kernel_rfl) (fbS HBd.out) (fun hHeld => ?_)
              refine wpAnyH_take (i := 0) (v := ?_) rfl (by kernel_rfl) (by kernel_rfl) (by kernel_rfl) (fun _ _ _ h => h) (Or.inl ⟨by kernel_rfl, ?_⟩) (by assumption) ?_
              rotate_left
              · (intro w hSw; (try dsimp only at hSw); go_split_ands; go_simp; try with_reducible rfl)
              try simp only [Act.put, List.setIfInBounds_toArray, List.set_cons_zero, List.set_cons_succ]
              refine wpAnyH_take (i := 1) (v := ?_) rfl (by kernel_rfl) (by kernel_rfl) (by kernel_rfl) (fun _ _ _ h => h) (Or.inl ⟨by kernel_rfl, ?_⟩) (by assumption) ?_
              rotate_left
              · (intro w hSw; (try dsimp only at hSw); go_split_ands; go_simp; try with_reducible rfl)
              try simp only [Act.put, List.setIfInBounds_toArray, List.set_cons_zero, List.set_cons_succ]
              refine wpAnyH_take (i := 2) (v := ?_) rfl (by kernel_rfl) (by kernel_rfl) (by kernel_rfl) (fun _ _ _ h => h) (Or.inl ⟨by kernel_rfl, ?_⟩) (by assumption) ?_
              rotate_left
              · (intro w hSw; (try dsimp only at hSw); go_split_ands; go_simp; try with_reducible rfl)
              try simp only [Act.put, List.setIfInBounds_toArray, List.set_cons_zero, List.set_cons_succ]
              refine wpAnyH_ready (rs := [3]) (by kernel_rfl) (by simp) ?_
              refine AllReadyH.cons (o := _) rfl (fun K hK => ?_) AllReadyH.nil
              try simp only [List.getElem_toArray, List.getElem_cons_succ, List.getElem_cons_zero]
              go_simp
              with_reducible refine (CA.out _ HBd).mono ?_
              rintro e w3 ⟨rfl, hb⟩
              have HBd := Lib.hid (FB.on HBd.out hb)
              clear hb
              refine hK.out _ _ ?_ (fun hHeld => ?_)
              · exact fbS HBd.out
              clear hK K
              try simp only [Act.put, List.setIfInBounds_toArray, List.set_cons_zero, List.set_cons_succ]
              refine wpAnyH_take (i := 4) (v := ?_) rfl (by kernel_rfl) (by kernel_rfl) (by kernel_rfl) (fun _ _ _ h => h) (Or.inl ⟨by kernel_rfl, ?_⟩) (by assumption) ?_
              rotate_left
              · (intro w hSw; (try dsimp only at hSw); go_split_ands; go_simp; try with_reducible rfl)
              try simp only [Act.put, List.setIfInBounds_toArray, List.set_cons_zero, List.set_cons_succ]
              refine wpAnyH_take (i := 5) (v := ?_) rfl (by kernel_rfl) (by kernel_rfl) (by kernel_rfl) (fun _ _ _ h => h) (Or.inl ⟨by kernel_rfl, ?_⟩) (by assumption) ?_
              rotate_left
              · (intro w hSw; (try dsimp only at hSw); go_split_ands; go_simp; try with_reducible rfl)
              try simp only [Act.put, List.setIfInBounds_toArray, List.set_cons_zero, List.set_cons_succ]
              refine wpAnyH_take (i := 6) (v := ?_) rfl (by kernel_rfl) (by kernel_rfl) (by kernel_rfl) (fun _ _ _ h => h) (Or.inl ⟨by kernel_rfl, ?_⟩) (by assumption) ?_
              rotate_left
              · (intro w hSw; (try dsimp only at hSw); go_split_ands; go_simp; try with_reducible rfl)
              try simp only [Act.put, List.setIfInBounds_toArray, List.set_cons_zero, List.set_cons_succ]
              refine wpAnyH_take (i := 7) (v := ?_) rfl (by kernel_rfl) (by kernel_rfl) (by kernel_rfl) (fun _ _ _ h => h) (Or.inl ⟨by kernel_rfl, ?_⟩) (by assumption) ?_
              rotate_left
              · (intro w hSw; (try dsimp only at hSw); go_split_ands; go_simp; try with_reducible rfl)
              try simp only [Act.put, List.setIfInBounds_toArray, List.set_cons_zero, List.set_cons_succ]
              refine wpAnyH_take (i := 8) (v := ?_) rfl (by kernel_rfl) (by kernel_rfl) (by kernel_rfl) (fun _ _ _ h => h) (Or.inl ⟨by kernel_rfl, ?_⟩) (by assumption) ?_
              rotate_left
              · (intro w hSw; (try dsimp only at hSw); go_split_ands; go_simp; try with_reducible rfl)
              try simp only [Act.put, List.setIfInBounds_toArray, List.set_cons_zero, List.set_cons_succ]
              refine wpAnyH_take (i := 9) (v := ?_) rfl (by kernel_rfl) (by kernel_rfl) (by kernel_rfl) (fun _ _ _ h => h) (Or.inl ⟨by kernel_rfl, ?_⟩) (by assumption) ?_
              rotate_left
              · (intro w hSw; (try dsimp only at hSw); go_split_ands; go_simp; try with_reducible rfl)
              try simp only [Act.put, List.setIfInBounds_toArray, List.set_cons_zero, List.set_cons_succ]
              refine wpAnyH_take (i := 10) (v := ?_) rfl (by kernel_rfl) (by kernel_rfl) (by kernel_rfl) (fun _ _ _ h => h) (Or.inl ⟨by kernel_rfl, ?_⟩) (by assumption) ?_
              rotate_left
              · (intro w hSw; (try dsimp only at hSw); go_split_ands; go_simp; try with_reducible rfl)
              try simp only [Act.put, List.setIfInBounds_toArray, List.set_cons_zero, List.set_cons_succ]
              refine wpAnyH_take (i := 11) (v := ?_) rfl (by kernel_rfl) (by kernel_rfl) (by kernel_rfl) (fun _ _ _ h => h) (Or.inl ⟨by kernel_rfl, ?_⟩) (by assumption) ?_
              rotate_left
              · (intro w hSw; (try dsimp only at hSw); go_split_ands; go_simp; try with_reducible rfl)
              try simp only [Act.put, List.setIfInBounds_toArray, List.set_cons_zero, List.set_cons_succ]
              refine wpAnyH_take (i := 12) (v := ?_) rfl (by kernel_rfl) (by kernel_rfl) (by kernel_rfl) (fun _ _ _ h => h) (Or.inl ⟨by kernel_rfl, ?_⟩) (by assumption) ?_
              rotate_left
              · (intro w hSw; (try dsimp only at hSw); go_split_ands; go_simp; try with_reducible rfl)
              try simp only [Act.put, List.setIfInBounds_toArray, List.set_cons_zero, List.set_cons_succ]
              refine wpAnyH_take (i := 13) (v := ?_) rfl (by kernel_rfl) (by kernel_rfl) (by kernel_rfl) (fun _ _ _ h => h) (Or.inl ⟨by kernel_rfl, ?_⟩) (by assumption) ?_
              rotate_left
              · (intro w hSw; (try dsimp only at hSw); go_split_ands; go_simp; try with_reducible rfl)
              try simp only [Act.put, List.setIfInBounds_toArray, List.set_cons_zero, List.set_cons_succ]
              refine wpAnyH_take (i := 14) (v := ?_) rfl (by kernel_rfl) (by kernel_rfl) (by kernel_rfl) (fun _ _ _ h => h) (Or.inl ⟨by kernel_rfl, ?_⟩) (by assumption) ?_
              rotate_left
              · (intro w hSw; (try dsimp only at hSw); go_split_ands; go_simp; try with_reducible rfl)
              try simp only [Act.put, List.setIfInBounds_toArray, List.set_cons_zero, List.set_cons_succ]
              refine wpAnyH_take (i := 15) (v := ?_) rfl (by kernel_rfl) (by kernel_rfl) (by kernel_rfl) (fun _ _ _ h => h) (Or.inl ⟨by kernel_rfl, ?_⟩) (by assumption) ?_
              rotate_left
              · (intro w hSw; (try dsimp only at hSw); go_split_ands; go_simp; try with_reducible rfl)
              try simp only [Act.put, List.setIfInBounds_toArray, List.set_cons_zero, List.set_cons_succ]
              refine wpAnyH_take (i := 16) (v := ?_) rfl (by kernel_rfl) (by kernel_rfl) (by kernel_rfl) (fun _ _ _ h => h) (Or.inl ⟨by kernel_rfl, ?_⟩) (by assumption) ?_
              rotate_left
              · (intro w hSw; (try dsimp only at hSw); go_split_ands; go_simp; try with_reducible rfl)
              try simp only [Act.put, List.setIfInBounds_toArray, List.set_cons_zero, List.set_cons_succ]
              refine wpAnyH_take (i := 17) (v := ?_) rfl (by kernel_rfl) (by kernel_rfl) (by kernel_rfl) (fun _ _ _ h => h) (Or.inl ⟨by kernel_rfl, ?_⟩) (by assumption) ?_
              rotate_left
              · (intro w hSw; (try dsimp only at hSw); go_split_ands; go_simp; try with_reducible rfl)
              try simp only [Act.put, List.setIfInBounds_toArray, List.set_cons_zero, List.set_cons_succ]
              refine wpAnyH_done (by kernel_rfl) ?_ _
              try simp only [List.getElem_toArray, List.getElem_cons_succ, List.getElem_cons_zero, List.setIfInBounds_toArray, List.set_cons_zero, List.set_cons_succ]
              go_wp2_with fail
              go_ret
              exact ⟨ret_bool (by first | (rw [HR.out]; done) | (rw [HR.out]; simp; omega)), HBd.out.low⟩
        · have b4 : (v == d + 1) = false := by simpa using e4
          have HR : Hid (clB d m v l = false) := Lib.hid (by unfold clB; simp; omega)
          clear h0 h1 e1 e2 e4
          go_enter Try.func89, Try.ntmps89
          go_wp2_with fail
          have HBd := Lib.hid (FB.drew HB.out)
          refine wp_region_held_drew (S := (fun W9 => W9.cell? ⟨w.heap.size, 0, none⟩ = some (.int .i64 d) ∧ W9.cell? ⟨w.heap.size, 1, none⟩ = some (.int .i64 m) ∧ W9.cell? ⟨w.heap.size, 2, none⟩ = some (.int .i64 v) ∧ W9.cell? ⟨w.heap.size, 3, none⟩ = some (.int .i64 l) ∧ W9.cell? ⟨w.heap.size, 4, none⟩ = some (.slice a n c) ∧ Hid (FB w d m v l a n c ch W9))) (by kernel_rfl) (fbS HBd.out) (fun hHeld => ?_)
          refine wpAnyH_take (i := 0) (v := ?_) rfl (by kernel_rfl) (by kernel_rfl) (by kernel_rfl) (fun _ _ _ h => h) (Or.inl ⟨by kernel_rfl, ?_⟩) (by assumption) ?_
          rotate_left
          · (intro w hSw; (try dsimp only at hSw); go_split_ands; go_simp; try with_reducible rfl)
          try simp only [Act.put, List.setIfInBounds_toArray, List.set_cons_zero, List.set_cons_succ]
          refine wpAnyH_take (i := 1) (v := ?_) rfl (by kernel_rfl) (by kernel_rfl) (by kernel_rfl) (fun _ _ _ h => h) (Or.inl ⟨by kernel_rfl, ?_⟩) (by assumption) ?_
          rotate_left
          · (intro w hSw; (try dsimp only at hSw); go_split_ands; go_simp; try with_reducible rfl)
          try simp only [Act.put, List.setIfInBounds_toArray, List.set_cons_zero, List.set_cons_succ]
          refine wpAnyH_take (i := 2) (v := ?_) rfl (by kernel_rfl) (by kernel_rfl) (by kernel_rfl) (fun _ _ _ h => h) (Or.inl ⟨by kernel_rfl, ?_⟩) (by assumption) ?_
          rotate_left
          · (intro w hSw; (try dsimp only at hSw); go_split_ands; go_simp; try with_reducible rfl)
          try simp only [Act.put, List.setIfInBounds_toArray, List.set_cons_zero, List.set_cons_succ]
          refine wpAnyH_ready (rs := [3]) (by kernel_rfl) (by simp) ?_
          refine AllReadyH.cons (o := _) rfl (fun K hK => ?_) AllReadyH.nil
          try simp only [List.getElem_toArray, List.getElem_cons_succ, List.getElem_cons_zero]
          go_simp
          with_reducible refine (CA.out _ HBd).mono ?_
          rintro e w3 ⟨rfl, hb⟩
          have HBd := Lib.hid (FB.on HBd.out hb)
          clear hb
          refine hK.out _ _ ?_ (fun hHeld => ?_)
          · exact fbS HBd.out
          clear hK K
          try simp only [Act.put, List.setIfInBounds_toArray, List.set_cons_zero, List.set_cons_succ]
          refine wpAnyH_take (i := 4) (v := ?_) rfl (by kernel_rfl) (by kernel_rfl) (by kernel_rfl) (fun _ _ _ h => h) (Or.inl ⟨by kernel_rfl, ?_⟩) (by assumption) ?_
          rotate_left
          · (intro w hSw; (try dsimp only at hSw); go_split_ands; go_simp; try with_reducible rfl)
          try simp only [Act.put, List.setIfInBounds_toArray, List.set_cons_zero, List.set_cons_succ]
          refine wpAnyH_take (i := 5) (v := ?_) rfl (by kernel_rfl) (by kernel_rfl) (by kernel_rfl) (fun _ _ _ h => h) (Or.inl ⟨by kernel_rfl, ?_⟩) (by assumption) ?_
          rotate_left
          · (intro w hSw; (try dsimp only at hSw); go_split_ands; go_simp; try with_reducible rfl)
          try simp only [Act.put, List.setIfInBounds_toArray, List.set_cons_zero, List.set_cons_succ]
          refine wpAnyH_take (i := 6) (v := undef) rfl (by kernel_rfl) (by kernel_rfl) (by kernel_rfl) (fun _ _ _ h => h) (Or.inr ⟨by kernel_rfl, rfl⟩) (by assumption) ?_
          try simp only [Act.put, List.setIfInBounds_toArray, List.set_cons_zero, List.set_cons_succ]
          refine wpAnyH_take (i := 7) (v := undef) rfl (by kernel_rfl) (by kernel_rfl) (by kernel_rfl) (fun _ _ _ h => h) (Or.inr ⟨by kernel_rfl, rfl⟩) (by assumption) ?_
          try simp only [Act.put, List.setIfInBounds_toArray, List.set_cons_zero, List.set_cons_succ]
          refine wpAnyH_take (i := 8) (v := undef) rfl (by kernel_rfl) (by kernel_rfl) (by kernel_rfl) (fun _ _ _ h => h) (Or.inr ⟨by kernel_rfl, rfl⟩) (by assumption) ?_
          try simp only [Act.put, List.setIfInBounds_toArray, List.set_cons_zero, List.set_cons_succ]
          refine wpAnyH_take (i := 9) (v := undef) rfl (by kernel_rfl) (by kernel_rfl) (by kernel_rfl) (fun _ _ _ h => h) (Or.inr ⟨by kernel_rfl, rfl⟩) (by assumption) ?_
          try simp only [Act.put, List.setIfInBounds_toArray, List.set_cons_zero, List.set_cons_succ]
          refine wpAnyH_take (i := 10) (v := undef) rfl (by kernel_rfl) (by kernel_rfl) (by kernel_rfl) (fun _ _ _ h => h) (Or.inr ⟨by kernel_rfl, rfl⟩) (by assumption) ?_
          try simp only [Act.put, List.setIfInBounds_toArray, List.set_cons_zero, List.set_cons_succ]
          refine wpAnyH_take (i := 11) (v := undef) rfl (by kernel_rfl) (by kernel_rfl) (by kernel_rfl) (fun _ _ _ h => h) (Or.inr ⟨by kernel_rfl, rfl⟩) (by assumption) ?_
          try simp only [Act.put, List.setIfInBounds_toArray, List.set_cons_zero, List.set_cons_succ]
          refine wpAnyH_take (i := 12) (v := undef) rfl (by kernel_rfl) (by kernel_rfl) (by kernel_rfl) (fun _ _ _ h => h) (Or.inr ⟨by kernel_rfl, rfl⟩) (by assumption) ?_
          try simp only [Act.put, List.setIfInBounds_toArray, List.set_cons_zero, List.set_cons_succ]
          refine wpAnyH_take (i := 13) (v := undef) rfl (by kernel_rfl) (by kernel_rfl) (by kernel_rfl) (fun _ _ _ h => h) (Or.inr ⟨by kernel_rfl, rfl⟩) (by assumption) ?_
          try simp only [Act.put, List.setIfInBounds_toArray, List.set_cons_zero, List.set_cons_succ]
          refine wpAnyH_take (i := 14) (v := undef) rfl (by kernel_rfl) (by kernel_rfl) (by kernel_rfl) (fun _ _ _ h => h) (Or.inr ⟨by kernel_rfl, rfl⟩) (by assumption) ?_
          try simp only [Act.put, List.setIfInBounds_toArray, List.set_cons_zero, List.set_cons_succ]
          refine wpAnyH_take (i := 15) (v := undef) rfl (by kernel_rfl) (by kernel_rfl) (by kernel_rfl) (fun _ _ _ h => h) (Or.inr ⟨by kernel_rfl, rfl⟩) (by assumption) ?_
          try simp only [Act.put, List.setIfInBounds_toArray, List.set_cons_zero, List.set_cons_succ]
          refine wpAnyH_take (i := 16) (v := ?_) rfl (by kernel_rfl) (by kernel_rfl) (by kernel_rfl) (fun _ _ _ h => h) (Or.inl ⟨by kernel_rfl, ?_⟩) (by assumption) ?_
          rotate_left
          · (intro w hSw; (try dsimp only at hSw); go_split_ands; go_simp; try with_reducible rfl)
          try simp only [Act.put, List.setIfInBounds_toArray, List.set_cons_zero, List.set_cons_succ]
          refine wpAnyH_take (i := 17) (v := ?_) rfl (by kernel_rfl) (by kernel_rfl) (by kernel_rfl) (fun _ _ _ h => h) (Or.inl ⟨by kernel_rfl, ?_⟩) (by assumption) ?_
          rotate_left
          · (intro w hSw; (try dsimp only at hSw); go_split_ands; go_simp; try with_reducible rfl)
          try simp only [Act.put, List.setIfInBounds_toArray, List.set_cons_zero, List.set_cons_succ]
          refine wpAnyH_done (by kernel_rfl) ?_ _
          try simp only [List.getElem_toArray, List.getElem_cons_succ, List.getElem_cons_zero, List.setIfInBounds_toArray, List.set_cons_zero, List.set_cons_succ]
          go_wp2_with fail
          go_ret
          exact ⟨ret_bool (by first | (rw [HR.out]; done) | (rw [HR.out]; simp; omega)), HBd.out.low⟩
      · have b3 : d < m := by omega
        have HR : Hid (clB d m v l = false) := Lib.hid (by unfold clB; simp; omega)
        clear h0 h1 e1 e2
        go_enter Try.func89, Try.ntmps89
        go_wp2_with fail
        go_ret
        exact ⟨ret_bool HR.out.symm, HB.out.low⟩

theorem cless_any (x y : Int) (w : World) : Calls Try.prog 125 #[.int .i64 x, .int .i64 y] w fun e w' => e = .returned (.bool (decide (x < y))) ∧ w = w' := by
  have CN : Hid (∀ x W, Calls Try.prog 129 #[.int .i64 x] W fun e w' => e = .returned (.bool false) ∧ W = w') := Lib.hid (fun x W => by
    go_enter Try.func129, Try.ntmps129
    go_wp2
    go_ret
    exact ⟨ret_bool (by simp), rfl⟩)
  go_enter Try.func125, Try.ntmps125
  go_wp2_with (go_at_call 129; refine (CN.out _ _).mono ?_; rintro e w' ⟨rfl, rfl⟩)
  go_ret
  exact ⟨rfl, rfl⟩

theorem pw_tail {ch : List Int} {k : Nat} (hk : k + 1 < ch.length) (h : (ch.drop (k + 1)).Pairwise (· ≤ ·)) (hle : ch.getD k 0 ≤ ch.getD (k + 1) 0) : (ch.drop k).Pairwise (· ≤ ·) := by
  rw [List.drop_eq_getElem_cons (by omega : k < ch.length), List.pairwise_cons]
  refine ⟨fun x hx => ?_, h⟩
  rw [List.drop_eq_getElem_cons hk] at h hx
  simp [List.getD, hk, (by omega : k < ch.length)] at hle
  rcases List.mem_cons.1 hx with rfl | hx
  · exact hle
  · have := (List.pairwise_cons.1 h).1 x hx
    omega

theorem pw_no {ch : List Int} {k : Nat} (hk : k + 1 < ch.length) (h : ch.getD (k + 1) 0 < ch.getD k 0) : decide (ch.Pairwise (· ≤ ·)) = false := by
  rw [decide_eq_false_iff_not]
  intro hc
  have := List.pairwise_iff_getElem.1 hc k (k + 1) (by omega) hk (by omega)
  simp [List.getD, hk, (by omega : k < ch.length)] at h
  omega

set_option maxHeartbeats 1000000 in
theorem issort_any (ch : List Int) (a : Option Addr) (n c : Nat) (w : World) (h : Ints w a n ch) (hn : n ≤ 4096) : Calls Try.prog 114 #[.slice a n c] w fun e w' => e = .returned (.bool (decide (ch.Pairwise (· ≤ ·)))) ∧ Below w.heap.size w w' := by
  have HL := Lib.hid h.len
  have H := Lib.hid h
  have q1 : IntKind.i64.wrap ((n : Int) - 1) = (n : Int) - 1 := IntWalk.i64_in _ (by omega)
  have HY : Hid ((ch.drop 0).Pairwise (· ≤ ·) → decide (ch.Pairwise (· ≤ ·)) = true) := Lib.hid (fun hc => by rw [decide_eq_true_iff]; simpa using hc)
  have HS : Hid (∀ k : Nat, (n : Int) - 1 ≤ k → (ch.drop k).Pairwise (· ≤ ·)) := Lib.hid (fun k hk => by
    have hlen : (ch.drop k).length ≤ 1 := by rw [List.length_drop, HL.out]; omega
    match hd : ch.drop k with
    | [] => exact List.Pairwise.nil
    | [x] => simp
    | x :: y :: r => rw [hd] at hlen; simp at hlen)
  clear h
  go_enter Try.func114, Try.ntmps114
  go_wp2_with fail
  go_loopw [3] (fun i wr => ∃ j : Int, i = .int .i64 j ∧ j ≤ (n : Int) - 1 ∧ Hid (-1 ≤ j) ∧ Hid (∀ k : Nat, j ≤ k → (ch.drop k).Pairwise (· ≤ ·)) ∧ Hid (∃ k, wr = w.drewN k)) (fun i _ => (intOf i + 1).toNat)
  case atStart => exact ⟨(n : Int) - 1, rfl, Int.le_refl _, Lib.hid (by omega), HS, Lib.hid ⟨0, rfl⟩⟩
  case round =>
    obtain ⟨j, rfl, hj, HJ, HP, HW⟩ := hrel
    have hbel : Below w.heap.size w wr := by
      obtain ⟨k, hk⟩ := HW.out
      rw [hk]; exact below_drewN (Below.refl _ _) k
    by_cases hlt : 0 < j
    · obtain ⟨k, rfl⟩ : ∃ k : Nat, j = k + 1 := ⟨(j - 1).toNat, by omega⟩
      obtain ⟨b1, o1, rfl, hb1, hc⟩ := (H.out.on hbel).at (by omega)
      have hx := hc (k + 1) (by omega)
      have hy := hc k (by omega)
      obtain ⟨x, hxx⟩ : ∃ y_, ch.getD (k + 1) 0 = y_ := ⟨_, rfl⟩
      obtain ⟨y, hyy⟩ : ∃ y_, ch.getD k 0 = y_ := ⟨_, rfl⟩
      rw [hxx] at hx
      rw [hyy] at hy
      have hkn : k + 1 < n := by omega
      have q2 : IntKind.i64.wrap ((k : Int) + 1 - 1) = (k : Int) := by rw [IntWalk.i64_in _ (by omega)]; omega
      have hkc : k + 1 < ch.length := by rw [HL.out]; exact hkn
      by_cases hq : x < y
      · have HR := Lib.hid (pw_no hkc (by rw [hxx, hyy]; exact hq))
        have CL : Hid (∀ m, Calls Try.prog 125 #[.int .i64 x, .int .i64 y] (wr.drewN m) fun e w'' => e = .returned (.bool true) ∧ ∃ m, w'' = wr.drewN m) := Lib.hid (fun m => by have := fq_sym (cless_any x y (wr.drewN m)); rw [decide_eq_true hq] at this; exact this)
        have HBE := Lib.hid hbel
        clear hxx hyy hc hb1 hq hbel hkc
        go_wp2_with fail
        go_quiet ((go_at_call 125; exact CL.out _))
        go_wp2_with fail
        go_ret
        exact ⟨ret_bool HR.out.symm, below_drewN HBE.out nq⟩
      · have HP2 : Hid (∀ i : Nat, (k : Int) ≤ i → (ch.drop i).Pairwise (· ≤ ·)) := Lib.hid (fun i hi => by
          rcases Nat.lt_or_ge k i with h1 | h1
          · exact HP.out i (by omega)
          · obtain rfl : i = k := by omega
            exact pw_tail hkc (HP.out (i + 1) (by omega)) (by rw [hxx, hyy]; omega))
        have CL : Hid (∀ m, Calls Try.prog 125 #[.int .i64 x, .int .i64 y] (wr.drewN m) fun e w'' => e = .returned (.bool false) ∧ ∃ m, w'' = wr.drewN m) := Lib.hid (fun m => by have := fq_sym (cless_any x y (wr.drewN m)); rw [decide_eq_false hq] at this; exact this)
        clear hxx hyy hc hb1 hq hbel hkc
        go_wp2_with fail
        go_quiet ((go_at_call 125; exact CL.out _))
        go_wp2_with fail
        go_roundw
        case rel => exact ⟨k, rfl, by omega, Lib.hid (by omega), HP2, Lib.hid (by obtain ⟨i, hi⟩ := HW.out; exact ⟨i + nq, by rw [hi, World.drewN_drewN]⟩)⟩
        case measure => simp [intOf]; omega
    · have HR := Lib.hid (HY.out (HP.out 0 (by omega)))
      have HBE := Lib.hid hbel
      clear hbel
      go_wp2_with fail
      go_ret
      exact ⟨ret_bool HR.out.symm, HBE.out⟩

/-- the births that a family tells -/
def bhB (d : Int) (ch : List Int) : Bool := decide (ch.length ≤ 12 ∧ (∀ b ∈ ch, 0 ≤ b ∧ b ≤ 35999 ∧ b ≤ d + 9) ∧ ch.Pairwise (· ≤ ·))

theorem bh_no {d : Int} {ch : List Int} (h : ¬ (ch.length ≤ 12 ∧ (∀ b ∈ ch, 0 ≤ b ∧ b ≤ 35999 ∧ b ≤ d + 9) ∧ ch.Pairwise (· ≤ ·))) : bhB d ch = false := by
  unfold bhB; rw [decide_eq_false_iff_not]; exact h

set_option maxHeartbeats 1000000 in
theorem ihc_any (d m v l : Int) (ch : List Int) (a : Option Addr) (n c : Nat) (w : World) (h : Ints w a n ch) (h0 : 0 ≤ d) (h1 : d ≤ 35999) : Calls Try.prog 90 #[.agg #[.int .i64 d, .int .i64 m, .int .i64 v, .int .i64 l, .slice a n c]] w fun e w' => e = .returned (.bool (bhB d ch)) ∧ Below w.heap.size w w' := by
  have HL := Lib.hid h.len
  have HB := Lib.hid (FB.new w d m v l (c := c) h)
  have hmx := h.max
  obtain ⟨f0, f1, f2, f3, f4, -⟩ := fbS HB.out
  have q1 : IntKind.i64.wrap (d + 9) = d + 9 := IntWalk.i64_in _ (by omega)
  by_cases c1 : (n : Int) ≤ 12
  case neg =>
    have HR : Hid (bhB d ch = false) := Lib.hid (bh_no fun e => by have := e.1; rw [HL.out] at this; omega)
    clear h
    go_enter Try.func90, Try.ntmps90
    go_wp2_with fail
    go_ret
    exact ⟨ret_bool HR.out.symm, HB.out.low⟩
  have CS : Hid (∀ W, Hid (FB w d m v l a n c ch W) → Calls Try.prog 114 #[.slice a n c] W fun e w' => e = .returned (.bool (decide (ch.Pairwise (· ≤ ·)))) ∧ Below W.heap.size W w') := Lib.hid (fun W hW => issort_any ch a n c W hW.out.i (by omega))
  have HY : Hid ((∀ b ∈ ch.take n, 0 ≤ b ∧ b ≤ 35999 ∧ b ≤ d + 9) → decide (ch.Pairwise (· ≤ ·)) = bhB d ch) := Lib.hid (fun hh => by
    rw [List.take_of_length_le (by rw [HL.out]; exact Nat.le_refl _)] at hh
    unfold bhB
    rw [decide_eq_decide]
    exact ⟨fun hp => ⟨by rw [HL.out]; omega, hh, hp⟩, fun hp => hp.2.2⟩)
  have HN : Hid (∀ j, j < n → ¬ (0 ≤ ch.getD j 0 ∧ ch.getD j 0 ≤ 35999 ∧ ch.getD j 0 ≤ d + 9) → bhB d ch = false) := Lib.hid (fun j hj hh => bh_no fun e => hh (e.2.1 _ (by
    rw [List.getD_eq_getElem?_getD, List.getElem?_eq_getElem (by rw [HL.out]; exact hj)]
    exact List.getElem_mem _)))
  have HT : Hid (∀ j, j < n → (∀ b ∈ ch.take j, 0 ≤ b ∧ b ≤ 35999 ∧ b ≤ d + 9) → (0 ≤ ch.getD j 0 ∧ ch.getD j 0 ≤ 35999 ∧ ch.getD j 0 ≤ d + 9) → ∀ b ∈ ch.take (j + 1), 0 ≤ b ∧ b ≤ 35999 ∧ b ≤ d + 9) := Lib.hid (fun j hj hh h2 b hb => by
    rw [take_snoc' ch j 0 (by rw [HL.out]; exact hj)] at hb
    rcases List.mem_append.1 hb with hb | hb
    · exact hh b hb
    · simp only [List.mem_singleton] at hb; subst hb; exact h2)
  have HI0 : Hid (∀ b ∈ ch.take 0, 0 ≤ b ∧ b ≤ 35999 ∧ b ≤ d + 9) := Lib.hid (by simp)
  clear h
  go_enter Try.func90, Try.ntmps90
  go_wp2_with fail
  go_loop [12] (fun i => ∃ j : Nat, j ≤ n ∧ i = .int .i64 j ∧ Hid (∀ b ∈ ch.take j, 0 ≤ b ∧ b ≤ 35999 ∧ b ≤ d + 9)) (fun i => n - (intOf i).toNat)
  case atStart => exact ⟨0, Nat.zero_le _, rfl, HI0⟩
  case round =>
    obtain ⟨j, hj, rfl, HI⟩ := hrel
    by_cases hlt : j < n
    · obtain ⟨b1, o1, rfl, hb1, hc⟩ := HB.out.i.at (by omega)
      have hx := hc j hlt
      have HN2 := Lib.hid (HN.out j hlt)
      have HT2 := Lib.hid (HT.out j hlt HI.out)
      obtain ⟨b, hb⟩ : ∃ y_, ch.getD j 0 = y_ := ⟨_, rfl⟩
      rw [hb] at hx HN2 HT2
      clear hc hb1 hb
      cases k1 : mthB b with
      | false =>
        have HR := Lib.hid (HN2.out fun e => by rw [(mthB_iff _).2 ⟨e.1, e.2.1⟩] at k1; cases k1)
        have CM : Hid (∀ W, Calls Try.prog 74 #[.int .i64 b] W fun e w' => e = .returned (.bool false) ∧ W = w') := Lib.hid (fun W => by have := mvalid_any b W; rw [k1] at this; exact this)
        clear k1
        go_wp2_with (go_at_call 74; refine (CM.out _).mono ?_; rintro e w' ⟨rfl, rfl⟩)
        go_ret
        exact ⟨ret_bool HR.out.symm, HB.out.low⟩
      | true =>
        have CM : Hid (∀ W, Calls Try.prog 74 #[.int .i64 b] W fun e w' => e = .returned (.bool true) ∧ W = w') := Lib.hid (fun W => by have := mvalid_any b W; rw [k1] at this; exact this)
        have K1 := Lib.hid ((mthB_iff _).1 k1)
        clear k1
        rcases Classical.em (b ≤ d + 9) with k2 | k2
        · have k2' : ¬ d + 9 < b := by omega
          have HI2 := Lib.hid (HT2.out ⟨K1.out.1, K1.out.2, k2⟩)
          go_wp2_with (go_at_call 74; refine (CM.out _).mono ?_; rintro e w' ⟨rfl, rfl⟩)
          go_round
          case rel => exact ⟨j + 1, by omega, by go_num, HI2⟩
          case measure => simp [intOf]; omega
        · have k2' : d + 9 < b := by omega
          have HR := Lib.hid (HN2.out fun e => k2 e.2.2)
          go_wp2_with (go_at_call 74; refine (CM.out _).mono ?_; rintro e w' ⟨rfl, rfl⟩)
          go_ret
          exact ⟨ret_bool HR.out.symm, HB.out.low⟩
    · obtain rfl : j = n := by omega
      have HR := Lib.hid (HY.out HI.out)
      go_wp2_with fail
      refine (CS.out _ HB).mono ?_
      rintro e w1 ⟨rfl, hb⟩
      have HB2 := Lib.hid (HB.out.on hb)
      clear hb
      go_wp2_with fail
      go_ret
      exact ⟨ret_bool HR.out, HB2.out.low⟩

theorem fm_prog (d m v l : Int) (ch : List Int) : fmB d m v l ch = (mthB d && opB m && opB v && opB l && clB d m v l && bhB d ch) := by
  rw [Bool.eq_iff_iff, fm_iff]
  simp only [Bool.and_eq_true, mthB_iff, opB_iff]
  unfold clB bhB FmOk
  simp only [decide_eq_true_iff]
  constructor
  · rintro ⟨h1, h2, h3, h4, h5, h6, h7⟩
    exact ⟨⟨⟨⟨⟨h1, h2⟩, by omega⟩, by omega⟩, by omega⟩, h5, h6, h7⟩
  · rintro ⟨⟨⟨⟨⟨h1, h2⟩, h3⟩, h4⟩, h5⟩, h6, h7, h8⟩
    exact ⟨h1, h2, by omega, by omega, h6, h7, h8⟩

set_option maxHeartbeats 1000000 in
theorem ifm_any (d m v l : Int) (ch : List Int) (a : Option Addr) (n c : Nat) (w : World) (h : Ints w a n ch) : Calls Try.prog 26 #[.agg #[.int .i64 d, .int .i64 m, .int .i64 v, .int .i64 l, .slice a n c]] w fun e w' => e = .returned (.bool (fmB d m v l ch)) ∧ Below w.heap.size w w' := by
  have HF := Lib.hid (fm_prog d m v l ch)
  cases c1 : mthB d with
  | false =>
    have HR : Hid (fmB d m v l ch = false) := Lib.hid (by rw [HF.out, c1]; rfl)
    go_enter Try.func26, Try.ntmps26
    go_wp2_with (go_at_call 74; refine (mvalid_any _ _).mono ?_; rintro e w' ⟨rfl, rfl⟩)
    go_ret
    exact ⟨ret_bool HR.out.symm, box_b _ _⟩
  | true =>
    obtain ⟨d0, d1⟩ := (mthB_iff _).1 c1
    have CC : Hid (∀ W, Ints W a n ch → Calls Try.prog 89 #[.agg #[.int .i64 d, .int .i64 m, .int .i64 v, .int .i64 l, .slice a n c]] W fun e w' => e = .returned (.bool (clB d m v l)) ∧ Below W.heap.size W w') := Lib.hid (fun W hW => icl_any d m v l ch a n c W hW d0 d1)
    have CH : Hid (∀ W, Ints W a n ch → Calls Try.prog 90 #[.agg #[.int .i64 d, .int .i64 m, .int .i64 v, .int .i64 l, .slice a n c]] W fun e w' => e = .returned (.bool (bhB d ch)) ∧ Below W.heap.size W w') := Lib.hid (fun W hW => ihc_any d m v l ch a n c W hW d0 d1)
    have HFF : Hid (fmB d m v l ch = ((opB m && opB v && opB l) && (clB d m v l && bhB d ch))) := Lib.hid (by rw [HF.out, c1]; simp [Bool.and_assoc])
    have b2 := box_b (w.alloc (.cells #[.int .i64 d, .int .i64 m, .int .i64 v, .int .i64 l, .slice a n c] 26)) (.cells #[.int .i64 m, .int .i64 v, .int .i64 l] 2)
    have hf2 := (FB.new w d m v l (c := c) h).on b2
    have x3 := Bx.new (w.alloc (.cells #[.int .i64 d, .int .i64 m, .int .i64 v, .int .i64 l, .slice a n c] 26)) [.int .i64 m, .int .i64 v, .int .i64 l] 2
    rw [World.size_alloc] at x3
    obtain ⟨y0, y1, y2⟩ := x3.threeT
    have HB := Lib.hid hf2
    obtain ⟨f0, f1, f2, f3, f4, -⟩ := fbS hf2
    have HX : Hid (∀ j, j < 3 → ((w.alloc (.cells #[.int .i64 d, .int .i64 m, .int .i64 v, .int .i64 l, .slice a n c] 26)).alloc (.cells #[.int .i64 m, .int .i64 v, .int .i64 l] 2)).cell? ⟨w.heap.size + 1, j, none⟩ = some (.int .i64 ([m, v, l].getD j 0))) := Lib.hid (fun j hj => by
      match j, hj with
      | 0, _ => exact y0
      | 1, _ => exact y1
      | 2, _ => exact y2)
    have HO : Hid (∀ j, j < 3 → opB ([m, v, l].getD j 0) = false → (opB m && opB v && opB l) = false) := Lib.hid (fun j hj hh => by
      match j, hj, hh with
      | 0, _, hh => have : opB m = false := hh; simp [this]
      | 1, _, hh => have : opB v = false := hh; simp [this]
      | 2, _, hh => have : opB l = false := hh; simp [this])
    have HT : Hid ((∀ i, i < 3 → opB ([m, v, l].getD i 0) = true) → (opB m && opB v && opB l) = true) := Lib.hid (fun hh => by
      have e1 : opB m = true := hh 0 (by omega)
      have e2 : opB v = true := hh 1 (by omega)
      have e3 : opB l = true := hh 2 (by omega)
      rw [e1, e2, e3]; rfl)
    have HI0 : Hid (∀ i, i < 0 → opB ([m, v, l].getD i 0) = true) := Lib.hid (fun i hi => by omega)
    clear b2 hf2 x3 y0 y1 y2 h d0 d1 HF
    have HD := c1
    go_enter Try.func26, Try.ntmps26
    go_wp2_with (go_at_call 74; refine (mvalid_any _ _).mono ?_; rintro e w' ⟨rfl, rfl⟩)
    go_loop [17] (fun i => ∃ j : Nat, j ≤ 3 ∧ i = .int .i64 j ∧ Hid (∀ i, i < j → opB ([m, v, l].getD i 0) = true)) (fun i => 3 - (intOf i).toNat)
    case atStart => exact ⟨0, by omega, rfl, HI0⟩
    case round =>
      obtain ⟨j, hj, rfl, HI⟩ := hrel
      by_cases hlt : j < 3
      · have hx := HX.out j hlt
        have HO2 := Lib.hid (HO.out j hlt)
        have HI2 : Hid (opB ([m, v, l].getD j 0) = true → ∀ i, i < j + 1 → opB ([m, v, l].getD i 0) = true) := Lib.hid (fun h1 i hi => by
          rcases Nat.lt_or_ge i j with h2 | h2
          · exact HI.out i h2
          · obtain rfl : i = j := by omega
            exact h1)
        obtain ⟨x, hxx⟩ : ∃ y_, [m, v, l].getD j 0 = y_ := ⟨_, rfl⟩
        rw [hxx] at hx HO2 HI2
        clear hxx
        cases k1 : opB x with
        | false =>
          have HR : Hid (fmB d m v l ch = false) := Lib.hid (by rw [HFF.out, HO2.out k1]; rfl)
          go_wp2_with (go_at_call 88; refine (imn_any _ _).mono ?_; rintro e w' ⟨rfl, rfl⟩)
          go_ret
          exact ⟨ret_bool HR.out.symm, HB.out.low⟩
        | true =>
          have HI3 := Lib.hid (HI2.out k1)
          go_wp2_with (go_at_call 88; refine (imn_any _ _).mono ?_; rintro e w' ⟨rfl, rfl⟩)
          go_round
          case rel => exact ⟨j + 1, by omega, by go_num, HI3⟩
          case measure => simp [intOf]; omega
      · obtain rfl : j = 3 := by omega
        have HR : Hid (fmB d m v l ch = (clB d m v l && bhB d ch)) := Lib.hid (by rw [HFF.out, HT.out HI.out]; rfl)
        cases k1 : clB d m v l with
        | false =>
          rw [k1] at CC HR
          have HR2 : Hid (fmB d m v l ch = false) := Lib.hid HR.out
          clear k1
          go_wp2_with fail
          refine (CC.out _ HB.out.i).mono ?_
          rintro e w1 ⟨rfl, hb⟩
          have HB2 := Lib.hid (HB.out.on hb)
          clear hb
          go_wp2_with fail
          go_ret
          exact ⟨ret_bool HR2.out.symm, HB2.out.low⟩
        | true =>
          rw [k1] at CC HR
          have HR2 : Hid (fmB d m v l ch = bhB d ch) := Lib.hid (by rw [HR.out]; rfl)
          clear k1
          go_wp2_with fail
          refine (CC.out _ HB.out.i).mono ?_
          rintro e w1 ⟨rfl, hb⟩
          have HB2 := Lib.hid (HB.out.on hb)
          obtain ⟨f0, f1, f2, f3, f4, -⟩ := fbS HB2.out
          clear hb
          go_wp2_with fail
          refine (CH.out _ HB2.out.i).mono ?_
          rintro e w2 ⟨rfl, hb⟩
          have HB3 := Lib.hid (HB2.out.on hb)
          clear hb
          go_wp2_with fail
          go_ret
          exact ⟨ret_bool HR2.out.symm, HB3.out.low⟩

end Go.Proofs.Ytmnddplkmljeaaa
