/- Policies: the model: net premiums, durations, gains. (Written by wip/gen/pot.py.) -/
import Derived.Test.YtnclncglmnbelaaGreatPos
namespace Go.Proofs.YtnclncglmnbelaaGreat
open Go.ChangeShapes Go.WideShapes Go.ChangeAt Go.RowKit
set_option linter.unusedVariables false
set_option maxRecDepth 100000

theorem ret_3p {a b c d e f : Int} (h : a = b) (g : c = d) (k : e = f) : Ending.returned (.tuple #[.int .i64 a, .int .i64 c, .int .i64 e]) = .returned (.tuple #[.int .i64 b, .int .i64 d, .int .i64 f]) := by rw [h, g, k]

theorem snet_any (r f : Int) (xs : List Int) (a : Option Addr) (l c : Nat) (k x n s u : Int) (w : World) (h : Ints w a l xs) (hp : poB r f xs k x n s u = true) :
    Calls Tryz.prog 57 #[.agg #[.int .i64 f, .slice a l c, .int .i64 r], .agg #[.int .i64 k, .int .i64 x, .int .i64 n, .int .i64 s, .int .i64 u]] w fun e w' => e = .returned (.int .i64 (netN r f xs k x n s)) ∧ Below w.heap.size w w' := by
  have H := Lib.hid h
  clear h
  have HP := Lib.hid (BP.new w f (.slice a l c) r k x n s u 28 30)
  have hz := (poB_iff.1 hp).1
  unfold asE at hz
  have CL : Hid (∀ W, Hid (BP w f (.slice a l c) r k x n s u W) → Calls Tryz.prog 90 #[.agg #[.int .i64 f, .slice a l c], .int .i64 r, .int .i64 k, .int .i64 x, .int .i64 n, .int .i64 s] W fun e w' => e = .returned (.int .i64 (netN r f xs k x n s)) ∧ Below W.heap.size W w') :=
    Lib.hid (fun W hW => slevel_any r f xs a l c k x n s W (H.out.on hW.out.low) hz)
  obtain ⟨Z, hZ⟩ : ∃ y_, netN r f xs k x n s = y_ := ⟨_, rfl⟩
  rw [hZ] at CL ⊢
  clear hZ hz hp
  go_enter Tryz.func57, Tryz.ntmps57
  go_wp2_with fail
  obtain ⟨W1, hW1⟩ : ∃ W1, ((w.alloc (.cells #[.int .i64 f, .slice a l c, .int .i64 r] 28)).alloc (.cells #[.int .i64 k, .int .i64 x, .int .i64 n, .int .i64 s, .int .i64 u] 30)) = W1 := ⟨_, rfl⟩
  rw [hW1] at HP ⊢
  clear hW1
  with_reducible refine (CL.out _ HP).mono ?_
  rintro e w1 ⟨rfl, hb⟩
  have HP := Lib.hid (HP.out.on hb)
  clear hb
  obtain ⟨b0, b1, b2, p0, p1, p2, p3, p4, -⟩ := bpS HP.out
  go_wp2_with fail
  go_ret
  exact ⟨rfl, HP.out.low⟩

set_option maxHeartbeats 1000000 in
theorem sdur_any (r f : Int) (xs : List Int) (a : Option Addr) (l c : Nat) (k x n s u : Int) (w : World) (h : Ints w a l xs) (hp : poB r f xs k x n s u = true) :
    Calls Tryz.prog 42 #[.agg #[.int .i64 f, .slice a l c, .int .i64 r], .agg #[.int .i64 k, .int .i64 x, .int .i64 n, .int .i64 s, .int .i64 u]] w fun e w' => e = .returned (.int .i64 (durN f xs k x n)) ∧ Below w.heap.size w w' := by
  have hz := (poB_iff.1 hp).1
  unfold asE at hz
  obtain ⟨-, -, ht, -, ⟨x0, x1⟩, -⟩ := as_in hz
  obtain ⟨f0, f1⟩ := ht.1
  have hl := h.len
  have hs := ht.2.1
  have H := Lib.hid h
  clear h
  have HP := Lib.hid (BP.new w f (.slice a l c) r k x n s u 28 30)
  have CE : Hid (∀ W, Hid (BP w f (.slice a l c) r k x n s u W) → Calls Tryz.prog 66 #[.agg #[.int .i64 f, .slice a l c]] W fun e w' => e = .returned (.int .i64 (f + l - 1)) ∧ Below W.heap.size W w') :=
    Lib.hid (fun W hW => end_spec f xs a l c W (by omega) f0 (by omega))
  clear ht hz hp
  by_cases hk : k = 0
  · have HV : Hid (durN f xs k x n = f + l - 1 - x) := Lib.hid (by unfold durN; rw [if_pos hk, hl])
    obtain ⟨E, hE⟩ : ∃ y_, f + l - 1 = y_ := ⟨_, rfl⟩
    rw [hE] at HV CE
    have q1 : IntKind.i64.wrap (E - x) = E - x := IntWalk.i64_in _ (by omega)
    rw [HV.out]
    clear hE HV
    subst hk
    go_enter Tryz.func42, Tryz.ntmps42
    go_wp2_with fail
    obtain ⟨W1, hW1⟩ : ∃ W1, ((w.alloc (.cells #[.int .i64 f, .slice a l c, .int .i64 r] 28)).alloc (.cells #[.int .i64 0, .int .i64 x, .int .i64 n, .int .i64 s, .int .i64 u] 30)) = W1 := ⟨_, rfl⟩
    rw [hW1] at HP ⊢
    clear hW1
    obtain ⟨b0, b1, b2, p0, p1, p2, p3, p4, -⟩ := bpS HP.out
    go_wp2_with fail
    go_region_held3 (fun W9 => W9.cell? ⟨w.heap.size, 0, none⟩ = some (.int .i64 f) ∧ W9.cell? ⟨w.heap.size, 1, none⟩ = some (.slice a l c) ∧ W9.cell? ⟨w.heap.size, 2, none⟩ = some (.int .i64 r) ∧ W9.cell? ⟨w.heap.size + 1, 0, none⟩ = some (.int .i64 0) ∧ W9.cell? ⟨w.heap.size + 1, 1, none⟩ = some (.int .i64 x) ∧ W9.cell? ⟨w.heap.size + 1, 2, none⟩ = some (.int .i64 n) ∧ W9.cell? ⟨w.heap.size + 1, 3, none⟩ = some (.int .i64 s) ∧ W9.cell? ⟨w.heap.size + 1, 4, none⟩ = some (.int .i64 u) ∧ Hid (BP w f (.slice a l c) r 0 x n s u W9))
    (first
      | (go_split_ands; exact ⟨by with_reducible assumption, by with_reducible assumption, by with_reducible assumption, by with_reducible assumption, by with_reducible assumption, by with_reducible assumption, by with_reducible assumption, by with_reducible assumption, by with_reducible assumption⟩)
      | (go_split_ands; with_reducible exact bpS HP.out)
      | (go_split_ands; with_reducible exact bpS (BP.drew HP.out))
      | (go_split_ands; with_reducible exact bpS (BP.on (Hid.out (by with_reducible assumption)) hb))
      | fail)
        (first
          | (go_split_ands; go_at_call 66; ((with_reducible refine (CE.out _ (by with_reducible assumption)).mono ?_); rintro e w' ⟨rfl, hb⟩))
          | fail)
    all_goals
      go_split_ands
      go_wp2_with fail
      go_ret
      exact ⟨rfl, bpLow f (.slice a l c) r 0 x n s u (by with_reducible assumption)⟩
  · have HV : Hid (durN f xs k x n = n) := Lib.hid (by unfold durN; rw [if_neg hk])
    have hk2 : (k == 0) = false := by simp [hk]
    rw [HV.out]
    clear hk HV
    go_enter Tryz.func42, Tryz.ntmps42
    go_wp2_with fail
    go_ret
    exact ⟨rfl, HP.out.low⟩

def netV (r f : Int) (xs : List Int) (k x n s u : Int) : Int := if poB r f xs k x n s u = true then netN r f xs k x n s else 0

def durV (r f : Int) (xs : List Int) (k x n s u : Int) : Int := if poB r f xs k x n s u = true then durN f xs k x n else 0

def gnQV (r f : Int) (xs : List Int) (k x n s u : Int) : Int := if poB r f xs k x n s u = true then gnQ r f xs k x n s else 0

def gnRV (r f : Int) (xs : List Int) (k x n s u : Int) : Int := if poB r f xs k x n s u = true then gnR r f xs k x n s else 0

end Go.Proofs.YtnclncglmnbelaaGreat
