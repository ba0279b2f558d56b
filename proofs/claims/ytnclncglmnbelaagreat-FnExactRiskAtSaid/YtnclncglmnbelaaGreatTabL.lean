/- Life tables that a law takes, makes and compares; the exact laws on IsLifeTable, LivesAt, DeathsAt and SurvivalOf. -/
import Derived.Test.YtnclncglmnbelaaGreatTabE
import Derived.Test.YtnclncglmnbelaaGreatOwn
namespace Go.Proofs.YtnclncglmnbelaaGreat
open Go.ChangeShapes Go.WideShapes Go.ChangeAt Go.RowKit
set_option linter.unusedVariables false

theorem szS_big (a : Option Addr) (l c : Nat) (n : Int) (w : World) (hl : l ≤ 9223372036854775807) (n0 : 0 ≤ n) (n1 : n ≤ 1048576) (hlt : n < (l : Int)) :
    Calls Tryz.prog 85 #[.slice a l c, .int .i64 n] w fun e w' => e = .returned (.int .i64 (-1)) ∧ w = w' := by
  have h2 : n - (l : Int) < 0 := by omega
  go_enter Tryz.func85, Tryz.ntmps85
  go_wp2_with fail
  go_ret
  exact ⟨rfl, rfl⟩

theorem szS_fit (a : Option Addr) (l c : Nat) (n : Int) (w : World) (n0 : 0 ≤ n) (n1 : n ≤ 1048576) (hlt : (l : Int) ≤ n) :
    Calls Tryz.prog 85 #[.slice a l c, .int .i64 n] w fun e w' => e = .returned (.int .i64 (n - l)) ∧ w = w' := by
  have h2 : ¬ n - (l : Int) < 0 := by omega
  go_enter Tryz.func85, Tryz.ntmps85
  go_wp2_with fail
  go_ret
  exact ⟨rfl, rfl⟩

theorem szT_big (f : Int) (a : Option Addr) (l c : Nat) (w : World) (hl : l ≤ 9223372036854775807) (h : (1048576 : Int) < l) :
    Calls Tryz.prog 51 #[.agg #[.int .i64 f, .slice a l c], .int .i64 1048576] w fun e w' => e = .returned (.int .i64 (-1)) ∧ Below w.heap.size w w' := by
  have hc := fun w => szS_big a l c 1048576 w hl (by omega) (by omega) h
  have HC := Lib.hid hc
  clear hc
  go_enter Tryz.func51, Tryz.ntmps51
  go_wp2_with (go_at_call 85; refine (HC.out _).mono ?_; rintro e w' ⟨rfl, rfl⟩)
  go_ret
  exact ⟨rfl, box_b _ _⟩

theorem szT_fit (f : Int) (a : Option Addr) (l c : Nat) (w : World) (h : (l : Int) ≤ 1048576) :
    Calls Tryz.prog 51 #[.agg #[.int .i64 f, .slice a l c], .int .i64 1048576] w fun e w' => e = .returned (.int .i64 (1048576 - l)) ∧ Below w.heap.size w w' := by
  have hc := fun w => szS_fit a l c 1048576 w (by omega) (by omega) h
  have HC := Lib.hid hc
  clear hc
  go_enter Tryz.func51, Tryz.ntmps51
  go_wp2_with (go_at_call 85; refine (HC.out _).mono ?_; rintro e w' ⟨rfl, rfl⟩)
  go_ret
  exact ⟨rfl, box_b _ _⟩

theorem szT_big2 (f : Int) (a : Option Addr) (l c : Nat) (n : Int) (w : World) (hl : l ≤ 9223372036854775807) (n0 : 0 ≤ n) (n1 : n ≤ 1048576) (h : n < l) :
    Calls Tryz.prog 51 #[.agg #[.int .i64 f, .slice a l c], .int .i64 n] w fun e w' => e = .returned (.int .i64 (-1)) ∧ Below w.heap.size w w' := by
  have HC := Lib.hid (fun w => szS_big a l c n w hl n0 n1 h)
  clear h
  go_enter Tryz.func51, Tryz.ntmps51
  go_wp2_with (go_at_call 85; refine (HC.out _).mono ?_; rintro e w' ⟨rfl, rfl⟩)
  go_ret
  exact ⟨rfl, box_b _ _⟩

theorem szT_fit2 (f : Int) (a : Option Addr) (l c : Nat) (n : Int) (w : World) (n0 : 0 ≤ n) (n1 : n ≤ 1048576) (h : (l : Int) ≤ n) :
    Calls Tryz.prog 51 #[.agg #[.int .i64 f, .slice a l c], .int .i64 n] w fun e w' => e = .returned (.int .i64 (n - l)) ∧ Below w.heap.size w w' := by
  have HC := Lib.hid (fun w => szS_fit a l c n w n0 n1 h)
  have hp : ¬ n - (l : Int) < 0 := by omega
  clear h
  go_enter Tryz.func51, Tryz.ntmps51
  go_wp2_with (go_at_call 85; refine (HC.out _).mono ?_; rintro e w' ⟨rfl, rfl⟩)
  go_ret
  exact ⟨rfl, box_b _ _⟩

/-- a table that a law has copied: in a block of its own -/
def ToPost (w : World) (f : Int) (xs : List Int) (l : Nat) (e : Ending) (w' : World) : Prop := ∃ B, e = .returned (.agg #[.int .i64 f, .slice (some ⟨B, 0, none⟩) l l]) ∧ w.heap.size ≤ B ∧ Blk w' B xs ∧ Below w.heap.size w w'

theorem toT_any (f : Int) (xs : List Int) (a : Option Addr) (l c : Nat) (w : World) (h : Ints w a l xs) (hl : l ≤ 1048576) :
    Calls Tryz.prog 53 #[.agg #[.int .i64 f, .slice a l c]] w (ToPost w f xs l) := by
  have HL := Lib.hid h.len
  have H := Lib.hid h
  clear h
  go_enter Tryz.func53, Tryz.ntmps53
  go_wp2_with fail
  have HB : Hid (Below w.heap.size w (((w.alloc (.cells #[.int .i64 f, .slice a l c] 43)).alloc (.cells #[.int .i64 0, .slice none 0 0] 26)).alloc (.cells #[.int .i64 f, .slice none 0 0] 26))) := Lib.hid (((box_b _ _).alloc (by simp) _).alloc (by simp; omega) _)
  refine (toS_any xs _ _ _ _ (H.out.on HB.out) hl).mono ?_
  rintro e w4 ⟨rfl, hk, hz, hb⟩
  have hc20 : w4.cell? ⟨w.heap.size + 1 + 1, 0, none⟩ = some (.int .i64 f) := (hb.cell (p := ⟨w.heap.size + 1 + 1, 0, none⟩) (by simp)).trans (by go_simp)
  have hc21 : w4.cell? ⟨w.heap.size + 1 + 1, 1, none⟩ = some (.slice none 0 0) := (hb.cell (p := ⟨w.heap.size + 1 + 1, 1, none⟩) (by simp)).trans (by go_simp)
  have hf21 : w4.frozen? ⟨w.heap.size + 1 + 1, 1, none⟩ = false := (hb.frozen (p := ⟨w.heap.size + 1 + 1, 1, none⟩) (by simp)).trans (by go_simp)
  have hc10 : w4.cell? ⟨w.heap.size + 1, 0, none⟩ = some (.int .i64 0) := (hb.cell (p := ⟨w.heap.size + 1, 0, none⟩) (by simp)).trans (by go_simp)
  have hc11 : w4.cell? ⟨w.heap.size + 1, 1, none⟩ = some (.slice none 0 0) := (hb.cell (p := ⟨w.heap.size + 1, 1, none⟩) (by simp)).trans (by go_simp)
  have hf10 : w4.frozen? ⟨w.heap.size + 1, 0, none⟩ = false := (hb.frozen (p := ⟨w.heap.size + 1, 0, none⟩) (by simp)).trans (by go_simp)
  have hf11 : w4.frozen? ⟨w.heap.size + 1, 1, none⟩ = false := (hb.frozen (p := ⟨w.heap.size + 1, 1, none⟩) (by simp)).trans (by go_simp)
  have HK : Hid (Blk w4 (w.heap.size + 1 + 1 + 1) xs) := Lib.hid (by rw [World.size_alloc, World.size_alloc, World.size_alloc] at hk; exact hk)
  have HBB := Lib.hid (HB.out.trans (hb.mono (by simp; omega)))
  clear hk hz hb
  go_wp2_with fail
  refine bodyPost_ret (v := .agg #[.int .i64 f, .slice (some ⟨w.heap.size + 1 + 1 + 1, 0, none⟩) l l]) ?_ rfl ⟨w.heap.size + 1 + 1 + 1, rfl, by omega, ?_, ?_⟩
  · simp [results, Tryz.results53, go_sem, hc10, hc11]
  · exact ((HK.out.same (Below.heap_setCell _ _ _ _ (by show w.heap.size + 1 + 1 + 1 ≠ w.heap.size + 1 + 1; omega))).same (Below.heap_setCell _ _ _ _ (by show w.heap.size + 1 + 1 + 1 ≠ w.heap.size + 1; omega))).same (Below.heap_setCell _ _ _ _ (by show w.heap.size + 1 + 1 + 1 ≠ w.heap.size + 1; omega))
  · exact ((HBB.out.setCell (by simp; omega) _).setCell (by simp) _).setCell (by simp) _

theorem eqT_any (f g : Int) (xs ys : List Int) (a b : Option Addr) (l m c d : Nat) (w : World) (h : Ints w a l xs) (k : Ints w b m ys) :
    Calls Tryz.prog 54 #[.agg #[.int .i64 f, .slice a l c], .agg #[.int .i64 g, .slice b m d]] w fun e w' => e = .returned (.bool (decide (f = g ∧ xs = ys))) ∧ Below w.heap.size w w' := by
  have HB : Hid (Below w.heap.size w ((w.alloc (.cells #[.int .i64 f, .slice a l c] 26)).alloc (.cells #[.int .i64 g, .slice b m d] 26))) := Lib.hid ((box_b _ _).alloc (by simp) _)
  have H := Lib.hid (h.on HB.out)
  have K := Lib.hid (k.on HB.out)
  clear h k
  by_cases hfg : f = g
  · subst hfg
    go_enter Tryz.func54, Tryz.ntmps54
    go_wp2_with fail
    refine (eqS_any xs ys _ _ _ _ _ _ _ H.out K.out).mono ?_
    rintro e w4 ⟨rfl, n, rfl⟩
    by_cases hxy : xs = ys
    · have hd : decide (xs = ys) = true := by simpa using hxy
      have HD : Hid (decide (f = f ∧ xs = ys) = true) := Lib.hid (by simpa using hxy)
      clear hxy
      rw [hd]
      go_wp2_with fail
      go_ret
      exact ⟨ret_bool HD.out.symm, below_drewN HB.out _⟩
    · have hd : decide (xs = ys) = false := by simpa using hxy
      have HD : Hid (decide (f = f ∧ xs = ys) = false) := Lib.hid (by simpa using hxy)
      clear hxy
      rw [hd]
      go_wp2_with fail
      go_ret
      exact ⟨ret_bool HD.out.symm, below_drewN HB.out _⟩
  · have hne : (f != g) = true := by simpa using hfg
    have HD : Hid (decide (f = g ∧ xs = ys) = false) := Lib.hid (by simp [hfg])
    clear hfg
    go_enter Tryz.func54, Tryz.ntmps54
    go_wp2_with fail
    go_ret
    exact ⟨ret_bool HD.out.symm, HB.out⟩

theorem eqT_same (f : Int) (xs : List Int) (a b : Option Addr) (l m c d : Nat) (w : World) (h : Ints w a l xs) (k : Ints w b m xs) :
    Calls Tryz.prog 54 #[.agg #[.int .i64 f, .slice a l c], .agg #[.int .i64 f, .slice b m d]] w fun e w' => e = .returned (.bool true) ∧ Below w.heap.size w w' := by
  have := eqT_any f f xs xs a b l m c d w h k
  simpa using this

end Go.Proofs.YtnclncglmnbelaaGreat
