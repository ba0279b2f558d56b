/- TableText of the program: what the calls return. -/
import Derived.Test.YtonkaoacohocjaaDoorNumT
namespace Go.Proofs.YtonkaoacohocjaaDoor
open Go.ChangeShapes Go.WideShapes Go.ChangeAt Go.RowKit
set_option linter.unusedVariables false
set_option maxRecDepth 100000

set_option maxHeartbeats 1000000 in
theorem tt_impl (f : Int) (xs : List Int) (a : Option Addr) (l c : Nat) (w : World) (h : Ints w a l xs) (hlc : l ≤ c) (ht : Tab w) :
    Calls Tryd.prog 12 #[.agg #[.int .i64 f, .slice a l c]] w fun e w' => e = .returned (.string ⟨(ttT f xs).toArray⟩) ∧ Below w.heap.size w w' := by
  have HC := Lib.hid (isL_impl f xs a l c (w.alloc (.cells #[.int .i64 f, .slice a l c] 26)) (h.on (box_b _ _)) hlc)
  have HL := Lib.hid h.len
  have HG := Lib.hid ht.lt
  have H := Lib.hid h
  have HT := Lib.hid ht
  clear h ht
  by_cases h1 : ltB f xs = true
  · have HX := Lib.hid (ttT_t h1)
    have h2 := (ltB_iff _ _).1 h1
    have HN := Lib.hid h2.nums
    have hl := h2.2.1
    rw [HL.out] at hl
    obtain ⟨hl0, hl1⟩ := hl
    rw [h1] at HC
    clear h1 h2
    go_enter Tryd.func12, Tryd.ntmps12
    go_wp2_with fail
    refine HC.out.mono ?_
    rintro e w1 ⟨rfl, hb1⟩
    obtain ⟨hB, hc0, hc1⟩ := box2 hb1
    have HB := Lib.hid hB
    clear hB hb1
    go_wp2_with fail
    refine (nt_any f xs _ l _ _ (H.out.on HB.out) (by have := HN.out f List.mem_cons_self; omega) (by have := HN.out f List.mem_cons_self; omega) (fun x hx => by have := HN.out x (List.mem_cons_of_mem _ hx); omega) (by omega) (HT.out.stepB HG.out HB.out)).mono ?_
    rintro e w2 ⟨rfl, hb2⟩
    have HB2 := Lib.hid (HB.out.trans (hb2.mono HB.out.size))
    clear hb2
    go_wp2_with fail
    go_ret
    exact ⟨ret_str (by rw [HX.out]), HB2.out⟩
  · have h1' : ltB f xs = false := by simpa using h1
    have HX := Lib.hid (ttT_f h1')
    rw [h1'] at HC
    clear h1 h1'
    go_enter Tryd.func12, Tryd.ntmps12
    go_wp2_with fail
    refine HC.out.mono ?_
    rintro e w1 ⟨rfl, hb1⟩
    obtain ⟨hB, hc0, hc1⟩ := box2 hb1
    have HB := Lib.hid hB
    clear hB hb1
    go_wp2_with fail
    go_ret
    exact ⟨ret_str (by rw [HX.out]), HB.out⟩

end Go.Proofs.YtonkaoacohocjaaDoor
