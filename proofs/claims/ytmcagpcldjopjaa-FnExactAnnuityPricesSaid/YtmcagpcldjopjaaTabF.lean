/- LivesAt, DeathsAt and SurvivalOf of the program: what the calls return. -/
import Derived.Test.YtmcagpcldjopjaaTabE
namespace Go.Proofs.Ytmcagpcldjopjaa
open Go.ChangeShapes Go.WideShapes Go.ChangeAt Go.RowKit
set_option linter.unusedVariables false

theorem index152 (Zs : Array Value) (x : Int) (v : Int) (x0 : 0 ≤ x) (x1 : x < 152) (h : Zs[x.toNat]? = some (.int .i64 v)) (W : World) :
    (Instr.index 54 (.agg Zs) (.int .i64 x)).run Try.prog W = .ok (.int .i64 v) W := by
  simp [Instr.index, run_underlying und152, asIntOf, x0, x1, go_sem, h]

/-- the array is laid into a new block -/
theorem Arr.laid {Zs : Array Value} {ys : List Int} (h : Arr Zs ys) {w : World} {ops : Array Oper} {rest : List Oper} {o : Oper} {a : Act} {Q : Exit → Act → World → Prop} (hgd : o.guard = none) (x y : Operand) (ho : o.op = .store 54 x y)
    (hx : a.eval x = .pointer (some ⟨w.heap.size, 0, none⟩)) (hy : a.eval y = .agg Zs) (hk : wpList Try.prog ops Q rest (a.put o.dst undef) (w.alloc (.cells Zs 54))) :
    wpList Try.prog ops Q (o :: rest) a (w.alloc (.cells Try.zeroCells54 54)) :=
  wpList_store_row hgd 54 x y ho w.heap.size Zs hx hy 54 _ (heap_alloc_new _ _) h.info h.old h.one (by rw [World.setRow_alloc_new]; exact hk)

theorem la_impl (f : Int) (xs : List Int) (a : Option Addr) (l c : Nat) (x : Int) (w : World) (h : Ints w a l xs) (hlc : l ≤ c) :
    Calls Try.prog 19 #[.agg #[.int .i64 f, .slice a l c], .int .i64 x] w fun e w' => e = .returned (.tuple #[.int .i64 (laV f xs x), .int .i64 (ageE f xs x)]) ∧ Below w.heap.size w w' := by
  have HC := Lib.hid (check_any f xs a l c x 0 (w.alloc (.cells #[.int .i64 f, .slice a l c] 26)) (h.on (box_b _ _)) hlc)
  rw [chE_age] at HC
  have H := Lib.hid h
  clear h
  by_cases h0 : ageE f xs x = 0
  · obtain ⟨ht, x0, x1⟩ := ageE_iff.1 h0
    obtain ⟨f0, f1⟩ := ht.1
    have HT := Lib.hid ht
    have HV := Lib.hid (laV_0 h0)
    have HE := Lib.hid h0
    rw [h0] at HC
    obtain ⟨v, hv⟩ : ∃ v, lvs f xs x = v := ⟨_, rfl⟩
    have HVV := Lib.hid hv
    clear ht h0 hv
    go_enter Try.func19, Try.ntmps19
    go_wp2_with fail
    refine HC.out.mono ?_
    rintro e w1 ⟨rfl, hb⟩
    obtain ⟨hB, hc0, hc1⟩ := box2 hb
    have HB := Lib.hid hB
    clear hB hb
    go_wp2_with fail
    refine (byAge_r f xs _ _ _ _ (H.out.on HB.out) HT.out).mono ?_
    rintro e w2 ⟨Zs, rfl, hz, hb⟩
    have HB2 := Lib.hid (HB.out.trans (hb.mono HB.out.size))
    have hix := index152 Zs x v (by omega) (by omega) (by rw [hz.get _ (by omega), HT.out.by x x0, HVV.out])
    clear hb hz
    go_wp2_with fail
    go_ret2
    exact ⟨ret_ii (by rw [HV.out, HVV.out]) HE.out.symm, HB2.out⟩
  · have HV := Lib.hid (laV_n h0)
    obtain ⟨E, hE⟩ : ∃ E, ageE f xs x = E := ⟨_, rfl⟩
    rw [hE] at h0 HC ⊢
    have hne : (E != 0) = true := by simpa using h0
    clear h0 hE
    go_enter Try.func19, Try.ntmps19
    go_wp2_with fail
    refine HC.out.mono ?_
    rintro e w1 ⟨rfl, hb⟩
    obtain ⟨hB, hc0, hc1⟩ := box2 hb
    have HB := Lib.hid hB
    clear hB hb
    go_wp2_with fail
    go_ret2
    exact ⟨ret_ii HV.out.symm rfl, HB.out⟩

end Go.Proofs.Ytmcagpcldjopjaa
