/- TableText of the model: what the calls return. -/
import Derived.Test.YtonkaoacohocjaaDoorTabTx
namespace Go.Proofs.YtonkaoacohocjaaDoor
open Go.ChangeShapes Go.WideShapes Go.ChangeAt Go.RowKit
set_option linter.unusedVariables false
set_option maxRecDepth 100000

theorem ownI_lit1 (w : World) (x : Int) : OwnI w.heap.size (w.alloc (.cells #[.int .i64 x] 2)) (.slice (some ⟨w.heap.size, 0, none⟩) 1 1) [x] :=
  World.ownsRow_lit w #[.int .i64 x] 1 (Nat.le_refl _) (by unfold maxLen; omega) rfl

/-- append of a whole list -/
theorem wpList_apps {w : World} {ops : Array Oper} {rest : List Oper} {o : Oper} {a : Act} {Q : Exit → Act → World → Prop} (hgd : o.guard = none) (s x : Operand)
    (ho : o.op = .call { callee := .builtin .append, args := #[s, x], argTypes := #[24, 24] })
    (base : Nat) (v : Value) (xs ys : List Int) (m cp : Nat) (hs : a.eval s = v) (hown : OwnI base w v xs) (ad : Addr) (hx : a.eval x = .slice (some ad) m cp) (hm : ys.length = m) (hc : ∀ j u, (ys.map (Value.int .i64))[j]? = some u → w.cell? (ad.add j) = some u)
    (hlen : xs.length + ys.length ≤ 4096) (hbase : base ≤ w.heap.size)
    (h : ∀ v' w', OwnI base w' v' (xs ++ ys) → w.grownBy w' v.ownBlock → wpList Tryd.prog ops Q rest (a.put o.dst v') w') : wpList Tryd.prog ops Q (o :: rest) a w := by
  obtain ⟨i0, hi, hz0, hz1, hz2⟩ := info_parts infoI
  have hmx : maxLen = maxLen := rfl
  unfold maxLen at hmx
  obtain ⟨v', w', hr, h2, h3, h4⟩ := run_append_own (P := Tryd.prog) w base 24 o.type 2 i0 (.int .i64 0) 1 8 Tryd.underlying24 hi hz0 hz1 hz2 rfl (by decide) v xs.length (xs.map (Value.int .i64)) hown ad m cp (ys.map (Value.int .i64)) (by simp [hm]) hc (by intro u hu; obtain ⟨q, _, rfl⟩ := List.mem_map.1 hu; rfl) (by unfold maxLen; omega) (by omega) hbase
  have h6 : OwnI base w' v' (xs ++ ys) := by
    unfold OwnI
    rw [List.length_append, List.map_append, hm]
    exact h2
  refine wpList_plain hgd fun _ hK => ?_
  unfold Oper.wp execOp
  simp only [ho, resolve, invoke, builtin, Sem.run_bind, Sem.run_pure, Result.andThen_ok, List.map_toArray, List.map_cons, List.map_nil, hs, hx, hr]
  exact hK _ _ (h v' w' h6 h3)

/-- the text of a table, and none of another value -/
def ttT (f : Int) (xs : List Int) : List UInt8 := if ltB f xs = true then jn (f :: xs) else []

theorem ttT_t {f : Int} {xs : List Int} (h : ltB f xs = true) : ttT f xs = jn (f :: xs) := by simp [ttT, h]

theorem ttT_f {f : Int} {xs : List Int} (h : ltB f xs = false) : ttT f xs = [] := by simp [ttT, h]

set_option maxRecDepth 100000 in
set_option maxHeartbeats 1000000 in
theorem tt_spec (f : Int) (xs : List Int) (a : Option Addr) (l c : Nat) (w : World) (h : Ints w a l xs) :
    Calls Tryd.prog 16 #[.agg #[.int .i64 f, .slice a l c]] w fun e w' => e = .returned (.string ⟨(ttT f xs).toArray⟩) ∧ Below w.heap.size w w' := by
  have HC := Lib.hid (isL_spec f xs a l c (w.alloc (.cells #[.int .i64 f, .slice a l c] 26)) (h.on (box_b _ _)))
  have HL := Lib.hid h.len
  have H := Lib.hid h
  clear h
  by_cases h1 : ltB f xs = true
  · have HT := Lib.hid (ttT_t h1)
    have ht := (ltB_iff _ _).1 h1
    have HN := Lib.hid ht.nums
    have hl := ht.2.1
    rw [HL.out] at hl
    obtain ⟨hl0, hl1⟩ := hl
    rw [h1] at HC
    obtain ⟨b, off, rfl, hb, hc⟩ := H.out.at (by omega)
    have HCC := Lib.hid hc
    clear h1 ht hc
    go_enter Tryd.func16, Tryd.ntmps16
    go_wp2_with fail
    refine HC.out.mono ?_
    rintro e w1 ⟨rfl, hb1⟩
    obtain ⟨hB, hc0, hc1⟩ := box2 hb1
    have HB := Lib.hid hB
    have HO := Lib.hid (ownI_lit1 w1 f)
    have HSC : Hid (∀ j u, (xs.map (Value.int .i64))[j]? = some u → (w1.alloc (.cells #[.int .i64 f] 2)).cell? ((⟨b, off, none⟩ : Addr).add j) = some u) := Lib.hid (by
      intro j u hj
      have hjl : j < l := by
        have := (List.getElem?_eq_some_iff.1 hj).1
        simpa [HL.out] using this
      rw [Go.WideShapes.add_plain, (HB.out.alloc HB.out.size _).cell (p := ⟨b, off + j, none⟩) hb, HCC.out j hjl]
      rw [List.getElem?_map, List.getElem?_eq_getElem (by rw [HL.out]; exact hjl)] at hj
      simp [List.getD, List.getElem?_eq_getElem (show j < xs.length by rw [HL.out]; exact hjl)] at hj ⊢
      exact hj)
    have hbs := HB.out.size
    have hlt0 : w.heap.size < w1.heap.size := block_lt hc0
    clear hB hb1
    go_wp2_with (at_builtin; refine wpList_apps rfl _ _ rfl w1.heap.size _ [f] xs l c rfl HO.out ⟨b, off, none⟩ rfl HL.out HSC.out (by simp; have := HL.out; omega) (by simp) ?_)
    intro v' w5 hown' hgrow
    have HO5 := Lib.hid hown'
    have HB5 := Lib.hid ((HB.out.alloc hbs _).grown hgrow (by simp; omega) (fun k hk => by have := (HO.out.lt k hk).1; omega))
    obtain ⟨a5, c5, rfl, h5⟩ := HO5.out.ints (by have := HL.out; simp; omega)
    have HI5 := Lib.hid h5
    have HLN : Hid ((f :: xs).length = l + 1) := Lib.hid (by have := HL.out; simp; omega)
    obtain ⟨n, hn⟩ : ∃ n, (f :: xs).length = n := ⟨_, rfl⟩
    rw [hn] at HI5 HLN
    (try rw [hn])
    have hn2 : n ≤ 1000 := by have := HLN.out; omega
    clear hown' hgrow h5 hn
    go_wp2_with fail
    refine (join_any (f :: xs) _ _ _ _ HI5.out HN.out hn2).mono ?_
    rintro e w6 ⟨rfl, hb6⟩
    have HB6 := Lib.hid (HB5.out.trans (hb6.mono HB5.out.size))
    clear hb6
    go_wp2_with fail
    go_ret
    exact ⟨ret_str (by rw [HT.out]), HB6.out⟩
  · have h1' : ltB f xs = false := by simpa using h1
    have HT := Lib.hid (ttT_f h1')
    rw [h1'] at HC
    clear h1 h1'
    go_enter Tryd.func16, Tryd.ntmps16
    go_wp2_with fail
    refine HC.out.mono ?_
    rintro e w1 ⟨rfl, hb1⟩
    obtain ⟨hB, hc0, hc1⟩ := box2 hb1
    have HB := Lib.hid hB
    clear hB hb1
    go_wp2_with fail
    go_ret
    exact ⟨ret_str (by rw [HT.out]), HB.out⟩

end Go.Proofs.YtonkaoacohocjaaDoor
