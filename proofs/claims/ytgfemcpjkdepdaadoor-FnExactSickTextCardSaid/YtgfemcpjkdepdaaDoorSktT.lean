/- SickText of the model and of the program, and the exact law on it. (Written by wip/gen/sictx.py.) -/
import Derived.Test.YtgfemcpjkdepdaaDoorSktN
import Derived.Test.YtgfemcpjkdepdaaDoorSit
import Derived.Test.YtgfemcpjkdepdaaDoorTabTs
import Derived.Test.YtgfemcpjkdepdaaDoorNumT
namespace Go.Proofs.YtgfemcpjkdepdaaDoor
open Go.ChangeShapes Go.WideShapes Go.ChangeAt Go.RowKit
set_option linter.unusedVariables false
set_option linter.unusedSimpArgs false
set_option maxRecDepth 100000

/-- the text of a table, and none of another value -/
def skT (f : Int) (xs : List Int) : List UInt8 := if skB f xs = true then jn (f :: xs) else []

theorem skT_t {f : Int} {xs : List Int} (h : skB f xs = true) : skT f xs = jn (f :: xs) := by simp [skT, h]

theorem skT_f {f : Int} {xs : List Int} (h : skB f xs = false) : skT f xs = [] := by simp [skT, h]

set_option maxRecDepth 100000 in
set_option maxHeartbeats 1000000 in
theorem sst_spec (f : Int) (xs : List Int) (a : Option Addr) (l c : Nat) (w : World) (h : Ints w a l xs) :
    Calls Tryd.prog 6 #[.agg #[.int .i64 f, .slice a l c]] w fun e w' => e = .returned (.string ⟨(skT f xs).toArray⟩) ∧ Below w.heap.size w w' := by
  have HC := Lib.hid (isS_spec f xs a l c (w.alloc (.cells #[.int .i64 f, .slice a l c] 27)) (h.on (box_b _ _)))
  have HL := Lib.hid h.len
  have H := Lib.hid h
  clear h
  by_cases h1 : skB f xs = true
  · have HT := Lib.hid (skT_t h1)
    have ht := (skB_iff _ _).1 h1
    have HN := Lib.hid ht.nums
    have hl := ht.2.1
    rw [HL.out] at hl
    obtain ⟨hl0, hl1⟩ := hl
    rw [h1] at HC
    obtain ⟨b, off, rfl, hb, hc⟩ := H.out.at (by omega)
    have HCC := Lib.hid hc
    clear h1 ht hc
    go_enter Tryd.func6, Tryd.ntmps6
    go_wp2_with fail
    refine HC.out.mono ?_
    rintro e w1 ⟨rfl, hb1⟩
    obtain ⟨hB, hc0, hc1⟩ := box2 hb1
    have HB := Lib.hid hB
    have HO := Lib.hid (ownI_lit1 w1 f)
    have HSC : Hid (∀ j u, (xs.map (Value.int .i64))[j]? = some u → (w1.alloc (.cells #[.int .i64 f] 2)).cell? ((⟨b, off, none⟩ : Addr).add j) = some u) := Lib.hid (by
      intro j u hj
      have hjl : j < l := by
        have := (List.getElem?_eq_some_iff.1 hj).1
        simpa [HL.out] using this
      rw [Go.WideShapes.add_plain, (HB.out.alloc HB.out.size _).cell (p := ⟨b, off + j, none⟩) hb, HCC.out j hjl]
      rw [List.getElem?_map, List.getElem?_eq_getElem (by rw [HL.out]; exact hjl)] at hj
      simp [List.getD, List.getElem?_eq_getElem (show j < xs.length by rw [HL.out]; exact hjl)] at hj ⊢
      exact hj)
    have hbs := HB.out.size
    have hlt0 : w.heap.size < w1.heap.size := block_lt hc0
    clear hB hb1
    go_wp2_with (at_builtin; refine wpList_apps rfl _ _ rfl w1.heap.size _ [f] xs l c rfl HO.out ⟨b, off, none⟩ rfl HL.out HSC.out (by simp; have := HL.out; omega) (by simp) ?_)
    intro v' w5 hown' hgrow
    have HO5 := Lib.hid hown'
    have HB5 := Lib.hid ((HB.out.alloc hbs _).grown hgrow (by simp; omega) (fun k hk => by have := (HO.out.lt k hk).1; omega))
    obtain ⟨a5, c5, rfl, h5⟩ := HO5.out.ints (by have := HL.out; simp; omega)
    have HI5 := Lib.hid h5
    have HLN : Hid ((f :: xs).length = l + 1) := Lib.hid (by have := HL.out; simp; omega)
    obtain ⟨n, hn⟩ : ∃ n, (f :: xs).length = n := ⟨_, rfl⟩
    rw [hn] at HI5 HLN
    (try rw [hn])
    have hn2 : n ≤ 1000 := by have := HLN.out; omega
    clear hown' hgrow h5 hn
    go_wp2_with fail
    refine (join_any (f :: xs) _ _ _ _ HI5.out HN.out hn2).mono ?_
    rintro e w6 ⟨rfl, hb6⟩
    have HB6 := Lib.hid (HB5.out.trans (hb6.mono HB5.out.size))
    clear hb6
    go_wp2_with fail
    go_ret
    exact ⟨ret_str (by rw [HT.out]), HB6.out⟩
  · have h1' : skB f xs = false := by simpa using h1
    have HT := Lib.hid (skT_f h1')
    rw [h1'] at HC
    clear h1 h1'
    go_enter Tryd.func6, Tryd.ntmps6
    go_wp2_with fail
    refine HC.out.mono ?_
    rintro e w1 ⟨rfl, hb1⟩
    obtain ⟨hB, hc0, hc1⟩ := box2 hb1
    have HB := Lib.hid hB
    clear hB hb1
    go_wp2_with fail
    go_ret
    exact ⟨ret_str (by rw [HT.out]), HB.out⟩

set_option maxHeartbeats 1000000 in
theorem ist_impl (f : Int) (xs : List Int) (a : Option Addr) (l c : Nat) (w : World) (h : Ints w a l xs) (hlc : l ≤ c) (ht : Tab w) :
    Calls Tryd.prog 8 #[.agg #[.int .i64 f, .slice a l c]] w fun e w' => e = .returned (.string ⟨(skT f xs).toArray⟩) ∧ Below w.heap.size w w' := by
  have HC := Lib.hid (isS_impl f xs a l c (w.alloc (.cells #[.int .i64 f, .slice a l c] 27)) (h.on (box_b _ _)) hlc)
  have HL := Lib.hid h.len
  have HG := Lib.hid ht.lt
  have H := Lib.hid h
  have HT := Lib.hid ht
  clear h ht
  by_cases h1 : skB f xs = true
  · have HX := Lib.hid (skT_t h1)
    have h2 := (skB_iff _ _).1 h1
    have HN := Lib.hid h2.nums
    have hl := h2.2.1
    rw [HL.out] at hl
    obtain ⟨hl0, hl1⟩ := hl
    rw [h1] at HC
    clear h1 h2
    go_enter Tryd.func8, Tryd.ntmps8
    go_wp2_with fail
    refine HC.out.mono ?_
    rintro e w1 ⟨rfl, hb1⟩
    obtain ⟨hB, hc0, hc1⟩ := box2 hb1
    have HB := Lib.hid hB
    clear hB hb1
    go_wp2_with fail
    refine (nt_any f xs _ l _ _ (H.out.on HB.out) (by have := HN.out f List.mem_cons_self; omega) (by have := HN.out f List.mem_cons_self; omega) (fun x hx => by have := HN.out x (List.mem_cons_of_mem _ hx); omega) (by omega) (HT.out.stepB HG.out HB.out)).mono ?_
    rintro e w2 ⟨rfl, hb2⟩
    have HB2 := Lib.hid (HB.out.trans (hb2.mono HB.out.size))
    clear hb2
    go_wp2_with fail
    go_ret
    exact ⟨ret_str (by rw [HX.out]), HB2.out⟩
  · have h1' : skB f xs = false := by simpa using h1
    have HX := Lib.hid (skT_f h1')
    rw [h1'] at HC
    clear h1 h1'
    go_enter Tryd.func8, Tryd.ntmps8
    go_wp2_with fail
    refine HC.out.mono ?_
    rintro e w1 ⟨rfl, hb1⟩
    obtain ⟨hB, hc0, hc1⟩ := box2 hb1
    have HB := Lib.hid hB
    clear hB hb1
    go_wp2_with fail
    go_ret
    exact ⟨ret_str (by rw [HX.out]), HB.out⟩

set_option maxHeartbeats 1000000 in
theorem fnExactSickText_walk (f0 : Int) (a0 : Option Addr) (len0 cap0 : Nat) (z0 : List Int)  (w : World) (w0 : IsRow .i64 w a0 len0 cap0 z0) (ht : Tab w)  :
    Calls Tryd.prog 3 #[.agg #[.int .i64 f0, .slice a0 len0 cap0]] w fun e w' => e = .returned (.bool true) ∧ Below w.heap.size w w' := by
  have HG := Lib.hid ht.lt
  have HT := Lib.hid ht
  clear ht
  have hmx := w0.len_le
  unfold maxLen at hmx
  by_cases hbig : (1048576 : Int) < len0
  · go_enter Tryd.func3, Tryd.ntmps3
    go_wp2_with fail
    refine (szK_big2 _ _ _ _ _ _ (by omega) (by omega) (by omega) hbig).mono ?_
    rintro e w1 ⟨rfl, hb⟩
    obtain ⟨hB, hc0, hc1⟩ := box2 hb
    have HB := Lib.hid hB
    clear hb hB
    go_wp2_with fail
    go_ret
    exact ⟨rfl, HB.out⟩
  · have h0 := w0.ints (by omega)
    obtain ⟨xs, hxs⟩ : ∃ xs, z0.take len0 = xs := ⟨_, rfl⟩
    rw [hxs] at h0
    have H := Lib.hid h0
    have HL := Lib.hid h0.len
    have hfit : (len0 : Int) ≤ 1048576 := by omega
    clear h0 w0 hxs hbig hmx
    go_enter Tryd.func3, Tryd.ntmps3
    go_wp2_with fail
    refine (szK_fit2 _ _ _ _ _ _ (by omega) (by omega) hfit).mono ?_
    rintro e w1 ⟨rfl, hb⟩
    obtain ⟨hB, hc0, hc1⟩ := box2 hb
    have HB := Lib.hid hB
    clear hb hB
    go_wp2_with fail
    refine (toK_any f0 xs _ _ _ _ (H.out.on HB.out) (by omega)).mono ?_
    rintro e w2 ⟨B1, rfl, hg1, hk1, hb⟩
    have hd0 := keep2 hb hc0
    have hd1 := keep2 hb hc1
    have HB2 := Lib.hid (HB.out.trans (hb.mono HB.out.size))
    have HK1 := Lib.hid hk1
    clear hb hk1 hc0 hc1 HB
    go_wp2_with fail
    refine (sst_spec f0 xs _ _ _  _ (HK1.out.ints HL.out (by omega))).mono ?_
    rintro e w3 ⟨rfl, hb⟩
    have hc0 := keep2 hb hd0
    have hc1 := keep2 hb hd1
    have HB3 := Lib.hid (HB2.out.trans (hb.mono HB2.out.size))
    clear hb hd0 hd1 HB2
    go_wp2_with fail
    refine (toK_any f0 xs _ _ _ _ (H.out.on HB3.out) (by omega)).mono ?_
    rintro e w4 ⟨B2, rfl, hg2, hk2, hb⟩
    have hd0 := keep2 hb hc0
    have hd1 := keep2 hb hc1
    have HB4 := Lib.hid (HB3.out.trans (hb.mono HB3.out.size))
    have HK2 := Lib.hid hk2
    clear hb hk2 hc0 hc1 HB3
    go_wp2_with fail
    refine (ist_impl f0 xs _ _ _  _ ((HK2.out.alloc _).ints HL.out (by omega)) (Nat.le_refl _) (HT.out.stepB HG.out (HB4.out.alloc HB4.out.size _))).mono ?_
    rintro e w5 ⟨rfl, hb⟩
    obtain ⟨hB, hx0, hx1⟩ := box2 hb
    have hc0 := keep2 hB hd0
    have hc1 := keep2 hB hd1
    have HB5 := Lib.hid (HB4.out.trans (hB.mono HB4.out.size))
    have HK5 := Lib.hid (HK2.out.step hB)
    have HXS : Hid (∀ W, Hid (Below w.heap.size w W) → Calls Tryd.prog 7 #[.agg #[.int .i64 f0, .slice a0 len0 cap0]] W (ToPost W f0 xs len0)) := Lib.hid (fun W hW => toK_any f0 xs _ _ _ W (H.out.on hW.out) (by omega))
    have HEQ : Hid (∀ W B3, Hid (Blk W B2 xs) → Hid (Blk W B3 xs) → Calls Tryd.prog 9 #[.agg #[.int .i64 f0, .slice (some ⟨B2, 0, none⟩) len0 len0], .agg #[.int .i64 f0, .slice (some ⟨B3, 0, none⟩) len0 len0]] W fun e w' => e = .returned (.bool true) ∧ Below W.heap.size W w') := Lib.hid (fun W B3 hW hV => eqK_same f0 xs _ _ _ _ _ _ W (hW.out.ints HL.out (by omega)) (hV.out.ints HL.out (by omega)))
    obtain ⟨X, hX⟩ : ∃ X, w4.heap.size = X := ⟨_, rfl⟩
    rw [hX] at hx0 hx1
    clear hb hB hd0 hd1 HK1 HK2 HB4
    go_wp2_with fail
    (try rw [hX])
    clear hX
    go_region_held3 (fun w' => w'.cell? ⟨X, 0, none⟩ = some (.int .i64 f0) ∧ w'.cell? ⟨X, 1, none⟩ = some (.slice (some ⟨B2, 0, none⟩) len0 len0) ∧ w'.cell? ⟨w.heap.size, 0, none⟩ = some (.int .i64 f0) ∧ w'.cell? ⟨w.heap.size, 1, none⟩ = some (.slice a0 len0 cap0) ∧ Hid (Below w.heap.size w w') ∧ Hid (Blk w' B2 xs))
      (first
        | (go_split_ands; exact ⟨by assumption, by assumption, by assumption, by assumption, by assumption, by assumption⟩)
        | (go_split_ands; exact ⟨by assumption, by assumption, by assumption, by assumption, Lib.hid (Below.drew (Hid.out (by assumption))), Lib.hid (Blk.drewN (Hid.out (by assumption)) 1)⟩)
        | (go_split_ands; exact ⟨keep2 hb (by assumption), keep2 hb (by assumption), keep2 hb (by assumption), keep2 hb (by assumption), Lib.hid (Below.trans (Hid.out (by assumption)) (Below.mono hb (Below.size (Hid.out (by assumption))))), Lib.hid (Blk.step (Hid.out (by assumption)) hb)⟩))
      (first
        | (go_split_ands; go_at_call 7; ((with_reducible refine (HXS.out _ (by assumption)).mono ?_); rintro e w' ⟨B3, rfl, hg3, hk3, hb⟩; have HK3 := Lib.hid hk3; clear hk3))
        | (go_split_ands; go_at_call 9; ((with_reducible refine (HEQ.out _ _ (by assumption) (by assumption)).mono ?_); rintro e w' ⟨rfl, hb⟩)))
    all_goals
      go_split_ands
      go_wp2_with fail
      go_ret
      exact ⟨rfl, Hid.out (by assumption)⟩

end Go.Proofs.YtgfemcpjkdepdaaDoor
