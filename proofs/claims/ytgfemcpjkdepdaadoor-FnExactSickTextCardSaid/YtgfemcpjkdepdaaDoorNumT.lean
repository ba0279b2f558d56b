/- TableText of the program: what the calls return. -/
import Derived.Test.YtgfemcpjkdepdaaDoorAppI
import Derived.Test.YtgfemcpjkdepdaaDoorTab
namespace Go.Proofs.YtgfemcpjkdepdaaDoor
open Go.ChangeShapes Go.WideShapes Go.ChangeAt Go.RowKit
set_option linter.unusedVariables false
set_option maxRecDepth 100000

/-- numbers that an int64 holds -/
def Wide (xs : List Int) : Prop := ∀ x ∈ xs, -9223372036854775808 ≤ x ∧ x ≤ 9223372036854775807

theorem Wide.get {xs : List Int} (h : Wide xs) (i : Nat) : -9223372036854775808 ≤ xs.getD i 0 ∧ xs.getD i 0 ≤ 9223372036854775807 := by
  by_cases hi : i < xs.length
  · rw [List.getD_eq_getElem?_getD, List.getElem?_eq_getElem hi]; exact h _ (List.getElem_mem _)
  · rw [getD_far _ _ (by omega)]; omega

theorem Wide.take {xs : List Int} (h : Wide xs) (k : Nat) : Wide (xs.take k) := fun x hx => h x (List.mem_of_mem_take hx)

theorem Nums.wide {xs : List Int} (h : Nums xs) : Wide xs := fun x hx => (by have := h x hx; omega)

theorem itoa_len64 (n : Int) (h0 : -9223372036854775808 ≤ n) (h1 : n ≤ 9223372036854775807) : (Lib.itoa n).length ≤ 21 := Lib.itoa_length_le n h0 h1

theorem tailT_len64 (r : List Int) (h : Wide r) : (tailT r).length ≤ 22 * r.length := by
  induction r with
  | nil => simp [tailT]
  | cons x t ih =>
    rw [tailT_cons, List.length_cons, List.length_append, List.length_cons]
    have h1 := itoa_len64 x (h x List.mem_cons_self).1 (h x List.mem_cons_self).2
    have h2 := ih fun y hy => h y (List.mem_cons_of_mem _ hy)
    omega

theorem jn_len64 (f : Int) (r : List Int) (h0 : -9223372036854775808 ≤ f) (h1 : f ≤ 9223372036854775807) (h : Wide r) : (jn (f :: r)).length ≤ 22 * r.length + 21 := by
  rw [jn, List.length_append]
  have h1 := itoa_len64 f h0 h1
  have h2 := tailT_len64 r h
  omega

theorem jn_take (f : Int) (xs : List Int) (k : Nat) (hk : k < xs.length) : jn (f :: xs.take (k + 1)) = jn (f :: xs.take k) ++ [32] ++ Lib.itoa (xs.getD k 0) := by
  rw [List.take_add_one, List.getElem?_eq_getElem hk]
  show jn (f :: (xs.take k ++ [xs[k]])) = _
  rw [jn_snoc]
  simp [List.getD, hk]

theorem OwnM.mono {base b2 : Nat} {w : World} {v : Value} {l : List UInt8} (h : OwnM base w v l) (hb : b2 ≤ base) : OwnM b2 w v l := by
  obtain ⟨g, cap, hv, hg, hr⟩ := h
  exact ⟨g, cap, hv, by omega, hr⟩

theorem bw_below (w : World) (s : ByteArray) : Below w.heap.size w (Lib.bytesWorld w 5 s) := Joins.below_bytesWorld _ _ _ _ (Nat.le_refl _)

theorem Tab.lt {w : World} (h : Tab w) : (0 : Nat) < w.heap.size := by
  have := World.var?_cell gTab h 0
  exact block_lt (p := ⟨0, 0, none⟩) (v := .int .u64 1) (by simpa [Lib.pow10Tab] using this)

set_option maxHeartbeats 4000000 in
theorem nt_any (f : Int) (xs : List Int) (a : Option Addr) (l c : Nat) (w : World) (h : Ints w a l xs) (f0 : -9223372036854775808 ≤ f) (f1 : f ≤ 9223372036854775807) (hw : Wide xs) (hl : l ≤ 1100000) (ht : Tab w) :
    Calls Tryd.prog 19 #[.int .i64 f, .slice a l c] w fun e w' => e = .returned (.string ⟨(jn (f :: xs)).toArray⟩) ∧ Below w.heap.size w w' := by
  have HL := Lib.hid h.len
  have HG := Lib.hid ht.lt
  have H := Lib.hid h
  have HT := Lib.hid ht
  have HW := Lib.hid hw
  clear h ht hw
  go_enter Tryd.func19, Tryd.ntmps19
  go_wp2_with fail
  refine (fmt_any f _ f0 f1 HT.out).mono ?_
  rintro e w1 ⟨rfl, hb1, ht1⟩
  have HB1 := Lib.hid hb1
  clear hb1 ht1
  obtain ⟨s, hs⟩ : ∃ s : ByteArray, (⟨(Lib.itoa f).toArray⟩ : ByteArray) = s := ⟨_, rfl⟩
  have hsl : s.data.toList = Lib.itoa f := by rw [← hs]
  have hsz : s.size ≤ 21 := by rw [← hs]; show (Lib.itoa f).toArray.size ≤ 21; simp; exact itoa_len64 f f0 f1
  rw [hs]
  have hcv := Lib.run_convert_string_bytes (P := Tryd.prog) w1 9 50 5 s Tryd.underlying9 Tryd.underlying50 Tryd.underlying5
  have ho := conv_ownM w1 s (by omega)
  rw [hsl] at ho
  obtain ⟨v0, hv0⟩ : ∃ v, Value.slice (some ⟨w1.heap.size, 0, none⟩) s.size (grownCap w1 s.size 0 5) = v := ⟨_, rfl⟩
  obtain ⟨w2, hw2⟩ : ∃ W, Lib.bytesWorld w1 5 s = W := ⟨_, rfl⟩
  have hb2 := bw_below w1 s
  rw [hv0, hw2] at hcv ho
  rw [hw2] at hb2
  have HO := Lib.hid (ho.mono HB1.out.size)
  have HB2 := Lib.hid (HB1.out.trans (hb2.mono HB1.out.size))
  clear hs hsl hsz ho hb2 hv0 hw2
  go_wp2_with fail
  clear hcv
  go_loopw [5, 13] (fun v i wr => ∃ k : Nat, k ≤ l ∧ i = .int .i64 k ∧ Hid (OwnM w.heap.size wr v (jn (f :: xs.take k))) ∧ Hid (Below w.heap.size w wr)) (fun _ i _ => l - (intOf i).toNat)
  case atStart => exact ⟨0, Nat.zero_le _, rfl, Lib.hid (by have := HO.out; simpa [jn, tailT] using this), HB2⟩
  case round =>
    obtain ⟨k, hk, rfl, HV, HB⟩ := hrel
    have hlen := jn_len64 f (xs.take k) f0 f1 (HW.out.take k)
    have hlk : (xs.take k).length ≤ k := List.length_take_le _ _
    have hsz := HB.out.size
    by_cases hlt : k < l
    · obtain ⟨b, off, rfl, hb, hc⟩ := H.out.at (by omega)
      have hx := (HB.out.cell (p := ⟨b, off + k, none⟩) hb).trans (hc k hlt)
      obtain ⟨n0, n1⟩ := HW.out.get k
      have HJ := Lib.hid (jn_take f xs k (by rw [HL.out]; exact hlt))
      obtain ⟨n, hn⟩ : ∃ n, xs.getD k 0 = n := ⟨_, rfl⟩
      rw [hn] at hx n0 n1 HJ
      obtain ⟨J, hJ⟩ : ∃ J, jn (f :: xs.take k) = J := ⟨_, rfl⟩
      rw [hJ] at hlen HJ HV
      have hx' : wr.cell? ⟨b, off + k, none⟩ = some (.int .i64 n) := hx
      have hJ2 : J.length ≤ 140737488353000 := by omega
      clear hn hJ hc hx
      go_wp2_with (at_builtin; refine wpM_slice rfl _ _ rfl w.heap.size _ J [32] rfl (HV.out.step (box_b _ _)) 1 1 ⟨wr.heap.size, 0, none⟩ rfl rfl (oneB (World.cell?_alloc_new _ _ _ _)) (by simp; omega) (by simp; omega) ?_)
      intro v1 w1 hown' hgrow
      have H1 := Lib.hid hown'
      have hB1 : Below w.heap.size w w1 := (HB.out.alloc hsz _).grown hgrow (by simp; omega) (fun k hk => (HV.out.lt k hk).1)
      have HC1 := Lib.hid hB1
      have hsz1 := hB1.size
      clear hown' hgrow hB1
      go_wp2_with fail
      refine (ai_any w.heap.size n n0 n1 v1 _ w1 H1.out hsz1 HG.out (by simp; omega) (HT.out.stepB HG.out HC1.out)).mono ?_
      rintro e w2 ⟨v2, rfl, hown2, hb2⟩
      have H2 := Lib.hid hown2
      have HC2 := Lib.hid (HC1.out.trans hb2)
      clear hown2 hb2
      go_wp2_with fail
      go_roundw
      case rel => exact ⟨k + 1, by omega, by go_num, Lib.hid (by rw [HJ.out]; exact H2.out), HC2⟩
      case measure => simp [intOf]; omega
    · obtain rfl : k = l := by omega
      have HX : Hid (xs.take k = xs) := Lib.hid (List.take_of_length_le (by rw [HL.out]; exact Nat.le_refl _))
      obtain ⟨g, cap, rfl, hg, hr⟩ := HV.out
      obtain ⟨J, hJ⟩ : ∃ J, jn (f :: xs.take k) = J := ⟨_, rfl⟩
      rw [hJ] at hr hlen
      (try rw [hJ])
      have hcb := run_convert_bytes_back (P := Tryd.prog) wr 50 9 5 ⟨g, 0, none⟩ cap J Tryd.underlying50 Tryd.underlying5 Tryd.underlying9 (by
        intro j hj
        refine hr.cells j _ ?_
        simp [Lib.byteCells, hj])
      have HJ := Lib.hid hJ
      clear hJ hr HV
      go_wp2_with fail
      go_ret
      exact ⟨ret_str (by have := HJ.out; rw [HX.out] at this; simp [this]), HB.out⟩

end Go.Proofs.YtgfemcpjkdepdaaDoor
