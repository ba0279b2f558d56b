/- Merged: NumT, TTI, Wds. -/
import Derived.Test.YtonkaoacohocjaaDoorLt2
import Derived.Test.YtonkaoacohocjaaDoorLt7
import Derived.Lib.SplitLaws
import Derived.Lib.ParseIntBTie

/- TableText of the program: what the calls return. -/
namespace Go.Proofs.YtonkaoacohocjaaDoor
open Go.ChangeShapes Go.WideShapes Go.ChangeAt Go.RowKit
set_option linter.unusedVariables false
set_option maxRecDepth 100000

/-- numbers that an int64 holds -/
def Wide (xs : List Int) : Prop := ∀ x ∈ xs, -9223372036854775808 ≤ x ∧ x ≤ 9223372036854775807

theorem Wide.get {xs : List Int} (h : Wide xs) (i : Nat) : -9223372036854775808 ≤ xs.getD i 0 ∧ xs.getD i 0 ≤ 9223372036854775807 := by
  by_cases hi : i < xs.length
  · rw [List.getD_eq_getElem?_getD, List.getElem?_eq_getElem hi]; exact h _ (List.getElem_mem _)
  · rw [getD_far _ _ (by omega)]; omega

theorem Wide.take {xs : List Int} (h : Wide xs) (k : Nat) : Wide (xs.take k) := fun x hx => h x (List.mem_of_mem_take hx)

theorem Nums.wide {xs : List Int} (h : Nums xs) : Wide xs := fun x hx => (by have := h x hx; omega)

theorem itoa_len64 (n : Int) (h0 : -9223372036854775808 ≤ n) (h1 : n ≤ 9223372036854775807) : (Lib.itoa n).length ≤ 21 := Lib.itoa_length_le n h0 h1

theorem tailT_len64 (r : List Int) (h : Wide r) : (tailT r).length ≤ 22 * r.length := by
  induction r with
  | nil => simp [tailT]
  | cons x t ih =>
    rw [tailT_cons, List.length_cons, List.length_append, List.length_cons]
    have h1 := itoa_len64 x (h x List.mem_cons_self).1 (h x List.mem_cons_self).2
    have h2 := ih fun y hy => h y (List.mem_cons_of_mem _ hy)
    omega

theorem jn_len64 (f : Int) (r : List Int) (h0 : -9223372036854775808 ≤ f) (h1 : f ≤ 9223372036854775807) (h : Wide r) : (jn (f :: r)).length ≤ 22 * r.length + 21 := by
  rw [jn, List.length_append]
  have h1 := itoa_len64 f h0 h1
  have h2 := tailT_len64 r h
  omega

theorem jn_take (f : Int) (xs : List Int) (k : Nat) (hk : k < xs.length) : jn (f :: xs.take (k + 1)) = jn (f :: xs.take k) ++ [32] ++ Lib.itoa (xs.getD k 0) := by
  rw [List.take_add_one, List.getElem?_eq_getElem hk]
  show jn (f :: (xs.take k ++ [xs[k]])) = _
  rw [jn_snoc]
  simp [List.getD, hk]

theorem OwnM.mono {base b2 : Nat} {w : World} {v : Value} {l : List UInt8} (h : OwnM base w v l) (hb : b2 ≤ base) : OwnM b2 w v l := by
  obtain ⟨g, cap, hv, hg, hr⟩ := h
  exact ⟨g, cap, hv, by omega, hr⟩

theorem bw_below (w : World) (s : ByteArray) : Below w.heap.size w (Lib.bytesWorld w 5 s) := Joins.below_bytesWorld _ _ _ _ (Nat.le_refl _)

theorem Tab.lt {w : World} (h : Tab w) : (0 : Nat) < w.heap.size := by
  have := World.var?_cell gTab h 0
  exact block_lt (p := ⟨0, 0, none⟩) (v := .int .u64 1) (by simpa [Lib.pow10Tab] using this)

set_option maxHeartbeats 4000000 in
theorem nt_any (f : Int) (xs : List Int) (a : Option Addr) (l c : Nat) (w : World) (h : Ints w a l xs) (f0 : -9223372036854775808 ≤ f) (f1 : f ≤ 9223372036854775807) (hw : Wide xs) (hl : l ≤ 1100000) (ht : Tab w) :
    Calls Tryd.prog 29 #[.int .i64 f, .slice a l c] w fun e w' => e = .returned (.string ⟨(jn (f :: xs)).toArray⟩) ∧ Below w.heap.size w w' := by
  have HL := Lib.hid h.len
  have HG := Lib.hid ht.lt
  have H := Lib.hid h
  have HT := Lib.hid ht
  have HW := Lib.hid hw
  clear h ht hw
  go_enter Tryd.func29, Tryd.ntmps29
  go_wp2_with fail
  refine (fmt_any f _ f0 f1 HT.out).mono ?_
  rintro e w1 ⟨rfl, hb1, ht1⟩
  have HB1 := Lib.hid hb1
  clear hb1 ht1
  obtain ⟨s, hs⟩ : ∃ s : ByteArray, (⟨(Lib.itoa f).toArray⟩ : ByteArray) = s := ⟨_, rfl⟩
  have hsl : s.data.toList = Lib.itoa f := by rw [← hs]
  have hsz : s.size ≤ 21 := by rw [← hs]; show (Lib.itoa f).toArray.size ≤ 21; simp; exact itoa_len64 f f0 f1
  rw [hs]
  have hcv := Lib.run_convert_string_bytes (P := Tryd.prog) w1 9 22 5 s Tryd.underlying9 Tryd.underlying22 Tryd.underlying5
  have ho := conv_ownM w1 s (by omega)
  rw [hsl] at ho
  obtain ⟨v0, hv0⟩ : ∃ v, Value.slice (some ⟨w1.heap.size, 0, none⟩) s.size (grownCap w1 s.size 0 5) = v := ⟨_, rfl⟩
  obtain ⟨w2, hw2⟩ : ∃ W, Lib.bytesWorld w1 5 s = W := ⟨_, rfl⟩
  have hb2 := bw_below w1 s
  rw [hv0, hw2] at hcv ho
  rw [hw2] at hb2
  have HO := Lib.hid (ho.mono HB1.out.size)
  have HB2 := Lib.hid (HB1.out.trans (hb2.mono HB1.out.size))
  clear hs hsl hsz ho hb2 hv0 hw2
  go_wp2_with fail
  clear hcv
  go_loopw [5, 13] (fun v i wr => ∃ k : Nat, k ≤ l ∧ i = .int .i64 k ∧ Hid (OwnM w.heap.size wr v (jn (f :: xs.take k))) ∧ Hid (Below w.heap.size w wr)) (fun _ i _ => l - (intOf i).toNat)
  case atStart => exact ⟨0, Nat.zero_le _, rfl, Lib.hid (by have := HO.out; simpa [jn, tailT] using this), HB2⟩
  case round =>
    obtain ⟨k, hk, rfl, HV, HB⟩ := hrel
    have hlen := jn_len64 f (xs.take k) f0 f1 (HW.out.take k)
    have hlk : (xs.take k).length ≤ k := List.length_take_le _ _
    have hsz := HB.out.size
    by_cases hlt : k < l
    · obtain ⟨b, off, rfl, hb, hc⟩ := H.out.at (by omega)
      have hx := (HB.out.cell (p := ⟨b, off + k, none⟩) hb).trans (hc k hlt)
      obtain ⟨n0, n1⟩ := HW.out.get k
      have HJ := Lib.hid (jn_take f xs k (by rw [HL.out]; exact hlt))
      obtain ⟨n, hn⟩ : ∃ n, xs.getD k 0 = n := ⟨_, rfl⟩
      rw [hn] at hx n0 n1 HJ
      obtain ⟨J, hJ⟩ : ∃ J, jn (f :: xs.take k) = J := ⟨_, rfl⟩
      rw [hJ] at hlen HJ HV
      have hx' : wr.cell? ⟨b, off + k, none⟩ = some (.int .i64 n) := hx
      have hJ2 : J.length ≤ 140737488353000 := by omega
      clear hn hJ hc hx
      go_wp2_with (at_builtin; refine wpM_slice rfl _ _ rfl w.heap.size _ J [32] rfl (HV.out.step (box_b _ _)) 1 1 ⟨wr.heap.size, 0, none⟩ rfl rfl (oneB (World.cell?_alloc_new _ _ _ _)) (by simp; omega) (by simp; omega) ?_)
      intro v1 w1 hown' hgrow
      have H1 := Lib.hid hown'
      have hB1 : Below w.heap.size w w1 := (HB.out.alloc hsz _).grown hgrow (by simp; omega) (fun k hk => (HV.out.lt k hk).1)
      have HC1 := Lib.hid hB1
      have hsz1 := hB1.size
      clear hown' hgrow hB1
      go_wp2_with fail
      refine (ai_any w.heap.size n n0 n1 v1 _ w1 H1.out hsz1 HG.out (by simp; omega) (HT.out.stepB HG.out HC1.out)).mono ?_
      rintro e w2 ⟨v2, rfl, hown2, hb2⟩
      have H2 := Lib.hid hown2
      have HC2 := Lib.hid (HC1.out.trans hb2)
      clear hown2 hb2
      go_wp2_with fail
      go_roundw
      case rel => exact ⟨k + 1, by omega, by go_num, Lib.hid (by rw [HJ.out]; exact H2.out), HC2⟩
      case measure => simp [intOf]; omega
    · obtain rfl : k = l := by omega
      have HX : Hid (xs.take k = xs) := Lib.hid (List.take_of_length_le (by rw [HL.out]; exact Nat.le_refl _))
      obtain ⟨g, cap, rfl, hg, hr⟩ := HV.out
      obtain ⟨J, hJ⟩ : ∃ J, jn (f :: xs.take k) = J := ⟨_, rfl⟩
      rw [hJ] at hr hlen
      (try rw [hJ])
      have hcb := run_convert_bytes_back (P := Tryd.prog) wr 22 9 5 ⟨g, 0, none⟩ cap J Tryd.underlying22 Tryd.underlying5 Tryd.underlying9 (by
        intro j hj
        refine hr.cells j _ ?_
        simp [Lib.byteCells, hj])
      have HJ := Lib.hid hJ
      clear hJ hr HV
      go_wp2_with fail
      go_ret
      exact ⟨ret_str (by have := HJ.out; rw [HX.out] at this; simp [this]), HB.out⟩

end Go.Proofs.YtonkaoacohocjaaDoor

/- TableText of the program: what the calls return. -/
namespace Go.Proofs.YtonkaoacohocjaaDoor
open Go.ChangeShapes Go.WideShapes Go.ChangeAt Go.RowKit
set_option linter.unusedVariables false
set_option maxRecDepth 100000

set_option maxHeartbeats 1000000 in
theorem tt_impl (f : Int) (xs : List Int) (a : Option Addr) (l c : Nat) (w : World) (h : Ints w a l xs) (hlc : l ≤ c) (ht : Tab w) :
    Calls Tryd.prog 12 #[.agg #[.int .i64 f, .slice a l c]] w fun e w' => e = .returned (.string ⟨(ttT f xs).toArray⟩) ∧ Below w.heap.size w w' := by
  have HC := Lib.hid (isL_impl f xs a l c (w.alloc (.cells #[.int .i64 f, .slice a l c] 26)) (h.on (box_b _ _)) hlc)
  have HL := Lib.hid h.len
  have HG := Lib.hid ht.lt
  have H := Lib.hid h
  have HT := Lib.hid ht
  clear h ht
  by_cases h1 : ltB f xs = true
  · have HX := Lib.hid (ttT_t h1)
    have h2 := (ltB_iff _ _).1 h1
    have HN := Lib.hid h2.nums
    have hl := h2.2.1
    rw [HL.out] at hl
    obtain ⟨hl0, hl1⟩ := hl
    rw [h1] at HC
    clear h1 h2
    go_enter Tryd.func12, Tryd.ntmps12
    go_wp2_with fail
    refine HC.out.mono ?_
    rintro e w1 ⟨rfl, hb1⟩
    obtain ⟨hB, hc0, hc1⟩ := box2 hb1
    have HB := Lib.hid hB
    clear hB hb1
    go_wp2_with fail
    refine (nt_any f xs _ l _ _ (H.out.on HB.out) (by have := HN.out f List.mem_cons_self; omega) (by have := HN.out f List.mem_cons_self; omega) (fun x hx => by have := HN.out x (List.mem_cons_of_mem _ hx); omega) (by omega) (HT.out.stepB HG.out HB.out)).mono ?_
    rintro e w2 ⟨rfl, hb2⟩
    have HB2 := Lib.hid (HB.out.trans (hb2.mono HB.out.size))
    clear hb2
    go_wp2_with fail
    go_ret
    exact ⟨ret_str (by rw [HX.out]), HB2.out⟩
  · have h1' : ltB f xs = false := by simpa using h1
    have HX := Lib.hid (ttT_f h1')
    rw [h1'] at HC
    clear h1 h1'
    go_enter Tryd.func12, Tryd.ntmps12
    go_wp2_with fail
    refine HC.out.mono ?_
    rintro e w1 ⟨rfl, hb1⟩
    obtain ⟨hB, hc0, hc1⟩ := box2 hb1
    have HB := Lib.hid hB
    clear hB hb1
    go_wp2_with fail
    go_ret
    exact ⟨ret_str (by rw [HX.out]), HB.out⟩

end Go.Proofs.YtonkaoacohocjaaDoor

/- What the text of a life table reads as: plain facts; slices of words. -/
namespace Go.Proofs.YtonkaoacohocjaaDoor
open Go.ChangeShapes Go.WideShapes Go.ChangeAt Go.RowKit
set_option linter.unusedVariables false
set_option maxRecDepth 100000

/-- what strconv.ParseInt makes of a word -/
def pv (l : List UInt8) : Option Int := match Lib.parseIntB 64 l with | .ok v => some v | _ => none

theorem pv_ok {l : List UInt8} {v : Int} (h : Lib.parseIntB 64 l = .ok v) : pv l = some v := by unfold pv; rw [h]

theorem pv_no {l : List UInt8} (h : ∀ v, Lib.parseIntB 64 l ≠ .ok v) : pv l = none := by
  unfold pv; split
  · next v hv => exact absurd hv (h v)
  · rfl

def allP (ws : List (List UInt8)) : Bool := ws.all fun w => (pv w).isSome

def vals (ws : List (List UInt8)) : List Int := ws.map fun w => (pv w).getD 0

theorem pv_wide (l : List UInt8) : -9223372036854775808 ≤ (pv l).getD 0 ∧ (pv l).getD 0 ≤ 9223372036854775807 := by
  unfold pv; split
  · next v hv =>
    obtain ⟨a, b⟩ := Lib.parseIntB_bounds hv
    have e : (2 : Nat) ^ (64 - 1) = 9223372036854775808 := by decide
    rw [e] at a b
    simp; omega
  · simp

theorem vals_wide (ws : List (List UInt8)) : Wide (vals ws) := by
  intro x hx
  obtain ⟨w, _, rfl⟩ := List.mem_map.1 hx
  exact pv_wide w

/-- the numbers of a text -/
def rnF (l : List UInt8) : Int := (vals (sp l)).getD 0 0

def rnL (l : List UInt8) : List Int := (vals (sp l)).drop 1

theorem rn_cons (l : List UInt8) : rnF l :: rnL l = vals (sp l) := by
  unfold rnF rnL vals
  cases hs : sp l with
  | nil => exact absurd hs (sp_ne l)
  | cons w ws => simp

def rnO (l : List UInt8) : Bool := allP (sp l) && (jn (rnF l :: rnL l) == l)

/-- the life table of a text -/
def rtO (l : List UInt8) : Bool := rnO l && ltB (rnF l) (rnL l)

def sgs (l : List UInt8) : List Int := (sp l).map sgV

def stO (l : List UInt8) : Bool := (sp l).all sgO && (decide (2 ≤ (sp l).length) && ltB ((sgs l).getD 0 0) ((sgs l).drop 1))

theorem pv_itoa (n : Int) (h0 : 0 ≤ n) (h1 : n ≤ 1000000000000) : pv (Lib.itoa n) = some n := pv_ok (parse_itoa n h0 h1)

theorem rt_st {l : List UInt8} (h : rtO l = true) : stO l = true ∧ sgs l = rnF l :: rnL l := by
  unfold rtO rnO at h
  rw [Bool.and_eq_true, Bool.and_eq_true] at h
  obtain ⟨⟨h1, h2⟩, h3⟩ := h
  have h2 : jn (rnF l :: rnL l) = l := by simpa using h2
  have ht := (ltB_iff _ _).1 h3
  have hn := ht.nums
  have hs : sp l = (rnF l :: rnL l).map Lib.itoa := by
    rw [← sp_jn _ _ (fun x hx => (hn x hx).1), h2]
  have hg : sgs l = rnF l :: rnL l := by
    unfold sgs
    rw [hs, List.map_map]
    conv => rhs; rw [← List.map_id (rnF l :: rnL l)]
    refine List.map_congr_left fun x hx => ?_
    have := hn x hx
    exact (sg_itoa x this.1 (by omega)).2
  refine ⟨?_, hg⟩
  unfold stO
  rw [Bool.and_eq_true, Bool.and_eq_true]
  refine ⟨?_, ?_, ?_⟩
  · rw [hs, List.all_eq_true]
    intro w hw
    obtain ⟨x, hx, rfl⟩ := List.mem_map.1 hw
    have := hn x hx
    exact (sg_itoa x this.1 (by omega)).1
  · rw [hs]
    have := ht.2.1
    simp; omega
  · rw [hg]; exact h3

theorem st_rt {l : List UInt8} (h : stO l = true) : rtO l = true := by
  unfold stO at h
  rw [Bool.and_eq_true, Bool.and_eq_true] at h
  obtain ⟨h1, h2, h3⟩ := h
  have ht := (ltB_iff _ _).1 h3
  have hn := ht.nums
  have hc : (sgs l).getD 0 0 :: (sgs l).drop 1 = sgs l := by
    unfold sgs
    cases hs : sp l with
    | nil => exact absurd hs (sp_ne l)
    | cons w ws => simp
  rw [hc] at hn
  rw [List.all_eq_true] at h1
  have hw : ∀ w ∈ sp l, pv w = some (sgV w) := by
    intro w hw
    have e := sgO_itoa (h1 w hw)
    have b := hn (sgV w) (List.mem_map.2 ⟨w, hw, rfl⟩)
    conv => lhs; rw [e]
    exact pv_itoa _ b.1 (by omega)
  have hv : vals (sp l) = sgs l := by
    unfold vals sgs
    exact List.map_congr_left fun w hm => by rw [hw w hm]; rfl
  have e1 : rnF l = (sgs l).getD 0 0 := by unfold rnF; rw [hv]
  have e2 : rnL l = (sgs l).drop 1 := by unfold rnL; rw [hv]
  unfold rtO rnO
  rw [Bool.and_eq_true, Bool.and_eq_true]
  refine ⟨⟨?_, ?_⟩, by rw [e1, e2]; exact h3⟩
  · unfold allP
    rw [List.all_eq_true]
    intro w hm
    rw [hw w hm]; rfl
  · rw [e1, e2, hc, beq_iff_eq]
    have hs : sgs l ≠ [] := by unfold sgs; simp [sp_ne]
    cases hg : sgs l with
    | nil => exact absurd hg hs
    | cons x t =>
      rw [jn_jw, ← List.map_cons, ← hg]
      have : (sgs l).map Lib.itoa = sp l := by
        unfold sgs
        rw [List.map_map]
        conv => rhs; rw [← List.map_id (sp l)]
        exact List.map_congr_left fun w hm => (sgO_itoa (h1 w hm)).symm
      rw [this, jw_sp]

theorem st_eq (l : List UInt8) : stO l = rtO l := by
  cases h : rtO l with
  | true => exact (rt_st h).1
  | false =>
    cases h2 : stO l with
    | true => rw [st_rt h2] at h; cases h
    | false => rfl

theorem sp_short (l : List UInt8) : (sp l).length ≤ l.length + 1 ∧ ∀ w ∈ sp l, w.length ≤ l.length := by
  induction l with
  | nil => simp [sp]
  | cons c t ih =>
    unfold sp
    split
    · refine ⟨by simp; exact ih.1, fun w hw => ?_⟩
      rcases List.mem_cons.1 hw with rfl | hw
      · simp
      · have := ih.2 w hw; simp; omega
    · split
      · next w ws hs =>
        rw [hs] at ih
        refine ⟨by have := ih.1; simp at this ⊢; omega, fun x hx => ?_⟩
        rcases List.mem_cons.1 hx with rfl | hx
        · have := ih.2 w List.mem_cons_self; simp; exact this
        · have := ih.2 x (List.mem_cons_of_mem _ hx); simp; omega
      · simp

/-! ### slices of words -/

/-- block B holds just these strings -/
def StrB (w : World) (B : Nat) (ss : List ByteArray) : Prop := w.heap[B]? = some (.cells (ss.map Value.string).toArray 9 (0, 0))

theorem StrB.cell {w : World} {B : Nat} {ss : List ByteArray} (h : StrB w B ss) (i : Nat) (hi : i < ss.length) : w.cell? ⟨B, i, none⟩ = some (.string (ss.getD i ByteArray.empty)) := by
  unfold StrB at h
  simp [World.cell?, h, List.getD, hi]

theorem StrB.lt {w : World} {B : Nat} {ss : List ByteArray} (h : StrB w B ss) : B < w.heap.size := by
  unfold StrB at h
  exact (Array.getElem?_eq_some_iff.1 h).1

theorem StrB.below {w w' : World} {B C : Nat} {ss : List ByteArray} (h : StrB w B ss) (hb : Below C w w') (hC : B < C) : StrB w' B ss := by
  unfold StrB at h ⊢; rw [hb.block B hC]; exact h

theorem StrB.new (w : World) (ss : List ByteArray) : StrB (w.alloc (.cells (ss.map Value.string).toArray 9)) w.heap.size ss := by
  unfold StrB
  show (w.heap.push _)[w.heap.size]? = _
  simp

/-- the words as the library cuts them -/
def wds (s : ByteArray) : List ByteArray := Lib.splitB ⟨#[32]⟩ 0 (Lib.countB s ⟨#[32]⟩) s

theorem countB_one (s : ByteArray) : Lib.countB s ⟨#[32]⟩ = s.data.toList.count 32 := Lib.count_one 32 s.data.toList

theorem wds_sp (s : ByteArray) : (wds s).map (·.data.toList) = sp s.data.toList := by
  unfold wds
  rw [Lib.splitB_data, countB_one]
  exact splitK_one _

theorem wds_len (s : ByteArray) : (wds s).length = Lib.countB s ⟨#[32]⟩ + 1 := Lib.splitB_all ⟨#[32]⟩ (by decide) 0 _ s rfl

theorem wds_get (s : ByteArray) (i : Nat) (hi : i < (wds s).length) : ((wds s).getD i ByteArray.empty).data.toList = (sp s.data.toList).getD i [] := by
  rw [← wds_sp]
  simp [List.getD, hi]

end Go.Proofs.YtonkaoacohocjaaDoor
