/- What the text of a life table reads as: plain facts; slices of words. -/
import Derived.Test.YtnppkdnmkhoeeaaDoorTTI
import Derived.Lib.SplitLaws
import Derived.Lib.ParseIntBTie
namespace Go.Proofs.YtnppkdnmkhoeeaaDoor
open Go.ChangeShapes Go.WideShapes Go.ChangeAt Go.RowKit
set_option linter.unusedVariables false
set_option maxRecDepth 100000

/-- what strconv.ParseInt makes of a word -/
def pv (l : List UInt8) : Option Int := match Lib.parseIntB 64 l with | .ok v => some v | _ => none

theorem pv_ok {l : List UInt8} {v : Int} (h : Lib.parseIntB 64 l = .ok v) : pv l = some v := by unfold pv; rw [h]

theorem pv_no {l : List UInt8} (h : ∀ v, Lib.parseIntB 64 l ≠ .ok v) : pv l = none := by
  unfold pv; split
  · next v hv => exact absurd hv (h v)
  · rfl

def allP (ws : List (List UInt8)) : Bool := ws.all fun w => (pv w).isSome

def vals (ws : List (List UInt8)) : List Int := ws.map fun w => (pv w).getD 0

theorem pv_wide (l : List UInt8) : -9223372036854775808 ≤ (pv l).getD 0 ∧ (pv l).getD 0 ≤ 9223372036854775807 := by
  unfold pv; split
  · next v hv =>
    obtain ⟨a, b⟩ := Lib.parseIntB_bounds hv
    have e : (2 : Nat) ^ (64 - 1) = 9223372036854775808 := by decide
    rw [e] at a b
    simp; omega
  · simp

theorem vals_wide (ws : List (List UInt8)) : Wide (vals ws) := by
  intro x hx
  obtain ⟨w, _, rfl⟩ := List.mem_map.1 hx
  exact pv_wide w

/-- the numbers of a text -/
def rnF (l : List UInt8) : Int := (vals (sp l)).getD 0 0

def rnL (l : List UInt8) : List Int := (vals (sp l)).drop 1

theorem rn_cons (l : List UInt8) : rnF l :: rnL l = vals (sp l) := by
  unfold rnF rnL vals
  cases hs : sp l with
  | nil => exact absurd hs (sp_ne l)
  | cons w ws => simp

def rnO (l : List UInt8) : Bool := allP (sp l) && (jn (rnF l :: rnL l) == l)

/-- the life table of a text -/
def rtO (l : List UInt8) : Bool := rnO l && ltB (rnF l) (rnL l)

def sgs (l : List UInt8) : List Int := (sp l).map sgV

def stO (l : List UInt8) : Bool := (sp l).all sgO && (decide (2 ≤ (sp l).length) && ltB ((sgs l).getD 0 0) ((sgs l).drop 1))

theorem pv_itoa (n : Int) (h0 : 0 ≤ n) (h1 : n ≤ 1000000000000) : pv (Lib.itoa n) = some n := pv_ok (parse_itoa n h0 h1)

theorem rt_st {l : List UInt8} (h : rtO l = true) : stO l = true ∧ sgs l = rnF l :: rnL l := by
  unfold rtO rnO at h
  rw [Bool.and_eq_true, Bool.and_eq_true] at h
  obtain ⟨⟨h1, h2⟩, h3⟩ := h
  have h2 : jn (rnF l :: rnL l) = l := by simpa using h2
  have ht := (ltB_iff _ _).1 h3
  have hn := ht.nums
  have hs : sp l = (rnF l :: rnL l).map Lib.itoa := by
    rw [← sp_jn _ _ (fun x hx => (hn x hx).1), h2]
  have hg : sgs l = rnF l :: rnL l := by
    unfold sgs
    rw [hs, List.map_map]
    conv => rhs; rw [← List.map_id (rnF l :: rnL l)]
    refine List.map_congr_left fun x hx => ?_
    have := hn x hx
    exact (sg_itoa x this.1 (by omega)).2
  refine ⟨?_, hg⟩
  unfold stO
  rw [Bool.and_eq_true, Bool.and_eq_true]
  refine ⟨?_, ?_, ?_⟩
  · rw [hs, List.all_eq_true]
    intro w hw
    obtain ⟨x, hx, rfl⟩ := List.mem_map.1 hw
    have := hn x hx
    exact (sg_itoa x this.1 (by omega)).1
  · rw [hs]
    have := ht.2.1
    simp; omega
  · rw [hg]; exact h3

theorem st_rt {l : List UInt8} (h : stO l = true) : rtO l = true := by
  unfold stO at h
  rw [Bool.and_eq_true, Bool.and_eq_true] at h
  obtain ⟨h1, h2, h3⟩ := h
  have ht := (ltB_iff _ _).1 h3
  have hn := ht.nums
  have hc : (sgs l).getD 0 0 :: (sgs l).drop 1 = sgs l := by
    unfold sgs
    cases hs : sp l with
    | nil => exact absurd hs (sp_ne l)
    | cons w ws => simp
  rw [hc] at hn
  rw [List.all_eq_true] at h1
  have hw : ∀ w ∈ sp l, pv w = some (sgV w) := by
    intro w hw
    have e := sgO_itoa (h1 w hw)
    have b := hn (sgV w) (List.mem_map.2 ⟨w, hw, rfl⟩)
    conv => lhs; rw [e]
    exact pv_itoa _ b.1 (by omega)
  have hv : vals (sp l) = sgs l := by
    unfold vals sgs
    exact List.map_congr_left fun w hm => by rw [hw w hm]; rfl
  have e1 : rnF l = (sgs l).getD 0 0 := by unfold rnF; rw [hv]
  have e2 : rnL l = (sgs l).drop 1 := by unfold rnL; rw [hv]
  unfold rtO rnO
  rw [Bool.and_eq_true, Bool.and_eq_true]
  refine ⟨⟨?_, ?_⟩, by rw [e1, e2]; exact h3⟩
  · unfold allP
    rw [List.all_eq_true]
    intro w hm
    rw [hw w hm]; rfl
  · rw [e1, e2, hc, beq_iff_eq]
    have hs : sgs l ≠ [] := by unfold sgs; simp [sp_ne]
    cases hg : sgs l with
    | nil => exact absurd hg hs
    | cons x t =>
      rw [jn_jw, ← List.map_cons, ← hg]
      have : (sgs l).map Lib.itoa = sp l := by
        unfold sgs
        rw [List.map_map]
        conv => rhs; rw [← List.map_id (sp l)]
        exact List.map_congr_left fun w hm => (sgO_itoa (h1 w hm)).symm
      rw [this, jw_sp]

theorem st_eq (l : List UInt8) : stO l = rtO l := by
  cases h : rtO l with
  | true => exact (rt_st h).1
  | false =>
    cases h2 : stO l with
    | true => rw [st_rt h2] at h; cases h
    | false => rfl

theorem sp_short (l : List UInt8) : (sp l).length ≤ l.length + 1 ∧ ∀ w ∈ sp l, w.length ≤ l.length := by
  induction l with
  | nil => simp [sp]
  | cons c t ih =>
    unfold sp
    split
    · refine ⟨by simp; exact ih.1, fun w hw => ?_⟩
      rcases List.mem_cons.1 hw with rfl | hw
      · simp
      · have := ih.2 w hw; simp; omega
    · split
      · next w ws hs =>
        rw [hs] at ih
        refine ⟨by have := ih.1; simp at this ⊢; omega, fun x hx => ?_⟩
        rcases List.mem_cons.1 hx with rfl | hx
        · have := ih.2 w List.mem_cons_self; simp; exact this
        · have := ih.2 x (List.mem_cons_of_mem _ hx); simp; omega
      · simp

/-! ### slices of words -/

/-- block B holds just these strings -/
def StrB (w : World) (B : Nat) (ss : List ByteArray) : Prop := w.heap[B]? = some (.cells (ss.map Value.string).toArray 9 (0, 0))

theorem StrB.cell {w : World} {B : Nat} {ss : List ByteArray} (h : StrB w B ss) (i : Nat) (hi : i < ss.length) : w.cell? ⟨B, i, none⟩ = some (.string (ss.getD i ByteArray.empty)) := by
  unfold StrB at h
  simp [World.cell?, h, List.getD, hi]

theorem StrB.lt {w : World} {B : Nat} {ss : List ByteArray} (h : StrB w B ss) : B < w.heap.size := by
  unfold StrB at h
  exact (Array.getElem?_eq_some_iff.1 h).1

theorem StrB.below {w w' : World} {B C : Nat} {ss : List ByteArray} (h : StrB w B ss) (hb : Below C w w') (hC : B < C) : StrB w' B ss := by
  unfold StrB at h ⊢; rw [hb.block B hC]; exact h

theorem StrB.new (w : World) (ss : List ByteArray) : StrB (w.alloc (.cells (ss.map Value.string).toArray 9)) w.heap.size ss := by
  unfold StrB
  show (w.heap.push _)[w.heap.size]? = _
  simp

/-- the words as the library cuts them -/
def wds (s : ByteArray) : List ByteArray := Lib.splitB ⟨#[32]⟩ 0 (Lib.countB s ⟨#[32]⟩) s

theorem countB_one (s : ByteArray) : Lib.countB s ⟨#[32]⟩ = s.data.toList.count 32 := Lib.count_one 32 s.data.toList

theorem wds_sp (s : ByteArray) : (wds s).map (·.data.toList) = sp s.data.toList := by
  unfold wds
  rw [Lib.splitB_data, countB_one]
  exact splitK_one _

theorem wds_len (s : ByteArray) : (wds s).length = Lib.countB s ⟨#[32]⟩ + 1 := Lib.splitB_all ⟨#[32]⟩ (by decide) 0 _ s rfl

theorem wds_get (s : ByteArray) (i : Nat) (hi : i < (wds s).length) : ((wds s).getD i ByteArray.empty).data.toList = (sp s.data.toList).getD i [] := by
  rw [← wds_sp]
  simp [List.getD, hi]

end Go.Proofs.YtnppkdnmkhoeeaaDoor
