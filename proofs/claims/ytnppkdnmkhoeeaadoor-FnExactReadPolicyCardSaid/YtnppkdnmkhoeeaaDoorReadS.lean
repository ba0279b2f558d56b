/- ReadMoney of the model: what each call returns. -/
import Derived.Test.YtnppkdnmkhoeeaaDoorDigs
import Derived.Laws.IdiomStrings
namespace Go.Proofs.YtnppkdnmkhoeeaaDoor
open Go.ChangeShapes Go.WideShapes Go.ChangeAt Go.RowKit
set_option linter.unusedVariables false

/-- a slice of bytes of the call's own, in blocks from 'base' on -/
def OwnB (base : Nat) (w : World) (v : Value) (l : List UInt8) : Prop := w.ownsRow base 5 1 v l.length (l.map fun c => Value.int .u8 (c.toNat : Int))

theorem info8 : (Tryd.prog.info? 5).map (fun i => (i.zero, i.size, i.bytes)) = some (some (.int .u8 0), 1, 1) := by kernel_rfl

/-- what the model keeps of a text -/
def keep (l : List UInt8) : List UInt8 := l.filter isDig

theorem keep_snoc_t (l : List UInt8) (c : UInt8) (h : isDig c = true) : keep (l ++ [c]) = keep l ++ [c] := by simp [keep, List.filter_append, h]

theorem keep_snoc_f (l : List UInt8) (c : UInt8) (h : isDig c = false) : keep (l ++ [c]) = keep l := by simp [keep, List.filter_append, h]

theorem keep_len (l : List UInt8) : (keep l).length ≤ l.length := List.length_filter_le _ _

/-- without leading zeros, but for one digit -/
def strip : List UInt8 → List UInt8
  | c :: d :: t => if c = 48 then strip (d :: t) else c :: d :: t
  | l => l

theorem strip_zero (c : UInt8) (l : List UInt8) (h : c.toNat = 48) (hl : 0 < l.length) : strip (c :: l) = strip l := by
  match l, hl with
  | d :: t, _ =>
    rw [strip, if_pos]
    exact UInt8.toNat_inj.1 h

theorem strip_stop (c : UInt8) (l : List UInt8) (h : ¬ c.toNat = 48) : strip (c :: l) = c :: l := by
  cases l with
  | nil => rfl
  | cons d t => rw [strip, if_neg]; intro e; rw [e] at h; exact h rfl

theorem strip_short (l : List UInt8) (h : l.length ≤ 1) : strip l = l := by
  match l, h with
  | [], _ => rfl
  | [_], _ => rfl

/-- the length in a slot -/
def lenOf : Value → Nat
  | .slice _ n _ => n
  | _ => 0

/-- the shape of a slice that is owned and was never nil -/
def Slc (v : Value) (n : Nat) : Prop := ∃ g cap, v = .slice (some ⟨g, 0, none⟩) n cap ∧ n ≤ cap ∧ cap ≤ maxLen

theorem own_slc {base : Nat} {w : World} {v : Value} {l : List UInt8} (h : OwnB base w v l) (hl : l ≠ []) : Slc v l.length := by
  obtain ⟨_, h0 | ⟨g, cap, cur, hv, _, _, hn, hc, _⟩⟩ := h
  · exact absurd (List.length_eq_zero_iff.1 h0.2) hl
  · exact ⟨g, cap, hv, hn, hc⟩

theorem own_new (w : World) : OwnB w.heap.size (w.alloc (.cells #[] 5)) (.slice (some ⟨w.heap.size, 0, none⟩) 0 0) [] :=
  World.ownsRow_lit w #[] 0 (Nat.le_refl _) (Nat.zero_le _) rfl

theorem keep_step {w0 wr w1 : World} {v v' : Value} {l : List UInt8} {c : UInt8} {o : Obj} (hown : OwnB w0.heap.size wr v l) (hbel : Below w0.heap.size w0 wr)
    (hown' : w1.ownsRow w0.heap.size 5 1 v' (l.length + 1) (l.map (fun c => Value.int .u8 (c.toNat : Int)) ++ [.int .u8 (c.toNat : Int)])) (hg : (wr.alloc o).grownBy w1 v.ownBlock) :
    OwnB w0.heap.size w1 v' (l ++ [c]) ∧ Slc v' (l ++ [c]).length ∧ Below w0.heap.size w0 w1 := by
  have h1 : OwnB w0.heap.size w1 v' (l ++ [c]) := by
    unfold OwnB
    rw [List.length_append, List.length_singleton, List.map_append]
    exact hown'
  exact ⟨h1, own_slc h1 (by simp), (hbel.alloc hbel.size o).grown hg (by have := hbel.size; simp; omega) fun k hk => (hown.lt k hk).1⟩

/-- what the model's ReadMoney finds -/
def sdn (l : List UInt8) : Int := if l.head? = some 45 then -(dgV (strip (keep l))) else dgV (strip (keep l))

def sd (l : List UInt8) : Option Int := if dgO (strip (keep l)) && (mtx (sdn l) == l) then some (sdn l) else none

def rsPost (l : List UInt8) (w : World) (e : Ending) (w' : World) : Prop := e = .returned (.tuple #[.int .i64 ((sd l).getD 0), .bool (sd l).isSome]) ∧ Below w.heap.size w w'

theorem dgO_ne {l : List UInt8} (h : dgO l = true) : l ≠ [] := by
  intro e; subst e; simp [dgO, dgB] at h

theorem strip_nil (l : List UInt8) (h : strip l ≠ []) : l ≠ [] := by
  intro e; subst e; exact h rfl

theorem keep_nil (l : List UInt8) (h : keep l ≠ []) : l ≠ [] := by
  intro e; subst e; exact h rfl

theorem head_of (s : ByteArray) (h : 0 < s.size) : s.data.toList.head? = some s[0] := by
  have hd : 0 < s.data.toList.length := by simpa using h
  rw [List.head?_eq_getElem?, List.getElem?_eq_getElem hd]
  rfl

/-- the ways of the end of the model's ReadMoney, in the walk's own forms -/
theorem sd_split (s : ByteArray) (E : List UInt8) (hE : strip (keep s.data.toList) = E) :
    (dgO E = false ∧ sd s.data.toList = none) ∨
    (dgO E = true ∧ ∃ h : 0 < s.size, (((s[0]'h).toNat : Int) == 45) = true ∧ (mtx (-(dgV E)) == s.toList) = true ∧ sd s.data.toList = some (-(dgV E))) ∨
    (dgO E = true ∧ ∃ h : 0 < s.size, (((s[0]'h).toNat : Int) == 45) = true ∧ (mtx (-(dgV E)) == s.toList) = false ∧ sd s.data.toList = none) ∨
    (dgO E = true ∧ ∃ h : 0 < s.size, (((s[0]'h).toNat : Int) == 45) = false ∧ (mtx (dgV E) == s.toList) = true ∧ sd s.data.toList = some (dgV E)) ∨
    (dgO E = true ∧ ∃ h : 0 < s.size, (((s[0]'h).toNat : Int) == 45) = false ∧ (mtx (dgV E) == s.toList) = false ∧ sd s.data.toList = none) := by
  rw [toList_eq]
  by_cases h : dgO E = true
  · right
    have hne : s.data.toList ≠ [] := keep_nil _ (strip_nil _ (by rw [hE]; exact dgO_ne h))
    have h0 : 0 < s.size := by
      have : 0 < s.data.toList.length := List.length_pos_iff.2 hne
      simpa using this
    have hh := head_of s h0
    by_cases h45 : (s[0]'h0).toNat = 45
    · have e1 : (((s[0]'h0).toNat : Int) == 45) = true := by simp; omega
      have e2 : sdn s.data.toList = -(dgV E) := by
        unfold sdn; rw [hh, hE, if_pos (by congr 1; exact UInt8.toNat_inj.1 h45)]
      by_cases hm : (mtx (-(dgV E)) == s.data.toList) = true
      · left; exact ⟨h, h0, e1, hm, by unfold sd; rw [hE, e2, h, hm]; rfl⟩
      · right; left; exact ⟨h, h0, e1, by simpa using hm, by unfold sd; rw [hE, e2, h, if_neg (by simpa using hm)]⟩
    · have e1 : (((s[0]'h0).toNat : Int) == 45) = false := by simp; omega
      have e2 : sdn s.data.toList = dgV E := by
        unfold sdn; rw [hh, hE, if_neg]; intro e; injection e with e; rw [e] at h45; exact h45 rfl
      by_cases hm : (mtx (dgV E) == s.data.toList) = true
      · right; right; left; exact ⟨h, h0, e1, hm, by unfold sd; rw [hE, e2, h, hm]; rfl⟩
      · right; right; right; exact ⟨h, h0, e1, by simpa using hm, by unfold sd; rw [hE, e2, h, if_neg (by simpa using hm)]⟩
  · left
    have h' : dgO E = false := by simpa using h
    exact ⟨h', by unfold sd; rw [hE, h']; rfl⟩

theorem dgV_bd (l : List UInt8) : 0 ≤ dgV l ∧ dgV l ≤ 9999999999999 := by
  unfold dgV
  split
  · next h =>
    unfold dgB at h
    rw [Bool.and_eq_true, decide_eq_true_iff] at h
    have := val_le l h.2 h.1.2
    omega
  · omega

end Go.Proofs.YtnppkdnmkhoeeaaDoor
