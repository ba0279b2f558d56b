/- ReadMoney of the model: what each call returns. -/
import Derived.Test.YtjcedfafeakikaaDoorDigs
import Derived.Laws.IdiomStrings
namespace Go.Proofs.YtjcedfafeakikaaDoor
open Go.ChangeShapes Go.WideShapes Go.ChangeAt Go.RowKit
set_option linter.unusedVariables false

/-- a slice of bytes of the call's own, in blocks from 'base' on -/
def OwnB (base : Nat) (w : World) (v : Value) (l : List UInt8) : Prop := w.ownsRow base 5 1 v l.length (l.map fun c => Value.int .u8 (c.toNat : Int))

theorem info8 : (Tryd.prog.info? 5).map (fun i => (i.zero, i.size, i.bytes)) = some (some (.int .u8 0), 1, 1) := by kernel_rfl

/-- what the model keeps of a text -/
def keep (l : List UInt8) : List UInt8 := l.filter isDig

theorem keep_snoc_t (l : List UInt8) (c : UInt8) (h : isDig c = true) : keep (l ++ [c]) = keep l ++ [c] := by simp [keep, List.filter_append, h]

theorem keep_snoc_f (l : List UInt8) (c : UInt8) (h : isDig c = false) : keep (l ++ [c]) = keep l := by simp [keep, List.filter_append, h]

theorem keep_len (l : List UInt8) : (keep l).length ≤ l.length := List.length_filter_le _ _

/-- without leading zeros, but for one digit -/
def strip : List UInt8 → List UInt8
  | c :: d :: t => if c = 48 then strip (d :: t) else c :: d :: t
  | l => l

theorem strip_zero (c : UInt8) (l : List UInt8) (h : c.toNat = 48) (hl : 0 < l.length) : strip (c :: l) = strip l := by
  match l, hl with
  | d :: t, _ =>
    rw [strip, if_pos]
    exact UInt8.toNat_inj.1 h

theorem strip_stop (c : UInt8) (l : List UInt8) (h : ¬ c.toNat = 48) : strip (c :: l) = c :: l := by
  cases l with
  | nil => rfl
  | cons d t => rw [strip, if_neg]; intro e; rw [e] at h; exact h rfl

theorem strip_short (l : List UInt8) (h : l.length ≤ 1) : strip l = l := by
  match l, h with
  | [], _ => rfl
  | [_], _ => rfl

/-- the length in a slot -/
def lenOf : Value → Nat
  | .slice _ n _ => n
  | _ => 0

/-- the shape of a slice that is owned and was never nil -/
def Slc (v : Value) (n : Nat) : Prop := ∃ g cap, v = .slice (some ⟨g, 0, none⟩) n cap ∧ n ≤ cap ∧ cap ≤ maxLen

theorem own_slc {base : Nat} {w : World} {v : Value} {l : List UInt8} (h : OwnB base w v l) (hl : l ≠ []) : Slc v l.length := by
  obtain ⟨_, h0 | ⟨g, cap, cur, hv, _, _, hn, hc, _⟩⟩ := h
  · exact absurd (List.length_eq_zero_iff.1 h0.2) hl
  · exact ⟨g, cap, hv, hn, hc⟩

theorem own_new (w : World) : OwnB w.heap.size (w.alloc (.cells #[] 5)) (.slice (some ⟨w.heap.size, 0, none⟩) 0 0) [] :=
  World.ownsRow_lit w #[] 0 (Nat.le_refl _) (Nat.zero_le _) rfl

theorem keep_step {w0 wr w1 : World} {v v' : Value} {l : List UInt8} {c : UInt8} {o : Obj} (hown : OwnB w0.heap.size wr v l) (hbel : Below w0.heap.size w0 wr)
    (hown' : w1.ownsRow w0.heap.size 5 1 v' (l.length + 1) (l.map (fun c => Value.int .u8 (c.toNat : Int)) ++ [.int .u8 (c.toNat : Int)])) (hg : (wr.alloc o).grownBy w1 v.ownBlock) :
    OwnB w0.heap.size w1 v' (l ++ [c]) ∧ Slc v' (l ++ [c]).length ∧ Below w0.heap.size w0 w1 := by
  have h1 : OwnB w0.heap.size w1 v' (l ++ [c]) := by
    unfold OwnB
    rw [List.length_append, List.length_singleton, List.map_append]
    exact hown'
  exact ⟨h1, own_slc h1 (by simp), (hbel.alloc hbel.size o).grown hg (by have := hbel.size; simp; omega) fun k hk => (hown.lt k hk).1⟩

/-- what the model's ReadMoney finds -/
def sdn (l : List UInt8) : Int := if l.head? = some 45 then -(dgV (strip (keep l))) else dgV (strip (keep l))

def sd (l : List UInt8) : Option Int := if dgO (strip (keep l)) && (mtx (sdn l) == l) then some (sdn l) else none

def rsPost (l : List UInt8) (w : World) (e : Ending) (w' : World) : Prop := e = .returned (.tuple #[.int .i64 ((sd l).getD 0), .bool (sd l).isSome]) ∧ Below w.heap.size w w'

theorem dgO_ne {l : List UInt8} (h : dgO l = true) : l ≠ [] := by
  intro e; subst e; simp [dgO, dgB] at h

theorem strip_nil (l : List UInt8) (h : strip l ≠ []) : l ≠ [] := by
  intro e; subst e; exact h rfl

theorem keep_nil (l : List UInt8) (h : keep l ≠ []) : l ≠ [] := by
  intro e; subst e; exact h rfl

theorem head_of (s : ByteArray) (h : 0 < s.size) : s.data.toList.head? = some s[0] := by
  have hd : 0 < s.data.toList.length := by simpa using h
  rw [List.head?_eq_getElem?, List.getElem?_eq_getElem hd]
  rfl

/-- the ways of the end of the model's ReadMoney, in the walk's own forms -/
theorem sd_split (s : ByteArray) (E : List UInt8) (hE : strip (keep s.data.toList) = E) :
    (dgO E = false ∧ sd s.data.toList = none) ∨
    (dgO E = true ∧ ∃ h : 0 < s.size, (((s[0]'h).toNat : Int) == 45) = true ∧ (mtx (-(dgV E)) == s.toList) = true ∧ sd s.data.toList = some (-(dgV E))) ∨
    (dgO E = true ∧ ∃ h : 0 < s.size, (((s[0]'h).toNat : Int) == 45) = true ∧ (mtx (-(dgV E)) == s.toList) = false ∧ sd s.data.toList = none) ∨
    (dgO E = true ∧ ∃ h : 0 < s.size, (((s[0]'h).toNat : Int) == 45) = false ∧ (mtx (dgV E) == s.toList) = true ∧ sd s.data.toList = some (dgV E)) ∨
    (dgO E = true ∧ ∃ h : 0 < s.size, (((s[0]'h).toNat : Int) == 45) = false ∧ (mtx (dgV E) == s.toList) = false ∧ sd s.data.toList = none) := by
  rw [toList_eq]
  by_cases h : dgO E = true
  · right
    have hne : s.data.toList ≠ [] := keep_nil _ (strip_nil _ (by rw [hE]; exact dgO_ne h))
    have h0 : 0 < s.size := by
      have : 0 < s.data.toList.length := List.length_pos_iff.2 hne
      simpa using this
    have hh := head_of s h0
    by_cases h45 : (s[0]'h0).toNat = 45
    · have e1 : (((s[0]'h0).toNat : Int) == 45) = true := by simp; omega
      have e2 : sdn s.data.toList = -(dgV E) := by
        unfold sdn; rw [hh, hE, if_pos (by congr 1; exact UInt8.toNat_inj.1 h45)]
      by_cases hm : (mtx (-(dgV E)) == s.data.toList) = true
      · left; exact ⟨h, h0, e1, hm, by unfold sd; rw [hE, e2, h, hm]; rfl⟩
      · right; left; exact ⟨h, h0, e1, by simpa using hm, by unfold sd; rw [hE, e2, h, if_neg (by simpa using hm)]⟩
    · have e1 : (((s[0]'h0).toNat : Int) == 45) = false := by simp; omega
      have e2 : sdn s.data.toList = dgV E := by
        unfold sdn; rw [hh, hE, if_neg]; intro e; injection e with e; rw [e] at h45; exact h45 rfl
      by_cases hm : (mtx (dgV E) == s.data.toList) = true
      · right; right; left; exact ⟨h, h0, e1, hm, by unfold sd; rw [hE, e2, h, hm]; rfl⟩
      · right; right; right; exact ⟨h, h0, e1, by simpa using hm, by unfold sd; rw [hE, e2, h, if_neg (by simpa using hm)]⟩
  · left
    have h' : dgO E = false := by simpa using h
    exact ⟨h', by unfold sd; rw [hE, h']; rfl⟩

theorem dgV_bd (l : List UInt8) : 0 ≤ dgV l ∧ dgV l ≤ 9999999999999 := by
  unfold dgV
  split
  · next h =>
    unfold dgB at h
    rw [Bool.and_eq_true, decide_eq_true_iff] at h
    have := val_le l h.2 h.1.2
    omega
  · omega

set_option maxHeartbeats 1600000 in
theorem rm_spec (s : ByteArray) (w : World) (hs : s.size ≤ 1048576) : Calls Tryd.prog 11 #[.string s] w (rsPost s.data.toList w) := by
  have hlen : s.data.toList.length = s.size := by simp
  have HL := Lib.hid hlen
  clear hlen
  obtain ⟨i0, hi, hz0, hz1, hz2⟩ := info_parts info8
  go_enter Tryd.func11, Tryd.ntmps11
  go_wp2_with fail
  go_loopw [4, 5] (fun v i wr => ∃ k : Nat, k ≤ s.size ∧ i = .int .i64 k ∧ OwnB w.heap.size wr v (keep (s.data.toList.take k)) ∧ Hid (Slc v (keep (s.data.toList.take k)).length) ∧ Below w.heap.size w wr) (fun _ i _ => s.size - (intOf i).toNat)
  case atStart => exact ⟨0, Nat.zero_le _, rfl, own_new w, Lib.hid ⟨_, _, rfl, Nat.zero_le _, Nat.zero_le _⟩, (Below.refl _ _).alloc (Nat.le_refl _) _⟩
  case round =>
    obtain ⟨k, hk, rfl, hown, HS, hbel⟩ := hrel
    have hkl := keep_len (s.data.toList.take k)
    rw [List.length_take, HL.out] at hkl
    have hsz := hbel.size
    by_cases hlt : k < s.size
    · have hts := take_snoc8 s k hlt
      by_cases hd : isDig s[k] = true
      · have hc : 48 ≤ s[k].toNat ∧ s[k].toNat ≤ 57 := by simpa [isDig] using hd
        obtain ⟨d1, d2⟩ := hc
        have HT := Lib.hid hts
        have HD := Lib.hid hd
        clear hts hd
        go_wp2_with (at_builtin; go_must (refine wpList_append_own _ rfl _ _ 22 rfl w.heap.size 5 i0 (.int .u8 0) 1 1 Tryd.underlying22 hi hz0 hz1 hz2 rfl (by decide) _ _ _ rfl (hown.alloc _) ⟨wr.heap.size, 0, none⟩ 1 1 [.int .u8 (s[k].toNat : Int)] rfl rfl ?c1 ?c2 ?c3 ?c4 ?c5 ?_))
        case c1 =>
          intro j u hj
          match j, hj with
          | 0, hj => simp at hj; subst hj; simp [Addr.add]
        case c2 => intro u hu; simp at hu; subst hu; rfl
        case c3 => unfold maxLen; omega
        case c4 => omega
        case c5 => simp; omega
        intro v' w1 hown' hgrow _
        have R := keep_step hown hbel hown' hgrow
        rw [← keep_snoc_t _ _ HD.out, ← HT.out] at R
        have HR := Lib.hid R
        clear R hown' hgrow hown hbel
        go_wp2_with fail
        go_roundw
        case rel => exact ⟨k + 1, by omega, by go_num, HR.out.1, Lib.hid HR.out.2.1, HR.out.2.2⟩
        case measure => simp [intOf]; omega
      · have hcc : s[k].toNat < 48 ∨ 57 < s[k].toNat := by simp [isDig] at hd; omega
        have HR : Hid (keep (s.data.toList.take (k + 1)) = keep (s.data.toList.take k)) := Lib.hid (by rw [hts, keep_snoc_f _ _ (by simpa using hd)])
        clear hd hts
        rcases hcc with hc | hc
        all_goals
          go_wp2_with fail
          go_roundw
          case rel => exact ⟨k + 1, by omega, by go_num, by rw [HR.out]; exact hown, by rw [HR.out]; exact HS, hbel⟩
          case measure => simp [intOf]; omega
    · obtain rfl : k = s.size := by omega
      have e : s.data.toList.take s.size = s.data.toList := List.take_of_length_le (by rw [HL.out]; exact Nat.le_refl _)
      rw [e] at hown HS
      obtain ⟨g, cap, rfl, hn, hcap⟩ := HS.out
      have hkl2 : (keep s.data.toList).length ≤ 1048576 := Nat.le_trans (keep_len _) (by rw [HL.out]; exact hs)
      obtain ⟨D, hD⟩ : ∃ D, keep s.data.toList = D := ⟨_, rfl⟩
      rw [hD] at hown hn hkl2 ⊢
      have HDD := Lib.hid hD
      have hcell : ∀ j (hj : j < D.length), wr.cell? ⟨g, j, none⟩ = some (.int .u8 (D[j].toNat : Int)) := fun j hj => by
        rw [hown.cellAt j (by omega)]; simp [hj]
      have HC := Lib.hid hcell
      have HB := Lib.hid hbel
      clear hD hown hcell hbel hkl HS e
      unfold maxLen at hcap
      go_wp2_with fail
      go_loop [4] (fun v => ∃ j n c : Nat, v = .slice (some ⟨g, j, none⟩) n c ∧ n + j = D.length ∧ c + j = cap ∧ Hid (strip (D.drop j) = strip D)) (fun v => lenOf v)
      case atStart => exact ⟨0, _, _, rfl, by omega, by omega, Lib.hid (by simp)⟩
      case round =>
        obtain ⟨j, n, c, rfl, hnj, hcj, HSt⟩ := hrel
        by_cases hgo : 1 < n ∧ ∃ h : j < D.length, (D[j]'h).toNat = 48
        · obtain ⟨hl1, hj, h48⟩ := hgo
          have hx := HC.out j hj
          obtain ⟨x, hx0⟩ : ∃ x, D[j]'hj = x := ⟨_, rfl⟩
          rw [hx0] at hx h48
          have hdr : D.drop j = x :: D.drop (j + 1) := by rw [List.drop_eq_getElem_cons hj, hx0]
          have HDr := Lib.hid hdr
          have hl2 : (D.drop (j + 1)).length = n - 1 := by simp; omega
          have HL2 := Lib.hid hl2
          clear hdr hx0 hl2
          have HX := Lib.hid h48
          have hb : ((x.toNat : Int) == 48) = true := by simp; omega
          clear h48
          have hne : ¬ c = 1 := by omega
          go_wp2_with fail
          go_round
          case rel => exact ⟨j + 1, n - 1, c - 1, by first | rfl | go_num, by omega, by omega, Lib.hid (by rw [← HSt.out, HDr.out]; exact (strip_zero x _ HX.out (by have := HL2.out; omega)).symm)⟩
          case measure => simp [lenOf]; omega
        · have hstop : strip D = D.drop j := by
            rw [← HSt.out]
            by_cases hl1 : 1 < n
            · have hj : j < D.length := by omega
              rw [List.drop_eq_getElem_cons hj, strip_stop _ _ fun e => hgo ⟨hl1, hj, e⟩]
            · exact strip_short _ (by simp; omega)
          have hhead : 1 < n → ∃ x : UInt8, wr.cell? ⟨g, j, none⟩ = some (.int .u8 (x.toNat : Int)) ∧ ((x.toNat : Int) == 48) = false := fun hl1 => by
            have hj : j < D.length := by omega
            refine ⟨D[j]'hj, HC.out j hj, ?_⟩
            have : ¬ (D[j]'hj).toNat = 48 := fun e => hgo ⟨hl1, hj, e⟩
            simp; omega
          have hen : (D.drop j).length = n := by simp; omega
          have hcv := run_convert_bytes_back (P := Tryd.prog) wr 22 9 5 ⟨g, j, none⟩ c (D.drop j) Tryd.underlying22 Tryd.underlying5 Tryd.underlying9 (by
            intro i hi
            have hi' : j + i < D.length := by simp at hi; omega
            rw [Go.WideShapes.add_plain, HC.out (j + i) hi']
            simp)
          rw [hen] at hcv
          obtain ⟨E, hE⟩ : ∃ E, D.drop j = E := ⟨_, rfl⟩
          rw [hE] at hcv hstop hen
          have HE := Lib.hid (show strip (keep s.data.toList) = E by rw [HDD.out]; exact hstop)
          have hdb := dgV_bd E
          obtain ⟨db1, db2⟩ := hdb
          have hesz : (⟨E.toArray⟩ : ByteArray).size ≤ 1048576 := by show E.toArray.size ≤ _; simp; omega
          have HEZ := Lib.hid hesz
          have HS := sd_split s E HE.out
          clear hgo hstop hen hE HSt HE hesz
          by_cases hl1 : 1 < n
          · obtain ⟨x, hx, hb⟩ := hhead hl1
            clear hhead
            rcases HS with ⟨hO, hR⟩ | ⟨hO, h0, h45, hM, hR⟩ | ⟨hO, h0, h45, hM, hR⟩ | ⟨hO, h0, h45, hM, hR⟩ | ⟨hO, h0, h45, hM, hR⟩
            all_goals
              have HR := Lib.hid hR
              clear hR
              go_wp2_with fail
              refine (digs_any ⟨E.toArray⟩ _ (by have := HEZ.out; omega)).mono ?_
              rintro e w1 ⟨rfl, hb1⟩
              have HB1 := Lib.hid (HB.out.trans (hb1.mono HB.out.size))
              clear hb1
              go_wp2_with (go_at_call 15; refine (mt_spec _ _).mono ?_; rintro e w2 ⟨rfl, hb2⟩; have HB1 := Lib.hid (HB1.out.trans (hb2.mono HB1.out.size)); clear hb2)
              go_ret2
              exact ⟨ret_ib' (by rw [HR.out]; rfl) (by rw [HR.out]; rfl), HB1.out⟩
          · clear hhead
            rcases HS with ⟨hO, hR⟩ | ⟨hO, h0, h45, hM, hR⟩ | ⟨hO, h0, h45, hM, hR⟩ | ⟨hO, h0, h45, hM, hR⟩ | ⟨hO, h0, h45, hM, hR⟩
            all_goals
              have HR := Lib.hid hR
              clear hR
              go_wp2_with fail
              refine (digs_any ⟨E.toArray⟩ _ (by have := HEZ.out; omega)).mono ?_
              rintro e w1 ⟨rfl, hb1⟩
              have HB1 := Lib.hid (HB.out.trans (hb1.mono HB.out.size))
              clear hb1
              go_wp2_with (go_at_call 15; refine (mt_spec _ _).mono ?_; rintro e w2 ⟨rfl, hb2⟩; have HB1 := Lib.hid (HB1.out.trans (hb2.mono HB1.out.size)); clear hb2)
              go_ret2
              exact ⟨ret_ib' (by rw [HR.out]; rfl) (by rw [HR.out]; rfl), HB1.out⟩

end Go.Proofs.YtjcedfafeakikaaDoor
