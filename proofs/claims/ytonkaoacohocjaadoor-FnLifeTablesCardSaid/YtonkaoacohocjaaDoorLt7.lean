/- Merged: ReadS, ReadL, TabT, TabTx, TabTs, AppI. -/
import Derived.Test.YtonkaoacohocjaaDoorLt2
import Derived.Test.YtonkaoacohocjaaDoorLt3
import Derived.Test.YtonkaoacohocjaaDoorLt6
import Derived.Laws.IdiomStrings
import Derived.Lib.SplitLaws
import Derived.Lib.ItoaMem
import Derived.Deep.RegionWith

/- ReadMoney of the model: what each call returns. -/
namespace Go.Proofs.YtonkaoacohocjaaDoor
open Go.ChangeShapes Go.WideShapes Go.ChangeAt Go.RowKit
set_option linter.unusedVariables false

/-- a slice of bytes of the call's own, in blocks from 'base' on -/
def OwnB (base : Nat) (w : World) (v : Value) (l : List UInt8) : Prop := w.ownsRow base 5 1 v l.length (l.map fun c => Value.int .u8 (c.toNat : Int))

theorem info8 : (Tryd.prog.info? 5).map (fun i => (i.zero, i.size, i.bytes)) = some (some (.int .u8 0), 1, 1) := by kernel_rfl

/-- what the model keeps of a text -/
def keep (l : List UInt8) : List UInt8 := l.filter isDig

theorem keep_snoc_t (l : List UInt8) (c : UInt8) (h : isDig c = true) : keep (l ++ [c]) = keep l ++ [c] := by simp [keep, List.filter_append, h]

theorem keep_snoc_f (l : List UInt8) (c : UInt8) (h : isDig c = false) : keep (l ++ [c]) = keep l := by simp [keep, List.filter_append, h]

theorem keep_len (l : List UInt8) : (keep l).length ≤ l.length := List.length_filter_le _ _

/-- without leading zeros, but for one digit -/
def strip : List UInt8 → List UInt8
  | c :: d :: t => if c = 48 then strip (d :: t) else c :: d :: t
  | l => l

theorem strip_zero (c : UInt8) (l : List UInt8) (h : c.toNat = 48) (hl : 0 < l.length) : strip (c :: l) = strip l := by
  match l, hl with
  | d :: t, _ =>
    rw [strip, if_pos]
    exact UInt8.toNat_inj.1 h

theorem strip_stop (c : UInt8) (l : List UInt8) (h : ¬ c.toNat = 48) : strip (c :: l) = c :: l := by
  cases l with
  | nil => rfl
  | cons d t => rw [strip, if_neg]; intro e; rw [e] at h; exact h rfl

theorem strip_short (l : List UInt8) (h : l.length ≤ 1) : strip l = l := by
  match l, h with
  | [], _ => rfl
  | [_], _ => rfl

/-- the length in a slot -/
def lenOf : Value → Nat
  | .slice _ n _ => n
  | _ => 0

/-- the shape of a slice that is owned and was never nil -/
def Slc (v : Value) (n : Nat) : Prop := ∃ g cap, v = .slice (some ⟨g, 0, none⟩) n cap ∧ n ≤ cap ∧ cap ≤ maxLen

theorem own_slc {base : Nat} {w : World} {v : Value} {l : List UInt8} (h : OwnB base w v l) (hl : l ≠ []) : Slc v l.length := by
  obtain ⟨_, h0 | ⟨g, cap, cur, hv, _, _, hn, hc, _⟩⟩ := h
  · exact absurd (List.length_eq_zero_iff.1 h0.2) hl
  · exact ⟨g, cap, hv, hn, hc⟩

theorem own_new (w : World) : OwnB w.heap.size (w.alloc (.cells #[] 5)) (.slice (some ⟨w.heap.size, 0, none⟩) 0 0) [] :=
  World.ownsRow_lit w #[] 0 (Nat.le_refl _) (Nat.zero_le _) rfl

theorem keep_step {w0 wr w1 : World} {v v' : Value} {l : List UInt8} {c : UInt8} {o : Obj} (hown : OwnB w0.heap.size wr v l) (hbel : Below w0.heap.size w0 wr)
    (hown' : w1.ownsRow w0.heap.size 5 1 v' (l.length + 1) (l.map (fun c => Value.int .u8 (c.toNat : Int)) ++ [.int .u8 (c.toNat : Int)])) (hg : (wr.alloc o).grownBy w1 v.ownBlock) :
    OwnB w0.heap.size w1 v' (l ++ [c]) ∧ Slc v' (l ++ [c]).length ∧ Below w0.heap.size w0 w1 := by
  have h1 : OwnB w0.heap.size w1 v' (l ++ [c]) := by
    unfold OwnB
    rw [List.length_append, List.length_singleton, List.map_append]
    exact hown'
  exact ⟨h1, own_slc h1 (by simp), (hbel.alloc hbel.size o).grown hg (by have := hbel.size; simp; omega) fun k hk => (hown.lt k hk).1⟩

/-- what the model's ReadMoney finds -/
def sdn (l : List UInt8) : Int := if l.head? = some 45 then -(dgV (strip (keep l))) else dgV (strip (keep l))

def sd (l : List UInt8) : Option Int := if dgO (strip (keep l)) && (mtx (sdn l) == l) then some (sdn l) else none

def rsPost (l : List UInt8) (w : World) (e : Ending) (w' : World) : Prop := e = .returned (.tuple #[.int .i64 ((sd l).getD 0), .bool (sd l).isSome]) ∧ Below w.heap.size w w'

theorem dgO_ne {l : List UInt8} (h : dgO l = true) : l ≠ [] := by
  intro e; subst e; simp [dgO, dgB] at h

theorem strip_nil (l : List UInt8) (h : strip l ≠ []) : l ≠ [] := by
  intro e; subst e; exact h rfl

theorem keep_nil (l : List UInt8) (h : keep l ≠ []) : l ≠ [] := by
  intro e; subst e; exact h rfl

theorem head_of (s : ByteArray) (h : 0 < s.size) : s.data.toList.head? = some s[0] := by
  have hd : 0 < s.data.toList.length := by simpa using h
  rw [List.head?_eq_getElem?, List.getElem?_eq_getElem hd]
  rfl

/-- the ways of the end of the model's ReadMoney, in the walk's own forms -/
theorem sd_split (s : ByteArray) (E : List UInt8) (hE : strip (keep s.data.toList) = E) :
    (dgO E = false ∧ sd s.data.toList = none) ∨
    (dgO E = true ∧ ∃ h : 0 < s.size, (((s[0]'h).toNat : Int) == 45) = true ∧ (mtx (-(dgV E)) == s.toList) = true ∧ sd s.data.toList = some (-(dgV E))) ∨
    (dgO E = true ∧ ∃ h : 0 < s.size, (((s[0]'h).toNat : Int) == 45) = true ∧ (mtx (-(dgV E)) == s.toList) = false ∧ sd s.data.toList = none) ∨
    (dgO E = true ∧ ∃ h : 0 < s.size, (((s[0]'h).toNat : Int) == 45) = false ∧ (mtx (dgV E) == s.toList) = true ∧ sd s.data.toList = some (dgV E)) ∨
    (dgO E = true ∧ ∃ h : 0 < s.size, (((s[0]'h).toNat : Int) == 45) = false ∧ (mtx (dgV E) == s.toList) = false ∧ sd s.data.toList = none) := by
  rw [toList_eq]
  by_cases h : dgO E = true
  · right
    have hne : s.data.toList ≠ [] := keep_nil _ (strip_nil _ (by rw [hE]; exact dgO_ne h))
    have h0 : 0 < s.size := by
      have : 0 < s.data.toList.length := List.length_pos_iff.2 hne
      simpa using this
    have hh := head_of s h0
    by_cases h45 : (s[0]'h0).toNat = 45
    · have e1 : (((s[0]'h0).toNat : Int) == 45) = true := by simp; omega
      have e2 : sdn s.data.toList = -(dgV E) := by
        unfold sdn; rw [hh, hE, if_pos (by congr 1; exact UInt8.toNat_inj.1 h45)]
      by_cases hm : (mtx (-(dgV E)) == s.data.toList) = true
      · left; exact ⟨h, h0, e1, hm, by unfold sd; rw [hE, e2, h, hm]; rfl⟩
      · right; left; exact ⟨h, h0, e1, by simpa using hm, by unfold sd; rw [hE, e2, h, if_neg (by simpa using hm)]⟩
    · have e1 : (((s[0]'h0).toNat : Int) == 45) = false := by simp; omega
      have e2 : sdn s.data.toList = dgV E := by
        unfold sdn; rw [hh, hE, if_neg]; intro e; injection e with e; rw [e] at h45; exact h45 rfl
      by_cases hm : (mtx (dgV E) == s.data.toList) = true
      · right; right; left; exact ⟨h, h0, e1, hm, by unfold sd; rw [hE, e2, h, hm]; rfl⟩
      · right; right; right; exact ⟨h, h0, e1, by simpa using hm, by unfold sd; rw [hE, e2, h, if_neg (by simpa using hm)]⟩
  · left
    have h' : dgO E = false := by simpa using h
    exact ⟨h', by unfold sd; rw [hE, h']; rfl⟩

theorem dgV_bd (l : List UInt8) : 0 ≤ dgV l ∧ dgV l ≤ 9999999999999 := by
  unfold dgV
  split
  · next h =>
    unfold dgB at h
    rw [Bool.and_eq_true, decide_eq_true_iff] at h
    have := val_le l h.2 h.1.2
    omega
  · omega

end Go.Proofs.YtonkaoacohocjaaDoor

/- The exact law on ReadMoney: the program finds what its model finds. -/
namespace Go.Proofs.YtonkaoacohocjaaDoor
open Go.ChangeShapes Go.WideShapes Go.ChangeAt Go.RowKit
set_option linter.unusedVariables false

theorem isDig_iff (c : UInt8) : isDig c = true ↔ 48 ≤ c.toNat ∧ c.toNat ≤ 57 := by simp [isDig]

theorem keep_dig (u : Nat) : keep (Lib.decDigits u) = Lib.decDigits u := by
  unfold keep
  rw [List.filter_eq_self]
  intro c hc
  exact (isDig_iff c).2 (dig_all u c hc)

theorem isDig_dch (d : Nat) (h : d < 10) : isDig (dch d) = true := by
  rw [isDig_iff, dch_nat d h]; omega

theorem keep_posT (u : Nat) : keep (posT u) = Lib.decDigits (u / 100) ++ [dch (u / 10 % 10), dch (u % 10)] := by
  have h := keep_dig (u / 100)
  unfold keep at h
  rw [posT_dch, keep, List.filter_append, h, List.filter_cons, if_neg (by decide), List.filter_cons, if_pos (isDig_dch _ (by omega)), List.filter_cons, if_pos (isDig_dch _ (by omega)), List.filter_nil]

theorem strip_posT (u : Nat) : strip (Lib.decDigits (u / 100) ++ [dch (u / 10 % 10), dch (u % 10)]) = Lib.decDigits u := by
  by_cases h : 0 < u / 100
  · obtain ⟨c, t, e, hc⟩ := dig_head (u / 100) h
    rw [e, List.cons_append, strip_stop _ _ (fun h48 => hc (UInt8.toNat_inj.1 h48)), ← List.cons_append, ← e]
    rw [dig_big u (by omega), dig_big (u / 10) (by omega), show u / 10 / 10 = u / 100 by omega]
    simp
  · have h0 : u / 100 = 0 := by omega
    rw [h0, dig_small 0 (by omega), List.singleton_append, strip_zero _ _ (dch_nat 0 (by omega)) (by simp)]
    by_cases h1 : u < 10
    · rw [show u / 10 % 10 = 0 by omega, show u % 10 = u by omega, strip_zero _ _ (dch_nat 0 (by omega)) (by simp), strip_short _ (by simp), dig_small u h1]
    · rw [strip_stop _ _ (by rw [dch_nat _ (by omega)]; omega), dig_big u h1, dig_small (u / 10) (by omega), show u / 10 % 10 = u / 10 by omega]
      rfl

theorem val_dec (u : Nat) : val (Lib.decDigits u) = u := by
  induction u using Nat.strongRecOn with
  | _ u ih =>
    by_cases h : u < 10
    · rw [dig_small u h]
      simp [val, dch_nat u h]
    · rw [dig_big u h, val_snoc, ih (u / 10) (by omega), dch_nat _ (by omega)]
      omega

theorem dec_digits (k : Nat) : ∀ u, 1 ≤ k → u < 10 ^ k → (Lib.decDigits u).length ≤ k := by
  induction k with
  | zero => intro u h; omega
  | succ k ih =>
    intro u _ hu
    by_cases h : u < 10
    · rw [dig_small u h]; simp
    · rw [dig_big u h, List.length_append, List.length_singleton]
      rw [Nat.pow_succ] at hu
      have hk : 1 ≤ k := by
        by_cases hk : k = 0
        · subst hk; simp at hu; omega
        · omega
      have := ih (u / 10) hk (by omega)
      omega

theorem dgB_dec (u : Nat) (h : u ≤ 1000000000000) : dgB (Lib.decDigits u) = true := by
  unfold dgB
  rw [Bool.and_eq_true, decide_eq_true_iff, List.all_eq_true]
  refine ⟨⟨List.length_pos_iff.2 (dig_ne_nil u), ?_⟩, fun c hc => (isDig_iff c).2 (dig_all u c hc)⟩
  exact dec_digits 13 u (by omega) (by have : (10 : Nat) ^ 13 = 10000000000000 := (by decide); omega)

theorem txt_ne (n : Int) : txt n ≠ [] := by
  unfold txt
  split
  · simp
  · rw [posT_dch]; simp

theorem sd_iff (l : List UInt8) (n : Int) : sd l = some n ↔ monB n = true ∧ txt n = l := by
  constructor
  · intro h
    unfold sd at h
    split at h
    · next hh =>
      rw [Bool.and_eq_true] at hh
      obtain rfl := Option.some.inj h
      have hne : l ≠ [] := keep_nil _ (strip_nil _ (dgO_ne hh.1))
      have hm : mtx (sdn l) = l := by simpa using hh.2
      unfold mtx at hm
      split at hm
      · next hb => exact ⟨hb, hm⟩
      · exact absurd hm.symm hne
    · cases h
  · rintro ⟨hb, rfl⟩
    obtain ⟨h1, h2⟩ := (monB_iff n).1 hb
    have hmt : mtx n = txt n := by simp [mtx, hb]
    have key : ∀ u : Nat, (u : Int) ≤ 1000000000000 → dgO (Lib.decDigits u) = true ∧ dgV (Lib.decDigits u) = u := fun u hu => by
      have hB := dgB_dec u (by omega)
      exact ⟨by simp [dgO, hB, val_dec], by simp [dgV, hB, val_dec]⟩
    by_cases hn : n < 0
    · obtain ⟨u, hu⟩ := Int.eq_ofNat_of_zero_le (show 0 ≤ -n by omega)
      obtain rfl : n = -(u : Int) := by omega
      obtain ⟨k1, k2⟩ := key u (by omega)
      have e : strip (keep (txt (-(u : Int)))) = Lib.decDigits u := by
        rw [txt_neg u (by omega), show keep (45 :: posT u) = keep (posT u) by simp [keep, isDig], keep_posT, strip_posT]
      have e2 : sdn (txt (-(u : Int))) = -(u : Int) := by
        unfold sdn
        rw [e, k2, if_pos (by rw [txt_neg u (by omega)]; rfl)]
      unfold sd
      rw [e, e2, k1, hmt]
      simp
    · obtain ⟨u, rfl⟩ := Int.eq_ofNat_of_zero_le (show 0 ≤ n by omega)
      obtain ⟨k1, k2⟩ := key u (by omega)
      have e : strip (keep (txt (u : Int))) = Lib.decDigits u := by
        rw [txt_nat, keep_posT, strip_posT]
      have e2 : sdn (txt (u : Int)) = (u : Int) := by
        unfold sdn
        rw [e, k2, if_neg]
        rw [txt_nat, posT_dch]
        intro hh
        cases hd : Lib.decDigits (u / 100) with
        | nil => exact dig_ne_nil _ hd
        | cons c t =>
          rw [hd] at hh
          simp at hh
          have := dig_all (u / 100) c (by rw [hd]; exact List.mem_cons_self)
          rw [hh] at this
          simp at this
      unfold sd
      rw [e, e2, k1, hmt]
      simp

theorem sd_rd (l : List UInt8) : sd l = rd l := by
  cases hr : rd l with
  | some n => exact (sd_iff l n).2 ((rd_iff l n).1 hr)
  | none =>
    cases hs : sd l with
    | none => rfl
    | some n =>
      have := (rd_iff l n).2 ((sd_iff l n).1 hs)
      rw [hr] at this
      cases this

theorem Ask.step {w w' : World} (h : Ask w) (hb : Below w.heap.size w w') : Ask w' := by
  obtain ⟨t, ⟨a, p, hs⟩, ⟨b, q, hr⟩, sh⟩ := h
  have g1 : (1 : Nat) < w.heap.size := by
    have := World.var?_cell gSyn hs 0
    exact block_lt (p := ⟨1, 0, none⟩) (by simpa using this)
  have g2 : (2 : Nat) < w.heap.size := by
    have := World.var?_cell gRan hr 0
    exact block_lt (p := ⟨2, 0, none⟩) (by simpa using this)
  exact ⟨t.step hb (Nat.le_refl _), ⟨a, p, var?_below hb gSyn g1 hs⟩, ⟨b, q, var?_below hb gRan g2 hr⟩, sh.keptBut (hb.frame (fun _ => False)) (fun _ h => h.elim)⟩

end Go.Proofs.YtonkaoacohocjaaDoor

/- Texts of life tables: plain facts on numbers separated by blanks (no program in it). -/
namespace Go.Proofs.YtonkaoacohocjaaDoor
set_option linter.unusedVariables false
set_option maxRecDepth 100000

theorem itoa_minus (n : Int) (h : 0 < n) : Lib.itoa (-n) = 45 :: Lib.itoa n := by
  obtain ⟨u, rfl⟩ := Int.eq_ofNat_of_zero_le (show 0 ≤ n by omega)
  rw [Lib.itoa_neg u (by omega), itoa_nat]

/-! ### numbers separated by blanks -/

/-- a blank and a number, for each -/
def tailT (r : List Int) : List UInt8 := r.flatMap fun m => 32 :: Lib.itoa m

/-- numbers in decimal, separated by blanks -/
def jn : List Int → List UInt8
  | [] => []
  | n :: r => Lib.itoa n ++ tailT r

theorem tailT_snoc (r : List Int) (m : Int) : tailT (r ++ [m]) = tailT r ++ 32 :: Lib.itoa m := by simp [tailT]

theorem tailT_nil : tailT [] = [] := rfl

theorem tailT_cons (m : Int) (r : List Int) : tailT (m :: r) = 32 :: (Lib.itoa m ++ tailT r) := by simp [tailT]

theorem jn_one (n : Int) : jn [n] = Lib.itoa n := by simp [jn, tailT]

theorem jn_snoc (n : Int) (r : List Int) (m : Int) : jn (n :: (r ++ [m])) = jn (n :: r) ++ 32 :: Lib.itoa m := by
  simp [jn, tailT_snoc]

/-- the words of a text, cut at every blank -/
def sp : List UInt8 → List (List UInt8)
  | [] => [[]]
  | c :: t => if c = 32 then [] :: sp t else
    match sp t with
    | w :: ws => (c :: w) :: ws
    | [] => [[c]]

theorem sp_ne (l : List UInt8) : sp l ≠ [] := by
  cases l with
  | nil => simp [sp]
  | cons c t =>
    unfold sp; split
    · simp
    · split <;> simp

/-- words joined by blanks -/
def jw : List (List UInt8) → List UInt8
  | [] => []
  | w :: ws => w ++ ws.flatMap fun x => 32 :: x

theorem jw_sp (l : List UInt8) : jw (sp l) = l := by
  induction l with
  | nil => simp [sp, jw]
  | cons c t ih =>
    unfold sp
    split
    · next h =>
      subst h
      cases hs : sp t with
      | nil => exact absurd hs (sp_ne t)
      | cons w ws => rw [hs] at ih; simp [jw] at ih ⊢; exact ih
    · split
      · next w ws hs => rw [hs] at ih; simp [jw] at ih ⊢; exact ih
      · next hs => exact absurd hs (sp_ne t)

theorem sp_plain (w : List UInt8) (h : ∀ c ∈ w, c ≠ 32) : sp w = [w] := by
  induction w with
  | nil => rfl
  | cons c t ih =>
    unfold sp
    rw [if_neg (h c List.mem_cons_self), ih fun x hx => h x (List.mem_cons_of_mem _ hx)]

theorem sp_app (w l : List UInt8) (h : ∀ c ∈ w, c ≠ 32) : sp (w ++ 32 :: l) = w :: sp l := by
  induction w with
  | nil => simp [sp]
  | cons c t ih =>
    rw [List.cons_append, sp, if_neg (h c List.mem_cons_self), ih fun x hx => h x (List.mem_cons_of_mem _ hx)]

theorem sp_jw (w : List UInt8) (ws : List (List UInt8)) (h : ∀ x ∈ w :: ws, ∀ c ∈ x, c ≠ 32) : sp (jw (w :: ws)) = w :: ws := by
  induction ws generalizing w with
  | nil => simp only [jw, List.flatMap_nil, List.append_nil]; exact sp_plain _ (h w List.mem_cons_self)
  | cons x xs ih =>
    have e : jw (w :: x :: xs) = w ++ 32 :: jw (x :: xs) := by simp [jw]
    rw [e, sp_app _ _ (h w List.mem_cons_self), ih x fun y hy => h y (List.mem_cons_of_mem _ hy)]

theorem itoa_plain (n : Int) (h : 0 ≤ n) : ∀ c ∈ Lib.itoa n, c ≠ 32 := by
  obtain ⟨u, rfl⟩ := Int.eq_ofNat_of_zero_le h
  intro c hc e
  rw [itoa_nat] at hc
  have := dig_all u c hc
  rw [e] at this
  simp at this

theorem jn_jw (n : Int) (r : List Int) : jn (n :: r) = jw (Lib.itoa n :: r.map Lib.itoa) := by
  simp [jn, jw, tailT, List.flatMap_map]

theorem sp_jn (n : Int) (r : List Int) (h : ∀ x ∈ n :: r, 0 ≤ x) : sp (jn (n :: r)) = (n :: r).map Lib.itoa := by
  rw [jn_jw, sp_jw, List.map_cons]
  intro x hx
  rw [← List.map_cons, List.mem_map] at hx
  obtain ⟨m, hm, rfl⟩ := hx
  exact itoa_plain m (h m hm)

/-! ### strings.Split at a blank gives these words -/

theorem index_one (b c : UInt8) (l : List UInt8) : Lib.index (b :: l) [c] = if b = c then 0 else if Lib.index l [c] = -1 then -1 else Lib.index l [c] + 1 := by
  rw [Lib.index]
  have e : ([c] : List UInt8).isPrefixOf (b :: l) = (c == b) := by simp [List.isPrefixOf]
  rw [e]
  by_cases h : b = c
  · subst h; simp
  · have h' : ¬ c = b := fun e => h e.symm
    simp [h, h']

theorem index_none (l : List UInt8) (c : UInt8) : Lib.index l [c] = -1 ↔ l.count c = 0 := by
  induction l with
  | nil => simp [Lib.index]
  | cons b t ih =>
    rw [index_one, List.count_cons]
    by_cases h : b = c
    · subst h; simp
    · have := Lib.index_ge t [c]
      rw [if_neg h]
      split
      · next h1 => simp [h, ih.1 h1]
      · next h1 =>
        have : ¬ t.count c = 0 := fun e => h1 (ih.2 e)
        simp [h]; omega

theorem splitK_one (l : List UInt8) : Lib.splitK [32] 0 (l.count 32) l = sp l := by
  induction l with
  | nil => rfl
  | cons b t ih =>
    by_cases h : b = 32
    · subst h
      rw [List.count_cons_self, Lib.splitK, index_one, if_pos rfl, sp, if_pos rfl, ← ih]
      simp
    · rw [List.count_cons_of_ne (fun e => h e), sp, if_neg h]
      by_cases h0 : t.count 32 = 0
      · rw [h0] at ih ⊢
        rw [← ih]; rfl
      · obtain ⟨k, hk⟩ : ∃ k, t.count 32 = k + 1 := ⟨t.count 32 - 1, by omega⟩
        rw [hk] at ih ⊢
        have hi : ¬ Lib.index t [32] = -1 := fun e => h0 ((index_none _ _).1 e)
        have hge := Lib.index_ge t [32]
        rw [Lib.splitK] at ih ⊢
        rw [if_neg (by simpa using hi)] at ih
        rw [index_one, if_neg h, if_neg hi, if_neg (by simp; omega), ← ih]
        have e1 : (Lib.index t [32] + 1).toNat = (Lib.index t [32]).toNat + 1 := by omega
        rw [e1]
        simp [List.take_succ_cons]

/-! ### a number's word -/

/-- what the model's reading of a signed number gives -/
def sgV (l : List UInt8) : Int := if l.head? = some 45 then -(dgV (l.drop 1)) else dgV l

def sgO (l : List UInt8) : Bool := if l.head? = some 45 then dgO (l.drop 1) && decide (0 < dgV (l.drop 1)) else dgO l

theorem dgO_dec {l : List UInt8} (h : dgO l = true) : l = Lib.itoa (dgV l) ∧ 0 ≤ dgV l := by
  unfold dgO at h
  rw [Bool.and_eq_true] at h
  have e : dgV l = (val l : Int) := by unfold dgV; rw [if_pos h.1]
  rw [e, itoa_nat]
  exact ⟨(by simpa using h.2 : Lib.decDigits (val l) = l).symm, by omega⟩

theorem sgO_itoa {l : List UInt8} (h : sgO l = true) : l = Lib.itoa (sgV l) := by
  unfold sgO at h
  unfold sgV
  split at h
  · next hh =>
    rw [if_pos hh]
    rw [Bool.and_eq_true] at h
    obtain ⟨h1, h2⟩ := h
    obtain ⟨e, h0⟩ := dgO_dec h1
    have hp : 0 < dgV (l.drop 1) := by simpa using h2
    cases l with
    | nil => simp at hh
    | cons c t =>
      simp at hh
      subst hh
      simp only [List.drop_succ_cons, List.drop_zero] at e hp ⊢
      rw [itoa_minus _ hp, ← e]
  · next hh => rw [if_neg hh]; exact (dgO_dec h).1

theorem dgO_itoa (n : Int) (h0 : 0 ≤ n) (h1 : n ≤ 1000000000000) : dgO (Lib.itoa n) = true ∧ dgV (Lib.itoa n) = n := by
  obtain ⟨u, rfl⟩ := Int.eq_ofNat_of_zero_le h0
  rw [itoa_nat]
  have hb := dgB_dec u (by omega)
  have hv := val_dec u
  exact ⟨by unfold dgO; rw [hb, hv]; simp, by unfold dgV; rw [if_pos hb, hv]⟩

theorem itoa_head (n : Int) (h0 : 0 ≤ n) : (Lib.itoa n).head? ≠ some 45 := by
  obtain ⟨u, rfl⟩ := Int.eq_ofNat_of_zero_le h0
  rw [itoa_nat]
  intro e
  cases hd : Lib.decDigits u with
  | nil => rw [hd] at e; simp at e
  | cons c t =>
    rw [hd] at e; simp at e
    have := dig_all u c (by rw [hd]; exact List.mem_cons_self)
    rw [e] at this
    simp at this

theorem sg_itoa (n : Int) (h0 : 0 ≤ n) (h1 : n ≤ 1000000000000) : sgO (Lib.itoa n) = true ∧ sgV (Lib.itoa n) = n := by
  have hh := itoa_head n h0
  obtain ⟨a, b⟩ := dgO_itoa n h0 h1
  exact ⟨by unfold sgO; rw [if_neg hh]; exact a, by unfold sgV; rw [if_neg hh]; exact b⟩

theorem parse_itoa (n : Int) (h0 : 0 ≤ n) (h1 : n ≤ 1000000000000) : Lib.parseIntB 64 (Lib.itoa n) = .ok n := by
  obtain ⟨u, rfl⟩ := Int.eq_ofNat_of_zero_le h0
  rw [itoa_nat]
  have hu : Lib.parseUintB 64 (Lib.decDigits u) = .ok u := by
    unfold Lib.parseUintB
    have := parse_dig (2 ^ 64 - 1) (by decide) u [] (by omega)
    rw [List.append_nil] at this
    rw [if_neg (by simp [dig_ne_nil]), this, Lib.parseUintM]
  cases hd : Lib.decDigits u with
  | nil => exact absurd hd (dig_ne_nil u)
  | cons c t =>
    have hc := dig_all u c (by rw [hd]; exact List.mem_cons_self)
    rw [hd] at hu
    rw [Lib.parseIntB]
    simp only [if_neg (show ¬ (c.toNat = 43 ∨ c.toNat = 45) by omega), hu]
    have h63 : (2 : Nat) ^ (64 - 1) = 9223372036854775808 := by decide
    rw [if_neg (by rw [h63]; omega), if_neg (by omega), if_neg (by omega)]

end Go.Proofs.YtonkaoacohocjaaDoor

/- TableText of the model: what the calls return. -/
namespace Go.Proofs.YtonkaoacohocjaaDoor
open Go.ChangeShapes Go.WideShapes Go.ChangeAt Go.RowKit
set_option linter.unusedVariables false
set_option maxRecDepth 100000

theorem itoa_len (n : Int) (h0 : 0 ≤ n) (h1 : n ≤ 1000000000000) : (Lib.itoa n).length ≤ 21 := Lib.itoa_length_le n (by omega) (by omega)

theorem tailT_len (r : List Int) (h : ∀ x ∈ r, 0 ≤ x ∧ x ≤ 1000000) : (tailT r).length ≤ 22 * r.length := by
  induction r with
  | nil => simp [tailT]
  | cons x t ih =>
    rw [tailT_cons, List.length_cons, List.length_append, List.length_cons]
    have h1 := itoa_len x (h x List.mem_cons_self).1 (by have := (h x List.mem_cons_self).2; omega)
    have h2 := ih fun y hy => h y (List.mem_cons_of_mem _ hy)
    omega

theorem jn_len (xs : List Int) (h : ∀ x ∈ xs, 0 ≤ x ∧ x ≤ 1000000) : (jn xs).length ≤ 22 * xs.length := by
  cases xs with
  | nil => simp [jn]
  | cons x t =>
    rw [jn, List.length_append, List.length_cons]
    have h1 := itoa_len x (h x List.mem_cons_self).1 (by have := (h x List.mem_cons_self).2; omega)
    have h2 := tailT_len t fun y hy => h y (List.mem_cons_of_mem _ hy)
    omega

theorem jn_take_succ (xs : List Int) (k : Nat) (hk : k < xs.length) (h0 : 0 < k) : jn (xs.take (k + 1)) = jn (xs.take k) ++ (32 :: Lib.itoa (xs.getD k 0)) := by
  rw [List.take_add_one, List.getElem?_eq_getElem hk]
  cases xs with
  | nil => simp at hk
  | cons x t =>
    obtain ⟨j, rfl⟩ : ∃ j, k = j + 1 := ⟨k - 1, by omega⟩
    rw [List.take_succ_cons]
    show jn (x :: (t.take j ++ [(x :: t)[j + 1]])) = _
    rw [jn_snoc]
    simp [List.getD, show j < t.length by simpa using hk]

theorem jn_take_one (xs : List Int) (hk : 0 < xs.length) : jn (xs.take 1) = Lib.itoa (xs.getD 0 0) := by
  cases xs with
  | nil => simp at hk
  | cons x t => simp [jn_one]

/-- numbers of a table's text -/
def Nums (xs : List Int) : Prop := ∀ x ∈ xs, 0 ≤ x ∧ x ≤ 1000000

theorem Nums.get {xs : List Int} (h : Nums xs) (i : Nat) : 0 ≤ xs.getD i 0 ∧ xs.getD i 0 ≤ 1000000 := by
  by_cases hi : i < xs.length
  · rw [List.getD_eq_getElem?_getD, List.getElem?_eq_getElem hi]; exact h _ (List.getElem_mem _)
  · rw [getD_far _ _ (by omega)]; omega

theorem Nums.take {xs : List Int} (h : Nums xs) (k : Nat) : Nums (xs.take k) := fun x hx => h x (List.mem_of_mem_take hx)

theorem LTab.nums {f : Int} {xs : List Int} (h : LTab f xs) : Nums (f :: xs) := by
  intro x hx
  rcases List.mem_cons.1 hx with rfl | hx
  · have := h.1; omega
  · obtain ⟨i, hi, rfl⟩ := List.getElem_of_mem hx
    have h1 := h.nonneg i
    have h2 := h.le i
    rw [List.getD_eq_getElem?_getD, List.getElem?_eq_getElem hi] at h1 h2
    exact ⟨h1, h2⟩

theorem number_any (n : Int) (w : World) (h0 : 0 ≤ n) (h1 : n ≤ 1000000000000) :
    Calls Tryd.prog 57 #[.int .i64 n] w fun e w' => e = .returned (.string ⟨(Lib.itoa n).toArray⟩) ∧ Below w.heap.size w w' := by
  obtain ⟨u, rfl⟩ := Int.eq_ofNat_of_zero_le h0
  have hc := fun w => dec_any u (u : Int) w (by omega) (by omega) (by omega)
  have HI := Lib.hid (itoa_nat u)
  simp only [Int.toNat_natCast] at hc
  have HC := Lib.hid hc
  clear hc
  go_enter Tryd.func57, Tryd.ntmps57
  go_wp2_with fail
  refine (HC.out _).mono ?_
  rintro e w1 ⟨rfl, hb⟩
  have HB := Lib.hid hb
  clear hb
  go_wp2_with fail
  go_ret
  exact ⟨ret_str (by rw [HI.out]), HB.out⟩

set_option maxHeartbeats 1000000 in
theorem join_any (xs : List Int) (a : Option Addr) (l c : Nat) (w : World) (h : Ints w a l xs) (hn : Nums xs) (hl : l ≤ 1000) :
    Calls Tryd.prog 38 #[.slice a l c, .string ⟨#[32]⟩] w fun e w' => e = .returned (.string ⟨(jn xs).toArray⟩) ∧ Below w.heap.size w w' := by
  have HL := Lib.hid h.len
  have H := Lib.hid h
  have HN := Lib.hid hn
  clear h hn
  go_enter Tryd.func38, Tryd.ntmps38
  go_wp2_with fail
  go_loopw [5, 6] (fun s i wr => ∃ k : Nat, k ≤ l ∧ i = .int .i64 k ∧ s = .string ⟨(jn (xs.take k)).toArray⟩ ∧ Hid (Below w.heap.size w wr)) (fun _ i _ => l - (intOf i).toNat)
  case atStart => exact ⟨0, Nat.zero_le _, rfl, by simp [jn], Lib.hid (Below.refl _ _)⟩
  case round =>
    obtain ⟨k, hk, rfl, rfl, HB⟩ := hrel
    have hlen := jn_len (xs.take k) (HN.out.take k)
    have hlk : (xs.take k).length ≤ k := List.length_take_le _ _
    by_cases hlt : k < l
    · obtain ⟨b, off, rfl, hb, hc⟩ := H.out.at (by omega)
      have hx := (HB.out.cell (p := ⟨b, off + k, none⟩) hb).trans (hc k hlt)
      obtain ⟨n0, n1⟩ := HN.out.get k
      have HT := Lib.hid (jn_take_succ xs k (by rw [HL.out]; exact hlt))
      have HT1 : Hid (k = 0 → jn (xs.take (k + 1)) = Lib.itoa (xs.getD k 0)) := Lib.hid (fun e => by subst e; exact jn_take_one xs (by rw [HL.out]; omega))
      have HTE : Hid (k = 0 → jn (xs.take k) = []) := Lib.hid (fun e => by subst e; simp [jn])
      obtain ⟨n, hn0⟩ : ∃ n, xs.getD k 0 = n := ⟨_, rfl⟩
      rw [hn0] at hx n0 n1 HT HT1
      have hil := itoa_len n n0 (by omega)
      obtain ⟨J, hJ⟩ : ∃ J, jn (xs.take k) = J := ⟨_, rfl⟩
      rw [hJ] at hlen HT HTE ⊢
      have hx' : wr.cell? ⟨b, off + k, none⟩ = some (.int .i64 n) := hx
      clear hn0 hJ hc hx
      have hJ2 : J.length ≤ 22000 := by omega
      by_cases h0 : k = 0
      · have hk0 : ¬ (0 : Int) < (k : Int) := by omega
        have HE := Lib.hid (HTE.out h0)
        have HT2 := Lib.hid (HT1.out h0)
        clear h0
        go_wp2_with fail
        refine (number_any n _ n0 (by omega)).mono ?_
        rintro e w3 ⟨rfl, hb3⟩
        have HB3 := Lib.hid (HB.out.trans (hb3.mono HB.out.size))
        clear hb3
        go_wp2_with fail
        go_roundw
        case rel => exact ⟨k + 1, by omega, by go_num, by rw [HT2.out]; congr 1; apply ByteArray.ext; simp [HE.out], HB3⟩
        case measure => simp [intOf]; omega
      · have hk0 : (0 : Int) < (k : Int) := by omega
        have HT2 := Lib.hid (HT.out (by omega))
        clear h0
        go_wp2_with fail
        refine (number_any n _ n0 (by omega)).mono ?_
        rintro e w3 ⟨rfl, hb3⟩
        have HB3 := Lib.hid (HB.out.trans (hb3.mono HB.out.size))
        clear hb3
        go_wp2_with fail
        go_roundw
        case rel => exact ⟨k + 1, by omega, by go_num, by rw [HT2.out]; congr 1; apply ByteArray.ext; simp, HB3⟩
        case measure => simp [intOf]; omega
    · obtain rfl : k = l := by omega
      have HX : Hid (xs.take k = xs) := Lib.hid (List.take_of_length_le (by rw [HL.out]; exact Nat.le_refl _))
      go_wp2_with fail
      go_ret
      exact ⟨ret_str (by rw [HX.out]), HB.out⟩

end Go.Proofs.YtonkaoacohocjaaDoor

/- TableText of the model: what the calls return. -/
namespace Go.Proofs.YtonkaoacohocjaaDoor
open Go.ChangeShapes Go.WideShapes Go.ChangeAt Go.RowKit
set_option linter.unusedVariables false
set_option maxRecDepth 100000

theorem ownI_lit1 (w : World) (x : Int) : OwnI w.heap.size (w.alloc (.cells #[.int .i64 x] 2)) (.slice (some ⟨w.heap.size, 0, none⟩) 1 1) [x] :=
  World.ownsRow_lit w #[.int .i64 x] 1 (Nat.le_refl _) (by unfold maxLen; omega) rfl

/-- append of a whole list -/
theorem wpList_apps {w : World} {ops : Array Oper} {rest : List Oper} {o : Oper} {a : Act} {Q : Exit → Act → World → Prop} (hgd : o.guard = none) (s x : Operand)
    (ho : o.op = .call { callee := .builtin .append, args := #[s, x], argTypes := #[24, 24] })
    (base : Nat) (v : Value) (xs ys : List Int) (m cp : Nat) (hs : a.eval s = v) (hown : OwnI base w v xs) (ad : Addr) (hx : a.eval x = .slice (some ad) m cp) (hm : ys.length = m) (hc : ∀ j u, (ys.map (Value.int .i64))[j]? = some u → w.cell? (ad.add j) = some u)
    (hlen : xs.length + ys.length ≤ 4096) (hbase : base ≤ w.heap.size)
    (h : ∀ v' w', OwnI base w' v' (xs ++ ys) → w.grownBy w' v.ownBlock → wpList Tryd.prog ops Q rest (a.put o.dst v') w') : wpList Tryd.prog ops Q (o :: rest) a w := by
  obtain ⟨i0, hi, hz0, hz1, hz2⟩ := info_parts infoI
  have hmx : maxLen = maxLen := rfl
  unfold maxLen at hmx
  obtain ⟨v', w', hr, h2, h3, h4⟩ := run_append_own (P := Tryd.prog) w base 24 o.type 2 i0 (.int .i64 0) 1 8 Tryd.underlying24 hi hz0 hz1 hz2 rfl (by decide) v xs.length (xs.map (Value.int .i64)) hown ad m cp (ys.map (Value.int .i64)) (by simp [hm]) hc (by intro u hu; obtain ⟨q, _, rfl⟩ := List.mem_map.1 hu; rfl) (by unfold maxLen; omega) (by omega) hbase
  have h6 : OwnI base w' v' (xs ++ ys) := by
    unfold OwnI
    rw [List.length_append, List.map_append, hm]
    exact h2
  refine wpList_plain hgd fun _ hK => ?_
  unfold Oper.wp execOp
  simp only [ho, resolve, invoke, builtin, Sem.run_bind, Sem.run_pure, Result.andThen_ok, List.map_toArray, List.map_cons, List.map_nil, hs, hx, hr]
  exact hK _ _ (h v' w' h6 h3)

/-- the text of a table, and none of another value -/
def ttT (f : Int) (xs : List Int) : List UInt8 := if ltB f xs = true then jn (f :: xs) else []

theorem ttT_t {f : Int} {xs : List Int} (h : ltB f xs = true) : ttT f xs = jn (f :: xs) := by simp [ttT, h]

theorem ttT_f {f : Int} {xs : List Int} (h : ltB f xs = false) : ttT f xs = [] := by simp [ttT, h]

set_option maxRecDepth 100000 in
set_option maxHeartbeats 1000000 in
theorem tt_spec (f : Int) (xs : List Int) (a : Option Addr) (l c : Nat) (w : World) (h : Ints w a l xs) :
    Calls Tryd.prog 16 #[.agg #[.int .i64 f, .slice a l c]] w fun e w' => e = .returned (.string ⟨(ttT f xs).toArray⟩) ∧ Below w.heap.size w w' := by
  have HC := Lib.hid (isL_spec f xs a l c (w.alloc (.cells #[.int .i64 f, .slice a l c] 26)) (h.on (box_b _ _)))
  have HL := Lib.hid h.len
  have H := Lib.hid h
  clear h
  by_cases h1 : ltB f xs = true
  · have HT := Lib.hid (ttT_t h1)
    have ht := (ltB_iff _ _).1 h1
    have HN := Lib.hid ht.nums
    have hl := ht.2.1
    rw [HL.out] at hl
    obtain ⟨hl0, hl1⟩ := hl
    rw [h1] at HC
    obtain ⟨b, off, rfl, hb, hc⟩ := H.out.at (by omega)
    have HCC := Lib.hid hc
    clear h1 ht hc
    go_enter Tryd.func16, Tryd.ntmps16
    go_wp2_with fail
    refine HC.out.mono ?_
    rintro e w1 ⟨rfl, hb1⟩
    obtain ⟨hB, hc0, hc1⟩ := box2 hb1
    have HB := Lib.hid hB
    have HO := Lib.hid (ownI_lit1 w1 f)
    have HSC : Hid (∀ j u, (xs.map (Value.int .i64))[j]? = some u → (w1.alloc (.cells #[.int .i64 f] 2)).cell? ((⟨b, off, none⟩ : Addr).add j) = some u) := Lib.hid (by
      intro j u hj
      have hjl : j < l := by
        have := (List.getElem?_eq_some_iff.1 hj).1
        simpa [HL.out] using this
      rw [Go.WideShapes.add_plain, (HB.out.alloc HB.out.size _).cell (p := ⟨b, off + j, none⟩) hb, HCC.out j hjl]
      rw [List.getElem?_map, List.getElem?_eq_getElem (by rw [HL.out]; exact hjl)] at hj
      simp [List.getD, List.getElem?_eq_getElem (show j < xs.length by rw [HL.out]; exact hjl)] at hj ⊢
      exact hj)
    have hbs := HB.out.size
    have hlt0 : w.heap.size < w1.heap.size := block_lt hc0
    clear hB hb1
    go_wp2_with (at_builtin; refine wpList_apps rfl _ _ rfl w1.heap.size _ [f] xs l c rfl HO.out ⟨b, off, none⟩ rfl HL.out HSC.out (by simp; have := HL.out; omega) (by simp) ?_)
    intro v' w5 hown' hgrow
    have HO5 := Lib.hid hown'
    have HB5 := Lib.hid ((HB.out.alloc hbs _).grown hgrow (by simp; omega) (fun k hk => by have := (HO.out.lt k hk).1; omega))
    obtain ⟨a5, c5, rfl, h5⟩ := HO5.out.ints (by have := HL.out; simp; omega)
    have HI5 := Lib.hid h5
    have HLN : Hid ((f :: xs).length = l + 1) := Lib.hid (by have := HL.out; simp; omega)
    obtain ⟨n, hn⟩ : ∃ n, (f :: xs).length = n := ⟨_, rfl⟩
    rw [hn] at HI5 HLN
    (try rw [hn])
    have hn2 : n ≤ 1000 := by have := HLN.out; omega
    clear hown' hgrow h5 hn
    go_wp2_with fail
    refine (join_any (f :: xs) _ _ _ _ HI5.out HN.out hn2).mono ?_
    rintro e w6 ⟨rfl, hb6⟩
    have HB6 := Lib.hid (HB5.out.trans (hb6.mono HB5.out.size))
    clear hb6
    go_wp2_with fail
    go_ret
    exact ⟨ret_str (by rw [HT.out]), HB6.out⟩
  · have h1' : ltB f xs = false := by simpa using h1
    have HT := Lib.hid (ttT_f h1')
    rw [h1'] at HC
    clear h1 h1'
    go_enter Tryd.func16, Tryd.ntmps16
    go_wp2_with fail
    refine HC.out.mono ?_
    rintro e w1 ⟨rfl, hb1⟩
    obtain ⟨hB, hc0, hc1⟩ := box2 hb1
    have HB := Lib.hid hB
    clear hB hb1
    go_wp2_with fail
    go_ret
    exact ⟨ret_str (by rw [HT.out]), HB.out⟩

end Go.Proofs.YtonkaoacohocjaaDoor

/- strconv.AppendInt onto a slice of bytes of the call's own, also one that a conversion of a string made. -/
namespace Go.Proofs.YtonkaoacohocjaaDoor
open Go.ChangeShapes Go.WideShapes Go.ChangeAt Go.RowKit
set_option linter.unusedVariables false

/-- what an append of the text m onto l leaves -/
def AppM (base : Nat) (l m : List UInt8) (w : World) (e : Ending) (w' : World) : Prop := ∃ v', e = .returned v' ∧ OwnM base w' v' (l ++ m) ∧ Below base w w'

theorem dec_len100 (u : Nat) (h : u < 100) : (Lib.decDigits u).length ≤ 20 := by
  rw [Lib.decDigits_length]
  by_cases h10 : u < 10
  · rw [Lib.nDigits_small h10]; omega
  · rw [Lib.nDigits_big h10, Lib.nDigits_small (show u / 10 < 10 by omega)]; omega

set_option maxRecDepth 100000 in
set_option maxHeartbeats 4000000 in
theorem au_small (base u : Nat) (hu : u < 100) (v : Value) (l : List UInt8) (w : World) (hown : OwnM base w v l) (hb : base ≤ w.heap.size) (hl : l.length ≤ 140737488355000) :
    Calls Tryd.prog 72 #[v, .int .u64 u, .int .i64 10] w (AppM base l (Lib.decDigits u) w) := by
  have HO := Lib.hid hown
  have hd := dec_len100 u hu
  clear hown
  go_enter Tryd.func72, Tryd.ntmps72
  go_wp2_with (first
    | (go_at_call 68; refine (Tryd.internal_strconv_small u hu _).mono ?_; rintro e w' ⟨rfl, hw⟩; have hw := hw.symm; subst hw)
    | (at_builtin; refine wpM_string rfl _ _ rfl base _ _ (Lib.decDigits u) rfl HO.out rfl (by omega) hb ?_))
  intro v' w1 hown' hgrow
  have H1 := Lib.hid hown'
  have HB : Hid (Below base w w1) := Lib.hid ((Below.refl _ _).grown hgrow hb (fun k hk => (HO.out.lt k hk).1))
  clear hown' hgrow
  go_wp2_with fail
  go_ret
  exact ⟨v', rfl, H1.out, HB.out⟩

set_option maxRecDepth 100000 in
set_option maxHeartbeats 8000000 in
theorem au_big (base u : Nat) (hu : 100 ≤ u) (hu64 : u < 18446744073709551616) (v : Value) (l : List UInt8) (w : World) (hown : OwnM base w v l) (hb : base ≤ w.heap.size) (hl : l.length ≤ 140737488355000) (ht : Tab w) :
    Calls Tryd.prog 72 #[v, .int .u64 u, .int .i64 10] w (AppM base l (Lib.decDigits u) w) := by
  have hu1 : 1 ≤ u := by omega
  have hnd : Lib.nDigits u ≤ 20 := by have := Lib.numDigits_eq u hu1 hu64; split at this <;> omega
  have hdl := Lib.decDigits_length u
  have hsl : ∀ W, (Instr.sliceAt 88 (.pointer (some ⟨w.heap.size, 0, none⟩)) none (some (.int .i64 (Lib.nDigits u : Int))) none).run Tryd.prog W = .ok (.slice (some ⟨w.heap.size, 0, none⟩) (Lib.nDigits u) 24) W := fun W => by
    rw [run_sliceAt_array_h W 88 ⟨w.heap.size, 0, none⟩ (by kernel_rfl) .i64 (Lib.nDigits u : Int) (by omega) (by rw [show Tryd.prog.arrayLen 88 = 24 by kernel_rfl]; omega), show Tryd.prog.arrayLen 88 = 24 by kernel_rfl]
    go_simp
  have hH0 := Lib.holds_zero0 w 88 (Lib.nDigits u) (by omega)
  have hfmt := Tryd.internal_strconv_formatBase10 w.heap.size 0 24 u (Array.replicate (Lib.nDigits u) 0) (w.alloc (.cells Lib.zeros24 88)) hH0 (by rw [Array.size_replicate]; exact Lib.lt_pow_nDigits u) hu64 (by rw [Array.size_replicate]; omega)
  rw [Array.size_replicate] at hfmt
  have hnum := Tryd.internal_strconv_numDigits u hu1 hu64 _ (Lib.tabIs_alloc ht (.cells Lib.zeros24 88))
  have HO := Lib.hid hown
  have HF := Lib.hid hfmt
  have HN := Lib.hid hnum
  have HH := Lib.hid hH0
  have HD := Lib.hid hdl
  have iu : (100 : Int) ≤ (u : Int) := by omega
  clear hown hfmt hnum hH0 hdl ht
  go_enter Tryd.func72, Tryd.ntmps72
  go_wp2_with (go_at_call 69; refine HN.out.mono ?_; rintro e w' ⟨rfl, rfl⟩)
  refine HF.out.mono ?_
  rintro e w' ⟨rfl, k, v', dk, rfl, hF⟩
  have hcells : ∀ j u', (Lib.byteCells (Lib.decDigits u))[j]? = some u' → ((Go.Sort.putRow (fun (b : UInt8) => Value.int .u8 (b.toNat : Int)) (w.alloc (.cells Lib.zeros24 88)) w.heap.size 0 dk).drewN k).cell? ((⟨w.heap.size, 0, none⟩ : Addr).add j) = some u' := by
    intro j u' hj
    have hjl : j < (Lib.decDigits u).length := by
      have h5 := (List.getElem?_eq_some_iff.1 hj).1
      rwa [Lib.byteCells_length] at h5
    have e5 : (Lib.byteCells (Lib.decDigits u))[j]? = some (Value.int .u8 ((Lib.decDigits u)[j].toNat : Int)) := by simp [Lib.byteCells, hjl]
    rw [e5] at hj
    cases hj
    rw [Lib.row_is_numeral hF j hjl, Addr.add_lit, World.cell?_drewN]
    exact Go.Sort.cell?_putRow (fun (b : UInt8) => Value.int .u8 (b.toNat : Int)) _ w.heap.size 0 _ dk HH.out (by rw [hF.size, Array.size_replicate]) j (by rw [hF.size, ← HD.out]; exact hjl)
  obtain ⟨os, eo⟩ := Lib.fin_at w (.cells Lib.zeros24 88) dk k 0
  have hbW : Below w.heap.size w ((Go.Sort.putRow (fun (b : UInt8) => Value.int .u8 (b.toNat : Int)) (w.alloc (.cells Lib.zeros24 88)) w.heap.size 0 dk).drewN k) := by rw [eo]; exact Lib.below_grow w.heap.size w (Nat.le_refl _) k os
  have HO2 := Lib.hid (HO.out.step hbW)
  have HB2 := Lib.hid (hbW.mono hb)
  have HC := Lib.hid hcells
  have hsz : base ≤ ((Go.Sort.putRow (fun (b : UInt8) => Value.int .u8 (b.toNat : Int)) (w.alloc (.cells Lib.zeros24 88)) w.heap.size 0 dk).drewN k).heap.size := Nat.le_trans hb hbW.size
  generalize (Go.Sort.putRow (fun (b : UInt8) => Value.int .u8 (b.toNat : Int)) (w.alloc (.cells Lib.zeros24 88)) w.heap.size 0 dk).drewN k = W2 at HC HO2 HB2 hsz ⊢
  clear eo hF hcells hbW HF HN HH HO
  go_wp2_with (at_builtin; refine wpM_slice rfl _ _ rfl base _ _ (Lib.decDigits u) rfl HO2.out (Lib.nDigits u) 24 ⟨w.heap.size, 0, none⟩ rfl HD.out HC.out (by rw [HD.out]; omega) hsz ?_)
  intro v2 w3 hown' hgrow
  have H3 := Lib.hid hown'
  have HB3 : Hid (Below base w w3) := Lib.hid (HB2.out.grown hgrow hsz (fun k hk => (HO2.out.lt k hk).1))
  clear hown' hgrow
  go_wp2_with fail
  go_ret
  exact ⟨v2, rfl, H3.out, HB3.out⟩

theorem au_any (base u : Nat) (hu64 : u < 18446744073709551616) (v : Value) (l : List UInt8) (w : World) (hown : OwnM base w v l) (hb : base ≤ w.heap.size) (hl : l.length ≤ 140737488355000) (ht : Tab w) :
    Calls Tryd.prog 72 #[v, .int .u64 u, .int .i64 10] w (AppM base l (Lib.decDigits u) w) := by
  by_cases h : u < 100
  · exact au_small base u h v l w hown hb hl
  · exact au_big base u (by omega) hu64 v l w hown hb hl ht

theorem Tab.stepB {w w' : World} {B : Nat} (h : Tab w) (hg : 0 < B) (hb : Below B w w') : Tab w' := var?_below hb gTab hg h

set_option maxRecDepth 100000 in
set_option maxHeartbeats 4000000 in
theorem ai_in (base : Nat) (n : Int) (h0 : -9223372036854775808 ≤ n) (h1 : n ≤ 9223372036854775807) (v : Value) (l : List UInt8) (w : World) (hown : OwnM base w v l) (hb : base ≤ w.heap.size) (hg : 0 < base) (hl : l.length ≤ 140737488354000) (ht : Tab w) :
    Calls Tryd.prog 60 #[v, .int .i64 n, .int .i64 10] w (AppM base l (Lib.itoa n) w) := by
  have HT := Lib.hid ht
  have HO := Lib.hid hown
  clear ht hown
  by_cases hneg : n < 0
  · obtain ⟨u, rfl⟩ : ∃ u : Nat, n = -(u : Int) := ⟨n.natAbs, by omega⟩
    have hwr : IntKind.u64.wrap (-IntKind.u64.wrap (-(u : Int))) = (u : Int) := by rw [IntKind.wrap_u64, IntKind.wrap_u64]; omega
    have HI := Lib.hid (Lib.itoa_neg u (by omega))
    go_enter Tryd.func60, Tryd.ntmps60
    go_wp2_with (at_builtin; refine wpM_slice rfl _ _ rfl base _ _ [45] rfl (HO.out.step (box_b _ _)) 1 1 ⟨w.heap.size, 0, none⟩ rfl rfl (oneB (World.cell?_alloc_new _ _ _ _)) (by simp; omega) (by simp; omega) ?_)
    intro v1 w1 hown' hgrow
    have H1 := Lib.hid hown'
    have hB1 : Below base w w1 := ((Below.refl base w).alloc hb _).grown hgrow (by simp; omega) (fun k hk => (HO.out.lt k hk).1)
    have HB1 := Lib.hid hB1
    have HT1 := Lib.hid (HT.out.stepB hg hB1)
    have hsz := hB1.size
    clear hown' hgrow hB1
    go_wp2_with fail
    refine (au_any base u (by omega) v1 _ w1 H1.out (by omega) (by simp; omega) HT1.out).mono ?_
    rintro e w2 ⟨v2, rfl, hown2, hb2⟩
    have H2 := Lib.hid hown2
    have HB2 := Lib.hid (HB1.out.trans hb2)
    clear hown2 hb2
    go_wp2_with fail
    go_ret
    refine ⟨v2, rfl, ?_, HB2.out⟩
    have := H2.out
    rw [HI.out]
    simpa using this
  · obtain ⟨u, rfl⟩ := Int.eq_ofNat_of_zero_le (show 0 ≤ n by omega)
    have HI := Lib.hid (itoa_nat u)
    go_enter Tryd.func60, Tryd.ntmps60
    go_wp2_with fail
    refine (au_any base u (by omega) v _ w HO.out hb (by omega) HT.out).mono ?_
    rintro e w2 ⟨v2, rfl, hown2, hb2⟩
    have H2 := Lib.hid hown2
    have HB2 := Lib.hid hb2
    clear hown2 hb2
    go_wp2_with fail
    go_ret
    exact ⟨v2, rfl, by rw [HI.out]; exact H2.out, HB2.out⟩

theorem ai_any (base : Nat) (n : Int) (h0 : -9223372036854775808 ≤ n) (h1 : n ≤ 9223372036854775807) (v : Value) (l : List UInt8) (w : World) (hown : OwnM base w v l) (hb : base ≤ w.heap.size) (hg : 0 < base) (hl : l.length ≤ 140737488354000) (ht : Tab w) :
    Calls Tryd.prog 50 #[v, .int .i64 n, .int .i64 10] w (AppM base l (Lib.itoa n) w) := by
  have HT := Lib.hid ht
  have HO := Lib.hid hown
  clear ht hown
  go_enter Tryd.func50, Tryd.ntmps50
  go_wp2_with fail
  refine (ai_in base n h0 h1 v l w HO.out hb hg hl HT.out).mono ?_
  rintro e w2 ⟨v2, rfl, hown2, hb2⟩
  have H2 := Lib.hid hown2
  have HB2 := Lib.hid hb2
  clear hown2 hb2
  go_wp2_with fail
  go_ret
  exact ⟨v2, rfl, H2.out, HB2.out⟩

end Go.Proofs.YtonkaoacohocjaaDoor
