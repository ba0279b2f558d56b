/- Merged: ReadI, ReadL, TabT, Par. -/
import Derived.Test.YtpphiekbhikadaaDoorTrx3
import Derived.Test.YtpphiekbhikadaaDoorTrx19
import Derived.LaidLaws
import Derived.MakeChecks
import Derived.Lib.SplitLaws

/- ReadMoney of the program: what each call returns. -/
namespace Go.Proofs.YtpphiekbhikadaaDoor
open Go.ChangeShapes Go.WideShapes Go.ChangeAt Go.RowKit
set_option linter.unusedVariables false

/-- the library's variable holds an error -/
def ErrIs (w : World) (name : String) : Prop := ∃ tp p, w.var? Tryd.prog name = some #[.iface tp p]

theorem err_of {W : World} {name nm : String} {g t : Nat} {ms : Array (String × TypeId)} {d : DataW Unit} (hg : Tryd.prog.globalNamed name = some g) (hty : (Tryd.prog.globals[g]?).map (fun x => x.type) = some t)
    (ht : Tryd.prog.underlying t = some (.interface ms)) (h : laidMet Tryd.prog [(name, .iface nm d)] W) : ErrIs W name := by
  obtain ⟨ps, ⟨g', t', cs, fuel, p, q, hg', ht', hvar, hd, _, _⟩, _⟩ := h
  obtain rfl := Option.some.inj (hg.symm.trans hg')
  obtain rfl := Option.some.inj (hty.symm.trans ht')
  obtain ⟨_, u, v, hcs, _, _⟩ := iface_of_trod ht hd
  refine ⟨u, v, ?_⟩
  rw [hvar]
  obtain ⟨l⟩ := cs
  simp at hcs
  rw [hcs]

theorem gSyn : Tryd.prog.globalNamed "strconv.ErrSyntax" = some 1 := by kernel_rfl

theorem gRan : Tryd.prog.globalNamed "strconv.ErrRange" = some 2 := by kernel_rfl

theorem tSyn : (Tryd.prog.globals[1]?).map (fun x => x.type) = some 88 := by kernel_rfl

theorem tRan : (Tryd.prog.globals[2]?).map (fun x => x.type) = some 88 := by kernel_rfl

theorem errSyn_of {W : World} {nm : String} {d : DataW Unit} (h : laidMet Tryd.prog [("strconv.ErrSyntax", .iface nm d)] W) : ErrIs W "strconv.ErrSyntax" := err_of gSyn tSyn Tryd.underlying88 h

theorem errRan_of {W : World} {nm : String} {d : DataW Unit} (h : laidMet Tryd.prog [("strconv.ErrRange", .iface nm d)] W) : ErrIs W "strconv.ErrRange" := err_of gRan tRan Tryd.underlying88 h

/-- what ReadMoney asks of the world: the table, both errors, the shape of the library's variables -/
structure Ask (w : World) : Prop where
  tab : Tab w
  syn : ErrIs w "strconv.ErrSyntax"
  ran : ErrIs w "strconv.ErrRange"
  shape : w.ShapedOpen Tryd.prog

theorem ErrIs.of_heap {w w' : World} {name : String} (h : ErrIs w name) (e : w'.heap = w.heap) : ErrIs w' name := by
  obtain ⟨tp, p, hv⟩ := h
  refine ⟨tp, p, ?_⟩
  unfold World.var? at hv ⊢
  rw [e]; exact hv

def rdV (l : List UInt8) : Int := (rd l).getD 0

def rdB (l : List UInt8) : Bool := (rd l).isSome

theorem ret_ib {a b : Int} {c d : Bool} (h : a = b) (g : c = d) : Ending.returned (.tuple #[.int .i64 a, .bool c]) = .returned (.tuple #[.int .i64 b, .bool d]) := by rw [h, g]

def RmPost (l : List UInt8) (w : World) (e : Ending) (w' : World) : Prop := e = .returned (.tuple #[.int .i64 (rdV l), .bool (rdB l)]) ∧ Below w.heap.size w w'

theorem cut_len (l : List UInt8) : (Lib.cut l [46]).1.length ≤ l.length ∧ (Lib.cut l [46]).2.1.length ≤ l.length := by
  unfold Lib.cut
  split
  · simp; omega
  · simp

theorem var_drewN (Q : Program) (w : World) (n : Nat) (x : String) : (w.drewN n).var? Q x = w.var? Q x := rfl

theorem below_parse {w w1 : World} {n : Nat} (h : w1 = w.drewN n ∨ ∃ t, w1 = Lib.bytesWorld (w.drewN n) 5 t) : Below w.heap.size w w1 := by
  rcases h with rfl | ⟨t, rfl⟩
  · exact below_drewN (Below.refl _ _) _
  · exact (below_drewN (Below.refl _ _) _).trans (Joins.below_bytesWorld _ _ _ _ (Nat.le_refl _))

def ErrPost (v : Int) (w : World) (e : Ending) (w' : World) : Prop := (∃ N : Nat, e = .returned (.tuple #[.int .i64 v, .iface 112 (.pointer (some ⟨N, 0, none⟩))])) ∧ Below w.heap.size w w'

theorem parse_syn (s : ByteArray) (w : World) (hl : s.size ≤ 281474976710656) (h : Lib.parseIntB 64 s.data.toList = .«syntax») (hv : ErrIs w "strconv.ErrSyntax") :
    Calls Tryd.prog 62 #[.string s, .int .i64 10, .int .i64 64] w (ErrPost 0 w) := by
  obtain ⟨tp, p, hv⟩ := hv
  exact (Tryd.strconv_ParseInt_10_at64_syntax_var s hl h tp p w hv).mono fun e w' ⟨N, h1, _, _, h4⟩ => ⟨⟨N, h1⟩, h4⟩

theorem parse_ran (s : ByteArray) (w : World) (hl : s.size ≤ 281474976710656) (h : Lib.parseIntB 64 s.data.toList = .range) (hv : ErrIs w "strconv.ErrRange") :
    Calls Tryd.prog 62 #[.string s, .int .i64 10, .int .i64 64] w (ErrPost (Lib.intSat 64 s.data.toList) w) := by
  obtain ⟨tp, p, hv⟩ := hv
  exact (Tryd.strconv_ParseInt_10_at64_range_var s hl h tp p w hv).mono fun e w' ⟨N, h1, _, _, h4⟩ => ⟨⟨N, h1⟩, h4⟩

end Go.Proofs.YtpphiekbhikadaaDoor

/- The exact law on ReadMoney: the program finds what its model finds. -/
namespace Go.Proofs.YtpphiekbhikadaaDoor
open Go.ChangeShapes Go.WideShapes Go.ChangeAt Go.RowKit
set_option linter.unusedVariables false

theorem isDig_iff (c : UInt8) : isDig c = true ↔ 48 ≤ c.toNat ∧ c.toNat ≤ 57 := by simp [isDig]

theorem keep_dig (u : Nat) : keep (Lib.decDigits u) = Lib.decDigits u := by
  unfold keep
  rw [List.filter_eq_self]
  intro c hc
  exact (isDig_iff c).2 (dig_all u c hc)

theorem isDig_dch (d : Nat) (h : d < 10) : isDig (dch d) = true := by
  rw [isDig_iff, dch_nat d h]; omega

theorem keep_posT (u : Nat) : keep (posT u) = Lib.decDigits (u / 100) ++ [dch (u / 10 % 10), dch (u % 10)] := by
  have h := keep_dig (u / 100)
  unfold keep at h
  rw [posT_dch, keep, List.filter_append, h, List.filter_cons, if_neg (by decide), List.filter_cons, if_pos (isDig_dch _ (by omega)), List.filter_cons, if_pos (isDig_dch _ (by omega)), List.filter_nil]

theorem strip_posT (u : Nat) : strip (Lib.decDigits (u / 100) ++ [dch (u / 10 % 10), dch (u % 10)]) = Lib.decDigits u := by
  by_cases h : 0 < u / 100
  · obtain ⟨c, t, e, hc⟩ := dig_head (u / 100) h
    rw [e, List.cons_append, strip_stop _ _ (fun h48 => hc (UInt8.toNat_inj.1 h48)), ← List.cons_append, ← e]
    rw [dig_big u (by omega), dig_big (u / 10) (by omega), show u / 10 / 10 = u / 100 by omega]
    simp
  · have h0 : u / 100 = 0 := by omega
    rw [h0, dig_small 0 (by omega), List.singleton_append, strip_zero _ _ (dch_nat 0 (by omega)) (by simp)]
    by_cases h1 : u < 10
    · rw [show u / 10 % 10 = 0 by omega, show u % 10 = u by omega, strip_zero _ _ (dch_nat 0 (by omega)) (by simp), strip_short _ (by simp), dig_small u h1]
    · rw [strip_stop _ _ (by rw [dch_nat _ (by omega)]; omega), dig_big u h1, dig_small (u / 10) (by omega), show u / 10 % 10 = u / 10 by omega]
      rfl

theorem val_dec (u : Nat) : val (Lib.decDigits u) = u := by
  induction u using Nat.strongRecOn with
  | _ u ih =>
    by_cases h : u < 10
    · rw [dig_small u h]
      simp [val, dch_nat u h]
    · rw [dig_big u h, val_snoc, ih (u / 10) (by omega), dch_nat _ (by omega)]
      omega

theorem dec_digits (k : Nat) : ∀ u, 1 ≤ k → u < 10 ^ k → (Lib.decDigits u).length ≤ k := by
  induction k with
  | zero => intro u h; omega
  | succ k ih =>
    intro u _ hu
    by_cases h : u < 10
    · rw [dig_small u h]; simp
    · rw [dig_big u h, List.length_append, List.length_singleton]
      rw [Nat.pow_succ] at hu
      have hk : 1 ≤ k := by
        by_cases hk : k = 0
        · subst hk; simp at hu; omega
        · omega
      have := ih (u / 10) hk (by omega)
      omega

theorem dgB_dec (u : Nat) (h : u ≤ 1000000000000) : dgB (Lib.decDigits u) = true := by
  unfold dgB
  rw [Bool.and_eq_true, decide_eq_true_iff, List.all_eq_true]
  refine ⟨⟨List.length_pos_iff.2 (dig_ne_nil u), ?_⟩, fun c hc => (isDig_iff c).2 (dig_all u c hc)⟩
  exact dec_digits 13 u (by omega) (by have : (10 : Nat) ^ 13 = 10000000000000 := (by decide); omega)

theorem txt_ne (n : Int) : txt n ≠ [] := by
  unfold txt
  split
  · simp
  · rw [posT_dch]; simp

theorem sd_iff (l : List UInt8) (n : Int) : sd l = some n ↔ monB n = true ∧ txt n = l := by
  constructor
  · intro h
    unfold sd at h
    split at h
    · next hh =>
      rw [Bool.and_eq_true] at hh
      obtain rfl := Option.some.inj h
      have hne : l ≠ [] := keep_nil _ (strip_nil _ (dgO_ne hh.1))
      have hm : mtx (sdn l) = l := by simpa using hh.2
      unfold mtx at hm
      split at hm
      · next hb => exact ⟨hb, hm⟩
      · exact absurd hm.symm hne
    · cases h
  · rintro ⟨hb, rfl⟩
    obtain ⟨h1, h2⟩ := (monB_iff n).1 hb
    have hmt : mtx n = txt n := by simp [mtx, hb]
    have key : ∀ u : Nat, (u : Int) ≤ 1000000000000 → dgO (Lib.decDigits u) = true ∧ dgV (Lib.decDigits u) = u := fun u hu => by
      have hB := dgB_dec u (by omega)
      exact ⟨by simp [dgO, hB, val_dec], by simp [dgV, hB, val_dec]⟩
    by_cases hn : n < 0
    · obtain ⟨u, hu⟩ := Int.eq_ofNat_of_zero_le (show 0 ≤ -n by omega)
      obtain rfl : n = -(u : Int) := by omega
      obtain ⟨k1, k2⟩ := key u (by omega)
      have e : strip (keep (txt (-(u : Int)))) = Lib.decDigits u := by
        rw [txt_neg u (by omega), show keep (45 :: posT u) = keep (posT u) by simp [keep, isDig], keep_posT, strip_posT]
      have e2 : sdn (txt (-(u : Int))) = -(u : Int) := by
        unfold sdn
        rw [e, k2, if_pos (by rw [txt_neg u (by omega)]; rfl)]
      unfold sd
      rw [e, e2, k1, hmt]
      simp
    · obtain ⟨u, rfl⟩ := Int.eq_ofNat_of_zero_le (show 0 ≤ n by omega)
      obtain ⟨k1, k2⟩ := key u (by omega)
      have e : strip (keep (txt (u : Int))) = Lib.decDigits u := by
        rw [txt_nat, keep_posT, strip_posT]
      have e2 : sdn (txt (u : Int)) = (u : Int) := by
        unfold sdn
        rw [e, k2, if_neg]
        rw [txt_nat, posT_dch]
        intro hh
        cases hd : Lib.decDigits (u / 100) with
        | nil => exact dig_ne_nil _ hd
        | cons c t =>
          rw [hd] at hh
          simp at hh
          have := dig_all (u / 100) c (by rw [hd]; exact List.mem_cons_self)
          rw [hh] at this
          simp at this
      unfold sd
      rw [e, e2, k1, hmt]
      simp

theorem sd_rd (l : List UInt8) : sd l = rd l := by
  cases hr : rd l with
  | some n => exact (sd_iff l n).2 ((rd_iff l n).1 hr)
  | none =>
    cases hs : sd l with
    | none => rfl
    | some n =>
      have := (rd_iff l n).2 ((sd_iff l n).1 hs)
      rw [hr] at this
      cases this

theorem Ask.step {w w' : World} (h : Ask w) (hb : Below w.heap.size w w') : Ask w' := by
  obtain ⟨t, ⟨a, p, hs⟩, ⟨b, q, hr⟩, sh⟩ := h
  have g1 : (1 : Nat) < w.heap.size := by
    have := World.var?_cell gSyn hs 0
    exact block_lt (p := ⟨1, 0, none⟩) (by simpa using this)
  have g2 : (2 : Nat) < w.heap.size := by
    have := World.var?_cell gRan hr 0
    exact block_lt (p := ⟨2, 0, none⟩) (by simpa using this)
  exact ⟨t.step hb (Nat.le_refl _), ⟨a, p, var?_below hb gSyn g1 hs⟩, ⟨b, q, var?_below hb gRan g2 hr⟩, sh.keptBut (hb.frame (fun _ => False)) (fun _ h => h.elim)⟩

end Go.Proofs.YtpphiekbhikadaaDoor

/- Texts of life tables: plain facts on numbers separated by blanks (no program in it). -/
namespace Go.Proofs.YtpphiekbhikadaaDoor
set_option linter.unusedVariables false
set_option maxRecDepth 100000

theorem itoa_minus (n : Int) (h : 0 < n) : Lib.itoa (-n) = 45 :: Lib.itoa n := by
  obtain ⟨u, rfl⟩ := Int.eq_ofNat_of_zero_le (show 0 ≤ n by omega)
  rw [Lib.itoa_neg u (by omega), itoa_nat]

/-! ### numbers separated by blanks -/

/-- a blank and a number, for each -/
def tailT (r : List Int) : List UInt8 := r.flatMap fun m => 32 :: Lib.itoa m

/-- numbers in decimal, separated by blanks -/
def jn : List Int → List UInt8
  | [] => []
  | n :: r => Lib.itoa n ++ tailT r

theorem tailT_snoc (r : List Int) (m : Int) : tailT (r ++ [m]) = tailT r ++ 32 :: Lib.itoa m := by simp [tailT]

theorem tailT_nil : tailT [] = [] := rfl

theorem tailT_cons (m : Int) (r : List Int) : tailT (m :: r) = 32 :: (Lib.itoa m ++ tailT r) := by simp [tailT]

theorem jn_one (n : Int) : jn [n] = Lib.itoa n := by simp [jn, tailT]

theorem jn_snoc (n : Int) (r : List Int) (m : Int) : jn (n :: (r ++ [m])) = jn (n :: r) ++ 32 :: Lib.itoa m := by
  simp [jn, tailT_snoc]

/-- the words of a text, cut at every blank -/
def sp : List UInt8 → List (List UInt8)
  | [] => [[]]
  | c :: t => if c = 32 then [] :: sp t else
    match sp t with
    | w :: ws => (c :: w) :: ws
    | [] => [[c]]

theorem sp_ne (l : List UInt8) : sp l ≠ [] := by
  cases l with
  | nil => simp [sp]
  | cons c t =>
    unfold sp; split
    · simp
    · split <;> simp

/-- words joined by blanks -/
def jw : List (List UInt8) → List UInt8
  | [] => []
  | w :: ws => w ++ ws.flatMap fun x => 32 :: x

theorem jw_sp (l : List UInt8) : jw (sp l) = l := by
  induction l with
  | nil => simp [sp, jw]
  | cons c t ih =>
    unfold sp
    split
    · next h =>
      subst h
      cases hs : sp t with
      | nil => exact absurd hs (sp_ne t)
      | cons w ws => rw [hs] at ih; simp [jw] at ih ⊢; exact ih
    · split
      · next w ws hs => rw [hs] at ih; simp [jw] at ih ⊢; exact ih
      · next hs => exact absurd hs (sp_ne t)

theorem sp_plain (w : List UInt8) (h : ∀ c ∈ w, c ≠ 32) : sp w = [w] := by
  induction w with
  | nil => rfl
  | cons c t ih =>
    unfold sp
    rw [if_neg (h c List.mem_cons_self), ih fun x hx => h x (List.mem_cons_of_mem _ hx)]

theorem sp_app (w l : List UInt8) (h : ∀ c ∈ w, c ≠ 32) : sp (w ++ 32 :: l) = w :: sp l := by
  induction w with
  | nil => simp [sp]
  | cons c t ih =>
    rw [List.cons_append, sp, if_neg (h c List.mem_cons_self), ih fun x hx => h x (List.mem_cons_of_mem _ hx)]

theorem sp_jw (w : List UInt8) (ws : List (List UInt8)) (h : ∀ x ∈ w :: ws, ∀ c ∈ x, c ≠ 32) : sp (jw (w :: ws)) = w :: ws := by
  induction ws generalizing w with
  | nil => simp only [jw, List.flatMap_nil, List.append_nil]; exact sp_plain _ (h w List.mem_cons_self)
  | cons x xs ih =>
    have e : jw (w :: x :: xs) = w ++ 32 :: jw (x :: xs) := by simp [jw]
    rw [e, sp_app _ _ (h w List.mem_cons_self), ih x fun y hy => h y (List.mem_cons_of_mem _ hy)]

theorem itoa_plain (n : Int) (h : 0 ≤ n) : ∀ c ∈ Lib.itoa n, c ≠ 32 := by
  obtain ⟨u, rfl⟩ := Int.eq_ofNat_of_zero_le h
  intro c hc e
  rw [itoa_nat] at hc
  have := dig_all u c hc
  rw [e] at this
  simp at this

theorem jn_jw (n : Int) (r : List Int) : jn (n :: r) = jw (Lib.itoa n :: r.map Lib.itoa) := by
  simp [jn, jw, tailT, List.flatMap_map]

theorem sp_jn (n : Int) (r : List Int) (h : ∀ x ∈ n :: r, 0 ≤ x) : sp (jn (n :: r)) = (n :: r).map Lib.itoa := by
  rw [jn_jw, sp_jw, List.map_cons]
  intro x hx
  rw [← List.map_cons, List.mem_map] at hx
  obtain ⟨m, hm, rfl⟩ := hx
  exact itoa_plain m (h m hm)

/-! ### strings.Split at a blank gives these words -/

theorem index_one (b c : UInt8) (l : List UInt8) : Lib.index (b :: l) [c] = if b = c then 0 else if Lib.index l [c] = -1 then -1 else Lib.index l [c] + 1 := by
  rw [Lib.index]
  have e : ([c] : List UInt8).isPrefixOf (b :: l) = (c == b) := by simp [List.isPrefixOf]
  rw [e]
  by_cases h : b = c
  · subst h; simp
  · have h' : ¬ c = b := fun e => h e.symm
    simp [h, h']

theorem index_none (l : List UInt8) (c : UInt8) : Lib.index l [c] = -1 ↔ l.count c = 0 := by
  induction l with
  | nil => simp [Lib.index]
  | cons b t ih =>
    rw [index_one, List.count_cons]
    by_cases h : b = c
    · subst h; simp
    · have := Lib.index_ge t [c]
      rw [if_neg h]
      split
      · next h1 => simp [h, ih.1 h1]
      · next h1 =>
        have : ¬ t.count c = 0 := fun e => h1 (ih.2 e)
        simp [h]; omega

theorem splitK_one (l : List UInt8) : Lib.splitK [32] 0 (l.count 32) l = sp l := by
  induction l with
  | nil => rfl
  | cons b t ih =>
    by_cases h : b = 32
    · subst h
      rw [List.count_cons_self, Lib.splitK, index_one, if_pos rfl, sp, if_pos rfl, ← ih]
      simp
    · rw [List.count_cons_of_ne (fun e => h e), sp, if_neg h]
      by_cases h0 : t.count 32 = 0
      · rw [h0] at ih ⊢
        rw [← ih]; rfl
      · obtain ⟨k, hk⟩ : ∃ k, t.count 32 = k + 1 := ⟨t.count 32 - 1, by omega⟩
        rw [hk] at ih ⊢
        have hi : ¬ Lib.index t [32] = -1 := fun e => h0 ((index_none _ _).1 e)
        have hge := Lib.index_ge t [32]
        rw [Lib.splitK] at ih ⊢
        rw [if_neg (by simpa using hi)] at ih
        rw [index_one, if_neg h, if_neg hi, if_neg (by simp; omega), ← ih]
        have e1 : (Lib.index t [32] + 1).toNat = (Lib.index t [32]).toNat + 1 := by omega
        rw [e1]
        simp [List.take_succ_cons]

/-! ### a number's word -/

/-- what the model's reading of a signed number gives -/
def sgV (l : List UInt8) : Int := if l.head? = some 45 then -(dgV (l.drop 1)) else dgV l

def sgO (l : List UInt8) : Bool := if l.head? = some 45 then dgO (l.drop 1) && decide (0 < dgV (l.drop 1)) else dgO l

theorem dgO_dec {l : List UInt8} (h : dgO l = true) : l = Lib.itoa (dgV l) ∧ 0 ≤ dgV l := by
  unfold dgO at h
  rw [Bool.and_eq_true] at h
  have e : dgV l = (val l : Int) := by unfold dgV; rw [if_pos h.1]
  rw [e, itoa_nat]
  exact ⟨(by simpa using h.2 : Lib.decDigits (val l) = l).symm, by omega⟩

theorem sgO_itoa {l : List UInt8} (h : sgO l = true) : l = Lib.itoa (sgV l) := by
  unfold sgO at h
  unfold sgV
  split at h
  · next hh =>
    rw [if_pos hh]
    rw [Bool.and_eq_true] at h
    obtain ⟨h1, h2⟩ := h
    obtain ⟨e, h0⟩ := dgO_dec h1
    have hp : 0 < dgV (l.drop 1) := by simpa using h2
    cases l with
    | nil => simp at hh
    | cons c t =>
      simp at hh
      subst hh
      simp only [List.drop_succ_cons, List.drop_zero] at e hp ⊢
      rw [itoa_minus _ hp, ← e]
  · next hh => rw [if_neg hh]; exact (dgO_dec h).1

theorem dgO_itoa (n : Int) (h0 : 0 ≤ n) (h1 : n ≤ 1000000000000) : dgO (Lib.itoa n) = true ∧ dgV (Lib.itoa n) = n := by
  obtain ⟨u, rfl⟩ := Int.eq_ofNat_of_zero_le h0
  rw [itoa_nat]
  have hb := dgB_dec u (by omega)
  have hv := val_dec u
  exact ⟨by unfold dgO; rw [hb, hv]; simp, by unfold dgV; rw [if_pos hb, hv]⟩

theorem itoa_head (n : Int) (h0 : 0 ≤ n) : (Lib.itoa n).head? ≠ some 45 := by
  obtain ⟨u, rfl⟩ := Int.eq_ofNat_of_zero_le h0
  rw [itoa_nat]
  intro e
  cases hd : Lib.decDigits u with
  | nil => rw [hd] at e; simp at e
  | cons c t =>
    rw [hd] at e; simp at e
    have := dig_all u c (by rw [hd]; exact List.mem_cons_self)
    rw [e] at this
    simp at this

theorem sg_itoa (n : Int) (h0 : 0 ≤ n) (h1 : n ≤ 1000000000000) : sgO (Lib.itoa n) = true ∧ sgV (Lib.itoa n) = n := by
  have hh := itoa_head n h0
  obtain ⟨a, b⟩ := dgO_itoa n h0 h1
  exact ⟨by unfold sgO; rw [if_neg hh]; exact a, by unfold sgV; rw [if_neg hh]; exact b⟩

theorem parse_itoa (n : Int) (h0 : 0 ≤ n) (h1 : n ≤ 1000000000000) : Lib.parseIntB 64 (Lib.itoa n) = .ok n := by
  obtain ⟨u, rfl⟩ := Int.eq_ofNat_of_zero_le h0
  rw [itoa_nat]
  have hu : Lib.parseUintB 64 (Lib.decDigits u) = .ok u := by
    unfold Lib.parseUintB
    have := parse_dig (2 ^ 64 - 1) (by decide) u [] (by omega)
    rw [List.append_nil] at this
    rw [if_neg (by simp [dig_ne_nil]), this, Lib.parseUintM]
  cases hd : Lib.decDigits u with
  | nil => exact absurd hd (dig_ne_nil u)
  | cons c t =>
    have hc := dig_all u c (by rw [hd]; exact List.mem_cons_self)
    rw [hd] at hu
    rw [Lib.parseIntB]
    simp only [if_neg (show ¬ (c.toNat = 43 ∨ c.toNat = 45) by omega), hu]
    have h63 : (2 : Nat) ^ (64 - 1) = 9223372036854775808 := by decide
    rw [if_neg (by rw [h63]; omega), if_neg (by omega), if_neg (by omega)]

end Go.Proofs.YtpphiekbhikadaaDoor

/- strconv.ParseInt in one contract: a number, or an error value. -/
namespace Go.Proofs.YtpphiekbhikadaaDoor
open Go.ChangeShapes Go.WideShapes Go.ChangeAt Go.RowKit
set_option linter.unusedVariables false

/-- what a reading of numbers asks of the world: both errors, the shape of the library's variables -/
structure AskE (w : World) : Prop where
  syn : ErrIs w "strconv.ErrSyntax"
  ran : ErrIs w "strconv.ErrRange"
  shape : w.ShapedOpen Tryd.prog

theorem AskE.step {w w' : World} (h : AskE w) (hb : Below w.heap.size w w') : AskE w' := by
  obtain ⟨⟨a, p, hs⟩, ⟨b, q, hr⟩, sh⟩ := h
  have g1 : (1 : Nat) < w.heap.size := by
    have := World.var?_cell gSyn hs 0
    exact block_lt (p := ⟨1, 0, none⟩) (by simpa using this)
  have g2 : (2 : Nat) < w.heap.size := by
    have := World.var?_cell gRan hr 0
    exact block_lt (p := ⟨2, 0, none⟩) (by simpa using this)
  exact ⟨⟨a, p, var?_below hb gSyn g1 hs⟩, ⟨b, q, var?_below hb gRan g2 hr⟩, sh.keptBut (hb.frame (fun _ => False)) (fun _ h => h.elim)⟩

/-- a call of ParseInt: a number, or an error -/
def ParsePost (l : List UInt8) (w : World) (e : Ending) (w' : World) : Prop :=
  ((∃ v, Lib.parseIntB 64 l = .ok v ∧ e = .returned (.tuple #[.int .i64 v, .nilIface])) ∨ ((∀ v, Lib.parseIntB 64 l ≠ .ok v) ∧ ∃ v, ∃ N : Nat, e = .returned (.tuple #[.int .i64 v, .iface 112 (.pointer (some ⟨N, 0, none⟩))]))) ∧ Below w.heap.size w w'

theorem below_parse' {w w1 : World} (h : w1 = w ∨ ∃ t, w1 = Lib.bytesWorld w 5 t) : Below w.heap.size w w1 := by
  rcases h with rfl | ⟨t, rfl⟩
  · exact Below.refl _ _
  · exact Joins.below_bytesWorld _ _ _ _ (Nat.le_refl _)

theorem parse_all (s : ByteArray) (w : World) (hl : s.size ≤ 281474976710656) (ha : AskE w) :
    Calls Tryd.prog 62 #[.string s, .int .i64 10, .int .i64 64] w (ParsePost s.data.toList w) := by
  cases hp : Lib.parseIntB 64 s.data.toList with
  | ok v =>
    refine (Tryd.strconv_ParseInt_10_at64_ok _ (by omega) v hp _).mono ?_
    rintro e w1 ⟨rfl, hw⟩
    exact ⟨.inl ⟨v, hp, rfl⟩, below_parse' hw⟩
  | «syntax» =>
    refine (parse_syn s w hl hp ha.syn).mono ?_
    rintro e w1 ⟨⟨N, rfl⟩, hb⟩
    exact ⟨.inr ⟨fun v h => (by rw [hp] at h; cases h), _, N, rfl⟩, hb⟩
  | range =>
    refine (parse_ran s w hl hp ha.ran).mono ?_
    rintro e w1 ⟨⟨N, rfl⟩, hb⟩
    exact ⟨.inr ⟨fun v h => (by rw [hp] at h; cases h), _, N, rfl⟩, hb⟩

end Go.Proofs.YtpphiekbhikadaaDoor
