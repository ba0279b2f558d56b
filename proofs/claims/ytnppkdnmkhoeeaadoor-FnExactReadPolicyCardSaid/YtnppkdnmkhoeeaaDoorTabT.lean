/- Texts of life tables: plain facts on numbers separated by blanks (no program in it). -/
import Derived.Test.YtnppkdnmkhoeeaaDoorReadL
import Derived.Test.YtnppkdnmkhoeeaaDoorTab
import Derived.Lib.SplitLaws
namespace Go.Proofs.YtnppkdnmkhoeeaaDoor
set_option linter.unusedVariables false
set_option maxRecDepth 100000

theorem itoa_minus (n : Int) (h : 0 < n) : Lib.itoa (-n) = 45 :: Lib.itoa n := by
  obtain ⟨u, rfl⟩ := Int.eq_ofNat_of_zero_le (show 0 ≤ n by omega)
  rw [Lib.itoa_neg u (by omega), itoa_nat]

/-! ### numbers separated by blanks -/

/-- a blank and a number, for each -/
def tailT (r : List Int) : List UInt8 := r.flatMap fun m => 32 :: Lib.itoa m

/-- numbers in decimal, separated by blanks -/
def jn : List Int → List UInt8
  | [] => []
  | n :: r => Lib.itoa n ++ tailT r

theorem tailT_snoc (r : List Int) (m : Int) : tailT (r ++ [m]) = tailT r ++ 32 :: Lib.itoa m := by simp [tailT]

theorem tailT_nil : tailT [] = [] := rfl

theorem tailT_cons (m : Int) (r : List Int) : tailT (m :: r) = 32 :: (Lib.itoa m ++ tailT r) := by simp [tailT]

theorem jn_one (n : Int) : jn [n] = Lib.itoa n := by simp [jn, tailT]

theorem jn_snoc (n : Int) (r : List Int) (m : Int) : jn (n :: (r ++ [m])) = jn (n :: r) ++ 32 :: Lib.itoa m := by
  simp [jn, tailT_snoc]

/-- the words of a text, cut at every blank -/
def sp : List UInt8 → List (List UInt8)
  | [] => [[]]
  | c :: t => if c = 32 then [] :: sp t else
    match sp t with
    | w :: ws => (c :: w) :: ws
    | [] => [[c]]

theorem sp_ne (l : List UInt8) : sp l ≠ [] := by
  cases l with
  | nil => simp [sp]
  | cons c t =>
    unfold sp; split
    · simp
    · split <;> simp

/-- words joined by blanks -/
def jw : List (List UInt8) → List UInt8
  | [] => []
  | w :: ws => w ++ ws.flatMap fun x => 32 :: x

theorem jw_sp (l : List UInt8) : jw (sp l) = l := by
  induction l with
  | nil => simp [sp, jw]
  | cons c t ih =>
    unfold sp
    split
    · next h =>
      subst h
      cases hs : sp t with
      | nil => exact absurd hs (sp_ne t)
      | cons w ws => rw [hs] at ih; simp [jw] at ih ⊢; exact ih
    · split
      · next w ws hs => rw [hs] at ih; simp [jw] at ih ⊢; exact ih
      · next hs => exact absurd hs (sp_ne t)

theorem sp_plain (w : List UInt8) (h : ∀ c ∈ w, c ≠ 32) : sp w = [w] := by
  induction w with
  | nil => rfl
  | cons c t ih =>
    unfold sp
    rw [if_neg (h c List.mem_cons_self), ih fun x hx => h x (List.mem_cons_of_mem _ hx)]

theorem sp_app (w l : List UInt8) (h : ∀ c ∈ w, c ≠ 32) : sp (w ++ 32 :: l) = w :: sp l := by
  induction w with
  | nil => simp [sp]
  | cons c t ih =>
    rw [List.cons_append, sp, if_neg (h c List.mem_cons_self), ih fun x hx => h x (List.mem_cons_of_mem _ hx)]

theorem sp_jw (w : List UInt8) (ws : List (List UInt8)) (h : ∀ x ∈ w :: ws, ∀ c ∈ x, c ≠ 32) : sp (jw (w :: ws)) = w :: ws := by
  induction ws generalizing w with
  | nil => simp only [jw, List.flatMap_nil, List.append_nil]; exact sp_plain _ (h w List.mem_cons_self)
  | cons x xs ih =>
    have e : jw (w :: x :: xs) = w ++ 32 :: jw (x :: xs) := by simp [jw]
    rw [e, sp_app _ _ (h w List.mem_cons_self), ih x fun y hy => h y (List.mem_cons_of_mem _ hy)]

theorem itoa_plain (n : Int) (h : 0 ≤ n) : ∀ c ∈ Lib.itoa n, c ≠ 32 := by
  obtain ⟨u, rfl⟩ := Int.eq_ofNat_of_zero_le h
  intro c hc e
  rw [itoa_nat] at hc
  have := dig_all u c hc
  rw [e] at this
  simp at this

theorem jn_jw (n : Int) (r : List Int) : jn (n :: r) = jw (Lib.itoa n :: r.map Lib.itoa) := by
  simp [jn, jw, tailT, List.flatMap_map]

theorem sp_jn (n : Int) (r : List Int) (h : ∀ x ∈ n :: r, 0 ≤ x) : sp (jn (n :: r)) = (n :: r).map Lib.itoa := by
  rw [jn_jw, sp_jw, List.map_cons]
  intro x hx
  rw [← List.map_cons, List.mem_map] at hx
  obtain ⟨m, hm, rfl⟩ := hx
  exact itoa_plain m (h m hm)

/-! ### strings.Split at a blank gives these words -/

theorem index_one (b c : UInt8) (l : List UInt8) : Lib.index (b :: l) [c] = if b = c then 0 else if Lib.index l [c] = -1 then -1 else Lib.index l [c] + 1 := by
  rw [Lib.index]
  have e : ([c] : List UInt8).isPrefixOf (b :: l) = (c == b) := by simp [List.isPrefixOf]
  rw [e]
  by_cases h : b = c
  · subst h; simp
  · have h' : ¬ c = b := fun e => h e.symm
    simp [h, h']

theorem index_none (l : List UInt8) (c : UInt8) : Lib.index l [c] = -1 ↔ l.count c = 0 := by
  induction l with
  | nil => simp [Lib.index]
  | cons b t ih =>
    rw [index_one, List.count_cons]
    by_cases h : b = c
    · subst h; simp
    · have := Lib.index_ge t [c]
      rw [if_neg h]
      split
      · next h1 => simp [h, ih.1 h1]
      · next h1 =>
        have : ¬ t.count c = 0 := fun e => h1 (ih.2 e)
        simp [h]; omega

theorem splitK_one (l : List UInt8) : Lib.splitK [32] 0 (l.count 32) l = sp l := by
  induction l with
  | nil => rfl
  | cons b t ih =>
    by_cases h : b = 32
    · subst h
      rw [List.count_cons_self, Lib.splitK, index_one, if_pos rfl, sp, if_pos rfl, ← ih]
      simp
    · rw [List.count_cons_of_ne (fun e => h e), sp, if_neg h]
      by_cases h0 : t.count 32 = 0
      · rw [h0] at ih ⊢
        rw [← ih]; rfl
      · obtain ⟨k, hk⟩ : ∃ k, t.count 32 = k + 1 := ⟨t.count 32 - 1, by omega⟩
        rw [hk] at ih ⊢
        have hi : ¬ Lib.index t [32] = -1 := fun e => h0 ((index_none _ _).1 e)
        have hge := Lib.index_ge t [32]
        rw [Lib.splitK] at ih ⊢
        rw [if_neg (by simpa using hi)] at ih
        rw [index_one, if_neg h, if_neg hi, if_neg (by simp; omega), ← ih]
        have e1 : (Lib.index t [32] + 1).toNat = (Lib.index t [32]).toNat + 1 := by omega
        rw [e1]
        simp [List.take_succ_cons]

/-! ### a number's word -/

/-- what the model's reading of a signed number gives -/
def sgV (l : List UInt8) : Int := if l.head? = some 45 then -(dgV (l.drop 1)) else dgV l

def sgO (l : List UInt8) : Bool := if l.head? = some 45 then dgO (l.drop 1) && decide (0 < dgV (l.drop 1)) else dgO l

theorem dgO_dec {l : List UInt8} (h : dgO l = true) : l = Lib.itoa (dgV l) ∧ 0 ≤ dgV l := by
  unfold dgO at h
  rw [Bool.and_eq_true] at h
  have e : dgV l = (val l : Int) := by unfold dgV; rw [if_pos h.1]
  rw [e, itoa_nat]
  exact ⟨(by simpa using h.2 : Lib.decDigits (val l) = l).symm, by omega⟩

theorem sgO_itoa {l : List UInt8} (h : sgO l = true) : l = Lib.itoa (sgV l) := by
  unfold sgO at h
  unfold sgV
  split at h
  · next hh =>
    rw [if_pos hh]
    rw [Bool.and_eq_true] at h
    obtain ⟨h1, h2⟩ := h
    obtain ⟨e, h0⟩ := dgO_dec h1
    have hp : 0 < dgV (l.drop 1) := by simpa using h2
    cases l with
    | nil => simp at hh
    | cons c t =>
      simp at hh
      subst hh
      simp only [List.drop_succ_cons, List.drop_zero] at e hp ⊢
      rw [itoa_minus _ hp, ← e]
  · next hh => rw [if_neg hh]; exact (dgO_dec h).1

theorem dgO_itoa (n : Int) (h0 : 0 ≤ n) (h1 : n ≤ 1000000000000) : dgO (Lib.itoa n) = true ∧ dgV (Lib.itoa n) = n := by
  obtain ⟨u, rfl⟩ := Int.eq_ofNat_of_zero_le h0
  rw [itoa_nat]
  have hb := dgB_dec u (by omega)
  have hv := val_dec u
  exact ⟨by unfold dgO; rw [hb, hv]; simp, by unfold dgV; rw [if_pos hb, hv]⟩

theorem itoa_head (n : Int) (h0 : 0 ≤ n) : (Lib.itoa n).head? ≠ some 45 := by
  obtain ⟨u, rfl⟩ := Int.eq_ofNat_of_zero_le h0
  rw [itoa_nat]
  intro e
  cases hd : Lib.decDigits u with
  | nil => rw [hd] at e; simp at e
  | cons c t =>
    rw [hd] at e; simp at e
    have := dig_all u c (by rw [hd]; exact List.mem_cons_self)
    rw [e] at this
    simp at this

theorem sg_itoa (n : Int) (h0 : 0 ≤ n) (h1 : n ≤ 1000000000000) : sgO (Lib.itoa n) = true ∧ sgV (Lib.itoa n) = n := by
  have hh := itoa_head n h0
  obtain ⟨a, b⟩ := dgO_itoa n h0 h1
  exact ⟨by unfold sgO; rw [if_neg hh]; exact a, by unfold sgV; rw [if_neg hh]; exact b⟩

theorem parse_itoa (n : Int) (h0 : 0 ≤ n) (h1 : n ≤ 1000000000000) : Lib.parseIntB 64 (Lib.itoa n) = .ok n := by
  obtain ⟨u, rfl⟩ := Int.eq_ofNat_of_zero_le h0
  rw [itoa_nat]
  have hu : Lib.parseUintB 64 (Lib.decDigits u) = .ok u := by
    unfold Lib.parseUintB
    have := parse_dig (2 ^ 64 - 1) (by decide) u [] (by omega)
    rw [List.append_nil] at this
    rw [if_neg (by simp [dig_ne_nil]), this, Lib.parseUintM]
  cases hd : Lib.decDigits u with
  | nil => exact absurd hd (dig_ne_nil u)
  | cons c t =>
    have hc := dig_all u c (by rw [hd]; exact List.mem_cons_self)
    rw [hd] at hu
    rw [Lib.parseIntB]
    simp only [if_neg (show ¬ (c.toNat = 43 ∨ c.toNat = 45) by omega), hu]
    have h63 : (2 : Nat) ^ (64 - 1) = 9223372036854775808 := by decide
    rw [if_neg (by rw [h63]; omega), if_neg (by omega), if_neg (by omega)]

end Go.Proofs.YtnppkdnmkhoeeaaDoor
