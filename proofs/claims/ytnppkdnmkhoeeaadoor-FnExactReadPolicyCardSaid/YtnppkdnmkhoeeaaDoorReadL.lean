/- The exact law on ReadMoney: the program finds what its model finds. -/
import Derived.Test.YtnppkdnmkhoeeaaDoorReadI
import Derived.Test.YtnppkdnmkhoeeaaDoorReadS
namespace Go.Proofs.YtnppkdnmkhoeeaaDoor
open Go.ChangeShapes Go.WideShapes Go.ChangeAt Go.RowKit
set_option linter.unusedVariables false

theorem isDig_iff (c : UInt8) : isDig c = true ↔ 48 ≤ c.toNat ∧ c.toNat ≤ 57 := by simp [isDig]

theorem keep_dig (u : Nat) : keep (Lib.decDigits u) = Lib.decDigits u := by
  unfold keep
  rw [List.filter_eq_self]
  intro c hc
  exact (isDig_iff c).2 (dig_all u c hc)

theorem isDig_dch (d : Nat) (h : d < 10) : isDig (dch d) = true := by
  rw [isDig_iff, dch_nat d h]; omega

theorem keep_posT (u : Nat) : keep (posT u) = Lib.decDigits (u / 100) ++ [dch (u / 10 % 10), dch (u % 10)] := by
  have h := keep_dig (u / 100)
  unfold keep at h
  rw [posT_dch, keep, List.filter_append, h, List.filter_cons, if_neg (by decide), List.filter_cons, if_pos (isDig_dch _ (by omega)), List.filter_cons, if_pos (isDig_dch _ (by omega)), List.filter_nil]

theorem strip_posT (u : Nat) : strip (Lib.decDigits (u / 100) ++ [dch (u / 10 % 10), dch (u % 10)]) = Lib.decDigits u := by
  by_cases h : 0 < u / 100
  · obtain ⟨c, t, e, hc⟩ := dig_head (u / 100) h
    rw [e, List.cons_append, strip_stop _ _ (fun h48 => hc (UInt8.toNat_inj.1 h48)), ← List.cons_append, ← e]
    rw [dig_big u (by omega), dig_big (u / 10) (by omega), show u / 10 / 10 = u / 100 by omega]
    simp
  · have h0 : u / 100 = 0 := by omega
    rw [h0, dig_small 0 (by omega), List.singleton_append, strip_zero _ _ (dch_nat 0 (by omega)) (by simp)]
    by_cases h1 : u < 10
    · rw [show u / 10 % 10 = 0 by omega, show u % 10 = u by omega, strip_zero _ _ (dch_nat 0 (by omega)) (by simp), strip_short _ (by simp), dig_small u h1]
    · rw [strip_stop _ _ (by rw [dch_nat _ (by omega)]; omega), dig_big u h1, dig_small (u / 10) (by omega), show u / 10 % 10 = u / 10 by omega]
      rfl

theorem val_dec (u : Nat) : val (Lib.decDigits u) = u := by
  induction u using Nat.strongRecOn with
  | _ u ih =>
    by_cases h : u < 10
    · rw [dig_small u h]
      simp [val, dch_nat u h]
    · rw [dig_big u h, val_snoc, ih (u / 10) (by omega), dch_nat _ (by omega)]
      omega

theorem dec_digits (k : Nat) : ∀ u, 1 ≤ k → u < 10 ^ k → (Lib.decDigits u).length ≤ k := by
  induction k with
  | zero => intro u h; omega
  | succ k ih =>
    intro u _ hu
    by_cases h : u < 10
    · rw [dig_small u h]; simp
    · rw [dig_big u h, List.length_append, List.length_singleton]
      rw [Nat.pow_succ] at hu
      have hk : 1 ≤ k := by
        by_cases hk : k = 0
        · subst hk; simp at hu; omega
        · omega
      have := ih (u / 10) hk (by omega)
      omega

theorem dgB_dec (u : Nat) (h : u ≤ 1000000000000) : dgB (Lib.decDigits u) = true := by
  unfold dgB
  rw [Bool.and_eq_true, decide_eq_true_iff, List.all_eq_true]
  refine ⟨⟨List.length_pos_iff.2 (dig_ne_nil u), ?_⟩, fun c hc => (isDig_iff c).2 (dig_all u c hc)⟩
  exact dec_digits 13 u (by omega) (by have : (10 : Nat) ^ 13 = 10000000000000 := (by decide); omega)

theorem txt_ne (n : Int) : txt n ≠ [] := by
  unfold txt
  split
  · simp
  · rw [posT_dch]; simp

theorem sd_iff (l : List UInt8) (n : Int) : sd l = some n ↔ monB n = true ∧ txt n = l := by
  constructor
  · intro h
    unfold sd at h
    split at h
    · next hh =>
      rw [Bool.and_eq_true] at hh
      obtain rfl := Option.some.inj h
      have hne : l ≠ [] := keep_nil _ (strip_nil _ (dgO_ne hh.1))
      have hm : mtx (sdn l) = l := by simpa using hh.2
      unfold mtx at hm
      split at hm
      · next hb => exact ⟨hb, hm⟩
      · exact absurd hm.symm hne
    · cases h
  · rintro ⟨hb, rfl⟩
    obtain ⟨h1, h2⟩ := (monB_iff n).1 hb
    have hmt : mtx n = txt n := by simp [mtx, hb]
    have key : ∀ u : Nat, (u : Int) ≤ 1000000000000 → dgO (Lib.decDigits u) = true ∧ dgV (Lib.decDigits u) = u := fun u hu => by
      have hB := dgB_dec u (by omega)
      exact ⟨by simp [dgO, hB, val_dec], by simp [dgV, hB, val_dec]⟩
    by_cases hn : n < 0
    · obtain ⟨u, hu⟩ := Int.eq_ofNat_of_zero_le (show 0 ≤ -n by omega)
      obtain rfl : n = -(u : Int) := by omega
      obtain ⟨k1, k2⟩ := key u (by omega)
      have e : strip (keep (txt (-(u : Int)))) = Lib.decDigits u := by
        rw [txt_neg u (by omega), show keep (45 :: posT u) = keep (posT u) by simp [keep, isDig], keep_posT, strip_posT]
      have e2 : sdn (txt (-(u : Int))) = -(u : Int) := by
        unfold sdn
        rw [e, k2, if_pos (by rw [txt_neg u (by omega)]; rfl)]
      unfold sd
      rw [e, e2, k1, hmt]
      simp
    · obtain ⟨u, rfl⟩ := Int.eq_ofNat_of_zero_le (show 0 ≤ n by omega)
      obtain ⟨k1, k2⟩ := key u (by omega)
      have e : strip (keep (txt (u : Int))) = Lib.decDigits u := by
        rw [txt_nat, keep_posT, strip_posT]
      have e2 : sdn (txt (u : Int)) = (u : Int) := by
        unfold sdn
        rw [e, k2, if_neg]
        rw [txt_nat, posT_dch]
        intro hh
        cases hd : Lib.decDigits (u / 100) with
        | nil => exact dig_ne_nil _ hd
        | cons c t =>
          rw [hd] at hh
          simp at hh
          have := dig_all (u / 100) c (by rw [hd]; exact List.mem_cons_self)
          rw [hh] at this
          simp at this
      unfold sd
      rw [e, e2, k1, hmt]
      simp

theorem sd_rd (l : List UInt8) : sd l = rd l := by
  cases hr : rd l with
  | some n => exact (sd_iff l n).2 ((rd_iff l n).1 hr)
  | none =>
    cases hs : sd l with
    | none => rfl
    | some n =>
      have := (rd_iff l n).2 ((sd_iff l n).1 hs)
      rw [hr] at this
      cases this

theorem Ask.step {w w' : World} (h : Ask w) (hb : Below w.heap.size w w') : Ask w' := by
  obtain ⟨t, ⟨a, p, hs⟩, ⟨b, q, hr⟩, sh⟩ := h
  have g1 : (1 : Nat) < w.heap.size := by
    have := World.var?_cell gSyn hs 0
    exact block_lt (p := ⟨1, 0, none⟩) (by simpa using this)
  have g2 : (2 : Nat) < w.heap.size := by
    have := World.var?_cell gRan hr 0
    exact block_lt (p := ⟨2, 0, none⟩) (by simpa using this)
  exact ⟨t.step hb (Nat.le_refl _), ⟨a, p, var?_below hb gSyn g1 hs⟩, ⟨b, q, var?_below hb gRan g2 hr⟩, sh.keptBut (hb.frame (fun _ => False)) (fun _ h => h.elim)⟩

end Go.Proofs.YtnppkdnmkhoeeaaDoor
