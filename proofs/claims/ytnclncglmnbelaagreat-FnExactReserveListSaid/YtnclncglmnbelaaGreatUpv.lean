/- Rounding up: what is enough, what parts cost together; what a law on two tables and lists keeps. -/
import Derived.Test.YtnclncglmnbelaaGreatAnn
namespace Go.Proofs.YtnclncglmnbelaaGreat
open Go.ChangeShapes Go.WideShapes Go.ChangeAt Go.RowKit
set_option linter.unusedVariables false

/-- rounded up: the least number that is enough -/
theorem upV_ceil (a b c : Int) (hc : 1 ≤ c) : a * b ≤ upV a b c * c ∧ upV a b c * c < a * b + c := by
  have h := Int.mul_ediv_add_emod (a * b) c
  have r0 := Int.emod_nonneg (a * b) (show c ≠ 0 by omega)
  have r1 := Int.emod_lt_of_pos (a * b) (show 0 < c by omega)
  rw [Int.mul_comm c] at h
  unfold upV
  obtain ⟨q, hq⟩ : ∃ y_, a * b / c = y_ := ⟨_, rfl⟩
  obtain ⟨r, hr⟩ : ∃ y_, a * b % c = y_ := ⟨_, rfl⟩
  obtain ⟨p, hp⟩ : ∃ y_, a * b = y_ := ⟨_, rfl⟩
  rw [hq, hr] at h ⊢
  rw [hr] at r0 r1
  rw [hp] at h ⊢
  rw [Int.add_mul]
  obtain ⟨t, ht⟩ : ∃ y_, q * c = y_ := ⟨_, rfl⟩
  rw [ht] at h ⊢
  by_cases hz : 0 < r
  · rw [if_pos hz]; omega
  · rw [if_neg hz]; omega

/-- two parts cost together what the whole costs, but for one -/
theorem up_parts (b U V c : Int) (hc : 1 ≤ c) : 0 ≤ upV b U c + upV b V c - upV b (U + V) c ∧ upV b U c + upV b V c - upV b (U + V) c ≤ 1 := by
  obtain ⟨a1, a2⟩ := upV_ceil b U c hc
  obtain ⟨b1, b2⟩ := upV_ceil b V c hc
  obtain ⟨c1, c2⟩ := upV_ceil b (U + V) c hc
  rw [Int.mul_add] at c1 c2
  obtain ⟨s, hs⟩ : ∃ s, upV b U c + upV b V c - upV b (U + V) c = s := ⟨_, rfl⟩
  have e : s * c = upV b U c * c + upV b V c * c - upV b (U + V) c * c := by rw [← hs, Int.sub_mul, Int.add_mul]
  rw [hs]
  have h1 : (-1) * c < s * c := by omega
  have h2 : s * c < 2 * c := by omega
  have h3 := Int.lt_of_mul_lt_mul_right h1 (by omega)
  have h4 := Int.lt_of_mul_lt_mul_right h2 (by omega)
  omega

/-- in the midst of a law on two tables and the lists that were handed over -/
structure FY (w : World) (T U : Nat) (F : Int) (ta : Option Addr) (tn tc : Nat) (xs : List Int) (G : Int) (ua : Option Addr) (un uc : Nat) (ys : List Int) (L : List (Option Addr × Nat × List Int)) (W : World) : Prop where
  low : Below w.heap.size w W
  c0 : W.cell? ⟨T, 0, none⟩ = some (.int .i64 F)
  c1 : W.cell? ⟨T, 1, none⟩ = some (.slice ta tn tc)
  d0 : W.cell? ⟨U, 0, none⟩ = some (.int .i64 G)
  d1 : W.cell? ⟨U, 1, none⟩ = some (.slice ua un uc)
  i1 : Ints W ta tn xs
  i2 : Ints W ua un ys
  ls : ∀ p ∈ L, Ints W p.1 p.2.1 p.2.2

theorem FY.step {w : World} {T U : Nat} {F : Int} {ta : Option Addr} {tn tc : Nat} {xs : List Int} {G : Int} {ua : Option Addr} {un uc : Nat} {ys : List Int} {L : List (Option Addr × Nat × List Int)} {W W' : World} (h : FY w T U F ta tn tc xs G ua un uc ys L W) (hb : Below W.heap.size W W') : FY w T U F ta tn tc xs G ua un uc ys L W' :=
  ⟨h.low.trans (hb.mono h.low.size), keep2 hb h.c0, keep2 hb h.c1, keep2 hb h.d0, keep2 hb h.d1, h.i1.on hb, h.i2.on hb, fun p hp => (h.ls p hp).on hb⟩

theorem FY.add {w : World} {T U : Nat} {F : Int} {ta : Option Addr} {tn tc : Nat} {xs : List Int} {G : Int} {ua : Option Addr} {un uc : Nat} {ys : List Int} {L : List (Option Addr × Nat × List Int)} {W W' : World} (h : FY w T U F ta tn tc xs G ua un uc ys L W) (hb : Below W.heap.size W W') (p : Option Addr × Nat × List Int) (hp : Ints W' p.1 p.2.1 p.2.2) : FY w T U F ta tn tc xs G ua un uc ys (p :: L) W' := by
  have g := h.step hb
  refine ⟨g.low, g.c0, g.c1, g.d0, g.d1, g.i1, g.i2, fun q hq => ?_⟩
  rcases List.mem_cons.1 hq with rfl | hq
  · exact hp
  · exact g.ls q hq

end Go.Proofs.YtnclncglmnbelaaGreat
