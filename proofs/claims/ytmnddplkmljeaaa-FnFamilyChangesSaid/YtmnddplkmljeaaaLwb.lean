/- Boxes: blocks told by their values; a law's world: boxes, and lists in different blocks. (Written by wip/gen/lwb.py.) -/
import Derived.Test.YtmnddplkmljeaaaTabL
import Derived.Test.YtmnddplkmljeaaaDrawS
namespace Go.Proofs.Ytmnddplkmljeaaa
open Go.ChangeShapes Go.WideShapes Go.ChangeAt Go.RowKit
set_option linter.unusedVariables false
set_option maxRecDepth 100000

/-- a block of plain cells -/
def Bx (w : World) (B : Nat) (vs : List Value) : Prop := ∃ T, w.heap[B]? = some (.cells vs.toArray T (0, 0))

theorem Bx.free {w : World} {B : Nat} {vs : List Value} (h : Bx w B vs) (i : Nat) : w.frozen? ⟨B, i, none⟩ = false := by
  obtain ⟨T, h⟩ := h
  simp [World.frozen?, h]

theorem Bx.lt {w : World} {B : Nat} {vs : List Value} (h : Bx w B vs) : B < w.heap.size := by
  obtain ⟨T, h⟩ := h
  by_cases hb : B < w.heap.size
  · exact hb
  · have : w.heap[B]? = none := by simp; omega
    rw [this] at h; cases h

theorem Bx.same {w w' : World} {B : Nat} {vs : List Value} (h : Bx w B vs) (hb : w'.heap[B]? = w.heap[B]?) : Bx w' B vs := by
  obtain ⟨T, h⟩ := h
  exact ⟨T, by rw [hb, h]⟩

theorem Bx.on {w w' : World} {B : Nat} {vs : List Value} (h : Bx w B vs) (hb : Below w.heap.size w w') : Bx w' B vs := h.same (hb.block _ h.lt)

theorem Bx.new (w : World) (vs : List Value) (T : TypeId) : Bx (w.alloc (.cells vs.toArray T)) w.heap.size vs := ⟨T, heap_alloc_new _ _⟩

theorem far_setCell (w : World) (p : Addr) (v : Value) (k : Nat) (h : k ≠ p.block) : (w.setCell p v).heap[k]? = w.heap[k]? := by
  show (w.heap.modify p.block _)[k]? = _
  rw [Array.getElem?_modify, if_neg (fun e => h e.symm)]

theorem Bx.threeT {w : World} {B : Nat} {x y z : Value} (h : Bx w B [x, y, z]) : w.cell? ⟨B, 0, none⟩ = some x ∧ w.cell? ⟨B, 1, none⟩ = some y ∧ w.cell? ⟨B, 2, none⟩ = some z := by
  obtain ⟨T, h⟩ := h
  simp [World.cell?, h]

/-- no block in common -/
def Aprt (a b : Option Addr) : Prop := ∀ x y, a = some x → b = some y → x.block ≠ y.block

theorem tb_same {base : Nat} {w w' : World} {a : Option Addr} {n : Nat} {ys : List Int} (h : TbR base w a n ys) (hs : w'.heap.size = w.heap.size) (hb : ∀ k, base ≤ k → w'.heap[k]? = w.heap[k]?) : TbR base w' a n ys := by
  obtain ⟨h1, h2, h3 | ⟨g, off, h4, h5, h6, h7⟩⟩ := h
  · exact ⟨h1, h2, .inl h3⟩
  · refine ⟨h1, h2, .inr ⟨g, off, h4, h5, by rw [hs]; exact h6, ⟨fun i hi => ?_, fun i hi => ?_⟩⟩⟩
    · rw [← h7.cell i hi]; exact World.cell?_of_block (hb g h5)
    · rw [← h7.free i hi]; exact World.frozen?_of_block (hb g h5)

theorem tb_mono {base c : Nat} {w : World} {a : Option Addr} {n : Nat} {ys : List Int} (h : TbR base w a n ys) (hb : c ≤ base) : TbR c w a n ys := by
  obtain ⟨h1, h2, h3 | ⟨g, off, h4, h5, h6, h7⟩⟩ := h
  · exact ⟨h1, h2, .inl h3⟩
  · exact ⟨h1, h2, .inr ⟨g, off, h4, by omega, h6, h7⟩⟩

/-- a list in a block from base on, or nil; it may be written -/
def TbL (base : Nat) (w : World) (a : Option Addr) (n : Nat) (ys : List Int) : Prop :=
  ys.length = n ∧ n ≤ 1048576 ∧ ((a = none ∧ n = 0) ∨ ∃ g off, a = some ⟨g, off, none⟩ ∧ base ≤ g ∧ g < w.heap.size ∧ RowI w g off ys)

section
variable {base n : Nat} {w w' : World} {a : Option Addr} {ys : List Int}

theorem tl_of (h : TbR base w a n ys) : TbL base w a n ys := ⟨h.1, by have := h.2.1; omega, h.2.2⟩

theorem TbL.ints (h : TbL base w a n ys) : Ints w a n ys := by
  obtain ⟨h1, h2, ⟨rfl, rfl⟩ | ⟨g, off, rfl, _, _, hr⟩⟩ := h
  · exact ⟨h1, by omega, .inl rfl⟩
  · exact hr.ints h1 (by omega)

theorem TbL.far (h : TbL base w a n ys) : ∀ x, a = some x → base ≤ x.block ∧ x.block < w.heap.size := by
  obtain ⟨h1, h2, ⟨rfl, rfl⟩ | ⟨g, off, rfl, h3, h4, hr⟩⟩ := h
  · intro x hx; cases hx
  · intro x hx; cases hx; exact ⟨h3, h4⟩

theorem TbL.same (h : TbL base w a n ys) (hs : w.heap.size ≤ w'.heap.size) (hb : ∀ x, a = some x → w'.heap[x.block]? = w.heap[x.block]?) : TbL base w' a n ys := by
  obtain ⟨h1, h2, h3 | ⟨g, off, h4, h5, h6, h7⟩⟩ := h
  · exact ⟨h1, h2, .inl h3⟩
  · have hg := hb _ h4
    exact ⟨h1, h2, .inr ⟨g, off, h4, h5, Nat.lt_of_lt_of_le h6 hs, ⟨fun i hi => by rw [← h7.cell i hi]; exact World.cell?_of_block hg, fun i hi => by rw [← h7.free i hi]; exact World.frozen?_of_block hg⟩⟩⟩

theorem TbL.on (h : TbL base w a n ys) (hb : Below w.heap.size w w') : TbL base w' a n ys := h.same hb.size fun x hx => hb.block _ (h.far x hx).2

theorem TbL.mono {b2 : Nat} (h : TbL base w a n ys) (hb : b2 ≤ base) : TbL b2 w a n ys := by
  obtain ⟨h1, h2, h3 | ⟨g, off, h4, h5, h6, h7⟩⟩ := h
  · exact ⟨h1, h2, .inl h3⟩
  · exact ⟨h1, h2, .inr ⟨g, off, h4, by omega, h6, h7⟩⟩
end

theorem blk_tl {w : World} {B l base : Nat} {ys : List Int} (h : Blk w B ys) (hl : ys.length = l) (hm : l ≤ 1048576) (hb : base ≤ B) : TbL base w (some ⟨B, 0, none⟩) l ys :=
  ⟨hl, hm, .inr ⟨B, 0, rfl, hb, h.lt, ⟨fun i hi => by rw [Nat.zero_add]; exact h.cell i hi, fun i _ => h.free _⟩⟩⟩

theorem markL_any (ys : List Int) (base : Nat) (a : Option Addr) (n c : Nat) (q : Int) (w : World) (h : TbL base w a n ys) (q0 : 0 ≤ q) (q1 : q ≤ 1099511627776) :
    Calls Try.prog 65 #[.slice a n c, .int .i64 q] w fun e w' => e = .returned (.int .i64 (q + n)) ∧ TbL base w' a n (marks q n) ∧ ButA a w w' := by
  obtain ⟨h1, h2, ⟨rfl, rfl⟩ | ⟨g, off, rfl, hb1, hg, hr⟩⟩ := h
  · refine (mark_nil none c q w).mono ?_
    rintro e w' ⟨rfl, rfl⟩
    exact ⟨by simp, ⟨marks_len _ _, by omega, .inl ⟨rfl, rfl⟩⟩, below_butA (Below.refl _ _)⟩
  · refine (mark_row ys g off n c q w hr h1 (by omega) q0 q1).mono ?_
    rintro e w' ⟨rfl, hr', ho⟩
    exact ⟨rfl, ⟨marks_len _ _, h2, .inr ⟨g, off, rfl, hb1, by rw [ho.size]; exact hg, hr'⟩⟩, ⟨ho.os, ho.tape, ho.output, by rw [ho.size]; exact Nat.le_refl _, fun k _ hk => ho.block k (fun e => hk _ rfl e.symm)⟩⟩

/-- all but two blocks are as they were -/
structure But2 (a b : Option Addr) (w w' : World) : Prop where
  os : w'.os = w.os
  tape : w'.tape = w.tape
  output : w'.output = w.output
  size : w.heap.size ≤ w'.heap.size
  block : ∀ k, k < w.heap.size → (∀ x, a = some x → x.block ≠ k) → (∀ x, b = some x → x.block ≠ k) → w'.heap[k]? = w.heap[k]?

/-- what a law holds: boxes, lists in different blocks -/
structure LW (w : World) (bs : List (Nat × List Value)) (ls : List (Option Addr × Nat × List Int)) (W : World) : Prop where
  bx : ∀ p ∈ bs, w.heap.size ≤ p.1 ∧ Bx W p.1 p.2
  tl : ∀ q ∈ ls, TbL w.heap.size W q.1 q.2.1 q.2.2
  ap : ls.Pairwise fun q r => Aprt q.1 r.1
  ab : ∀ p ∈ bs, ∀ q ∈ ls, ∀ x, q.1 = some x → x.block ≠ p.1
  low : Below w.heap.size w W

section
variable {w W W' : World} {bs : List (Nat × List Value)} {ls : List (Option Addr × Nat × List Int)}

theorem LW.start (w : World) : LW w [] [] w := ⟨(fun p hp => by cases hp), (fun p hp => by cases hp), List.Pairwise.nil, (fun p hp => by cases hp), Below.refl _ _⟩

theorem LW.on (h : LW w bs ls W) (hb : Below W.heap.size W W') : LW w bs ls W' :=
  ⟨fun p hp => ⟨(h.bx p hp).1, (h.bx p hp).2.on hb⟩, fun q hq => (h.tl q hq).on hb, h.ap, h.ab, h.low.trans (hb.mono h.low.size)⟩

theorem LW.drew (h : LW w bs ls W) : LW w bs ls W.drew := h.on (Below.drew (Below.refl _ _))

theorem LW.box (h : LW w bs ls W) (vs : List Value) (T : TypeId) : LW w ((W.heap.size, vs) :: bs) ls (W.alloc (.cells vs.toArray T)) := by
  have hb := box_b W (.cells vs.toArray T)
  have k := h.on hb
  refine ⟨fun p hp => ?_, k.tl, k.ap, fun p hp q hq x hx => ?_, k.low⟩
  · rcases List.mem_cons.1 hp with rfl | hp
    · exact ⟨h.low.size, Bx.new W vs T⟩
    · exact k.bx p hp
  · rcases List.mem_cons.1 hp with rfl | hp
    · have := ((h.tl q hq).far x hx).2
      show x.block ≠ W.heap.size
      omega
    · exact k.ab p hp q hq x hx

theorem LW.add (h : LW w bs ls W) (hb : Below W.heap.size W W') {a : Option Addr} {n : Nat} {ys : List Int} (ht : TbL W.heap.size W' a n ys) : LW w bs ((a, n, ys) :: ls) W' := by
  have k := h.on hb
  refine ⟨k.bx, fun q hq => ?_, List.pairwise_cons.2 ⟨fun q hq x y hx hy => ?_, k.ap⟩, fun p hp q hq x hx => ?_, k.low⟩
  · rcases List.mem_cons.1 hq with rfl | hq
    · exact ht.mono h.low.size
    · exact k.tl q hq
  · have h1 := (ht.far x hx).1
    have h2 := ((h.tl q hq).far y hy).2
    omega
  · rcases List.mem_cons.1 hq with rfl | hq
    · have h1 := (ht.far x hx).1
      have h2 := (h.bx p hp).2.lt
      omega
    · exact k.ab p hp q hq x hx

theorem LW.add2 (h : LW w bs ls W) (hb : Below W.heap.size W W') {a b : Option Addr} {n m : Nat} {xs ys : List Int} (ht : TbL W.heap.size W' a n xs) (hu : TbL W.heap.size W' b m ys) (hab : Aprt a b) : LW w bs ((a, n, xs) :: (b, m, ys) :: ls) W' := by
  have k := h.add hb hu
  refine ⟨k.bx, fun q hq => ?_, List.pairwise_cons.2 ⟨fun q hq x y hx hy => ?_, k.ap⟩, fun p hp q hq x hx => ?_, k.low⟩
  · rcases List.mem_cons.1 hq with rfl | hq
    · exact ht.mono h.low.size
    · exact k.tl q hq
  · rcases List.mem_cons.1 hq with rfl | hq
    · exact hab x y hx hy
    · have h1 := (ht.far x hx).1
      have h2 := ((h.tl q hq).far y hy).2
      omega
  · rcases List.mem_cons.1 hq with rfl | hq
    · have h1 := (ht.far x hx).1
      have h2 := (h.bx p hp).2.lt
      omega
    · exact k.ab p hp q hq x hx

theorem LW.drop (h : LW w bs ls W) {bs' : List (Nat × List Value)} {ls' : List (Option Addr × Nat × List Int)} (hb : bs'.Sublist bs) (hl : ls'.Sublist ls) : LW w bs' ls' W :=
  ⟨fun p hp => h.bx p (hb.subset hp), fun q hq => h.tl q (hl.subset hq), h.ap.sublist hl, fun p hp q hq => h.ab p (hb.subset hp) q (hl.subset hq), h.low⟩

/-- a list is marked -/
theorem LW.mark {pre post : List (Option Addr × Nat × List Int)} {a : Option Addr} {n : Nat} {ys zs : List Int} (h : LW w bs (pre ++ (a, n, ys) :: post) W) (hb : ButA a W W') (ht : TbL w.heap.size W' a n zs) : LW w bs (pre ++ (a, n, zs) :: post) W' := by
  have hap := h.ap
  rw [List.pairwise_append, List.pairwise_cons] at hap
  have hm : (a, n, ys) ∈ pre ++ (a, n, ys) :: post := by simp
  have far : ∀ q, q ∈ pre ∨ q ∈ post → TbL w.heap.size W' q.1 q.2.1 q.2.2 := fun q hq => by
    have hq' : q ∈ pre ++ (a, n, ys) :: post := by rcases hq with h1 | h1 <;> simp [h1]
    refine (h.tl q hq').same hb.size fun y hy => hb.block _ ((h.tl q hq').far y hy).2 fun x hx => ?_
    rcases hq with h1 | h1
    · exact (hap.2.2 q h1 (a, n, ys) (List.mem_cons_self ..) y x hy hx).symm
    · exact hap.2.1.1 q h1 x y hx hy
  refine ⟨fun p hp => ⟨(h.bx p hp).1, (h.bx p hp).2.same (hb.block _ (h.bx p hp).2.lt fun x hx => h.ab p hp _ hm x hx)⟩, fun q hq => ?_, ?_, fun p hp q hq x hx => ?_, ?_⟩
  · rcases List.mem_append.1 hq with h1 | h1
    · exact far q (.inl h1)
    · rcases List.mem_cons.1 h1 with rfl | h1
      · exact ht
      · exact far q (.inr h1)
  · rw [List.pairwise_append, List.pairwise_cons]
    exact ⟨hap.1, ⟨fun q hq => hap.2.1.1 q hq, hap.2.1.2⟩, fun q hq r hr => by
      rcases List.mem_cons.1 hr with rfl | hr
      · exact hap.2.2 q hq (a, n, ys) (List.mem_cons_self ..)
      · exact hap.2.2 q hq r (List.mem_cons_of_mem _ hr)⟩
  · rcases List.mem_append.1 hq with h1 | h1
    · exact h.ab p hp q (by simp [h1]) x hx
    · rcases List.mem_cons.1 h1 with rfl | h1
      · exact h.ab p hp _ hm x hx
      · exact h.ab p hp q (by simp [h1]) x hx
  · have hlw := h.low.size
    exact h.low.trans ⟨hb.os, hb.tape, hb.output, hb.size, fun k hk => hb.block k (by omega) fun x hx => by have := ((h.tl _ hm).far x hx).1; omega⟩

/-- two lists are marked -/
theorem LW.mark2 {pre post : List (Option Addr × Nat × List Int)} {a b : Option Addr} {n m : Nat} {ys zs us vs : List Int} (h : LW w bs (pre ++ (a, n, ys) :: (b, m, us) :: post) W) (hb : But2 a b W W') (ht : TbL w.heap.size W' a n zs) (hu : TbL w.heap.size W' b m vs) : LW w bs (pre ++ (a, n, zs) :: (b, m, vs) :: post) W' := by
  have hap := h.ap
  rw [List.pairwise_append, List.pairwise_cons, List.pairwise_cons] at hap
  have hm1 : (a, n, ys) ∈ pre ++ (a, n, ys) :: (b, m, us) :: post := by simp
  have hm2 : (b, m, us) ∈ pre ++ (a, n, ys) :: (b, m, us) :: post := by simp
  have far : ∀ q, q ∈ pre ∨ q ∈ post → TbL w.heap.size W' q.1 q.2.1 q.2.2 := fun q hq => by
    have hq' : q ∈ pre ++ (a, n, ys) :: (b, m, us) :: post := by rcases hq with h1 | h1 <;> simp [h1]
    refine (h.tl q hq').same hb.size fun y hy => hb.block _ ((h.tl q hq').far y hy).2 (fun x hx => ?_) (fun x hx => ?_)
    · rcases hq with h1 | h1
      · exact (hap.2.2 q h1 (a, n, ys) (List.mem_cons_self ..) y x hy hx).symm
      · exact hap.2.1.1 q (List.mem_cons_of_mem _ h1) x y hx hy
    · rcases hq with h1 | h1
      · exact (hap.2.2 q h1 (b, m, us) (by simp) y x hy hx).symm
      · exact hap.2.1.2.1 q h1 x y hx hy
  refine ⟨fun p hp => ⟨(h.bx p hp).1, (h.bx p hp).2.same (hb.block _ (h.bx p hp).2.lt (fun x hx => h.ab p hp _ hm1 x hx) (fun x hx => h.ab p hp _ hm2 x hx))⟩, fun q hq => ?_, ?_, fun p hp q hq x hx => ?_, ?_⟩
  · rcases List.mem_append.1 hq with h1 | h1
    · exact far q (.inl h1)
    · rcases List.mem_cons.1 h1 with rfl | h1
      · exact ht
      · rcases List.mem_cons.1 h1 with rfl | h1
        · exact hu
        · exact far q (.inr h1)
  · rw [List.pairwise_append, List.pairwise_cons, List.pairwise_cons]
    refine ⟨hap.1, ⟨fun q hq => ?_, fun q hq => hap.2.1.2.1 q hq, hap.2.1.2.2⟩, fun q hq r hr => ?_⟩
    · rcases List.mem_cons.1 hq with rfl | hq
      · exact hap.2.1.1 (b, m, us) (List.mem_cons_self ..)
      · exact hap.2.1.1 q (List.mem_cons_of_mem _ hq)
    · rcases List.mem_cons.1 hr with rfl | hr
      · exact hap.2.2 q hq (a, n, ys) (List.mem_cons_self ..)
      · rcases List.mem_cons.1 hr with rfl | hr
        · exact hap.2.2 q hq (b, m, us) (by simp)
        · exact hap.2.2 q hq r (by simp [hr])
  · rcases List.mem_append.1 hq with h1 | h1
    · exact h.ab p hp q (by simp [h1]) x hx
    · rcases List.mem_cons.1 h1 with rfl | h1
      · exact h.ab p hp _ hm1 x hx
      · rcases List.mem_cons.1 h1 with rfl | h1
        · exact h.ab p hp _ hm2 x hx
        · exact h.ab p hp q (by simp [h1]) x hx
  · have hlw := h.low.size
    exact h.low.trans ⟨hb.os, hb.tape, hb.output, hb.size, fun k hk => hb.block k (by omega) (fun x hx => by have := ((h.tl _ hm1).far x hx).1; omega) (fun x hx => by have := ((h.tl _ hm2).far x hx).1; omega)⟩
end

/-- a list that a law has copied -/
def TiPost (xs : List Int) (l : Nat) (w : World) (e : Ending) (w' : World) : Prop := ∃ B, e = .returned (.slice (some ⟨B, 0, none⟩) l l) ∧ TbL w.heap.size w' (some ⟨B, 0, none⟩) l xs ∧ Below w.heap.size w w'

theorem toL_any (xs : List Int) (a : Option Addr) (l c : Nat) (w : World) (h : Ints w a l xs) (hl : l ≤ 1048576) : Calls Try.prog 59 #[.slice a l c] w (TiPost xs l w) :=
  (toS_any xs a l c w h hl).mono fun e w' ⟨he, hk, _, hb⟩ => ⟨_, he, blk_tl hk h.len hl (Nat.le_refl _), hb⟩

theorem eqL_any (xs : List Int) (a b : Option Addr) (l m c d : Nat) (w : World) (h : Ints w a l xs) (g : Ints w b m xs) : Calls Try.prog 62 #[.slice a l c, .slice b m d] w fun e w' => e = .returned (.bool true) ∧ Below w.heap.size w w' :=
  (eqS_any xs xs a b l m c d w h g).mono fun e w' ⟨he, n, hn⟩ => ⟨by rw [he]; simp, by rw [hn]; exact below_drewN (Below.refl _ _) n⟩

theorem heldL_any (a : Option Addr) (l c : Nat) (q : Int) (w : World) (h : Ints w a l (marks q l)) (hl : l ≤ 1048576) (q0 : 0 ≤ q) (q1 : q ≤ 1099511627776) : Calls Try.prog 68 #[.slice a l c, .int .i64 q] w fun e w' => e = .returned (.int .i64 (q + l)) ∧ Below w.heap.size w w' :=
  (held_any a l c q w h hl q0 q1).mono fun e w' ⟨he, hw⟩ => ⟨he, by rw [← hw]; exact Below.refl _ _⟩

theorem Bx.five {w : World} {B : Nat} {x y z u v : Value} (h : Bx w B [x, y, z, u, v]) : w.cell? ⟨B, 0, none⟩ = some x ∧ w.cell? ⟨B, 1, none⟩ = some y ∧ w.cell? ⟨B, 2, none⟩ = some z ∧ w.cell? ⟨B, 3, none⟩ = some u ∧ w.cell? ⟨B, 4, none⟩ = some v := by
  obtain ⟨T, h⟩ := h
  simp [World.cell?, h]

theorem Bx.two {w : World} {B : Nat} {x y : Value} (h : Bx w B [x, y]) : w.cell? ⟨B, 0, none⟩ = some x ∧ w.cell? ⟨B, 1, none⟩ = some y := by
  obtain ⟨T, h⟩ := h
  simp [World.cell?, h]

/-- the cells of a box of five -/
theorem LW.c5 {w W : World} {bs : List (Nat × List Value)} {ls : List (Option Addr × Nat × List Int)} {B : Nat} {x y z u v : Value} (h : LW w bs ls W) (hm : (B, [x, y, z, u, v]) ∈ bs) : W.cell? ⟨B, 0, none⟩ = some x ∧ W.cell? ⟨B, 1, none⟩ = some y ∧ W.cell? ⟨B, 2, none⟩ = some z ∧ W.cell? ⟨B, 3, none⟩ = some u ∧ W.cell? ⟨B, 4, none⟩ = some v := (h.bx _ hm).2.five

end Go.Proofs.Ytmnddplkmljeaaa
