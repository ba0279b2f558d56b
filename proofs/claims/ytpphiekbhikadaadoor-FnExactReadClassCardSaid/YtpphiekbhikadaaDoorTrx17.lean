/- Merged: Tcl, Tcx. -/
import Derived.Test.YtpphiekbhikadaaDoorTrx8
import Derived.Test.YtpphiekbhikadaaDoorTrx9
import Derived.Test.YtpphiekbhikadaaDoorTrx11
import Derived.Test.YtpphiekbhikadaaDoorTrx12
import Derived.Test.YtpphiekbhikadaaDoorTrx13
import Derived.Test.YtpphiekbhikadaaDoorTrx16

/- Tontines: classes that a law takes, copies, compares, marks. -/
namespace Go.Proofs.YtpphiekbhikadaaDoor
open Go.ChangeShapes Go.WideShapes Go.ChangeAt Go.RowKit
set_option linter.unusedVariables false
set_option maxRecDepth 100000

/-- a list in a block from base on, or nil; it may be written -/
def TbL (base : Nat) (w : World) (a : Option Addr) (n : Nat) (ys : List Int) : Prop :=
  ys.length = n ∧ n ≤ 1048576 ∧ ((a = none ∧ n = 0) ∨ ∃ g off, a = some ⟨g, off, none⟩ ∧ base ≤ g ∧ g < w.heap.size ∧ RowI w g off ys)

section
variable {base n : Nat} {w w' : World} {a : Option Addr} {ys : List Int}

theorem tl_of (h : TbR base w a n ys) : TbL base w a n ys := ⟨h.1, by have := h.2.1; omega, h.2.2⟩

theorem TbL.ints (h : TbL base w a n ys) : Ints w a n ys := by
  obtain ⟨h1, h2, ⟨rfl, rfl⟩ | ⟨g, off, rfl, _, _, hr⟩⟩ := h
  · exact ⟨h1, by omega, .inl rfl⟩
  · exact hr.ints h1 (by omega)

theorem TbL.far (h : TbL base w a n ys) : ∀ x, a = some x → base ≤ x.block ∧ x.block < w.heap.size := by
  obtain ⟨h1, h2, ⟨rfl, rfl⟩ | ⟨g, off, rfl, h3, h4, hr⟩⟩ := h
  · intro x hx; cases hx
  · intro x hx; cases hx; exact ⟨h3, h4⟩

theorem TbL.same (h : TbL base w a n ys) (hs : w.heap.size ≤ w'.heap.size) (hb : ∀ x, a = some x → w'.heap[x.block]? = w.heap[x.block]?) : TbL base w' a n ys := by
  obtain ⟨h1, h2, h3 | ⟨g, off, h4, h5, h6, h7⟩⟩ := h
  · exact ⟨h1, h2, .inl h3⟩
  · have hg := hb _ h4
    exact ⟨h1, h2, .inr ⟨g, off, h4, h5, Nat.lt_of_lt_of_le h6 hs, ⟨fun i hi => by rw [← h7.cell i hi]; exact World.cell?_of_block hg, fun i hi => by rw [← h7.free i hi]; exact World.frozen?_of_block hg⟩⟩⟩

theorem TbL.on (h : TbL base w a n ys) (hb : Below w.heap.size w w') : TbL base w' a n ys := h.same hb.size fun x hx => hb.block _ (h.far x hx).2

theorem TbL.mono {b2 : Nat} (h : TbL base w a n ys) (hb : b2 ≤ base) : TbL b2 w a n ys := by
  obtain ⟨h1, h2, h3 | ⟨g, off, h4, h5, h6, h7⟩⟩ := h
  · exact ⟨h1, h2, .inl h3⟩
  · exact ⟨h1, h2, .inr ⟨g, off, h4, by omega, h6, h7⟩⟩
end

theorem blk_tl {w : World} {B l base : Nat} {ys : List Int} (h : Blk w B ys) (hl : ys.length = l) (hm : l ≤ 1048576) (hb : base ≤ B) : TbL base w (some ⟨B, 0, none⟩) l ys :=
  ⟨hl, hm, .inr ⟨B, 0, rfl, hb, h.lt, ⟨fun i hi => by rw [Nat.zero_add]; exact h.cell i hi, fun i _ => h.free _⟩⟩⟩

theorem markL_any (ys : List Int) (base : Nat) (a : Option Addr) (n c : Nat) (q : Int) (w : World) (h : TbL base w a n ys) (q0 : 0 ≤ q) (q1 : q ≤ 1099511627776) :
    Calls Tryd.prog 54 #[.slice a n c, .int .i64 q] w fun e w' => e = .returned (.int .i64 (q + n)) ∧ TbL base w' a n (marks q n) ∧ ButA a w w' := by
  obtain ⟨h1, h2, ⟨rfl, rfl⟩ | ⟨g, off, rfl, hb1, hg, hr⟩⟩ := h
  · refine (mark_nil none c q w).mono ?_
    rintro e w' ⟨rfl, rfl⟩
    exact ⟨by simp, ⟨marks_len _ _, by omega, .inl ⟨rfl, rfl⟩⟩, below_butA (Below.refl _ _)⟩
  · refine (mark_row ys g off n c q w hr h1 (by omega) q0 q1).mono ?_
    rintro e w' ⟨rfl, hr', ho⟩
    exact ⟨rfl, ⟨marks_len _ _, h2, .inr ⟨g, off, rfl, hb1, by rw [ho.size]; exact hg, hr'⟩⟩, ⟨ho.os, ho.tape, ho.output, by rw [ho.size]; exact Nat.le_refl _, fun k _ hk => ho.block k (fun e => hk _ rfl e.symm)⟩⟩

/-- all but two blocks are as they were -/
structure But2 (a b : Option Addr) (w w' : World) : Prop where
  os : w'.os = w.os
  tape : w'.tape = w.tape
  output : w'.output = w.output
  size : w.heap.size ≤ w'.heap.size
  block : ∀ k, k < w.heap.size → (∀ x, a = some x → x.block ≠ k) → (∀ x, b = some x → x.block ≠ k) → w'.heap[k]? = w.heap[k]?

/-- a class of a law, a class of the program: the same three cells -/
theorem szC_fit (a b : Option Addr) (l c m d : Nat) (ch n : Int) (w : World) (n1 : n ≤ 1048576) (h : (l : Int) + m ≤ n) :
    Calls Tryd.prog 22 #[.agg #[.slice a l c, .slice b m d, .int .i64 ch], .int .i64 n] w fun e w' => e = .returned (.int .i64 (n - l - m)) ∧ Below w.heap.size w w' := by
  have H1 := Lib.hid (fun w => szS_fit a l c n w (by omega) n1 (by omega))
  have H2 := Lib.hid (fun w => szS_fit b m d (n - l) w (by omega) (by omega) (by omega))
  have hp1 : ¬ n - (l : Int) < 0 := by omega
  have hp2 : ¬ n - (l : Int) - m < 0 := by omega
  clear h
  go_enter Tryd.func22, Tryd.ntmps22
  go_wp2_with (go_at_call 51; first | ((with_reducible refine (H1.out _).mono ?_); rintro e w' ⟨rfl, rfl⟩) | ((with_reducible refine (H2.out _).mono ?_); rintro e w' ⟨rfl, rfl⟩))
  go_ret
  exact ⟨rfl, box_b _ _⟩

theorem szC_big (a b : Option Addr) (l c m d : Nat) (ch n : Int) (w : World) (hl : l ≤ 9223372036854775807) (hm : m ≤ 9223372036854775807) (n0 : 0 ≤ n) (n1 : n ≤ 1048576) (h : n < (l : Int) + m) :
    Calls Tryd.prog 22 #[.agg #[.slice a l c, .slice b m d, .int .i64 ch], .int .i64 n] w fun e w' => e = .returned (.int .i64 (-1)) ∧ Below w.heap.size w w' := by
  by_cases h1 : n < (l : Int)
  · have H1 := Lib.hid (fun w => szS_big a l c n w hl n0 n1 h1)
    clear h h1
    go_enter Tryd.func22, Tryd.ntmps22
    go_wp2_with (go_at_call 51; refine (H1.out _).mono ?_; rintro e w' ⟨rfl, rfl⟩)
    go_ret
    exact ⟨rfl, box_b _ _⟩
  · have H1 := Lib.hid (fun w => szS_fit a l c n w (by omega) n1 (by omega))
    have H2 := Lib.hid (fun w => szS_big b m d (n - l) w hm (by omega) (by omega) (by omega))
    have hp1 : ¬ n - (l : Int) < 0 := by omega
    clear h h1
    go_enter Tryd.func22, Tryd.ntmps22
    go_wp2_with (go_at_call 51; first | ((with_reducible refine (H1.out _).mono ?_); rintro e w' ⟨rfl, rfl⟩) | ((with_reducible refine (H2.out _).mono ?_); rintro e w' ⟨rfl, rfl⟩))
    go_ret
    exact ⟨rfl, box_b _ _⟩

/-- what a law has copied -/
def TcPost (sh de : List Int) (l m : Nat) (ch : Int) (w : World) (e : Ending) (w' : World) : Prop :=
  ∃ B C, e = .returned (.agg #[.slice (some ⟨B, 0, none⟩) l l, .slice (some ⟨C, 0, none⟩) m m, .int .i64 ch]) ∧ TbL w.heap.size w' (some ⟨B, 0, none⟩) l sh ∧ TbL w.heap.size w' (some ⟨C, 0, none⟩) m de ∧ B ≠ C ∧ Below w.heap.size w w'

set_option maxHeartbeats 1000000 in
theorem toC_any (sh de : List Int) (a b : Option Addr) (l c m d : Nat) (ch : Int) (w : World) (h : Ints w a l sh) (g : Ints w b m de) (hl : l ≤ 1048576) (hm : m ≤ 1048576) :
    Calls Tryd.prog 23 #[.agg #[.slice a l c, .slice b m d, .int .i64 ch]] w (TcPost sh de l m ch w) := by
  have HL := Lib.hid h.len
  have GL := Lib.hid g.len
  have H := Lib.hid h
  have G := Lib.hid g
  clear h g
  have b1 := box_b w (.cells #[.slice a l c, .slice b m d, .int .i64 ch] 40)
  have b2 := box_b (w.alloc (.cells #[.slice a l c, .slice b m d, .int .i64 ch] 40)) (.cells #[.slice none 0 0, .slice none 0 0, .int .i64 0] 26)
  have b3 := box_b ((w.alloc (.cells #[.slice a l c, .slice b m d, .int .i64 ch] 40)).alloc (.cells #[.slice none 0 0, .slice none 0 0, .int .i64 0] 26)) (.cells #[.slice none 0 0, .slice none 0 0, .int .i64 0] 26)
  have x1 := ((Bx.new w [.slice a l c, .slice b m d, .int .i64 ch] 40).on b2).on b3
  have x2 := (Bx.new (w.alloc (.cells #[.slice a l c, .slice b m d, .int .i64 ch] 40)) [.slice none 0 0, .slice none 0 0, .int .i64 0] 26).on b3
  have x3 := Bx.new ((w.alloc (.cells #[.slice a l c, .slice b m d, .int .i64 ch] 40)).alloc (.cells #[.slice none 0 0, .slice none 0 0, .int .i64 0] 26)) [.slice none 0 0, .slice none 0 0, .int .i64 0] 26
  rw [World.size_alloc] at x2
  rw [World.size_alloc, World.size_alloc] at x3
  have hb0 : Below w.heap.size w (((w.alloc (.cells #[.slice a l c, .slice b m d, .int .i64 ch] 40)).alloc (.cells #[.slice none 0 0, .slice none 0 0, .int .i64 0] 26)).alloc (.cells #[.slice none 0 0, .slice none 0 0, .int .i64 0] 26)) := b1.trans ((b2.mono (by simp)).trans (b3.mono (by simp; omega)))
  have hs0 : (((w.alloc (.cells #[.slice a l c, .slice b m d, .int .i64 ch] 40)).alloc (.cells #[.slice none 0 0, .slice none 0 0, .int .i64 0] 26)).alloc (.cells #[.slice none 0 0, .slice none 0 0, .int .i64 0] 26)).heap.size = w.heap.size + 1 + 1 + 1 := by simp
  go_enter Tryd.func23, Tryd.ntmps23
  go_wp2_with fail
  obtain ⟨W0, hW0⟩ : ∃ y_, (((w.alloc (.cells #[.slice a l c, .slice b m d, .int .i64 ch] 40)).alloc (.cells #[.slice none 0 0, .slice none 0 0, .int .i64 0] 26)).alloc (.cells #[.slice none 0 0, .slice none 0 0, .int .i64 0] 26)) = y_ := ⟨_, rfl⟩
  rw [hW0] at x1 x2 x3 hb0 hs0 ⊢
  have HB0 := Lib.hid hb0
  have X1 := Lib.hid x1
  have X2 := Lib.hid x2
  have X3 := Lib.hid x3
  have HS0 := Lib.hid hs0
  clear hW0 b1 b2 b3 x1 x2 x3 hb0 hs0
  refine (toS_any sh _ _ _ _ (H.out.on HB0.out) hl).mono ?_
  rintro e w1 ⟨rfl, hk, hz, hb⟩
  have hk1 := Lib.hid hk
  have hz1 : Hid (w1.heap.size = w.heap.size + 4) := Lib.hid (by rw [hz, HS0.out])
  have X1 := Lib.hid (X1.out.on hb)
  have X2 := Lib.hid (X2.out.on hb)
  have X3 := Lib.hid (X3.out.on hb)
  have HB1 := Lib.hid (HB0.out.trans (hb.mono (by have := HS0.out; omega)))
  have hs0 := HS0.out
  rw [hs0] at hk1
  rw [hs0]
  clear hk hz hb hs0 HB0 HS0
  obtain ⟨c0, c1, c2⟩ := X1.out.threeT
  obtain ⟨o0, o1, o2⟩ := X3.out.threeT
  have f0 := X3.out.free 0
  go_wp2_with fail
  have X1 := Lib.hid (X1.out.same (far_setCell w1 ⟨w.heap.size + 1 + 1, 0, none⟩ (.slice (some ⟨w.heap.size + 1 + 1 + 1, 0, none⟩) l l) w.heap.size (by show w.heap.size ≠ w.heap.size + 1 + 1; omega)))
  have X2 := Lib.hid (X2.out.same (far_setCell w1 ⟨w.heap.size + 1 + 1, 0, none⟩ (.slice (some ⟨w.heap.size + 1 + 1 + 1, 0, none⟩) l l) (w.heap.size + 1) (by show w.heap.size + 1 ≠ w.heap.size + 1 + 1; omega)))
  have X3 := Lib.hid (X3.out.setAt 0 (.slice (some ⟨w.heap.size + 1 + 1 + 1, 0, none⟩) l l))
  have hk1 := Lib.hid (hk1.out.same (far_setCell w1 ⟨w.heap.size + 1 + 1, 0, none⟩ (.slice (some ⟨w.heap.size + 1 + 1 + 1, 0, none⟩) l l) (w.heap.size + 1 + 1 + 1) (by show w.heap.size + 1 + 1 + 1 ≠ w.heap.size + 1 + 1; omega)))
  have HB1 := Lib.hid (HB1.out.setCell (p := ⟨w.heap.size + 1 + 1, 0, none⟩) (by show w.heap.size ≤ w.heap.size + 1 + 1; omega) (.slice (some ⟨w.heap.size + 1 + 1 + 1, 0, none⟩) l l))
  have hz1 : Hid ((w1.setCell ⟨w.heap.size + 1 + 1, 0, none⟩ (.slice (some ⟨w.heap.size + 1 + 1 + 1, 0, none⟩) l l)).heap.size = w.heap.size + 4) := Lib.hid (by have := hz1.out; simpa [World.setCell] using this)
  obtain ⟨W1, hW1⟩ : ∃ y_, w1.setCell ⟨w.heap.size + 1 + 1, 0, none⟩ (.slice (some ⟨w.heap.size + 1 + 1 + 1, 0, none⟩) l l) = y_ := ⟨_, rfl⟩
  rw [hW1] at X1 X2 X3 hk1 HB1 hz1 ⊢
  clear hW1 c0 c1 c2 o0 o1 o2 f0
  refine (toS_any de _ _ _ _ (G.out.on HB1.out) hm).mono ?_
  rintro e w2 ⟨rfl, hk, hz, hb⟩
  have hk2 := Lib.hid hk
  have hk1 := Lib.hid (hk1.out.below hb (by have := hz1.out; omega))
  have X1 := Lib.hid (X1.out.on hb)
  have X2 := Lib.hid (X2.out.on hb)
  have X3 := Lib.hid (X3.out.on hb)
  have HB2 := Lib.hid (HB1.out.trans (hb.mono (by have := hz1.out; omega)))
  have hzz := hz1.out
  rw [hzz] at hk2
  rw [hzz]
  clear hk hz hb hzz HB1 hz1
  obtain ⟨c0, c1, c2⟩ := X1.out.threeT
  obtain ⟨r0, r1, r2⟩ := X2.out.threeT
  obtain ⟨o0, o1, o2⟩ := X3.out.threeT
  have f1 := X3.out.free 1
  have f2 := X3.out.free 2
  have z0 := X2.out.free 0
  have z1 := X2.out.free 1
  have z2 := X2.out.free 2
  have hend := sets3_box (p := .slice (some ⟨w.heap.size + 1 + 1 + 1, 0, none⟩) l l) (q := .slice (some ⟨w.heap.size + 4, 0, none⟩) m m) (r := .int .i64 ch) ((X2.out.same (far_setCell w2 ⟨w.heap.size + 1 + 1, 1, none⟩ (.slice (some ⟨w.heap.size + 4, 0, none⟩) m m) (w.heap.size + 1) (by show w.heap.size + 1 ≠ w.heap.size + 1 + 1; omega))).same (far_setCell _ ⟨w.heap.size + 1 + 1, 2, none⟩ (.int .i64 ch) (w.heap.size + 1) (by show w.heap.size + 1 ≠ w.heap.size + 1 + 1; omega)))
  obtain ⟨e0, e1, e2⟩ := hend.threeT
  clear hend
  go_wp2_with fail
  refine bodyPost_ret (v := .agg #[.slice (some ⟨w.heap.size + 1 + 1 + 1, 0, none⟩) l l, .slice (some ⟨w.heap.size + 4, 0, none⟩) m m, .int .i64 ch]) (by simp [results, Tryd.results23, go_sem, e0, e1, e2]) rfl ?_
  have hx2 := X2.out.lt
  refine ⟨_, _, rfl, blk_tl ((((hk1.out.same (far_setCell _ _ _ _ (by show w.heap.size + 1 + 1 + 1 ≠ w.heap.size + 1 + 1; omega))).same (far_setCell _ _ _ _ (by show w.heap.size + 1 + 1 + 1 ≠ w.heap.size + 1 + 1; omega))).same (sets3_far _ _ _ _ _ _ (by omega)))) HL.out hl (by omega), blk_tl ((((hk2.out.same (far_setCell _ _ _ _ (by show w.heap.size + 4 ≠ w.heap.size + 1 + 1; omega))).same (far_setCell _ _ _ _ (by show w.heap.size + 4 ≠ w.heap.size + 1 + 1; omega))).same (sets3_far _ _ _ _ _ _ (by omega)))) GL.out hm (by omega), by omega, ?_⟩
  exact (((((HB2.out.setCell (p := ⟨w.heap.size + 1 + 1, 1, none⟩) (by show w.heap.size ≤ w.heap.size + 1 + 1; omega) _).setCell (p := ⟨w.heap.size + 1 + 1, 2, none⟩) (by show w.heap.size ≤ w.heap.size + 1 + 1; omega) _).setCell (p := ⟨w.heap.size + 1, 0, none⟩) (by show w.heap.size ≤ w.heap.size + 1; omega) _).setCell (p := ⟨w.heap.size + 1, 1, none⟩) (by show w.heap.size ≤ w.heap.size + 1; omega) _).setCell (p := ⟨w.heap.size + 1, 2, none⟩) (by show w.heap.size ≤ w.heap.size + 1; omega) _)

theorem two3 (w : World) (a1 a2 a3 b1 b2 b3 : Value) (A B : TypeId) : Below w.heap.size w ((w.alloc (.cells #[a1, a2, a3] A)).alloc (.cells #[b1, b2, b3] B)) ∧ Bx ((w.alloc (.cells #[a1, a2, a3] A)).alloc (.cells #[b1, b2, b3] B)) w.heap.size [a1, a2, a3] ∧ Bx ((w.alloc (.cells #[a1, a2, a3] A)).alloc (.cells #[b1, b2, b3] B)) (w.heap.size + 1) [b1, b2, b3] := by
  have h1 := box_b w (.cells #[a1, a2, a3] A)
  have h2 := box_b (w.alloc (.cells #[a1, a2, a3] A)) (.cells #[b1, b2, b3] B)
  have x2 := Bx.new (w.alloc (.cells #[a1, a2, a3] A)) [b1, b2, b3] B
  rw [World.size_alloc] at x2
  exact ⟨h1.trans (h2.mono (by simp)), (Bx.new w [a1, a2, a3] A).on h2, x2⟩

theorem eqTc_any (sh de : List Int) (a b x y : Option Addr) (l c m d l' c' m' d' : Nat) (ch : Int) (w : World) (h : Ints w a l sh) (g : Ints w b m de) (h' : Ints w x l' sh) (g' : Ints w y m' de) :
    Calls Tryd.prog 24 #[.agg #[.slice a l c, .slice b m d, .int .i64 ch], .agg #[.slice x l' c', .slice y m' d', .int .i64 ch]] w fun e w' => e = .returned (.bool true) ∧ Below w.heap.size w w' := by
  obtain ⟨hb, x1, x2⟩ := two3 w (.slice a l c) (.slice b m d) (.int .i64 ch) (.slice x l' c') (.slice y m' d') (.int .i64 ch) 26 26
  have HB := Lib.hid hb
  have H := Lib.hid (h.on hb)
  have G := Lib.hid (g.on hb)
  have H' := Lib.hid (h'.on hb)
  have G' := Lib.hid (g'.on hb)
  obtain ⟨c0, c1, c2⟩ := x1.threeT
  obtain ⟨r0, r1, r2⟩ := x2.threeT
  clear h g h' g' hb x1 x2
  have E1 : Hid (∀ n, Calls Tryd.prog 53 #[.slice a l c, .slice x l' c'] (((w.alloc (.cells #[.slice a l c, .slice b m d, .int .i64 ch] 26)).alloc (.cells #[.slice x l' c', .slice y m' d', .int .i64 ch] 26)).drewN n) fun e w' => e = .returned (.bool true) ∧ ∃ k, w' = (((w.alloc (.cells #[.slice a l c, .slice b m d, .int .i64 ch] 26)).alloc (.cells #[.slice x l' c', .slice y m' d', .int .i64 ch] 26)).drewN n).drewN k) := Lib.hid (fun n => (eqS_any sh sh a x l l' c c' _ (H.out.drewN n) (H'.out.drewN n)).mono fun e w' hh => ⟨by rw [hh.1]; simp, hh.2⟩)
  have E2 : Hid (∀ n, Calls Tryd.prog 53 #[.slice b m d, .slice y m' d'] (((w.alloc (.cells #[.slice a l c, .slice b m d, .int .i64 ch] 26)).alloc (.cells #[.slice x l' c', .slice y m' d', .int .i64 ch] 26)).drewN n) fun e w' => e = .returned (.bool true) ∧ ∃ k, w' = (((w.alloc (.cells #[.slice a l c, .slice b m d, .int .i64 ch] 26)).alloc (.cells #[.slice x l' c', .slice y m' d', .int .i64 ch] 26)).drewN n).drewN k) := Lib.hid (fun n => (eqS_any de de b y m m' d d' _ (G.out.drewN n) (G'.out.drewN n)).mono fun e w' hh => ⟨by rw [hh.1]; simp, hh.2⟩)
  have hcc : ((ch : Int) != ch) = false := by simp
  go_enter Tryd.func24, Tryd.ntmps24
  go_wp2_with fail
  refine (E1.out 0).mono ?_
  rintro e w1 ⟨rfl, n1, rfl⟩
  go_wp2_with fail
  (try rw [World.drewN_drewN])
  refine (E2.out _).mono ?_
  rintro e w2 ⟨rfl, n2, rfl⟩
  go_wp2_with fail
  go_ret
  (try rw [World.drewN_drewN])
  exact ⟨rfl, below_drewN HB.out _⟩

set_option maxHeartbeats 1000000 in
theorem markTc_any (sh de : List Int) (base : Nat) (a b : Option Addr) (l c m d : Nat) (ch q : Int) (w : World) (h : TbL base w a l sh) (g : TbL base w b m de) (hab : Aprt a b) (q0 : 0 ≤ q) (q1 : q ≤ 1099510000000) :
    Calls Tryd.prog 25 #[.agg #[.slice a l c, .slice b m d, .int .i64 ch], .int .i64 q] w fun e w' => e = .returned (.int .i64 (q + l + m)) ∧ TbL base w' a l (marks q l) ∧ TbL base w' b m (marks (q + l) m) ∧ But2 a b w w' := by
  have hb := box_b w (.cells #[.slice a l c, .slice b m d, .int .i64 ch] 26)
  have x1 := Bx.new w [.slice a l c, .slice b m d, .int .i64 ch] 26
  have H := Lib.hid (h.on hb)
  have G := Lib.hid (g.on hb)
  have HF := Lib.hid h.far
  have GF := Lib.hid g.far
  have AB := Lib.hid hab
  have HB := Lib.hid hb
  have X1 := Lib.hid x1
  have l1 := h.2.1
  have m1 := g.2.1
  clear h g hab hb x1
  go_enter Tryd.func25, Tryd.ntmps25
  go_wp2_with fail
  refine (markL_any sh base a l c q _ H.out q0 (by omega)).mono ?_
  rintro e w1 ⟨rfl, hm, hba⟩
  have HM := Lib.hid hm
  have HBA := Lib.hid hba
  have HG := Lib.hid (G.out.same hba.size (fun y hy => hba.block _ (G.out.far y hy).2 (fun x hx => AB.out x y hx hy)))
  have X1 := Lib.hid (X1.out.same (hba.block _ X1.out.lt (fun x hx => by have := HF.out x hx; omega)))
  obtain ⟨c0, c1, c2⟩ := X1.out.threeT
  clear hm hba H G
  go_wp2_with fail
  refine (markL_any de base b m d (q + l) _ HG.out (by omega) (by omega)).mono ?_
  rintro e w2 ⟨rfl, hm, hba⟩
  have HM2 := Lib.hid hm
  have HM1 := Lib.hid (HM.out.same hba.size (fun x hx => hba.block _ (HM.out.far x hx).2 (fun y hy => (AB.out x y hx hy).symm)))
  have HE : Hid (But2 a b w w2) := Lib.hid ⟨hba.os.trans (HBA.out.os.trans HB.out.os), hba.tape.trans (HBA.out.tape.trans HB.out.tape), hba.output.trans (HBA.out.output.trans HB.out.output), Nat.le_trans HB.out.size (Nat.le_trans HBA.out.size hba.size),
    fun k hk h1 h2 => by
      have s1 := HB.out.size
      have s2 := HBA.out.size
      rw [hba.block k (by omega) h2, HBA.out.block k (by omega) h1, HB.out.block k hk]⟩
  clear hm hba HM HG HBA
  go_wp2_with fail
  go_ret
  exact ⟨rfl, HM1.out, HM2.out, HE.out⟩

set_option maxHeartbeats 1000000 in
theorem heldTc_any (a b : Option Addr) (l c m d : Nat) (ch q : Int) (w : World) (h : Ints w a l (marks q l)) (g : Ints w b m (marks (q + l) m)) (hl : l ≤ 1048576) (hm : m ≤ 1048576) (q0 : 0 ≤ q) (q1 : q ≤ 1099510000000) :
    Calls Tryd.prog 26 #[.agg #[.slice a l c, .slice b m d, .int .i64 ch], .int .i64 q] w fun e w' => e = .returned (.int .i64 (q + l + m)) ∧ Below w.heap.size w w' := by
  have hb := box_b w (.cells #[.slice a l c, .slice b m d, .int .i64 ch] 26)
  have C1 := Lib.hid (held_any a l c q _ (h.on hb) hl q0 (by omega))
  have C2 := Lib.hid (held_any b m d (q + l) _ (g.on hb) hm (by omega) (by omega))
  have HB := Lib.hid hb
  have hp1 : ¬ q + (l : Int) < 0 := by omega
  have hp2 : ¬ q + (l : Int) + m < 0 := by omega
  clear h g hb
  go_enter Tryd.func26, Tryd.ntmps26
  go_wp2_with (go_at_call 55; first | ((with_reducible refine C1.out.mono ?_); rintro e w' ⟨rfl, rfl⟩) | ((with_reducible refine C2.out.mono ?_); rintro e w' ⟨rfl, rfl⟩))
  go_ret
  exact ⟨rfl, HB.out⟩

/-- what a law holds: boxes, lists in different blocks -/
structure LW (w : World) (bs : List (Nat × List Value)) (ls : List (Option Addr × Nat × List Int)) (W : World) : Prop where
  bx : ∀ p ∈ bs, w.heap.size ≤ p.1 ∧ Bx W p.1 p.2
  tl : ∀ q ∈ ls, TbL w.heap.size W q.1 q.2.1 q.2.2
  ap : ls.Pairwise fun q r => Aprt q.1 r.1
  ab : ∀ p ∈ bs, ∀ q ∈ ls, ∀ x, q.1 = some x → x.block ≠ p.1
  low : Below w.heap.size w W

section
variable {w W W' : World} {bs : List (Nat × List Value)} {ls : List (Option Addr × Nat × List Int)}

theorem LW.start (w : World) : LW w [] [] w := ⟨(fun p hp => by cases hp), (fun p hp => by cases hp), List.Pairwise.nil, (fun p hp => by cases hp), Below.refl _ _⟩

theorem LW.on (h : LW w bs ls W) (hb : Below W.heap.size W W') : LW w bs ls W' :=
  ⟨fun p hp => ⟨(h.bx p hp).1, (h.bx p hp).2.on hb⟩, fun q hq => (h.tl q hq).on hb, h.ap, h.ab, h.low.trans (hb.mono h.low.size)⟩

theorem LW.drew (h : LW w bs ls W) : LW w bs ls W.drew := h.on (Below.drew (Below.refl _ _))

theorem LW.box (h : LW w bs ls W) (vs : List Value) (T : TypeId) : LW w ((W.heap.size, vs) :: bs) ls (W.alloc (.cells vs.toArray T)) := by
  have hb := box_b W (.cells vs.toArray T)
  have k := h.on hb
  refine ⟨fun p hp => ?_, k.tl, k.ap, fun p hp q hq x hx => ?_, k.low⟩
  · rcases List.mem_cons.1 hp with rfl | hp
    · exact ⟨h.low.size, Bx.new W vs T⟩
    · exact k.bx p hp
  · rcases List.mem_cons.1 hp with rfl | hp
    · have := ((h.tl q hq).far x hx).2
      show x.block ≠ W.heap.size
      omega
    · exact k.ab p hp q hq x hx

theorem LW.add (h : LW w bs ls W) (hb : Below W.heap.size W W') {a : Option Addr} {n : Nat} {ys : List Int} (ht : TbL W.heap.size W' a n ys) : LW w bs ((a, n, ys) :: ls) W' := by
  have k := h.on hb
  refine ⟨k.bx, fun q hq => ?_, List.pairwise_cons.2 ⟨fun q hq x y hx hy => ?_, k.ap⟩, fun p hp q hq x hx => ?_, k.low⟩
  · rcases List.mem_cons.1 hq with rfl | hq
    · exact ht.mono h.low.size
    · exact k.tl q hq
  · have h1 := (ht.far x hx).1
    have h2 := ((h.tl q hq).far y hy).2
    omega
  · rcases List.mem_cons.1 hq with rfl | hq
    · have h1 := (ht.far x hx).1
      have h2 := (h.bx p hp).2.lt
      omega
    · exact k.ab p hp q hq x hx

theorem LW.add2 (h : LW w bs ls W) (hb : Below W.heap.size W W') {a b : Option Addr} {n m : Nat} {xs ys : List Int} (ht : TbL W.heap.size W' a n xs) (hu : TbL W.heap.size W' b m ys) (hab : Aprt a b) : LW w bs ((a, n, xs) :: (b, m, ys) :: ls) W' := by
  have k := h.add hb hu
  refine ⟨k.bx, fun q hq => ?_, List.pairwise_cons.2 ⟨fun q hq x y hx hy => ?_, k.ap⟩, fun p hp q hq x hx => ?_, k.low⟩
  · rcases List.mem_cons.1 hq with rfl | hq
    · exact ht.mono h.low.size
    · exact k.tl q hq
  · rcases List.mem_cons.1 hq with rfl | hq
    · exact hab x y hx hy
    · have h1 := (ht.far x hx).1
      have h2 := ((h.tl q hq).far y hy).2
      omega
  · rcases List.mem_cons.1 hq with rfl | hq
    · have h1 := (ht.far x hx).1
      have h2 := (h.bx p hp).2.lt
      omega
    · exact k.ab p hp q hq x hx

theorem LW.drop (h : LW w bs ls W) {bs' : List (Nat × List Value)} {ls' : List (Option Addr × Nat × List Int)} (hb : bs'.Sublist bs) (hl : ls'.Sublist ls) : LW w bs' ls' W :=
  ⟨fun p hp => h.bx p (hb.subset hp), fun q hq => h.tl q (hl.subset hq), h.ap.sublist hl, fun p hp q hq => h.ab p (hb.subset hp) q (hl.subset hq), h.low⟩

/-- a list is marked -/
theorem LW.mark {pre post : List (Option Addr × Nat × List Int)} {a : Option Addr} {n : Nat} {ys zs : List Int} (h : LW w bs (pre ++ (a, n, ys) :: post) W) (hb : ButA a W W') (ht : TbL w.heap.size W' a n zs) : LW w bs (pre ++ (a, n, zs) :: post) W' := by
  have hap := h.ap
  rw [List.pairwise_append, List.pairwise_cons] at hap
  have hm : (a, n, ys) ∈ pre ++ (a, n, ys) :: post := by simp
  have far : ∀ q, q ∈ pre ∨ q ∈ post → TbL w.heap.size W' q.1 q.2.1 q.2.2 := fun q hq => by
    have hq' : q ∈ pre ++ (a, n, ys) :: post := by rcases hq with h1 | h1 <;> simp [h1]
    refine (h.tl q hq').same hb.size fun y hy => hb.block _ ((h.tl q hq').far y hy).2 fun x hx => ?_
    rcases hq with h1 | h1
    · exact (hap.2.2 q h1 (a, n, ys) (List.mem_cons_self ..) y x hy hx).symm
    · exact hap.2.1.1 q h1 x y hx hy
  refine ⟨fun p hp => ⟨(h.bx p hp).1, (h.bx p hp).2.same (hb.block _ (h.bx p hp).2.lt fun x hx => h.ab p hp _ hm x hx)⟩, fun q hq => ?_, ?_, fun p hp q hq x hx => ?_, ?_⟩
  · rcases List.mem_append.1 hq with h1 | h1
    · exact far q (.inl h1)
    · rcases List.mem_cons.1 h1 with rfl | h1
      · exact ht
      · exact far q (.inr h1)
  · rw [List.pairwise_append, List.pairwise_cons]
    exact ⟨hap.1, ⟨fun q hq => hap.2.1.1 q hq, hap.2.1.2⟩, fun q hq r hr => by
      rcases List.mem_cons.1 hr with rfl | hr
      · exact hap.2.2 q hq (a, n, ys) (List.mem_cons_self ..)
      · exact hap.2.2 q hq r (List.mem_cons_of_mem _ hr)⟩
  · rcases List.mem_append.1 hq with h1 | h1
    · exact h.ab p hp q (by simp [h1]) x hx
    · rcases List.mem_cons.1 h1 with rfl | h1
      · exact h.ab p hp _ hm x hx
      · exact h.ab p hp q (by simp [h1]) x hx
  · have hlw := h.low.size
    exact h.low.trans ⟨hb.os, hb.tape, hb.output, hb.size, fun k hk => hb.block k (by omega) fun x hx => by have := ((h.tl _ hm).far x hx).1; omega⟩

/-- two lists are marked -/
theorem LW.mark2 {pre post : List (Option Addr × Nat × List Int)} {a b : Option Addr} {n m : Nat} {ys zs us vs : List Int} (h : LW w bs (pre ++ (a, n, ys) :: (b, m, us) :: post) W) (hb : But2 a b W W') (ht : TbL w.heap.size W' a n zs) (hu : TbL w.heap.size W' b m vs) : LW w bs (pre ++ (a, n, zs) :: (b, m, vs) :: post) W' := by
  have hap := h.ap
  rw [List.pairwise_append, List.pairwise_cons, List.pairwise_cons] at hap
  have hm1 : (a, n, ys) ∈ pre ++ (a, n, ys) :: (b, m, us) :: post := by simp
  have hm2 : (b, m, us) ∈ pre ++ (a, n, ys) :: (b, m, us) :: post := by simp
  have far : ∀ q, q ∈ pre ∨ q ∈ post → TbL w.heap.size W' q.1 q.2.1 q.2.2 := fun q hq => by
    have hq' : q ∈ pre ++ (a, n, ys) :: (b, m, us) :: post := by rcases hq with h1 | h1 <;> simp [h1]
    refine (h.tl q hq').same hb.size fun y hy => hb.block _ ((h.tl q hq').far y hy).2 (fun x hx => ?_) (fun x hx => ?_)
    · rcases hq with h1 | h1
      · exact (hap.2.2 q h1 (a, n, ys) (List.mem_cons_self ..) y x hy hx).symm
      · exact hap.2.1.1 q (List.mem_cons_of_mem _ h1) x y hx hy
    · rcases hq with h1 | h1
      · exact (hap.2.2 q h1 (b, m, us) (by simp) y x hy hx).symm
      · exact hap.2.1.2.1 q h1 x y hx hy
  refine ⟨fun p hp => ⟨(h.bx p hp).1, (h.bx p hp).2.same (hb.block _ (h.bx p hp).2.lt (fun x hx => h.ab p hp _ hm1 x hx) (fun x hx => h.ab p hp _ hm2 x hx))⟩, fun q hq => ?_, ?_, fun p hp q hq x hx => ?_, ?_⟩
  · rcases List.mem_append.1 hq with h1 | h1
    · exact far q (.inl h1)
    · rcases List.mem_cons.1 h1 with rfl | h1
      · exact ht
      · rcases List.mem_cons.1 h1 with rfl | h1
        · exact hu
        · exact far q (.inr h1)
  · rw [List.pairwise_append, List.pairwise_cons, List.pairwise_cons]
    refine ⟨hap.1, ⟨fun q hq => ?_, fun q hq => hap.2.1.2.1 q hq, hap.2.1.2.2⟩, fun q hq r hr => ?_⟩
    · rcases List.mem_cons.1 hq with rfl | hq
      · exact hap.2.1.1 (b, m, us) (List.mem_cons_self ..)
      · exact hap.2.1.1 q (List.mem_cons_of_mem _ hq)
    · rcases List.mem_cons.1 hr with rfl | hr
      · exact hap.2.2 q hq (a, n, ys) (List.mem_cons_self ..)
      · rcases List.mem_cons.1 hr with rfl | hr
        · exact hap.2.2 q hq (b, m, us) (by simp)
        · exact hap.2.2 q hq r (by simp [hr])
  · rcases List.mem_append.1 hq with h1 | h1
    · exact h.ab p hp q (by simp [h1]) x hx
    · rcases List.mem_cons.1 h1 with rfl | h1
      · exact h.ab p hp _ hm1 x hx
      · rcases List.mem_cons.1 h1 with rfl | h1
        · exact h.ab p hp _ hm2 x hx
        · exact h.ab p hp q (by simp [h1]) x hx
  · have hlw := h.low.size
    exact h.low.trans ⟨hb.os, hb.tape, hb.output, hb.size, fun k hk => hb.block k (by omega) (fun x hx => by have := ((h.tl _ hm1).far x hx).1; omega) (fun x hx => by have := ((h.tl _ hm2).far x hx).1; omega)⟩
end

/-- the cells of a box of three -/
theorem LW.c3 {w W : World} {bs : List (Nat × List Value)} {ls : List (Option Addr × Nat × List Int)} {B : Nat} {x y z : Value} (h : LW w bs ls W) (hm : (B, [x, y, z]) ∈ bs) : W.cell? ⟨B, 0, none⟩ = some x ∧ W.cell? ⟨B, 1, none⟩ = some y ∧ W.cell? ⟨B, 2, none⟩ = some z := (h.bx _ hm).2.threeT

end Go.Proofs.YtpphiekbhikadaaDoor

/- Tontines: the exact laws on IsClass, LivingShares and LastMember. (Written by wip/gen/tcx.py.) -/
namespace Go.Proofs.YtpphiekbhikadaaDoor
open Go.ChangeShapes Go.WideShapes Go.ChangeAt Go.RowKit
set_option linter.unusedVariables false
set_option maxRecDepth 100000

theorem lwS2 {w W : World} {X Y : Nat} {x0 x1 x2 y0 y1 y2 : Value} {bs : List (Nat × List Value)} {ls : List (Option Addr × Nat × List Int)} (h : LW w ((X, [x0, x1, x2]) :: (Y, [y0, y1, y2]) :: bs) ls W) :
    W.cell? ⟨X, 0, none⟩ = some x0 ∧ W.cell? ⟨X, 1, none⟩ = some x1 ∧ W.cell? ⟨X, 2, none⟩ = some x2 ∧ W.cell? ⟨Y, 0, none⟩ = some y0 ∧ W.cell? ⟨Y, 1, none⟩ = some y1 ∧ W.cell? ⟨Y, 2, none⟩ = some y2 ∧ Hid (LW w ((X, [x0, x1, x2]) :: (Y, [y0, y1, y2]) :: bs) ls W) := by
  obtain ⟨a0, a1, a2⟩ := h.c3 (.head _)
  obtain ⟨b0, b1, b2⟩ := h.c3 (.tail _ (.head _))
  exact ⟨a0, a1, a2, b0, b1, b2, Lib.hid h⟩

end Go.Proofs.YtpphiekbhikadaaDoor
