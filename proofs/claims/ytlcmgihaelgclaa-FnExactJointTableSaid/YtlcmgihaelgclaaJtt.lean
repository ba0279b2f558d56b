/- The exact law on JointTable. (Written by wip/gen/jtt.py.) -/
import Derived.Test.YtlcmgihaelgclaaJtx
import Derived.Test.YtlcmgihaelgclaaJpj
import Derived.Deep.CutRange
namespace Go.Proofs.Ytlcmgihaelgclaa
open Go.ChangeShapes Go.WideShapes Go.ChangeAt Go.RowKit
set_option linter.unusedVariables false
set_option maxRecDepth 100000

theorem markB_any (F : Int) (ys : List Int) (B n c : Nat) (q : Int) (w : World) (h : Blk w B ys) (hl : ys.length = n) (hn : n ≤ 1048576) (q0 : 0 ≤ q) (q1 : q ≤ 1099511627776) :
    Calls Try.prog 26 #[.agg #[.int .i64 F, .slice (some ⟨B, 0, none⟩) n c], .int .i64 q] w fun e w' => e = .returned (.int .i64 (q + n)) ∧ ButA (some ⟨B, 0, none⟩) w w' := by
  have HM := Lib.hid (mark_any ys B n c q (w.alloc (.cells #[.int .i64 F, .slice (some ⟨B, 0, none⟩) n c] 26)) (h.alloc _) hl hn q0 q1)
  have HB := Lib.hid (box_b w (.cells #[.int .i64 F, .slice (some ⟨B, 0, none⟩) n c] 26))
  clear h hl
  go_enter Try.func26, Try.ntmps26
  go_wp2_with fail
  refine HM.out.mono ?_
  rintro e w2 ⟨rfl, _, ho⟩
  have HO := Lib.hid ho
  clear ho
  go_wp2_with fail
  go_ret
  exact ⟨rfl, (below_butA HB.out).trans ⟨HO.out.os, HO.out.tape, HO.out.output, by rw [HO.out.size]; exact Nat.le_refl _, fun k _ hk => HO.out.block k (fun e => hk _ rfl e.symm)⟩⟩

theorem D2.butA {w : World} {f : Int} {a : Option Addr} {l c : Nat} {g : Int} {b : Option Addr} {m d : Nat} {xs ys : List Int} {q : Option Addr} {W W' : World} (h : D2 w f a l c g b m d xs ys W) (hba : ButA q W W') (hq : ∀ x, q = some x → w.heap.size + 2 ≤ x.block) (hX : Ints w a l xs) (hY : Ints w b m ys) : D2 w f a l c g b m d xs ys W' := by
  have hlow : Below w.heap.size w W' := h.k2.low.trans (hba.low (fun x hx => by have := hq x hx; omega) h.k2.low.size)
  refine ⟨⟨hba.cell h.k2.t0 (fun x hx => ?_), hba.cell h.k2.t1 (fun x hx => ?_), hba.cell h.k2.u0 (fun x hx => ?_), hba.cell h.k2.u1 (fun x hx => ?_), hlow⟩, hX.on hlow, hY.on hlow⟩
  all_goals
    have := hq x hx
    simp only
    omega

theorem Bx.butA {q : Option Addr} {W W' : World} {B : Nat} {vs : List Value} (h : Bx W B vs) (hba : ButA q W W') (hq : ∀ x, q = some x → x.block ≠ B) : Bx W' B vs := h.same (hba.block B h.lt hq)

theorem Bx.set2 {W : World} {B : Nat} {x y u v : Value} (h : Bx W B [x, y]) : Bx ((W.setCell ⟨B, 0, none⟩ u).setCell ⟨B, 1, none⟩ v) B [u, v] := by
  obtain ⟨T, h⟩ := h
  refine ⟨T, ?_⟩
  simp [World.setCell, Array.getElem?_modify, h]

theorem D2.set2 {w : World} {f : Int} {a : Option Addr} {l c : Nat} {g : Int} {b : Option Addr} {m d : Nat} {xs ys : List Int} {W : World} {B : Nat} {u v : Value} (h : D2 w f a l c g b m d xs ys W) (hB : w.heap.size + 2 ≤ B) (hX : Ints w a l xs) (hY : Ints w b m ys) : D2 w f a l c g b m d xs ys ((W.setCell ⟨B, 0, none⟩ u).setCell ⟨B, 1, none⟩ v) := by
  have hlow : Below w.heap.size w ((W.setCell ⟨B, 0, none⟩ u).setCell ⟨B, 1, none⟩ v) := (h.k2.low.setCell (p := ⟨B, 0, none⟩) (by show w.heap.size ≤ B; omega) _).setCell (p := ⟨B, 1, none⟩) (by show w.heap.size ≤ B; omega) _
  have n1 : w.heap.size ≠ B := by omega
  have n2 : w.heap.size + 1 ≠ B := by omega
  exact ⟨⟨setFar2 n1 (setFar2 n1 h.k2.t0), setFar2 n1 (setFar2 n1 h.k2.t1), setFar2 n2 (setFar2 n2 h.k2.u0), setFar2 n2 (setFar2 n2 h.k2.u1), hlow⟩, hX.on hlow, hY.on hlow⟩

theorem D2.two {w : World} {f : Int} {a : Option Addr} {l c : Nat} {g : Int} {b : Option Addr} {m d : Nat} {xs ys : List Int} {W : World} (h : D2 w f a l c g b m d xs ys W) : w.heap.size + 2 ≤ W.heap.size := by
  have := block_lt h.k2.u0
  have : w.heap.size + 1 < W.heap.size := this
  omega

/-- .. and what the model has handed over -/
structure J2 (w : World) (f : Int) (a : Option Addr) (l c : Nat) (g : Int) (b : Option Addr) (m d : Nat) (xs ys : List Int) (T N : Nat) (sa : Option Addr) (sn sc : Nat) (F : Int) (Y : List Int) (W : World) : Prop where
  d2 : D2 w f a l c g b m d xs ys W
  t : Bx W T [.int .i64 F, .slice sa sn sc]
  ti : Ints W sa sn Y
  oT : T < N
  fs : ∀ x, sa = some x → x.block < N
  oN : w.heap.size + 2 ≤ N
  sz : N ≤ W.heap.size

theorem J2.on {w : World} {f : Int} {a : Option Addr} {l c : Nat} {g : Int} {b : Option Addr} {m d : Nat} {xs ys : List Int} {T N : Nat} {sa : Option Addr} {sn sc : Nat} {F : Int} {Y : List Int} {W W' : World} (h : J2 w f a l c g b m d xs ys T N sa sn sc F Y W) (hb : Below W.heap.size W W') : J2 w f a l c g b m d xs ys T N sa sn sc F Y W' := ⟨h.d2.on hb, h.t.on hb, h.ti.on hb, h.oT, h.fs, h.oN, Nat.le_trans h.sz hb.size⟩

theorem J2.butA {w : World} {f : Int} {a : Option Addr} {l c : Nat} {g : Int} {b : Option Addr} {m d : Nat} {xs ys : List Int} {T N : Nat} {sa : Option Addr} {sn sc : Nat} {F : Int} {Y : List Int} {q : Option Addr} {W W' : World} (h : J2 w f a l c g b m d xs ys T N sa sn sc F Y W) (hba : ButA q W W') (hq : ∀ x, q = some x → N ≤ x.block) (hX : Ints w a l xs) (hY : Ints w b m ys) : J2 w f a l c g b m d xs ys T N sa sn sc F Y W' := by
  have oN := h.oN
  have oT := h.oT
  exact ⟨h.d2.butA hba (fun x hx => by have := hq x hx; omega) hX hY, h.t.butA hba (fun x hx => by have := hq x hx; omega), h.ti.butA hba (fun x y hx hy => by have := hq y hy; have := h.fs x hx; omega), oT, h.fs, oN, Nat.le_trans h.sz hba.size⟩

theorem J2.new {w : World} {f : Int} {a : Option Addr} {l c : Nat} {g : Int} {b : Option Addr} {m d : Nat} {xs ys : List Int} {base : Nat} {sa : Option Addr} {sn sc : Nat} {F : Int} {Y : List Int} {W : World} {ty : TypeId} (h : D2 w f a l c g b m d xs ys (W.alloc (.cells #[.int .i64 F, .slice sa sn sc] ty))) (hT : TbR base W sa sn Y) (h2 : w.heap.size + 2 ≤ W.heap.size) : J2 w f a l c g b m d xs ys W.heap.size (W.heap.size + 1) sa sn sc F Y (W.alloc (.cells #[.int .i64 F, .slice sa sn sc] ty)) :=
  ⟨h, Bx.new W _ _, hT.ints.on (box_b _ _), by omega, fun x hx => by have := (hT.far x hx).2; omega, by omega, by simp⟩

theorem ints_far {W W' : World} {q : Option Addr} {n : Nat} {zs : List Int} {B : Nat} (hh : Ints W q n zs) (hf : ∀ x, q = some x → x.block ≠ B) (ho : ∀ k, k ≠ B → W'.heap[k]? = W.heap[k]?) : Ints W' q n zs := by
  refine ⟨hh.len, hh.max, ?_⟩
  rcases hh.cells with h0 | ⟨b, off, rfl, hc⟩
  · exact .inl h0
  · exact .inr ⟨b, off, rfl, fun i hi => (World.cell?_of_block (w := W) (a := ⟨b, off + i, none⟩) (ho b (hf ⟨b, off, none⟩ rfl))).trans (hc i hi)⟩

theorem set2_ho {W : World} {B : Nat} {u v : Value} (k : Nat) (hk : k ≠ B) : ((W.setCell ⟨B, 0, none⟩ u).setCell ⟨B, 1, none⟩ v).heap[k]? = W.heap[k]? := by
  rw [Below.heap_setCell _ _ _ _ (by show k ≠ B; exact hk), Below.heap_setCell _ _ _ _ (by show k ≠ B; exact hk)]

theorem J2.set {w : World} {f : Int} {a : Option Addr} {l c : Nat} {g : Int} {b : Option Addr} {m d : Nat} {xs ys : List Int} {T base : Nat} {sa : Option Addr} {sn sc : Nat} {F : Int} {Y : List Int} {W : World} {x y : Value} (h : D2 w f a l c g b m d xs ys ((W.setCell ⟨T, 0, none⟩ (.int .i64 F)).setCell ⟨T, 1, none⟩ (.slice sa sn sc))) (hT : TbR base W sa sn Y) (hq : Bx W T [x, y]) (hb : T < base) (h2 : w.heap.size + 2 ≤ W.heap.size) : J2 w f a l c g b m d xs ys T W.heap.size sa sn sc F Y ((W.setCell ⟨T, 0, none⟩ (.int .i64 F)).setCell ⟨T, 1, none⟩ (.slice sa sn sc)) :=
  ⟨h, hq.set2, ints_far hT.ints (fun x hx => by have := (hT.far x hx).1; omega) set2_ho, hq.lt, fun x hx => (hT.far x hx).2, h2, by simp [World.setCell]⟩

theorem new_on {W w' : World} {vs : List Value} {T : TypeId} {n : Nat} (hb : Below (W.alloc (.cells vs.toArray T)).heap.size (W.alloc (.cells vs.toArray T)) w') (hs : n ≤ W.heap.size) : Bx w' W.heap.size vs ∧ W.heap.size < (W.alloc (.cells vs.toArray T)).heap.size ∧ n ≤ W.heap.size ∧ n ≤ w'.heap.size := ⟨(Bx.new W vs T).on hb, (Bx.new W vs T).lt, hs, Nat.le_trans (Nat.le_trans hs (by simp)) hb.size⟩

theorem new_onD {W w' : World} {vs : List Value} {T : TypeId} {n : Nat} (hb : Below (W.alloc (.cells vs.toArray T)).drew.heap.size (W.alloc (.cells vs.toArray T)).drew w') (hs : n ≤ W.heap.size) : Bx w' W.heap.size vs ∧ W.heap.size < (W.alloc (.cells vs.toArray T)).drew.heap.size ∧ n ≤ W.heap.size ∧ n ≤ w'.heap.size := new_on (w' := w') (T := T) ⟨hb.os, hb.tape, hb.output, hb.size, hb.block⟩ hs

theorem old_on {W w' : World} {B : Nat} {vs : List Value} {n : Nat} (hq : Bx W B vs) (hb : Below W.heap.size W w') (hs : n ≤ W.heap.size) : Bx w' B vs ∧ B < W.heap.size ∧ n ≤ w'.heap.size := ⟨hq.on hb, hq.lt, Nat.le_trans hs hb.size⟩

theorem blk_al {W w' : World} {B : Nat} {zs : List Int} {ob : Obj} (h : Hid (Blk W B zs)) (hb : Below (W.alloc ob).heap.size (W.alloc ob) w') : Hid (Blk w' B zs) := Lib.hid ((h.out.alloc ob).step hb)

theorem fresh_new {base : Nat} {sa : Option Addr} {sn sc : Nat} {F : Int} {Y : List Int} {W : World} {ty : TypeId} (hT : TbR base W sa sn Y) : Hid (Bx (W.alloc (.cells #[.int .i64 F, .slice sa sn sc] ty)) W.heap.size [.int .i64 F, .slice sa sn sc]) ∧ Hid (Ints (W.alloc (.cells #[.int .i64 F, .slice sa sn sc] ty)) sa sn Y) :=
  ⟨Lib.hid (Bx.new W _ _), Lib.hid (hT.ints.on (box_b _ _))⟩

theorem fresh_set {T base : Nat} {sa : Option Addr} {sn sc : Nat} {F : Int} {Y : List Int} {W : World} {x y : Value} (hT : TbR base W sa sn Y) (hq : Bx W T [x, y]) (hb : T < base) : Hid (Bx ((W.setCell ⟨T, 0, none⟩ (.int .i64 F)).setCell ⟨T, 1, none⟩ (.slice sa sn sc)) T [.int .i64 F, .slice sa sn sc]) ∧ Hid (Ints ((W.setCell ⟨T, 0, none⟩ (.int .i64 F)).setCell ⟨T, 1, none⟩ (.slice sa sn sc)) sa sn Y) :=
  ⟨Lib.hid hq.set2, Lib.hid (ints_far hT.ints (fun x hx => by have := (hT.far x hx).1; omega) set2_ho)⟩

/-- .. and the copies with which the program is called -/
structure E3 (w : World) (f : Int) (a : Option Addr) (l c : Nat) (g : Int) (b : Option Addr) (m d : Nat) (xs ys : List Int) (T N : Nat) (sa : Option Addr) (sn sc : Nat) (F : Int) (Y : List Int) (P1 P2 B1 B2 : Nat) (W : World) : Prop where
  j2 : J2 w f a l c g b m d xs ys T N sa sn sc F Y W
  p1 : Bx W P1 [.int .i64 f, .slice (some ⟨B1, 0, none⟩) l l]
  p2 : Bx W P2 [.int .i64 g, .slice (some ⟨B2, 0, none⟩) m m]
  b1 : Blk W B1 xs
  b2 : Blk W B2 ys
  o1 : N ≤ B1
  o2 : B1 < P1
  o3 : P1 < B2
  o4 : B2 < P2

theorem E3.on {w : World} {f : Int} {a : Option Addr} {l c : Nat} {g : Int} {b : Option Addr} {m d : Nat} {xs ys : List Int} {T N : Nat} {sa : Option Addr} {sn sc : Nat} {F : Int} {Y : List Int} {P1 P2 B1 B2 : Nat} {W W' : World} (h : E3 w f a l c g b m d xs ys T N sa sn sc F Y P1 P2 B1 B2 W) (hb : Below W.heap.size W W') : E3 w f a l c g b m d xs ys T N sa sn sc F Y P1 P2 B1 B2 W' := ⟨h.j2.on hb, h.p1.on hb, h.p2.on hb, h.b1.step hb, h.b2.step hb, h.o1, h.o2, h.o3, h.o4⟩

theorem e3S {w : World} {f : Int} {a : Option Addr} {l c : Nat} {g : Int} {b : Option Addr} {m d : Nat} {xs ys : List Int} {T N : Nat} {sa : Option Addr} {sn sc : Nat} {F : Int} {Y : List Int} {P1 P2 B1 B2 : Nat} {W : World} (h : E3 w f a l c g b m d xs ys T N sa sn sc F Y P1 P2 B1 B2 W) :
    W.cell? ⟨P1, 0, none⟩ = some (.int .i64 f) ∧ W.cell? ⟨P1, 1, none⟩ = some (.slice (some ⟨B1, 0, none⟩) l l) ∧ W.cell? ⟨P2, 0, none⟩ = some (.int .i64 g) ∧ W.cell? ⟨P2, 1, none⟩ = some (.slice (some ⟨B2, 0, none⟩) m m) := ⟨h.p1.two.1, h.p1.two.2, h.p2.two.1, h.p2.two.2⟩

/-- .. and what the program has handed over -/
structure K5 (w : World) (f : Int) (a : Option Addr) (l c : Nat) (g : Int) (b : Option Addr) (m d : Nat) (xs ys : List Int) (T N : Nat) (sa : Option Addr) (sn sc : Nat) (F : Int) (Y : List Int) (X base : Nat) (ga : Option Addr) (gn gc : Nat) (Z : List Int) (W : World) : Prop where
  j2 : J2 w f a l c g b m d xs ys T N sa sn sc F Y W
  tt : Bx W X [.int .i64 F, .slice ga gn gc]
  gi : TbR base W ga gn Z
  og : N < base
  oX : base ≤ X
  fg : ∀ x, ga = some x → x.block < X

theorem K5.on {w : World} {f : Int} {a : Option Addr} {l c : Nat} {g : Int} {b : Option Addr} {m d : Nat} {xs ys : List Int} {T N : Nat} {sa : Option Addr} {sn sc : Nat} {F : Int} {Y : List Int} {X base : Nat} {ga : Option Addr} {gn gc : Nat} {Z : List Int} {W W' : World} (h : K5 w f a l c g b m d xs ys T N sa sn sc F Y X base ga gn gc Z W) (hb : Below W.heap.size W W') : K5 w f a l c g b m d xs ys T N sa sn sc F Y X base ga gn gc Z W' := ⟨h.j2.on hb, h.tt.on hb, h.gi.on hb, h.og, h.oX, h.fg⟩

theorem TbR.butA {base n : Nat} {W W' : World} {q : Option Addr} {a : Option Addr} {ys : List Int} (h : TbR base W a n ys) (hba : ButA q W W') (hq : ∀ x, q = some x → x.block < base) : TbR base W' a n ys := by
  obtain ⟨h1, h2, h3 | ⟨g, off, rfl, hb1, hg, hr⟩⟩ := h
  · exact ⟨h1, h2, .inl h3⟩
  · have hk := hba.block g hg (fun x hx => by have := hq x hx; omega)
    exact ⟨h1, h2, .inr ⟨g, off, rfl, hb1, Nat.lt_of_lt_of_le hg hba.size, fun i hi => (World.cell?_of_block (w := W) (a := ⟨g, off + i, none⟩) hk).trans (hr.1 i hi), fun i hi => (World.frozen?_of_block (w := W) (a := ⟨g, off + i, none⟩) hk).trans (hr.2 i hi)⟩⟩

/-- a mark on what the program was called with -/
theorem K5.butB {w : World} {f : Int} {a : Option Addr} {l c : Nat} {g : Int} {b : Option Addr} {m d : Nat} {xs ys : List Int} {T N : Nat} {sa : Option Addr} {sn sc : Nat} {F : Int} {Y : List Int} {X base : Nat} {ga : Option Addr} {gn gc : Nat} {Z : List Int} {B : Nat} {W W' : World} (h : K5 w f a l c g b m d xs ys T N sa sn sc F Y X base ga gn gc Z W) (hba : ButA (some ⟨B, 0, none⟩) W W') (h1 : N ≤ B) (h2 : B < base) (hX : Ints w a l xs) (hY : Ints w b m ys) : K5 w f a l c g b m d xs ys T N sa sn sc F Y X base ga gn gc Z W' := by
  have oX := h.oX
  have og := h.og
  refine ⟨h.j2.butA hba (fun x hx => ?_) hX hY, h.tt.butA hba (fun x hx => ?_), h.gi.butA hba (fun x hx => ?_), og, oX, h.fg⟩
  all_goals
    cases hx
    simp only
    omega

/-- a mark on what it handed over -/
theorem K5.butG {w : World} {f : Int} {a : Option Addr} {l c : Nat} {g : Int} {b : Option Addr} {m d : Nat} {xs ys : List Int} {T N : Nat} {sa : Option Addr} {sn sc : Nat} {F : Int} {Y : List Int} {X base : Nat} {ga : Option Addr} {gn gc : Nat} {Z : List Int} {Z2 : List Int} {W W' : World} (h : K5 w f a l c g b m d xs ys T N sa sn sc F Y X base ga gn gc Z W) (hba : ButA ga W W') (hm : TbR base W' ga gn Z2) (hX : Ints w a l xs) (hY : Ints w b m ys) : K5 w f a l c g b m d xs ys T N sa sn sc F Y X base ga gn gc Z2 W' := by
  have oX := h.oX
  have og := h.og
  exact ⟨h.j2.butA hba (fun x hx => by have := (hm.far x hx).1; omega) hX hY, h.tt.butA hba (fun x hx => by have := h.fg x hx; omega), hm, og, oX, h.fg⟩

theorem K5.two {w : World} {f : Int} {a : Option Addr} {l c : Nat} {g : Int} {b : Option Addr} {m d : Nat} {xs ys : List Int} {T N : Nat} {sa : Option Addr} {sn sc : Nat} {F : Int} {Y : List Int} {X base : Nat} {ga : Option Addr} {gn gc : Nat} {Z : List Int} {W : World} (h : K5 w f a l c g b m d xs ys T N sa sn sc F Y X base ga gn gc Z W) : X + 1 ≤ W.heap.size := h.tt.lt

theorem K5.set2 {w : World} {f : Int} {a : Option Addr} {l c : Nat} {g : Int} {b : Option Addr} {m d : Nat} {xs ys : List Int} {T N : Nat} {sa : Option Addr} {sn sc : Nat} {F : Int} {Y : List Int} {X base : Nat} {ga : Option Addr} {gn gc : Nat} {Z : List Int} {W : World} {B : Nat} {x y u v : Value} (h : K5 w f a l c g b m d xs ys T N sa sn sc F Y X base ga gn gc Z W) (hq : Bx W B [x, y]) (hB : X < B) (hX : Ints w a l xs) (hY : Ints w b m ys) : K5 w f a l c g b m d xs ys T N sa sn sc F Y X base ga gn gc Z ((W.setCell ⟨B, 0, none⟩ u).setCell ⟨B, 1, none⟩ v) := by
  have oX := h.oX
  have og := h.og
  have oN := h.j2.oN
  have oT := h.j2.oT
  have hl : Below B W ((W.setCell ⟨B, 0, none⟩ u).setCell ⟨B, 1, none⟩ v) := ((Below.refl B W).setCell (p := ⟨B, 0, none⟩) (Nat.le_refl _) _).setCell (p := ⟨B, 1, none⟩) (Nat.le_refl _) _
  have hba : ButA (some ⟨B, 0, none⟩) W ((W.setCell ⟨B, 0, none⟩ u).setCell ⟨B, 1, none⟩ v) := ⟨hl.os, hl.tape, hl.output, hl.size, fun k _ hk => set2_ho k (fun e => hk _ rfl e.symm)⟩
  refine ⟨h.j2.butA hba (fun x hx => ?_) hX hY, h.tt.butA hba (fun x hx => ?_), ?_, og, oX, h.fg⟩
  · cases hx; simp only; omega
  · cases hx; simp only; omega
  · obtain ⟨h1, h2, h3 | ⟨g, off, rfl, hb1, hg, hr⟩⟩ := h.gi
    · exact ⟨h1, h2, .inl h3⟩
    · have hne : g ≠ B := by have := h.fg _ rfl; have : g < X := this; omega
      have hk := set2_ho (W := W) (u := u) (v := v) g hne
      exact ⟨h1, h2, .inr ⟨g, off, rfl, hb1, Nat.lt_of_lt_of_le hg hl.size, fun i hi => (World.cell?_of_block (w := W) (a := ⟨g, off + i, none⟩) hk).trans (hr.1 i hi), fun i hi => (World.frozen?_of_block (w := W) (a := ⟨g, off + i, none⟩) hk).trans (hr.2 i hi)⟩⟩

structure E5 (w : World) (f : Int) (a : Option Addr) (l c : Nat) (g : Int) (b : Option Addr) (m d : Nat) (xs ys : List Int) (T N : Nat) (sa : Option Addr) (sn sc : Nat) (F : Int) (Y : List Int) (X base : Nat) (ga : Option Addr) (gn gc : Nat) (Z : List Int) (P1 P2 B1 B2 : Nat) (W : World) : Prop where
  e3 : E3 w f a l c g b m d xs ys T N sa sn sc F Y P1 P2 B1 B2 W
  k5 : K5 w f a l c g b m d xs ys T N sa sn sc F Y X base ga gn gc Z W
  o5 : P2 < base

theorem E5.on {w : World} {f : Int} {a : Option Addr} {l c : Nat} {g : Int} {b : Option Addr} {m d : Nat} {xs ys : List Int} {T N : Nat} {sa : Option Addr} {sn sc : Nat} {F : Int} {Y : List Int} {X base : Nat} {ga : Option Addr} {gn gc : Nat} {Z : List Int} {P1 P2 B1 B2 : Nat} {W W' : World} (h : E5 w f a l c g b m d xs ys T N sa sn sc F Y X base ga gn gc Z P1 P2 B1 B2 W) (hb : Below W.heap.size W W') : E5 w f a l c g b m d xs ys T N sa sn sc F Y X base ga gn gc Z P1 P2 B1 B2 W' := ⟨h.e3.on hb, h.k5.on hb, h.o5⟩

theorem e5S {w : World} {f : Int} {a : Option Addr} {l c : Nat} {g : Int} {b : Option Addr} {m d : Nat} {xs ys : List Int} {T N : Nat} {sa : Option Addr} {sn sc : Nat} {F : Int} {Y : List Int} {X base : Nat} {ga : Option Addr} {gn gc : Nat} {Z : List Int} {P1 P2 B1 B2 : Nat} {W : World} (h : E5 w f a l c g b m d xs ys T N sa sn sc F Y X base ga gn gc Z P1 P2 B1 B2 W) :
    W.cell? ⟨w.heap.size, 0, none⟩ = some (.int .i64 f) ∧ W.cell? ⟨w.heap.size, 1, none⟩ = some (.slice a l c) ∧ W.cell? ⟨w.heap.size + 1, 0, none⟩ = some (.int .i64 g) ∧ W.cell? ⟨w.heap.size + 1, 1, none⟩ = some (.slice b m d) ∧ W.cell? ⟨P1, 0, none⟩ = some (.int .i64 f) ∧ W.cell? ⟨P1, 1, none⟩ = some (.slice (some ⟨B1, 0, none⟩) l l) ∧ W.cell? ⟨P2, 0, none⟩ = some (.int .i64 g) ∧ W.cell? ⟨P2, 1, none⟩ = some (.slice (some ⟨B2, 0, none⟩) m m) ∧ Hid (E5 w f a l c g b m d xs ys T N sa sn sc F Y X base ga gn gc Z P1 P2 B1 B2 W) :=
  ⟨h.k5.j2.d2.k2.t0, h.k5.j2.d2.k2.t1, h.k5.j2.d2.k2.u0, h.k5.j2.d2.k2.u1, h.e3.p1.two.1, h.e3.p1.two.2, h.e3.p2.two.1, h.e3.p2.two.2, Lib.hid h⟩

theorem k5S {w : World} {f : Int} {a : Option Addr} {l c : Nat} {g : Int} {b : Option Addr} {m d : Nat} {xs ys : List Int} {T N : Nat} {sa : Option Addr} {sn sc : Nat} {F : Int} {Y : List Int} {X base : Nat} {ga : Option Addr} {gn gc : Nat} {Z : List Int} {W : World} (h : K5 w f a l c g b m d xs ys T N sa sn sc F Y X base ga gn gc Z W) :
    W.cell? ⟨w.heap.size, 0, none⟩ = some (.int .i64 f) ∧ W.cell? ⟨w.heap.size, 1, none⟩ = some (.slice a l c) ∧ W.cell? ⟨w.heap.size + 1, 0, none⟩ = some (.int .i64 g) ∧ W.cell? ⟨w.heap.size + 1, 1, none⟩ = some (.slice b m d) ∧ Hid (K5 w f a l c g b m d xs ys T N sa sn sc F Y X base ga gn gc Z W) :=
  ⟨h.j2.d2.k2.t0, h.j2.d2.k2.t1, h.j2.d2.k2.u0, h.j2.d2.k2.u1, Lib.hid h⟩

theorem k5C {w : World} {f : Int} {a : Option Addr} {l c : Nat} {g : Int} {b : Option Addr} {m d : Nat} {xs ys : List Int} {T N : Nat} {sa : Option Addr} {sn sc : Nat} {F : Int} {Y : List Int} {X base : Nat} {ga : Option Addr} {gn gc : Nat} {Z : List Int} {W : World} (h : K5 w f a l c g b m d xs ys T N sa sn sc F Y X base ga gn gc Z W) :
    W.cell? ⟨T, 0, none⟩ = some (.int .i64 F) ∧ W.cell? ⟨T, 1, none⟩ = some (.slice sa sn sc) ∧ W.cell? ⟨X, 0, none⟩ = some (.int .i64 F) ∧ W.cell? ⟨X, 1, none⟩ = some (.slice ga gn gc) :=
  ⟨h.j2.t.two.1, h.j2.t.two.2, h.tt.two.1, h.tt.two.2⟩

set_option maxHeartbeats 16000000 in
theorem fnExactJointTable_walk (f0 : Int) (a0 : Option Addr) (len0 cap0 : Nat) (z0 : List Int) (a1 : Int) (f2 : Int) (a2 : Option Addr) (len2 cap2 : Nat) (z2 : List Int) (a3 : Int) (w : World) (w0 : IsRow .i64 w a0 len0 cap0 z0) (w1 : (Lit.int .i64 a1).wf = true) (w2 : IsRow .i64 w a2 len2 cap2 z2) (w3 : (Lit.int .i64 a3).wf = true) :
    Calls Try.prog 4 #[.agg #[.int .i64 f0, .slice a0 len0 cap0], .int .i64 a1, .agg #[.int .i64 f2, .slice a2 len2 cap2], .int .i64 a3] w fun e w' => e = .returned (.bool true) ∧ Below w.heap.size w w' := by
  have hmx := w0.len_le
  have hmx2 := w2.len_le
  unfold maxLen at hmx hmx2
  have HK : Hid (K2 w f0 (.slice a0 len0 cap0) f2 (.slice a2 len2 cap2) ((w.alloc (.cells #[.int .i64 f0, .slice a0 len0 cap0] 39)).alloc (.cells #[.int .i64 f2, .slice a2 len2 cap2] 39))) := Lib.hid (K2.new _ _ _ _ _ _ _)
  by_cases hbig : (1048576 : Int) < len0
  · go_enter Try.func4, Try.ntmps4
    go_wp2_with fail
    refine (szT_big2 _ _ _ _ _ _ (by omega) (by omega) (by omega) hbig).mono ?_
    rintro e w1 ⟨rfl, hb⟩
    have HK := Lib.hid (HK.out.on hb)
    clear hb
    go_wp2_with fail
    go_ret
    exact ⟨rfl, HK.out.low⟩
  by_cases hbig2 : (1048576 : Int) - len0 < len2
  · go_enter Try.func4, Try.ntmps4
    go_wp2_with fail
    refine (szT_fit2 _ _ _ _ _ _ (by omega) (by omega) (by omega)).mono ?_
    rintro e w1 ⟨rfl, hb⟩
    have HK := Lib.hid (HK.out.on hb)
    obtain ⟨k0, k1, k2, k3, _⟩ := HK.out
    clear hb
    go_wp2_with fail
    refine (szT_big2 _ _ _ _ _ _ (by omega) (by omega) (by omega) hbig2).mono ?_
    rintro e w2 ⟨rfl, hb⟩
    have HK := Lib.hid (HK.out.on hb)
    clear hb
    go_wp2_with fail
    go_ret
    exact ⟨rfl, HK.out.low⟩
  have h0 := w0.ints (by omega)
  have h2 := w2.ints (by omega)
  obtain ⟨xs, hxs⟩ : ∃ xs, z0.take len0 = xs := ⟨_, rfl⟩
  obtain ⟨ys, hys⟩ : ∃ ys, z2.take len2 = ys := ⟨_, rfl⟩
  rw [hxs] at h0
  rw [hys] at h2
  have HL := Lib.hid h0.len
  have HL2 := Lib.hid h2.len
  have HD : Hid (D2 w f0 a0 len0 cap0 f2 a2 len2 cap2 xs ys ((w.alloc (.cells #[.int .i64 f0, .slice a0 len0 cap0] 39)).alloc (.cells #[.int .i64 f2, .slice a2 len2 cap2] 39))) := Lib.hid ⟨HK.out, h0.on ((box_b _ _).trans ((box_b _ _).mono (by simp))), h2.on ((box_b _ _).trans ((box_b _ _).mono (by simp)))⟩
  have hfit : (len0 : Int) ≤ 1048576 := by omega
  have hfit2 : (len2 : Int) ≤ 1048576 - len0 := by omega
  have HX := Lib.hid h0
  have HY := Lib.hid h2
  clear h0 h2 w0 w1 w2 w3 hxs hys hbig hbig2 hmx hmx2 HK
  obtain ⟨F, hF⟩ : ∃ F, jtF f0 xs a1 f2 ys a3 = F := ⟨_, rfl⟩
  obtain ⟨Y, hY⟩ : ∃ Y, jtY f0 xs a1 f2 ys a3 = Y := ⟨_, rfl⟩
  obtain ⟨E, hE⟩ : ∃ E, twE f0 xs a1 f2 ys a3 true = E := ⟨_, rfl⟩
  have CS : Hid (∀ W b1 b2 c1 c2, Hid (Blk W b1 xs) → Hid (Blk W b2 ys) → Calls Try.prog 14 #[.agg #[.int .i64 f0, .slice (some ⟨b1, 0, none⟩) len0 c1], .int .i64 a1, .agg #[.int .i64 f2, .slice (some ⟨b2, 0, none⟩) len2 c2], .int .i64 a3] W (TbPost F Y E W)) :=
    Lib.hid (fun W b1 b2 c1 c2 hk hj => by have := sjt_any f0 xs (some ⟨b1, 0, none⟩) len0 c1 a1 f2 ys (some ⟨b2, 0, none⟩) len2 c2 a3 W (hk.out.ints HL.out (by omega)) (hj.out.ints HL2.out (by omega)); rw [hF, hY, hE] at this; exact this)
  have CI : Hid (∀ W b1 b2, Hid (Blk W b1 xs) → Hid (Blk W b2 ys) → Calls Try.prog 13 #[.agg #[.int .i64 f0, .slice (some ⟨b1, 0, none⟩) len0 len0], .int .i64 a1, .agg #[.int .i64 f2, .slice (some ⟨b2, 0, none⟩) len2 len2], .int .i64 a3] W (TbPost F Y E W)) :=
    Lib.hid (fun W b1 b2 hk hj => by have := ijt_any f0 xs (some ⟨b1, 0, none⟩) len0 len0 a1 f2 ys (some ⟨b2, 0, none⟩) len2 len2 a3 W (hk.out.ints HL.out (by omega)) (hj.out.ints HL2.out (by omega)) (Nat.le_refl _) (Nat.le_refl _); rw [show jpF f0 xs a1 f2 ys a3 = F from hF, show jpY f0 xs a1 f2 ys a3 = Y from hY, hE] at this; exact this.mono fun _ _ h => h.tb)
  clear hF hY hE
  unfold TbPost at CS CI
  have TX : Hid (∀ W, Hid (D2 w f0 a0 len0 cap0 f2 a2 len2 cap2 xs ys W) → Calls Try.prog 24 #[.agg #[.int .i64 f0, .slice a0 len0 cap0]] W (ToPost W f0 xs len0)) := Lib.hid (fun W hW => toT_any f0 xs _ _ _ W hW.out.xx (by omega))
  have TY : Hid (∀ W, Hid (D2 w f0 a0 len0 cap0 f2 a2 len2 cap2 xs ys W) → Calls Try.prog 24 #[.agg #[.int .i64 f2, .slice a2 len2 cap2]] W (ToPost W f2 ys len2)) := Lib.hid (fun W hW => toT_any f2 ys _ _ _ W hW.out.yy (by omega))
  have EX : Hid (∀ W b1 b2, Hid (Blk W b1 xs) → Hid (Blk W b2 xs) → Calls Try.prog 25 #[.agg #[.int .i64 f0, .slice (some ⟨b1, 0, none⟩) len0 len0], .agg #[.int .i64 f0, .slice (some ⟨b2, 0, none⟩) len0 len0]] W fun e w' => e = .returned (.bool true) ∧ Below W.heap.size W w') := Lib.hid (fun W b1 b2 hW hV => eqT_same f0 xs _ _ _ _ _ _ W (hW.out.ints HL.out (by omega)) (hV.out.ints HL.out (by omega)))
  have EY : Hid (∀ W b1 b2, Hid (Blk W b1 ys) → Hid (Blk W b2 ys) → Calls Try.prog 25 #[.agg #[.int .i64 f2, .slice (some ⟨b1, 0, none⟩) len2 len2], .agg #[.int .i64 f2, .slice (some ⟨b2, 0, none⟩) len2 len2]] W fun e w' => e = .returned (.bool true) ∧ Below W.heap.size W w') := Lib.hid (fun W b1 b2 hW hV => eqT_same f2 ys _ _ _ _ _ _ W (hW.out.ints HL2.out (by omega)) (hV.out.ints HL2.out (by omega)))
  go_enter Try.func4, Try.ntmps4
  go_wp2_with fail
  refine (szT_fit2 _ _ _ _ _ _ (by omega) (by omega) hfit).mono ?_
  rintro e w1 ⟨rfl, hb⟩
  have HD := Lib.hid (HD.out.on hb)
  obtain ⟨k0, k1, k2, k3, _⟩ := HD.out.k2
  clear hb
  go_wp2_with fail
  refine (szT_fit2 _ _ _ _ _ _ (by omega) (by omega) hfit2).mono ?_
  rintro e w2 ⟨rfl, hb⟩
  have HD := Lib.hid (HD.out.on hb)
  clear hb k0 k1 k2 k3
  go_upto_region 8 with fail
  go_cut [10, 11] from 31 to 40 (fun p q wx => ∃ T N sa sn sc, p = .pointer (some ⟨T, 0, none⟩) ∧ q = .int .i64 E ∧ Hid (J2 w f0 a0 len0 cap0 f2 a2 len2 cap2 xs ys T N sa sn sc F Y wx))
  case first =>
    obtain ⟨k0, k1, k2, k3, _⟩ := HD.out.k2
    have hsz : w.heap.size + 2 ≤ w2.drew.heap.size := HD.out.two
    have hszD : w.heap.size + 2 ≤ w2.heap.size := HD.out.two
    have hq := True.intro
    have hTb := True.intro
    have hsT := True.intro
    go_region_held3 (fun w' => w'.cell? ⟨w.heap.size, 0, none⟩ = some (.int .i64 f0) ∧ w'.cell? ⟨w.heap.size, 1, none⟩ = some (.slice a0 len0 cap0) ∧ w'.cell? ⟨w.heap.size + 1, 0, none⟩ = some (.int .i64 f2) ∧ w'.cell? ⟨w.heap.size + 1, 1, none⟩ = some (.slice a2 len2 cap2) ∧ Hid (D2 w f0 a0 len0 cap0 f2 a2 len2 cap2 xs ys w'))
          (first
            | (go_split_ands; exact d2S (Hid.out (by with_reducible assumption)))
            | (go_split_ands; exact d2S (D2.on (Hid.out (by with_reducible assumption)) hb))
            | (go_split_ands; exact d2S (D2.on (Hid.out (by with_reducible assumption)) (Below.drew (Below.refl _ _))))
            | (go_split_ands; exact d2S (D2.on (Hid.out (by with_reducible assumption)) (box_b _ _)))
            | (go_split_ands; exact d2S (D2.set2 (Hid.out (by with_reducible assumption)) hsT HX.out HY.out))
            | fail)
          (first
            | (go_split_ands; go_at_call 24; ((with_reducible refine (TX.out _ (by with_reducible assumption)).mono ?_); rintro e w' ⟨B1, rfl, hg1, hk1, hb⟩; have HC1 := Lib.hid hk1; (first | ((with_reducible have hr := new_onD hb hszD); obtain ⟨hq, hTb, hsT, hsz⟩ := hr; obtain ⟨n0, n1⟩ := hq.two; have m0 := hq.free 0; have m1 := hq.free 1) | ((with_reducible have hr := new_on hb hsz); obtain ⟨hq, hTb, hsT, hsz⟩ := hr; obtain ⟨n0, n1⟩ := hq.two; have m0 := hq.free 0; have m1 := hq.free 1) | ((with_reducible have hr := old_on hq hb hsz); obtain ⟨hq, hTb, hsz⟩ := hr; clear n0 n1 m0 m1; obtain ⟨n0, n1⟩ := hq.two; have m0 := hq.free 0; have m1 := hq.free 1) | (have hsz := Nat.le_trans hsz hb.size)); clear hk1 hg1))
            | (go_split_ands; go_at_call 24; ((with_reducible refine (TY.out _ (by with_reducible assumption)).mono ?_); rintro e w' ⟨B2, rfl, hg2, hk2, hb⟩; (first | (have HC1 := Lib.hid (HC1.out.step hb)) | (have HC1 := blk_al HC1 hb)); have HC2 := Lib.hid hk2; (first | ((with_reducible have hr := new_onD hb hszD); obtain ⟨hq, hTb, hsT, hsz⟩ := hr; obtain ⟨n0, n1⟩ := hq.two; have m0 := hq.free 0; have m1 := hq.free 1) | ((with_reducible have hr := new_on hb hsz); obtain ⟨hq, hTb, hsT, hsz⟩ := hr; obtain ⟨n0, n1⟩ := hq.two; have m0 := hq.free 0; have m1 := hq.free 1) | ((with_reducible have hr := old_on hq hb hsz); obtain ⟨hq, hTb, hsz⟩ := hr; clear n0 n1 m0 m1; obtain ⟨n0, n1⟩ := hq.two; have m0 := hq.free 0; have m1 := hq.free 1) | (have hsz := Nat.le_trans hsz hb.size)); clear hk2 hg2))
            | (go_split_ands; go_at_call 14; (first | (with_reducible refine (CS.out _ _ _ _ _ HC1 HC2).mono ?_) | (with_reducible refine (CS.out _ _ _ _ _ (Lib.hid (HC1.out.alloc _)) (Lib.hid (HC2.out.alloc _))).mono ?_)); (rintro e w' ⟨sa, sn, sc, rfl, hT, hb⟩; have HSp := Lib.hid (D2.on (Hid.out (by with_reducible assumption)) hb); (first | ((with_reducible have hr := new_onD hb hszD); obtain ⟨hq, hTb, hsT, hsz⟩ := hr; obtain ⟨n0, n1⟩ := hq.two; have m0 := hq.free 0; have m1 := hq.free 1) | ((with_reducible have hr := new_on hb hsz); obtain ⟨hq, hTb, hsT, hsz⟩ := hr; obtain ⟨n0, n1⟩ := hq.two; have m0 := hq.free 0; have m1 := hq.free 1) | ((with_reducible have hr := old_on hq hb hsz); obtain ⟨hq, hTb, hsz⟩ := hr; clear n0 n1 m0 m1; obtain ⟨n0, n1⟩ := hq.two; have m0 := hq.free 0; have m1 := hq.free 1) | (have hsz := Nat.le_trans hsz hb.size))))
            | fail)
    all_goals
      go_split_ands
      have HD : Hid (D2 w f0 a0 len0 cap0 f2 a2 len2 cap2 xs ys _) := (by with_reducible assumption)
      go_wp2_with fail
      go_meet
      case rel =>
        first
          | exact ⟨_, _, _, _, _, rfl, rfl, Lib.hid (J2.new HD.out hT hsz)⟩
          | exact ⟨_, _, _, _, _, rfl, rfl, Lib.hid (J2.set HD.out hT hq hTb hsz)⟩
  case rest =>
    obtain ⟨T, N, sa, sn, sc, rfl, rfl, HJ⟩ := hcut
    clear HD
    have TXJ : Hid (∀ W, Hid (J2 w f0 a0 len0 cap0 f2 a2 len2 cap2 xs ys T N sa sn sc F Y W) → Calls Try.prog 24 #[.agg #[.int .i64 f0, .slice a0 len0 cap0]] W (ToPost W f0 xs len0)) := Lib.hid (fun W hW => TX.out W (Lib.hid hW.out.d2))
    have TYJ : Hid (∀ W, Hid (J2 w f0 a0 len0 cap0 f2 a2 len2 cap2 xs ys T N sa sn sc F Y W) → Calls Try.prog 24 #[.agg #[.int .i64 f2, .slice a2 len2 cap2]] W (ToPost W f2 ys len2)) := Lib.hid (fun W hW => TY.out W (Lib.hid hW.out.d2))
    obtain ⟨k0, k1, k2, k3, _⟩ := HJ.out.d2.k2
    go_wp2_with fail
    with_reducible refine (TXJ.out _ HJ).mono ?_
    rintro e w4 ⟨B1, rfl, hg1, hk1, hb⟩
    have hbx := box_b w4 (.cells #[.int .i64 f0, .slice (some ⟨B1, 0, none⟩) len0 len0] 26)
    have hp1 : Bx (w4.alloc (.cells #[.int .i64 f0, .slice (some ⟨B1, 0, none⟩) len0 len0] 26)) w4.heap.size [.int .i64 f0, .slice (some ⟨B1, 0, none⟩) len0 len0] := Bx.new w4 _ _
    have o1 : N ≤ B1 := Nat.le_trans HJ.out.sz hg1
    have o2 := hk1.lt
    have HJ := Lib.hid ((HJ.out.on hb).on hbx)
    have HB1 := Lib.hid (hk1.step hbx)
    obtain ⟨P1, hP1⟩ : ∃ y_, w4.heap.size = y_ := ⟨_, rfl⟩
    rw [hP1] at hp1 o2
    have hz := hp1.lt
    clear hb hbx hk1 hg1 k0 k1 k2 k3
    obtain ⟨k0, k1, k2, k3, _⟩ := HJ.out.d2.k2
    go_wp2_with fail
    (try rw [hP1])
    generalize (w4.alloc (.cells #[.int .i64 f0, .slice (some ⟨B1, 0, none⟩) len0 len0] 26)) = v4 at HJ HB1 hp1 hz k0 k1 k2 k3 ⊢
    clear hP1
    with_reducible refine (TYJ.out _ HJ).mono ?_
    rintro e w5 ⟨B2, rfl, hg2, hk2, hb⟩
    have hbx := box_b w5 (.cells #[.int .i64 f2, .slice (some ⟨B2, 0, none⟩) len2 len2] 26)
    have hp2 : Bx (w5.alloc (.cells #[.int .i64 f2, .slice (some ⟨B2, 0, none⟩) len2 len2] 26)) w5.heap.size [.int .i64 f2, .slice (some ⟨B2, 0, none⟩) len2 len2] := Bx.new w5 _ _
    have HE : Hid (E3 w f0 a0 len0 cap0 f2 a2 len2 cap2 xs ys T N sa sn sc F Y P1 w5.heap.size B1 B2 (w5.alloc (.cells #[.int .i64 f2, .slice (some ⟨B2, 0, none⟩) len2 len2] 26))) := Lib.hid ⟨(HJ.out.on hb).on hbx, (hp1.on hb).on hbx, hp2, (HB1.out.step hb).step hbx, hk2.step hbx, o1, o2, by omega, hk2.lt⟩
    obtain ⟨P2, hP2⟩ : ∃ y_, w5.heap.size = y_ := ⟨_, rfl⟩
    rw [hP2] at HE
    clear hb hbx hk2 hg2 hp1 hp2 HJ HB1 k0 k1 k2 k3 hz o1 o2
    obtain ⟨k4, k5, k6, k7⟩ := e3S HE.out
    go_wp2_with fail
    (try rw [hP2])
    generalize (w5.alloc (.cells #[.int .i64 f2, .slice (some ⟨B2, 0, none⟩) len2 len2] 26)) = v5 at HE k4 k5 k6 k7 ⊢
    clear hP2
    with_reducible refine (CI.out _ _ _ (Lib.hid HE.out.b1) (Lib.hid HE.out.b2)).mono ?_
    rintro e w6 ⟨ga, gn, gc, rfl, hT, hb⟩
    have hbx := box_b w6 (.cells #[.int .i64 F, .slice ga gn gc] 26)
    have HG : Hid (E5 w f0 a0 len0 cap0 f2 a2 len2 cap2 xs ys T N sa sn sc F Y w6.heap.size v5.heap.size ga gn gc Y P1 P2 B1 B2 (w6.alloc (.cells #[.int .i64 F, .slice ga gn gc] 26))) := Lib.hid (by
      have q1 := HE.out.o1
      have q2 := HE.out.o2
      have q3 := HE.out.o3
      have q4 := HE.out.o4
      have q5 := HE.out.p2.lt
      have hE := (HE.out.on hb).on hbx
      exact ⟨hE, ⟨hE.j2, Bx.new w6 _ _, hT.on hbx, by omega, hb.size, fun x hx => (hT.far x hx).2⟩, by omega⟩)
    obtain ⟨base, hbase⟩ : ∃ y_, v5.heap.size = y_ := ⟨_, rfl⟩
    obtain ⟨X, hX⟩ : ∃ y_, w6.heap.size = y_ := ⟨_, rfl⟩
    rw [hX, hbase] at HG
    clear hb hbx hT HE k4 k5 k6 k7 hbase
    obtain ⟨t0, t1, x0, x1⟩ := k5C HG.out.k5
    go_wp2_with fail
    (try rw [hX])
    generalize (w6.alloc (.cells #[.int .i64 F, .slice ga gn gc] 26)) = v6 at HG t0 t1 x0 x1 ⊢
    clear hX
    refine (eqT_tb F Y _ _ _ _ _ _ _ HG.out.k5.gi.ints HG.out.k5.j2.ti).mono ?_
    rintro e w7 ⟨rfl, hb⟩
    have HG := Lib.hid (HG.out.on hb)
    clear hb t0 t1 x0 x1 TXJ TYJ
    have TX2 : Hid (∀ W, Hid (E5 w f0 a0 len0 cap0 f2 a2 len2 cap2 xs ys T N sa sn sc F Y X base ga gn gc Y P1 P2 B1 B2 W) → Calls Try.prog 24 #[.agg #[.int .i64 f0, .slice a0 len0 cap0]] W (ToPost W f0 xs len0)) := Lib.hid (fun W hW => TX.out W (Lib.hid hW.out.k5.j2.d2))
    have TY2 : Hid (∀ W, Hid (E5 w f0 a0 len0 cap0 f2 a2 len2 cap2 xs ys T N sa sn sc F Y X base ga gn gc Y P1 P2 B1 B2 W) → Calls Try.prog 24 #[.agg #[.int .i64 f2, .slice a2 len2 cap2]] W (ToPost W f2 ys len2)) := Lib.hid (fun W hW => TY.out W (Lib.hid hW.out.k5.j2.d2))
    have EX2 : Hid (∀ W b2, Hid (E5 w f0 a0 len0 cap0 f2 a2 len2 cap2 xs ys T N sa sn sc F Y X base ga gn gc Y P1 P2 B1 B2 W) → Hid (Blk W b2 xs) → Calls Try.prog 25 #[.agg #[.int .i64 f0, .slice (some ⟨B1, 0, none⟩) len0 len0], .agg #[.int .i64 f0, .slice (some ⟨b2, 0, none⟩) len0 len0]] W fun e w' => e = .returned (.bool true) ∧ Below W.heap.size W w') := Lib.hid (fun W b2 hW hb => EX.out W B1 b2 (Lib.hid hW.out.e3.b1) hb)
    have EY2 : Hid (∀ W b2, Hid (E5 w f0 a0 len0 cap0 f2 a2 len2 cap2 xs ys T N sa sn sc F Y X base ga gn gc Y P1 P2 B1 B2 W) → Hid (Blk W b2 ys) → Calls Try.prog 25 #[.agg #[.int .i64 f2, .slice (some ⟨B2, 0, none⟩) len2 len2], .agg #[.int .i64 f2, .slice (some ⟨b2, 0, none⟩) len2 len2]] W fun e w' => e = .returned (.bool true) ∧ Below W.heap.size W w') := Lib.hid (fun W b2 hW hb => EY.out W B2 b2 (Lib.hid hW.out.e3.b2) hb)
    go_wp2_with fail
    go_region_held3 (fun w' => w'.cell? ⟨w.heap.size, 0, none⟩ = some (.int .i64 f0) ∧ w'.cell? ⟨w.heap.size, 1, none⟩ = some (.slice a0 len0 cap0) ∧ w'.cell? ⟨w.heap.size + 1, 0, none⟩ = some (.int .i64 f2) ∧ w'.cell? ⟨w.heap.size + 1, 1, none⟩ = some (.slice a2 len2 cap2) ∧ w'.cell? ⟨P1, 0, none⟩ = some (.int .i64 f0) ∧ w'.cell? ⟨P1, 1, none⟩ = some (.slice (some ⟨B1, 0, none⟩) len0 len0) ∧ w'.cell? ⟨P2, 0, none⟩ = some (.int .i64 f2) ∧ w'.cell? ⟨P2, 1, none⟩ = some (.slice (some ⟨B2, 0, none⟩) len2 len2) ∧ Hid (E5 w f0 a0 len0 cap0 f2 a2 len2 cap2 xs ys T N sa sn sc F Y X base ga gn gc Y P1 P2 B1 B2 w')) (first
        | (go_split_ands; exact e5S (Hid.out (by with_reducible assumption)))
        | (go_split_ands; exact e5S (E5.on (Hid.out (by with_reducible assumption)) hb))
        | (go_split_ands; exact e5S (E5.on (Hid.out (by with_reducible assumption)) (Below.drew (Below.refl _ _))))
        | fail)
      (first
        | (go_split_ands; go_at_call 24; ((with_reducible refine (TX2.out _ (by with_reducible assumption)).mono ?_); rintro e w' ⟨B3, rfl, hg3, hk3, hb⟩; have HK3 := Lib.hid hk3; clear hk3 hg3))
        | (go_split_ands; go_at_call 25; ((with_reducible refine (EX2.out _ _ (by with_reducible assumption) HK3).mono ?_); rintro e w' ⟨rfl, hb⟩))
        | fail)
    all_goals
      go_split_ands
      have HG : Hid (E5 w f0 a0 len0 cap0 f2 a2 len2 cap2 xs ys T N sa sn sc F Y X base ga gn gc Y P1 P2 B1 B2 _) := (by with_reducible assumption)
      go_wp2_with fail
      go_region_held3 (fun w' => w'.cell? ⟨w.heap.size, 0, none⟩ = some (.int .i64 f0) ∧ w'.cell? ⟨w.heap.size, 1, none⟩ = some (.slice a0 len0 cap0) ∧ w'.cell? ⟨w.heap.size + 1, 0, none⟩ = some (.int .i64 f2) ∧ w'.cell? ⟨w.heap.size + 1, 1, none⟩ = some (.slice a2 len2 cap2) ∧ w'.cell? ⟨P1, 0, none⟩ = some (.int .i64 f0) ∧ w'.cell? ⟨P1, 1, none⟩ = some (.slice (some ⟨B1, 0, none⟩) len0 len0) ∧ w'.cell? ⟨P2, 0, none⟩ = some (.int .i64 f2) ∧ w'.cell? ⟨P2, 1, none⟩ = some (.slice (some ⟨B2, 0, none⟩) len2 len2) ∧ Hid (E5 w f0 a0 len0 cap0 f2 a2 len2 cap2 xs ys T N sa sn sc F Y X base ga gn gc Y P1 P2 B1 B2 w')) (first
        | (go_split_ands; exact e5S (Hid.out (by with_reducible assumption)))
        | (go_split_ands; exact e5S (E5.on (Hid.out (by with_reducible assumption)) hb))
        | (go_split_ands; exact e5S (E5.on (Hid.out (by with_reducible assumption)) (Below.drew (Below.refl _ _))))
        | fail)
        (first
          | (go_split_ands; go_at_call 24; ((with_reducible refine (TY2.out _ (by with_reducible assumption)).mono ?_); rintro e w' ⟨B4, rfl, hg3, hk3, hb⟩; have HK4 := Lib.hid hk3; clear hk3 hg3))
          | (go_split_ands; go_at_call 25; ((with_reducible refine (EY2.out _ _ (by with_reducible assumption) HK4).mono ?_); rintro e w' ⟨rfl, hb⟩))
          | fail)
      all_goals
        go_split_ands
        have HG : Hid (E5 w f0 a0 len0 cap0 f2 a2 len2 cap2 xs ys T N sa sn sc F Y X base ga gn gc Y P1 P2 B1 B2 _) := (by with_reducible assumption)
        obtain ⟨_, _, _, _, k4, k5, k6, k7, _⟩ := e5S HG.out
        go_wp2_with fail
        refine (markB_any f0 xs B1 len0 len0 1 _ HG.out.e3.b1 HL.out (by omega) (by omega) (by omega)).mono ?_
        rintro e w10 ⟨rfl, hba⟩
        have o1 := HG.out.e3.o1
        have o2 := HG.out.e3.o2
        have o3 := HG.out.e3.o3
        have o4 := HG.out.e3.o4
        have o5 := HG.out.o5
        have HK : Hid (K5 w f0 a0 len0 cap0 f2 a2 len2 cap2 xs ys T N sa sn sc F Y X base ga gn gc Y w10) := Lib.hid (HG.out.k5.butB hba o1 (by omega) HX.out HY.out)
        have hp2 : Bx w10 P2 [.int .i64 f2, .slice (some ⟨B2, 0, none⟩) len2 len2] := HG.out.e3.p2.butA hba (fun x hx => by cases hx; simp only; omega)
        have HB2 : Hid (Blk w10 B2 ys) := Lib.hid (HG.out.e3.b2.same (hba.block B2 HG.out.e3.b2.lt (fun x hx => by cases hx; simp only; omega)))
        clear hba k4 k5 k6 k7 HG
        obtain ⟨k6, k7⟩ := hp2.two
        go_wp2_with fail
        refine (markB_any f2 ys B2 len2 len2 (1 + len0) _ HB2.out HL2.out (by omega) (by omega) (by omega)).mono ?_
        rintro e w11 ⟨rfl, hba⟩
        have HK : Hid (K5 w f0 a0 len0 cap0 f2 a2 len2 cap2 xs ys T N sa sn sc F Y X base ga gn gc Y w11) := Lib.hid (HK.out.butB hba (by omega) (by omega) HX.out HY.out)
        have hk0 : ¬ (1 : Int) + len0 + len2 < 0 := by omega
        clear hba k6 k7 hp2 HB2 o1 o2 o3 o4 o5
        obtain ⟨t0, t1, x0, x1⟩ := k5C HK.out
        go_wp2_with fail
        refine (eqT_tb F Y _ _ _ _ _ _ _ HK.out.gi.ints HK.out.j2.ti).mono ?_
        rintro e w12 ⟨rfl, hb⟩
        have HK := Lib.hid (HK.out.on hb)
        clear hb t0 t1 x0 x1
        obtain ⟨t0, t1, x0, x1⟩ := k5C HK.out
        go_wp2_with fail
        have hgn : gn ≤ 4096 := HK.out.gi.2.1
        refine (markT_any F Y base ga gn gc 1 _ HK.out.gi (by omega) (by omega)).mono ?_
        rintro e w13 ⟨rfl, hmt, hba⟩
        have HK : Hid (K5 w f0 a0 len0 cap0 f2 a2 len2 cap2 xs ys T N sa sn sc F Y X base ga gn gc (marks 1 gn) w13) := Lib.hid (HK.out.butG hba hmt HX.out HY.out)
        clear hmt hba t0 t1 x0 x1
        obtain ⟨t0, t1, x0, x1⟩ := k5C HK.out
        go_wp2_with fail
        refine (heldT_any F ga gn gc 1 _ HK.out.gi.ints hgn (by omega) (by omega)).mono ?_
        rintro e w14 ⟨rfl, hb⟩
        have HK := Lib.hid (HK.out.on hb)
        have hkp : ¬ (1 : Int) + gn < 0 := by omega
        clear hb t0 t1 x0 x1
        go_upto_region 31 with fail
        have TXK : Hid (∀ W, Hid (K5 w f0 a0 len0 cap0 f2 a2 len2 cap2 xs ys T N sa sn sc F Y X base ga gn gc (marks 1 gn) W) → Calls Try.prog 24 #[.agg #[.int .i64 f0, .slice a0 len0 cap0]] W (ToPost W f0 xs len0)) := Lib.hid (fun W hW => TX.out W (Lib.hid hW.out.j2.d2))
        have TYK : Hid (∀ W, Hid (K5 w f0 a0 len0 cap0 f2 a2 len2 cap2 xs ys T N sa sn sc F Y X base ga gn gc (marks 1 gn) W) → Calls Try.prog 24 #[.agg #[.int .i64 f2, .slice a2 len2 cap2]] W (ToPost W f2 ys len2)) := Lib.hid (fun W hW => TY.out W (Lib.hid hW.out.j2.d2))
        go_cut [19, 20] from 102 to 111 (fun p q wx => ∃ X2 ha hn hc, p = .pointer (some ⟨X2, 0, none⟩) ∧ q = .int .i64 E ∧ Hid (K5 w f0 a0 len0 cap0 f2 a2 len2 cap2 xs ys T N sa sn sc F Y X base ga gn gc (marks 1 gn) wx) ∧ Hid (Bx wx X2 [.int .i64 F, .slice ha hn hc]) ∧ Hid (Ints wx ha hn Y))
        case first =>
          obtain ⟨k0, k1, k2, k3, _⟩ := k5S HK.out
          have hszD : X + 1 ≤ w14.heap.size := HK.out.two
          have hsz : X + 1 ≤ w14.drew.heap.size := hszD
          have hq := True.intro
          have hTb := True.intro
          have hsT := True.intro
          go_region_held3 (fun w' => w'.cell? ⟨w.heap.size, 0, none⟩ = some (.int .i64 f0) ∧ w'.cell? ⟨w.heap.size, 1, none⟩ = some (.slice a0 len0 cap0) ∧ w'.cell? ⟨w.heap.size + 1, 0, none⟩ = some (.int .i64 f2) ∧ w'.cell? ⟨w.heap.size + 1, 1, none⟩ = some (.slice a2 len2 cap2) ∧ Hid (K5 w f0 a0 len0 cap0 f2 a2 len2 cap2 xs ys T N sa sn sc F Y X base ga gn gc (marks 1 gn) w'))
          (first
            | (go_split_ands; exact k5S (Hid.out (by with_reducible assumption)))
            | (go_split_ands; exact k5S (K5.on (Hid.out (by with_reducible assumption)) hb))
            | (go_split_ands; exact k5S (K5.on (Hid.out (by with_reducible assumption)) (Below.drew (Below.refl _ _))))
            | (go_split_ands; exact k5S (K5.on (Hid.out (by with_reducible assumption)) (box_b _ _)))
            | (go_split_ands; exact k5S (K5.set2 (Hid.out (by with_reducible assumption)) hq hsT HX.out HY.out))
            | fail)
          (first
            | (go_split_ands; go_at_call 24; ((with_reducible refine (TXK.out _ (by with_reducible assumption)).mono ?_); rintro e w' ⟨B5, rfl, hg1, hk1, hb⟩; have HC1 := Lib.hid hk1; (first | ((with_reducible have hr := new_onD hb hszD); obtain ⟨hq, hTb, hsT, hsz⟩ := hr; obtain ⟨n0, n1⟩ := hq.two; have m0 := hq.free 0; have m1 := hq.free 1) | ((with_reducible have hr := new_on hb hsz); obtain ⟨hq, hTb, hsT, hsz⟩ := hr; obtain ⟨n0, n1⟩ := hq.two; have m0 := hq.free 0; have m1 := hq.free 1) | ((with_reducible have hr := old_on hq hb hsz); obtain ⟨hq, hTb, hsz⟩ := hr; clear n0 n1 m0 m1; obtain ⟨n0, n1⟩ := hq.two; have m0 := hq.free 0; have m1 := hq.free 1) | (have hsz := Nat.le_trans hsz hb.size)); clear hk1 hg1))
            | (go_split_ands; go_at_call 24; ((with_reducible refine (TYK.out _ (by with_reducible assumption)).mono ?_); rintro e w' ⟨B6, rfl, hg2, hk2, hb⟩; (first | (have HC1 := Lib.hid (HC1.out.step hb)) | (have HC1 := blk_al HC1 hb)); have HC2 := Lib.hid hk2; (first | ((with_reducible have hr := new_onD hb hszD); obtain ⟨hq, hTb, hsT, hsz⟩ := hr; obtain ⟨n0, n1⟩ := hq.two; have m0 := hq.free 0; have m1 := hq.free 1) | ((with_reducible have hr := new_on hb hsz); obtain ⟨hq, hTb, hsT, hsz⟩ := hr; obtain ⟨n0, n1⟩ := hq.two; have m0 := hq.free 0; have m1 := hq.free 1) | ((with_reducible have hr := old_on hq hb hsz); obtain ⟨hq, hTb, hsz⟩ := hr; clear n0 n1 m0 m1; obtain ⟨n0, n1⟩ := hq.two; have m0 := hq.free 0; have m1 := hq.free 1) | (have hsz := Nat.le_trans hsz hb.size)); clear hk2 hg2))
            | (go_split_ands; go_at_call 13; (first | (with_reducible refine (CI.out _ _ _ HC1 HC2).mono ?_) | (with_reducible refine (CI.out _ _ _ (Lib.hid (HC1.out.alloc _)) (Lib.hid (HC2.out.alloc _))).mono ?_)); (rintro e w' ⟨ha, hn, hc, rfl, hT, hb⟩; have HSp := Lib.hid (K5.on (Hid.out (by with_reducible assumption)) hb); (first | ((with_reducible have hr := new_onD hb hszD); obtain ⟨hq, hTb, hsT, hsz⟩ := hr; obtain ⟨n0, n1⟩ := hq.two; have m0 := hq.free 0; have m1 := hq.free 1) | ((with_reducible have hr := new_on hb hsz); obtain ⟨hq, hTb, hsT, hsz⟩ := hr; obtain ⟨n0, n1⟩ := hq.two; have m0 := hq.free 0; have m1 := hq.free 1) | ((with_reducible have hr := old_on hq hb hsz); obtain ⟨hq, hTb, hsz⟩ := hr; clear n0 n1 m0 m1; obtain ⟨n0, n1⟩ := hq.two; have m0 := hq.free 0; have m1 := hq.free 1) | (have hsz := Nat.le_trans hsz hb.size))))
            | fail)
          all_goals
            go_split_ands
            have HK : Hid (K5 w f0 a0 len0 cap0 f2 a2 len2 cap2 xs ys T N sa sn sc F Y X base ga gn gc (marks 1 gn) _) := (by with_reducible assumption)
            go_wp2_with fail
            go_meet
            case rel =>
              first
                | exact ⟨_, _, _, _, rfl, rfl, HK, fresh_new hT⟩
                | exact ⟨_, _, _, _, rfl, rfl, HK, fresh_set hT hq hTb⟩
        case rest =>
          obtain ⟨X2, ha, hn, hc, rfl, rfl, HK, HX2, HI2⟩ := hcut
          obtain ⟨t0, t1, x0, x1⟩ := k5C HK.out
          obtain ⟨y0, y1⟩ := HX2.out.two
          go_wp2_with fail
          refine (eqT_tb F Y _ _ _ _ _ _ _ HI2.out HK.out.j2.ti).mono ?_
          rintro e w15 ⟨rfl, hb⟩
          have HK := Lib.hid (HK.out.on hb)
          clear hb t0 t1 x0 x1 y0 y1
          obtain ⟨t0, t1, x0, x1⟩ := k5C HK.out
          go_wp2_with fail
          refine (heldT_any F ga gn gc 1 _ HK.out.gi.ints hgn (by omega) (by omega)).mono ?_
          rintro e w16 ⟨rfl, hb⟩
          have HK := Lib.hid (HK.out.on hb)
          clear hb t0 t1 x0 x1
          go_wp2_with fail
          go_ret
          exact ⟨rfl, HK.out.j2.d2.k2.low⟩

end Go.Proofs.Ytlcmgihaelgclaa
