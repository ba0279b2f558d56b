/- Merged: Jtt. -/
import Derived.Test.YtpphiekbhikadaaDoorTrx11
import Derived.Test.YtpphiekbhikadaaDoorTrx15
import Derived.Deep.CutRange

/- The exact law on JointTable. (Written by wip/gen/jtt.py.) -/
namespace Go.Proofs.YtpphiekbhikadaaDoor
open Go.ChangeShapes Go.WideShapes Go.ChangeAt Go.RowKit
set_option linter.unusedVariables false
set_option maxRecDepth 100000

theorem D2.butA {w : World} {f : Int} {a : Option Addr} {l c : Nat} {g : Int} {b : Option Addr} {m d : Nat} {xs ys : List Int} {q : Option Addr} {W W' : World} (h : D2 w f a l c g b m d xs ys W) (hba : ButA q W W') (hq : ∀ x, q = some x → w.heap.size + 2 ≤ x.block) (hX : Ints w a l xs) (hY : Ints w b m ys) : D2 w f a l c g b m d xs ys W' := by
  have hlow : Below w.heap.size w W' := h.k2.low.trans (hba.low (fun x hx => by have := hq x hx; omega) h.k2.low.size)
  refine ⟨⟨hba.cell h.k2.t0 (fun x hx => ?_), hba.cell h.k2.t1 (fun x hx => ?_), hba.cell h.k2.u0 (fun x hx => ?_), hba.cell h.k2.u1 (fun x hx => ?_), hlow⟩, hX.on hlow, hY.on hlow⟩
  all_goals
    have := hq x hx
    simp only
    omega

theorem Bx.butA {q : Option Addr} {W W' : World} {B : Nat} {vs : List Value} (h : Bx W B vs) (hba : ButA q W W') (hq : ∀ x, q = some x → x.block ≠ B) : Bx W' B vs := h.same (hba.block B h.lt hq)

theorem Bx.set2 {W : World} {B : Nat} {x y u v : Value} (h : Bx W B [x, y]) : Bx ((W.setCell ⟨B, 0, none⟩ u).setCell ⟨B, 1, none⟩ v) B [u, v] := by
  obtain ⟨T, h⟩ := h
  refine ⟨T, ?_⟩
  simp [World.setCell, Array.getElem?_modify, h]

theorem D2.set2 {w : World} {f : Int} {a : Option Addr} {l c : Nat} {g : Int} {b : Option Addr} {m d : Nat} {xs ys : List Int} {W : World} {B : Nat} {u v : Value} (h : D2 w f a l c g b m d xs ys W) (hB : w.heap.size + 2 ≤ B) (hX : Ints w a l xs) (hY : Ints w b m ys) : D2 w f a l c g b m d xs ys ((W.setCell ⟨B, 0, none⟩ u).setCell ⟨B, 1, none⟩ v) := by
  have hlow : Below w.heap.size w ((W.setCell ⟨B, 0, none⟩ u).setCell ⟨B, 1, none⟩ v) := (h.k2.low.setCell (p := ⟨B, 0, none⟩) (by show w.heap.size ≤ B; omega) _).setCell (p := ⟨B, 1, none⟩) (by show w.heap.size ≤ B; omega) _
  have n1 : w.heap.size ≠ B := by omega
  have n2 : w.heap.size + 1 ≠ B := by omega
  exact ⟨⟨setFar2 n1 (setFar2 n1 h.k2.t0), setFar2 n1 (setFar2 n1 h.k2.t1), setFar2 n2 (setFar2 n2 h.k2.u0), setFar2 n2 (setFar2 n2 h.k2.u1), hlow⟩, hX.on hlow, hY.on hlow⟩

theorem D2.two {w : World} {f : Int} {a : Option Addr} {l c : Nat} {g : Int} {b : Option Addr} {m d : Nat} {xs ys : List Int} {W : World} (h : D2 w f a l c g b m d xs ys W) : w.heap.size + 2 ≤ W.heap.size := by
  have := block_lt h.k2.u0
  have : w.heap.size + 1 < W.heap.size := this
  omega

/-- .. and what the model has handed over -/
structure J2 (w : World) (f : Int) (a : Option Addr) (l c : Nat) (g : Int) (b : Option Addr) (m d : Nat) (xs ys : List Int) (T N : Nat) (sa : Option Addr) (sn sc : Nat) (F : Int) (Y : List Int) (W : World) : Prop where
  d2 : D2 w f a l c g b m d xs ys W
  t : Bx W T [.int .i64 F, .slice sa sn sc]
  ti : Ints W sa sn Y
  oT : T < N
  fs : ∀ x, sa = some x → x.block < N
  oN : w.heap.size + 2 ≤ N
  sz : N ≤ W.heap.size

theorem J2.on {w : World} {f : Int} {a : Option Addr} {l c : Nat} {g : Int} {b : Option Addr} {m d : Nat} {xs ys : List Int} {T N : Nat} {sa : Option Addr} {sn sc : Nat} {F : Int} {Y : List Int} {W W' : World} (h : J2 w f a l c g b m d xs ys T N sa sn sc F Y W) (hb : Below W.heap.size W W') : J2 w f a l c g b m d xs ys T N sa sn sc F Y W' := ⟨h.d2.on hb, h.t.on hb, h.ti.on hb, h.oT, h.fs, h.oN, Nat.le_trans h.sz hb.size⟩

theorem J2.butA {w : World} {f : Int} {a : Option Addr} {l c : Nat} {g : Int} {b : Option Addr} {m d : Nat} {xs ys : List Int} {T N : Nat} {sa : Option Addr} {sn sc : Nat} {F : Int} {Y : List Int} {q : Option Addr} {W W' : World} (h : J2 w f a l c g b m d xs ys T N sa sn sc F Y W) (hba : ButA q W W') (hq : ∀ x, q = some x → N ≤ x.block) (hX : Ints w a l xs) (hY : Ints w b m ys) : J2 w f a l c g b m d xs ys T N sa sn sc F Y W' := by
  have oN := h.oN
  have oT := h.oT
  exact ⟨h.d2.butA hba (fun x hx => by have := hq x hx; omega) hX hY, h.t.butA hba (fun x hx => by have := hq x hx; omega), h.ti.butA hba (fun x y hx hy => by have := hq y hy; have := h.fs x hx; omega), oT, h.fs, oN, Nat.le_trans h.sz hba.size⟩

theorem J2.new {w : World} {f : Int} {a : Option Addr} {l c : Nat} {g : Int} {b : Option Addr} {m d : Nat} {xs ys : List Int} {base : Nat} {sa : Option Addr} {sn sc : Nat} {F : Int} {Y : List Int} {W : World} {ty : TypeId} (h : D2 w f a l c g b m d xs ys (W.alloc (.cells #[.int .i64 F, .slice sa sn sc] ty))) (hT : TbR base W sa sn Y) (h2 : w.heap.size + 2 ≤ W.heap.size) : J2 w f a l c g b m d xs ys W.heap.size (W.heap.size + 1) sa sn sc F Y (W.alloc (.cells #[.int .i64 F, .slice sa sn sc] ty)) :=
  ⟨h, Bx.new W _ _, hT.ints.on (box_b _ _), by omega, fun x hx => by have := (hT.far x hx).2; omega, by omega, by simp⟩

theorem ints_far {W W' : World} {q : Option Addr} {n : Nat} {zs : List Int} {B : Nat} (hh : Ints W q n zs) (hf : ∀ x, q = some x → x.block ≠ B) (ho : ∀ k, k ≠ B → W'.heap[k]? = W.heap[k]?) : Ints W' q n zs := by
  refine ⟨hh.len, hh.max, ?_⟩
  rcases hh.cells with h0 | ⟨b, off, rfl, hc⟩
  · exact .inl h0
  · exact .inr ⟨b, off, rfl, fun i hi => (World.cell?_of_block (w := W) (a := ⟨b, off + i, none⟩) (ho b (hf ⟨b, off, none⟩ rfl))).trans (hc i hi)⟩

theorem set2_ho {W : World} {B : Nat} {u v : Value} (k : Nat) (hk : k ≠ B) : ((W.setCell ⟨B, 0, none⟩ u).setCell ⟨B, 1, none⟩ v).heap[k]? = W.heap[k]? := by
  rw [Below.heap_setCell _ _ _ _ (by show k ≠ B; exact hk), Below.heap_setCell _ _ _ _ (by show k ≠ B; exact hk)]

theorem J2.set {w : World} {f : Int} {a : Option Addr} {l c : Nat} {g : Int} {b : Option Addr} {m d : Nat} {xs ys : List Int} {T base : Nat} {sa : Option Addr} {sn sc : Nat} {F : Int} {Y : List Int} {W : World} {x y : Value} (h : D2 w f a l c g b m d xs ys ((W.setCell ⟨T, 0, none⟩ (.int .i64 F)).setCell ⟨T, 1, none⟩ (.slice sa sn sc))) (hT : TbR base W sa sn Y) (hq : Bx W T [x, y]) (hb : T < base) (h2 : w.heap.size + 2 ≤ W.heap.size) : J2 w f a l c g b m d xs ys T W.heap.size sa sn sc F Y ((W.setCell ⟨T, 0, none⟩ (.int .i64 F)).setCell ⟨T, 1, none⟩ (.slice sa sn sc)) :=
  ⟨h, hq.set2, ints_far hT.ints (fun x hx => by have := (hT.far x hx).1; omega) set2_ho, hq.lt, fun x hx => (hT.far x hx).2, h2, by simp [World.setCell]⟩

theorem new_on {W w' : World} {vs : List Value} {T : TypeId} {n : Nat} (hb : Below (W.alloc (.cells vs.toArray T)).heap.size (W.alloc (.cells vs.toArray T)) w') (hs : n ≤ W.heap.size) : Bx w' W.heap.size vs ∧ W.heap.size < (W.alloc (.cells vs.toArray T)).heap.size ∧ n ≤ W.heap.size ∧ n ≤ w'.heap.size := ⟨(Bx.new W vs T).on hb, (Bx.new W vs T).lt, hs, Nat.le_trans (Nat.le_trans hs (by simp)) hb.size⟩

theorem new_onD {W w' : World} {vs : List Value} {T : TypeId} {n : Nat} (hb : Below (W.alloc (.cells vs.toArray T)).drew.heap.size (W.alloc (.cells vs.toArray T)).drew w') (hs : n ≤ W.heap.size) : Bx w' W.heap.size vs ∧ W.heap.size < (W.alloc (.cells vs.toArray T)).drew.heap.size ∧ n ≤ W.heap.size ∧ n ≤ w'.heap.size := new_on (w' := w') (T := T) ⟨hb.os, hb.tape, hb.output, hb.size, hb.block⟩ hs

theorem old_on {W w' : World} {B : Nat} {vs : List Value} {n : Nat} (hq : Bx W B vs) (hb : Below W.heap.size W w') (hs : n ≤ W.heap.size) : Bx w' B vs ∧ B < W.heap.size ∧ n ≤ w'.heap.size := ⟨hq.on hb, hq.lt, Nat.le_trans hs hb.size⟩

theorem blk_al {W w' : World} {B : Nat} {zs : List Int} {ob : Obj} (h : Hid (Blk W B zs)) (hb : Below (W.alloc ob).heap.size (W.alloc ob) w') : Hid (Blk w' B zs) := Lib.hid ((h.out.alloc ob).step hb)

theorem fresh_new {base : Nat} {sa : Option Addr} {sn sc : Nat} {F : Int} {Y : List Int} {W : World} {ty : TypeId} (hT : TbR base W sa sn Y) : Hid (Bx (W.alloc (.cells #[.int .i64 F, .slice sa sn sc] ty)) W.heap.size [.int .i64 F, .slice sa sn sc]) ∧ Hid (Ints (W.alloc (.cells #[.int .i64 F, .slice sa sn sc] ty)) sa sn Y) :=
  ⟨Lib.hid (Bx.new W _ _), Lib.hid (hT.ints.on (box_b _ _))⟩

theorem fresh_set {T base : Nat} {sa : Option Addr} {sn sc : Nat} {F : Int} {Y : List Int} {W : World} {x y : Value} (hT : TbR base W sa sn Y) (hq : Bx W T [x, y]) (hb : T < base) : Hid (Bx ((W.setCell ⟨T, 0, none⟩ (.int .i64 F)).setCell ⟨T, 1, none⟩ (.slice sa sn sc)) T [.int .i64 F, .slice sa sn sc]) ∧ Hid (Ints ((W.setCell ⟨T, 0, none⟩ (.int .i64 F)).setCell ⟨T, 1, none⟩ (.slice sa sn sc)) sa sn Y) :=
  ⟨Lib.hid hq.set2, Lib.hid (ints_far hT.ints (fun x hx => by have := (hT.far x hx).1; omega) set2_ho)⟩

/-- .. and the copies with which the program is called -/
structure E3 (w : World) (f : Int) (a : Option Addr) (l c : Nat) (g : Int) (b : Option Addr) (m d : Nat) (xs ys : List Int) (T N : Nat) (sa : Option Addr) (sn sc : Nat) (F : Int) (Y : List Int) (P1 P2 B1 B2 : Nat) (W : World) : Prop where
  j2 : J2 w f a l c g b m d xs ys T N sa sn sc F Y W
  p1 : Bx W P1 [.int .i64 f, .slice (some ⟨B1, 0, none⟩) l l]
  p2 : Bx W P2 [.int .i64 g, .slice (some ⟨B2, 0, none⟩) m m]
  b1 : Blk W B1 xs
  b2 : Blk W B2 ys
  o1 : N ≤ B1
  o2 : B1 < P1
  o3 : P1 < B2
  o4 : B2 < P2

theorem E3.on {w : World} {f : Int} {a : Option Addr} {l c : Nat} {g : Int} {b : Option Addr} {m d : Nat} {xs ys : List Int} {T N : Nat} {sa : Option Addr} {sn sc : Nat} {F : Int} {Y : List Int} {P1 P2 B1 B2 : Nat} {W W' : World} (h : E3 w f a l c g b m d xs ys T N sa sn sc F Y P1 P2 B1 B2 W) (hb : Below W.heap.size W W') : E3 w f a l c g b m d xs ys T N sa sn sc F Y P1 P2 B1 B2 W' := ⟨h.j2.on hb, h.p1.on hb, h.p2.on hb, h.b1.step hb, h.b2.step hb, h.o1, h.o2, h.o3, h.o4⟩

theorem e3S {w : World} {f : Int} {a : Option Addr} {l c : Nat} {g : Int} {b : Option Addr} {m d : Nat} {xs ys : List Int} {T N : Nat} {sa : Option Addr} {sn sc : Nat} {F : Int} {Y : List Int} {P1 P2 B1 B2 : Nat} {W : World} (h : E3 w f a l c g b m d xs ys T N sa sn sc F Y P1 P2 B1 B2 W) :
    W.cell? ⟨P1, 0, none⟩ = some (.int .i64 f) ∧ W.cell? ⟨P1, 1, none⟩ = some (.slice (some ⟨B1, 0, none⟩) l l) ∧ W.cell? ⟨P2, 0, none⟩ = some (.int .i64 g) ∧ W.cell? ⟨P2, 1, none⟩ = some (.slice (some ⟨B2, 0, none⟩) m m) := ⟨h.p1.two.1, h.p1.two.2, h.p2.two.1, h.p2.two.2⟩

/-- .. and what the program has handed over -/
structure K5 (w : World) (f : Int) (a : Option Addr) (l c : Nat) (g : Int) (b : Option Addr) (m d : Nat) (xs ys : List Int) (T N : Nat) (sa : Option Addr) (sn sc : Nat) (F : Int) (Y : List Int) (X base : Nat) (ga : Option Addr) (gn gc : Nat) (Z : List Int) (W : World) : Prop where
  j2 : J2 w f a l c g b m d xs ys T N sa sn sc F Y W
  tt : Bx W X [.int .i64 F, .slice ga gn gc]
  gi : TbR base W ga gn Z
  og : N < base
  oX : base ≤ X
  fg : ∀ x, ga = some x → x.block < X

theorem K5.on {w : World} {f : Int} {a : Option Addr} {l c : Nat} {g : Int} {b : Option Addr} {m d : Nat} {xs ys : List Int} {T N : Nat} {sa : Option Addr} {sn sc : Nat} {F : Int} {Y : List Int} {X base : Nat} {ga : Option Addr} {gn gc : Nat} {Z : List Int} {W W' : World} (h : K5 w f a l c g b m d xs ys T N sa sn sc F Y X base ga gn gc Z W) (hb : Below W.heap.size W W') : K5 w f a l c g b m d xs ys T N sa sn sc F Y X base ga gn gc Z W' := ⟨h.j2.on hb, h.tt.on hb, h.gi.on hb, h.og, h.oX, h.fg⟩

theorem TbR.butA {base n : Nat} {W W' : World} {q : Option Addr} {a : Option Addr} {ys : List Int} (h : TbR base W a n ys) (hba : ButA q W W') (hq : ∀ x, q = some x → x.block < base) : TbR base W' a n ys := by
  obtain ⟨h1, h2, h3 | ⟨g, off, rfl, hb1, hg, hr⟩⟩ := h
  · exact ⟨h1, h2, .inl h3⟩
  · have hk := hba.block g hg (fun x hx => by have := hq x hx; omega)
    exact ⟨h1, h2, .inr ⟨g, off, rfl, hb1, Nat.lt_of_lt_of_le hg hba.size, fun i hi => (World.cell?_of_block (w := W) (a := ⟨g, off + i, none⟩) hk).trans (hr.1 i hi), fun i hi => (World.frozen?_of_block (w := W) (a := ⟨g, off + i, none⟩) hk).trans (hr.2 i hi)⟩⟩

/-- a mark on what the program was called with -/
theorem K5.butB {w : World} {f : Int} {a : Option Addr} {l c : Nat} {g : Int} {b : Option Addr} {m d : Nat} {xs ys : List Int} {T N : Nat} {sa : Option Addr} {sn sc : Nat} {F : Int} {Y : List Int} {X base : Nat} {ga : Option Addr} {gn gc : Nat} {Z : List Int} {B : Nat} {W W' : World} (h : K5 w f a l c g b m d xs ys T N sa sn sc F Y X base ga gn gc Z W) (hba : ButA (some ⟨B, 0, none⟩) W W') (h1 : N ≤ B) (h2 : B < base) (hX : Ints w a l xs) (hY : Ints w b m ys) : K5 w f a l c g b m d xs ys T N sa sn sc F Y X base ga gn gc Z W' := by
  have oX := h.oX
  have og := h.og
  refine ⟨h.j2.butA hba (fun x hx => ?_) hX hY, h.tt.butA hba (fun x hx => ?_), h.gi.butA hba (fun x hx => ?_), og, oX, h.fg⟩
  all_goals
    cases hx
    simp only
    omega

/-- a mark on what it handed over -/
theorem K5.butG {w : World} {f : Int} {a : Option Addr} {l c : Nat} {g : Int} {b : Option Addr} {m d : Nat} {xs ys : List Int} {T N : Nat} {sa : Option Addr} {sn sc : Nat} {F : Int} {Y : List Int} {X base : Nat} {ga : Option Addr} {gn gc : Nat} {Z : List Int} {Z2 : List Int} {W W' : World} (h : K5 w f a l c g b m d xs ys T N sa sn sc F Y X base ga gn gc Z W) (hba : ButA ga W W') (hm : TbR base W' ga gn Z2) (hX : Ints w a l xs) (hY : Ints w b m ys) : K5 w f a l c g b m d xs ys T N sa sn sc F Y X base ga gn gc Z2 W' := by
  have oX := h.oX
  have og := h.og
  exact ⟨h.j2.butA hba (fun x hx => by have := (hm.far x hx).1; omega) hX hY, h.tt.butA hba (fun x hx => by have := h.fg x hx; omega), hm, og, oX, h.fg⟩

theorem K5.two {w : World} {f : Int} {a : Option Addr} {l c : Nat} {g : Int} {b : Option Addr} {m d : Nat} {xs ys : List Int} {T N : Nat} {sa : Option Addr} {sn sc : Nat} {F : Int} {Y : List Int} {X base : Nat} {ga : Option Addr} {gn gc : Nat} {Z : List Int} {W : World} (h : K5 w f a l c g b m d xs ys T N sa sn sc F Y X base ga gn gc Z W) : X + 1 ≤ W.heap.size := h.tt.lt

theorem K5.set2 {w : World} {f : Int} {a : Option Addr} {l c : Nat} {g : Int} {b : Option Addr} {m d : Nat} {xs ys : List Int} {T N : Nat} {sa : Option Addr} {sn sc : Nat} {F : Int} {Y : List Int} {X base : Nat} {ga : Option Addr} {gn gc : Nat} {Z : List Int} {W : World} {B : Nat} {x y u v : Value} (h : K5 w f a l c g b m d xs ys T N sa sn sc F Y X base ga gn gc Z W) (hq : Bx W B [x, y]) (hB : X < B) (hX : Ints w a l xs) (hY : Ints w b m ys) : K5 w f a l c g b m d xs ys T N sa sn sc F Y X base ga gn gc Z ((W.setCell ⟨B, 0, none⟩ u).setCell ⟨B, 1, none⟩ v) := by
  have oX := h.oX
  have og := h.og
  have oN := h.j2.oN
  have oT := h.j2.oT
  have hl : Below B W ((W.setCell ⟨B, 0, none⟩ u).setCell ⟨B, 1, none⟩ v) := ((Below.refl B W).setCell (p := ⟨B, 0, none⟩) (Nat.le_refl _) _).setCell (p := ⟨B, 1, none⟩) (Nat.le_refl _) _
  have hba : ButA (some ⟨B, 0, none⟩) W ((W.setCell ⟨B, 0, none⟩ u).setCell ⟨B, 1, none⟩ v) := ⟨hl.os, hl.tape, hl.output, hl.size, fun k _ hk => set2_ho k (fun e => hk _ rfl e.symm)⟩
  refine ⟨h.j2.butA hba (fun x hx => ?_) hX hY, h.tt.butA hba (fun x hx => ?_), ?_, og, oX, h.fg⟩
  · cases hx; simp only; omega
  · cases hx; simp only; omega
  · obtain ⟨h1, h2, h3 | ⟨g, off, rfl, hb1, hg, hr⟩⟩ := h.gi
    · exact ⟨h1, h2, .inl h3⟩
    · have hne : g ≠ B := by have := h.fg _ rfl; have : g < X := this; omega
      have hk := set2_ho (W := W) (u := u) (v := v) g hne
      exact ⟨h1, h2, .inr ⟨g, off, rfl, hb1, Nat.lt_of_lt_of_le hg hl.size, fun i hi => (World.cell?_of_block (w := W) (a := ⟨g, off + i, none⟩) hk).trans (hr.1 i hi), fun i hi => (World.frozen?_of_block (w := W) (a := ⟨g, off + i, none⟩) hk).trans (hr.2 i hi)⟩⟩

structure E5 (w : World) (f : Int) (a : Option Addr) (l c : Nat) (g : Int) (b : Option Addr) (m d : Nat) (xs ys : List Int) (T N : Nat) (sa : Option Addr) (sn sc : Nat) (F : Int) (Y : List Int) (X base : Nat) (ga : Option Addr) (gn gc : Nat) (Z : List Int) (P1 P2 B1 B2 : Nat) (W : World) : Prop where
  e3 : E3 w f a l c g b m d xs ys T N sa sn sc F Y P1 P2 B1 B2 W
  k5 : K5 w f a l c g b m d xs ys T N sa sn sc F Y X base ga gn gc Z W
  o5 : P2 < base

theorem E5.on {w : World} {f : Int} {a : Option Addr} {l c : Nat} {g : Int} {b : Option Addr} {m d : Nat} {xs ys : List Int} {T N : Nat} {sa : Option Addr} {sn sc : Nat} {F : Int} {Y : List Int} {X base : Nat} {ga : Option Addr} {gn gc : Nat} {Z : List Int} {P1 P2 B1 B2 : Nat} {W W' : World} (h : E5 w f a l c g b m d xs ys T N sa sn sc F Y X base ga gn gc Z P1 P2 B1 B2 W) (hb : Below W.heap.size W W') : E5 w f a l c g b m d xs ys T N sa sn sc F Y X base ga gn gc Z P1 P2 B1 B2 W' := ⟨h.e3.on hb, h.k5.on hb, h.o5⟩

theorem e5S {w : World} {f : Int} {a : Option Addr} {l c : Nat} {g : Int} {b : Option Addr} {m d : Nat} {xs ys : List Int} {T N : Nat} {sa : Option Addr} {sn sc : Nat} {F : Int} {Y : List Int} {X base : Nat} {ga : Option Addr} {gn gc : Nat} {Z : List Int} {P1 P2 B1 B2 : Nat} {W : World} (h : E5 w f a l c g b m d xs ys T N sa sn sc F Y X base ga gn gc Z P1 P2 B1 B2 W) :
    W.cell? ⟨w.heap.size, 0, none⟩ = some (.int .i64 f) ∧ W.cell? ⟨w.heap.size, 1, none⟩ = some (.slice a l c) ∧ W.cell? ⟨w.heap.size + 1, 0, none⟩ = some (.int .i64 g) ∧ W.cell? ⟨w.heap.size + 1, 1, none⟩ = some (.slice b m d) ∧ W.cell? ⟨P1, 0, none⟩ = some (.int .i64 f) ∧ W.cell? ⟨P1, 1, none⟩ = some (.slice (some ⟨B1, 0, none⟩) l l) ∧ W.cell? ⟨P2, 0, none⟩ = some (.int .i64 g) ∧ W.cell? ⟨P2, 1, none⟩ = some (.slice (some ⟨B2, 0, none⟩) m m) ∧ Hid (E5 w f a l c g b m d xs ys T N sa sn sc F Y X base ga gn gc Z P1 P2 B1 B2 W) :=
  ⟨h.k5.j2.d2.k2.t0, h.k5.j2.d2.k2.t1, h.k5.j2.d2.k2.u0, h.k5.j2.d2.k2.u1, h.e3.p1.two.1, h.e3.p1.two.2, h.e3.p2.two.1, h.e3.p2.two.2, Lib.hid h⟩

theorem k5S {w : World} {f : Int} {a : Option Addr} {l c : Nat} {g : Int} {b : Option Addr} {m d : Nat} {xs ys : List Int} {T N : Nat} {sa : Option Addr} {sn sc : Nat} {F : Int} {Y : List Int} {X base : Nat} {ga : Option Addr} {gn gc : Nat} {Z : List Int} {W : World} (h : K5 w f a l c g b m d xs ys T N sa sn sc F Y X base ga gn gc Z W) :
    W.cell? ⟨w.heap.size, 0, none⟩ = some (.int .i64 f) ∧ W.cell? ⟨w.heap.size, 1, none⟩ = some (.slice a l c) ∧ W.cell? ⟨w.heap.size + 1, 0, none⟩ = some (.int .i64 g) ∧ W.cell? ⟨w.heap.size + 1, 1, none⟩ = some (.slice b m d) ∧ Hid (K5 w f a l c g b m d xs ys T N sa sn sc F Y X base ga gn gc Z W) :=
  ⟨h.j2.d2.k2.t0, h.j2.d2.k2.t1, h.j2.d2.k2.u0, h.j2.d2.k2.u1, Lib.hid h⟩

theorem k5C {w : World} {f : Int} {a : Option Addr} {l c : Nat} {g : Int} {b : Option Addr} {m d : Nat} {xs ys : List Int} {T N : Nat} {sa : Option Addr} {sn sc : Nat} {F : Int} {Y : List Int} {X base : Nat} {ga : Option Addr} {gn gc : Nat} {Z : List Int} {W : World} (h : K5 w f a l c g b m d xs ys T N sa sn sc F Y X base ga gn gc Z W) :
    W.cell? ⟨T, 0, none⟩ = some (.int .i64 F) ∧ W.cell? ⟨T, 1, none⟩ = some (.slice sa sn sc) ∧ W.cell? ⟨X, 0, none⟩ = some (.int .i64 F) ∧ W.cell? ⟨X, 1, none⟩ = some (.slice ga gn gc) :=
  ⟨h.j2.t.two.1, h.j2.t.two.2, h.tt.two.1, h.tt.two.2⟩

end Go.Proofs.YtpphiekbhikadaaDoor
