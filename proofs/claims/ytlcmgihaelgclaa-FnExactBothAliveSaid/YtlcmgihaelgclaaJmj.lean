/- The joint table of the model: what a call returns. -/
import Derived.Test.YtlcmgihaelgclaaJms
import Derived.Test.YtlcmgihaelgclaaColL
import Derived.Test.YtlcmgihaelgclaaRowI
import Derived.Deep.RegionHeld3
namespace Go.Proofs.Ytlcmgihaelgclaa
open Go.ChangeShapes Go.WideShapes Go.ChangeAt Go.RowKit
set_option linter.unusedVariables false
set_option maxRecDepth 100000

/-- append at a step of a region that draws its order -/
theorem step_apj {w : World} {ops : Array Oper} {o : Oper} {a : Act} {K : Act → World → Prop} {Q : Exit → Act → World → Prop} {E : Prop} (hgd : o.guard = none) (s x : Operand)
    (ho : o.op = .call { callee := .builtin .append, args := #[s, x], argTypes := #[24, 24] })
    (base : Nat) (v : Value) (xs : List Int) (y : Int) (hs : a.eval s = v) (hown : OwnI base w v xs) (ad : Addr) (hx : a.eval x = .slice (some ad) 1 1) (hc : ∀ j u, [Value.int .i64 y][j]? = some u → w.cell? (ad.add j) = some u)
    (hlen : xs.length ≤ 4096) (hbase : base ≤ w.heap.size)
    (h : ∀ v' w', OwnI base w' v' (xs ++ [y]) → w.grownBy w' v.ownBlock → (v'.ownBlock = v.ownBlock ∨ v'.ownBlock = some w.heap.size) → K (a.put o.dst v') w') :
    if Region.wanted o (yielded ops a.tmps) = true then Oper.wp Try.prog o a w K Q else E := by
  obtain ⟨i0, hi, hz0, hz1, hz2⟩ := info_parts infoI
  have hm : maxLen = maxLen := rfl
  unfold maxLen at hm
  obtain ⟨v', w', hr, h2, h3, h4⟩ := run_append_own (P := Try.prog) w base 24 o.type 2 i0 (.int .i64 0) 1 8 Try.underlying24 hi hz0 hz1 hz2 rfl (by decide) v xs.length (xs.map (Value.int .i64)) hown ad 1 1 [.int .i64 y] rfl hc (by intro u hu; simp at hu; subst hu; rfl) (by unfold maxLen; omega) (by omega) hbase
  have h5 := append_where ad y hown hc hlen hbase v' w' o.type hr
  have h6 : OwnI base w' v' (xs ++ [y]) := by
    unfold OwnI
    rw [List.length_append, List.length_singleton, List.map_append]
    exact h2
  have hw : Region.wanted o (yielded ops a.tmps) = true := by simp [Region.wanted, hgd]
  rw [if_pos hw]
  unfold Oper.wp execOp
  simp only [ho, resolve, invoke, builtin, Sem.run_bind, Sem.run_pure, Result.andThen_ok, List.map_toArray, List.map_cons, List.map_nil, hs, hx, hr]
  exact h v' w' h6 h3 h5

/-- a table that a call hands over -/
def JtPost (F : Int) (ys : List Int) (w : World) (e : Ending) (w' : World) : Prop := ∃ a n c, e = .returned (.agg #[.int .i64 F, .slice a n c]) ∧ TbR w.heap.size w' a n ys ∧ Below w.heap.size w w'

/-- the joint table's numbers, k of them -/
def jtK (f : Int) (xs : List Int) (x g : Int) (ys : List Int) (y : Int) (k : Nat) : List Int := (List.range k).map (jv f xs x g ys y)

theorem jtK_len {f : Int} {xs : List Int} {x g : Int} {ys : List Int} {y : Int} (k : Nat) : (jtK f xs x g ys y k).length = k := by simp [jtK]

theorem jtK_succ {f : Int} {xs : List Int} {x g : Int} {ys : List Int} {y : Int} (k : Nat) : jtK f xs x g ys y (k + 1) = jtK f xs x g ys y k ++ [jv f xs x g ys y k] := by simp [jtK, List.range_succ]

theorem jtK_get {f : Int} {xs : List Int} {x g : Int} {ys : List Int} {y : Int} (k i : Nat) (h : i < k) : (jtK f xs x g ys y k).getD i 0 = jv f xs x g ys y i := by
  rw [List.getD_eq_getElem?_getD, List.getElem?_eq_getElem (by rw [jtK_len]; exact h)]
  simp [jtK]

theorem jtK_all {f : Int} {xs : List Int} {x g : Int} {ys : List Int} {y : Int} : jtK f xs x g ys y (jn f xs x g ys y + 1) = jtL f xs x g ys y := rfl

/-- the model's joint table as it grows -/
structure Jg (w : World) (f : Int) (sa : Value) (g : Int) (sb : Value) (x : Int) (v : Value) (zs : List Int) (W : World) : Prop where
  k2 : K2 w f sa g sb W
  rb : Bx W (w.heap.size + 2) [.int .i64 0, .slice none 0 0]
  ob : Bx W (w.heap.size + 4) [.int .i64 x, v]
  own : OwnI (w.heap.size + 3) W v zs
  ne : v.ownBlock ≠ some (w.heap.size + 4)
  size : w.heap.size + 4 < W.heap.size

theorem own_shj {base : Nat} {w : World} {v : Value} {ys : List Int} (h : OwnI base w v ys) (hl : 0 < ys.length) : ∃ g c, v = .slice (some ⟨g, 0, none⟩) ys.length c ∧ base ≤ g := by
  obtain ⟨_, h0 | ⟨g, cap, cur, hv, hb, _⟩⟩ := h
  · omega
  · exact ⟨g, cap, hv, hb⟩

theorem Bx.set1 {w : World} {B : Nat} {x y : Value} (h : Bx w B [x, y]) (z : Value) : Bx (w.setCell ⟨B, 1, none⟩ z) B [x, z] := by
  have hl := h.lt
  obtain ⟨T, h⟩ := h
  rw [Array.getElem?_eq_getElem hl] at h
  have h' : w.heap[B] = .cells #[x, y] T (0, 0) := by simpa using h
  refine ⟨T, ?_⟩
  show (w.heap.modify B _)[B]? = _
  rw [Array.getElem?_modify, if_pos rfl, Array.getElem?_eq_getElem hl, h']
  simp

theorem far_setCell (w : World) (p : Addr) (v : Value) (k : Nat) (h : k ≠ p.block) : (w.setCell p v).heap[k]? = w.heap[k]? := by
  show (w.heap.modify p.block _)[k]? = _
  rw [Array.getElem?_modify, if_neg (fun e => h e.symm)]

/-- behind an append: the boxes of the joint table are as they were -/
theorem Bx.grown {w w5 : World} {o : Obj} {B : Nat} {vs : List Value} {row : Option Nat} (h : Bx w B vs) (hg : (w.alloc o).grownBy w5 row) (hn : some B ≠ row) : Bx w5 B vs :=
  (h.on (box_b w o)).same (hg.block B (by have := h.lt; simp; omega) hn)

/-- .. and the store into its box -/
theorem Jg.fin {w : World} {f : Int} {sa : Value} {g : Int} {sb : Value} {x : Int} {v : Value} {zs : List Int} {q : Nat} {n c : Nat} {w5 : World}
    (h : K2 w f sa g sb w5) (hr : Bx w5 (w.heap.size + 2) [.int .i64 0, .slice none 0 0]) (hob : Bx w5 (w.heap.size + 4) [.int .i64 x, v]) (hown : OwnI (w.heap.size + 3) w5 (.slice (some ⟨q, 0, none⟩) n c) zs) (hne : q ≠ w.heap.size + 4) (hs : w.heap.size + 4 < w5.heap.size) :
    Jg w f sa g sb x (.slice (some ⟨q, 0, none⟩) n c) zs (w5.setCell ⟨w.heap.size + 4, 1, none⟩ (.slice (some ⟨q, 0, none⟩) n c)) := by
  have far : ∀ k, k ≠ w.heap.size + 4 → (w5.setCell ⟨w.heap.size + 4, 1, none⟩ (.slice (some ⟨q, 0, none⟩) n c)).heap[k]? = w5.heap[k]? := fun k hk => far_setCell _ _ _ _ hk
  refine ⟨⟨?_, ?_, ?_, ?_, ?_⟩, hr.same (far _ (by omega)), hob.set1 _, ?_, ?_, by simpa [World.setCell] using hs⟩
  · exact (World.cell?_of_block (w := w5) (a := ⟨w.heap.size, 0, none⟩) (far _ (by simp))).trans h.t0
  · exact (World.cell?_of_block (w := w5) (a := ⟨w.heap.size, 1, none⟩) (far _ (by simp))).trans h.t1
  · exact (World.cell?_of_block (w := w5) (a := ⟨w.heap.size + 1, 0, none⟩) (far _ (by simp))).trans h.u0
  · exact (World.cell?_of_block (w := w5) (a := ⟨w.heap.size + 1, 1, none⟩) (far _ (by simp))).trans h.u1
  · exact h.low.setCell (p := ⟨w.heap.size + 4, 1, none⟩) (by show w.heap.size ≤ w.heap.size + 4; omega) _
  · have hh := hown
    obtain ⟨h1, h0 | ⟨g', cap, cur, hv, hgb, hcell, r⟩⟩ := hown
    · exact absurd h0.1 (by simp)
    · refine ⟨h1, .inr ⟨g', cap, cur, hv, hgb, ?_, r⟩⟩
      simp only [Value.slice.injEq, Option.some.injEq, Addr.mk.injEq] at hv
      obtain ⟨⟨rfl, _⟩, _⟩ := hv
      rw [far_setCell _ _ _ _ hne]
      exact hcell
  · simp [Value.ownBlock]; omega

theorem K2.grown {w : World} {f : Int} {sa : Value} {g : Int} {sb : Value} {W w5 : World} {v : Value} {zs : List Int} {o : Obj} (h : K2 w f sa g sb W) (hown : OwnI (w.heap.size + 3) W v zs) (hs : w.heap.size + 4 < W.heap.size) (hg : (W.alloc o).grownBy w5 v.ownBlock) : K2 w f sa g sb w5 := by
  have hb := app_below hown (by omega) hg
  exact ⟨(hb.cell (p := ⟨w.heap.size, 0, none⟩) (by simp)).trans h.t0, (hb.cell (p := ⟨w.heap.size, 1, none⟩) (by simp)).trans h.t1, (hb.cell (p := ⟨w.heap.size + 1, 0, none⟩) (by simp)).trans h.u0, (hb.cell (p := ⟨w.heap.size + 1, 1, none⟩) (by simp)).trans h.u1, h.low.trans (hb.mono (by omega))⟩

/-- what a step of the model's joint table leaves as it was -/
structure SJ (w : World) (f : Int) (sa : Value) (g : Int) (sb : Value) (W : World) : Prop where
  k2 : K2 w f sa g sb W
  rb : Bx W (w.heap.size + 2) [.int .i64 0, .slice none 0 0]
  size : w.heap.size + 4 < W.heap.size

theorem SJ.on {w : World} {f : Int} {sa : Value} {g : Int} {sb : Value} {W W' : World} (h : SJ w f sa g sb W) (hb : Below W.heap.size W W') : SJ w f sa g sb W' :=
  ⟨h.k2.on hb, h.rb.on hb, Nat.lt_of_lt_of_le h.size hb.size⟩

theorem SJ.drew {w : World} {f : Int} {sa : Value} {g : Int} {sb : Value} {W : World} (h : SJ w f sa g sb W) : SJ w f sa g sb W.drew :=
  ⟨⟨cell_drew h.k2.t0, cell_drew h.k2.t1, cell_drew h.k2.u0, cell_drew h.k2.u1, h.k2.low.drew⟩, h.rb, h.size⟩

theorem SJ.app {w : World} {f : Int} {sa : Value} {g : Int} {sb : Value} {W w5 : World} {row : Option Nat} (h : SJ w f sa g sb W) (hg : W.grownBy w5 row) (hr : ∀ k, row = some k → w.heap.size + 3 ≤ k) : SJ w f sa g sb w5 := by
  have hs := h.size
  have far : ∀ k, k < w.heap.size + 3 → w5.heap[k]? = W.heap[k]? := fun k hk => hg.block k (by omega) (fun e => by have := hr k e.symm; omega)
  refine ⟨⟨?_, ?_, ?_, ?_, h.k2.low.grown hg (by omega) (fun k hk => by have := hr k hk; omega)⟩, h.rb.same (far _ (by omega)), Nat.lt_of_lt_of_le hs hg.size⟩
  · exact (World.cell?_of_block (w := W) (a := ⟨w.heap.size, 0, none⟩) (far _ (by simp))).trans h.k2.t0
  · exact (World.cell?_of_block (w := W) (a := ⟨w.heap.size, 1, none⟩) (far _ (by simp))).trans h.k2.t1
  · exact (World.cell?_of_block (w := W) (a := ⟨w.heap.size + 1, 0, none⟩) (far _ (by simp))).trans h.k2.u0
  · exact (World.cell?_of_block (w := W) (a := ⟨w.heap.size + 1, 1, none⟩) (far _ (by simp))).trans h.k2.u1

theorem SJ.set {w : World} {f : Int} {sa : Value} {g : Int} {sb : Value} {W : World} (h : SJ w f sa g sb W) (v : Value) : SJ w f sa g sb (W.setCell ⟨w.heap.size + 4, 1, none⟩ v) := by
  have far : ∀ k, k < w.heap.size + 3 → (W.setCell ⟨w.heap.size + 4, 1, none⟩ v).heap[k]? = W.heap[k]? := fun k hk => far_setCell _ _ _ _ (by show k ≠ w.heap.size + 4; omega)
  refine ⟨⟨?_, ?_, ?_, ?_, h.k2.low.setCell (p := ⟨w.heap.size + 4, 1, none⟩) (by show w.heap.size ≤ w.heap.size + 4; omega) _⟩, h.rb.same (far _ (by omega)), by have := h.size; simpa [World.setCell] using this⟩
  · exact (World.cell?_of_block (w := W) (a := ⟨w.heap.size, 0, none⟩) (far _ (by simp))).trans h.k2.t0
  · exact (World.cell?_of_block (w := W) (a := ⟨w.heap.size, 1, none⟩) (far _ (by simp))).trans h.k2.t1
  · exact (World.cell?_of_block (w := W) (a := ⟨w.heap.size + 1, 0, none⟩) (far _ (by simp))).trans h.k2.u0
  · exact (World.cell?_of_block (w := W) (a := ⟨w.heap.size + 1, 1, none⟩) (far _ (by simp))).trans h.k2.u1

theorem sjS {w : World} {f : Int} {sa : Value} {g : Int} {sb : Value} {W : World} {x : Int} {v : Value} (h : SJ w f sa g sb W) (k : Bx W (w.heap.size + 4) [.int .i64 x, v]) :
    W.cell? ⟨w.heap.size, 0, none⟩ = some (.int .i64 f) ∧ W.cell? ⟨w.heap.size, 1, none⟩ = some sa ∧ W.cell? ⟨w.heap.size + 1, 0, none⟩ = some (.int .i64 g) ∧ W.cell? ⟨w.heap.size + 1, 1, none⟩ = some sb ∧ W.cell? ⟨w.heap.size + 1 + 1 + 1 + 1, 1, none⟩ = some v ∧ w.heap.size + 3 ≤ W.heap.size ∧ Hid (SJ w f sa g sb W) :=
  ⟨h.k2.t0, h.k2.t1, h.k2.u0, h.k2.u1, k.two.2, by have := h.size; omega, Lib.hid h⟩

theorem own_sh3 {base : Nat} {w : World} {v : Value} {ys : List Int} (h : OwnI base w v ys) (hl : 0 < ys.length) : ∃ g n c, v = .slice (some ⟨g, 0, none⟩) n c ∧ base ≤ g ∧ n = ys.length := by
  obtain ⟨_, h0 | ⟨g, cap, cur, hv, hb, _⟩⟩ := h
  · omega
  · exact ⟨g, _, cap, hv, hb, rfl⟩

/-- the new block of an append is not the table's box -/
theorem own_ne {w W : World} {o : Obj} {v : Value} {g n c : Nat} (hne : v.ownBlock ≠ some (w.heap.size + 4)) (hs : w.heap.size + 4 < W.heap.size) (hw : (Value.slice (some ⟨g, 0, none⟩) n c).ownBlock = v.ownBlock ∨ (Value.slice (some ⟨g, 0, none⟩) n c).ownBlock = some (W.alloc o).heap.size) : g ≠ w.heap.size + 4 := by
  rcases hw with h | h
  · intro e; subst e; exact hne h.symm
  · simp [Value.ownBlock] at h; omega

/-- it is handed over -/
theorem Jg.post {w : World} {f : Int} {sa : Value} {g : Int} {sb : Value} {x : Int} {q n c : Nat} {zs ys : List Int} {W : World} (H : Jg w f sa g sb x (.slice (some ⟨q, 0, none⟩) n c) zs W) (he : zs = ys) (hl : n = zs.length) (hp : 0 < n) (hn : n ≤ 4096) :
    JtPost x ys w (.returned (.agg #[.int .i64 x, .slice (some ⟨q, 0, none⟩) n c])) ((W.setCell ⟨w.heap.size + 2, 0, none⟩ (.int .i64 x)).setCell ⟨w.heap.size + 2, 1, none⟩ (.slice (some ⟨q, 0, none⟩) n c)) := by
  subst he
  subst hl
  have hrow := H.own.row
  have hq : w.heap.size + 3 ≤ q := by
    obtain ⟨g', c', hv, hb⟩ := own_shj H.own hp
    simp only [Value.slice.injEq, Option.some.injEq, Addr.mk.injEq] at hv
    omega
  have ho : Only (w.heap.size + 2) W ((W.setCell ⟨w.heap.size + 2, 0, none⟩ (.int .i64 x)).setCell ⟨w.heap.size + 2, 1, none⟩ (.slice (some ⟨q, 0, none⟩) zs.length c)) := ((Only.refl _ W).setCell (p := ⟨w.heap.size + 2, 0, none⟩) rfl _).setCell (p := ⟨w.heap.size + 2, 1, none⟩) rfl _
  refine ⟨_, _, _, rfl, ⟨rfl, hn, .inr ⟨q, 0, rfl, by omega, ?_, hrow.only ho (by omega)⟩⟩, H.k2.low.trans (ho.below (by omega))⟩
  rw [ho.size]
  exact hrow.lt hp

end Go.Proofs.Ytlcmgihaelgclaa
