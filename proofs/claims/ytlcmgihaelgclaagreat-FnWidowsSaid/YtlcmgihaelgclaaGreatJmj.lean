/- The joint table of the model: what a call returns. | A region that draws its order, whose last operation L stores into a cell that the region has loaded: a condition that holds till then. (No program in it.) | The joint table of the model: the walk. -/
import Derived.Test.YtlcmgihaelgclaaGreatTwo
import Derived.Test.YtlcmgihaelgclaaGreatColL
import Derived.Test.YtlcmgihaelgclaaGreatDrawS
import Derived.Deep.RegionHeld3
import Derived.Test.YtlcmgihaelgclaaGreatBase
namespace Go.Proofs.YtlcmgihaelgclaaGreat
open Go.ChangeShapes Go.WideShapes Go.ChangeAt Go.RowKit
set_option linter.unusedVariables false
set_option maxRecDepth 100000

/-- append at a step of a region that draws its order -/
theorem step_apj {w : World} {ops : Array Oper} {o : Oper} {a : Act} {K : Act → World → Prop} {Q : Exit → Act → World → Prop} {E : Prop} (hgd : o.guard = none) (s x : Operand)
    (ho : o.op = .call { callee := .builtin .append, args := #[s, x], argTypes := #[24, 24] })
    (base : Nat) (v : Value) (xs : List Int) (y : Int) (hs : a.eval s = v) (hown : OwnI base w v xs) (ad : Addr) (hx : a.eval x = .slice (some ad) 1 1) (hc : ∀ j u, [Value.int .i64 y][j]? = some u → w.cell? (ad.add j) = some u)
    (hlen : xs.length ≤ 4096) (hbase : base ≤ w.heap.size)
    (h : ∀ v' w', OwnI base w' v' (xs ++ [y]) → w.grownBy w' v.ownBlock → (v'.ownBlock = v.ownBlock ∨ v'.ownBlock = some w.heap.size) → K (a.put o.dst v') w') :
    if Region.wanted o (yielded ops a.tmps) = true then Oper.wp Tryz.prog o a w K Q else E := by
  obtain ⟨i0, hi, hz0, hz1, hz2⟩ := info_parts infoI
  have hm : maxLen = maxLen := rfl
  unfold maxLen at hm
  obtain ⟨v', w', hr, h2, h3, h4⟩ := run_append_own (P := Tryz.prog) w base 24 o.type 2 i0 (.int .i64 0) 1 8 Tryz.underlying24 hi hz0 hz1 hz2 rfl (by decide) v xs.length (xs.map (Value.int .i64)) hown ad 1 1 [.int .i64 y] rfl hc (by intro u hu; simp at hu; subst hu; rfl) (by unfold maxLen; omega) (by omega) hbase
  have h5 := append_where ad y hown hc hlen hbase v' w' o.type hr
  have h6 : OwnI base w' v' (xs ++ [y]) := by
    unfold OwnI
    rw [List.length_append, List.length_singleton, List.map_append]
    exact h2
  have hw : Region.wanted o (yielded ops a.tmps) = true := by simp [Region.wanted, hgd]
  rw [if_pos hw]
  unfold Oper.wp execOp
  simp only [ho, resolve, invoke, builtin, Sem.run_bind, Sem.run_pure, Result.andThen_ok, List.map_toArray, List.map_cons, List.map_nil, hs, hx, hr]
  exact h v' w' h6 h3 h5

/-- a table that a call hands over -/
def JtPost (F : Int) (ys : List Int) (w : World) (e : Ending) (w' : World) : Prop := ∃ a n c, e = .returned (.agg #[.int .i64 F, .slice a n c]) ∧ TbR w.heap.size w' a n ys ∧ Below w.heap.size w w'

/-- the joint table's numbers, k of them -/
def jtK (f : Int) (xs : List Int) (x g : Int) (ys : List Int) (y : Int) (k : Nat) : List Int := (List.range k).map (jv f xs x g ys y)

theorem jtK_len {f : Int} {xs : List Int} {x g : Int} {ys : List Int} {y : Int} (k : Nat) : (jtK f xs x g ys y k).length = k := by simp [jtK]

theorem jtK_succ {f : Int} {xs : List Int} {x g : Int} {ys : List Int} {y : Int} (k : Nat) : jtK f xs x g ys y (k + 1) = jtK f xs x g ys y k ++ [jv f xs x g ys y k] := by simp [jtK, List.range_succ]

theorem jtK_get {f : Int} {xs : List Int} {x g : Int} {ys : List Int} {y : Int} (k i : Nat) (h : i < k) : (jtK f xs x g ys y k).getD i 0 = jv f xs x g ys y i := by
  rw [List.getD_eq_getElem?_getD, List.getElem?_eq_getElem (by rw [jtK_len]; exact h)]
  simp [jtK]

theorem jtK_all {f : Int} {xs : List Int} {x g : Int} {ys : List Int} {y : Int} : jtK f xs x g ys y (jn f xs x g ys y + 1) = jtL f xs x g ys y := rfl

/-- the model's joint table as it grows -/
structure Jg (w : World) (f : Int) (sa : Value) (g : Int) (sb : Value) (x : Int) (v : Value) (zs : List Int) (W : World) : Prop where
  k2 : K2 w f sa g sb W
  rb : Bx W (w.heap.size + 2) [.int .i64 0, .slice none 0 0]
  ob : Bx W (w.heap.size + 4) [.int .i64 x, v]
  own : OwnI (w.heap.size + 3) W v zs
  ne : v.ownBlock ≠ some (w.heap.size + 4)
  size : w.heap.size + 4 < W.heap.size

theorem own_shj {base : Nat} {w : World} {v : Value} {ys : List Int} (h : OwnI base w v ys) (hl : 0 < ys.length) : ∃ g c, v = .slice (some ⟨g, 0, none⟩) ys.length c ∧ base ≤ g := by
  obtain ⟨_, h0 | ⟨g, cap, cur, hv, hb, _⟩⟩ := h
  · omega
  · exact ⟨g, cap, hv, hb⟩

theorem Bx.set1 {w : World} {B : Nat} {x y : Value} (h : Bx w B [x, y]) (z : Value) : Bx (w.setCell ⟨B, 1, none⟩ z) B [x, z] := by
  have hl := h.lt
  obtain ⟨T, h⟩ := h
  rw [Array.getElem?_eq_getElem hl] at h
  have h' : w.heap[B] = .cells #[x, y] T (0, 0) := by simpa using h
  refine ⟨T, ?_⟩
  show (w.heap.modify B _)[B]? = _
  rw [Array.getElem?_modify, if_pos rfl, Array.getElem?_eq_getElem hl, h']
  simp

theorem far_setCell (w : World) (p : Addr) (v : Value) (k : Nat) (h : k ≠ p.block) : (w.setCell p v).heap[k]? = w.heap[k]? := by
  show (w.heap.modify p.block _)[k]? = _
  rw [Array.getElem?_modify, if_neg (fun e => h e.symm)]

/-- behind an append: the boxes of the joint table are as they were -/
theorem Bx.grown {w w5 : World} {o : Obj} {B : Nat} {vs : List Value} {row : Option Nat} (h : Bx w B vs) (hg : (w.alloc o).grownBy w5 row) (hn : some B ≠ row) : Bx w5 B vs :=
  (h.on (box_b w o)).same (hg.block B (by have := h.lt; simp; omega) hn)

/-- .. and the store into its box -/
theorem Jg.fin {w : World} {f : Int} {sa : Value} {g : Int} {sb : Value} {x : Int} {v : Value} {zs : List Int} {q : Nat} {n c : Nat} {w5 : World}
    (h : K2 w f sa g sb w5) (hr : Bx w5 (w.heap.size + 2) [.int .i64 0, .slice none 0 0]) (hob : Bx w5 (w.heap.size + 4) [.int .i64 x, v]) (hown : OwnI (w.heap.size + 3) w5 (.slice (some ⟨q, 0, none⟩) n c) zs) (hne : q ≠ w.heap.size + 4) (hs : w.heap.size + 4 < w5.heap.size) :
    Jg w f sa g sb x (.slice (some ⟨q, 0, none⟩) n c) zs (w5.setCell ⟨w.heap.size + 4, 1, none⟩ (.slice (some ⟨q, 0, none⟩) n c)) := by
  have far : ∀ k, k ≠ w.heap.size + 4 → (w5.setCell ⟨w.heap.size + 4, 1, none⟩ (.slice (some ⟨q, 0, none⟩) n c)).heap[k]? = w5.heap[k]? := fun k hk => far_setCell _ _ _ _ hk
  refine ⟨⟨?_, ?_, ?_, ?_, ?_⟩, hr.same (far _ (by omega)), hob.set1 _, ?_, ?_, by simpa [World.setCell] using hs⟩
  · exact (World.cell?_of_block (w := w5) (a := ⟨w.heap.size, 0, none⟩) (far _ (by simp))).trans h.t0
  · exact (World.cell?_of_block (w := w5) (a := ⟨w.heap.size, 1, none⟩) (far _ (by simp))).trans h.t1
  · exact (World.cell?_of_block (w := w5) (a := ⟨w.heap.size + 1, 0, none⟩) (far _ (by simp))).trans h.u0
  · exact (World.cell?_of_block (w := w5) (a := ⟨w.heap.size + 1, 1, none⟩) (far _ (by simp))).trans h.u1
  · exact h.low.setCell (p := ⟨w.heap.size + 4, 1, none⟩) (by show w.heap.size ≤ w.heap.size + 4; omega) _
  · have hh := hown
    obtain ⟨h1, h0 | ⟨g', cap, cur, hv, hgb, hcell, r⟩⟩ := hown
    · exact absurd h0.1 (by simp)
    · refine ⟨h1, .inr ⟨g', cap, cur, hv, hgb, ?_, r⟩⟩
      simp only [Value.slice.injEq, Option.some.injEq, Addr.mk.injEq] at hv
      obtain ⟨⟨rfl, _⟩, _⟩ := hv
      rw [far_setCell _ _ _ _ hne]
      exact hcell
  · simp [Value.ownBlock]; omega

theorem K2.grown {w : World} {f : Int} {sa : Value} {g : Int} {sb : Value} {W w5 : World} {v : Value} {zs : List Int} {o : Obj} (h : K2 w f sa g sb W) (hown : OwnI (w.heap.size + 3) W v zs) (hs : w.heap.size + 4 < W.heap.size) (hg : (W.alloc o).grownBy w5 v.ownBlock) : K2 w f sa g sb w5 := by
  have hb := app_below hown (by omega) hg
  exact ⟨(hb.cell (p := ⟨w.heap.size, 0, none⟩) (by simp)).trans h.t0, (hb.cell (p := ⟨w.heap.size, 1, none⟩) (by simp)).trans h.t1, (hb.cell (p := ⟨w.heap.size + 1, 0, none⟩) (by simp)).trans h.u0, (hb.cell (p := ⟨w.heap.size + 1, 1, none⟩) (by simp)).trans h.u1, h.low.trans (hb.mono (by omega))⟩

/-- what a step of the model's joint table leaves as it was -/
structure SJ (w : World) (f : Int) (sa : Value) (g : Int) (sb : Value) (W : World) : Prop where
  k2 : K2 w f sa g sb W
  rb : Bx W (w.heap.size + 2) [.int .i64 0, .slice none 0 0]
  size : w.heap.size + 4 < W.heap.size

theorem SJ.on {w : World} {f : Int} {sa : Value} {g : Int} {sb : Value} {W W' : World} (h : SJ w f sa g sb W) (hb : Below W.heap.size W W') : SJ w f sa g sb W' :=
  ⟨h.k2.on hb, h.rb.on hb, Nat.lt_of_lt_of_le h.size hb.size⟩

theorem SJ.drew {w : World} {f : Int} {sa : Value} {g : Int} {sb : Value} {W : World} (h : SJ w f sa g sb W) : SJ w f sa g sb W.drew :=
  ⟨⟨cell_drew h.k2.t0, cell_drew h.k2.t1, cell_drew h.k2.u0, cell_drew h.k2.u1, h.k2.low.drew⟩, h.rb, h.size⟩

theorem SJ.app {w : World} {f : Int} {sa : Value} {g : Int} {sb : Value} {W w5 : World} {row : Option Nat} (h : SJ w f sa g sb W) (hg : W.grownBy w5 row) (hr : ∀ k, row = some k → w.heap.size + 3 ≤ k) : SJ w f sa g sb w5 := by
  have hs := h.size
  have far : ∀ k, k < w.heap.size + 3 → w5.heap[k]? = W.heap[k]? := fun k hk => hg.block k (by omega) (fun e => by have := hr k e.symm; omega)
  refine ⟨⟨?_, ?_, ?_, ?_, h.k2.low.grown hg (by omega) (fun k hk => by have := hr k hk; omega)⟩, h.rb.same (far _ (by omega)), Nat.lt_of_lt_of_le hs hg.size⟩
  · exact (World.cell?_of_block (w := W) (a := ⟨w.heap.size, 0, none⟩) (far _ (by simp))).trans h.k2.t0
  · exact (World.cell?_of_block (w := W) (a := ⟨w.heap.size, 1, none⟩) (far _ (by simp))).trans h.k2.t1
  · exact (World.cell?_of_block (w := W) (a := ⟨w.heap.size + 1, 0, none⟩) (far _ (by simp))).trans h.k2.u0
  · exact (World.cell?_of_block (w := W) (a := ⟨w.heap.size + 1, 1, none⟩) (far _ (by simp))).trans h.k2.u1

theorem SJ.set {w : World} {f : Int} {sa : Value} {g : Int} {sb : Value} {W : World} (h : SJ w f sa g sb W) (v : Value) : SJ w f sa g sb (W.setCell ⟨w.heap.size + 4, 1, none⟩ v) := by
  have far : ∀ k, k < w.heap.size + 3 → (W.setCell ⟨w.heap.size + 4, 1, none⟩ v).heap[k]? = W.heap[k]? := fun k hk => far_setCell _ _ _ _ (by show k ≠ w.heap.size + 4; omega)
  refine ⟨⟨?_, ?_, ?_, ?_, h.k2.low.setCell (p := ⟨w.heap.size + 4, 1, none⟩) (by show w.heap.size ≤ w.heap.size + 4; omega) _⟩, h.rb.same (far _ (by omega)), by have := h.size; simpa [World.setCell] using this⟩
  · exact (World.cell?_of_block (w := W) (a := ⟨w.heap.size, 0, none⟩) (far _ (by simp))).trans h.k2.t0
  · exact (World.cell?_of_block (w := W) (a := ⟨w.heap.size, 1, none⟩) (far _ (by simp))).trans h.k2.t1
  · exact (World.cell?_of_block (w := W) (a := ⟨w.heap.size + 1, 0, none⟩) (far _ (by simp))).trans h.k2.u0
  · exact (World.cell?_of_block (w := W) (a := ⟨w.heap.size + 1, 1, none⟩) (far _ (by simp))).trans h.k2.u1

theorem sjS {w : World} {f : Int} {sa : Value} {g : Int} {sb : Value} {W : World} {x : Int} {v : Value} (h : SJ w f sa g sb W) (k : Bx W (w.heap.size + 4) [.int .i64 x, v]) :
    W.cell? ⟨w.heap.size, 0, none⟩ = some (.int .i64 f) ∧ W.cell? ⟨w.heap.size, 1, none⟩ = some sa ∧ W.cell? ⟨w.heap.size + 1, 0, none⟩ = some (.int .i64 g) ∧ W.cell? ⟨w.heap.size + 1, 1, none⟩ = some sb ∧ W.cell? ⟨w.heap.size + 1 + 1 + 1 + 1, 1, none⟩ = some v ∧ w.heap.size + 3 ≤ W.heap.size ∧ Hid (SJ w f sa g sb W) :=
  ⟨h.k2.t0, h.k2.t1, h.k2.u0, h.k2.u1, k.two.2, by have := h.size; omega, Lib.hid h⟩

theorem own_sh3 {base : Nat} {w : World} {v : Value} {ys : List Int} (h : OwnI base w v ys) (hl : 0 < ys.length) : ∃ g n c, v = .slice (some ⟨g, 0, none⟩) n c ∧ base ≤ g ∧ n = ys.length := by
  obtain ⟨_, h0 | ⟨g, cap, cur, hv, hb, _⟩⟩ := h
  · omega
  · exact ⟨g, _, cap, hv, hb, rfl⟩

/-- the new block of an append is not the table's box -/
theorem own_ne {w W : World} {o : Obj} {v : Value} {g n c : Nat} (hne : v.ownBlock ≠ some (w.heap.size + 4)) (hs : w.heap.size + 4 < W.heap.size) (hw : (Value.slice (some ⟨g, 0, none⟩) n c).ownBlock = v.ownBlock ∨ (Value.slice (some ⟨g, 0, none⟩) n c).ownBlock = some (W.alloc o).heap.size) : g ≠ w.heap.size + 4 := by
  rcases hw with h | h
  · intro e; subst e; exact hne h.symm
  · simp [Value.ownBlock] at h; omega

/-- it is handed over -/
theorem Jg.post {w : World} {f : Int} {sa : Value} {g : Int} {sb : Value} {x : Int} {q n c : Nat} {zs ys : List Int} {W : World} (H : Jg w f sa g sb x (.slice (some ⟨q, 0, none⟩) n c) zs W) (he : zs = ys) (hl : n = zs.length) (hp : 0 < n) (hn : n ≤ 4096) :
    JtPost x ys w (.returned (.agg #[.int .i64 x, .slice (some ⟨q, 0, none⟩) n c])) ((W.setCell ⟨w.heap.size + 2, 0, none⟩ (.int .i64 x)).setCell ⟨w.heap.size + 2, 1, none⟩ (.slice (some ⟨q, 0, none⟩) n c)) := by
  subst he
  subst hl
  have hrow := H.own.row
  have hq : w.heap.size + 3 ≤ q := by
    obtain ⟨g', c', hv, hb⟩ := own_shj H.own hp
    simp only [Value.slice.injEq, Option.some.injEq, Addr.mk.injEq] at hv
    omega
  have ho : Only (w.heap.size + 2) W ((W.setCell ⟨w.heap.size + 2, 0, none⟩ (.int .i64 x)).setCell ⟨w.heap.size + 2, 1, none⟩ (.slice (some ⟨q, 0, none⟩) zs.length c)) := ((Only.refl _ W).setCell (p := ⟨w.heap.size + 2, 0, none⟩) rfl _).setCell (p := ⟨w.heap.size + 2, 1, none⟩) rfl _
  refine ⟨_, _, _, rfl, ⟨rfl, hn, .inr ⟨q, 0, rfl, by omega, ?_, hrow.only ho (by omega)⟩⟩, H.k2.low.trans (ho.below (by omega))⟩
  rw [ho.size]
  exact hrow.lt hp

/-- in whatever order, and S behind each operation but L -/
def wpTill (Pg : Program) (md : Region.Mode) (ops : Array Oper) (Q : Exit → Act → World → Prop) (S : World → Prop) (L : Nat) : Nat → Array Bool → Act → World → Prop
  | 0, listed, a, w => Region.ready md ops listed = [] ∧ Q .normal a w
  | n + 1, listed, a, w => (Region.ready md ops listed = [] → Q .normal a w) ∧ ∀ i ∈ Region.ready md ops listed, wpOp Pg ops Q i (fun a' w' => (i ≠ L → S w') ∧ wpTill Pg md ops Q S L n (listed.setIfInBounds i true) a' w') a w

section
variable {Pg : Program} {ops : Array Oper} {Q : Exit → Act → World → Prop} {md : Region.Mode} {S : World → Prop} {L : Nat}

theorem wpTill_any : ∀ (n : Nat) (listed : Array Bool) (a : Act) (w : World), wpTill Pg md ops Q S L n listed a w → wpAny Pg md ops Q n listed a w
  | 0, _, _, _, h => h
  | n + 1, _, _, _, h => ⟨h.1, fun i hi => wpOp_mono (fun a' w' h' => wpTill_any n _ a' w' h'.2) (h.2 i hi)⟩

theorem wpTill_done {listed : Array Bool} {a : Act} {w : World} (hr : Region.ready md ops listed = []) (h : Q .normal a w) : ∀ n, wpTill Pg md ops Q S L n listed a w
  | 0 => ⟨hr, h⟩
  | _ + 1 => ⟨fun _ => h, by rw [hr]; simp⟩

theorem wpTill_start {id : Nat} {a : Act} {w : World} (hm : Pg.follows .mixedOrders = true) (hS : S w.drew)
    (h : S w.drew → wpTill Pg .any ops Q S L ops.size (Array.replicate ops.size false) a w.drew) : (Code.region id ops true).wp Pg Q a w :=
  wp_region_any hm (wpTill_any _ _ _ _ (h hS))

/-- does j wait for i, at n removes? -/
def reaches (md : Region.Mode) (ops : Array Oper) : Nat → Nat → Nat → Bool
  | 0, _, _ => false
  | n + 1, j, i => match ops[j]? with
    | some o => o.after.any fun e => Region.binds md e && (e.on == i || reaches md ops n e.on i)
    | none => false

/-- what has come up has all that it waits for behind it -/
def Closed (md : Region.Mode) (ops : Array Oper) (listed : Array Bool) : Prop := ∀ j o, ops[j]? = some o → listed.getD j false = true → ∀ e ∈ o.after, Region.binds md e = true → listed.getD e.on false = true

def closedB (md : Region.Mode) (ops : Array Oper) (listed : Array Bool) : Bool := (List.range ops.size).all fun j => !listed.getD j false || match ops[j]? with
  | some o => o.after.all fun e => !Region.binds md e || listed.getD e.on false
  | none => true

theorem closed_of {listed : Array Bool} (h : closedB md ops listed = true) : Closed md ops listed := by
  intro j o ho hj e he hb
  unfold closedB at h
  rw [List.all_eq_true] at h
  have h1 := h j (List.mem_range.2 (Array.getElem?_eq_some_iff.1 ho).1)
  rw [ho, hj] at h1
  simp only [Bool.not_true, Bool.false_or, Array.all_eq_true_iff_forall_mem] at h1
  have h2 := h1 e he
  rw [hb] at h2
  simpa using h2

theorem Closed.set {listed : Array Bool} (h : Closed md ops listed) {i : Nat} (hi : i ∈ Region.ready md ops listed) : Closed md ops (listed.setIfInBounds i true) := by
  intro j o ho hj e he hb
  by_cases hji : i = j
  · subst hji
    obtain ⟨_, o', ho', hall⟩ := mem_ready.1 hi
    rw [ho] at ho'
    cases ho'
    exact getD_set_true (hall e he hb)
  · rw [getD_set_ne false hji] at hj
    exact getD_set_true (h j o ho hj e he hb)

theorem Closed.reach {listed : Array Bool} (h : Closed md ops listed) : ∀ (n j i : Nat), (∀ o, ops[j]? = some o → ∀ e ∈ o.after, Region.binds md e = true → listed.getD e.on false = true) → reaches md ops n j i = true → listed.getD i false = true
  | 0, _, _, _, hr => by simp [reaches] at hr
  | n + 1, j, i, hd, hr => by
    unfold reaches at hr
    split at hr
    · rename_i o ho
      simp only [Array.any_eq_true, Bool.and_eq_true, Bool.or_eq_true, beq_iff_eq] at hr
      obtain ⟨k, hk, hb, he⟩ := hr
      have h1 := hd o ho _ (Array.getElem_mem hk) hb
      rcases he with he | he
      · rw [← he]; exact h1
      · exact h.reach n _ i (fun o' ho' e' he' hb' => h _ o' ho' h1 e' he' hb') he
    · cases hr

theorem waits {n i : Nat} {listed : Array Bool} (hc : Closed md ops listed) (hw : reaches md ops n L i = true) (hi : listed.getD i true = false) (hL : L ∈ Region.ready md ops listed) : False := by
  obtain ⟨_, o, ho, hall⟩ := mem_ready.1 hL
  have h1 := hc.reach n L i (fun o' ho' e he hb => by rw [ho] at ho'; cases ho'; exact hall e he hb) hw
  rcases Nat.lt_or_ge i listed.size with h' | h'
  · simp [h'] at hi h1; rw [hi] at h1; cases h1
  · simp [Array.getElem?_eq_none h'] at h1

theorem wpTill_first {i : Nat} {oi : Oper} {v : Value} (hi : ops[i]? = some oi) (hsel : ∀ (j : Nat) (o : Oper) cs b, ops[j]? = some o → o.op ≠ .select cs b)
    (hQ : ∀ c a w, Q (.panic c) (a.put oi.dst v) w → Q (.panic c) a w) {m : Nat} (hw : reaches md ops m L i = true) :
    ∀ (n : Nat) (listed : Array Bool) (a : Act) (w : World), Closed md ops listed →
      (∀ j oj, ops[j]? = some oj → j ≠ i → listed.getD j true = false → (∀ e ∈ oj.after, Region.binds md e = true → e.on ≠ i) → oi.apart ops oj = true) →
      i ∈ Region.ready md ops listed → YieldsIf Pg ops S oi v a → S w →
      wpTill Pg md ops Q S L n (listed.setIfInBounds i true) (a.put oi.dst v) w → wpTill Pg md ops Q S L (n + 1) listed a w := by
  intro n
  induction n with
  | zero =>
    intro listed a w _ _ hr hy hS H
    refine ⟨fun h => (by rw [h] at hr; cases hr), fun j hj => ?_⟩
    by_cases hji : j = i
    · subst hji; exact hy.wpOp hi hS ⟨fun _ => hS, H⟩
    · have := ready_mono hj hji
      rw [H.1] at this
      cases this
  | succ n ih =>
    intro listed a w hcl hfree hr hy hS H
    refine ⟨fun h => (by rw [h] at hr; cases hr), fun j hj => ?_⟩
    by_cases hji : j = i
    · subst hji; exact hy.wpOp hi hS ⟨fun _ => hS, H⟩
    · have hi0 := (mem_ready.1 hr).1
      have hjL : j ≠ L := fun e => by subst e; exact waits hcl hw hi0 hj
      obtain ⟨hjun, oj, hoj, hall⟩ := mem_ready.1 hj
      have hnot : ∀ e ∈ oj.after, Region.binds md e = true → e.on ≠ i := fun e he hb heq => by
        have h1 := hall e he hb
        rw [heq] at h1
        rcases Nat.lt_or_ge i listed.size with h' | h'
        · simp [h'] at hi0 h1; rw [hi0] at h1; cases h1
        · simp [Array.getElem?_eq_none h'] at h1
      have h2 := wpOp_putIf hoj (hfree j oj hoj hji hjun hnot) (fun cs b => hsel i oi cs b hi) (fun cs b => hsel j oj cs b hoj) hQ hy (H.2 j (ready_mono hj hji))
      refine wpOp_mono (fun a' w' h3 => ⟨h3.2.1, ih (listed.setIfInBounds j true) a' w' (hcl.set hj) (fun k ok hk hki hun hno => ?_) (ready_mono hr (Ne.symm hji)) h3.1 (h3.2.1 hjL) ?_⟩) h2
      · refine hfree k ok hk hki ?_ hno
        by_cases hjk : j = k
        · subst hjk; exact hjun
        · rw [getD_set_ne true hjk] at hun; exact hun
      · rw [Array.setIfInBounds_comm _ _ hji]
        exact h3.2.2

theorem wpTill_take {i : Nat} {oi : Oper} {v : Value} {n : Nat} {listed : Array Bool} {a : Act} {w : World} (hi : ops[i]? = some oi)
    (hs : Region.noSelect ops = true) (hf : Region.free md ops listed i = true) (hr : (Region.ready md ops listed).contains i = true) (hc : closedB md ops listed = true) (hw : reaches md ops 12 L i = true)
    (hQ : ∀ c a w, Q (.panic c) (a.put oi.dst v) w → Q (.panic c) a w) (hy : YieldsIf Pg ops S oi v a) (hS : S w)
    (h : wpTill Pg md ops Q S L n (listed.setIfInBounds i true) (a.put oi.dst v) w) : wpTill Pg md ops Q S L (n + 1) listed a w :=
  wpTill_first hi (Region.noSelect_spec hs) hQ hw n listed a w (closed_of hc) (Region.free_spec hi hf) (by simpa using hr) hy hS h

/-- those that may come up next -/
def AllTill (Pg : Program) (md : Region.Mode) (ops : Array Oper) (Q : Exit → Act → World → Prop) (S : World → Prop) (L n : Nat) (listed : Array Bool) (a : Act) (w : World) (rs : List Nat) : Prop :=
  ∀ i ∈ rs, wpOp Pg ops Q i (fun a' w' => (i ≠ L → S w') ∧ wpTill Pg md ops Q S L n (listed.setIfInBounds i true) a' w') a w

theorem AllTill.nil {n : Nat} {listed : Array Bool} {a : Act} {w : World} : AllTill Pg md ops Q S L n listed a w [] := fun _ h => by cases h

theorem AllTill.cons {n : Nat} {listed : Array Bool} {a : Act} {w : World} {i : Nat} {o : Oper} {rs : List Nat} (ho : ops[i]? = some o)
    (h : ∀ K' : Act → World → Prop, Shut (∀ a w, (i ≠ L → S w) → ((i ≠ L → S w) → wpTill Pg md ops Q S L n (listed.setIfInBounds i true) a w) → K' a w) → if Region.wanted o (yielded ops a.tmps) = true then Oper.wp Pg o a w K' Q else K' (a.put o.dst undef) w)
    (hs : AllTill Pg md ops Q S L n listed a w rs) : AllTill Pg md ops Q S L n listed a w (i :: rs) := fun j hj => by
  rcases List.mem_cons.1 hj with rfl | hj
  · exact wpOp_step ho (fun K' hK => h K' (fun a w hS hW => hK a w ⟨hS, hW hS⟩))
  · exact hs j hj

theorem wpTill_ready {rs : List Nat} {n : Nat} {listed : Array Bool} {a : Act} {w : World} (hr : Region.ready md ops listed = rs) (hne : rs ≠ [])
    (h : AllTill Pg md ops Q S L n listed a w rs) : wpTill Pg md ops Q S L (n + 1) listed a w :=
  ⟨fun h0 => absurd (hr ▸ h0) hne, hr ▸ h⟩

end

set_option linter.unusedSimpArgs false

set_option maxHeartbeats 40000000 in
theorem sjoint_any (f : Int) (xs : List Int) (a : Option Addr) (l c : Nat) (x : Int) (g : Int) (ys : List Int) (b : Option Addr) (m d : Nat) (y : Int) (w : World) (h : Ints w a l xs) (k : Ints w b m ys) (hD : Duo f xs x g ys y) :
    Calls Tryz.prog 28 #[.agg #[.int .i64 f, .slice a l c], .int .i64 x, .agg #[.int .i64 g, .slice b m d], .int .i64 y] w (JtPost x (jtL f xs x g ys y) w) := by
  have H := Lib.hid h
  have K := Lib.hid k
  have HD := Lib.hid hD
  obtain ⟨f0, f1⟩ := hD.t.1
  obtain ⟨g0, g1⟩ := hD.u.1
  have x0 := hD.x0
  have x1 := hD.x1
  have y0 := hD.y0
  have y1 := hD.y1
  obtain ⟨n0, n1⟩ := hD.jn_le
  have HP := Lib.hid hD.jn_pos
  have HZ := Lib.hid hD.jn_hit
  have HA : Hid (jtK f xs x g ys y (jn f xs x g ys y + 1) = jtL f xs x g ys y) := Lib.hid jtK_all
  have HG0 : Hid (Jg w f (.slice a l c) g (.slice b m d) x (.slice (some ⟨w.heap.size + 3, 0, none⟩) 0 0) (jtK f xs x g ys y 0) (((((w.alloc (.cells #[.int .i64 f, .slice a l c] 26)).alloc (.cells #[.int .i64 g, .slice b m d] 26)).alloc (.cells #[.int .i64 0, .slice none 0 0] 26)).alloc (.cells #[] 2)).alloc (.cells #[.int .i64 x, .slice (some ⟨w.heap.size + 3, 0, none⟩) 0 0] 26))) := Lib.hid (by
    have k1 := K2.new w f (.slice a l c) g (.slice b m d) 26 26
    generalize e1 : ((w.alloc (.cells #[.int .i64 f, .slice a l c] 26)).alloc (.cells #[.int .i64 g, .slice b m d] 26)) = W1 at k1 ⊢
    have s1 : W1.heap.size = w.heap.size + 2 := by rw [← e1]; simp
    have r1 := Bx.new W1 [.int .i64 0, .slice none 0 0] 26
    have k2 := k1.on (box_b W1 (.cells #[.int .i64 0, .slice none 0 0] 26))
    rw [s1] at r1
    generalize e2 : W1.alloc (.cells #[.int .i64 0, .slice none 0 0] 26) = W2 at r1 k2 ⊢
    have s2 : W2.heap.size = w.heap.size + 3 := by rw [← e2]; simp [s1]
    have o1 := ownI_new W2
    have k3 := k2.on (box_b W2 (.cells #[] 2))
    have r2 := r1.on (box_b W2 (.cells #[] 2))
    rw [s2] at o1
    generalize e3 : W2.alloc (.cells #[] 2) = W3 at o1 k3 r2 ⊢
    have s3 : W3.heap.size = w.heap.size + 4 := by rw [← e3]; simp [s2]
    have q1 := Bx.new W3 [.int .i64 x, .slice (some ⟨w.heap.size + 3, 0, none⟩) 0 0] 26
    rw [s3] at q1
    exact ⟨k3.on (box_b _ _), r2.on (box_b _ _), q1, o1.on (box_b _ _), by simp [Value.ownBlock], by simp [s3]⟩)
  obtain ⟨N, hN⟩ : ∃ y_, jn f xs x g ys y = y_ := ⟨_, rfl⟩
  rw [hN] at n0 n1 HP HZ HA
  have CL : Hid (∀ (z : Int), f ≤ z → z ≤ 1000 → ∀ W, Hid (SJ w f (.slice a l c) g (.slice b m d) W) → Calls Tryz.prog 39 #[.agg #[.int .i64 f, .slice a l c], .int .i64 z] W fun e w' => e = .returned (.int .i64 (lvs f xs z)) ∧ Below W.heap.size W w') :=
    Lib.hid (fun z z0 z1 W hW => lives_any f xs a l c z W (H.out.on hW.out.k2.low) f0 f1 z0 z1)
  have CM : Hid (∀ (z : Int), g ≤ z → z ≤ 1000 → ∀ W, Hid (SJ w f (.slice a l c) g (.slice b m d) W) → Calls Tryz.prog 39 #[.agg #[.int .i64 g, .slice b m d], .int .i64 z] W fun e w' => e = .returned (.int .i64 (lvs g ys z)) ∧ Below W.heap.size W w') :=
    Lib.hid (fun z z0 z1 W hW => lives_any g ys b m d z W (K.out.on hW.out.k2.low) g0 g1 z0 z1)
  clear h k hD hN
  go_enter Tryz.func28, Tryz.ntmps28
  go_wp2_with fail
  go_loopw [10] (fun i wr => ∃ (k : Nat) (v : Value), k ≤ N + 1 ∧ i = .int .i64 k ∧ Hid (Jg w f (.slice a l c) g (.slice b m d) x v (jtK f xs x g ys y k) wr)) (fun i _ => 200 - (intOf i).toNat)
  case atStart => exact ⟨0, _, by omega, rfl, HG0⟩
  case round =>
    clear HG0
    obtain ⟨k, v, hk, rfl, HG⟩ := hrel
    have hsj : SJ w f (.slice a l c) g (.slice b m d) wr := ⟨HG.out.k2, HG.out.rb, HG.out.size⟩
    have hob := HG.out.ob
    have hown := HG.out.own
    have hne := HG.out.ne
    have hv := hob.two.2
    have hv0 := hob.two.1
    have hf := hob.free 1
    have hr0 := HG.out.rb.two.1
    have hr1 := HG.out.rb.two.2
    have hg0 := HG.out.rb.free 0
    have hg1 := HG.out.rb.free 1
    have hsz := HG.out.size
    by_cases hlast : k = N + 1
    · obtain ⟨q, n, cc, rfl, hq, hn⟩ := own_sh3 hown (by rw [jtK_len]; omega)
      have hrow : RowI wr q 0 (jtK f xs x g ys y k) := by subst hn; exact hown.row
      have hcell := hrow.cell N (by rw [jtK_len]; omega)
      rw [jtK_get _ _ (by omega), HZ.out, Nat.zero_add] at hcell
      rw [jtK_len] at hn
      have hk0 : ((k : Int) == 0) = false := by simp; omega
      have q1 : IntKind.i64.wrap ((k : Int) - 1) = (N : Int) := by rw [show (k : Int) - 1 = (N : Int) by omega]; exact IntWalk.i64_in _ (by omega)
      have hNn : N < n := by omega
      have HPO := Lib.hid (HG.out.post (ys := jtL f xs x g ys y) (by rw [hlast]; exact HA.out) (by rw [jtK_len]; exact hn) (by omega) (by omega))
      clear hrow hown hob hsj hlast hn hk HG
      go_wp2_with fail
      exact bodyPost_ret (v := .agg #[.int .i64 x, .slice (some ⟨q, 0, none⟩) n cc]) (by simp [results, Tryz.results28, go_sem, hr0, hr1]) rfl HPO.out
    · have hkN : k ≤ N := by omega
      have HSUC := Lib.hid (jtK_succ (f := f) (xs := xs) (x := x) (g := g) (ys := ys) (y := y) k)
      have HLE : Hid ((jtK f xs x g ys y k).length ≤ 4096) := Lib.hid (by rw [jtK_len]; omega)
      have HJ : Hid (jv f xs x g ys y k = lvs f xs (x + k) * lvs g ys (y + k) / lvs g ys y) := Lib.hid rfl
      obtain ⟨a0, a1⟩ := HD.out.t.lvs_bd (x + k)
      obtain ⟨b0, b1⟩ := HD.out.u.lvs_bd (y + k)
      obtain ⟨d0, d1⟩ := HD.out.u.lvs_bd y
      have d2 := HD.out.uy
      obtain ⟨j0, j1⟩ := HD.out.jv_bd k
      have C1 := Lib.hid (CL.out (x + k) (by omega) (by omega))
      have C2 := Lib.hid (CM.out (y + k) (by omega) (by omega))
      have C3 := Lib.hid (CM.out y (by omega) (by omega))
      obtain ⟨V, hV⟩ : ∃ y_, jv f xs x g ys y k = y_ := ⟨_, rfl⟩
      obtain ⟨A, hA⟩ : ∃ y_, lvs f xs (x + k) = y_ := ⟨_, rfl⟩
      obtain ⟨B, hB⟩ : ∃ y_, lvs g ys (y + k) = y_ := ⟨_, rfl⟩
      obtain ⟨D, hD⟩ : ∃ y_, lvs g ys y = y_ := ⟨_, rfl⟩
      rw [hV] at HSUC HJ j0 j1
      rw [hA] at HJ a0 a1 C1 j1
      rw [hB] at HJ b0 b1 C2
      rw [hD] at HJ d0 d1 d2 C3
      clear hV hA hB hD
      have e0 : 0 ≤ A * B := Int.mul_nonneg a0 b0
      have e1 : A * B ≤ 1000000000000 := by
        have := Int.mul_le_mul a1 b1 b0 (show (0 : Int) ≤ 1000000 by omega); omega
      obtain ⟨P0, hP0⟩ : ∃ y_, A * B = y_ := ⟨_, rfl⟩
      rw [hP0] at HJ e0 e1
      have q1 : IntKind.i64.wrap (x + (k : Int)) = x + k := IntWalk.i64_in _ (by omega)
      have q2 : IntKind.i64.wrap (y + (k : Int)) = y + k := IntWalk.i64_in _ (by omega)
      have q3 : IntKind.i64.wrap (A * B) = P0 := by rw [hP0]; exact IntWalk.i64_in _ (by omega)
      have q4 : IntKind.i64.wrap (P0.tdiv D) = V := by rw [Int.tdiv_eq_ediv_of_nonneg e0, ← HJ.out]; exact IntWalk.i64_in _ (by omega)
      have q5 : 0 < D := by omega
      have q6 : ¬ D = 0 := by omega
      obtain ⟨zs, hzs⟩ : ∃ y_, jtK f xs x g ys y k = y_ := ⟨_, rfl⟩
      rw [hzs] at hown HSUC HLE
      have HNE := Lib.hid hne
      have hsz2 := hsz
      by_cases hz : k = 0
      · have hk0 : ((k : Int) == 0) = true := by simp; omega
        clear hz hzs hP0 hr0 hr1 hg0 hg1 hlast hv0 HG CL CM
        go_wp2_with fail
        have hown : OwnI (w.heap.size + 3) wr.drew v zs := hown
        have hob : Bx wr.drew (w.heap.size + 4) [.int .i64 x, v] := hob
        have hf : wr.drew.frozen? ⟨w.heap.size + 4, 1, none⟩ = false := hf
        have hsz : w.heap.size + 4 < wr.drew.heap.size := hsz
        refine wpTill_start (S := fun w' => w'.cell? ⟨w.heap.size, 0, none⟩ = some (.int .i64 f) ∧ w'.cell? ⟨w.heap.size, 1, none⟩ = some (.slice a l c) ∧ w'.cell? ⟨w.heap.size + 1, 0, none⟩ = some (.int .i64 g) ∧ w'.cell? ⟨w.heap.size + 1, 1, none⟩ = some (.slice b m d) ∧ w'.cell? ⟨w.heap.size + 1 + 1 + 1 + 1, 1, none⟩ = some v ∧ w.heap.size + 3 ≤ w'.heap.size ∧ Hid (SJ w f (.slice a l c) g (.slice b m d) w')) (L := 20) (by kernel_rfl) (sjS hsj.drew hob) (fun hHeld => ?_)
        refine wpTill_take (i := 0) (v := ?_) rfl (by kernel_rfl) (by kernel_rfl) (by kernel_rfl) (by kernel_rfl) (by kernel_rfl) (fun _ _ _ h => h) (Or.inl ⟨by rfl, ?_⟩) (by assumption) ?_
        rotate_left
        · (intro w hSw; (try dsimp only at hSw); go_simp; try with_reducible rfl)
        try simp only [Act.put, List.setIfInBounds_toArray, List.set_cons_zero, List.set_cons_succ]
        refine wpTill_take (i := 1) (v := ?_) rfl (by kernel_rfl) (by kernel_rfl) (by kernel_rfl) (by kernel_rfl) (by kernel_rfl) (fun _ _ _ h => h) (Or.inl ⟨by rfl, ?_⟩) (by assumption) ?_
        rotate_left
        · (intro w hSw; (try dsimp only at hSw); go_simp; try with_reducible rfl)
        try simp only [Act.put, List.setIfInBounds_toArray, List.set_cons_zero, List.set_cons_succ]
        refine wpTill_take (i := 2) (v := ?_) rfl (by kernel_rfl) (by kernel_rfl) (by kernel_rfl) (by kernel_rfl) (by kernel_rfl) (fun _ _ _ h => h) (Or.inl ⟨by rfl, ?_⟩) (by assumption) ?_
        rotate_left
        · (intro w hSw; (try dsimp only at hSw); go_simp; try with_reducible rfl)
        try simp only [Act.put, List.setIfInBounds_toArray, List.set_cons_zero, List.set_cons_succ]
        refine wpTill_take (i := 3) (v := ?_) rfl (by kernel_rfl) (by kernel_rfl) (by kernel_rfl) (by kernel_rfl) (by kernel_rfl) (fun _ _ _ h => h) (Or.inl ⟨by rfl, ?_⟩) (by assumption) ?_
        rotate_left
        · (intro w hSw; (try dsimp only at hSw); go_simp; try with_reducible rfl)
        try simp only [Act.put, List.setIfInBounds_toArray, List.set_cons_zero, List.set_cons_succ]
        refine wpTill_take (i := 4) (v := ?_) rfl (by kernel_rfl) (by kernel_rfl) (by kernel_rfl) (by kernel_rfl) (by kernel_rfl) (fun _ _ _ h => h) (Or.inl ⟨by rfl, ?_⟩) (by assumption) ?_
        rotate_left
        · (intro w hSw; (try dsimp only at hSw); go_simp; try with_reducible rfl)
        try simp only [Act.put, List.setIfInBounds_toArray, List.set_cons_zero, List.set_cons_succ]
        refine wpTill_take (i := 5) (v := ?_) rfl (by kernel_rfl) (by kernel_rfl) (by kernel_rfl) (by kernel_rfl) (by kernel_rfl) (fun _ _ _ h => h) (Or.inl ⟨by rfl, ?_⟩) (by assumption) ?_
        rotate_left
        · (intro w hSw; (try dsimp only at hSw); go_simp; try with_reducible rfl)
        try simp only [Act.put, List.setIfInBounds_toArray, List.set_cons_zero, List.set_cons_succ]
        refine wpTill_take (i := 7) (v := ?_) rfl (by kernel_rfl) (by kernel_rfl) (by kernel_rfl) (by kernel_rfl) (by kernel_rfl) (fun _ _ _ h => h) (Or.inl ⟨by rfl, ?_⟩) (by assumption) ?_
        rotate_left
        · (intro w hSw; (try dsimp only at hSw); go_simp; try with_reducible rfl)
        try simp only [Act.put, List.setIfInBounds_toArray, List.set_cons_zero, List.set_cons_succ]
        refine wpTill_take (i := 8) (v := ?_) rfl (by kernel_rfl) (by kernel_rfl) (by kernel_rfl) (by kernel_rfl) (by kernel_rfl) (fun _ _ _ h => h) (Or.inl ⟨by rfl, ?_⟩) (by assumption) ?_
        rotate_left
        · (intro w hSw; (try dsimp only at hSw); go_simp; try with_reducible rfl)
        try simp only [Act.put, List.setIfInBounds_toArray, List.set_cons_zero, List.set_cons_succ]
        refine wpTill_take (i := 9) (v := ?_) rfl (by kernel_rfl) (by kernel_rfl) (by kernel_rfl) (by kernel_rfl) (by kernel_rfl) (fun _ _ _ h => h) (Or.inl ⟨by rfl, ?_⟩) (by assumption) ?_
        rotate_left
        · (intro w hSw; (try dsimp only at hSw); go_simp; try with_reducible rfl)
        try simp only [Act.put, List.setIfInBounds_toArray, List.set_cons_zero, List.set_cons_succ]
        refine wpTill_take (i := 10) (v := ?_) rfl (by kernel_rfl) (by kernel_rfl) (by kernel_rfl) (by kernel_rfl) (by kernel_rfl) (fun _ _ _ h => h) (Or.inl ⟨by rfl, ?_⟩) (by assumption) ?_
        rotate_left
        · (intro w hSw; (try dsimp only at hSw); go_simp; try with_reducible rfl)
        try simp only [Act.put, List.setIfInBounds_toArray, List.set_cons_zero, List.set_cons_succ]
        refine wpTill_take (i := 13) (v := ?_) rfl (by kernel_rfl) (by kernel_rfl) (by kernel_rfl) (by kernel_rfl) (by kernel_rfl) (fun _ _ _ h => h) (Or.inl ⟨by rfl, ?_⟩) (by assumption) ?_
        rotate_left
        · (intro w hSw; (try dsimp only at hSw); go_simp; try with_reducible rfl)
        try simp only [Act.put, List.setIfInBounds_toArray, List.set_cons_zero, List.set_cons_succ]
        refine wpTill_take (i := 14) (v := ?_) rfl (by kernel_rfl) (by kernel_rfl) (by kernel_rfl) (by kernel_rfl) (by kernel_rfl) (fun _ _ _ h => h) (Or.inl ⟨by rfl, ?_⟩) (by assumption) ?_
        rotate_left
        · (intro w hSw; (try dsimp only at hSw); go_simp; try with_reducible rfl)
        try simp only [Act.put, List.setIfInBounds_toArray, List.set_cons_zero, List.set_cons_succ]
        refine wpTill_ready (rs := [6]) (by kernel_rfl) (by simp) ?_
        refine AllTill.cons (o := _) rfl (fun K hK => ?_) ?_
        · go_simp
          go_split_ands
          with_reducible refine (C1.out _ (by with_reducible assumption)).mono ?_
          rintro e w' ⟨rfl, hb⟩
          replace hown := OwnI.on hown hb
          replace hob := Bx.on hob hb
          replace hf := hob.free 1
          replace hsz := Nat.lt_of_lt_of_le hsz hb.size
          refine hK.out _ _ (fun _ => ?_) (fun hHeld => ?_)
          · exact sjS (SJ.on (Hid.out (by with_reducible assumption)) hb) hob
          have hHeld := hHeld (by decide)
          clear hK K
          try simp only [Act.put, List.setIfInBounds_toArray, List.set_cons_zero, List.set_cons_succ]
          refine wpTill_ready (rs := [11]) (by kernel_rfl) (by simp) ?_
          refine AllTill.cons (o := _) rfl (fun K hK => ?_) ?_
          · go_simp
            go_split_ands
            with_reducible refine (C2.out _ (by with_reducible assumption)).mono ?_
            rintro e w' ⟨rfl, hb⟩
            replace hown := OwnI.on hown hb
            replace hob := Bx.on hob hb
            replace hf := hob.free 1
            replace hsz := Nat.lt_of_lt_of_le hsz hb.size
            refine hK.out _ _ (fun _ => ?_) (fun hHeld => ?_)
            · exact sjS (SJ.on (Hid.out (by with_reducible assumption)) hb) hob
            have hHeld := hHeld (by decide)
            clear hK K
            try simp only [Act.put, List.setIfInBounds_toArray, List.set_cons_zero, List.set_cons_succ]
            refine wpTill_take (i := 12) (v := ?_) rfl (by kernel_rfl) (by kernel_rfl) (by kernel_rfl) (by kernel_rfl) (by kernel_rfl) (fun _ _ _ h => h) (Or.inl ⟨by rfl, ?_⟩) (by assumption) ?_
            rotate_left
            · (intro w hSw; (try dsimp only at hSw); go_simp; try with_reducible rfl)
            try simp only [Act.put, List.setIfInBounds_toArray, List.set_cons_zero, List.set_cons_succ]
            refine wpTill_ready (rs := [15]) (by kernel_rfl) (by simp) ?_
            refine AllTill.cons (o := _) rfl (fun K hK => ?_) ?_
            · go_simp
              go_split_ands
              with_reducible refine (C3.out _ (by with_reducible assumption)).mono ?_
              rintro e w' ⟨rfl, hb⟩
              replace hown := OwnI.on hown hb
              replace hob := Bx.on hob hb
              replace hf := hob.free 1
              replace hsz := Nat.lt_of_lt_of_le hsz hb.size
              refine hK.out _ _ (fun _ => ?_) (fun hHeld => ?_)
              · exact sjS (SJ.on (Hid.out (by with_reducible assumption)) hb) hob
              have hHeld := hHeld (by decide)
              clear hK K
              try simp only [Act.put, List.setIfInBounds_toArray, List.set_cons_zero, List.set_cons_succ]
              refine wpTill_take (i := 16) (v := ?_) rfl (by kernel_rfl) (by kernel_rfl) (by kernel_rfl) (by kernel_rfl) (by kernel_rfl) (fun _ _ _ h => h) (Or.inl ⟨by rfl, ?_⟩) (by assumption) ?_
              rotate_left
              · (intro w hSw; (try dsimp only at hSw); go_simp; try with_reducible rfl)
              try simp only [Act.put, List.setIfInBounds_toArray, List.set_cons_zero, List.set_cons_succ]
              refine wpTill_ready (rs := [17]) (by kernel_rfl) (by simp) ?_
              refine AllTill.cons (o := _) rfl (fun K hK => ?_) ?_
              · go_simp
                refine hK.out _ _ (fun _ => ?_) (fun hHeld => ?_)
                · exact sjS (SJ.on hHeld.2.2.2.2.2.2.out (box_b _ _)) (hob.on (box_b _ _))
                have hHeld := hHeld (by decide)
                clear hK K
                try simp only [Act.put, List.setIfInBounds_toArray, List.set_cons_zero, List.set_cons_succ]
                refine wpTill_ready (rs := [18]) (by kernel_rfl) (by simp) ?_
                refine AllTill.cons (o := _) rfl (fun K hK => ?_) ?_
                · refine step_apj (by rfl) _ _ (by rfl) (w.heap.size + 3) _ zs V (by rfl) (hown.same (fun k hk hl => Below.heap_alloc _ _ _ hl)) _ (by rfl) (one_newC _ V) HLE.out hHeld.2.2.2.2.2.1 ?_
                  intro v' w5 hown' hgrow hw
                  obtain ⟨q9, n9, c9, rfl, hq9, -⟩ := own_sh3 hown' (by simp)
                  have hne9 := own_ne HNE.out hsz hw
                  have hsj9 := SJ.app hHeld.2.2.2.2.2.2.out hgrow (fun k hk => (hown.lt k hk).1)
                  have hob9 := Bx.grown hob hgrow (Ne.symm HNE.out)
                  have hv9 := hob9.two.2
                  have hf9 := hob9.free 1
                  refine hK.out _ _ (fun _ => ?_) (fun hHeld => ?_)
                  · exact sjS hsj9 hob9
                  have hHeld := hHeld (by decide)
                  clear hK K
                  try simp only [Act.put, List.setIfInBounds_toArray, List.set_cons_zero, List.set_cons_succ]
                  refine wpTill_take (i := 19) (v := ?_) rfl (by kernel_rfl) (by kernel_rfl) (by kernel_rfl) (by kernel_rfl) (by kernel_rfl) (fun _ _ _ h => h) (Or.inl ⟨by rfl, ?_⟩) (by assumption) ?_
                  rotate_left
                  · (intro w hSw; (try dsimp only at hSw); go_simp; try with_reducible rfl)
                  try simp only [Act.put, List.setIfInBounds_toArray, List.set_cons_zero, List.set_cons_succ]
                  refine wpTill_ready (rs := [20]) (by kernel_rfl) (by simp) ?_
                  refine AllTill.cons (o := _) rfl (fun K hK => ?_) ?_
                  · go_simp
                    refine hK.out _ _ (fun h => absurd rfl h) (fun _ => ?_)
                    clear hK K
                    try simp only [Act.put, List.setIfInBounds_toArray, List.set_cons_zero, List.set_cons_succ]
                    refine wpTill_done (by kernel_rfl) ?_ _
                    have HG9 := Lib.hid (Jg.fin hsj9.k2 hsj9.rb hob9 hown' hne9 hsj9.size)
                    rw [← HSUC.out] at HG9
                    clear hsj9 hob9 hown' hgrow hw hv9 hf9 hown hob hf hHeld
                    go_wp2_with fail
                    go_roundw
                    case rel => exact ⟨k + 1, _, by omega, by go_num, HG9⟩
                    case measure => simp [intOf]; omega
                  exact AllTill.nil
                exact AllTill.nil
              exact AllTill.nil
            exact AllTill.nil
          exact AllTill.nil
        exact AllTill.nil
      · have hk0 : ((k : Int) == 0) = false := by simp; omega
        obtain ⟨q, n, cc, rfl, hq, hn⟩ := own_sh3 hown (by rw [← hzs, jtK_len]; omega)
        have hrow : RowI wr q 0 zs := by subst hn; exact hown.row
        have hl : zs.length = k := by rw [← hzs, jtK_len]
        obtain ⟨j, hj⟩ : ∃ j, k - 1 = j := ⟨_, rfl⟩
        have hcell := hrow.cell j (by omega)
        rw [← hzs, jtK_get _ _ (by omega), Nat.zero_add] at hcell
        have hu := HP.out j (by omega)
        obtain ⟨u, hu0⟩ : ∃ y_, jv f xs x g ys y j = y_ := ⟨_, rfl⟩
        rw [hu0] at hu hcell
        have q8 : IntKind.i64.wrap ((k : Int) - 1) = (j : Int) := by rw [show (k : Int) - 1 = (j : Int) by omega]; exact IntWalk.i64_in _ (by omega)
        have hjn : j < n := by omega
        have hu1 : 0 < u := by omega
        clear hz hzs hP0 hr0 hr1 hg0 hg1 hlast hv0 HG CL CM hrow hl hj hu0 hn hu
        go_wp2_with fail
        have hown : OwnI (w.heap.size + 3) wr.drew (.slice (some ⟨q, 0, none⟩) n cc) zs := hown
        have hob : Bx wr.drew (w.heap.size + 4) [.int .i64 x, (.slice (some ⟨q, 0, none⟩) n cc)] := hob
        have hf : wr.drew.frozen? ⟨w.heap.size + 4, 1, none⟩ = false := hf
        have hsz : w.heap.size + 4 < wr.drew.heap.size := hsz
        refine wpTill_start (S := fun w' => w'.cell? ⟨w.heap.size, 0, none⟩ = some (.int .i64 f) ∧ w'.cell? ⟨w.heap.size, 1, none⟩ = some (.slice a l c) ∧ w'.cell? ⟨w.heap.size + 1, 0, none⟩ = some (.int .i64 g) ∧ w'.cell? ⟨w.heap.size + 1, 1, none⟩ = some (.slice b m d) ∧ w'.cell? ⟨w.heap.size + 1 + 1 + 1 + 1, 1, none⟩ = some (.slice (some ⟨q, 0, none⟩) n cc) ∧ w.heap.size + 3 ≤ w'.heap.size ∧ Hid (SJ w f (.slice a l c) g (.slice b m d) w')) (L := 20) (by kernel_rfl) (sjS hsj.drew hob) (fun hHeld => ?_)
        refine wpTill_take (i := 0) (v := ?_) rfl (by kernel_rfl) (by kernel_rfl) (by kernel_rfl) (by kernel_rfl) (by kernel_rfl) (fun _ _ _ h => h) (Or.inl ⟨by rfl, ?_⟩) (by assumption) ?_
        rotate_left
        · (intro w hSw; (try dsimp only at hSw); go_simp; try with_reducible rfl)
        try simp only [Act.put, List.setIfInBounds_toArray, List.set_cons_zero, List.set_cons_succ]
        refine wpTill_take (i := 1) (v := ?_) rfl (by kernel_rfl) (by kernel_rfl) (by kernel_rfl) (by kernel_rfl) (by kernel_rfl) (fun _ _ _ h => h) (Or.inl ⟨by rfl, ?_⟩) (by assumption) ?_
        rotate_left
        · (intro w hSw; (try dsimp only at hSw); go_simp; try with_reducible rfl)
        try simp only [Act.put, List.setIfInBounds_toArray, List.set_cons_zero, List.set_cons_succ]
        refine wpTill_take (i := 2) (v := ?_) rfl (by kernel_rfl) (by kernel_rfl) (by kernel_rfl) (by kernel_rfl) (by kernel_rfl) (fun _ _ _ h => h) (Or.inl ⟨by rfl, ?_⟩) (by assumption) ?_
        rotate_left
        · (intro w hSw; (try dsimp only at hSw); go_simp; try with_reducible rfl)
        try simp only [Act.put, List.setIfInBounds_toArray, List.set_cons_zero, List.set_cons_succ]
        refine wpTill_take (i := 3) (v := ?_) rfl (by kernel_rfl) (by kernel_rfl) (by kernel_rfl) (by kernel_rfl) (by kernel_rfl) (fun _ _ _ h => h) (Or.inl ⟨by rfl, ?_⟩) (by assumption) ?_
        rotate_left
        · (intro w hSw; (try dsimp only at hSw); go_simp; try with_reducible rfl)
        try simp only [Act.put, List.setIfInBounds_toArray, List.set_cons_zero, List.set_cons_succ]
        refine wpTill_take (i := 4) (v := ?_) rfl (by kernel_rfl) (by kernel_rfl) (by kernel_rfl) (by kernel_rfl) (by kernel_rfl) (fun _ _ _ h => h) (Or.inl ⟨by rfl, ?_⟩) (by assumption) ?_
        rotate_left
        · (intro w hSw; (try dsimp only at hSw); go_simp; try with_reducible rfl)
        try simp only [Act.put, List.setIfInBounds_toArray, List.set_cons_zero, List.set_cons_succ]
        refine wpTill_take (i := 5) (v := ?_) rfl (by kernel_rfl) (by kernel_rfl) (by kernel_rfl) (by kernel_rfl) (by kernel_rfl) (fun _ _ _ h => h) (Or.inl ⟨by rfl, ?_⟩) (by assumption) ?_
        rotate_left
        · (intro w hSw; (try dsimp only at hSw); go_simp; try with_reducible rfl)
        try simp only [Act.put, List.setIfInBounds_toArray, List.set_cons_zero, List.set_cons_succ]
        refine wpTill_take (i := 7) (v := ?_) rfl (by kernel_rfl) (by kernel_rfl) (by kernel_rfl) (by kernel_rfl) (by kernel_rfl) (fun _ _ _ h => h) (Or.inl ⟨by rfl, ?_⟩) (by assumption) ?_
        rotate_left
        · (intro w hSw; (try dsimp only at hSw); go_simp; try with_reducible rfl)
        try simp only [Act.put, List.setIfInBounds_toArray, List.set_cons_zero, List.set_cons_succ]
        refine wpTill_take (i := 8) (v := ?_) rfl (by kernel_rfl) (by kernel_rfl) (by kernel_rfl) (by kernel_rfl) (by kernel_rfl) (fun _ _ _ h => h) (Or.inl ⟨by rfl, ?_⟩) (by assumption) ?_
        rotate_left
        · (intro w hSw; (try dsimp only at hSw); go_simp; try with_reducible rfl)
        try simp only [Act.put, List.setIfInBounds_toArray, List.set_cons_zero, List.set_cons_succ]
        refine wpTill_take (i := 9) (v := ?_) rfl (by kernel_rfl) (by kernel_rfl) (by kernel_rfl) (by kernel_rfl) (by kernel_rfl) (fun _ _ _ h => h) (Or.inl ⟨by rfl, ?_⟩) (by assumption) ?_
        rotate_left
        · (intro w hSw; (try dsimp only at hSw); go_simp; try with_reducible rfl)
        try simp only [Act.put, List.setIfInBounds_toArray, List.set_cons_zero, List.set_cons_succ]
        refine wpTill_take (i := 10) (v := ?_) rfl (by kernel_rfl) (by kernel_rfl) (by kernel_rfl) (by kernel_rfl) (by kernel_rfl) (fun _ _ _ h => h) (Or.inl ⟨by rfl, ?_⟩) (by assumption) ?_
        rotate_left
        · (intro w hSw; (try dsimp only at hSw); go_simp; try with_reducible rfl)
        try simp only [Act.put, List.setIfInBounds_toArray, List.set_cons_zero, List.set_cons_succ]
        refine wpTill_take (i := 13) (v := ?_) rfl (by kernel_rfl) (by kernel_rfl) (by kernel_rfl) (by kernel_rfl) (by kernel_rfl) (fun _ _ _ h => h) (Or.inl ⟨by rfl, ?_⟩) (by assumption) ?_
        rotate_left
        · (intro w hSw; (try dsimp only at hSw); go_simp; try with_reducible rfl)
        try simp only [Act.put, List.setIfInBounds_toArray, List.set_cons_zero, List.set_cons_succ]
        refine wpTill_take (i := 14) (v := ?_) rfl (by kernel_rfl) (by kernel_rfl) (by kernel_rfl) (by kernel_rfl) (by kernel_rfl) (fun _ _ _ h => h) (Or.inl ⟨by rfl, ?_⟩) (by assumption) ?_
        rotate_left
        · (intro w hSw; (try dsimp only at hSw); go_simp; try with_reducible rfl)
        try simp only [Act.put, List.setIfInBounds_toArray, List.set_cons_zero, List.set_cons_succ]
        refine wpTill_ready (rs := [6]) (by kernel_rfl) (by simp) ?_
        refine AllTill.cons (o := _) rfl (fun K hK => ?_) ?_
        · go_simp
          go_split_ands
          with_reducible refine (C1.out _ (by with_reducible assumption)).mono ?_
          rintro e w' ⟨rfl, hb⟩
          replace hown := OwnI.on hown hb
          replace hob := Bx.on hob hb
          replace hf := hob.free 1
          replace hsz := Nat.lt_of_lt_of_le hsz hb.size
          refine hK.out _ _ (fun _ => ?_) (fun hHeld => ?_)
          · exact sjS (SJ.on (Hid.out (by with_reducible assumption)) hb) hob
          have hHeld := hHeld (by decide)
          clear hK K
          try simp only [Act.put, List.setIfInBounds_toArray, List.set_cons_zero, List.set_cons_succ]
          refine wpTill_ready (rs := [11]) (by kernel_rfl) (by simp) ?_
          refine AllTill.cons (o := _) rfl (fun K hK => ?_) ?_
          · go_simp
            go_split_ands
            with_reducible refine (C2.out _ (by with_reducible assumption)).mono ?_
            rintro e w' ⟨rfl, hb⟩
            replace hown := OwnI.on hown hb
            replace hob := Bx.on hob hb
            replace hf := hob.free 1
            replace hsz := Nat.lt_of_lt_of_le hsz hb.size
            refine hK.out _ _ (fun _ => ?_) (fun hHeld => ?_)
            · exact sjS (SJ.on (Hid.out (by with_reducible assumption)) hb) hob
            have hHeld := hHeld (by decide)
            clear hK K
            try simp only [Act.put, List.setIfInBounds_toArray, List.set_cons_zero, List.set_cons_succ]
            refine wpTill_take (i := 12) (v := ?_) rfl (by kernel_rfl) (by kernel_rfl) (by kernel_rfl) (by kernel_rfl) (by kernel_rfl) (fun _ _ _ h => h) (Or.inl ⟨by rfl, ?_⟩) (by assumption) ?_
            rotate_left
            · (intro w hSw; (try dsimp only at hSw); go_simp; try with_reducible rfl)
            try simp only [Act.put, List.setIfInBounds_toArray, List.set_cons_zero, List.set_cons_succ]
            refine wpTill_ready (rs := [15]) (by kernel_rfl) (by simp) ?_
            refine AllTill.cons (o := _) rfl (fun K hK => ?_) ?_
            · go_simp
              go_split_ands
              with_reducible refine (C3.out _ (by with_reducible assumption)).mono ?_
              rintro e w' ⟨rfl, hb⟩
              replace hown := OwnI.on hown hb
              replace hob := Bx.on hob hb
              replace hf := hob.free 1
              replace hsz := Nat.lt_of_lt_of_le hsz hb.size
              refine hK.out _ _ (fun _ => ?_) (fun hHeld => ?_)
              · exact sjS (SJ.on (Hid.out (by with_reducible assumption)) hb) hob
              have hHeld := hHeld (by decide)
              clear hK K
              try simp only [Act.put, List.setIfInBounds_toArray, List.set_cons_zero, List.set_cons_succ]
              refine wpTill_take (i := 16) (v := ?_) rfl (by kernel_rfl) (by kernel_rfl) (by kernel_rfl) (by kernel_rfl) (by kernel_rfl) (fun _ _ _ h => h) (Or.inl ⟨by rfl, ?_⟩) (by assumption) ?_
              rotate_left
              · (intro w hSw; (try dsimp only at hSw); go_simp; try with_reducible rfl)
              try simp only [Act.put, List.setIfInBounds_toArray, List.set_cons_zero, List.set_cons_succ]
              refine wpTill_ready (rs := [17]) (by kernel_rfl) (by simp) ?_
              refine AllTill.cons (o := _) rfl (fun K hK => ?_) ?_
              · go_simp
                refine hK.out _ _ (fun _ => ?_) (fun hHeld => ?_)
                · exact sjS (SJ.on hHeld.2.2.2.2.2.2.out (box_b _ _)) (hob.on (box_b _ _))
                have hHeld := hHeld (by decide)
                clear hK K
                try simp only [Act.put, List.setIfInBounds_toArray, List.set_cons_zero, List.set_cons_succ]
                refine wpTill_ready (rs := [18]) (by kernel_rfl) (by simp) ?_
                refine AllTill.cons (o := _) rfl (fun K hK => ?_) ?_
                · refine step_apj (by rfl) _ _ (by rfl) (w.heap.size + 3) _ zs V (by rfl) (hown.same (fun k hk hl => Below.heap_alloc _ _ _ hl)) _ (by rfl) (one_newC _ V) HLE.out hHeld.2.2.2.2.2.1 ?_
                  intro v' w5 hown' hgrow hw
                  obtain ⟨q9, n9, c9, rfl, hq9, -⟩ := own_sh3 hown' (by simp)
                  have hne9 := own_ne HNE.out hsz hw
                  have hsj9 := SJ.app hHeld.2.2.2.2.2.2.out hgrow (fun k hk => (hown.lt k hk).1)
                  have hob9 := Bx.grown hob hgrow (Ne.symm HNE.out)
                  have hv9 := hob9.two.2
                  have hf9 := hob9.free 1
                  refine hK.out _ _ (fun _ => ?_) (fun hHeld => ?_)
                  · exact sjS hsj9 hob9
                  have hHeld := hHeld (by decide)
                  clear hK K
                  try simp only [Act.put, List.setIfInBounds_toArray, List.set_cons_zero, List.set_cons_succ]
                  refine wpTill_take (i := 19) (v := ?_) rfl (by kernel_rfl) (by kernel_rfl) (by kernel_rfl) (by kernel_rfl) (by kernel_rfl) (fun _ _ _ h => h) (Or.inl ⟨by rfl, ?_⟩) (by assumption) ?_
                  rotate_left
                  · (intro w hSw; (try dsimp only at hSw); go_simp; try with_reducible rfl)
                  try simp only [Act.put, List.setIfInBounds_toArray, List.set_cons_zero, List.set_cons_succ]
                  refine wpTill_ready (rs := [20]) (by kernel_rfl) (by simp) ?_
                  refine AllTill.cons (o := _) rfl (fun K hK => ?_) ?_
                  · go_simp
                    refine hK.out _ _ (fun h => absurd rfl h) (fun _ => ?_)
                    clear hK K
                    try simp only [Act.put, List.setIfInBounds_toArray, List.set_cons_zero, List.set_cons_succ]
                    refine wpTill_done (by kernel_rfl) ?_ _
                    have HG9 := Lib.hid (Jg.fin hsj9.k2 hsj9.rb hob9 hown' hne9 hsj9.size)
                    rw [← HSUC.out] at HG9
                    clear hsj9 hob9 hown' hgrow hw hv9 hf9 hown hob hf hHeld
                    go_wp2_with fail
                    go_roundw
                    case rel => exact ⟨k + 1, _, by omega, by go_num, HG9⟩
                    case measure => simp [intOf]; omega
                  exact AllTill.nil
                exact AllTill.nil
              exact AllTill.nil
            exact AllTill.nil
          exact AllTill.nil
        exact AllTill.nil

end Go.Proofs.YtlcmgihaelgclaaGreat
