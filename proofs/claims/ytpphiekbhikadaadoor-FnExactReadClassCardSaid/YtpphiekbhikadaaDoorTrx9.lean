/- Merged: Jmj, Make, MakeI, TabL, TabN. -/
import Derived.Test.YtpphiekbhikadaaDoorTrx1
import Derived.Test.YtpphiekbhikadaaDoorTrx4
import Derived.Test.YtpphiekbhikadaaDoorTrx7
import Derived.Test.YtpphiekbhikadaaDoorTrx8
import Derived.Deep.RegionHeld3

/- The joint table of the model: what a call returns. | A region that draws its order, whose last operation L stores into a cell that the region has loaded: a condition that holds till then. (No program in it.) | The joint table of the model: the walk. -/
namespace Go.Proofs.YtpphiekbhikadaaDoor
open Go.ChangeShapes Go.WideShapes Go.ChangeAt Go.RowKit
set_option linter.unusedVariables false
set_option maxRecDepth 100000

/-- a table that a call hands over -/
def JtPost (F : Int) (ys : List Int) (w : World) (e : Ending) (w' : World) : Prop := ∃ a n c, e = .returned (.agg #[.int .i64 F, .slice a n c]) ∧ TbR w.heap.size w' a n ys ∧ Below w.heap.size w w'

/-- the joint table's numbers, k of them -/
def jtK (f : Int) (xs : List Int) (x g : Int) (ys : List Int) (y : Int) (k : Nat) : List Int := (List.range k).map (jv f xs x g ys y)

theorem jtK_len {f : Int} {xs : List Int} {x g : Int} {ys : List Int} {y : Int} (k : Nat) : (jtK f xs x g ys y k).length = k := by simp [jtK]

theorem jtK_succ {f : Int} {xs : List Int} {x g : Int} {ys : List Int} {y : Int} (k : Nat) : jtK f xs x g ys y (k + 1) = jtK f xs x g ys y k ++ [jv f xs x g ys y k] := by simp [jtK, List.range_succ]

theorem jtK_get {f : Int} {xs : List Int} {x g : Int} {ys : List Int} {y : Int} (k i : Nat) (h : i < k) : (jtK f xs x g ys y k).getD i 0 = jv f xs x g ys y i := by
  rw [List.getD_eq_getElem?_getD, List.getElem?_eq_getElem (by rw [jtK_len]; exact h)]
  simp [jtK]

theorem jtK_all {f : Int} {xs : List Int} {x g : Int} {ys : List Int} {y : Int} : jtK f xs x g ys y (jn8 f xs x g ys y + 1) = jtL f xs x g ys y := rfl

/-- the model's joint table as it grows -/
structure Jg (w : World) (f : Int) (sa : Value) (g : Int) (sb : Value) (x : Int) (v : Value) (zs : List Int) (W : World) : Prop where
  k2 : K2 w f sa g sb W
  rb : Bx W (w.heap.size + 2) [.int .i64 0, .slice none 0 0]
  ob : Bx W (w.heap.size + 4) [.int .i64 x, v]
  own : OwnI (w.heap.size + 3) W v zs
  ne : v.ownBlock ≠ some (w.heap.size + 4)
  size : w.heap.size + 4 < W.heap.size

theorem own_shj {base : Nat} {w : World} {v : Value} {ys : List Int} (h : OwnI base w v ys) (hl : 0 < ys.length) : ∃ g c, v = .slice (some ⟨g, 0, none⟩) ys.length c ∧ base ≤ g := by
  obtain ⟨_, h0 | ⟨g, cap, cur, hv, hb, _⟩⟩ := h
  · omega
  · exact ⟨g, cap, hv, hb⟩

/-- .. and the store into its box -/
theorem Jg.fin {w : World} {f : Int} {sa : Value} {g : Int} {sb : Value} {x : Int} {v : Value} {zs : List Int} {q : Nat} {n c : Nat} {w5 : World}
    (h : K2 w f sa g sb w5) (hr : Bx w5 (w.heap.size + 2) [.int .i64 0, .slice none 0 0]) (hob : Bx w5 (w.heap.size + 4) [.int .i64 x, v]) (hown : OwnI (w.heap.size + 3) w5 (.slice (some ⟨q, 0, none⟩) n c) zs) (hne : q ≠ w.heap.size + 4) (hs : w.heap.size + 4 < w5.heap.size) :
    Jg w f sa g sb x (.slice (some ⟨q, 0, none⟩) n c) zs (w5.setCell ⟨w.heap.size + 4, 1, none⟩ (.slice (some ⟨q, 0, none⟩) n c)) := by
  have far : ∀ k, k ≠ w.heap.size + 4 → (w5.setCell ⟨w.heap.size + 4, 1, none⟩ (.slice (some ⟨q, 0, none⟩) n c)).heap[k]? = w5.heap[k]? := fun k hk => far_setCell _ _ _ _ hk
  refine ⟨⟨?_, ?_, ?_, ?_, ?_⟩, hr.same (far _ (by omega)), hob.set1 _, ?_, ?_, by simpa [World.setCell] using hs⟩
  · exact (World.cell?_of_block (w := w5) (a := ⟨w.heap.size, 0, none⟩) (far _ (by simp))).trans h.t0
  · exact (World.cell?_of_block (w := w5) (a := ⟨w.heap.size, 1, none⟩) (far _ (by simp))).trans h.t1
  · exact (World.cell?_of_block (w := w5) (a := ⟨w.heap.size + 1, 0, none⟩) (far _ (by simp))).trans h.u0
  · exact (World.cell?_of_block (w := w5) (a := ⟨w.heap.size + 1, 1, none⟩) (far _ (by simp))).trans h.u1
  · exact h.low.setCell (p := ⟨w.heap.size + 4, 1, none⟩) (by show w.heap.size ≤ w.heap.size + 4; omega) _
  · have hh := hown
    obtain ⟨h1, h0 | ⟨g', cap, cur, hv, hgb, hcell, r⟩⟩ := hown
    · exact absurd h0.1 (by simp)
    · refine ⟨h1, .inr ⟨g', cap, cur, hv, hgb, ?_, r⟩⟩
      simp only [Value.slice.injEq, Option.some.injEq, Addr.mk.injEq] at hv
      obtain ⟨⟨rfl, _⟩, _⟩ := hv
      rw [far_setCell _ _ _ _ hne]
      exact hcell
  · simp [Value.ownBlock]; omega

theorem K2.grown {w : World} {f : Int} {sa : Value} {g : Int} {sb : Value} {W w5 : World} {v : Value} {zs : List Int} {o : Obj} (h : K2 w f sa g sb W) (hown : OwnI (w.heap.size + 3) W v zs) (hs : w.heap.size + 4 < W.heap.size) (hg : (W.alloc o).grownBy w5 v.ownBlock) : K2 w f sa g sb w5 := by
  have hb := app_below hown (by omega) hg
  exact ⟨(hb.cell (p := ⟨w.heap.size, 0, none⟩) (by simp)).trans h.t0, (hb.cell (p := ⟨w.heap.size, 1, none⟩) (by simp)).trans h.t1, (hb.cell (p := ⟨w.heap.size + 1, 0, none⟩) (by simp)).trans h.u0, (hb.cell (p := ⟨w.heap.size + 1, 1, none⟩) (by simp)).trans h.u1, h.low.trans (hb.mono (by omega))⟩

/-- what a step of the model's joint table leaves as it was -/
structure SJ (w : World) (f : Int) (sa : Value) (g : Int) (sb : Value) (W : World) : Prop where
  k2 : K2 w f sa g sb W
  rb : Bx W (w.heap.size + 2) [.int .i64 0, .slice none 0 0]
  size : w.heap.size + 4 < W.heap.size

theorem SJ.on {w : World} {f : Int} {sa : Value} {g : Int} {sb : Value} {W W' : World} (h : SJ w f sa g sb W) (hb : Below W.heap.size W W') : SJ w f sa g sb W' :=
  ⟨h.k2.on hb, h.rb.on hb, Nat.lt_of_lt_of_le h.size hb.size⟩

theorem SJ.drew {w : World} {f : Int} {sa : Value} {g : Int} {sb : Value} {W : World} (h : SJ w f sa g sb W) : SJ w f sa g sb W.drew :=
  ⟨⟨cell_drew h.k2.t0, cell_drew h.k2.t1, cell_drew h.k2.u0, cell_drew h.k2.u1, h.k2.low.drew⟩, h.rb, h.size⟩

theorem SJ.app {w : World} {f : Int} {sa : Value} {g : Int} {sb : Value} {W w5 : World} {row : Option Nat} (h : SJ w f sa g sb W) (hg : W.grownBy w5 row) (hr : ∀ k, row = some k → w.heap.size + 3 ≤ k) : SJ w f sa g sb w5 := by
  have hs := h.size
  have far : ∀ k, k < w.heap.size + 3 → w5.heap[k]? = W.heap[k]? := fun k hk => hg.block k (by omega) (fun e => by have := hr k e.symm; omega)
  refine ⟨⟨?_, ?_, ?_, ?_, h.k2.low.grown hg (by omega) (fun k hk => by have := hr k hk; omega)⟩, h.rb.same (far _ (by omega)), Nat.lt_of_lt_of_le hs hg.size⟩
  · exact (World.cell?_of_block (w := W) (a := ⟨w.heap.size, 0, none⟩) (far _ (by simp))).trans h.k2.t0
  · exact (World.cell?_of_block (w := W) (a := ⟨w.heap.size, 1, none⟩) (far _ (by simp))).trans h.k2.t1
  · exact (World.cell?_of_block (w := W) (a := ⟨w.heap.size + 1, 0, none⟩) (far _ (by simp))).trans h.k2.u0
  · exact (World.cell?_of_block (w := W) (a := ⟨w.heap.size + 1, 1, none⟩) (far _ (by simp))).trans h.k2.u1

theorem SJ.set {w : World} {f : Int} {sa : Value} {g : Int} {sb : Value} {W : World} (h : SJ w f sa g sb W) (v : Value) : SJ w f sa g sb (W.setCell ⟨w.heap.size + 4, 1, none⟩ v) := by
  have far : ∀ k, k < w.heap.size + 3 → (W.setCell ⟨w.heap.size + 4, 1, none⟩ v).heap[k]? = W.heap[k]? := fun k hk => far_setCell _ _ _ _ (by show k ≠ w.heap.size + 4; omega)
  refine ⟨⟨?_, ?_, ?_, ?_, h.k2.low.setCell (p := ⟨w.heap.size + 4, 1, none⟩) (by show w.heap.size ≤ w.heap.size + 4; omega) _⟩, h.rb.same (far _ (by omega)), by have := h.size; simpa [World.setCell] using this⟩
  · exact (World.cell?_of_block (w := W) (a := ⟨w.heap.size, 0, none⟩) (far _ (by simp))).trans h.k2.t0
  · exact (World.cell?_of_block (w := W) (a := ⟨w.heap.size, 1, none⟩) (far _ (by simp))).trans h.k2.t1
  · exact (World.cell?_of_block (w := W) (a := ⟨w.heap.size + 1, 0, none⟩) (far _ (by simp))).trans h.k2.u0
  · exact (World.cell?_of_block (w := W) (a := ⟨w.heap.size + 1, 1, none⟩) (far _ (by simp))).trans h.k2.u1

theorem sjS {w : World} {f : Int} {sa : Value} {g : Int} {sb : Value} {W : World} {x : Int} {v : Value} (h : SJ w f sa g sb W) (k : Bx W (w.heap.size + 4) [.int .i64 x, v]) :
    W.cell? ⟨w.heap.size, 0, none⟩ = some (.int .i64 f) ∧ W.cell? ⟨w.heap.size, 1, none⟩ = some sa ∧ W.cell? ⟨w.heap.size + 1, 0, none⟩ = some (.int .i64 g) ∧ W.cell? ⟨w.heap.size + 1, 1, none⟩ = some sb ∧ W.cell? ⟨w.heap.size + 1 + 1 + 1 + 1, 1, none⟩ = some v ∧ w.heap.size + 3 ≤ W.heap.size ∧ Hid (SJ w f sa g sb W) :=
  ⟨h.k2.t0, h.k2.t1, h.k2.u0, h.k2.u1, k.two.2, by have := h.size; omega, Lib.hid h⟩

theorem own_sh3 {base : Nat} {w : World} {v : Value} {ys : List Int} (h : OwnI base w v ys) (hl : 0 < ys.length) : ∃ g n c, v = .slice (some ⟨g, 0, none⟩) n c ∧ base ≤ g ∧ n = ys.length := by
  obtain ⟨_, h0 | ⟨g, cap, cur, hv, hb, _⟩⟩ := h
  · omega
  · exact ⟨g, _, cap, hv, hb, rfl⟩

/-- the new block of an append is not the table's box -/
theorem own_ne {w W : World} {o : Obj} {v : Value} {g n c : Nat} (hne : v.ownBlock ≠ some (w.heap.size + 4)) (hs : w.heap.size + 4 < W.heap.size) (hw : (Value.slice (some ⟨g, 0, none⟩) n c).ownBlock = v.ownBlock ∨ (Value.slice (some ⟨g, 0, none⟩) n c).ownBlock = some (W.alloc o).heap.size) : g ≠ w.heap.size + 4 := by
  rcases hw with h | h
  · intro e; subst e; exact hne h.symm
  · simp [Value.ownBlock] at h; omega

/-- it is handed over -/
theorem Jg.post {w : World} {f : Int} {sa : Value} {g : Int} {sb : Value} {x : Int} {q n c : Nat} {zs ys : List Int} {W : World} (H : Jg w f sa g sb x (.slice (some ⟨q, 0, none⟩) n c) zs W) (he : zs = ys) (hl : n = zs.length) (hp : 0 < n) (hn : n ≤ 4096) :
    JtPost x ys w (.returned (.agg #[.int .i64 x, .slice (some ⟨q, 0, none⟩) n c])) ((W.setCell ⟨w.heap.size + 2, 0, none⟩ (.int .i64 x)).setCell ⟨w.heap.size + 2, 1, none⟩ (.slice (some ⟨q, 0, none⟩) n c)) := by
  subst he
  subst hl
  have hrow := H.own.row
  have hq : w.heap.size + 3 ≤ q := by
    obtain ⟨g', c', hv, hb⟩ := own_shj H.own hp
    simp only [Value.slice.injEq, Option.some.injEq, Addr.mk.injEq] at hv
    omega
  have ho : Only (w.heap.size + 2) W ((W.setCell ⟨w.heap.size + 2, 0, none⟩ (.int .i64 x)).setCell ⟨w.heap.size + 2, 1, none⟩ (.slice (some ⟨q, 0, none⟩) zs.length c)) := ((Only.refl _ W).setCell (p := ⟨w.heap.size + 2, 0, none⟩) rfl _).setCell (p := ⟨w.heap.size + 2, 1, none⟩) rfl _
  refine ⟨_, _, _, rfl, ⟨rfl, hn, .inr ⟨q, 0, rfl, by omega, ?_, hrow.only ho (by omega)⟩⟩, H.k2.low.trans (ho.below (by omega))⟩
  rw [ho.size]
  exact hrow.lt hp

set_option linter.unusedSimpArgs false

end Go.Proofs.YtpphiekbhikadaaDoor

/- MakeTable of the program: what the calls return. -/
namespace Go.Proofs.YtpphiekbhikadaaDoor
open Go.ChangeShapes Go.WideShapes Go.ChangeAt Go.RowKit
set_option linter.unusedVariables false
set_option maxRecDepth 100000

theorem one_newT (w : World) (x : Int) : ∀ j u, [Value.int .i64 x][j]? = some u → (w.alloc (.cells #[.int .i64 x] 2)).cell? ((⟨w.heap.size, 0, none⟩ : Addr).add j) = some u := by
  intro j u hj
  match j, hj with
  | 0, hj => simp at hj; subst hj; simp [Addr.add]

theorem ownI_one (w : World) (x : Int) : OwnI w.heap.size (w.alloc (.cells #[.int .i64 x] 2)) (.slice (some ⟨w.heap.size, 0, none⟩) 1 1) [x] :=
  World.ownsRow_lit w #[.int .i64 x] 1 (Nat.le_refl _) (by unfold maxLen; omega) rfl

/-- a list that a call has made: where it lies, what it holds -/
def Made (w : World) (xs : List Int) (v : Value) (w' : World) : Prop := ∃ g c, v = .slice (some ⟨g, 0, none⟩) xs.length c ∧ xs.length ≤ c ∧ w.heap.size ≤ g ∧ RowI w' g 0 xs ∧ Below w.heap.size w w'

theorem OwnI.made {w w' : World} {v : Value} {xs : List Int} (h : OwnI w.heap.size w' v xs) (hb : Below w.heap.size w w') (hl : 0 < xs.length) : Made w xs v w' := by
  have hh := h
  obtain ⟨_, ⟨rfl, h0⟩ | ⟨g, cap, cur, rfl, hg, hc, hn, hcap, _⟩⟩ := h
  · omega
  · exact ⟨g, cap, rfl, hn, hg, hh.row, hb⟩

/-- rates of a table -/
def rtsB (rs : List Int) : Bool := rs.all fun r => inB r 0 1000

theorem rtsB_iff (rs : List Int) : rtsB rs = true ↔ ∀ r ∈ rs, 0 ≤ r ∧ r ≤ 1000 := by
  unfold rtsB; rw [List.all_eq_true]
  exact ⟨fun h r hr => (inB_iff _ _ _).1 (h r hr), fun h r hr => (inB_iff _ _ _).2 (h r hr)⟩

theorem du_1000 (a : Int) (h0 : 0 ≤ a) (h1 : a ≤ 1000000000) : duV a 1000 = up1000 a := by
  have : ddB a 1000 = true := (ddB_iff _ _).2 (by omega)
  simp [duV, this, up1000]

end Go.Proofs.YtpphiekbhikadaaDoor

/- MakeTable of the program: what the calls return. -/
namespace Go.Proofs.YtpphiekbhikadaaDoor
open Go.ChangeShapes Go.WideShapes Go.ChangeAt Go.RowKit
set_option linter.unusedVariables false
set_option maxRecDepth 100000

/-- whether a table is made of these -/
def mkB (f L : Int) (rs : List Int) : Bool := inB f 0 100 && inB L 1 1000000 && (decide (rs.length ≤ 118) && decide ((rs.length : Int) ≤ 149 - f)) && rtsB rs

theorem mkB_iff (f L : Int) (rs : List Int) : mkB f L rs = true ↔ (0 ≤ f ∧ f ≤ 100) ∧ (1 ≤ L ∧ L ≤ 1000000) ∧ (rs.length ≤ 118 ∧ (rs.length : Int) ≤ 149 - f) ∧ ∀ r ∈ rs, 0 ≤ r ∧ r ≤ 1000 := by
  unfold mkB
  simp only [Bool.and_eq_true, inB_iff, rtsB_iff, decide_eq_true_iff]
  constructor
  · rintro ⟨⟨⟨a, b⟩, c⟩, d⟩; exact ⟨a, b, c, d⟩
  · rintro ⟨a, b, c, d⟩; exact ⟨⟨⟨a, b⟩, c⟩, d⟩

theorem mkB_no {f L : Int} {rs : List Int} (h : mkB f L rs = true → False) : mkB f L rs = false := by
  rw [Bool.eq_false_iff]; exact h

def MkPost (f L : Int) (rs : List Int) (w : World) (e : Ending) (w' : World) : Prop :=
  (mkB f L rs = true ∧ ∃ v, e = .returned (.tuple #[.agg #[.int .i64 f, v], .int .i64 0]) ∧ Made w (mkL L rs) v w') ∨
  (mkB f L rs = false ∧ e = .returned (.tuple #[.agg #[.int .i64 0, .slice none 0 0], .int .i64 2]) ∧ Below w.heap.size w w')

theorem MkPost.bad {f L : Int} {rs : List Int} {w w' : World} (h : mkB f L rs = false) (hb : Below w.heap.size w w') : MkPost f L rs w (.returned (.tuple #[.agg #[.int .i64 0, .slice none 0 0], .int .i64 2])) w' := .inr ⟨h, rfl, hb⟩

theorem two_set (w : World) (x y u v : Value) (T : TypeId) : (((w.alloc (.cells #[x, y] T)).setCell ⟨w.heap.size, 0, none⟩ u).setCell ⟨w.heap.size, 1, none⟩ v).cell? ⟨w.heap.size, 0, none⟩ = some u ∧ (((w.alloc (.cells #[x, y] T)).setCell ⟨w.heap.size, 0, none⟩ u).setCell ⟨w.heap.size, 1, none⟩ v).cell? ⟨w.heap.size, 1, none⟩ = some v := by
  constructor <;> go_simp

end Go.Proofs.YtpphiekbhikadaaDoor

/- Life tables that a law takes, makes and compares; the exact laws on IsLifeTable, LivesAt, DeathsAt and SurvivalOf. -/
namespace Go.Proofs.YtpphiekbhikadaaDoor
open Go.ChangeShapes Go.WideShapes Go.ChangeAt Go.RowKit
set_option linter.unusedVariables false
set_option maxRecDepth 100000

theorem szS_big (a : Option Addr) (l c : Nat) (n : Int) (w : World) (hl : l ≤ 9223372036854775807) (n0 : 0 ≤ n) (n1 : n ≤ 1048576) (hlt : n < (l : Int)) :
    Calls Tryd.prog 51 #[.slice a l c, .int .i64 n] w fun e w' => e = .returned (.int .i64 (-1)) ∧ w = w' := by
  have h2 : n - (l : Int) < 0 := by omega
  go_enter Tryd.func51, Tryd.ntmps51
  go_wp2_with fail
  go_ret
  exact ⟨rfl, rfl⟩

theorem szS_fit (a : Option Addr) (l c : Nat) (n : Int) (w : World) (n0 : 0 ≤ n) (n1 : n ≤ 1048576) (hlt : (l : Int) ≤ n) :
    Calls Tryd.prog 51 #[.slice a l c, .int .i64 n] w fun e w' => e = .returned (.int .i64 (n - l)) ∧ w = w' := by
  have h2 : ¬ n - (l : Int) < 0 := by omega
  go_enter Tryd.func51, Tryd.ntmps51
  go_wp2_with fail
  go_ret
  exact ⟨rfl, rfl⟩

/-- a table that a law has copied: in a block of its own -/
def ToPost (w : World) (f : Int) (xs : List Int) (l : Nat) (e : Ending) (w' : World) : Prop := ∃ B, e = .returned (.agg #[.int .i64 f, .slice (some ⟨B, 0, none⟩) l l]) ∧ w.heap.size ≤ B ∧ Blk w' B xs ∧ Below w.heap.size w w'

end Go.Proofs.YtpphiekbhikadaaDoor

/- ExpectedYears and MiddleAge of the model: what the calls return. | MiddleAge of the model: what the calls return. -/
namespace Go.Proofs.YtpphiekbhikadaaDoor
open Go.ChangeShapes Go.WideShapes Go.ChangeAt Go.RowKit
set_option linter.unusedVariables false
set_option maxRecDepth 100000

/-- the years that are still lived, in lowest terms -/
def exN (f : Int) (xs : List Int) (x : Int) : Int := if clE f xs x 0 = 0 then laterSum f xs x / gcdI (laterSum f xs x) (lvs f xs x) else 0

def exD (f : Int) (xs : List Int) (x : Int) : Int := if clE f xs x 0 = 0 then lvs f xs x / gcdI (laterSum f xs x) (lvs f xs x) else 0

theorem ex_n {f : Int} {xs : List Int} {x : Int} (h : ¬ clE f xs x 0 = 0) : exN f xs x = 0 ∧ exD f xs x = 0 := by simp [exN, exD, h]

theorem ex_0 {f : Int} {xs : List Int} {x u v : Int} (h : clE f xs x 0 = 0) (hu : laterSum f xs x = u) (hv : lvs f xs x = v) : exN f xs x = u / gcdI u v ∧ exD f xs x = v / gcdI u v := by
  simp [exN, exD, h, hu, hv]

/-- the middle age, and 0 beside an error -/
def miV (f : Int) (xs : List Int) (x : Int) : Int := if clE f xs x 0 = 0 then mdV f xs x else 0

theorem mi_n {f : Int} {xs : List Int} {x : Int} (h : ¬ clE f xs x 0 = 0) : miV f xs x = 0 := by simp [miV, h]

theorem mi_0 {f : Int} {xs : List Int} {x : Int} (h : clE f xs x 0 = 0) : miV f xs x = mdV f xs x := by simp [miV, h]

theorem LTab.later_bd {f : Int} {xs : List Int} (h : LTab f xs) (x : Int) (hx : f ≤ x) : 0 ≤ laterSum f xs x ∧ laterSum f xs x ≤ 120000000 := by
  have := h.partSum_bd x hx 120
  rw [partSum_all f xs x 120 (by have := h.2.1.2; omega)] at this
  omega

end Go.Proofs.YtpphiekbhikadaaDoor
