/- Merged: ByAge, TabE, Col. -/
import Derived.Test.YtdlfofdibooidaaGreatLa1
import Derived.Test.YtdlfofdibooidaaGreatLa4
import Derived.Test.YtdlfofdibooidaaGreatLa6
import Derived.Test.YtdlfofdibooidaaGreatLa7
import Derived.Deep.WholeRow
import Derived.Deep.RegionLaw
import Derived.Laws.CopyOwn
import Derived.Deep.RegionHeld3

/- The lives by age, as an array of the program's. -/
namespace Go.Proofs.YtdlfofdibooidaaGreat
open Go.ChangeShapes Go.WideShapes Go.ChangeAt Go.RowKit
set_option linter.unusedVariables false
set_option maxRecDepth 100000

/-- the lives by age: 152 numbers, those of the table from its first age on -/
def byL (f : Int) (xs : List Int) : List Int := List.replicate f.toNat 0 ++ (xs ++ List.replicate (152 - (f.toNat + xs.length)) 0)

theorem byL_len (f : Int) (xs : List Int) (h : f.toNat + xs.length ≤ 152) : (byL f xs).length = 152 := by simp [byL]; omega

theorem byL_get (f : Int) (xs : List Int) (i : Nat) (h : f.toNat ≤ i) : (byL f xs).getD i 0 = xs.getD (i - f.toNat) 0 := by
  unfold byL
  rw [List.getD_eq_getElem?_getD, List.getElem?_append_right (by simpa using h), List.length_replicate, List.getD_eq_getElem?_getD]
  by_cases hi : i - f.toNat < xs.length
  · rw [List.getElem?_append_left hi]
  · rw [List.getElem?_append_right (by omega), List.getElem?_eq_none (l := xs) (by omega), List.getElem?_replicate]
    split <;> rfl

theorem LTab.fit {f : Int} {xs : List Int} (h : LTab f xs) : f.toNat + xs.length ≤ 151 := by
  have := h.1; have := h.2.2.1; omega

/-- the lives at an age, in the array -/
theorem LTab.by {f : Int} {xs : List Int} (h : LTab f xs) (x : Int) (hx : f ≤ x) : (byL f xs).getD x.toNat 0 = lvs f xs x := by
  have := h.1
  rw [byL_get _ _ _ (by omega)]
  unfold lvs
  congr 1; omega

theorem zero152 : Tryz.zeroCells142 = (List.replicate 152 (Value.int .i64 0)).toArray := by kernel_rfl

theorem splice_by (f : Int) (xs : List Int) (h : f.toNat + xs.length ≤ 152) : splice (List.replicate 152 (Value.int .i64 0)) f.toNat (xs.map (Value.int .i64)) = (byL f xs).map (Value.int .i64) := by
  unfold splice byL
  simp only [List.take_replicate, List.drop_replicate, List.map_append, List.map_replicate, List.length_map]
  congr 2
  omega

theorem und152 : Tryz.prog.underlying 142 = some (.array (Tryz.prog.arrayLen 142) (Tryz.prog.elem 142)) := by kernel_rfl

theorem len152 : Tryz.prog.arrayLen 142 = 152 := by kernel_rfl

theorem elem152 : Tryz.prog.elem 142 = 2 := by kernel_rfl

theorem slice152 (B : Nat) (f : Int) (f0 : 0 ≤ f) (f1 : f ≤ 100) (W : World) : (Instr.sliceAt 142 (.pointer (some ⟨B, 0, none⟩)) (some (.int .i64 f)) none none).run Tryz.prog W = .ok (.slice (some ⟨B, f.toNat, none⟩) (152 - f.toNat) (152 - f.toNat)) W := by
  rw [run_sliceAt_array_l W _ _ und152 .i64 f f0 (by rw [len152]; omega), len152, elem152]
  have hs : (sizeOf 2).run Tryz.prog W = .ok 1 W := by
    simp [sizeOf, go_sem]
    rfl
  rw [hs]
  simp only [Result.andThen, slicedAt]
  rw [if_neg (by omega), Go.WideShapes.add_plain]
  simp

set_option maxHeartbeats 400000 in
theorem byAge_any (f : Int) (xs : List Int) (a : Option Addr) (l c : Nat) (w : World) (h : Ints w a l xs) (ht : LTab f xs) :
    Calls Tryz.prog 106 #[.agg #[.int .i64 f, .slice a l c]] w fun e w' => e = .returned (.agg ((byL f xs).map (Value.int .i64)).toArray) ∧ Below w.heap.size w w' := by
  have hlen := h.len
  have hfit := ht.fit
  obtain ⟨f0, f1⟩ := ht.1
  obtain ⟨l0, l1⟩ := ht.2.1
  rw [hlen] at l0 l1
  obtain ⟨b, off, rfl, hb, hc⟩ := h.at (by omega)
  have hz := zero152
  have HB : Hid (Below w.heap.size w (((w.alloc (.cells #[.int .i64 f, .slice (some ⟨b, off, none⟩) l c] 26)).alloc (.cells Tryz.zeroCells142 142)).alloc (.cells Tryz.zeroCells142 142))) :=
    Lib.hid (((box_b _ _).alloc (by simp) _).alloc (by simp; omega) _)
  have HG : Hid ((((w.alloc (.cells #[.int .i64 f, .slice (some ⟨b, off, none⟩) l c] 26)).alloc (.cells Tryz.zeroCells142 142)).alloc (.cells Tryz.zeroCells142 142)).heap[w.heap.size + 1 + 1]? = some (.cells (List.replicate 152 (Value.int .i64 0)).toArray 142 (0, 0))) := Lib.hid (by
      have := heap_alloc_new ((w.alloc (.cells #[.int .i64 f, .slice (some ⟨b, off, none⟩) l c] 26)).alloc (.cells Tryz.zeroCells142 142)) (.cells Tryz.zeroCells142 142)
      rw [World.size_alloc, World.size_alloc] at this
      rw [this, hz])
  have HC : Hid (∀ j v, (xs.map (Value.int .i64))[j]? = some v → (((w.alloc (.cells #[.int .i64 f, .slice (some ⟨b, off, none⟩) l c] 26)).alloc (.cells Tryz.zeroCells142 142)).alloc (.cells Tryz.zeroCells142 142)).cell? ((⟨b, off, none⟩ : Addr).add j) = some v) := Lib.hid (by
      intro j v hj
      have hjl : j < l := by
        have := (List.getElem?_eq_some_iff.1 hj).1
        simpa [hlen] using this
      rw [Go.WideShapes.add_plain, HB.out.cell (p := ⟨b, off + j, none⟩) hb, hc j hjl]
      rw [List.getElem?_map, List.getElem?_eq_getElem (by omega)] at hj
      simp [List.getD, List.getElem?_eq_getElem (show j < xs.length by omega)] at hj ⊢
      exact hj)
  obtain ⟨Zs, hZs⟩ : ∃ Zs, ((byL f xs).map (Value.int .i64)).toArray = Zs := ⟨_, rfl⟩
  have HS : Hid ((splice (List.replicate 152 (Value.int .i64 0)) f.toNat (xs.map (Value.int .i64))).toArray = Zs) := Lib.hid (by rw [splice_by f xs (by omega), hZs])
  have HZ : Hid (Zs.size = 152) := Lib.hid (by rw [← hZs]; simp [byL_len f xs (by omega)])
  have HO : Hid (Zs.all (·.oneCell') = true) := Lib.hid (by rw [← hZs, Array.all_eq_true_iff_forall_mem]; intro v hv; simp at hv; obtain ⟨x, _, rfl⟩ := hv; rfl)
  have HP : Hid ((((w.alloc (.cells #[.int .i64 f, .slice (some ⟨b, off, none⟩) l c] 26)).alloc (.cells Tryz.zeroCells142 142)).alloc (.cells Tryz.zeroCells142 142)).heap[w.heap.size + 1]? = some (.cells Tryz.zeroCells142 142 (0, 0))) := Lib.hid (by
      rw [Below.heap_alloc _ _ _ (by simp)]
      have := heap_alloc_new (w.alloc (.cells #[.int .i64 f, .slice (some ⟨b, off, none⟩) l c] 26)) (.cells Tryz.zeroCells142 142)
      rw [World.size_alloc] at this
      exact this)
  have HL := Lib.hid hlen
  have hfl : f.toNat + l ≤ 151 := by omega
  have hft : f.toNat ≤ 152 := by omega
  have HZZ : Hid (Zs = ((byL f xs).map (Value.int .i64)).toArray) := Lib.hid hZs.symm
  clear hz hc hlen ht h hZs hfit
  have hsl := slice152 (w.heap.size + 1 + 1) f f0 f1
  go_enter Tryz.func106, Tryz.ntmps106
  go_wp2_with fail
  go_region_law (refine step_copy_splice rfl (.tmp 6) (.tmp 8) 24 24 rfl 2 Tryz.underlying24 (by kernel_rfl) (some ⟨w.heap.size + 1 + 1, f.toNat, none⟩) (some ⟨b, off, none⟩) _ _ l c (by rfl) (by rfl) (w.heap.size + 1 + 1) f.toNat (List.replicate 152 (.int .i64 0)) 142 HG.out (xs.map (.int .i64)) (by rw [List.length_map, HL.out]; exact (Nat.min_eq_left (by omega)).symm) (fun _ => ⟨rfl, ⟨b, off, none⟩, rfl, HC.out⟩) (by rw [List.length_map, HL.out, List.length_replicate]; omega) (by intro v hv; obtain ⟨x, _, rfl⟩ := List.mem_map.1 hv; rfl) (w.heap.size + 1 + 1) _ (Below.refl _ _) (by omega) ?_; intro w4 hg4 hb4)
  all_goals
    have hrow : w4.heap[w.heap.size + 1 + 1]? = some (.cells Zs 142 (0, 0)) := by rw [← HS.out]; exact hg4.out
    have hres : w4.heap[w.heap.size + 1]? = some (.cells Tryz.zeroCells142 142 (0, 0)) := (hb4.block (w.heap.size + 1) (by omega)).trans HP.out
    have HW : Hid (Below w.heap.size w w4) := Lib.hid (by first | exact HB.out.drew.trans (hb4.mono (by omega)) | exact HB.out.trans (hb4.mono (by omega)))
    clear hg4 hb4
    go_wp2_with (first | (refine wpList_load_row rfl 142 (.tmp 3) rfl (w.heap.size + 1 + 1) rfl 142 Zs (0, 0) _ hrow und152 rfl (by rw [HZ.out]; kernel_rfl) ?_) | (refine wpList_store_row rfl 142 (.tmp 2) (.tmp 10) rfl (w.heap.size + 1) Zs rfl rfl 142 _ hres (by rw [HZ.out]; kernel_rfl) (by rw [HZ.out]; kernel_rfl) HO.out ?_))
    refine bodyPost_ret (v := .agg Zs) (results_cell_row rfl _ _ (w.heap.size + 1) 142 Zs (0, 0) _ rfl (setRow_heap w4 _ _ Zs _ _ hres) und152 rfl (by rw [HZ.out]; kernel_rfl)) rfl ⟨by rw [HZZ.out], below_setRow HW.out (by omega) Zs⟩

/-- an array of 152 numbers -/
structure Arr (Zs : Array Value) (ys : List Int) : Prop where
  eq : Zs = (ys.map (Value.int .i64)).toArray
  len : ys.length = 152

theorem Arr.size {Zs : Array Value} {ys : List Int} (h : Arr Zs ys) : Zs.size = 152 := by rw [h.eq]; simp [h.len]

theorem Arr.one {Zs : Array Value} {ys : List Int} (h : Arr Zs ys) : Zs.all (·.oneCell') = true := by
  rw [h.eq, Array.all_eq_true_iff_forall_mem]
  intro v hv
  simp at hv
  obtain ⟨x, _, rfl⟩ := hv
  rfl

theorem Arr.get {Zs : Array Value} {ys : List Int} (h : Arr Zs ys) (i : Nat) (hi : i < 152) : Zs[i]? = some (.int .i64 (ys.getD i 0)) := by
  rw [h.eq]
  have := h.len
  simp [List.getD, show i < ys.length by omega]

theorem Arr.info {Zs : Array Value} {ys : List Int} (h : Arr Zs ys) : (Tryz.prog.info? 142).map (·.size) = some Zs.size := by
  rw [h.size]; kernel_rfl

theorem Arr.old {Zs : Array Value} {ys : List Int} (h : Arr Zs ys) : Tryz.zeroCells142.size = Zs.size := by
  rw [h.size]; kernel_rfl

def ByPost (f : Int) (xs : List Int) (w : World) (e : Ending) (w' : World) : Prop := ∃ Zs, e = .returned (.agg Zs) ∧ Arr Zs (byL f xs) ∧ Below w.heap.size w w'

theorem byAge_r (f : Int) (xs : List Int) (a : Option Addr) (l c : Nat) (w : World) (h : Ints w a l xs) (ht : LTab f xs) :
    Calls Tryz.prog 106 #[.agg #[.int .i64 f, .slice a l c]] w (ByPost f xs w) :=
  (byAge_any f xs a l c w h ht).mono fun e w' ⟨he, hb⟩ => ⟨_, he, ⟨rfl, byL_len _ _ (by have := ht.fit; omega)⟩, hb⟩

/-- a cell of a block that was laid with the array -/
theorem Arr.cell {Zs : Array Value} {ys : List Int} (h : Arr Zs ys) (w : World) (i : Nat) (hi : i < 152) : (w.alloc (.cells Zs 142)).cell? ⟨w.heap.size, i, none⟩ = some (.int .i64 (ys.getD i 0)) := by
  rw [World.cell?_alloc_new]; exact h.get i hi

end Go.Proofs.YtdlfofdibooidaaGreat

/- Fractions in lowest terms; who lives: what the calls return. | LivesAt, DeathsAt and SurvivalOf of the program: what the calls return. | SurvivalOf of the program and of its model: what the calls return. | SurvivalOf of the program: what the calls return. -/
namespace Go.Proofs.YtdlfofdibooidaaGreat
open Go.ChangeShapes Go.WideShapes Go.ChangeAt Go.RowKit
set_option linter.unusedVariables false
set_option maxRecDepth 100000

theorem gcdI_pos (a b : Int) (ha : 0 ≤ a) (hb : 1 ≤ b) : 1 ≤ gcdI a b := by
  unfold gcdI
  have : 0 < Nat.gcd a.toNat b.toNat := Nat.gcd_pos_of_pos_right _ (by omega)
  omega

theorem gcdI_ge (a b : Int) : 0 ≤ gcdI a b := by unfold gcdI; omega

theorem div_in (a g M : Int) (h0 : 0 ≤ a) (h1 : a ≤ M) (hg : 1 ≤ g) : 0 ≤ a / g ∧ a / g ≤ M := by
  have h2 := Int.ediv_nonneg h0 (show 0 ≤ g by omega)
  have h3 := Int.ediv_le_self g h0
  omega

/-! ### who lives -/

theorem LTab.dead {f : Int} {xs : List Int} (h : LTab f xs) (x : Int) (hx : f ≤ x) : lvs f xs x = 0 ↔ f + xs.length - 1 ≤ x := by
  constructor
  · intro h0
    by_cases hh : x + 1 < f + xs.length
    · have := h.lvs_pos x hh hx; omega
    · omega
  · intro h0; exact h.lvs_zero x (by omega)

/-- .. and no lives are left at the age -/
def clE (f : Int) (xs : List Int) (x y : Int) : Int := if chE f xs x y = 0 then (if lvs f xs x = 0 then 5 else 0) else chE f xs x y

theorem clE_n {f : Int} {xs : List Int} {x y : Int} (h : ¬ chE f xs x y = 0) : clE f xs x y = chE f xs x y := by simp [clE, h]

theorem clE_5 {f : Int} {xs : List Int} {x y : Int} (h : chE f xs x y = 0) (g : lvs f xs x = 0) : clE f xs x y = 5 := by simp [clE, h, g]

theorem clE_0 {f : Int} {xs : List Int} {x y : Int} (h : chE f xs x y = 0) (g : ¬ lvs f xs x = 0) : clE f xs x y = 0 := by simp [clE, h, g]

theorem clE_iff {f : Int} {xs : List Int} {x y : Int} : clE f xs x y = 0 ↔ LTab f xs ∧ (f ≤ x ∧ x ≤ 150) ∧ (0 ≤ y ∧ y ≤ 150) ∧ ¬ lvs f xs x = 0 := by
  unfold clE
  split
  · next h =>
    obtain ⟨h1, h2, h3⟩ := chE_iff.1 h
    split
    · next g => simp [g]
    · next g => simp [h1, h2, h3, g]
  · next h =>
    constructor
    · intro e; exact absurd e h
    · rintro ⟨a, b, c, _⟩; exact chE_iff.2 ⟨a, b, c⟩

theorem index152 (Zs : Array Value) (x : Int) (v : Int) (x0 : 0 ≤ x) (x1 : x < 152) (h : Zs[x.toNat]? = some (.int .i64 v)) (W : World) :
    (Instr.index 142 (.agg Zs) (.int .i64 x)).run Tryz.prog W = .ok (.int .i64 v) W := by
  simp [Instr.index, run_underlying und152, asIntOf, x0, x1, go_sem, h]

/-- the array is laid into a new block -/
theorem Arr.laid {Zs : Array Value} {ys : List Int} (h : Arr Zs ys) {w : World} {ops : Array Oper} {rest : List Oper} {o : Oper} {a : Act} {Q : Exit → Act → World → Prop} (hgd : o.guard = none) (x y : Operand) (ho : o.op = .store 142 x y)
    (hx : a.eval x = .pointer (some ⟨w.heap.size, 0, none⟩)) (hy : a.eval y = .agg Zs) (hk : wpList Tryz.prog ops Q rest (a.put o.dst undef) (w.alloc (.cells Zs 142))) :
    wpList Tryz.prog ops Q (o :: rest) a (w.alloc (.cells Tryz.zeroCells142 142)) :=
  wpList_store_row hgd 142 x y ho w.heap.size Zs hx hy 142 _ (heap_alloc_new _ _) h.info h.old h.one (by rw [World.setRow_alloc_new]; exact hk)

theorem clE_code {f : Int} {xs : List Int} {x y : Int} (h : ¬ ageE f xs x = 0) : clE f xs x y = ageE f xs x := by
  have hn : ¬ chE f xs x y = 0 := fun e => h (ageE_iff.2 ⟨(chE_iff.1 e).1, (chE_iff.1 e).2.1⟩)
  rw [clE_n hn]
  unfold chE ageE
  unfold ageE at h
  simp only [inB_iff]
  split
  · next ht =>
    rw [if_pos ht] at h
    by_cases hh : f ≤ x ∧ x ≤ 150
    · exact absurd (if_pos hh) h
    · rw [if_neg hh, if_neg (fun e => hh e.1)]
  · rfl

theorem clE_2 {f : Int} {xs : List Int} {x y : Int} (h : ageE f xs x = 0) (g : ¬ inB y 0 150 = true) : clE f xs x y = 2 := by
  obtain ⟨a, b⟩ := ageE_iff.1 h
  have e : chE f xs x y = 2 := chE_2 (ltB_t a) (fun hh => g hh.2)
  rw [clE_n (by omega), e]

theorem chE_ok {f : Int} {xs : List Int} {x y : Int} (h : ageE f xs x = 0) (g : inB y 0 150 = true) : chE f xs x y = 0 := by
  obtain ⟨a, b⟩ := ageE_iff.1 h
  exact chE_iff.2 ⟨a, b, (inB_iff _ _ _).1 g⟩

/-- the share of the lives at an age that are left, in lowest terms -/
def svN (f : Int) (xs : List Int) (x y : Int) : Int := if clE f xs x y = 0 then lvs f xs (x + y) / gcdI (lvs f xs (x + y)) (lvs f xs x) else 0

def svD (f : Int) (xs : List Int) (x y : Int) : Int := if clE f xs x y = 0 then lvs f xs x / gcdI (lvs f xs (x + y)) (lvs f xs x) else 0

theorem sv_n {f : Int} {xs : List Int} {x y : Int} (h : ¬ clE f xs x y = 0) : svN f xs x y = 0 ∧ svD f xs x y = 0 := by simp [svN, svD, h]

theorem sv_0 {f : Int} {xs : List Int} {x y u v : Int} (h : clE f xs x y = 0) (hu : lvs f xs (x + y) = u) (hv : lvs f xs x = v) : svN f xs x y = u / gcdI u v ∧ svD f xs x y = v / gcdI u v := by
  simp [svN, svD, h, hu, hv]

theorem ret_iii {a b c d e f : Int} (h : a = b) (g : c = d) (k : e = f) : Ending.returned (.tuple #[.int .i64 a, .int .i64 c, .int .i64 e]) = .returned (.tuple #[.int .i64 b, .int .i64 d, .int .i64 f]) := by rw [h, g, k]

end Go.Proofs.YtdlfofdibooidaaGreat

/- Columns: their plain facts, and the model's functions. | Columns: the model's C, N and M. -/
namespace Go.Proofs.YtdlfofdibooidaaGreat
open Go.ChangeShapes Go.WideShapes Go.ChangeAt Go.RowKit
set_option linter.unusedVariables false
set_option maxRecDepth 100000

/-- the sum of n values of F, from k on -/
def fsum (F : Nat → Int) (k : Nat) : Nat → Int
  | 0 => 0
  | n + 1 => fsum F k n + F (k + n)

theorem fsum_head (F : Nat → Int) (k n : Nat) : fsum F k (n + 1) = F k + fsum F (k + 1) n := by
  induction n with
  | zero => simp [fsum]
  | succ n ih => rw [fsum, ih, fsum, show k + 1 + n = k + (n + 1) by omega]; omega

theorem fsum_bd (F : Nat → Int) (h : ∀ j, 0 ≤ F j ∧ F j ≤ 1000000000000000) (k n : Nat) : 0 ≤ fsum F k n ∧ fsum F k n ≤ n * 1000000000000000 := by
  induction n with
  | zero => simp [fsum]
  | succ n ih =>
    have := h (k + n)
    rw [fsum]
    omega

theorem fsum_more (F : Nat → Int) (L k n : Nat) (h : ∀ j, L ≤ j → F j = 0) (hn : L ≤ k + n) (d : Nat) : fsum F k (n + d) = fsum F k n := by
  induction d with
  | zero => rfl
  | succ d ih => rw [show n + (d + 1) = (n + d) + 1 by omega, fsum, ih, h _ (by omega)]; omega

theorem fsum_far (F : Nat → Int) (L k n m : Nat) (h : ∀ j, L ≤ j → F j = 0) (hn : L ≤ k + n) (hm : L ≤ k + m) : fsum F k n = fsum F k m := by
  by_cases hl : n ≤ m
  · obtain ⟨d, rfl⟩ : ∃ d, m = n + d := ⟨m - n, by omega⟩
    exact (fsum_more F L k n h hn d).symm
  · obtain ⟨d, rfl⟩ : ∃ d, n = m + d := ⟨n - m, by omega⟩
    exact fsum_more F L k m h hm d

/-- the columns, k years after the first age -/
def cD (r : Int) (xs : List Int) (k : Nat) : Int := xs.getD k 0 * disc r k
def cC (r : Int) (xs : List Int) (k : Nat) : Int := (xs.getD k 0 - xs.getD (k + 1) 0) * disc r (k + 1)
def cN (r : Int) (xs : List Int) (k : Nat) : Int := fsum (cD r xs) k 152
def cM (r : Int) (xs : List Int) (k : Nat) : Int := fsum (cC r xs) k 152

theorem prod_bd (u d : Int) (u0 : 0 ≤ u) (u1 : u ≤ 1000000) (d0 : 0 ≤ d) (d1 : d ≤ 1000000000) : 0 ≤ u * d ∧ u * d ≤ 1000000000000000 := by
  have a := Int.mul_le_mul u1 d1 d0 (by omega)
  have b := Int.mul_nonneg u0 d0
  omega

theorem LTab.cD_bd {f : Int} {xs : List Int} (h : LTab f xs) (r : Int) (r0 : 0 ≤ r) (k : Nat) : 0 ≤ cD r xs k ∧ cD r xs k ≤ 1000000000000000 := by
  obtain ⟨d0, d1⟩ := disc_bd r r0 k
  exact prod_bd _ _ (h.nonneg k) (h.le k) d0 d1

theorem LTab.cC_bd {f : Int} {xs : List Int} (h : LTab f xs) (r : Int) (r0 : 0 ≤ r) (k : Nat) : 0 ≤ cC r xs k ∧ cC r xs k ≤ 1000000000000000 := by
  obtain ⟨d0, d1⟩ := disc_bd r r0 (k + 1)
  have a := h.step k
  have b := h.le k
  have c := h.nonneg (k + 1)
  exact prod_bd _ _ (by omega) (by omega) d0 d1

theorem LTab.cD_far {f : Int} {xs : List Int} (h : LTab f xs) (r : Int) (k : Nat) (hk : xs.length - 1 ≤ k) : cD r xs k = 0 := by
  unfold cD; rw [h.last k (by omega)]; simp

theorem LTab.cC_far {f : Int} {xs : List Int} (h : LTab f xs) (r : Int) (k : Nat) (hk : xs.length - 1 ≤ k) : cC r xs k = 0 := by
  unfold cC; rw [h.last k (by omega), h.last (k + 1) (by omega)]; simp

theorem LTab.short {f : Int} {xs : List Int} (h : LTab f xs) : xs.length - 1 ≤ 119 := by have := h.2.1; omega

theorem LTab.cN_step {f : Int} {xs : List Int} (h : LTab f xs) (r : Int) (k : Nat) : cN r xs k = cN r xs (k + 1) + cD r xs k := by
  have hs := h.short
  unfold cN
  rw [fsum_far (cD r xs) (xs.length - 1) k 152 153 (h.cD_far r) (by omega) (by omega), fsum_head]
  omega

theorem LTab.cM_step {f : Int} {xs : List Int} (h : LTab f xs) (r : Int) (k : Nat) : cM r xs k = cM r xs (k + 1) + cC r xs k := by
  have hs := h.short
  unfold cM
  rw [fsum_far (cC r xs) (xs.length - 1) k 152 153 (h.cC_far r) (by omega) (by omega), fsum_head]
  omega

theorem LTab.cN_bd {f : Int} {xs : List Int} (h : LTab f xs) (r : Int) (r0 : 0 ≤ r) (k : Nat) : 0 ≤ cN r xs k ∧ cN r xs k ≤ 152000000000000000 := by
  have := fsum_bd (cD r xs) (h.cD_bd r r0) k 152
  unfold cN; omega

theorem LTab.cM_bd {f : Int} {xs : List Int} (h : LTab f xs) (r : Int) (r0 : 0 ≤ r) (k : Nat) : 0 ≤ cM r xs k ∧ cM r xs k ≤ 152000000000000000 := by
  have := fsum_bd (cC r xs) (h.cC_bd r r0) k 152
  unfold cM; omega

theorem LTab.cN_far {f : Int} {xs : List Int} (h : LTab f xs) (r : Int) (k : Nat) (hk : xs.length - 1 ≤ k) : cN r xs k = 0 := by
  unfold cN; rw [fsum_far (cD r xs) (xs.length - 1) k 152 0 (h.cD_far r) (by omega) (by omega)]; rfl

theorem LTab.cM_far {f : Int} {xs : List Int} (h : LTab f xs) (r : Int) (k : Nat) (hk : xs.length - 1 ≤ k) : cM r xs k = 0 := by
  unfold cM; rw [fsum_far (cC r xs) (xs.length - 1) k 152 0 (h.cC_far r) (by omega) (by omega)]; rfl

/-- a sum that ends with the table -/
theorem LTab.cN_end {f : Int} {xs : List Int} (h : LTab f xs) (r : Int) (k n : Nat) (hn : xs.length - 1 ≤ k + n) : cN r xs k = fsum (cD r xs) k n :=
  fsum_far _ (xs.length - 1) _ _ _ (h.cD_far r) (by have := h.short; omega) hn

theorem LTab.cM_end {f : Int} {xs : List Int} (h : LTab f xs) (r : Int) (k n : Nat) (hn : xs.length - 1 ≤ k + n) : cM r xs k = fsum (cC r xs) k n :=
  fsum_far _ (xs.length - 1) _ _ _ (h.cC_far r) (by have := h.short; omega) hn

theorem sdisc_at (r n : Int) (k : Nat) (w : World) (hn : n = (k : Int)) (h0 : 0 ≤ r) (h1 : r ≤ 200) (hk : k ≤ 1000) :
    Calls Tryz.prog 72 #[.int .i64 r, .int .i64 n] w fun e w' => e = .returned (.int .i64 (disc r k)) ∧ w = w' := by
  subst hn; exact sdisc_any r k w h0 h1 hk

/-- the code of a table, a rate and an age -/
def coE (r f : Int) (xs : List Int) (x : Int) : Int := if ltB f xs = true then (if (rateB r && inB x f 150) = true then 0 else 2) else 1

theorem coE_iff {r f : Int} {xs : List Int} {x : Int} : coE r f xs x = 0 ↔ LTab f xs ∧ (0 ≤ r ∧ r ≤ 200) ∧ f ≤ x ∧ x ≤ 150 := by
  unfold coE rateB; rw [← ltB_iff, ← inB_iff, ← inB_iff]
  cases ltB f xs <;> cases inB r 0 200 <;> cases inB x f 150 <;> simp

set_option maxHeartbeats 400000 in
theorem scode_any (r f : Int) (xs : List Int) (a : Option Addr) (l c : Nat) (x : Int) (w : World) (h : Ints w a l xs) :
    Calls Tryz.prog 130 #[.agg #[.int .i64 f, .slice a l c], .int .i64 r, .int .i64 x] w fun e w' => e = .returned (.int .i64 (coE r f xs x)) ∧ Below w.heap.size w w' := by
  have H := Lib.hid h
  clear h
  by_cases h1 : ltB f xs = true
  · by_cases h2 : rateB r = true
    · by_cases h3 : inB x f 150 = true
      · have HR : Hid (coE r f xs x = 0) := Lib.hid (by simp [coE, h1, h2, h3])
        go_enter Tryz.func130, Tryz.ntmps130
        go_wp2_with (first | (go_at_call 82; refine (in_any _ _ _ _).mono ?_; rintro e w' ⟨rfl, rfl⟩) | (go_at_call 113; refine (sRate_any _ _).mono ?_; rintro e w' ⟨rfl, rfl⟩) | (go_at_call 112; refine (isL_spec f xs _ _ _ _ (H.out.on (box_b _ _))).mono ?_; rintro e w1 ⟨rfl, hb⟩; obtain ⟨hB, hc0, hc1⟩ := box2 hb; have HB := Lib.hid hB; clear hB hb))
        go_ret
        exact ⟨ret_int HR.out.symm, HB.out⟩
      · have HR : Hid (coE r f xs x = 2) := Lib.hid (by simp [coE, h1, h2, h3])
        go_enter Tryz.func130, Tryz.ntmps130
        go_wp2_with (first | (go_at_call 82; refine (in_any _ _ _ _).mono ?_; rintro e w' ⟨rfl, rfl⟩) | (go_at_call 113; refine (sRate_any _ _).mono ?_; rintro e w' ⟨rfl, rfl⟩) | (go_at_call 112; refine (isL_spec f xs _ _ _ _ (H.out.on (box_b _ _))).mono ?_; rintro e w1 ⟨rfl, hb⟩; obtain ⟨hB, hc0, hc1⟩ := box2 hb; have HB := Lib.hid hB; clear hB hb))
        go_ret
        exact ⟨ret_int HR.out.symm, HB.out⟩
    · have HR : Hid (coE r f xs x = 2) := Lib.hid (by simp [coE, h1, h2])
      go_enter Tryz.func130, Tryz.ntmps130
      go_wp2_with (first | (go_at_call 82; refine (in_any _ _ _ _).mono ?_; rintro e w' ⟨rfl, rfl⟩) | (go_at_call 113; refine (sRate_any _ _).mono ?_; rintro e w' ⟨rfl, rfl⟩) | (go_at_call 112; refine (isL_spec f xs _ _ _ _ (H.out.on (box_b _ _))).mono ?_; rintro e w1 ⟨rfl, hb⟩; obtain ⟨hB, hc0, hc1⟩ := box2 hb; have HB := Lib.hid hB; clear hB hb))
      go_ret
      exact ⟨ret_int HR.out.symm, HB.out⟩
  · have h1' : ltB f xs = false := by simpa using h1
    have HR : Hid (coE r f xs x = 1) := Lib.hid (by simp [coE, h1'])
    clear h1
    go_enter Tryz.func130, Tryz.ntmps130
    go_wp2_with (go_at_call 112; refine (isL_spec f xs _ _ _ _ (H.out.on (box_b _ _))).mono ?_; rintro e w1 ⟨rfl, hb⟩; obtain ⟨hB, hc0, hc1⟩ := box2 hb; have HB := Lib.hid hB; clear hB hb)
    go_ret
    exact ⟨ret_int HR.out.symm, HB.out⟩

set_option maxHeartbeats 400000 in
theorem sD_any (r f : Int) (xs : List Int) (a : Option Addr) (l c : Nat) (x : Int) (w : World) (h : Ints w a l xs) (ht : LTab f xs) (r0 : 0 ≤ r) (r1 : r ≤ 200) (x0 : f ≤ x) (x1 : x ≤ 151) :
    Calls Tryz.prog 43 #[.agg #[.int .i64 f, .slice a l c], .int .i64 r, .int .i64 x] w fun e w' => e = .returned (.int .i64 (cD r xs (x - f).toNat)) ∧ Below w.heap.size w w' := by
  have H := Lib.hid h
  have HT := Lib.hid ht
  obtain ⟨f0, f1⟩ := ht.1
  obtain ⟨u, hu⟩ : ∃ u, lvs f xs x = u := ⟨_, rfl⟩
  have hub := ht.lvs_bd x
  rw [hu] at hub
  obtain ⟨u0, u1⟩ := hub
  obtain ⟨k, hk⟩ : ∃ k, (x - f).toNat = k := ⟨_, rfl⟩
  have hkx : f + (k : Int) = x := by omega
  obtain ⟨d0, d1⟩ := disc_bd r r0 k
  have HU := Lib.hid hu
  have HD : Hid (cD r xs k = u * disc r k) := Lib.hid (by rw [← hu, ← hk]; rfl)
  rw [hk]
  clear h ht hu
  by_cases hk2 : (120 : Int) < x - f
  · have HZ : Hid (cD r xs k = 0) := Lib.hid (HT.out.cD_far r k (by have := HT.out.short; omega))
    go_enter Tryz.func43, Tryz.ntmps43
    go_wp2_with fail
    go_ret
    exact ⟨ret_int HZ.out.symm, box_b _ _⟩
  · have C1 : Hid (∀ W, Hid (Below w.heap.size w W) → Calls Tryz.prog 71 #[.agg #[.int .i64 f, .slice a l c], .int .i64 x] W fun e w' => e = .returned (.int .i64 u) ∧ Below W.heap.size W w') :=
      Lib.hid (fun W hW => by have := lives_any f xs a l c x W (H.out.on hW.out) f0 f1 x0 (by omega); rw [HU.out] at this; exact this)
    by_cases hz : u = 0
    · have HZ : Hid (cD r xs k = 0) := Lib.hid (by rw [HD.out, hz]; simp)
      have hz2 : (u == 0) = true := by simp [hz]
      clear hz
      go_enter Tryz.func43, Tryz.ntmps43
      go_wp2_with fail
      with_reducible refine (C1.out _ (Lib.hid (box_b _ _))).mono ?_
      rintro e w1 ⟨rfl, hb⟩
      obtain ⟨hB, hc0, hc1⟩ := box2 hb
      have HB := Lib.hid hB
      clear hb hB
      go_wp2_with fail
      go_ret
      exact ⟨ret_int HZ.out.symm, HB.out⟩
    · have hz2 : (u == 0) = false := by simp [hz]
      have hp := prod_bd u (disc r k) u0 u1 d0 d1
      obtain ⟨d, hd⟩ : ∃ d, disc r k = d := ⟨_, rfl⟩
      rw [hd] at d0 d1 hp
      obtain ⟨p0, p1⟩ := hp
      have HDD := Lib.hid hd
      clear hz hd
      go_enter Tryz.func43, Tryz.ntmps43
      go_wp2_with fail
      with_reducible refine (C1.out _ (Lib.hid (box_b _ _))).mono ?_
      rintro e w1 ⟨rfl, hb⟩
      obtain ⟨hB, hc0, hc1⟩ := box2 hb
      have HB := Lib.hid hB
      clear hb hB
      go_wp2_with fail
      with_reducible refine (C1.out _ HB).mono ?_
      rintro e w2 ⟨rfl, hb⟩
      have hd0 := keep2 hb hc0
      have hd1 := keep2 hb hc1
      have HB2 := Lib.hid (HB.out.trans (hb.mono HB.out.size))
      clear hb hc0 hc1 HB
      go_wp2_with fail
      with_reducible refine (sdisc_at r _ k _ (by omega) r0 r1 (by omega)).mono ?_
      rintro e w3 ⟨rfl, rfl⟩
      rw [HDD.out]
      go_wp2_with fail
      go_ret
      exact ⟨ret_int (by rw [HD.out, HDD.out]), HB2.out⟩

set_option maxHeartbeats 800000 in
theorem sC_any (r f : Int) (xs : List Int) (a : Option Addr) (l c : Nat) (x : Int) (w : World) (h : Ints w a l xs) (ht : LTab f xs) (r0 : 0 ≤ r) (r1 : r ≤ 200) (x0 : f ≤ x) (x1 : x ≤ 151) :
    Calls Tryz.prog 109 #[.agg #[.int .i64 f, .slice a l c], .int .i64 r, .int .i64 x] w fun e w' => e = .returned (.int .i64 (cC r xs (x - f).toNat)) ∧ Below w.heap.size w w' := by
  have H := Lib.hid h
  have HT := Lib.hid ht
  obtain ⟨f0, f1⟩ := ht.1
  obtain ⟨u, hu⟩ : ∃ u, lvs f xs x = u := ⟨_, rfl⟩
  obtain ⟨v, hv⟩ : ∃ v, lvs f xs (x + 1) = v := ⟨_, rfl⟩
  have hub := ht.lvs_bd x
  have hvb := ht.lvs_bd (x + 1)
  have hvu := ht.lvs_mono x (x + 1) (by omega)
  rw [hu] at hub hvu
  rw [hv] at hvb hvu
  obtain ⟨u0, u1⟩ := hub
  obtain ⟨v0, v1⟩ := hvb
  obtain ⟨k, hk⟩ : ∃ k, (x - f).toNat = k := ⟨_, rfl⟩
  have hkx : f + (k : Int) = x := by omega
  obtain ⟨d0, d1⟩ := disc_bd r r0 (k + 1)
  have HU := Lib.hid hu
  have HV := Lib.hid hv
  have HD : Hid (cC r xs k = (u - v) * disc r (k + 1)) := Lib.hid (by
    rw [← hu, ← hv, ← hk]; unfold cC lvs; rw [show (x + 1 - f).toNat = (x - f).toNat + 1 by omega])
  rw [hk]
  clear h ht hu hv
  have C1 : Hid (∀ W, Hid (Below w.heap.size w W) → Calls Tryz.prog 71 #[.agg #[.int .i64 f, .slice a l c], .int .i64 x] W fun e w' => e = .returned (.int .i64 u) ∧ Below W.heap.size W w') :=
    Lib.hid (fun W hW => by have := lives_any f xs a l c x W (H.out.on hW.out) f0 f1 x0 (by omega); rw [HU.out] at this; exact this)
  have C2 : Hid (∀ W, Hid (Below w.heap.size w W) → Calls Tryz.prog 71 #[.agg #[.int .i64 f, .slice a l c], .int .i64 (x + 1)] W fun e w' => e = .returned (.int .i64 v) ∧ Below W.heap.size W w') :=
    Lib.hid (fun W hW => by have := lives_any f xs a l c (x + 1) W (H.out.on hW.out) f0 f1 (by omega) (by omega); rw [HV.out] at this; exact this)
  have q1 : IntKind.i64.wrap (x + 1) = x + 1 := IntWalk.i64_in _ (by omega)
  have q2 : IntKind.i64.wrap (u - v) = u - v := IntWalk.i64_in _ (by omega)
  have hp := prod_bd (u - v) (disc r (k + 1)) (by omega) (by omega) d0 d1
  obtain ⟨d, hd⟩ : ∃ d, disc r (k + 1) = d := ⟨_, rfl⟩
  rw [hd] at d0 d1 hp
  obtain ⟨p0, p1⟩ := hp
  have HDD := Lib.hid hd
  have HPQ := Lib.hid (show 0 ≤ (u - v) * d ∧ (u - v) * d ≤ 1000000000000000 from ⟨p0, p1⟩)
  clear hd p0 p1
  go_enter Tryz.func109, Tryz.ntmps109
  go_wp2_with fail
  go_region_held3 (fun w' => w'.cell? ⟨w.heap.size, 0, none⟩ = some (.int .i64 f) ∧ w'.cell? ⟨w.heap.size, 1, none⟩ = some (.slice a l c) ∧ Hid (Below w.heap.size w w'))
    (first
      | (go_split_ands; exact ⟨by go_simp, by go_simp, Lib.hid (Below.drew (box_b _ _))⟩)
      | (go_split_ands; exact ⟨by go_simp, by go_simp, Lib.hid (box_b _ _)⟩)
      | (go_split_ands; exact ⟨by assumption, by assumption, by assumption⟩)
      | (go_split_ands; exact ⟨by assumption, by assumption, Lib.hid (Below.drew (Hid.out (by assumption)))⟩)
      | (go_split_ands; exact ⟨keep2 hb (by assumption), keep2 hb (by assumption), Lib.hid (Below.trans (Hid.out (by assumption)) (Below.mono hb (Below.size (Hid.out (by assumption)))))⟩))
    (first
      | (go_split_ands; go_at_call 71; ((with_reducible refine (C1.out _ (by assumption)).mono ?_); rintro e w' ⟨rfl, hb⟩))
      | (go_split_ands; go_at_call 71; ((with_reducible refine (C2.out _ (by assumption)).mono ?_); rintro e w' ⟨rfl, hb⟩)))
  all_goals
    go_split_ands
    obtain ⟨p0, p1⟩ := HPQ.out
    by_cases hk2 : (120 : Int) < x - f + 1
    · have HZ : Hid (cC r xs k = 0) := Lib.hid (HT.out.cC_far r k (by have := HT.out.short; omega))
      go_wp2_with fail
      go_ret
      exact ⟨ret_int HZ.out.symm, Hid.out (by assumption)⟩
    · by_cases hz : u - v = 0
      · have HZ : Hid (cC r xs k = 0) := Lib.hid (by rw [HD.out, hz]; simp)
        have hz2 : (u - v == 0) = true := by simp [hz]
        clear hz
        go_wp2_with fail
        go_ret
        exact ⟨ret_int HZ.out.symm, Hid.out (by assumption)⟩
      · have hz2 : (u - v == 0) = false := by simp [hz]
        clear hz
        go_wp2_with fail
        with_reducible refine (sdisc_at r _ (k + 1) _ (by omega) r0 r1 (by omega)).mono ?_
        rintro e w3 ⟨rfl, rfl⟩
        rw [HDD.out]
        go_wp2_with fail
        go_ret
        exact ⟨ret_int (by rw [HD.out, HDD.out]), Hid.out (by assumption)⟩

theorem fsum_step (F : Nat → Int) (h : ∀ j, 0 ≤ F j ∧ F j ≤ 1000000000000000) (k n : Nat) (hn : n ≤ 1000) : ∃ s d : Int, fsum F k n = s ∧ F (k + n) = d ∧ fsum F k (n + 1) = s + d ∧ 0 ≤ s ∧ s ≤ 1000000000000000000 ∧ 0 ≤ d ∧ d ≤ 1000000000000000 := by
  obtain ⟨h1, h2⟩ := h (k + n)
  obtain ⟨h3, h4⟩ := fsum_bd F h k n
  exact ⟨_, _, rfl, rfl, rfl, h3, by omega, h1, h2⟩

set_option maxHeartbeats 400000 in
theorem sN_any (r f : Int) (xs : List Int) (a : Option Addr) (l c : Nat) (x : Int) (w : World) (h : Ints w a l xs) (ht : LTab f xs) (r0 : 0 ≤ r) (r1 : r ≤ 200) (x0 : f ≤ x) (x1 : x ≤ 151) :
    Calls Tryz.prog 102 #[.agg #[.int .i64 f, .slice a l c], .int .i64 r, .int .i64 x] w fun e w' => e = .returned (.int .i64 (cN r xs (x - f).toNat)) ∧ Below w.heap.size w w' := by
  have hl := h.len
  have H := Lib.hid h
  have HT := Lib.hid ht
  obtain ⟨f0, f1⟩ := ht.1
  obtain ⟨l0, l1⟩ := ht.2.1
  have hlf := ht.2.2.1
  rw [hl] at l0 l1 hlf
  obtain ⟨k, hk⟩ : ∃ k, (x - f).toNat = k := ⟨_, rfl⟩
  have hkx : f + (k : Int) = x := by omega
  have HL := Lib.hid hl
  rw [hk]
  clear h ht hl
  go_enter Tryz.func102, Tryz.ntmps102
  go_wp2_with fail
  go_loopw [7, 8] (fun v i wr => ∃ j : Nat, j ≤ l ∧ (j = 0 ∨ (k : Int) + j ≤ l - 1) ∧ i = .int .i64 (x + j) ∧ v = .int .i64 (fsum (cD r xs) k j) ∧ wr.cell? ⟨w.heap.size, 0, none⟩ = some (.int .i64 f) ∧ wr.cell? ⟨w.heap.size, 1, none⟩ = some (.slice a l c) ∧ Hid (Below w.heap.size w wr)) (fun _ i _ => (f + l - intOf i).toNat)
  case atStart => exact ⟨0, by omega, .inl rfl, by go_num, rfl, by go_simp, by go_simp, Lib.hid (box_b _ _)⟩
  case round =>
    obtain ⟨j, hj, hjl, rfl, rfl, hc0, hc1, HB⟩ := hrel
    by_cases hlt : x + (j : Int) < f + l - 1
    · go_wp2_with fail
      with_reducible refine (end_spec f xs _ _ _ _ (by omega) f0 (by omega)).mono ?_
      rintro e w1 ⟨rfl, hb⟩
      have hd0 := keep2 hb hc0
      have hd1 := keep2 hb hc1
      have HB1 := Lib.hid (HB.out.trans (hb.mono HB.out.size))
      clear hb hc0 hc1 HB
      go_wp2_with fail
      with_reducible refine (sD_any r f xs _ _ _ _ _ (H.out.on HB1.out) HT.out r0 r1 (by omega) (by omega)).mono ?_
      rintro e w2 ⟨rfl, hb⟩
      have hc0 := keep2 hb hd0
      have hc1 := keep2 hb hd1
      have HB2 := Lib.hid (HB1.out.trans (hb.mono HB1.out.size))
      clear hb hd0 hd1 HB1
      have e1 : (x + (j : Int) - f).toNat = k + j := by omega
      rw [e1]
      obtain ⟨s, d, hs, hd, he, b1, b2, b3, b4⟩ := fsum_step (cD r xs) (HT.out.cD_bd r r0) k j (by omega)
      rw [hs, hd]
      have HE := Lib.hid he
      clear hs he hd e1
      go_wp2_with fail
      go_roundw
      case rel => exact ⟨j + 1, by omega, .inr (by omega), by go_num, by first | (rw [HE.out]; go_num) | (rw [HE.out]), hc0, hc1, HB2⟩
      case measure => simp [intOf]; omega
    · go_wp2_with fail
      with_reducible refine (end_spec f xs _ _ _ _ (by omega) f0 (by omega)).mono ?_
      rintro e w1 ⟨rfl, hb⟩
      have HB1 := Lib.hid (HB.out.trans (hb.mono HB.out.size))
      clear hb hc0 hc1 HB
      have HE : Hid (cN r xs k = fsum (cD r xs) k j) := Lib.hid (HT.out.cN_end r k j (by rw [HL.out]; omega))
      obtain ⟨s, hs⟩ : ∃ s, fsum (cD r xs) k j = s := ⟨_, rfl⟩
      rw [hs]
      have HS := Lib.hid hs
      clear hs
      go_wp2_with fail
      go_ret
      exact ⟨ret_int (by rw [HE.out, HS.out]), HB1.out⟩

set_option maxHeartbeats 400000 in
theorem sM_any (r f : Int) (xs : List Int) (a : Option Addr) (l c : Nat) (x : Int) (w : World) (h : Ints w a l xs) (ht : LTab f xs) (r0 : 0 ≤ r) (r1 : r ≤ 200) (x0 : f ≤ x) (x1 : x ≤ 151) :
    Calls Tryz.prog 74 #[.agg #[.int .i64 f, .slice a l c], .int .i64 r, .int .i64 x] w fun e w' => e = .returned (.int .i64 (cM r xs (x - f).toNat)) ∧ Below w.heap.size w w' := by
  have hl := h.len
  have H := Lib.hid h
  have HT := Lib.hid ht
  obtain ⟨f0, f1⟩ := ht.1
  obtain ⟨l0, l1⟩ := ht.2.1
  have hlf := ht.2.2.1
  rw [hl] at l0 l1 hlf
  obtain ⟨k, hk⟩ : ∃ k, (x - f).toNat = k := ⟨_, rfl⟩
  have hkx : f + (k : Int) = x := by omega
  have HL := Lib.hid hl
  rw [hk]
  clear h ht hl
  go_enter Tryz.func74, Tryz.ntmps74
  go_wp2_with fail
  go_loopw [7, 8] (fun v i wr => ∃ j : Nat, j ≤ l ∧ (j = 0 ∨ (k : Int) + j ≤ l - 1) ∧ i = .int .i64 (x + j) ∧ v = .int .i64 (fsum (cC r xs) k j) ∧ wr.cell? ⟨w.heap.size, 0, none⟩ = some (.int .i64 f) ∧ wr.cell? ⟨w.heap.size, 1, none⟩ = some (.slice a l c) ∧ Hid (Below w.heap.size w wr)) (fun _ i _ => (f + l - intOf i).toNat)
  case atStart => exact ⟨0, by omega, .inl rfl, by go_num, rfl, by go_simp, by go_simp, Lib.hid (box_b _ _)⟩
  case round =>
    obtain ⟨j, hj, hjl, rfl, rfl, hc0, hc1, HB⟩ := hrel
    by_cases hlt : x + (j : Int) < f + l - 1
    · go_wp2_with fail
      with_reducible refine (end_spec f xs _ _ _ _ (by omega) f0 (by omega)).mono ?_
      rintro e w1 ⟨rfl, hb⟩
      have hd0 := keep2 hb hc0
      have hd1 := keep2 hb hc1
      have HB1 := Lib.hid (HB.out.trans (hb.mono HB.out.size))
      clear hb hc0 hc1 HB
      go_wp2_with fail
      with_reducible refine (sC_any r f xs _ _ _ _ _ (H.out.on HB1.out) HT.out r0 r1 (by omega) (by omega)).mono ?_
      rintro e w2 ⟨rfl, hb⟩
      have hc0 := keep2 hb hd0
      have hc1 := keep2 hb hd1
      have HB2 := Lib.hid (HB1.out.trans (hb.mono HB1.out.size))
      clear hb hd0 hd1 HB1
      have e1 : (x + (j : Int) - f).toNat = k + j := by omega
      rw [e1]
      obtain ⟨s, d, hs, hd, he, b1, b2, b3, b4⟩ := fsum_step (cC r xs) (HT.out.cC_bd r r0) k j (by omega)
      rw [hs, hd]
      have HE := Lib.hid he
      clear hs he hd e1
      go_wp2_with fail
      go_roundw
      case rel => exact ⟨j + 1, by omega, .inr (by omega), by go_num, by first | (rw [HE.out]; go_num) | (rw [HE.out]), hc0, hc1, HB2⟩
      case measure => simp [intOf]; omega
    · go_wp2_with fail
      with_reducible refine (end_spec f xs _ _ _ _ (by omega) f0 (by omega)).mono ?_
      rintro e w1 ⟨rfl, hb⟩
      have HB1 := Lib.hid (HB.out.trans (hb.mono HB.out.size))
      clear hb hc0 hc1 HB
      have HE : Hid (cM r xs k = fsum (cC r xs) k j) := Lib.hid (HT.out.cM_end r k j (by rw [HL.out]; omega))
      obtain ⟨s, hs⟩ : ∃ s, fsum (cC r xs) k j = s := ⟨_, rfl⟩
      rw [hs]
      have HS := Lib.hid hs
      clear hs
      go_wp2_with fail
      go_ret
      exact ⟨ret_int (by rw [HE.out, HS.out]), HB1.out⟩

end Go.Proofs.YtdlfofdibooidaaGreat
