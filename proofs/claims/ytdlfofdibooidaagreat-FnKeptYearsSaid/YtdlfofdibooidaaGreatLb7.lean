/- Merged: ByAge, TabE, Make, MakeI, TabL. -/
import Derived.Test.YtdlfofdibooidaaGreatLb1
import Derived.Test.YtdlfofdibooidaaGreatLb2
import Derived.Test.YtdlfofdibooidaaGreatLb6
import Derived.Deep.WholeRow
import Derived.Deep.RegionLaw
import Derived.Laws.CopyOwn

/- The lives by age, as an array of the program's. -/
namespace Go.Proofs.YtdlfofdibooidaaGreat
open Go.ChangeShapes Go.WideShapes Go.ChangeAt Go.RowKit
set_option linter.unusedVariables false
set_option maxRecDepth 100000

/-- the lives by age: 152 numbers, those of the table from its first age on -/
def byL (f : Int) (xs : List Int) : List Int := List.replicate f.toNat 0 ++ (xs ++ List.replicate (152 - (f.toNat + xs.length)) 0)

theorem byL_len (f : Int) (xs : List Int) (h : f.toNat + xs.length ≤ 152) : (byL f xs).length = 152 := by simp [byL]; omega

theorem byL_get (f : Int) (xs : List Int) (i : Nat) (h : f.toNat ≤ i) : (byL f xs).getD i 0 = xs.getD (i - f.toNat) 0 := by
  unfold byL
  rw [List.getD_eq_getElem?_getD, List.getElem?_append_right (by simpa using h), List.length_replicate, List.getD_eq_getElem?_getD]
  by_cases hi : i - f.toNat < xs.length
  · rw [List.getElem?_append_left hi]
  · rw [List.getElem?_append_right (by omega), List.getElem?_eq_none (l := xs) (by omega), List.getElem?_replicate]
    split <;> rfl

theorem LTab.fit {f : Int} {xs : List Int} (h : LTab f xs) : f.toNat + xs.length ≤ 151 := by
  have := h.1; have := h.2.2.1; omega

/-- the lives at an age, in the array -/
theorem LTab.by {f : Int} {xs : List Int} (h : LTab f xs) (x : Int) (hx : f ≤ x) : (byL f xs).getD x.toNat 0 = lvs f xs x := by
  have := h.1
  rw [byL_get _ _ _ (by omega)]
  unfold lvs
  congr 1; omega

theorem zero152 : Tryz.zeroCells142 = (List.replicate 152 (Value.int .i64 0)).toArray := by kernel_rfl

theorem splice_by (f : Int) (xs : List Int) (h : f.toNat + xs.length ≤ 152) : splice (List.replicate 152 (Value.int .i64 0)) f.toNat (xs.map (Value.int .i64)) = (byL f xs).map (Value.int .i64) := by
  unfold splice byL
  simp only [List.take_replicate, List.drop_replicate, List.map_append, List.map_replicate, List.length_map]
  congr 2
  omega

theorem und152 : Tryz.prog.underlying 142 = some (.array (Tryz.prog.arrayLen 142) (Tryz.prog.elem 142)) := by kernel_rfl

theorem len152 : Tryz.prog.arrayLen 142 = 152 := by kernel_rfl

theorem elem152 : Tryz.prog.elem 142 = 2 := by kernel_rfl

theorem slice152 (B : Nat) (f : Int) (f0 : 0 ≤ f) (f1 : f ≤ 100) (W : World) : (Instr.sliceAt 142 (.pointer (some ⟨B, 0, none⟩)) (some (.int .i64 f)) none none).run Tryz.prog W = .ok (.slice (some ⟨B, f.toNat, none⟩) (152 - f.toNat) (152 - f.toNat)) W := by
  rw [run_sliceAt_array_l W _ _ und152 .i64 f f0 (by rw [len152]; omega), len152, elem152]
  have hs : (sizeOf 2).run Tryz.prog W = .ok 1 W := by
    simp [sizeOf, go_sem]
    rfl
  rw [hs]
  simp only [Result.andThen, slicedAt]
  rw [if_neg (by omega), Go.WideShapes.add_plain]
  simp

set_option maxHeartbeats 400000 in
theorem byAge_any (f : Int) (xs : List Int) (a : Option Addr) (l c : Nat) (w : World) (h : Ints w a l xs) (ht : LTab f xs) :
    Calls Tryz.prog 106 #[.agg #[.int .i64 f, .slice a l c]] w fun e w' => e = .returned (.agg ((byL f xs).map (Value.int .i64)).toArray) ∧ Below w.heap.size w w' := by
  have hlen := h.len
  have hfit := ht.fit
  obtain ⟨f0, f1⟩ := ht.1
  obtain ⟨l0, l1⟩ := ht.2.1
  rw [hlen] at l0 l1
  obtain ⟨b, off, rfl, hb, hc⟩ := h.at (by omega)
  have hz := zero152
  have HB : Hid (Below w.heap.size w (((w.alloc (.cells #[.int .i64 f, .slice (some ⟨b, off, none⟩) l c] 26)).alloc (.cells Tryz.zeroCells142 142)).alloc (.cells Tryz.zeroCells142 142))) :=
    Lib.hid (((box_b _ _).alloc (by simp) _).alloc (by simp; omega) _)
  have HG : Hid ((((w.alloc (.cells #[.int .i64 f, .slice (some ⟨b, off, none⟩) l c] 26)).alloc (.cells Tryz.zeroCells142 142)).alloc (.cells Tryz.zeroCells142 142)).heap[w.heap.size + 1 + 1]? = some (.cells (List.replicate 152 (Value.int .i64 0)).toArray 142 (0, 0))) := Lib.hid (by
      have := heap_alloc_new ((w.alloc (.cells #[.int .i64 f, .slice (some ⟨b, off, none⟩) l c] 26)).alloc (.cells Tryz.zeroCells142 142)) (.cells Tryz.zeroCells142 142)
      rw [World.size_alloc, World.size_alloc] at this
      rw [this, hz])
  have HC : Hid (∀ j v, (xs.map (Value.int .i64))[j]? = some v → (((w.alloc (.cells #[.int .i64 f, .slice (some ⟨b, off, none⟩) l c] 26)).alloc (.cells Tryz.zeroCells142 142)).alloc (.cells Tryz.zeroCells142 142)).cell? ((⟨b, off, none⟩ : Addr).add j) = some v) := Lib.hid (by
      intro j v hj
      have hjl : j < l := by
        have := (List.getElem?_eq_some_iff.1 hj).1
        simpa [hlen] using this
      rw [Go.WideShapes.add_plain, HB.out.cell (p := ⟨b, off + j, none⟩) hb, hc j hjl]
      rw [List.getElem?_map, List.getElem?_eq_getElem (by omega)] at hj
      simp [List.getD, List.getElem?_eq_getElem (show j < xs.length by omega)] at hj ⊢
      exact hj)
  obtain ⟨Zs, hZs⟩ : ∃ Zs, ((byL f xs).map (Value.int .i64)).toArray = Zs := ⟨_, rfl⟩
  have HS : Hid ((splice (List.replicate 152 (Value.int .i64 0)) f.toNat (xs.map (Value.int .i64))).toArray = Zs) := Lib.hid (by rw [splice_by f xs (by omega), hZs])
  have HZ : Hid (Zs.size = 152) := Lib.hid (by rw [← hZs]; simp [byL_len f xs (by omega)])
  have HO : Hid (Zs.all (·.oneCell') = true) := Lib.hid (by rw [← hZs, Array.all_eq_true_iff_forall_mem]; intro v hv; simp at hv; obtain ⟨x, _, rfl⟩ := hv; rfl)
  have HP : Hid ((((w.alloc (.cells #[.int .i64 f, .slice (some ⟨b, off, none⟩) l c] 26)).alloc (.cells Tryz.zeroCells142 142)).alloc (.cells Tryz.zeroCells142 142)).heap[w.heap.size + 1]? = some (.cells Tryz.zeroCells142 142 (0, 0))) := Lib.hid (by
      rw [Below.heap_alloc _ _ _ (by simp)]
      have := heap_alloc_new (w.alloc (.cells #[.int .i64 f, .slice (some ⟨b, off, none⟩) l c] 26)) (.cells Tryz.zeroCells142 142)
      rw [World.size_alloc] at this
      exact this)
  have HL := Lib.hid hlen
  have hfl : f.toNat + l ≤ 151 := by omega
  have hft : f.toNat ≤ 152 := by omega
  have HZZ : Hid (Zs = ((byL f xs).map (Value.int .i64)).toArray) := Lib.hid hZs.symm
  clear hz hc hlen ht h hZs hfit
  have hsl := slice152 (w.heap.size + 1 + 1) f f0 f1
  go_enter Tryz.func106, Tryz.ntmps106
  go_wp2_with fail
  go_region_law (refine step_copy_splice rfl (.tmp 6) (.tmp 8) 24 24 rfl 2 Tryz.underlying24 (by kernel_rfl) (some ⟨w.heap.size + 1 + 1, f.toNat, none⟩) (some ⟨b, off, none⟩) _ _ l c (by rfl) (by rfl) (w.heap.size + 1 + 1) f.toNat (List.replicate 152 (.int .i64 0)) 142 HG.out (xs.map (.int .i64)) (by rw [List.length_map, HL.out]; exact (Nat.min_eq_left (by omega)).symm) (fun _ => ⟨rfl, ⟨b, off, none⟩, rfl, HC.out⟩) (by rw [List.length_map, HL.out, List.length_replicate]; omega) (by intro v hv; obtain ⟨x, _, rfl⟩ := List.mem_map.1 hv; rfl) (w.heap.size + 1 + 1) _ (Below.refl _ _) (by omega) ?_; intro w4 hg4 hb4)
  all_goals
    have hrow : w4.heap[w.heap.size + 1 + 1]? = some (.cells Zs 142 (0, 0)) := by rw [← HS.out]; exact hg4.out
    have hres : w4.heap[w.heap.size + 1]? = some (.cells Tryz.zeroCells142 142 (0, 0)) := (hb4.block (w.heap.size + 1) (by omega)).trans HP.out
    have HW : Hid (Below w.heap.size w w4) := Lib.hid (by first | exact HB.out.drew.trans (hb4.mono (by omega)) | exact HB.out.trans (hb4.mono (by omega)))
    clear hg4 hb4
    go_wp2_with (first | (refine wpList_load_row rfl 142 (.tmp 3) rfl (w.heap.size + 1 + 1) rfl 142 Zs (0, 0) _ hrow und152 rfl (by rw [HZ.out]; kernel_rfl) ?_) | (refine wpList_store_row rfl 142 (.tmp 2) (.tmp 10) rfl (w.heap.size + 1) Zs rfl rfl 142 _ hres (by rw [HZ.out]; kernel_rfl) (by rw [HZ.out]; kernel_rfl) HO.out ?_))
    refine bodyPost_ret (v := .agg Zs) (results_cell_row rfl _ _ (w.heap.size + 1) 142 Zs (0, 0) _ rfl (setRow_heap w4 _ _ Zs _ _ hres) und152 rfl (by rw [HZ.out]; kernel_rfl)) rfl ⟨by rw [HZZ.out], below_setRow HW.out (by omega) Zs⟩

/-- an array of 152 numbers -/
structure Arr (Zs : Array Value) (ys : List Int) : Prop where
  eq : Zs = (ys.map (Value.int .i64)).toArray
  len : ys.length = 152

theorem Arr.size {Zs : Array Value} {ys : List Int} (h : Arr Zs ys) : Zs.size = 152 := by rw [h.eq]; simp [h.len]

theorem Arr.one {Zs : Array Value} {ys : List Int} (h : Arr Zs ys) : Zs.all (·.oneCell') = true := by
  rw [h.eq, Array.all_eq_true_iff_forall_mem]
  intro v hv
  simp at hv
  obtain ⟨x, _, rfl⟩ := hv
  rfl

theorem Arr.get {Zs : Array Value} {ys : List Int} (h : Arr Zs ys) (i : Nat) (hi : i < 152) : Zs[i]? = some (.int .i64 (ys.getD i 0)) := by
  rw [h.eq]
  have := h.len
  simp [List.getD, show i < ys.length by omega]

theorem Arr.info {Zs : Array Value} {ys : List Int} (h : Arr Zs ys) : (Tryz.prog.info? 142).map (·.size) = some Zs.size := by
  rw [h.size]; kernel_rfl

theorem Arr.old {Zs : Array Value} {ys : List Int} (h : Arr Zs ys) : Tryz.zeroCells142.size = Zs.size := by
  rw [h.size]; kernel_rfl

def ByPost (f : Int) (xs : List Int) (w : World) (e : Ending) (w' : World) : Prop := ∃ Zs, e = .returned (.agg Zs) ∧ Arr Zs (byL f xs) ∧ Below w.heap.size w w'

theorem byAge_r (f : Int) (xs : List Int) (a : Option Addr) (l c : Nat) (w : World) (h : Ints w a l xs) (ht : LTab f xs) :
    Calls Tryz.prog 106 #[.agg #[.int .i64 f, .slice a l c]] w (ByPost f xs w) :=
  (byAge_any f xs a l c w h ht).mono fun e w' ⟨he, hb⟩ => ⟨_, he, ⟨rfl, byL_len _ _ (by have := ht.fit; omega)⟩, hb⟩

/-- a cell of a block that was laid with the array -/
theorem Arr.cell {Zs : Array Value} {ys : List Int} (h : Arr Zs ys) (w : World) (i : Nat) (hi : i < 152) : (w.alloc (.cells Zs 142)).cell? ⟨w.heap.size, i, none⟩ = some (.int .i64 (ys.getD i 0)) := by
  rw [World.cell?_alloc_new]; exact h.get i hi

end Go.Proofs.YtdlfofdibooidaaGreat

/- Fractions in lowest terms; who lives: what the calls return. | LivesAt, DeathsAt and SurvivalOf of the program: what the calls return. | SurvivalOf of the program and of its model: what the calls return. | SurvivalOf of the program: what the calls return. -/
namespace Go.Proofs.YtdlfofdibooidaaGreat
open Go.ChangeShapes Go.WideShapes Go.ChangeAt Go.RowKit
set_option linter.unusedVariables false
set_option maxRecDepth 100000

theorem gcdI_pos (a b : Int) (ha : 0 ≤ a) (hb : 1 ≤ b) : 1 ≤ gcdI a b := by
  unfold gcdI
  have : 0 < Nat.gcd a.toNat b.toNat := Nat.gcd_pos_of_pos_right _ (by omega)
  omega

theorem gcdI_ge (a b : Int) : 0 ≤ gcdI a b := by unfold gcdI; omega

theorem div_in (a g M : Int) (h0 : 0 ≤ a) (h1 : a ≤ M) (hg : 1 ≤ g) : 0 ≤ a / g ∧ a / g ≤ M := by
  have h2 := Int.ediv_nonneg h0 (show 0 ≤ g by omega)
  have h3 := Int.ediv_le_self g h0
  omega

/-! ### who lives -/

theorem LTab.dead {f : Int} {xs : List Int} (h : LTab f xs) (x : Int) (hx : f ≤ x) : lvs f xs x = 0 ↔ f + xs.length - 1 ≤ x := by
  constructor
  · intro h0
    by_cases hh : x + 1 < f + xs.length
    · have := h.lvs_pos x hh hx; omega
    · omega
  · intro h0; exact h.lvs_zero x (by omega)

/-- .. and no lives are left at the age -/
def clE (f : Int) (xs : List Int) (x y : Int) : Int := if chE f xs x y = 0 then (if lvs f xs x = 0 then 5 else 0) else chE f xs x y

theorem clE_n {f : Int} {xs : List Int} {x y : Int} (h : ¬ chE f xs x y = 0) : clE f xs x y = chE f xs x y := by simp [clE, h]

theorem clE_5 {f : Int} {xs : List Int} {x y : Int} (h : chE f xs x y = 0) (g : lvs f xs x = 0) : clE f xs x y = 5 := by simp [clE, h, g]

theorem clE_0 {f : Int} {xs : List Int} {x y : Int} (h : chE f xs x y = 0) (g : ¬ lvs f xs x = 0) : clE f xs x y = 0 := by simp [clE, h, g]

theorem clE_iff {f : Int} {xs : List Int} {x y : Int} : clE f xs x y = 0 ↔ LTab f xs ∧ (f ≤ x ∧ x ≤ 150) ∧ (0 ≤ y ∧ y ≤ 150) ∧ ¬ lvs f xs x = 0 := by
  unfold clE
  split
  · next h =>
    obtain ⟨h1, h2, h3⟩ := chE_iff.1 h
    split
    · next g => simp [g]
    · next g => simp [h1, h2, h3, g]
  · next h =>
    constructor
    · intro e; exact absurd e h
    · rintro ⟨a, b, c, _⟩; exact chE_iff.2 ⟨a, b, c⟩

theorem index152 (Zs : Array Value) (x : Int) (v : Int) (x0 : 0 ≤ x) (x1 : x < 152) (h : Zs[x.toNat]? = some (.int .i64 v)) (W : World) :
    (Instr.index 142 (.agg Zs) (.int .i64 x)).run Tryz.prog W = .ok (.int .i64 v) W := by
  simp [Instr.index, run_underlying und152, asIntOf, x0, x1, go_sem, h]

/-- the array is laid into a new block -/
theorem Arr.laid {Zs : Array Value} {ys : List Int} (h : Arr Zs ys) {w : World} {ops : Array Oper} {rest : List Oper} {o : Oper} {a : Act} {Q : Exit → Act → World → Prop} (hgd : o.guard = none) (x y : Operand) (ho : o.op = .store 142 x y)
    (hx : a.eval x = .pointer (some ⟨w.heap.size, 0, none⟩)) (hy : a.eval y = .agg Zs) (hk : wpList Tryz.prog ops Q rest (a.put o.dst undef) (w.alloc (.cells Zs 142))) :
    wpList Tryz.prog ops Q (o :: rest) a (w.alloc (.cells Tryz.zeroCells142 142)) :=
  wpList_store_row hgd 142 x y ho w.heap.size Zs hx hy 142 _ (heap_alloc_new _ _) h.info h.old h.one (by rw [World.setRow_alloc_new]; exact hk)

theorem clE_code {f : Int} {xs : List Int} {x y : Int} (h : ¬ ageE f xs x = 0) : clE f xs x y = ageE f xs x := by
  have hn : ¬ chE f xs x y = 0 := fun e => h (ageE_iff.2 ⟨(chE_iff.1 e).1, (chE_iff.1 e).2.1⟩)
  rw [clE_n hn]
  unfold chE ageE
  unfold ageE at h
  simp only [inB_iff]
  split
  · next ht =>
    rw [if_pos ht] at h
    by_cases hh : f ≤ x ∧ x ≤ 150
    · exact absurd (if_pos hh) h
    · rw [if_neg hh, if_neg (fun e => hh e.1)]
  · rfl

theorem clE_2 {f : Int} {xs : List Int} {x y : Int} (h : ageE f xs x = 0) (g : ¬ inB y 0 150 = true) : clE f xs x y = 2 := by
  obtain ⟨a, b⟩ := ageE_iff.1 h
  have e : chE f xs x y = 2 := chE_2 (ltB_t a) (fun hh => g hh.2)
  rw [clE_n (by omega), e]

theorem chE_ok {f : Int} {xs : List Int} {x y : Int} (h : ageE f xs x = 0) (g : inB y 0 150 = true) : chE f xs x y = 0 := by
  obtain ⟨a, b⟩ := ageE_iff.1 h
  exact chE_iff.2 ⟨a, b, (inB_iff _ _ _).1 g⟩

/-- the share of the lives at an age that are left, in lowest terms -/
def svN (f : Int) (xs : List Int) (x y : Int) : Int := if clE f xs x y = 0 then lvs f xs (x + y) / gcdI (lvs f xs (x + y)) (lvs f xs x) else 0

def svD (f : Int) (xs : List Int) (x y : Int) : Int := if clE f xs x y = 0 then lvs f xs x / gcdI (lvs f xs (x + y)) (lvs f xs x) else 0

theorem sv_n {f : Int} {xs : List Int} {x y : Int} (h : ¬ clE f xs x y = 0) : svN f xs x y = 0 ∧ svD f xs x y = 0 := by simp [svN, svD, h]

theorem sv_0 {f : Int} {xs : List Int} {x y u v : Int} (h : clE f xs x y = 0) (hu : lvs f xs (x + y) = u) (hv : lvs f xs x = v) : svN f xs x y = u / gcdI u v ∧ svD f xs x y = v / gcdI u v := by
  simp [svN, svD, h, hu, hv]

theorem ret_iii {a b c d e f : Int} (h : a = b) (g : c = d) (k : e = f) : Ending.returned (.tuple #[.int .i64 a, .int .i64 c, .int .i64 e]) = .returned (.tuple #[.int .i64 b, .int .i64 d, .int .i64 f]) := by rw [h, g, k]

end Go.Proofs.YtdlfofdibooidaaGreat

/- MakeTable of the program: what the calls return. -/
namespace Go.Proofs.YtdlfofdibooidaaGreat
open Go.ChangeShapes Go.WideShapes Go.ChangeAt Go.RowKit
set_option linter.unusedVariables false

theorem one_newT (w : World) (x : Int) : ∀ j u, [Value.int .i64 x][j]? = some u → (w.alloc (.cells #[.int .i64 x] 2)).cell? ((⟨w.heap.size, 0, none⟩ : Addr).add j) = some u := by
  intro j u hj
  match j, hj with
  | 0, hj => simp at hj; subst hj; simp [Addr.add]

theorem ownI_one (w : World) (x : Int) : OwnI w.heap.size (w.alloc (.cells #[.int .i64 x] 2)) (.slice (some ⟨w.heap.size, 0, none⟩) 1 1) [x] :=
  World.ownsRow_lit w #[.int .i64 x] 1 (Nat.le_refl _) (by unfold maxLen; omega) rfl

/-- a list that a call has made: where it lies, what it holds -/
def Made (w : World) (xs : List Int) (v : Value) (w' : World) : Prop := ∃ g c, v = .slice (some ⟨g, 0, none⟩) xs.length c ∧ xs.length ≤ c ∧ w.heap.size ≤ g ∧ RowI w' g 0 xs ∧ Below w.heap.size w w'

theorem OwnI.made {w w' : World} {v : Value} {xs : List Int} (h : OwnI w.heap.size w' v xs) (hb : Below w.heap.size w w') (hl : 0 < xs.length) : Made w xs v w' := by
  have hh := h
  obtain ⟨_, ⟨rfl, h0⟩ | ⟨g, cap, cur, rfl, hg, hc, hn, hcap, _⟩⟩ := h
  · omega
  · exact ⟨g, cap, rfl, hn, hg, hh.row, hb⟩

/-- rates of a table -/
def rtsB (rs : List Int) : Bool := rs.all fun r => inB r 0 1000

theorem rtsB_iff (rs : List Int) : rtsB rs = true ↔ ∀ r ∈ rs, 0 ≤ r ∧ r ≤ 1000 := by
  unfold rtsB; rw [List.all_eq_true]
  exact ⟨fun h r hr => (inB_iff _ _ _).1 (h r hr), fun h r hr => (inB_iff _ _ _).2 (h r hr)⟩

theorem du_1000 (a : Int) (h0 : 0 ≤ a) (h1 : a ≤ 1000000000) : duV a 1000 = up1000 a := by
  have : ddB a 1000 = true := (ddB_iff _ _).2 (by omega)
  simp [duV, this, up1000]

end Go.Proofs.YtdlfofdibooidaaGreat

/- MakeTable of the program: what the calls return. -/
namespace Go.Proofs.YtdlfofdibooidaaGreat
open Go.ChangeShapes Go.WideShapes Go.ChangeAt Go.RowKit
set_option linter.unusedVariables false

/-- whether a table is made of these -/
def mkB (f L : Int) (rs : List Int) : Bool := inB f 0 100 && inB L 1 1000000 && (decide (rs.length ≤ 118) && decide ((rs.length : Int) ≤ 149 - f)) && rtsB rs

theorem mkB_iff (f L : Int) (rs : List Int) : mkB f L rs = true ↔ (0 ≤ f ∧ f ≤ 100) ∧ (1 ≤ L ∧ L ≤ 1000000) ∧ (rs.length ≤ 118 ∧ (rs.length : Int) ≤ 149 - f) ∧ ∀ r ∈ rs, 0 ≤ r ∧ r ≤ 1000 := by
  unfold mkB
  simp only [Bool.and_eq_true, inB_iff, rtsB_iff, decide_eq_true_iff]
  constructor
  · rintro ⟨⟨⟨a, b⟩, c⟩, d⟩; exact ⟨a, b, c, d⟩
  · rintro ⟨a, b, c, d⟩; exact ⟨⟨⟨a, b⟩, c⟩, d⟩

theorem mkB_no {f L : Int} {rs : List Int} (h : mkB f L rs = true → False) : mkB f L rs = false := by
  rw [Bool.eq_false_iff]; exact h

def MkPost (f L : Int) (rs : List Int) (w : World) (e : Ending) (w' : World) : Prop :=
  (mkB f L rs = true ∧ ∃ v, e = .returned (.tuple #[.agg #[.int .i64 f, v], .int .i64 0]) ∧ Made w (mkL L rs) v w') ∨
  (mkB f L rs = false ∧ e = .returned (.tuple #[.agg #[.int .i64 0, .slice none 0 0], .int .i64 2]) ∧ Below w.heap.size w w')

theorem MkPost.bad {f L : Int} {rs : List Int} {w w' : World} (h : mkB f L rs = false) (hb : Below w.heap.size w w') : MkPost f L rs w (.returned (.tuple #[.agg #[.int .i64 0, .slice none 0 0], .int .i64 2])) w' := .inr ⟨h, rfl, hb⟩

theorem two_set (w : World) (x y u v : Value) (T : TypeId) : (((w.alloc (.cells #[x, y] T)).setCell ⟨w.heap.size, 0, none⟩ u).setCell ⟨w.heap.size, 1, none⟩ v).cell? ⟨w.heap.size, 0, none⟩ = some u ∧ (((w.alloc (.cells #[x, y] T)).setCell ⟨w.heap.size, 0, none⟩ u).setCell ⟨w.heap.size, 1, none⟩ v).cell? ⟨w.heap.size, 1, none⟩ = some v := by
  constructor <;> go_simp

end Go.Proofs.YtdlfofdibooidaaGreat

/- Life tables that a law takes, makes and compares; the exact laws on IsLifeTable, LivesAt, DeathsAt and SurvivalOf. -/
namespace Go.Proofs.YtdlfofdibooidaaGreat
open Go.ChangeShapes Go.WideShapes Go.ChangeAt Go.RowKit
set_option linter.unusedVariables false

theorem szS_big (a : Option Addr) (l c : Nat) (n : Int) (w : World) (hl : l ≤ 9223372036854775807) (n0 : 0 ≤ n) (n1 : n ≤ 1048576) (hlt : n < (l : Int)) :
    Calls Tryz.prog 91 #[.slice a l c, .int .i64 n] w fun e w' => e = .returned (.int .i64 (-1)) ∧ w = w' := by
  have h2 : n - (l : Int) < 0 := by omega
  go_enter Tryz.func91, Tryz.ntmps91
  go_wp2_with fail
  go_ret
  exact ⟨rfl, rfl⟩

theorem szS_fit (a : Option Addr) (l c : Nat) (n : Int) (w : World) (n0 : 0 ≤ n) (n1 : n ≤ 1048576) (hlt : (l : Int) ≤ n) :
    Calls Tryz.prog 91 #[.slice a l c, .int .i64 n] w fun e w' => e = .returned (.int .i64 (n - l)) ∧ w = w' := by
  have h2 : ¬ n - (l : Int) < 0 := by omega
  go_enter Tryz.func91, Tryz.ntmps91
  go_wp2_with fail
  go_ret
  exact ⟨rfl, rfl⟩

theorem szT_big (f : Int) (a : Option Addr) (l c : Nat) (w : World) (hl : l ≤ 9223372036854775807) (h : (1048576 : Int) < l) :
    Calls Tryz.prog 54 #[.agg #[.int .i64 f, .slice a l c], .int .i64 1048576] w fun e w' => e = .returned (.int .i64 (-1)) ∧ Below w.heap.size w w' := by
  have hc := fun w => szS_big a l c 1048576 w hl (by omega) (by omega) h
  have HC := Lib.hid hc
  clear hc
  go_enter Tryz.func54, Tryz.ntmps54
  go_wp2_with (go_at_call 91; refine (HC.out _).mono ?_; rintro e w' ⟨rfl, rfl⟩)
  go_ret
  exact ⟨rfl, box_b _ _⟩

theorem szT_fit (f : Int) (a : Option Addr) (l c : Nat) (w : World) (h : (l : Int) ≤ 1048576) :
    Calls Tryz.prog 54 #[.agg #[.int .i64 f, .slice a l c], .int .i64 1048576] w fun e w' => e = .returned (.int .i64 (1048576 - l)) ∧ Below w.heap.size w w' := by
  have hc := fun w => szS_fit a l c 1048576 w (by omega) (by omega) h
  have HC := Lib.hid hc
  clear hc
  go_enter Tryz.func54, Tryz.ntmps54
  go_wp2_with (go_at_call 91; refine (HC.out _).mono ?_; rintro e w' ⟨rfl, rfl⟩)
  go_ret
  exact ⟨rfl, box_b _ _⟩

theorem szT_big2 (f : Int) (a : Option Addr) (l c : Nat) (n : Int) (w : World) (hl : l ≤ 9223372036854775807) (n0 : 0 ≤ n) (n1 : n ≤ 1048576) (h : n < l) :
    Calls Tryz.prog 54 #[.agg #[.int .i64 f, .slice a l c], .int .i64 n] w fun e w' => e = .returned (.int .i64 (-1)) ∧ Below w.heap.size w w' := by
  have HC := Lib.hid (fun w => szS_big a l c n w hl n0 n1 h)
  clear h
  go_enter Tryz.func54, Tryz.ntmps54
  go_wp2_with (go_at_call 91; refine (HC.out _).mono ?_; rintro e w' ⟨rfl, rfl⟩)
  go_ret
  exact ⟨rfl, box_b _ _⟩

theorem szT_fit2 (f : Int) (a : Option Addr) (l c : Nat) (n : Int) (w : World) (n0 : 0 ≤ n) (n1 : n ≤ 1048576) (h : (l : Int) ≤ n) :
    Calls Tryz.prog 54 #[.agg #[.int .i64 f, .slice a l c], .int .i64 n] w fun e w' => e = .returned (.int .i64 (n - l)) ∧ Below w.heap.size w w' := by
  have HC := Lib.hid (fun w => szS_fit a l c n w n0 n1 h)
  have hp : ¬ n - (l : Int) < 0 := by omega
  clear h
  go_enter Tryz.func54, Tryz.ntmps54
  go_wp2_with (go_at_call 91; refine (HC.out _).mono ?_; rintro e w' ⟨rfl, rfl⟩)
  go_ret
  exact ⟨rfl, box_b _ _⟩

/-- a table that a law has copied: in a block of its own -/
def ToPost (w : World) (f : Int) (xs : List Int) (l : Nat) (e : Ending) (w' : World) : Prop := ∃ B, e = .returned (.agg #[.int .i64 f, .slice (some ⟨B, 0, none⟩) l l]) ∧ w.heap.size ≤ B ∧ Blk w' B xs ∧ Below w.heap.size w w'

theorem toT_any (f : Int) (xs : List Int) (a : Option Addr) (l c : Nat) (w : World) (h : Ints w a l xs) (hl : l ≤ 1048576) :
    Calls Tryz.prog 55 #[.agg #[.int .i64 f, .slice a l c]] w (ToPost w f xs l) := by
  have HL := Lib.hid h.len
  have H := Lib.hid h
  clear h
  go_enter Tryz.func55, Tryz.ntmps55
  go_wp2_with fail
  have HB : Hid (Below w.heap.size w (((w.alloc (.cells #[.int .i64 f, .slice a l c] 41)).alloc (.cells #[.int .i64 0, .slice none 0 0] 26)).alloc (.cells #[.int .i64 f, .slice none 0 0] 26))) := Lib.hid (((box_b _ _).alloc (by simp) _).alloc (by simp; omega) _)
  refine (toS_any xs _ _ _ _ (H.out.on HB.out) hl).mono ?_
  rintro e w4 ⟨rfl, hk, hz, hb⟩
  have hc20 : w4.cell? ⟨w.heap.size + 1 + 1, 0, none⟩ = some (.int .i64 f) := (hb.cell (p := ⟨w.heap.size + 1 + 1, 0, none⟩) (by simp)).trans (by go_simp)
  have hc21 : w4.cell? ⟨w.heap.size + 1 + 1, 1, none⟩ = some (.slice none 0 0) := (hb.cell (p := ⟨w.heap.size + 1 + 1, 1, none⟩) (by simp)).trans (by go_simp)
  have hf21 : w4.frozen? ⟨w.heap.size + 1 + 1, 1, none⟩ = false := (hb.frozen (p := ⟨w.heap.size + 1 + 1, 1, none⟩) (by simp)).trans (by go_simp)
  have hc10 : w4.cell? ⟨w.heap.size + 1, 0, none⟩ = some (.int .i64 0) := (hb.cell (p := ⟨w.heap.size + 1, 0, none⟩) (by simp)).trans (by go_simp)
  have hc11 : w4.cell? ⟨w.heap.size + 1, 1, none⟩ = some (.slice none 0 0) := (hb.cell (p := ⟨w.heap.size + 1, 1, none⟩) (by simp)).trans (by go_simp)
  have hf10 : w4.frozen? ⟨w.heap.size + 1, 0, none⟩ = false := (hb.frozen (p := ⟨w.heap.size + 1, 0, none⟩) (by simp)).trans (by go_simp)
  have hf11 : w4.frozen? ⟨w.heap.size + 1, 1, none⟩ = false := (hb.frozen (p := ⟨w.heap.size + 1, 1, none⟩) (by simp)).trans (by go_simp)
  have HK : Hid (Blk w4 (w.heap.size + 1 + 1 + 1) xs) := Lib.hid (by rw [World.size_alloc, World.size_alloc, World.size_alloc] at hk; exact hk)
  have HBB := Lib.hid (HB.out.trans (hb.mono (by simp; omega)))
  clear hk hz hb
  go_wp2_with fail
  refine bodyPost_ret (v := .agg #[.int .i64 f, .slice (some ⟨w.heap.size + 1 + 1 + 1, 0, none⟩) l l]) ?_ rfl ⟨w.heap.size + 1 + 1 + 1, rfl, by omega, ?_, ?_⟩
  · simp [results, Tryz.results55, go_sem, hc10, hc11]
  · exact ((HK.out.same (Below.heap_setCell _ _ _ _ (by show w.heap.size + 1 + 1 + 1 ≠ w.heap.size + 1 + 1; omega))).same (Below.heap_setCell _ _ _ _ (by show w.heap.size + 1 + 1 + 1 ≠ w.heap.size + 1; omega))).same (Below.heap_setCell _ _ _ _ (by show w.heap.size + 1 + 1 + 1 ≠ w.heap.size + 1; omega))
  · exact ((HBB.out.setCell (by simp; omega) _).setCell (by simp) _).setCell (by simp) _

theorem eqT_any (f g : Int) (xs ys : List Int) (a b : Option Addr) (l m c d : Nat) (w : World) (h : Ints w a l xs) (k : Ints w b m ys) :
    Calls Tryz.prog 56 #[.agg #[.int .i64 f, .slice a l c], .agg #[.int .i64 g, .slice b m d]] w fun e w' => e = .returned (.bool (decide (f = g ∧ xs = ys))) ∧ Below w.heap.size w w' := by
  have HB : Hid (Below w.heap.size w ((w.alloc (.cells #[.int .i64 f, .slice a l c] 26)).alloc (.cells #[.int .i64 g, .slice b m d] 26))) := Lib.hid ((box_b _ _).alloc (by simp) _)
  have H := Lib.hid (h.on HB.out)
  have K := Lib.hid (k.on HB.out)
  clear h k
  by_cases hfg : f = g
  · subst hfg
    go_enter Tryz.func56, Tryz.ntmps56
    go_wp2_with fail
    refine (eqS_any xs ys _ _ _ _ _ _ _ H.out K.out).mono ?_
    rintro e w4 ⟨rfl, n, rfl⟩
    by_cases hxy : xs = ys
    · have hd : decide (xs = ys) = true := by simpa using hxy
      have HD : Hid (decide (f = f ∧ xs = ys) = true) := Lib.hid (by simpa using hxy)
      clear hxy
      rw [hd]
      go_wp2_with fail
      go_ret
      exact ⟨ret_bool HD.out.symm, below_drewN HB.out _⟩
    · have hd : decide (xs = ys) = false := by simpa using hxy
      have HD : Hid (decide (f = f ∧ xs = ys) = false) := Lib.hid (by simpa using hxy)
      clear hxy
      rw [hd]
      go_wp2_with fail
      go_ret
      exact ⟨ret_bool HD.out.symm, below_drewN HB.out _⟩
  · have hne : (f != g) = true := by simpa using hfg
    have HD : Hid (decide (f = g ∧ xs = ys) = false) := Lib.hid (by simp [hfg])
    clear hfg
    go_enter Tryz.func56, Tryz.ntmps56
    go_wp2_with fail
    go_ret
    exact ⟨ret_bool HD.out.symm, HB.out⟩

theorem eqT_same (f : Int) (xs : List Int) (a b : Option Addr) (l m c d : Nat) (w : World) (h : Ints w a l xs) (k : Ints w b m xs) :
    Calls Tryz.prog 56 #[.agg #[.int .i64 f, .slice a l c], .agg #[.int .i64 f, .slice b m d]] w fun e w' => e = .returned (.bool true) ∧ Below w.heap.size w w' := by
  have := eqT_any f f xs xs a b l m c d w h k
  simpa using this

end Go.Proofs.YtdlfofdibooidaaGreat
