/- The lives by age, as an array of the program's. -/
import Derived.Test.YtnclncglmnbelaaGreatTabC
import Derived.Test.YtnclncglmnbelaaGreatDrawS
import Derived.Deep.WholeRow
import Derived.Deep.RegionLaw
import Derived.Laws.CopyOwn
namespace Go.Proofs.YtnclncglmnbelaaGreat
open Go.ChangeShapes Go.WideShapes Go.ChangeAt Go.RowKit
set_option linter.unusedVariables false
set_option maxRecDepth 100000

/-- the lives by age: 152 numbers, those of the table from its first age on -/
def byL (f : Int) (xs : List Int) : List Int := List.replicate f.toNat 0 ++ (xs ++ List.replicate (152 - (f.toNat + xs.length)) 0)

theorem byL_len (f : Int) (xs : List Int) (h : f.toNat + xs.length ≤ 152) : (byL f xs).length = 152 := by simp [byL]; omega

theorem byL_get (f : Int) (xs : List Int) (i : Nat) (h : f.toNat ≤ i) : (byL f xs).getD i 0 = xs.getD (i - f.toNat) 0 := by
  unfold byL
  rw [List.getD_eq_getElem?_getD, List.getElem?_append_right (by simpa using h), List.length_replicate, List.getD_eq_getElem?_getD]
  by_cases hi : i - f.toNat < xs.length
  · rw [List.getElem?_append_left hi]
  · rw [List.getElem?_append_right (by omega), List.getElem?_eq_none (l := xs) (by omega), List.getElem?_replicate]
    split <;> rfl

theorem LTab.fit {f : Int} {xs : List Int} (h : LTab f xs) : f.toNat + xs.length ≤ 151 := by
  have := h.1; have := h.2.2.1; omega

/-- the lives at an age, in the array -/
theorem LTab.by {f : Int} {xs : List Int} (h : LTab f xs) (x : Int) (hx : f ≤ x) : (byL f xs).getD x.toNat 0 = lvs f xs x := by
  have := h.1
  rw [byL_get _ _ _ (by omega)]
  unfold lvs
  congr 1; omega

theorem zero152 : Tryz.zeroCells152 = (List.replicate 152 (Value.int .i64 0)).toArray := by kernel_rfl

theorem splice_by (f : Int) (xs : List Int) (h : f.toNat + xs.length ≤ 152) : splice (List.replicate 152 (Value.int .i64 0)) f.toNat (xs.map (Value.int .i64)) = (byL f xs).map (Value.int .i64) := by
  unfold splice byL
  simp only [List.take_replicate, List.drop_replicate, List.map_append, List.map_replicate, List.length_map]
  congr 2
  omega

theorem und152 : Tryz.prog.underlying 152 = some (.array (Tryz.prog.arrayLen 152) (Tryz.prog.elem 152)) := by kernel_rfl

theorem len152 : Tryz.prog.arrayLen 152 = 152 := by kernel_rfl

theorem elem152 : Tryz.prog.elem 152 = 2 := by kernel_rfl

theorem slice152 (B : Nat) (f : Int) (f0 : 0 ≤ f) (f1 : f ≤ 100) (W : World) : (Instr.sliceAt 152 (.pointer (some ⟨B, 0, none⟩)) (some (.int .i64 f)) none none).run Tryz.prog W = .ok (.slice (some ⟨B, f.toNat, none⟩) (152 - f.toNat) (152 - f.toNat)) W := by
  rw [run_sliceAt_array_l W _ _ und152 .i64 f f0 (by rw [len152]; omega), len152, elem152]
  have hs : (sizeOf 2).run Tryz.prog W = .ok 1 W := by
    simp [sizeOf, go_sem]
    rfl
  rw [hs]
  simp only [Result.andThen, slicedAt]
  rw [if_neg (by omega), Go.WideShapes.add_plain]
  simp

set_option maxHeartbeats 400000 in
theorem byAge_any (f : Int) (xs : List Int) (a : Option Addr) (l c : Nat) (w : World) (h : Ints w a l xs) (ht : LTab f xs) :
    Calls Tryz.prog 115 #[.agg #[.int .i64 f, .slice a l c]] w fun e w' => e = .returned (.agg ((byL f xs).map (Value.int .i64)).toArray) ∧ Below w.heap.size w w' := by
  have hlen := h.len
  have hfit := ht.fit
  obtain ⟨f0, f1⟩ := ht.1
  obtain ⟨l0, l1⟩ := ht.2.1
  rw [hlen] at l0 l1
  obtain ⟨b, off, rfl, hb, hc⟩ := h.at (by omega)
  have hz := zero152
  have HB : Hid (Below w.heap.size w (((w.alloc (.cells #[.int .i64 f, .slice (some ⟨b, off, none⟩) l c] 26)).alloc (.cells Tryz.zeroCells152 152)).alloc (.cells Tryz.zeroCells152 152))) :=
    Lib.hid (((box_b _ _).alloc (by simp) _).alloc (by simp; omega) _)
  have HG : Hid ((((w.alloc (.cells #[.int .i64 f, .slice (some ⟨b, off, none⟩) l c] 26)).alloc (.cells Tryz.zeroCells152 152)).alloc (.cells Tryz.zeroCells152 152)).heap[w.heap.size + 1 + 1]? = some (.cells (List.replicate 152 (Value.int .i64 0)).toArray 152 (0, 0))) := Lib.hid (by
      have := heap_alloc_new ((w.alloc (.cells #[.int .i64 f, .slice (some ⟨b, off, none⟩) l c] 26)).alloc (.cells Tryz.zeroCells152 152)) (.cells Tryz.zeroCells152 152)
      rw [World.size_alloc, World.size_alloc] at this
      rw [this, hz])
  have HC : Hid (∀ j v, (xs.map (Value.int .i64))[j]? = some v → (((w.alloc (.cells #[.int .i64 f, .slice (some ⟨b, off, none⟩) l c] 26)).alloc (.cells Tryz.zeroCells152 152)).alloc (.cells Tryz.zeroCells152 152)).cell? ((⟨b, off, none⟩ : Addr).add j) = some v) := Lib.hid (by
      intro j v hj
      have hjl : j < l := by
        have := (List.getElem?_eq_some_iff.1 hj).1
        simpa [hlen] using this
      rw [Go.WideShapes.add_plain, HB.out.cell (p := ⟨b, off + j, none⟩) hb, hc j hjl]
      rw [List.getElem?_map, List.getElem?_eq_getElem (by omega)] at hj
      simp [List.getD, List.getElem?_eq_getElem (show j < xs.length by omega)] at hj ⊢
      exact hj)
  obtain ⟨Zs, hZs⟩ : ∃ Zs, ((byL f xs).map (Value.int .i64)).toArray = Zs := ⟨_, rfl⟩
  have HS : Hid ((splice (List.replicate 152 (Value.int .i64 0)) f.toNat (xs.map (Value.int .i64))).toArray = Zs) := Lib.hid (by rw [splice_by f xs (by omega), hZs])
  have HZ : Hid (Zs.size = 152) := Lib.hid (by rw [← hZs]; simp [byL_len f xs (by omega)])
  have HO : Hid (Zs.all (·.oneCell') = true) := Lib.hid (by rw [← hZs, Array.all_eq_true_iff_forall_mem]; intro v hv; simp at hv; obtain ⟨x, _, rfl⟩ := hv; rfl)
  have HP : Hid ((((w.alloc (.cells #[.int .i64 f, .slice (some ⟨b, off, none⟩) l c] 26)).alloc (.cells Tryz.zeroCells152 152)).alloc (.cells Tryz.zeroCells152 152)).heap[w.heap.size + 1]? = some (.cells Tryz.zeroCells152 152 (0, 0))) := Lib.hid (by
      rw [Below.heap_alloc _ _ _ (by simp)]
      have := heap_alloc_new (w.alloc (.cells #[.int .i64 f, .slice (some ⟨b, off, none⟩) l c] 26)) (.cells Tryz.zeroCells152 152)
      rw [World.size_alloc] at this
      exact this)
  have HL := Lib.hid hlen
  have hfl : f.toNat + l ≤ 151 := by omega
  have hft : f.toNat ≤ 152 := by omega
  have HZZ : Hid (Zs = ((byL f xs).map (Value.int .i64)).toArray) := Lib.hid hZs.symm
  clear hz hc hlen ht h hZs hfit
  have hsl := slice152 (w.heap.size + 1 + 1) f f0 f1
  go_enter Tryz.func115, Tryz.ntmps115
  go_wp2_with fail
  go_region_law (refine step_copy_splice rfl (.tmp 6) (.tmp 8) 24 24 rfl 2 Tryz.underlying24 (by kernel_rfl) (some ⟨w.heap.size + 1 + 1, f.toNat, none⟩) (some ⟨b, off, none⟩) _ _ l c (by rfl) (by rfl) (w.heap.size + 1 + 1) f.toNat (List.replicate 152 (.int .i64 0)) 152 HG.out (xs.map (.int .i64)) (by rw [List.length_map, HL.out]; exact (Nat.min_eq_left (by omega)).symm) (fun _ => ⟨rfl, ⟨b, off, none⟩, rfl, HC.out⟩) (by rw [List.length_map, HL.out, List.length_replicate]; omega) (by intro v hv; obtain ⟨x, _, rfl⟩ := List.mem_map.1 hv; rfl) (w.heap.size + 1 + 1) _ (Below.refl _ _) (by omega) ?_; intro w4 hg4 hb4)
  all_goals
    have hrow : w4.heap[w.heap.size + 1 + 1]? = some (.cells Zs 152 (0, 0)) := by rw [← HS.out]; exact hg4.out
    have hres : w4.heap[w.heap.size + 1]? = some (.cells Tryz.zeroCells152 152 (0, 0)) := (hb4.block (w.heap.size + 1) (by omega)).trans HP.out
    have HW : Hid (Below w.heap.size w w4) := Lib.hid (by first | exact HB.out.drew.trans (hb4.mono (by omega)) | exact HB.out.trans (hb4.mono (by omega)))
    clear hg4 hb4
    go_wp2_with (first | (refine wpList_load_row rfl 152 (.tmp 3) rfl (w.heap.size + 1 + 1) rfl 152 Zs (0, 0) _ hrow und152 rfl (by rw [HZ.out]; kernel_rfl) ?_) | (refine wpList_store_row rfl 152 (.tmp 2) (.tmp 10) rfl (w.heap.size + 1) Zs rfl rfl 152 _ hres (by rw [HZ.out]; kernel_rfl) (by rw [HZ.out]; kernel_rfl) HO.out ?_))
    refine bodyPost_ret (v := .agg Zs) (results_cell_row rfl _ _ (w.heap.size + 1) 152 Zs (0, 0) _ rfl (setRow_heap w4 _ _ Zs _ _ hres) und152 rfl (by rw [HZ.out]; kernel_rfl)) rfl ⟨by rw [HZZ.out], below_setRow HW.out (by omega) Zs⟩

/-- an array of 152 numbers -/
structure Arr (Zs : Array Value) (ys : List Int) : Prop where
  eq : Zs = (ys.map (Value.int .i64)).toArray
  len : ys.length = 152

theorem Arr.size {Zs : Array Value} {ys : List Int} (h : Arr Zs ys) : Zs.size = 152 := by rw [h.eq]; simp [h.len]

theorem Arr.one {Zs : Array Value} {ys : List Int} (h : Arr Zs ys) : Zs.all (·.oneCell') = true := by
  rw [h.eq, Array.all_eq_true_iff_forall_mem]
  intro v hv
  simp at hv
  obtain ⟨x, _, rfl⟩ := hv
  rfl

theorem Arr.get {Zs : Array Value} {ys : List Int} (h : Arr Zs ys) (i : Nat) (hi : i < 152) : Zs[i]? = some (.int .i64 (ys.getD i 0)) := by
  rw [h.eq]
  have := h.len
  simp [List.getD, show i < ys.length by omega]

theorem Arr.info {Zs : Array Value} {ys : List Int} (h : Arr Zs ys) : (Tryz.prog.info? 152).map (·.size) = some Zs.size := by
  rw [h.size]; kernel_rfl

theorem Arr.old {Zs : Array Value} {ys : List Int} (h : Arr Zs ys) : Tryz.zeroCells152.size = Zs.size := by
  rw [h.size]; kernel_rfl

def ByPost (f : Int) (xs : List Int) (w : World) (e : Ending) (w' : World) : Prop := ∃ Zs, e = .returned (.agg Zs) ∧ Arr Zs (byL f xs) ∧ Below w.heap.size w w'

theorem byAge_r (f : Int) (xs : List Int) (a : Option Addr) (l c : Nat) (w : World) (h : Ints w a l xs) (ht : LTab f xs) :
    Calls Tryz.prog 115 #[.agg #[.int .i64 f, .slice a l c]] w (ByPost f xs w) :=
  (byAge_any f xs a l c w h ht).mono fun e w' ⟨he, hb⟩ => ⟨_, he, ⟨rfl, byL_len _ _ (by have := ht.fit; omega)⟩, hb⟩

/-- a cell of a block that was laid with the array -/
theorem Arr.cell {Zs : Array Value} {ys : List Int} (h : Arr Zs ys) (w : World) (i : Nat) (hi : i < 152) : (w.alloc (.cells Zs 152)).cell? ⟨w.heap.size, i, none⟩ = some (.int .i64 (ys.getD i 0)) := by
  rw [World.cell?_alloc_new]; exact h.get i hi

end Go.Proofs.YtnclncglmnbelaaGreat
