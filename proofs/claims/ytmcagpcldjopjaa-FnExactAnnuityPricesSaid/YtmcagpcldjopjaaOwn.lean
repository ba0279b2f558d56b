/- Slices that the law itself makes: copied, compared, marked, looked at again. -/
import Derived.Test.YtmcagpcldjopjaaList
namespace Go.Proofs.Ytmcagpcldjopjaa
open Go.ChangeShapes Go.WideShapes Go.ChangeAt Go.RowKit
set_option linter.unusedVariables false

/-- Block B holds just the numbers ys. -/
def Blk (w : World) (B : Nat) (ys : List Int) : Prop := w.heap[B]? = some (.cells (ys.map (Value.int .i64)).toArray 2 (0, 0))

theorem Blk.cell {w : World} {B : Nat} {ys : List Int} (h : Blk w B ys) (i : Nat) (hi : i < ys.length) : w.cell? ⟨B, i, none⟩ = some (.int .i64 (ys.getD i 0)) := by
  unfold Blk at h
  simp [World.cell?, h, List.getD, hi]

theorem Blk.free {w : World} {B : Nat} {ys : List Int} (h : Blk w B ys) (i : Nat) : w.frozen? ⟨B, i, none⟩ = false := by
  unfold Blk at h
  simp [World.frozen?, h]

theorem Blk.lt {w : World} {B : Nat} {ys : List Int} (h : Blk w B ys) : B < w.heap.size := by
  unfold Blk at h
  by_cases hb : B < w.heap.size
  · exact hb
  · have : w.heap[B]? = none := by simp; omega
    rw [this] at h; cases h

theorem Blk.ints {w : World} {B l : Nat} {ys : List Int} (h : Blk w B ys) (hl : ys.length = l) (hm : l ≤ 4611686018427387904) : Ints w (some ⟨B, 0, none⟩) l ys :=
  ⟨hl, hm, .inr ⟨B, 0, rfl, fun i hi => by rw [Nat.zero_add]; exact h.cell i (by omega)⟩⟩

theorem Blk.same {w w' : World} {B : Nat} {ys : List Int} (h : Blk w B ys) (e : w'.heap[B]? = w.heap[B]?) : Blk w' B ys := by
  unfold Blk at h ⊢; rw [e]; exact h

theorem Blk.below {w w' : World} {B C : Nat} {ys : List Int} (h : Blk w B ys) (hb : Below C w w') (hC : B < C) : Blk w' B ys := h.same (hb.block B hC)

theorem Blk.only {w w' : World} {B C : Nat} {ys : List Int} (h : Blk w B ys) (hb : Only C w w') (hC : B ≠ C) : Blk w' B ys := h.same (hb.block B hC)

theorem Blk.drewN {w : World} {B : Nat} {ys : List Int} (h : Blk w B ys) (n : Nat) : Blk (w.drewN n) B ys := h

theorem Blk.alloc {w : World} {B : Nat} {ys : List Int} (h : Blk w B ys) (o : Obj) : Blk (w.alloc o) B ys := h.same (Below.heap_alloc _ _ _ h.lt)

theorem Blk.set {w : World} {B : Nat} {ys : List Int} (h : Blk w B ys) (i : Nat) (v : Int) : Blk (w.setCell ⟨B, i, none⟩ (.int .i64 v)) B (ys.set i v) := by
  have hl := h.lt
  unfold Blk at h ⊢
  rw [Array.getElem?_eq_getElem hl] at h
  have h' : w.heap[B] = .cells (ys.map (Value.int .i64)).toArray 2 (0, 0) := by simpa using h
  show (w.heap.modify B _)[B]? = _
  rw [Array.getElem?_modify, if_pos rfl, Array.getElem?_eq_getElem hl, h']
  simp

theorem Blk.new (w : World) (ys : List Int) : Blk (w.alloc (.cells (ys.map (Value.int .i64)).toArray 2)) w.heap.size ys := by
  unfold Blk
  show (w.heap.push _)[w.heap.size]? = _
  simp

theorem made_zero (l : Nat) : madeCells #[Value.int .i64 0] l = ((List.replicate l (0 : Int)).map (Value.int .i64)).toArray := by
  apply Array.ext
  · simp [madeCells]
  · intro i h1 h2
    simp [madeCells, Nat.mod_one]

theorem info64 : (Try.prog.info? 2).map (fun i => (i.zero, i.size, i.bytes)) = some (some (.int .i64 0), 1, 8) := by kernel_rfl

theorem make_ints (l : Nat) (hl : l ≤ 1048576) (w : World) :
    (Instr.makeSlice 24 (.int .i64 (l : Int)) (.int .i64 (l : Int))).run Try.prog w = .ok (.slice (some ⟨w.heap.size, 0, none⟩) l l) (w.alloc (.cells ((List.replicate l (0 : Int)).map (Value.int .i64)).toArray 2)) := by
  obtain ⟨i0, hi, hz0, hz1, hz2⟩ := info_parts info64
  have h := run_make (P := Try.prog) w 24 2 i0 (.int .i64 0) Try.underlying24 hi hz0 .i64 .i64 l l (by omega) (Int.le_refl _) (by rw [hz2]; omega) (by omega)
  rw [h, ← made_zero]
  simp [hz1, Value.cells]

theorem set_step (xs : List Int) (k : Nat) (h : k < xs.length) : (xs.take k ++ List.replicate (xs.length - k) 0).set k (xs.getD k 0) = xs.take (k + 1) ++ List.replicate (xs.length - (k + 1)) 0 := by
  have e : xs.length - k = (xs.length - (k + 1)) + 1 := by omega
  rw [e, List.replicate_succ, List.set_append_right _ _ (by simp; omega), List.take_add_one, List.append_assoc]
  have e2 : k - (xs.take k).length = 0 := by simp; omega
  rw [e2]
  simp [List.getD, List.getElem?_eq_getElem h]

def MadePost (w : World) (l : Nat) (xs : List Int) (e : Ending) (w' : World) : Prop :=
  e = .returned (.slice (some ⟨w.heap.size, 0, none⟩) l l) ∧ Blk w' w.heap.size xs ∧ w'.heap.size = w.heap.size + 1 ∧ Below w.heap.size w w'

theorem toS_any (xs : List Int) (a : Option Addr) (l c : Nat) (w : World) (h : Ints w a l xs) (hl : l ≤ 1048576) :
    Calls Try.prog 80 #[.slice a l c] w (MadePost w l xs) := by
  have HL := Lib.hid h.len
  have H := Lib.hid h
  clear h
  have hmk := make_ints l hl
  go_enter Try.func80, Try.ntmps80
  go_wp2_with fail
  have HB := Lib.hid (Blk.new w (List.replicate l (0 : Int)))
  clear hmk
  go_loopw [4] (fun i wr => ∃ k : Nat, k ≤ l ∧ i = .int .i64 k ∧ Hid (Blk wr w.heap.size (xs.take k ++ List.replicate (xs.length - k) 0)) ∧ Hid (wr.heap.size = w.heap.size + 1) ∧ Hid (Below w.heap.size w wr)) (fun i _ => l - (intOf i).toNat)
  case atStart => exact ⟨0, Nat.zero_le _, rfl, Lib.hid (by rw [HL.out]; simpa using HB.out), Lib.hid (by simp), Lib.hid ((Below.refl _ _).alloc (Nat.le_refl _) _)⟩
  case round =>
    obtain ⟨k, hk, rfl, HK, HZ, HW⟩ := hrel
    by_cases hlt : k < l
    · have hbl := H.out.lt
      rcases H.out.cells with h0 | ⟨b, off, rfl, hc⟩
      · omega
      have hb : b < w.heap.size := hbl _ rfl (by omega)
      have hx := hc k hlt
      rw [← HW.out.cell (p := ⟨b, off + k, none⟩) hb] at hx
      obtain ⟨v, hv⟩ : ∃ v, xs.getD k 0 = v := ⟨_, rfl⟩
      rw [hv] at hx
      have HV := Lib.hid hv
      have HC := Lib.hid hc
      have hy := HK.out.cell k (by simp; have := HL.out; omega)
      have hf := HK.out.free k
      obtain ⟨u, hu⟩ : ∃ u, (xs.take k ++ List.replicate (xs.length - k) 0).getD k 0 = u := ⟨_, rfl⟩
      rw [hu] at hy
      clear hv hc hbl hu
      have hne : b ≠ w.heap.size := by omega
      go_wp2_with fail
      go_roundw
      case rel => exact ⟨k + 1, by omega, by go_num, Lib.hid (by have := HK.out.set k v; rw [← HV.out, set_step xs k (by rw [HL.out]; exact hlt), HV.out] at this; exact this), Lib.hid (by have := HZ.out; simpa [World.setCell] using this), Lib.hid (HW.out.setCell (p := ⟨w.heap.size, k, none⟩) (Nat.le_refl _) _)⟩
      case measure => simp [intOf]; omega
    · go_wp2_with fail
      go_ret
      obtain rfl : k = l := by omega
      refine ⟨rfl, ?_, HZ.out, HW.out⟩
      have := HK.out
      rw [HL.out, Nat.sub_self, List.replicate_zero, List.append_nil, List.take_of_length_le (by rw [HL.out]; exact Nat.le_refl _)] at this
      exact this

end Go.Proofs.Ytmcagpcldjopjaa
