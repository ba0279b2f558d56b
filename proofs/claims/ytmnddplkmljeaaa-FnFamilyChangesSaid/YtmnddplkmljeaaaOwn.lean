/- Slices that the law itself makes: copied, compared, marked, looked at again. | Slices of integers compared, marked and looked at again: what each call returns. | Slices of integers marked and looked at again: what each call returns. | SumOf of the program and of its model: what each call returns, one Lean function for both. | The exact law on SumOf: the program answers as its model, writes into no argument. | The laws' sum of a list. -/
import Derived.Test.YtmnddplkmljeaaaNums
namespace Go.Proofs.Ytmnddplkmljeaaa
open Go.ChangeShapes Go.WideShapes Go.ChangeAt Go.RowKit
set_option linter.unusedVariables false

/-- Block B holds just the numbers ys. -/
def Blk (w : World) (B : Nat) (ys : List Int) : Prop := w.heap[B]? = some (.cells (ys.map (Value.int .i64)).toArray 2 (0, 0))

theorem Blk.cell {w : World} {B : Nat} {ys : List Int} (h : Blk w B ys) (i : Nat) (hi : i < ys.length) : w.cell? ⟨B, i, none⟩ = some (.int .i64 (ys.getD i 0)) := by
  unfold Blk at h
  simp [World.cell?, h, List.getD, hi]

theorem Blk.free {w : World} {B : Nat} {ys : List Int} (h : Blk w B ys) (i : Nat) : w.frozen? ⟨B, i, none⟩ = false := by
  unfold Blk at h
  simp [World.frozen?, h]

theorem Blk.lt {w : World} {B : Nat} {ys : List Int} (h : Blk w B ys) : B < w.heap.size := by
  unfold Blk at h
  by_cases hb : B < w.heap.size
  · exact hb
  · have : w.heap[B]? = none := by simp; omega
    rw [this] at h; cases h

theorem Blk.ints {w : World} {B l : Nat} {ys : List Int} (h : Blk w B ys) (hl : ys.length = l) (hm : l ≤ 4611686018427387904) : Ints w (some ⟨B, 0, none⟩) l ys :=
  ⟨hl, hm, .inr ⟨B, 0, rfl, fun i hi => by rw [Nat.zero_add]; exact h.cell i (by omega)⟩⟩

theorem Blk.same {w w' : World} {B : Nat} {ys : List Int} (h : Blk w B ys) (e : w'.heap[B]? = w.heap[B]?) : Blk w' B ys := by
  unfold Blk at h ⊢; rw [e]; exact h

theorem Blk.below {w w' : World} {B C : Nat} {ys : List Int} (h : Blk w B ys) (hb : Below C w w') (hC : B < C) : Blk w' B ys := h.same (hb.block B hC)

theorem Blk.only {w w' : World} {B C : Nat} {ys : List Int} (h : Blk w B ys) (hb : Only C w w') (hC : B ≠ C) : Blk w' B ys := h.same (hb.block B hC)

theorem Blk.drewN {w : World} {B : Nat} {ys : List Int} (h : Blk w B ys) (n : Nat) : Blk (w.drewN n) B ys := h

theorem Blk.alloc {w : World} {B : Nat} {ys : List Int} (h : Blk w B ys) (o : Obj) : Blk (w.alloc o) B ys := h.same (Below.heap_alloc _ _ _ h.lt)

theorem Blk.set {w : World} {B : Nat} {ys : List Int} (h : Blk w B ys) (i : Nat) (v : Int) : Blk (w.setCell ⟨B, i, none⟩ (.int .i64 v)) B (ys.set i v) := by
  have hl := h.lt
  unfold Blk at h ⊢
  rw [Array.getElem?_eq_getElem hl] at h
  have h' : w.heap[B] = .cells (ys.map (Value.int .i64)).toArray 2 (0, 0) := by simpa using h
  show (w.heap.modify B _)[B]? = _
  rw [Array.getElem?_modify, if_pos rfl, Array.getElem?_eq_getElem hl, h']
  simp

theorem Blk.new (w : World) (ys : List Int) : Blk (w.alloc (.cells (ys.map (Value.int .i64)).toArray 2)) w.heap.size ys := by
  unfold Blk
  show (w.heap.push _)[w.heap.size]? = _
  simp

theorem made_zero (l : Nat) : madeCells #[Value.int .i64 0] l = ((List.replicate l (0 : Int)).map (Value.int .i64)).toArray := by
  apply Array.ext
  · simp [madeCells]
  · intro i h1 h2
    simp [madeCells, Nat.mod_one]

theorem info64 : (Try.prog.info? 2).map (fun i => (i.zero, i.size, i.bytes)) = some (some (.int .i64 0), 1, 8) := by kernel_rfl

theorem make_ints (l : Nat) (hl : l ≤ 1048576) (w : World) :
    (Instr.makeSlice 24 (.int .i64 (l : Int)) (.int .i64 (l : Int))).run Try.prog w = .ok (.slice (some ⟨w.heap.size, 0, none⟩) l l) (w.alloc (.cells ((List.replicate l (0 : Int)).map (Value.int .i64)).toArray 2)) := by
  obtain ⟨i0, hi, hz0, hz1, hz2⟩ := info_parts info64
  have h := run_make (P := Try.prog) w 24 2 i0 (.int .i64 0) Try.underlying24 hi hz0 .i64 .i64 l l (by omega) (Int.le_refl _) (by rw [hz2]; omega) (by omega)
  rw [h, ← made_zero]
  simp [hz1, Value.cells]

theorem set_step (xs : List Int) (k : Nat) (h : k < xs.length) : (xs.take k ++ List.replicate (xs.length - k) 0).set k (xs.getD k 0) = xs.take (k + 1) ++ List.replicate (xs.length - (k + 1)) 0 := by
  have e : xs.length - k = (xs.length - (k + 1)) + 1 := by omega
  rw [e, List.replicate_succ, List.set_append_right _ _ (by simp; omega), List.take_add_one, List.append_assoc]
  have e2 : k - (xs.take k).length = 0 := by simp; omega
  rw [e2]
  simp [List.getD, List.getElem?_eq_getElem h]

def MadePost (w : World) (l : Nat) (xs : List Int) (e : Ending) (w' : World) : Prop :=
  e = .returned (.slice (some ⟨w.heap.size, 0, none⟩) l l) ∧ Blk w' w.heap.size xs ∧ w'.heap.size = w.heap.size + 1 ∧ Below w.heap.size w w'

theorem toS_any (xs : List Int) (a : Option Addr) (l c : Nat) (w : World) (h : Ints w a l xs) (hl : l ≤ 1048576) :
    Calls Try.prog 59 #[.slice a l c] w (MadePost w l xs) := by
  have HL := Lib.hid h.len
  have H := Lib.hid h
  clear h
  have hmk := make_ints l hl
  go_enter Try.func59, Try.ntmps59
  go_wp2_with fail
  have HB := Lib.hid (Blk.new w (List.replicate l (0 : Int)))
  clear hmk
  go_loopw [4] (fun i wr => ∃ k : Nat, k ≤ l ∧ i = .int .i64 k ∧ Hid (Blk wr w.heap.size (xs.take k ++ List.replicate (xs.length - k) 0)) ∧ Hid (wr.heap.size = w.heap.size + 1) ∧ Hid (Below w.heap.size w wr)) (fun i _ => l - (intOf i).toNat)
  case atStart => exact ⟨0, Nat.zero_le _, rfl, Lib.hid (by rw [HL.out]; simpa using HB.out), Lib.hid (by simp), Lib.hid ((Below.refl _ _).alloc (Nat.le_refl _) _)⟩
  case round =>
    obtain ⟨k, hk, rfl, HK, HZ, HW⟩ := hrel
    by_cases hlt : k < l
    · have hbl := H.out.lt
      rcases H.out.cells with h0 | ⟨b, off, rfl, hc⟩
      · omega
      have hb : b < w.heap.size := hbl _ rfl (by omega)
      have hx := hc k hlt
      rw [← HW.out.cell (p := ⟨b, off + k, none⟩) hb] at hx
      obtain ⟨v, hv⟩ : ∃ v, xs.getD k 0 = v := ⟨_, rfl⟩
      rw [hv] at hx
      have HV := Lib.hid hv
      have HC := Lib.hid hc
      have hy := HK.out.cell k (by simp; have := HL.out; omega)
      have hf := HK.out.free k
      obtain ⟨u, hu⟩ : ∃ u, (xs.take k ++ List.replicate (xs.length - k) 0).getD k 0 = u := ⟨_, rfl⟩
      rw [hu] at hy
      clear hv hc hbl hu
      have hne : b ≠ w.heap.size := by omega
      go_wp2_with fail
      go_roundw
      case rel => exact ⟨k + 1, by omega, by go_num, Lib.hid (by have := HK.out.set k v; rw [← HV.out, set_step xs k (by rw [HL.out]; exact hlt), HV.out] at this; exact this), Lib.hid (by have := HZ.out; simpa [World.setCell] using this), Lib.hid (HW.out.setCell (p := ⟨w.heap.size, k, none⟩) (Nat.le_refl _) _)⟩
      case measure => simp [intOf]; omega
    · go_wp2_with fail
      go_ret
      obtain rfl : k = l := by omega
      refine ⟨rfl, ?_, HZ.out, HW.out⟩
      have := HK.out
      rw [HL.out, Nat.sub_self, List.replicate_zero, List.append_nil, List.take_of_length_le (by rw [HL.out]; exact Nat.le_refl _)] at this
      exact this

theorem take_eq_snoc {xs ys : List Int} {k : Nat} (h : xs.take k = ys.take k) (hx : k < xs.length) (hy : k < ys.length) (e : xs.getD k 0 = ys.getD k 0) : xs.take (k + 1) = ys.take (k + 1) := by
  rw [List.take_add_one, List.take_add_one, h, List.getElem?_eq_getElem hx, List.getElem?_eq_getElem hy]
  simp [List.getD, List.getElem?_eq_getElem hx, List.getElem?_eq_getElem hy] at e
  rw [e]

theorem eqS_any (xs ys : List Int) (a b : Option Addr) (l m c d : Nat) (w : World) (h : Ints w a l xs) (g : Ints w b m ys) :
    Calls Try.prog 62 #[.slice a l c, .slice b m d] w fun e w' => e = .returned (.bool (decide (xs = ys))) ∧ ∃ n, w' = w.drewN n := by
  have HX := Lib.hid h.len
  have HY := Lib.hid g.len
  have H := Lib.hid h
  have G := Lib.hid g
  have hm := h.max
  have gm := g.max
  clear h g
  by_cases hlm : l = m
  · subst hlm
    go_enter Try.func62, Try.ntmps62
    go_wp2_with fail
    go_loopw [5] (fun i wr => ∃ k : Nat, k ≤ l ∧ i = .int .i64 k ∧ Hid (xs.take k = ys.take k) ∧ Hid (∃ n, wr = w.drewN n)) (fun i _ => l - (intOf i).toNat)
    case atStart => exact ⟨0, Nat.zero_le _, rfl, Lib.hid (by simp), Lib.hid ⟨0, rfl⟩⟩
    case round =>
      obtain ⟨k, hk, rfl, HK, HW⟩ := hrel
      by_cases hlt : k < l
      · rcases H.out.cells with h0 | ⟨b1, o1, rfl, hc⟩
        · omega
        rcases G.out.cells with h0 | ⟨b2, o2, rfl, gc⟩
        · omega
        have hx := hc k hlt
        have hy := gc k hlt
        obtain ⟨u, hu⟩ : ∃ u, xs.getD k 0 = u := ⟨_, rfl⟩
        obtain ⟨v, hv⟩ : ∃ v, ys.getD k 0 = v := ⟨_, rfl⟩
        rw [hu] at hx
        rw [hv] at hy
        have hxr : wr.cell? ⟨b1, o1 + k, none⟩ = some (.int .i64 u) := by obtain ⟨n, rfl⟩ := HW.out; exact hx
        have hyr : wr.cell? ⟨b2, o2 + k, none⟩ = some (.int .i64 v) := by obtain ⟨n, rfl⟩ := HW.out; exact hy
        have HU := Lib.hid hu
        have HV := Lib.hid hv
        have HC := Lib.hid hc
        have GC := Lib.hid gc
        clear hu hv hc gc hx hy
        by_cases huv : u = v
        · subst huv
          go_wp2_with fail
          go_quiet (fail)
          go_wp2_with fail
          go_roundw
          case rel => exact ⟨k + 1, by omega, by go_num, Lib.hid (take_eq_snoc HK.out (by rw [HX.out]; exact hlt) (by rw [HY.out]; exact hlt) (by rw [HU.out, HV.out])), Lib.hid (by obtain ⟨n, hn⟩ := HW.out; exact ⟨n + nq, by rw [hn, World.drewN_drewN]⟩)⟩
          case measure => simp [intOf]; omega
        · have hB : (u != v) = true := by simpa using huv
          have HN := Lib.hid huv
          clear huv
          go_wp2_with fail
          go_quiet (fail)
          go_wp2_with fail
          go_ret
          exact ⟨ret_bool (by rw [eq_comm, decide_eq_false_iff_not]; intro e; rw [e, HV.out] at HU; exact HN.out HU.out.symm), by obtain ⟨n, hn⟩ := HW.out; exact ⟨n + nq, by rw [hn, World.drewN_drewN]⟩⟩
      · go_wp2_with fail
        go_ret
        obtain rfl : k = l := by omega
        have e := HK.out
        rw [List.take_of_length_le (by rw [HX.out]; exact Nat.le_refl _), List.take_of_length_le (by rw [HY.out]; exact Nat.le_refl _)] at e
        exact ⟨ret_bool (by rw [eq_comm, decide_eq_true_iff]; exact e), HW.out⟩
  · have hne : ((l : Int) != (m : Int)) = true := by simpa using by omega
    go_enter Try.func62, Try.ntmps62
    go_wp2_with fail
    go_ret
    exact ⟨ret_bool (by rw [eq_comm, decide_eq_false_iff_not]; intro e; subst e; exact hlm (HX.out.symm.trans HY.out)), 0, rfl⟩

theorem like_any (xs ys : List Int) (a b : Option Addr) (l m c d : Nat) (w : World) (h : Ints w a l xs) (g : Ints w b m ys) :
    Calls Try.prog 52 #[.slice a l c, .slice b m d] w fun e w' => e = .returned (.bool (decide (xs = ys))) ∧ ∃ n, w' = w.drewN n := by
  have HX := Lib.hid h.len
  have HY := Lib.hid g.len
  have H := Lib.hid h
  have G := Lib.hid g
  have hm := h.max
  have gm := g.max
  clear h g
  by_cases hlm : l = m
  · subst hlm
    go_enter Try.func52, Try.ntmps52
    go_wp2_with fail
    go_loopw [5] (fun i wr => ∃ k : Nat, k ≤ l ∧ i = .int .i64 k ∧ Hid (xs.take k = ys.take k) ∧ Hid (∃ n, wr = w.drewN n)) (fun i _ => l - (intOf i).toNat)
    case atStart => exact ⟨0, Nat.zero_le _, rfl, Lib.hid (by simp), Lib.hid ⟨0, rfl⟩⟩
    case round =>
      obtain ⟨k, hk, rfl, HK, HW⟩ := hrel
      by_cases hlt : k < l
      · rcases H.out.cells with h0 | ⟨b1, o1, rfl, hc⟩
        · omega
        rcases G.out.cells with h0 | ⟨b2, o2, rfl, gc⟩
        · omega
        have hx := hc k hlt
        have hy := gc k hlt
        obtain ⟨u, hu⟩ : ∃ u, xs.getD k 0 = u := ⟨_, rfl⟩
        obtain ⟨v, hv⟩ : ∃ v, ys.getD k 0 = v := ⟨_, rfl⟩
        rw [hu] at hx
        rw [hv] at hy
        have hxr : wr.cell? ⟨b1, o1 + k, none⟩ = some (.int .i64 u) := by obtain ⟨n, rfl⟩ := HW.out; exact hx
        have hyr : wr.cell? ⟨b2, o2 + k, none⟩ = some (.int .i64 v) := by obtain ⟨n, rfl⟩ := HW.out; exact hy
        have HU := Lib.hid hu
        have HV := Lib.hid hv
        have HC := Lib.hid hc
        have GC := Lib.hid gc
        clear hu hv hc gc hx hy
        by_cases huv : u = v
        · subst huv
          go_wp2_with fail
          go_quiet (fail)
          go_wp2_with fail
          go_roundw
          case rel => exact ⟨k + 1, by omega, by go_num, Lib.hid (take_eq_snoc HK.out (by rw [HX.out]; exact hlt) (by rw [HY.out]; exact hlt) (by rw [HU.out, HV.out])), Lib.hid (by obtain ⟨n, hn⟩ := HW.out; exact ⟨n + nq, by rw [hn, World.drewN_drewN]⟩)⟩
          case measure => simp [intOf]; omega
        · have hB : (u != v) = true := by simpa using huv
          have HN := Lib.hid huv
          clear huv
          go_wp2_with fail
          go_quiet (fail)
          go_wp2_with fail
          go_ret
          exact ⟨ret_bool (by rw [eq_comm, decide_eq_false_iff_not]; intro e; rw [e, HV.out] at HU; exact HN.out HU.out.symm), by obtain ⟨n, hn⟩ := HW.out; exact ⟨n + nq, by rw [hn, World.drewN_drewN]⟩⟩
      · go_wp2_with fail
        go_ret
        obtain rfl : k = l := by omega
        have e := HK.out
        rw [List.take_of_length_le (by rw [HX.out]; exact Nat.le_refl _), List.take_of_length_le (by rw [HY.out]; exact Nat.le_refl _)] at e
        exact ⟨ret_bool (by rw [eq_comm, decide_eq_true_iff]; exact e), HW.out⟩
  · have hne : ((l : Int) != (m : Int)) = true := by simpa using by omega
    go_enter Try.func52, Try.ntmps52
    go_wp2_with fail
    go_ret
    exact ⟨ret_bool (by rw [eq_comm, decide_eq_false_iff_not]; intro e; subst e; exact hlm (HX.out.symm.trans HY.out)), 0, rfl⟩

/-- k, k + 1, .. : n numbers -/
def marks (k : Int) (n : Nat) : List Int := (List.range n).map fun (j : Nat) => k + (j : Int)

theorem marks_len (k : Int) (n : Nat) : (marks k n).length = n := by simp [marks]

theorem marks_get (k : Int) (n j : Nat) (h : j < n) : (marks k n).getD j 0 = k + j := by simp [marks, List.getD, h]

theorem marks_snoc (k : Int) (n : Nat) : marks k (n + 1) = marks k n ++ [k + n] := by simp [marks, List.range_succ]

theorem mark_step (ys : List Int) (k : Nat) (q : Int) (h : k < ys.length) : (marks q k ++ ys.drop k).set k (q + k) = marks q (k + 1) ++ ys.drop (k + 1) := by
  rw [List.set_append_right _ _ (by rw [marks_len]; exact Nat.le_refl _), marks_len, Nat.sub_self, marks_snoc, List.append_assoc]
  congr 1
  rw [List.drop_eq_getElem_cons h]
  rfl

theorem mark_any (ys : List Int) (B l c : Nat) (q : Int) (w : World) (h : Blk w B ys) (hy : ys.length = l) (hl : l ≤ 1048576) (q0 : 0 ≤ q) (q1 : q ≤ 1099511627776) :
    Calls Try.prog 65 #[.slice (some ⟨B, 0, none⟩) l c, .int .i64 q] w fun e w' => e = .returned (.int .i64 (q + l)) ∧ Blk w' B (marks q l) ∧ Only B w w' := by
  have HY := Lib.hid hy
  have H := Lib.hid h
  clear h hy
  go_enter Try.func65, Try.ntmps65
  go_wp2_with fail
  go_loopw [1, 5] (fun s i wr => ∃ k : Nat, k ≤ l ∧ i = .int .i64 k ∧ s = .int .i64 (q + k) ∧ Hid (Blk wr B (marks q k ++ ys.drop k)) ∧ Hid (Only B w wr)) (fun _ i _ => l - (intOf i).toNat)
  case atStart => exact ⟨0, Nat.zero_le _, rfl, by simp, Lib.hid (by simpa [marks] using H.out), Lib.hid (Only.refl _ _)⟩
  case round =>
    obtain ⟨k, hk, rfl, rfl, HB, HO⟩ := hrel
    by_cases hlt : k < l
    · have hx := HB.out.cell k (by simp [marks_len]; have := HY.out; omega)
      have hf := HB.out.free k
      obtain ⟨u, hu⟩ : ∃ u, (marks q k ++ ys.drop k).getD k 0 = u := ⟨_, rfl⟩
      rw [hu] at hx
      clear hu
      go_wp2_with fail
      go_roundw
      case rel => exact ⟨k + 1, by omega, by go_num, by go_num, Lib.hid (by have := HB.out.set k (q + k); rw [mark_step _ _ _ (by rw [HY.out]; exact hlt)] at this; exact this), Lib.hid (HO.out.setCell (p := ⟨B, k, none⟩) rfl _)⟩
      case measure => simp [intOf]; omega
    · go_wp2_with fail
      go_ret
      obtain rfl : k = l := by omega
      refine ⟨rfl, ?_, HO.out⟩
      have := HB.out
      rw [List.drop_of_length_le (by rw [HY.out]; exact Nat.le_refl _), List.append_nil] at this
      exact this

theorem mark_nil (a : Option Addr) (c : Nat) (q : Int) (w : World) :
    Calls Try.prog 65 #[.slice a 0 c, .int .i64 q] w fun e w' => e = .returned (.int .i64 q) ∧ w = w' := by
  go_enter Try.func65, Try.ntmps65
  go_wp2_with fail
  go_loop [1, 5] (fun s i => i = .int .i64 0 ∧ s = .int .i64 q) (fun _ _ => 0)
  case atStart => exact ⟨rfl, rfl⟩
  case round =>
    obtain ⟨rfl, rfl⟩ := hrel
    go_wp2_with fail
    go_ret
    exact ⟨rfl, rfl⟩

theorem held_any (a : Option Addr) (l c : Nat) (q : Int) (w : World) (h : Ints w a l (marks q l)) (hl : l ≤ 1048576) (q0 : 0 ≤ q) (q1 : q ≤ 1099511627776) :
    Calls Try.prog 68 #[.slice a l c, .int .i64 q] w fun e w' => e = .returned (.int .i64 (q + l)) ∧ w = w' := by
  have H := Lib.hid h
  clear h
  go_enter Try.func68, Try.ntmps68
  go_wp2_with fail
  go_loop [1, 5] (fun s i => ∃ k : Nat, k ≤ l ∧ i = .int .i64 k ∧ s = .int .i64 (q + k)) (fun _ i => l - (intOf i).toNat)
  case atStart => exact ⟨0, Nat.zero_le _, rfl, by simp⟩
  case round =>
    obtain ⟨k, hk, rfl, rfl⟩ := hrel
    by_cases hlt : k < l
    · rcases H.out.cells with h0 | ⟨b, off, rfl, hc⟩
      · omega
      have hx := hc k hlt
      rw [marks_get _ _ _ hlt] at hx
      have HC := Lib.hid hc
      clear hc
      go_wp2_with fail
      go_round
      case rel => exact ⟨k + 1, by omega, by go_num, by go_num⟩
      case measure => simp [intOf]; omega
    · go_wp2_with fail
      go_ret
      obtain rfl : k = l := by omega
      exact ⟨rfl, rfl⟩

/-- every beginning of xs has a sum within 2^62 -/
def SumsFit (xs : List Int) : Prop := ∀ k, -4611686018427387904 ≤ (xs.take k).sum ∧ (xs.take k).sum ≤ 4611686018427387904

def soB (xs : List Int) : Bool := xs.all (fun x => inB x (-1000000000000) 1000000000000) && decide ((xs.length : Int) ≤ 130)

def soV (xs : List Int) : Int := if soB xs then (if monB xs.sum then xs.sum else 0) else 0

def soE (xs : List Int) : Int := if soB xs then (if monB xs.sum then 0 else 3) else 2

theorem fit_of (xs : List Int) (h : soB xs = true) : SumsFit xs := by
  unfold soB at h
  rw [Bool.and_eq_true, List.all_eq_true, decide_eq_true_iff] at h
  intro k
  obtain ⟨h1, h2⟩ := sum_take_bd 1000000000000 (by omega) xs k 130 (by omega) fun x hx => (inB_iff _ _ _).1 (h.1 x (List.mem_of_mem_take hx))
  omega

theorem Ints.step {w w1 : World} {a : Option Addr} {l : Nat} {xs : List Int} (h : Ints w a l xs) (hb : Below w.heap.size w w1) : Ints w1 a l xs := h.below hb h.lt

theorem Blk.step {w w1 : World} {B : Nat} {ys : List Int} (h : Blk w B ys) (hb : Below w.heap.size w w1) : Blk w1 B ys := h.below hb h.lt

theorem lsum_any (xs : List Int) (a : Option Addr) (l c : Nat) (w : World) (h : Ints w a l xs) (hs : SumsFit xs) :
    Calls Try.prog 55 #[.slice a l c] w fun e w' => e = .returned (.int .i64 xs.sum) ∧ w = w' := by
  have hm := h.max
  have hl := Lib.hid h.len
  have H := Lib.hid h
  have HS := Lib.hid hs
  clear h hs
  go_enter Try.func55, Try.ntmps55
  go_wp2_with fail
  go_loop [3, 4] (fun s i => ∃ k : Nat, k ≤ l ∧ i = .int .i64 k ∧ s = .int .i64 (xs.take k).sum) (fun _ i => l - (intOf i).toNat)
  case atStart => exact ⟨0, Nat.zero_le _, rfl, by simp⟩
  case round =>
    obtain ⟨k, hk, rfl, rfl⟩ := hrel
    by_cases hlt : k < l
    · rcases H.out.cells with h0 | ⟨b, off, rfl, hc⟩
      · omega
      have hx := hc k hlt
      obtain ⟨v, hv⟩ : ∃ v, xs.getD k 0 = v := ⟨_, rfl⟩
      rw [hv] at hx
      obtain ⟨s1, s2⟩ := HS.out k
      have hn := sum_snoc xs k (by rw [hl.out]; exact hlt)
      obtain ⟨s3, s4⟩ := HS.out (k + 1)
      rw [hn, hv] at s3 s4
      rw [hv] at hn
      have HN := Lib.hid hn
      have HV := Lib.hid hv
      have HC := Lib.hid hc
      clear hv hc hn
      obtain ⟨s, hs⟩ : ∃ s, (xs.take k).sum = s := ⟨_, rfl⟩
      have HT := Lib.hid hs
      rw [hs] at s1 s2 s3 s4 ⊢
      clear hs
      go_wp2_with fail
      go_round
      case rel => exact ⟨k + 1, by omega, by go_num, by rw [HN.out, HT.out]⟩
      case measure => simp [intOf]; omega
    · go_wp2_with fail
      go_ret
      obtain rfl : k = l := by omega
      have e : xs.take k = xs := List.take_of_length_le (by rw [hl.out]; exact Nat.le_refl _)
      exact ⟨ret_int (by rw [e]), rfl⟩

end Go.Proofs.Ytmnddplkmljeaaa
