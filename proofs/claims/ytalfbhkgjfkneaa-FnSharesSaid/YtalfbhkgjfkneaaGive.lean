/- impl.giveCents: what a call does. -/
import Derived.Test.YtalfbhkgjfkneaaSort
namespace Go.Proofs.Ytalfbhkgjfkneaa
open Go.ChangeShapes Go.WideShapes Go.ChangeAt Go.RowKit
set_option linter.unusedVariables false

theorem infoInt : (Try.prog.info? 3).map (fun i => (i.zero, i.size, i.bytes)) = some (some (.int .i64 0), 1, 8) := by kernel_rfl

def zeroF : Nat → Nat := fun _ => 0

theorem made_zeroF (l : Nat) : madeCells #[Value.int .i64 0] l = ((List.range l).map fun i => Value.int .i64 (zeroF i : Int)).toArray := by
  apply Array.ext
  · simp [madeCells]
  · intro i h1 h2
    simp [madeCells, Nat.mod_one, zeroF]

theorem make_int (l : Nat) (hl : l ≤ 1048576) (w : World) :
    (Instr.makeSlice 61 (.int .i64 (l : Int)) (.int .i64 (l : Int))).run Try.prog w = .ok (.slice (some ⟨w.heap.size, 0, none⟩) l l) (w.alloc (.cells ((List.range l).map fun i => Value.int .i64 (zeroF i : Int)).toArray 3)) := by
  obtain ⟨i0, hi, hz0, hz1, hz2⟩ := info_parts infoInt
  have h := run_make (P := Try.prog) w 61 3 i0 (.int .i64 0) Try.underlying61 hi hz0 .i64 .i64 l l (by omega) (Int.le_refl _) (by rw [hz2]; omega) (by omega)
  rw [h, ← made_zeroF]
  simp [hz1, Value.cells]

theorem BlkF.new (w : World) (n : Nat) (f : Nat → Nat) : BlkF (w.alloc (.cells ((List.range n).map fun i => Value.int .i64 (f i : Int)).toArray 3)) w.heap.size n f := by
  unfold BlkF
  show (w.heap.push _)[w.heap.size]? = _
  simp

theorem cell_one (w : World) (v : Value) (ty : Nat) : (w.alloc (.cells #[v] ty)).cell? ⟨w.heap.size, 0, none⟩ = some v := by
  have h : (w.alloc (.cells #[v] ty)).heap[w.heap.size]? = some (.cells #[v] ty) := by
    show (w.heap.push _)[w.heap.size]? = _
    simp
  unfold World.cell?
  rw [h]
  rfl

/-- one cent more at each of the first k places of g -/
def bump (ss : List Int) (g : Nat → Nat) : Nat → List Int
  | 0 => ss
  | k + 1 => (bump ss g k).set (g k) ((bump ss g k).getD (g k) 0 + 1)

theorem bump_len (ss : List Int) (g : Nat → Nat) (k : Nat) : (bump ss g k).length = ss.length := by
  induction k with
  | zero => rfl
  | succ k ih => rw [bump, List.length_set, ih]

theorem getD_set (xs : List Int) (i j : Nat) (v : Int) : (xs.set i v).getD j 0 = if j = i ∧ i < xs.length then v else xs.getD j 0 := by
  simp only [List.getD, List.getElem?_set]
  by_cases e : i = j
  · subst e
    by_cases h : i < xs.length <;> simp [h]
  · have e' : ¬ j = i := fun h => e h.symm
    simp [e, e']

theorem bump_bd (ss : List Int) (g : Nat → Nat) (M : Int) (k : Nat) (h : ∀ i, 0 ≤ ss.getD i 0 ∧ ss.getD i 0 ≤ M) : ∀ i, 0 ≤ (bump ss g k).getD i 0 ∧ (bump ss g k).getD i 0 ≤ M + k := by
  induction k with
  | zero => intro i; have := h i; simp only [bump]; omega
  | succ k ih =>
    intro i
    simp only [bump]
    rw [getD_set]
    have h1 := ih i
    have h2 := ih (g k)
    split <;> omega

def keyOf (rs : List Int) : Nat → Int := fun i => rs.getD i 0

def GivePost (S n L : Nat) (ss rs : List Int) (B0 : Nat) (w00 : World) (e : Ending) (w' : World) : Prop :=
  e = .returned (.tuple #[]) ∧ ∃ g, Prm 0 n id g ∧ Srt (keyOf rs) 0 n g ∧ Blk w' S (bump ss g L) ∧ Below B0 w00 w'

set_option maxRecDepth 100000 in
set_option maxHeartbeats 1000000 in
theorem give_any (S R n L B0 : Nat) (ss rs : List Int) (w00 w : World) (hs : Blk w S ss) (hr : Blk w R rs) (hls : ss.length = n) (hlr : rs.length = n) (hn : n ≤ 1048576) (hL : L ≤ n) (hSR : R ≠ S)
    (hbd : ∀ i, 0 ≤ ss.getD i 0 ∧ ss.getD i 0 ≤ 1000000000) (hb : Below B0 w00 w) (hBS : B0 ≤ S) (hBz : B0 ≤ w.heap.size) :
    Calls Try.prog 43 #[.slice (some ⟨S, 0, none⟩) n n, .slice (some ⟨R, 0, none⟩) n n, .int .i64 L] w (GivePost S n L ss rs B0 w00) := by
  have HS := Lib.hid hs
  have HR := Lib.hid hr
  have HLS := Lib.hid hls
  have HLR := Lib.hid hlr
  have HBD := Lib.hid hbd
  have HB := Lib.hid hb
  have hmk := make_int n hn (w.alloc (.cells #[.slice (some ⟨R, 0, none⟩) n n] 24))
  clear hs hr hls hlr hbd hb
  go_enter Try.func43, Try.ntmps43
  go_wp2_with fail
  obtain ⟨C, hCe⟩ : ∃ C, C = w.heap.size := ⟨_, rfl⟩
  obtain ⟨wA, hwA⟩ : ∃ wA : World, wA = ((w.alloc (.cells #[.slice (some ⟨R, 0, none⟩) n n] 24)).alloc (.cells ((List.range n).map fun i => Value.int .i64 (zeroF i : Int)).toArray 3)) := ⟨_, rfl⟩
  have HDA : Hid (BlkF wA (C + 1) n zeroF) := Lib.hid (by
    have := BlkF.new (w.alloc (.cells #[.slice (some ⟨R, 0, none⟩) n n] 24)) n zeroF
    rw [hwA, hCe]; simpa using this)
  have HCA : Hid (wA.cell? ⟨C, 0, none⟩ = some (.slice (some ⟨R, 0, none⟩) n n)) := Lib.hid (by
    rw [hwA, hCe]
    rw [World.cell?_of_block (w := w.alloc (.cells #[.slice (some ⟨R, 0, none⟩) n n] 24)) (Below.heap_alloc _ _ _ (by simp))]
    exact cell_one _ _ _)
  have HRA : Hid (Blk wA R rs) := Lib.hid (by rw [hwA]; exact (HR.out.alloc _).alloc _)
  have HSA : Hid (Blk wA S ss) := Lib.hid (by rw [hwA]; exact (HS.out.alloc _).alloc _)
  have HBA : Hid (Below B0 w00 wA) := Lib.hid (by rw [hwA]; exact (HB.out.alloc hBz _).alloc (by simp; omega) _)
  have hRC : R < C := by rw [hCe]; exact HR.out.lt
  have hSC : S < C := by rw [hCe]; exact HS.out.lt
  rw [← hwA, ← hCe]
  have hBC : B0 ≤ C := by rw [hCe]; exact hBz
  clear hwA hCe hmk hBz HS HR HB
  go_loopw [15] (fun x wr => ∃ k : Nat, k ≤ n ∧ x = .int .i64 k ∧ Hid (BlkF wr (C + 1) n (fun i => if i < k then i else 0)) ∧ Hid (Only (C + 1) wA wr)) (fun x _ => n - (intOf x).toNat)
  case atStart => exact ⟨0, Nat.zero_le _, rfl, Lib.hid (HDA.out.congr fun k _ => by simp [zeroF]), Lib.hid (Only.refl _ _)⟩
  case round =>
    obtain ⟨k, hk, rfl, HD, HO⟩ := hrel
    by_cases hlt : k < n
    · have c1 := HD.out.cell k hlt
      have f1 := HD.out.free k
      have hset := HD.out.set k k
      obtain ⟨x, hx⟩ : ∃ x : Nat, (if k < k then k else 0) = x := ⟨_, rfl⟩
      simp only [hx] at c1
      have HSET := Lib.hid hset
      clear hset hx
      go_wp2_with fail
      go_roundw
      case rel => exact ⟨k + 1, by omega, by go_num, Lib.hid (HSET.out.congr fun i _ => by
        by_cases e : i = k
        · subst e; simp
        · by_cases e2 : i < k
          · simp [e, e2, show i < k + 1 by omega]
          · simp [e, e2, show ¬ i < k + 1 by omega]), Lib.hid (HO.out.setCell (p := ⟨C + 1, k, none⟩) rfl _)⟩
      case measure => simp [intOf]; omega
    · obtain rfl : k = n := by omega
      have HI : Hid (BlkF wr (C + 1) k id) := Lib.hid (HD.out.congr fun i hi => by simp [hi])
      have HE : Hid (Env C R k k (keyOf rs) wr) := Lib.hid ⟨(HO.out.cell (p := ⟨C, 0, none⟩) (by simp)).trans HCA.out, fun i hi => (HO.out.cell (p := ⟨R, i, none⟩) (by simp; omega)).trans (HRA.out.cell i (by rw [HLR.out]; exact hi))⟩
      have HSr : Hid (Blk wr S ss) := Lib.hid (HSA.out.only HO.out (by omega))
      have HBr : Hid (Below B0 w00 wr) := Lib.hid (HBA.out.trans (HO.out.below (by omega)))
      clear HD HO hlt hk
      go_wp2_with fail
      refine (sort_any (keyOf rs) C R (C + 1) k k k wr HI.out HE.out (by omega) (by omega) (by omega)).mono ?_
      rintro x w1 ⟨rfl, g, hb, hp, hs, ho⟩
      have HG := Lib.hid hb
      have HP := Lib.hid hp
      have HSo := Lib.hid hs
      have HS1 : Hid (Blk w1 S ss) := Lib.hid (HSr.out.only ho (by omega))
      have HB1 : Hid (Below B0 w00 w1) := Lib.hid (HBr.out.trans (ho.below (by omega)))
      have HV : Hid (∀ i, i < k → g i < k) := Lib.hid (hp.vals (Nat.le_refl _) (fun i hi => hi))
      clear hb hp hs ho HI HE HSr HBr HDA HCA HRA HSA HBA
      go_wp2_with fail
      go_loopw [30] (fun x wr => ∃ j : Nat, j ≤ L ∧ x = .int .i64 j ∧ Hid (Blk wr S (bump ss g j)) ∧ Hid (BlkF wr (C + 1) k g) ∧ Hid (Below B0 w00 wr)) (fun x _ => L - (intOf x).toNat)
      case atStart => exact ⟨0, Nat.zero_le _, rfl, HS1, HG, HB1⟩
      case round =>
        obtain ⟨j, hj, rfl, HSj, HGj, HBj⟩ := hrel
        by_cases hlt : j < L
        · have c1 := HGj.out.cell j (by omega)
          have v1 := HV.out j (by omega)
          obtain ⟨x, hx⟩ : ∃ x : Nat, g j = x := ⟨_, rfl⟩
          rw [hx] at c1 v1
          have c2 := HSj.out.cell x (by rw [bump_len, HLS.out]; exact v1)
          have f2 := HSj.out.free x
          have b2 := bump_bd ss g 1000000000 j HBD.out x
          obtain ⟨v, hv⟩ : ∃ v, (bump ss g j).getD x 0 = v := ⟨_, rfl⟩
          rw [hv] at c2 b2
          obtain ⟨b3, b4⟩ := b2
          have hset := HSj.out.set x (v + 1)
          have HSET : Hid (Blk (wr.setCell ⟨S, x, none⟩ (.int .i64 (v + 1))) S (bump ss g (j + 1))) := Lib.hid (by simp only [bump]; rw [hx, hv]; exact hset)
          have HGs : Hid (BlkF (wr.setCell ⟨S, x, none⟩ (.int .i64 (v + 1))) (C + 1) k g) := Lib.hid (by
            have := HGj.out
            unfold BlkF at this ⊢
            rw [Below.heap_setCell _ _ _ _ (by simp; omega)]; exact this)
          clear hset hx hv
          go_wp2_with fail
          go_roundw
          case rel => exact ⟨j + 1, by omega, by go_num, HSET, HGs, Lib.hid (HBj.out.setCell (p := ⟨S, x, none⟩) hBS _)⟩
          case measure => simp [intOf]; omega
        · obtain rfl : j = L := by omega
          go_wp2_with fail
          go_end0
          exact ⟨rfl, g, HP.out, HSo.out, HSj.out, HBj.out⟩

end Go.Proofs.Ytalfbhkgjfkneaa
