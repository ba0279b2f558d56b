/- impl.ShareOut where there are shares: what a call does. -/
import Derived.Test.YtalfbhkgjfkneaaShare
namespace Go.Proofs.Ytalfbhkgjfkneaa
open Go.ChangeShapes Go.WideShapes Go.ChangeAt Go.RowKit
set_option linter.unusedVariables false

def zeroO (l : Nat) : Obj := .cells ((List.replicate l (0 : Int)).map (Value.int .i64)).toArray 2

theorem make_z (l : Nat) (hl : l ≤ 1048576) (w : World) :
    (Instr.makeSlice 24 (.int .i64 (l : Int)) (.int .i64 (l : Int))).run Try.prog w = .ok (.slice (some ⟨w.heap.size, 0, none⟩) l l) (w.alloc (zeroO l)) := make_ints l hl w

theorem Blk.newz (w : World) (l : Nat) : Blk (w.alloc (zeroO l)) w.heap.size (List.replicate l 0) := Blk.new w (List.replicate l 0)

def mid (ys : List Int) (k : Nat) : List Int := ys.take k ++ List.replicate (ys.length - k) 0

theorem mid_len (ys : List Int) (k : Nat) (h : k ≤ ys.length) : (mid ys k).length = ys.length := by
  simp [mid]; omega

theorem mid_full (ys : List Int) (k : Nat) (h : ys.length = k) : mid ys k = ys := by
  subst h; simp [mid]

set_option maxRecDepth 100000 in
set_option maxHeartbeats 1000000 in
theorem sh_good (A : Int) (xs : List Int) (a : Option Addr) (l c : Nat) (w : World) (h : Ints w a l xs) (hb : shB A xs = true) (hz : xs.sum ≠ 0) :
    Calls Try.prog 15 #[.int .i64 A, .slice a l c] w (ShGood A xs l w) := by
  have hm := h.max
  have H := Lib.hid h
  have hl := Lib.hid h.len
  obtain ⟨hA1, hA2, hX, h130⟩ := shB_of hb
  rw [hl.out] at h130
  have HX := Lib.hid hX
  have hT : 0 < xs.sum := by have := (mem_le_sum xs fun x hx => (hX x hx).1).1; omega
  have hTle : xs.sum ≤ 130000000000 := by
    have := sum_bd 1000000000 (by omega) xs fun x hx => by have := hX x hx; omega
    have h3 := hl.out
    omega
  have HSb : Hid (∀ y ∈ shS A xs.sum xs, 0 ≤ y ∧ y ≤ A) := Lib.hid (sh_mem A xs hA1 (fun x hx => (hX x hx).1) hT)
  have HLB := Lib.hid (left_bd A xs hT)
  have HLE := Lib.hid (mem_le_sum xs fun x hx => (hX x hx).1).2
  have hA : inB A 0 1000000000 = true := inB_t hA1 hA2
  have hmk1 := make_z l (by omega) w
  have hmk2 := make_z l (by omega) (w.alloc (zeroO l))
  clear h hX hb hz
  go_enter Try.func15, Try.ntmps15
  go_wp2_with (go_at_call 42; refine (within_any _ _ _ _).mono ?_; rintro e w' ⟨rfl, rfl⟩)
  go_loop [6, 24] (fun s i => ∃ k : Nat, k ≤ l ∧ i = .int .i64 k ∧ s = .int .i64 (xs.take k).sum) (fun _ i => l - (intOf i).toNat)
  case atStart => exact ⟨0, Nat.zero_le _, rfl, by simp⟩
  case round =>
    obtain ⟨k, hk, rfl, rfl⟩ := hrel
    have hbd : -130000000000 ≤ (xs.take k).sum ∧ (xs.take k).sum ≤ 130000000000 := by
      have := sum_take_bd 1000000000 (by omega) xs k 130 (by rw [hl.out]; omega) fun x hx => by
        have := HX.out x (List.mem_of_mem_take hx); omega
      omega
    obtain ⟨b1, b2⟩ := hbd
    by_cases hlt : k < l
    · rcases H.out.cells with h0 | ⟨b, off, rfl, hc⟩
      · omega
      have hx := hc k hlt
      obtain ⟨v, hv⟩ : ∃ v, xs.getD k 0 = v := ⟨_, rfl⟩
      rw [hv] at hx
      have hn := sum_snoc xs k (by rw [hl.out]; exact hlt)
      rw [hv] at hn
      have hvb := getD_bd xs 1000000000 (by omega) HX.out k
      rw [hv] at hvb
      have HN := Lib.hid hn
      have HC := Lib.hid hc
      clear hv hc hn
      obtain ⟨s, hs⟩ : ∃ s, (xs.take k).sum = s := ⟨_, rfl⟩
      have HT := Lib.hid hs
      rw [hs] at b1 b2 ⊢
      clear hs
      obtain ⟨v1, v2⟩ := hvb
      have hin : inB v 0 1000000000 = true := inB_t v1 v2
      go_wp2_with (go_at_call 42; refine (within_any _ _ _ _).mono ?_; rintro e w' ⟨rfl, rfl⟩)
      go_round
      case rel => exact ⟨k + 1, by omega, by go_num, by rw [HN.out, HT.out]⟩
      case measure => simp [intOf]; omega
    · obtain rfl : k = l := by omega
      have e : xs.take k = xs := List.take_of_length_le (by rw [hl.out]; exact Nat.le_refl _)
      rw [e]
      clear e b1 b2 hlt hk
      obtain ⟨T, hTe⟩ : ∃ T, xs.sum = T := ⟨_, rfl⟩
      have HTE := Lib.hid hTe
      rw [hTe] at hT hTle HSb HLB HLE ⊢
      clear hTe
      go_wp2_with fail
      obtain ⟨S, hSe⟩ : ∃ S, S = w.heap.size := ⟨_, rfl⟩
      obtain ⟨wA, hwA⟩ : ∃ wA : World, wA = ((w.alloc (zeroO k)).alloc (zeroO k)) := ⟨_, rfl⟩
      have HS0 : Hid (Blk wA S (mid (shS A T xs) 0)) := Lib.hid (by
        rw [hwA, hSe]
        have := (Blk.newz w k).alloc (zeroO k)
        simpa [mid, sh_len, hl.out] using this)
      have HR0 : Hid (Blk wA (S + 1) (mid (reS A T xs) 0)) := Lib.hid (by
        rw [hwA, hSe]
        have := Blk.newz (w.alloc (zeroO k)) k
        simpa [mid, re_len, hl.out] using this)
      have HB0 : Hid (Below S w wA) := Lib.hid (by
        rw [hwA, hSe]
        exact ((Below.refl _ _).alloc (Nat.le_refl _) _).alloc (by simp) _)
      have HZ0 : Hid (wA.heap.size = S + 2) := Lib.hid (by rw [hwA, hSe]; simp)
      rw [← hwA, ← hSe]
      clear hwA hmk1 hmk2
      have HSE := Lib.hid hSe
      clear hSe
      go_loopw [46, 11] (fun x y wr => ∃ j : Nat, j ≤ k ∧ x = .int .i64 j ∧ y = .int .i64 (A - ((shS A T xs).take j).sum) ∧ Hid (Blk wr S (mid (shS A T xs) j)) ∧ Hid (Blk wr (S + 1) (mid (reS A T xs) j)) ∧ Hid (Below S w wr) ∧ Hid (wr.heap.size = S + 2)) (fun x _ _ => k - (intOf x).toNat)
      case atStart => exact ⟨0, Nat.zero_le _, rfl, by simp, HS0, HR0, HB0, HZ0⟩
      case round =>
        obtain ⟨j, hj, rfl, rfl, HSj, HRj, HBj, HZj⟩ := hrel
        have hbd : -130000000000 ≤ ((shS A T xs).take j).sum ∧ ((shS A T xs).take j).sum ≤ 130000000000 := by
          have := sum_take_bd 1000000000 (by omega) (shS A T xs) j 130 (by rw [sh_len, hl.out]; omega) fun y hy => by
            have := HSb.out y (List.mem_of_mem_take hy); omega
          omega
        obtain ⟨b1, b2⟩ := hbd
        by_cases hlt : j < k
        · rcases H.out.cells with h0 | ⟨b, off, rfl, hc⟩
          · omega
          have hbl : b < S := by rw [HSE.out]; exact H.out.lt _ rfl (by omega)
          have hx := hc j hlt
          rw [← HBj.out.cell (p := ⟨b, off + j, none⟩) hbl] at hx
          have hxl : j < xs.length := by rw [hl.out]; exact hlt
          have g1 := sh_get A T xs j hxl
          have g2 := re_get A T xs j hxl
          have hn := sum_snoc (shS A T xs) j (by rw [sh_len]; exact hxl)
          have hmem : xs.getD j 0 ∈ xs := by simp [List.getD, List.getElem?_eq_getElem hxl]
          have hvb := HX.out _ hmem
          have hvT := HLE.out _ hmem
          obtain ⟨v, hv⟩ : ∃ v, xs.getD j 0 = v := ⟨_, rfl⟩
          rw [hv] at hx g1 g2 hvb hvT
          obtain ⟨v1, v2⟩ := hvb
          have hp0 : 0 ≤ A * v := Int.mul_nonneg hA1 v1
          have hp1 : A * v ≤ 1000000000 * 1000000000 := Int.mul_le_mul hA2 v2 v1 (by omega)
          have hq := share_le A v T hA1 v1 hvT hT
          have hr1 := Int.emod_nonneg (A * v) (show T ≠ 0 by omega)
          have hr2 := Int.emod_lt_of_pos (A * v) hT
          have y1 := HSj.out.cell j (by rw [mid_len _ _ (by rw [sh_len]; omega), sh_len]; exact hxl)
          have y2 := HRj.out.cell j (by rw [mid_len _ _ (by rw [re_len]; omega), re_len]; exact hxl)
          have f1 := HSj.out.free j
          have f2 := HRj.out.free j
          have s1 := HSj.out.set j (A * v / T)
          have s2 := set_step (shS A T xs) j (by rw [sh_len]; exact hxl)
          rw [g1] at s2 hn
          have t2 := set_step (reS A T xs) j (by rw [re_len]; exact hxl)
          rw [g2] at t2
          have S1 : Hid (Blk (wr.setCell ⟨S, j, none⟩ (.int .i64 (A * v / T))) S (mid (shS A T xs) (j + 1))) := Lib.hid (by unfold mid at s1 ⊢; rw [s2] at s1; exact s1)
          have R1 : Hid (Blk (wr.setCell ⟨S, j, none⟩ (.int .i64 (A * v / T))) (S + 1) (mid (reS A T xs) j)) := Lib.hid (HRj.out.same (Below.heap_setCell _ _ _ _ (by simp)))
          have r1 := R1.out.set j (A * v % T)
          have R2 : Hid (Blk ((wr.setCell ⟨S, j, none⟩ (.int .i64 (A * v / T))).setCell ⟨S + 1, j, none⟩ (.int .i64 (A * v % T))) (S + 1) (mid (reS A T xs) (j + 1))) := Lib.hid (by unfold mid at r1 ⊢; rw [t2] at r1; exact r1)
          have S2 : Hid (Blk ((wr.setCell ⟨S, j, none⟩ (.int .i64 (A * v / T))).setCell ⟨S + 1, j, none⟩ (.int .i64 (A * v % T))) S (mid (shS A T xs) (j + 1))) := Lib.hid (S1.out.same (Below.heap_setCell _ _ _ _ (by simp)))
          obtain ⟨z1, hz1⟩ : ∃ z, (mid (shS A T xs) j).getD j 0 = z := ⟨_, rfl⟩
          obtain ⟨z2, hz2⟩ : ∃ z, (mid (reS A T xs) j).getD j 0 = z := ⟨_, rfl⟩
          rw [hz1] at y1
          rw [hz2] at y2
          have HN := Lib.hid hn
          have HC := Lib.hid hc
          clear hv hc hn g1 g2 s1 s2 t2 r1 hz1 hz2 hmem hxl R1 S1
          obtain ⟨s, hs⟩ : ∃ s, ((shS A T xs).take j).sum = s := ⟨_, rfl⟩
          have HT := Lib.hid hs
          rw [hs] at b1 b2 ⊢
          clear hs
          obtain ⟨p, hp⟩ : ∃ p, A * v = p := ⟨_, rfl⟩
          obtain ⟨q, hqe⟩ : ∃ q, p / T = q := ⟨_, rfl⟩
          obtain ⟨r, hre⟩ : ∃ r, p % T = r := ⟨_, rfl⟩
          rw [hp] at hp0 hp1 hq hr1 hr2 HN S2 R2
          rw [hqe] at hq HN S2 R2
          rw [hre] at hr1 hr2 S2 R2
          obtain ⟨q1, q2⟩ := hq
          go_wp2_with fail
          go_roundw
          case rel => exact ⟨j + 1, by omega, by go_num, by rw [HN.out, HT.out]; first | rfl | (congr 1; omega), S2, R2, Lib.hid ((HBj.out.setCell (p := ⟨S, j, none⟩) (Nat.le_refl _) _).setCell (p := ⟨S + 1, j, none⟩) (by simp) _), Lib.hid (by have := HZj.out; simpa [World.setCell] using this)⟩
          case measure => simp [intOf]; omega
        · obtain rfl : j = k := by omega
          have e : (shS A T xs).take j = shS A T xs := List.take_of_length_le (by rw [sh_len, hl.out]; exact Nat.le_refl _)
          have hL := HLB.out
          rw [hl.out] at hL
          rw [e] at b1 b2 ⊢
          obtain ⟨L, hLe⟩ : ∃ L : Nat, A - (shS A T xs).sum = (L : Int) := ⟨(A - (shS A T xs).sum).toNat, by omega⟩
          have HSf : Hid (Blk wr S (shS A T xs)) := Lib.hid (by have := HSj.out; rw [mid_full _ _ (by rw [sh_len]; exact hl.out)] at this; exact this)
          have HRf : Hid (Blk wr (S + 1) (reS A T xs)) := Lib.hid (by have := HRj.out; rw [mid_full _ _ (by rw [re_len]; exact hl.out)] at this; exact this)
          rw [hLe] at hL ⊢
          have HLe := Lib.hid hLe
          clear e hLe hlt hj b1 b2
          obtain ⟨hL1, hL2⟩ := hL
          go_wp2_with fail
          refine (give_any S (S + 1) j L S (shS A T xs) (reS A T xs) w wr HSf.out HRf.out (by rw [sh_len]; exact hl.out) (by rw [re_len]; exact hl.out) (by omega) (by omega) (by omega) (getD_bd _ _ (by omega) (fun y hy => by have := HSb.out y hy; omega)) HBj.out (Nat.le_refl _) (by have := HZj.out; omega)).mono ?_
          rintro x w1 ⟨rfl, g, hp, hs, hbk, hbe⟩
          have HP := Lib.hid hp
          have HSo := Lib.hid hs
          have HBK := Lib.hid hbk
          have HBE := Lib.hid hbe
          clear hp hs hbk hbe
          go_wp2_with fail
          go_ret2
          refine ⟨by rw [← HSE.out]; rfl, g, HP.out, ?_, ?_, ?_⟩
          · rw [HTE.out]; exact HSo.out
          · rw [HTE.out, HLe.out, ← HSE.out]; exact HBK.out
          · rw [← HSE.out]; exact HBE.out

end Go.Proofs.Ytalfbhkgjfkneaa
