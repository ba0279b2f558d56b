/- The law of chapter 1 on shares, over whatever the draws give. -/
import Derived.Test.YtalfbhkgjfkneaaShMath
import Derived.Test.YtalfbhkgjfkneaaDrawSh
import Derived.Test.YtalfbhkgjfkneaaSOLaw
namespace Go.Proofs.Ytalfbhkgjfkneaa
open Go.ChangeShapes Go.WideShapes Go.ChangeAt Go.RowKit
set_option linter.unusedVariables false

theorem lsum_any (xs : List Int) (a : Option Addr) (l c : Nat) (w : World) (h : Ints w a l xs) (hs : SumsFit xs) :
    Calls Try.prog 18 #[.slice a l c] w fun e w' => e = .returned (.int .i64 xs.sum) ∧ w = w' := by
  have hm := h.max
  have hl := Lib.hid h.len
  have H := Lib.hid h
  have HS := Lib.hid hs
  clear h hs
  go_enter Try.func18, Try.ntmps18
  go_wp2_with fail
  go_loop [3, 4] (fun s i => ∃ k : Nat, k ≤ l ∧ i = .int .i64 k ∧ s = .int .i64 (xs.take k).sum) (fun _ i => l - (intOf i).toNat)
  case atStart => exact ⟨0, Nat.zero_le _, rfl, by simp⟩
  case round =>
    obtain ⟨k, hk, rfl, rfl⟩ := hrel
    by_cases hlt : k < l
    · rcases H.out.cells with h0 | ⟨b, off, rfl, hc⟩
      · omega
      have hx := hc k hlt
      obtain ⟨v, hv⟩ : ∃ v, xs.getD k 0 = v := ⟨_, rfl⟩
      rw [hv] at hx
      obtain ⟨s1, s2⟩ := HS.out k
      have hn := sum_snoc xs k (by rw [hl.out]; exact hlt)
      obtain ⟨s3, s4⟩ := HS.out (k + 1)
      rw [hn, hv] at s3 s4
      rw [hv] at hn
      have HN := Lib.hid hn
      have HV := Lib.hid hv
      have HC := Lib.hid hc
      clear hv hc hn
      obtain ⟨s, hs⟩ : ∃ s, (xs.take k).sum = s := ⟨_, rfl⟩
      have HT := Lib.hid hs
      rw [hs] at s1 s2 s3 s4 ⊢
      clear hs
      go_wp2_with fail
      go_round
      case rel => exact ⟨k + 1, by omega, by go_num, by rw [HN.out, HT.out]⟩
      case measure => simp [intOf]; omega
    · go_wp2_with fail
      go_ret
      obtain rfl : k = l := by omega
      have e : xs.take k = xs := List.take_of_length_le (by rw [hl.out]; exact Nat.le_refl _)
      exact ⟨ret_int (by rw [e]), rfl⟩

theorem bigS_any (a : Option Addr) (l c : Nat) (w : World) : Calls Try.prog 13 #[.slice a l c] w fun e w' => e = .returned (.bool (decide (4096 < (l : Int)))) ∧ w = w' := by
  go_enter Try.func13, Try.ntmps13
  go_wp2
  go_ret
  exact ⟨rfl, rfl⟩

/-- all that the law needs to know of the shares ys of A by xs -/
structure Fair (A T : Int) (xs ys : List Int) (n : Nat) : Prop where
  sum : ys.sum = A
  len : ys.length = n
  near : ∀ i, i < n → -T < ys.getD i 0 * T - A * xs.getD i 0 ∧ ys.getD i 0 * T - A * xs.getD i 0 < T
  fit : SumsFit ys
  small : ∀ i, 0 ≤ ys.getD i 0 ∧ ys.getD i 0 ≤ 1000000130

theorem fair_of (A : Int) (xs : List Int) (n : Nat) (g : Nat → Nat) (hb : shB A xs = true) (hz : xs.sum ≠ 0) (hl : xs.length = n) (hp : Prm 0 n id g) (hs : Srt (keyOf (reS A xs.sum xs)) 0 n g) :
    Fair A xs.sum xs (bump (shS A xs.sum xs) g (A - (shS A xs.sum xs).sum).toNat) n := by
  obtain ⟨hA1, hA2, hX, h130⟩ := shB_of hb
  have hT : 0 < xs.sum := by have := (mem_le_sum xs fun x hx => (hX x hx).1).1; omega
  obtain ⟨h1, h2, h3⟩ := shares_ok A xs n g hA1 (fun x hx => (hX x hx).1) hT hl hp hs
  have hlb := left_bd A xs hT
  have hss : ∀ i, 0 ≤ (shS A xs.sum xs).getD i 0 ∧ (shS A xs.sum xs).getD i 0 ≤ 1000000000 := fun i =>
    getD_bd _ 1000000000 (by omega) (fun y hy => by have := sh_mem A xs hA1 (fun x hx => (hX x hx).1) hT y hy; omega) i
  have hsm : ∀ i, 0 ≤ (bump (shS A xs.sum xs) g (A - (shS A xs.sum xs).sum).toNat).getD i 0 ∧ (bump (shS A xs.sum xs) g (A - (shS A xs.sum xs).sum).toNat).getD i 0 ≤ 1000000130 := fun i => by
    have := bump_bd (shS A xs.sum xs) g 1000000000 (A - (shS A xs.sum xs).sum).toNat hss i
    omega
  refine ⟨h1, h2, h3, fun k => ?_, hsm⟩
  have := sum_take_bd 1000000130 (by omega) (bump (shS A xs.sum xs) g (A - (shS A xs.sum xs).sum).toNat) k 130 (by rw [h2]; omega) fun y hy => by
    obtain ⟨i, hi, rfl⟩ := List.mem_iff_getElem.1 (List.mem_of_mem_take hy)
    have := hsm i
    have e : (bump (shS A xs.sum xs) g (A - (shS A xs.sum xs).sum).toNat).getD i 0 = (bump (shS A xs.sum xs) g (A - (shS A xs.sum xs).sum).toNat)[i] := by simp [List.getD, hi]
    omega
  omega

set_option maxRecDepth 100000 in
set_option maxHeartbeats 2000000 in
theorem fnShares_walk (a0 : Option Addr) (len0 cap0 : Nat) (z0 : List Int) (w : World) (w0 : IsRow .u8 w a0 len0 cap0 z0) :
    Calls Try.prog 3 #[.slice a0 len0 cap0] w fun e w' => e = .returned (.bool true) ∧ Below w.heap.size w w' := by
  by_cases hbig : (4096 : Int) < len0
  · go_enter Try.func3, Try.ntmps3
    go_wp2_with (go_at_call 13; refine (bigS_any _ _ _ _).mono ?_; rintro e w' ⟨rfl, rfl⟩)
    go_ret
    exact ⟨rfl, Below.refl _ _⟩
  · have HR := Lib.hid w0
    clear w0
    go_enter Try.func3, Try.ntmps3
    go_wp2_with (go_at_call 13; refine (bigS_any _ _ _ _).mono ?_; rintro e w' ⟨rfl, rfl⟩)
    refine (drawSh _ _ _ _ _ HR.out).mono ?_
    rintro e w1 ⟨A, a, l, c, xs, rfl, hI, hl, hb⟩
    have HB := Lib.hid hb
    have HI := Lib.hid hI
    have HL := Lib.hid hI.len
    clear hb hI
    rcases so_case A xs with hb | ⟨hb, hz⟩ | ⟨hb, hz⟩
    · have S1 := Lib.hid (shs_bad A xs a l c w1 HI.out hb)
      have S2 := Lib.hid (sh_bad A xs a l c w1 HI.out hb)
      clear hb
      go_wp2_with (first | (go_at_call 15; refine (S2.out).mono ?_; rintro e w' ⟨rfl, rfl⟩) | (go_at_call 16; refine (S1.out).mono ?_; rintro e w' ⟨rfl, rfl⟩))
      refine (like_any [] [] _ _ _ _ _ _ _ (ints_nil _) (ints_nil _)).mono ?_
      rintro e w2 ⟨rfl, n2, rfl⟩
      go_wp2_with fail
      go_ret
      exact ⟨rfl, below_drewN HB.out _⟩
    · have S1 := Lib.hid (shs_zero A xs a l c w1 HI.out hb hz)
      have S2 := Lib.hid (sh_zero A xs a l c w1 HI.out hb hz)
      clear hb hz
      go_wp2_with (first | (go_at_call 15; refine (S2.out).mono ?_; rintro e w' ⟨rfl, rfl⟩) | (go_at_call 16; refine (S1.out).mono ?_; rintro e w' ⟨rfl, rfl⟩))
      refine (like_any [] [] _ _ _ _ _ _ _ (ints_nil _) (ints_nil _)).mono ?_
      rintro e w2 ⟨rfl, n2, rfl⟩
      go_wp2_with fail
      go_ret
      exact ⟨rfl, below_drewN HB.out _⟩
    · obtain ⟨hA1, hA2, hX, h130⟩ := shB_of hb
      have HFX := Lib.hid (sum_fit xs hX h130)
      have HX := Lib.hid (getD_bd xs 1000000000 (by omega) hX)
      have hT : 0 < xs.sum := by have := (mem_le_sum xs fun x hx => (hX x hx).1).1; omega
      have hTle : xs.sum ≤ 130000000000 := by
        have := sum_bd 1000000000 (by omega) xs fun x hx => by have := hX x hx; omega
        omega
      have HSB := Lib.hid hb
      have HSZ := Lib.hid hz
      clear hb hz hX h130
      go_wp2_with fail
      refine (sh_good A xs _ _ _ _ HI.out HSB.out HSZ.out).mono ?_
      rintro e w2 ⟨rfl, g, hp, hsr, hblk, hB2⟩
      have HF := Lib.hid (fair_of A xs l g HSB.out HSZ.out HL.out hp hsr)
      have HB2 := Lib.hid (HB.out.trans (hB2.mono HB.out.size))
      have HI2 := Lib.hid (HI.out.step hB2)
      obtain ⟨ys, hys⟩ : ∃ ys, bump (shS A xs.sum xs) g (A - (shS A xs.sum xs).sum).toNat = ys := ⟨_, rfl⟩
      rw [hys] at HF hblk
      have HG2 := Lib.hid hblk
      have HP := Lib.hid hp
      have HSR := Lib.hid hsr
      have HYS := Lib.hid hys
      clear hblk hp hsr hys hB2
      go_wp2_with fail
      refine (shs_good A xs _ _ _ _ HI2.out HSB.out HSZ.out).mono ?_
      rintro e w3 ⟨gs, cs, zs, rfl, hown, hzl, hB3, hall⟩
      obtain rfl : zs = ys := (hall g HP.out HSR.out).trans HYS.out
      have HM3 : Hid (Ints w3 (some ⟨gs, 0, none⟩) l zs) := Lib.hid (by
        obtain ⟨a1, c3, e3, h3⟩ := hown.ints (by rw [hzl]; omega)
        simp only [Value.slice.injEq] at e3
        obtain ⟨rfl, e4, rfl⟩ := e3
        rw [← e4] at h3; exact h3)
      have HB3 := Lib.hid (HB2.out.trans (hB3.mono HB2.out.size))
      have HI3 := Lib.hid (HI2.out.step hB3)
      have HG3 := Lib.hid ((HG2.out.step hB3).ints hzl (by omega))
      clear hown hzl hB3 hall
      go_wp2_with fail
      refine (like_any zs zs _ _ _ _ _ _ _ HG3.out HM3.out).mono ?_
      rintro e w' ⟨rfl, n4, rfl⟩
      have HB4 := Lib.hid (below_drewN HB3.out n4); have HI4 := Lib.hid (HI3.out.drewN n4); have HG4 := Lib.hid (HG3.out.drewN n4)
      obtain ⟨w4, hw4⟩ : ∃ x, x = w3.drewN n4 := ⟨_, rfl⟩
      rw [← hw4] at HB4 HI4 HG4 ⊢
      clear hw4
      obtain ⟨T, hTe⟩ : ∃ T, xs.sum = T := ⟨_, rfl⟩
      have HSM := Lib.hid (lsum_any xs a l c w4 HI4.out HFX.out)
      rw [hTe] at hT hTle HF HSM
      clear hTe
      go_wp2_with (go_at_call 18; refine (HSM.out).mono ?_; rintro e w' ⟨rfl, rfl⟩)
      go_loopw [10] (fun i wr => ∃ k : Nat, k ≤ l ∧ i = .int .i64 k ∧ Hid (∃ n, wr = w4.drewN n)) (fun i _ => l - (intOf i).toNat)
      case atStart => exact ⟨0, Nat.zero_le _, rfl, Lib.hid ⟨0, rfl⟩⟩
      case round =>
        obtain ⟨k, hk, rfl, HW⟩ := hrel
        by_cases hlt : k < l
        · rcases HI4.out.cells with h0 | ⟨b1, o1, rfl, hc⟩
          · omega
          rcases HG4.out.cells with h0 | ⟨b2, o2, e2, gc⟩
          · omega
          simp only [Option.some.injEq, Addr.mk.injEq] at e2
          obtain ⟨rfl, rfl, _⟩ := e2
          have hx := hc k hlt
          have hy := gc k hlt
          obtain ⟨x1, x2⟩ := HX.out k
          obtain ⟨y1, y2⟩ := HF.out.small k
          obtain ⟨f1, f2⟩ := HF.out.near k hlt
          obtain ⟨x, hx0⟩ : ∃ x, xs.getD k 0 = x := ⟨_, rfl⟩
          obtain ⟨y, hy0⟩ : ∃ y, zs.getD k 0 = y := ⟨_, rfl⟩
          rw [hx0] at hx x1 x2 f1 f2
          rw [hy0] at hy y1 y2 f1 f2
          have q0 : 0 ≤ A * x := Int.mul_nonneg hA1 x1
          have q1 : A * x ≤ 1000000000 * 1000000000 := Int.mul_le_mul hA2 x2 x1 (by omega)
          obtain ⟨q, hq⟩ : ∃ q, A * x = q := ⟨_, rfl⟩
          obtain ⟨p, hp⟩ : ∃ p, y * T = p := ⟨_, rfl⟩
          rw [hq] at q0 q1 f1 f2
          rw [hp] at f1 f2
          have hxr : wr.cell? ⟨b1, o1 + k, none⟩ = some (.int .i64 x) := by obtain ⟨n, rfl⟩ := HW.out; exact hx
          have hyr : wr.cell? ⟨w1.heap.size, k, none⟩ = some (.int .i64 y) := by obtain ⟨n, rfl⟩ := HW.out; simpa using hy
          have HC := Lib.hid hc
          have GC := Lib.hid gc
          clear hc gc hx hy hx0 hy0
          go_wp2_with fail
          go_quiet (fail)
          go_wp2_with fail
          go_roundw
          case rel => exact ⟨k + 1, by omega, by go_num, Lib.hid (by obtain ⟨n, hn⟩ := HW.out; exact ⟨n + nq, by rw [hn, World.drewN_drewN]⟩)⟩
          case measure => simp [intOf]; omega
        · have HBr : Hid (Below w.heap.size w wr) := Lib.hid (by obtain ⟨n, rfl⟩ := HW.out; exact below_drewN HB4.out n)
          have HGr : Hid (Ints wr (some ⟨w1.heap.size, 0, none⟩) l zs) := Lib.hid (by obtain ⟨n, rfl⟩ := HW.out; exact HG4.out.drewN n)
          have HSS : Hid (Calls Try.prog 18 #[.slice (some ⟨w1.heap.size, 0, none⟩) l l] wr fun e w' => e = .returned (.int .i64 A) ∧ wr = w') := Lib.hid (by
            have := lsum_any zs _ _ l wr HGr.out HF.out.fit
            rw [HF.out.sum] at this; exact this)
          go_wp2_with (go_at_call 18; refine (HSS.out).mono ?_; rintro e w' ⟨rfl, rfl⟩)
          go_ret
          exact ⟨rfl, HBr.out⟩

end Go.Proofs.Ytalfbhkgjfkneaa
