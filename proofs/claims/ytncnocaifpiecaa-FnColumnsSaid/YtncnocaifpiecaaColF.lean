/- The law on columns: the lists add up, and each age's columns are those of the next one with its own. -/
import Derived.Test.YtncnocaifpiecaaComA
import Derived.Test.YtncnocaifpiecaaLsum
import Derived.Test.YtncnocaifpiecaaDrCA
import Derived.Test.YtncnocaifpiecaaSumLaw
namespace Go.Proofs.Ytncnocaifpiecaa
open Go.ChangeShapes Go.WideShapes Go.ChangeAt Go.RowKit
set_option linter.unusedVariables false
set_option maxRecDepth 100000

theorem colL_sum (F : Nat → Int) (n : Nat) : (colL F n).sum = fsum F 0 n := by
  induction n with
  | zero => rfl
  | succ n ih => rw [colL_snoc, List.sum_append, ih, fsum]; simp

theorem colL_take (F : Nat → Int) (n k : Nat) : (colL F n).take k = colL F (min k n) := by
  unfold colL; rw [← List.map_take, List.take_range]

theorem colL_fit (F : Nat → Int) (n : Nat) (hn : n ≤ 1000) (h : ∀ j, 0 ≤ F j ∧ F j ≤ 1000000000000000) : SumsFit (colL F n) := by
  intro k
  rw [colL_take, colL_sum]
  have := fsum_bd F h 0 (min k n)
  omega

/-- the sums of the first lists are the firsts of the second ones -/
theorem LTab.sumD {f : Int} {xs : List Int} (h : LTab f xs) (r : Int) : (colL (cD r xs) xs.length).sum = (colL (cN r xs) xs.length).getD 0 0 := by
  have := h.2.1
  rw [colL_sum, colL_get _ _ _ (by omega), h.cN_end r 0 xs.length (by omega)]

theorem LTab.sumC {f : Int} {xs : List Int} (h : LTab f xs) (r : Int) : (colL (cC r xs) xs.length).sum = (colL (cM r xs) xs.length).getD 0 0 := by
  have := h.2.1
  rw [colL_sum, colL_get _ _ _ (by omega), h.cM_end r 0 xs.length (by omega)]

/-- what the law holds at hand, world by world -/
structure FBd (w1 : World) (T Bc Bm : Nat) (F : Int) (ta : Option Addr) (tn tc : Nat) (A B C D : Int) (L : List (Option Addr × Nat × List Int)) (W : World) : Prop where
  low : Below w1.heap.size w1 W
  t0 : W.cell? ⟨T, 0, none⟩ = some (.int .i64 F)
  t1 : W.cell? ⟨T, 1, none⟩ = some (.slice ta tn tc)
  qc : Q4 W Bc A B C D
  qm : Q4 W Bm A B C D
  ls : ∀ p ∈ L, Ints W p.1 p.2.1 p.2.2

theorem FBd.step {w1 : World} {T Bc Bm : Nat} {F : Int} {ta : Option Addr} {tn tc : Nat} {A B C D : Int} {L : List (Option Addr × Nat × List Int)} {W W' : World} (h : FBd w1 T Bc Bm F ta tn tc A B C D L W) (hb : Below W.heap.size W W') : FBd w1 T Bc Bm F ta tn tc A B C D L W' :=
  ⟨h.low.trans (hb.mono h.low.size), keep2 hb h.t0, keep2 hb h.t1, h.qc.same (hb.block _ h.qc.lt), h.qm.same (hb.block _ h.qm.lt), fun p hp => (h.ls p hp).step hb⟩

theorem FBd.add {w1 : World} {T Bc Bm : Nat} {F : Int} {ta : Option Addr} {tn tc : Nat} {A B C D : Int} {L : List (Option Addr × Nat × List Int)} {W W' : World} (h : FBd w1 T Bc Bm F ta tn tc A B C D L W) (hb : Below W.heap.size W W') (p : Option Addr × Nat × List Int) (hp : Ints W' p.1 p.2.1 p.2.2) : FBd w1 T Bc Bm F ta tn tc A B C D (p :: L) W' := by
  have g := h.step hb
  refine ⟨g.low, g.t0, g.t1, g.qc, g.qm, fun q hq => ?_⟩
  rcases List.mem_cons.1 hq with rfl | hq
  · exact hp
  · exact g.ls q hq

theorem FBd.drewN {w1 : World} {T Bc Bm : Nat} {F : Int} {ta : Option Addr} {tn tc : Nat} {A B C D : Int} {L : List (Option Addr × Nat × List Int)} {W : World} (h : FBd w1 T Bc Bm F ta tn tc A B C D L W) (n : Nat) : FBd w1 T Bc Bm F ta tn tc A B C D L (W.drewN n) :=
  h.step (below_drewN (Below.refl _ _) n)

/-- the next age -/
theorem col_next {r f : Int} {xs : List Int} {x : Int} (h : coE r f xs x = 0) (h2 : ¬ x = 150) : coE r f xs (x + 1) = 0 ∧ atV r f xs x (cN r xs) = atV r f xs x (cD r xs) + atV r f xs (x + 1) (cN r xs) ∧ atV r f xs x (cM r xs) = atV r f xs x (cC r xs) + atV r f xs (x + 1) (cM r xs) ∧
    0 ≤ atV r f xs x (cN r xs) ∧ atV r f xs x (cN r xs) ≤ 152000000000000000 ∧ 0 ≤ atV r f xs x (cM r xs) ∧ atV r f xs x (cM r xs) ≤ 152000000000000000 := by
  obtain ⟨ht, hr, x0, x1⟩ := coE_iff.1 h
  have h3 : coE r f xs (x + 1) = 0 := coE_iff.2 ⟨ht, hr, by omega, by omega⟩
  have e : (x + 1 - f).toNat = (x - f).toNat + 1 := by omega
  have n1 := ht.cN_bd r hr.1 (x - f).toNat
  have n2 := ht.cM_bd r hr.1 (x - f).toNat
  have s1 := ht.cN_step r (x - f).toNat
  have s2 := ht.cM_step r (x - f).toNat
  unfold atV
  rw [if_pos h, if_pos h, if_pos h, if_pos h, if_pos h3, if_pos h3, e]
  exact ⟨h3, by omega, by omega, n1.1, n1.2, n2.1, n2.2⟩

theorem col_last {r f : Int} {xs : List Int} (h : coE r f xs 150 = 0) : atV r f xs 150 (cN r xs) = atV r f xs 150 (cD r xs) := by
  obtain ⟨ht, hr, x0, x1⟩ := coE_iff.1 h
  have hl := ht.fit
  have f0 := ht.1.1
  have s1 := ht.cN_step r (150 - f).toNat
  have s2 := ht.cN_far r ((150 - f).toNat + 1) (by omega)
  unfold atV
  rw [if_pos h, if_pos h]; omega

theorem col_code {r f : Int} {xs : List Int} {x : Int} (h : coE r f xs x = 0) : coE r f xs f = 0 := by
  obtain ⟨ht, hr, x0, x1⟩ := coE_iff.1 h
  exact coE_iff.2 ⟨ht, hr, by omega, by have := ht.1; omega⟩

set_option maxHeartbeats 2000000 in
theorem fnColumns_walk (a0 : Option Addr) (len0 cap0 : Nat) (z0 : List Int) (w : World) (w0 : IsRow .u8 w a0 len0 cap0 z0) :
    Calls Try.prog 3 #[.slice a0 len0 cap0] w fun e w' => e = .returned (.bool true) ∧ Below w.heap.size w w' := by
  by_cases hbig : (4096 : Int) < len0
  · go_enter Try.func3, Try.ntmps3
    go_wp2_with (go_at_call 11; refine (bigI_any _ _ _ _).mono ?_; rintro e w' ⟨rfl, rfl⟩)
    go_ret
    exact ⟨rfl, Below.refl _ _⟩
  · have HR := Lib.hid w0
    clear w0
    go_enter Try.func3, Try.ntmps3
    go_wp2_with (go_at_call 11; refine (bigI_any _ _ _ _).mono ?_; rintro e w' ⟨rfl, rfl⟩)
    refine (drawCA _ _ _ _ _ HR.out).mono ?_
    rintro e w1 ⟨F, ta, tn, tc, xs, r, x, rfl, hI, htc, htn, hb⟩
    have HB1 := Lib.hid hb
    have HI := Lib.hid hI
    have HL := Lib.hid hI.len
    clear hb hI HR
    obtain ⟨A, hA⟩ : ∃ A, atV r F xs x (cD r xs) = A := ⟨_, rfl⟩
    obtain ⟨B, hB⟩ : ∃ A, atV r F xs x (cN r xs) = A := ⟨_, rfl⟩
    obtain ⟨C, hC⟩ : ∃ A, atV r F xs x (cC r xs) = A := ⟨_, rfl⟩
    obtain ⟨D, hD⟩ : ∃ A, atV r F xs x (cM r xs) = A := ⟨_, rfl⟩
    obtain ⟨E0, hE0⟩ : ∃ A, coE r F xs x = A := ⟨_, rfl⟩
    obtain ⟨E1, hE1⟩ : ∃ A, coE r F xs F = A := ⟨_, rfl⟩
    have HV := Lib.hid (And.intro hA (And.intro hB (And.intro hC (And.intro hD (And.intro hE0 hE1)))))
    have CIA : Hid (∀ W, Hid (Below w1.heap.size w1 W) → Calls Try.prog 13 #[.agg #[.int .i64 F, .slice ta tn tc], .int .i64 r, .int .i64 x] W fun e w' => e = .returned (.tuple #[.agg #[.int .i64 A, .int .i64 B, .int .i64 C, .int .i64 D], .int .i64 E0]) ∧ Below W.heap.size W w') :=
      Lib.hid (fun W hW => by have := at_impl r F xs ta tn tc x W (HI.out.on hW.out) htc; unfold atPost at this; rw [hA, hB, hC, hD, hE0] at this; exact this)
    have CSA : Hid (∀ W, Hid (Below w1.heap.size w1 W) → Calls Try.prog 14 #[.agg #[.int .i64 F, .slice ta tn tc], .int .i64 r, .int .i64 x] W fun e w' => e = .returned (.tuple #[.agg #[.int .i64 A, .int .i64 B, .int .i64 C, .int .i64 D], .int .i64 E0]) ∧ Below W.heap.size W w') :=
      Lib.hid (fun W hW => by have := at_spec r F xs ta tn tc x W (HI.out.on hW.out); unfold atPost at this; rw [hA, hB, hC, hD, hE0] at this; exact this)
    obtain ⟨YD, hYD⟩ : ∃ A, clY (cD r xs) r F xs = A := ⟨_, rfl⟩
    have HYD : Hid (YD = if E1 = 0 then colL (cD r xs) xs.length else []) := Lib.hid (by rw [← hYD, ← hE1]; rfl)
    have CID : Hid (∀ W, Hid (Below w1.heap.size w1 W) → Calls Try.prog 15 #[.agg #[.int .i64 F, .slice ta tn tc], .int .i64 r] W (LsPost YD E1 W)) :=
      Lib.hid (fun W hW => by have := iColumnD_any r F xs ta tn tc W (HI.out.on hW.out) htc; rw [hYD, hE1] at this; exact this)
    have CSD : Hid (∀ W, Hid (Below w1.heap.size w1 W) → Calls Try.prog 16 #[.agg #[.int .i64 F, .slice ta tn tc], .int .i64 r] W (LsPost YD E1 W)) :=
      Lib.hid (fun W hW => by have := sColumnD_any r F xs ta tn tc W (HI.out.on hW.out); rw [hYD, hE1] at this; exact this)
    obtain ⟨YN, hYN⟩ : ∃ A, clY (cN r xs) r F xs = A := ⟨_, rfl⟩
    have HYN : Hid (YN = if E1 = 0 then colL (cN r xs) xs.length else []) := Lib.hid (by rw [← hYN, ← hE1]; rfl)
    have CIN : Hid (∀ W, Hid (Below w1.heap.size w1 W) → Calls Try.prog 17 #[.agg #[.int .i64 F, .slice ta tn tc], .int .i64 r] W (LsPost YN E1 W)) :=
      Lib.hid (fun W hW => by have := iColumnN_any r F xs ta tn tc W (HI.out.on hW.out) htc; rw [hYN, hE1] at this; exact this)
    have CSN : Hid (∀ W, Hid (Below w1.heap.size w1 W) → Calls Try.prog 18 #[.agg #[.int .i64 F, .slice ta tn tc], .int .i64 r] W (LsPost YN E1 W)) :=
      Lib.hid (fun W hW => by have := sColumnN_any r F xs ta tn tc W (HI.out.on hW.out); rw [hYN, hE1] at this; exact this)
    obtain ⟨YC, hYC⟩ : ∃ A, clY (cC r xs) r F xs = A := ⟨_, rfl⟩
    have HYC : Hid (YC = if E1 = 0 then colL (cC r xs) xs.length else []) := Lib.hid (by rw [← hYC, ← hE1]; rfl)
    have CIC : Hid (∀ W, Hid (Below w1.heap.size w1 W) → Calls Try.prog 19 #[.agg #[.int .i64 F, .slice ta tn tc], .int .i64 r] W (LsPost YC E1 W)) :=
      Lib.hid (fun W hW => by have := iColumnC_any r F xs ta tn tc W (HI.out.on hW.out) htc; rw [hYC, hE1] at this; exact this)
    have CSC : Hid (∀ W, Hid (Below w1.heap.size w1 W) → Calls Try.prog 20 #[.agg #[.int .i64 F, .slice ta tn tc], .int .i64 r] W (LsPost YC E1 W)) :=
      Lib.hid (fun W hW => by have := sColumnC_any r F xs ta tn tc W (HI.out.on hW.out); rw [hYC, hE1] at this; exact this)
    obtain ⟨YM, hYM⟩ : ∃ A, clY (cM r xs) r F xs = A := ⟨_, rfl⟩
    have HYM : Hid (YM = if E1 = 0 then colL (cM r xs) xs.length else []) := Lib.hid (by rw [← hYM, ← hE1]; rfl)
    have CIM : Hid (∀ W, Hid (Below w1.heap.size w1 W) → Calls Try.prog 21 #[.agg #[.int .i64 F, .slice ta tn tc], .int .i64 r] W (LsPost YM E1 W)) :=
      Lib.hid (fun W hW => by have := iColumnM_any r F xs ta tn tc W (HI.out.on hW.out) htc; rw [hYM, hE1] at this; exact this)
    have CSM : Hid (∀ W, Hid (Below w1.heap.size w1 W) → Calls Try.prog 22 #[.agg #[.int .i64 F, .slice ta tn tc], .int .i64 r] W (LsPost YM E1 W)) :=
      Lib.hid (fun W hW => by have := sColumnM_any r F xs ta tn tc W (HI.out.on hW.out); rw [hYM, hE1] at this; exact this)
    clear hA hB hC hD hE0 hE1 hYD hYN hYC hYM
    go_wp2_with fail
    have hc0 : (w1.alloc (.cells #[.int .i64 F, .slice ta tn tc] 26)).cell? ⟨w1.heap.size, 0, none⟩ = some (.int .i64 F) := by go_simp
    have hc1 : (w1.alloc (.cells #[.int .i64 F, .slice ta tn tc] 26)).cell? ⟨w1.heap.size, 1, none⟩ = some (.slice ta tn tc) := by go_simp
    refine (CIA.out _ (Lib.hid (box_b _ _))).mono ?_
    rintro e w2 ⟨rfl, hb⟩
    have hn := hb.trans ((box_b w2 (.cells #[.int .i64 A, .int .i64 B, .int .i64 C, .int .i64 D] 30)).mono hb.size)
    have hd0 := keep2 hn hc0
    have hd1 := keep2 hn hc1
    have HB2 := Lib.hid ((box_b w1 (.cells #[.int .i64 F, .slice ta tn tc] 26)).trans (hn.mono (by simp)))
    have HQ2 := Lib.hid (q4_new w2 A B C D)
    clear hb hn hc0 hc1
    go_wp2_with fail
    refine (CSA.out _ HB2).mono ?_
    rintro e w3 ⟨rfl, hb⟩
    have hn := hb.trans ((box_b w3 (.cells #[.int .i64 A, .int .i64 B, .int .i64 C, .int .i64 D] 30)).mono hb.size)
    have hc0 := keep2 hn hd0
    have hc1 := keep2 hn hd1
    have HF : Hid (FBd w1 w1.heap.size w2.heap.size w3.heap.size F ta tn tc A B C D [] (w3.alloc (.cells #[.int .i64 A, .int .i64 B, .int .i64 C, .int .i64 D] 30))) := Lib.hid ⟨HB2.out.trans (hn.mono HB2.out.size), hc0, hc1, HQ2.out.same (hn.block _ HQ2.out.lt), q4_new _ _ _ _ _, fun p hp => by cases hp⟩
    clear hb hn hd0 hd1 HB2 HQ2
    go_wp2_with fail
    with_reducible refine (CID.out _ (Lib.hid HF.out.low)).mono ?_
    rintro e w4 ⟨gaD, gnD, gcD, rfl, hT, hb⟩
    have HF := Lib.hid (HF.out.add hb (gaD, gnD, YD) hT.ints)
    have hc0 := HF.out.t0
    have hc1 := HF.out.t1
    clear hb hT
    go_wp2_with fail
    with_reducible refine (CSD.out _ (Lib.hid HF.out.low)).mono ?_
    rintro e w5 ⟨saD, snD, scD, rfl, hT, hb⟩
    have HF := Lib.hid (HF.out.add hb (saD, snD, YD) hT.ints)
    have hc0 := HF.out.t0
    have hc1 := HF.out.t1
    clear hb hT
    go_wp2_with fail
    with_reducible refine (CIN.out _ (Lib.hid HF.out.low)).mono ?_
    rintro e w6 ⟨gaN, gnN, gcN, rfl, hT, hb⟩
    have HF := Lib.hid (HF.out.add hb (gaN, gnN, YN) hT.ints)
    have hc0 := HF.out.t0
    have hc1 := HF.out.t1
    clear hb hT
    go_wp2_with fail
    with_reducible refine (CSN.out _ (Lib.hid HF.out.low)).mono ?_
    rintro e w7 ⟨saN, snN, scN, rfl, hT, hb⟩
    have HF := Lib.hid (HF.out.add hb (saN, snN, YN) hT.ints)
    have hc0 := HF.out.t0
    have hc1 := HF.out.t1
    clear hb hT
    go_wp2_with fail
    with_reducible refine (CIC.out _ (Lib.hid HF.out.low)).mono ?_
    rintro e w8 ⟨gaC, gnC, gcC, rfl, hT, hb⟩
    have HF := Lib.hid (HF.out.add hb (gaC, gnC, YC) hT.ints)
    have hc0 := HF.out.t0
    have hc1 := HF.out.t1
    clear hb hT
    go_wp2_with fail
    with_reducible refine (CSC.out _ (Lib.hid HF.out.low)).mono ?_
    rintro e w9 ⟨saC, snC, scC, rfl, hT, hb⟩
    have HF := Lib.hid (HF.out.add hb (saC, snC, YC) hT.ints)
    have hc0 := HF.out.t0
    have hc1 := HF.out.t1
    clear hb hT
    go_wp2_with fail
    with_reducible refine (CIM.out _ (Lib.hid HF.out.low)).mono ?_
    rintro e w10 ⟨gaM, gnM, gcM, rfl, hT, hb⟩
    have HF := Lib.hid (HF.out.add hb (gaM, gnM, YM) hT.ints)
    have hc0 := HF.out.t0
    have hc1 := HF.out.t1
    clear hb hT
    go_wp2_with fail
    with_reducible refine (CSM.out _ (Lib.hid HF.out.low)).mono ?_
    rintro e w11 ⟨saM, snM, scM, rfl, hT, hb⟩
    have HF := Lib.hid (HF.out.add hb (saM, snM, YM) hT.ints)
    have hc0 := HF.out.t0
    have hc1 := HF.out.t1
    clear hb hT
    obtain ⟨y0, y1, y2, y3⟩ := HF.out.qc.cell
    obtain ⟨x0, x1, x2, x3⟩ := HF.out.qm.cell
    clear CIA CSA CID CSD CIN CSN CIC CSC CIM CSM
    go_wp2_with fail
    with_reducible refine (like_any YD YD _ _ _ _ _ _ _ (HF.out.ls (gaD, gnD, YD) (by simp)) (HF.out.ls (saD, snD, YD) (by simp))).mono ?_
    rintro e w20 ⟨rfl, nD, rfl⟩
    have HF := Lib.hid (HF.out.drewN nD)
    obtain ⟨w12, hw12⟩ : ∃ W, W = w11.drewN nD := ⟨_, rfl⟩
    rw [← hw12] at HF ⊢
    clear hw12 y0 y1 y2 y3 x0 x1 x2 x3 hc0 hc1
    go_wp2_with fail
    with_reducible refine (like_any YN YN _ _ _ _ _ _ _ (HF.out.ls (gaN, gnN, YN) (by simp)) (HF.out.ls (saN, snN, YN) (by simp))).mono ?_
    rintro e w21 ⟨rfl, nN, rfl⟩
    have HF := Lib.hid (HF.out.drewN nN)
    obtain ⟨w13, hw13⟩ : ∃ W, W = w12.drewN nN := ⟨_, rfl⟩
    rw [← hw13] at HF ⊢
    clear hw13
    go_wp2_with fail
    with_reducible refine (like_any YC YC _ _ _ _ _ _ _ (HF.out.ls (gaC, gnC, YC) (by simp)) (HF.out.ls (saC, snC, YC) (by simp))).mono ?_
    rintro e w22 ⟨rfl, nC, rfl⟩
    have HF := Lib.hid (HF.out.drewN nC)
    obtain ⟨w14, hw14⟩ : ∃ W, W = w13.drewN nC := ⟨_, rfl⟩
    rw [← hw14] at HF ⊢
    clear hw14
    go_wp2_with fail
    with_reducible refine (like_any YM YM _ _ _ _ _ _ _ (HF.out.ls (gaM, gnM, YM) (by simp)) (HF.out.ls (saM, snM, YM) (by simp))).mono ?_
    rintro e w23 ⟨rfl, nM, rfl⟩
    have HF := Lib.hid (HF.out.drewN nM)
    obtain ⟨w15, hw15⟩ : ∃ W, W = w14.drewN nM := ⟨_, rfl⟩
    rw [← hw15] at HF ⊢
    clear hw15
    go_wp2_with fail
    by_cases h1 : E1 = 0
    · subst h1
      obtain ⟨hA, hB, hC, hD, hE0, hE1⟩ := HV.out
      obtain ⟨ht, ⟨r0, r1⟩, -, -⟩ := coE_iff.1 hE1
      have hl := ht.2.1
      have eD : YD = colL (cD r xs) xs.length := by rw [HYD.out]; rfl
      have eN : YN = colL (cN r xs) xs.length := by rw [HYN.out]; rfl
      have eC : YC = colL (cC r xs) xs.length := by rw [HYC.out]; rfl
      have eM : YM = colL (cM r xs) xs.length := by rw [HYM.out]; rfl
      have lN := (HF.out.ls (saN, snN, YN) (by simp)).len
      have lM := (HF.out.ls (saM, snM, YM) (by simp)).len
      have lD := (HF.out.ls (gaD, gnD, YD) (by simp)).len
      rw [eN, colL_len] at lN
      rw [eM, colL_len] at lM
      rw [eD, colL_len] at lD
      have lT := HL.out
      simp only at lN lM lD
      obtain ⟨bN, oN, rfl, hbN, hcN⟩ := (HF.out.ls (saN, snN, YN) (by simp)).at (by simp only; omega)
      obtain ⟨bM, oM, rfl, hbM, hcM⟩ := (HF.out.ls (saM, snM, YM) (by simp)).at (by simp only; omega)
      have fD := HF.out.ls (gaD, gnD, YD) (by simp)
      have fC := HF.out.ls (gaC, gnC, YC) (by simp)
      have SD : Hid (∀ n, Calls Try.prog 24 #[.slice gaD gnD gcD] (w15.drewN n) fun e w'' => e = .returned (.int .i64 YD.sum) ∧ ∃ n, w'' = w15.drewN n) := Lib.hid (fun n => (lsum_any YD gaD gnD gcD _ (fD.drewN n) (by rw [eD]; exact colL_fit _ _ (by omega) (ht.cD_bd r r0))).mono fun e w' ⟨g1, g2⟩ => ⟨g1, n, g2.symm⟩)
      have SC : Hid (∀ n, Calls Try.prog 24 #[.slice gaC gnC gcC] (w15.drewN n) fun e w'' => e = .returned (.int .i64 YC.sum) ∧ ∃ n, w'' = w15.drewN n) := Lib.hid (fun n => (lsum_any YC gaC gnC gcC _ (fC.drewN n) (by rw [eC]; exact colL_fit _ _ (by omega) (ht.cC_bd r r0))).mono fun e w' ⟨g1, g2⟩ => ⟨g1, n, g2.symm⟩)
      have sD : YD.sum = YN.getD 0 0 := by rw [eD, eN]; exact ht.sumD r
      have sC : YC.sum = YM.getD 0 0 := by rw [eC, eM]; exact ht.sumC r
      obtain ⟨V1, hV1⟩ : ∃ V, YN.getD 0 0 = V := ⟨_, rfl⟩
      obtain ⟨V2, hV2⟩ : ∃ V, YM.getD 0 0 = V := ⟨_, rfl⟩
      have k1 := hcN 0 (by simp only; omega)
      have k2 := hcM 0 (by simp only; omega)
      simp only at k1 k2
      rw [hV1] at k1
      rw [hV2] at k2
      rw [sD, hV1] at SD
      rw [sC, hV2] at SC
      have k1 : w15.cell? ⟨bN, oN, none⟩ = some (.int .i64 V1) := k1
      have k2 : w15.cell? ⟨bM, oM, none⟩ = some (.int .i64 V2) := k2
      have hsN : 0 < snN := by omega
      have hsM : 0 < snM := by omega
      have hgt : gnD = tn := by omega
      have hc1 := HF.out.t1
      have hc0 := HF.out.t0
      clear hA hB hC hD hE0 hE1 ht hl eD eN eC eM lN lM lD lT hbN hbM hcN hcM fD fC sD sC hV1 hV2
      subst hgt
      go_quiet (first | (go_at_call 24; with_reducible exact SD.out _) | (go_at_call 24; with_reducible exact SC.out _))
      have HF := Lib.hid (HF.out.drewN nq)
      obtain ⟨w16, hw16⟩ : ∃ W, W = w15.drewN nq := ⟨_, rfl⟩
      rw [← hw16] at HF ⊢
      clear hw16 k1 k2 hc0 hc1 SD SC
      by_cases h0 : E0 = 0
      · subst h0
        obtain ⟨hA, hB, hC, hD, hE0, hE1⟩ := HV.out
        obtain ⟨-, -, x0, x1⟩ := coE_iff.1 hE0
        obtain ⟨ht, -⟩ := coE_iff.1 hE1
        have f0 := ht.1.1
        obtain ⟨y0, y1, y2, y3⟩ := HF.out.qc.cell
        by_cases hx : x = 150
        · subst hx
          have hn := col_last hE0
          rw [hA, hB] at hn
          have hn2 : (B == A) = true := by simp [hn]
          clear hA hB hC hD hE0 hE1 ht hn
          go_wp2_with fail
          go_ret
          exact ⟨rfl, HB1.out.trans (HF.out.low.mono HB1.out.size)⟩
        · obtain ⟨n1, n2, n3, n4, n5, n6, n7⟩ := col_next hE0 hx
          obtain ⟨A2, hA2⟩ : ∃ A, atV r F xs (x + 1) (cD r xs) = A := ⟨_, rfl⟩
          obtain ⟨B2, hB2⟩ : ∃ A, atV r F xs (x + 1) (cN r xs) = A := ⟨_, rfl⟩
          obtain ⟨C2, hC2⟩ : ∃ A, atV r F xs (x + 1) (cC r xs) = A := ⟨_, rfl⟩
          obtain ⟨D2, hD2⟩ : ∃ A, atV r F xs (x + 1) (cM r xs) = A := ⟨_, rfl⟩
          have CIX : Hid (∀ W, Hid (Below w1.heap.size w1 W) → Calls Try.prog 13 #[.agg #[.int .i64 F, .slice ta gnD tc], .int .i64 r, .int .i64 (x + 1)] W fun e w' => e = .returned (.tuple #[.agg #[.int .i64 A2, .int .i64 B2, .int .i64 C2, .int .i64 D2], .int .i64 0]) ∧ Below W.heap.size W w') :=
            Lib.hid (fun W hW => by have := at_impl r F xs ta gnD tc (x + 1) W (HI.out.on hW.out) htc; unfold atPost at this; rw [hA2, hB2, hC2, hD2, n1] at this; exact this)
          rw [hB, hA, hB2] at n2
          rw [hD, hC, hD2] at n3
          rw [hB] at n4 n5
          rw [hD] at n6 n7
          have p1 : IntKind.i64.wrap (A + B2) = B := by rw [IntWalk.i64_in _ (by omega)]; exact n2.symm
          have p2 : IntKind.i64.wrap (C + D2) = D := by rw [IntWalk.i64_in _ (by omega)]; exact n3.symm
          have hc0 := HF.out.t0
          have hc1 := HF.out.t1
          clear hA hB hC hD hE0 hE1 ht hA2 hB2 hC2 hD2 n1 n2 n3 n4 n5 n6 n7
          clear y0 y1 y2 y3
          go_wp2_with fail
          with_reducible refine (CIX.out _ (Lib.hid HF.out.low)).mono ?_
          rintro e w17 ⟨rfl, hb⟩
          have hn := hb.trans ((box_b w17 (.cells #[.int .i64 A2, .int .i64 B2, .int .i64 C2, .int .i64 D2] 30)).mono hb.size)
          have HF := Lib.hid (HF.out.step hn)
          obtain ⟨y0, y1, y2, y3⟩ := HF.out.qc.cell
          obtain ⟨v0, v1, v2, v3⟩ := (q4_new w17 A2 B2 C2 D2).cell
          clear hb hn hc0 hc1
          go_wp2_with fail
          go_ret
          exact ⟨rfl, HB1.out.trans (HF.out.low.mono HB1.out.size)⟩
      · have h0b : (E0 != 0) = true := by simp [h0]
        go_wp2_with fail
        go_ret
        exact ⟨rfl, HB1.out.trans (HF.out.low.mono HB1.out.size)⟩
    · have h1b : (E1 == 0) = false := by simp [h1]
      have he : (E0 != 0) = true := by
        cases hc : (E0 != 0)
        · obtain ⟨hA, hB, hC, hD, hE0, hE1⟩ := HV.out
          have : E0 = 0 := by simpa using hc
          rw [this] at hE0
          exact absurd (hE1.symm.trans (col_code hE0)) h1
        · rfl
      go_quiet (fail)
      go_wp2_with fail
      go_ret
      exact ⟨rfl, below_drewN (HB1.out.trans (HF.out.low.mono HB1.out.size)) _⟩

end Go.Proofs.Ytncnocaifpiecaa
