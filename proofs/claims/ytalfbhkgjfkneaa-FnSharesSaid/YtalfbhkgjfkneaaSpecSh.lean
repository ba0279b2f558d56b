/- spec.l01Share: what a call does. -/
import Derived.Test.YtalfbhkgjfkneaaBest
import Derived.Test.YtalfbhkgjfkneaaApp
namespace Go.Proofs.Ytalfbhkgjfkneaa
open Go.ChangeShapes Go.WideShapes Go.ChangeAt Go.RowKit
set_option linter.unusedVariables false

theorem OwnI.drewN {base : Nat} {w : World} {v : Value} {xs : List Int} (h : OwnI base w v xs) (n : Nat) : OwnI base (w.drewN n) v xs := h.same fun _ _ _ => rfl

theorem one_newA (w : World) (x : Int) : ∀ j u, [Value.int .i64 x][j]? = some u → (w.alloc (.cells #[.int .i64 x] 2)).cell? ((⟨w.heap.size, 0, none⟩ : Addr).add j) = some u := by
  intro j u hj
  match j, hj with
  | 0, hj => simp at hj; subst hj; simp [Addr.add]

/-- two lists of the call's own, in blocks of their own -/
structure Two (base : Nat) (w : World) (v1 v2 : Value) (xs ys : List Int) : Prop where
  l : OwnI base w v1 xs
  r : OwnI base w v2 ys
  ne : v1.ownBlock ≠ v2.ownBlock
  l0 : v1.ownBlock ≠ none
  r0 : v2.ownBlock ≠ none

theorem two_new (w : World) : Two w.heap.size ((w.alloc (.cells #[] 2)).alloc (.cells #[] 2)) (.slice (some ⟨w.heap.size, 0, none⟩) 0 0) (.slice (some ⟨w.heap.size + 1, 0, none⟩) 0 0) [] [] := by
  refine ⟨(ownI_new w).alloc _, ?_, by simp [Value.ownBlock], by simp [Value.ownBlock], by simp [Value.ownBlock]⟩
  have := (ownI_new (w.alloc (.cells #[] 2))).mono (b2 := w.heap.size) (by simp)
  simpa using this

theorem Two.left {base : Nat} {w w1 : World} {v1 v2 v' : Value} {xs ys : List Int} {x : Int} (H : Two base w v1 v2 xs ys) (h : OwnI base w1 v' (xs ++ [x])) (hg : (w.alloc (.cells #[.int .i64 x] 2)).grownBy w1 v1.ownBlock)
    (hw : v'.ownBlock = v1.ownBlock ∨ v'.ownBlock = some (w.heap.size + 1)) : Two base w1 v' v2 (xs ++ [x]) ys := by
  have hr : OwnI base (w.alloc (.cells #[.int .i64 x] 2)) v2 ys := H.r.alloc _
  refine ⟨h, hr.kept hg (.inr fun e => H.ne e.symm), ?_, ?_, H.r0⟩
  · rcases hw with e | e
    · rw [e]; exact H.ne
    · rw [e]
      intro e2
      have := (World.ownsRow.lt hr _ e2.symm).2
      simp at this
  · rcases hw with e | e
    · rw [e]; exact H.l0
    · rw [e]; simp

theorem Two.swap {base : Nat} {w : World} {v1 v2 : Value} {xs ys : List Int} (H : Two base w v1 v2 xs ys) : Two base w v2 v1 ys xs := ⟨H.r, H.l, fun e => H.ne e.symm, H.r0, H.l0⟩

theorem OwnI.shape {base : Nat} {w : World} {v : Value} {xs : List Int} (h : OwnI base w v xs) (hn : v.ownBlock ≠ none) : ∃ g cap, v = .slice (some ⟨g, 0, none⟩) xs.length cap := by
  obtain ⟨h0, ⟨rfl, h1⟩ | ⟨g, cap, cur, rfl, hg, hb, r⟩⟩ := h
  · exact absurd rfl hn
  · exact ⟨g, cap, rfl⟩

theorem OwnI.cell {base g n c : Nat} {w : World} {xs : List Int} (h : OwnI base w (.slice (some ⟨g, 0, none⟩) n c) xs) (hn : xs.length = n) (i : Nat) (hi : i < n) : w.cell? ⟨g, i, none⟩ = some (.int .i64 (xs.getD i 0)) := by
  subst hn
  have := World.ownsRow.cellAt h i (by omega)
  rw [this]; simp [List.getD, hi]

theorem OwnI.free {base g n c : Nat} {w : World} {xs : List Int} (h : OwnI base w (.slice (some ⟨g, 0, none⟩) n c) xs) (hn : xs.length = n) (i : Nat) : w.frozen? ⟨g, i, none⟩ = false := by
  subst hn
  exact World.ownsRow.frozenAt h i

theorem OwnI.put {base g n c : Nat} {w : World} {xs : List Int} (h : OwnI base w (.slice (some ⟨g, 0, none⟩) n c) xs) (hn : xs.length = n) (i : Nat) (u : Int) :
    OwnI base (w.setCell ⟨g, i, none⟩ (.int .i64 u)) (.slice (some ⟨g, 0, none⟩) n c) (xs.set i u) ∧ w.grownBy (w.setCell ⟨g, i, none⟩ (.int .i64 u)) (some g) := by
  subst hn
  have := World.ownsRow.stored h i (.int .i64 u)
  refine ⟨?_, this.2⟩
  unfold OwnI
  rw [List.length_set, List.map_set]
  exact this.1

theorem Two.put {base g n c : Nat} {w : World} {v2 : Value} {xs ys : List Int} (H : Two base w (.slice (some ⟨g, 0, none⟩) n c) v2 xs ys) (hn : xs.length = n) (i : Nat) (u : Int) : Two base (w.setCell ⟨g, i, none⟩ (.int .i64 u)) (.slice (some ⟨g, 0, none⟩) n c) v2 (xs.set i u) ys := by
  have h := H.l.put hn i u
  exact ⟨h.1, H.r.kept h.2 (.inr fun e => H.ne (by rw [e]; rfl)), H.ne, H.l0, H.r0⟩

theorem Two.drewN {base : Nat} {w : World} {v1 v2 : Value} {xs ys : List Int} (H : Two base w v1 v2 xs ys) (m : Nat) : Two base (w.drewN m) v1 v2 xs ys := ⟨H.l.drewN m, H.r.drewN m, H.ne, H.l0, H.r0⟩

theorem take_snoc (xs : List Int) (k : Nat) (h : k < xs.length) : xs.take k ++ [xs.getD k 0] = xs.take (k + 1) := by
  rw [List.take_add_one]; simp [List.getD, List.getElem?_eq_getElem h]

def RelS (xs : List Int) (A T : Int) (l base : Nat) (w : World) (u v1 v2 : Value) (wr : World) : Prop :=
  ∃ k : Nat, k ≤ l ∧ u = .int .i64 k ∧ Hid (Two base wr v1 v2 ((shS A T xs).take k) ((reS A T xs).take k)) ∧ Hid (Below base w wr) ∧ Hid (base ≤ wr.heap.size)

def RelL (A T L : Int) (xs : List Int) (l base : Nat) (w : World) (v1 v2 u : Value) (wr : World) : Prop :=
  ∃ (k : Nat) (zs ts : List Int), (k : Int) ≤ L ∧ u = .int .i64 (L - k) ∧ zs.length = l ∧ ts.length = l ∧ Hid (Two base wr v1 v2 zs ts) ∧ Hid (∀ i, 0 ≤ zs.getD i 0 ∧ zs.getD i 0 ≤ 1000000000 + k) ∧ Hid (∀ i, -1 ≤ ts.getD i 0 ∧ ts.getD i 0 ≤ 130000000000) ∧
    Hid (∀ g, Prm 0 l id g → Srt (keyOf (reS A T xs)) 0 l g → zs = bump (shS A T xs) g k ∧ ts = rest (reS A T xs) g k) ∧ Hid (Below base w wr)

def RelP (ts : List Int) (l : Nat) (w : World) (x y : Value) (wr : World) : Prop :=
  ∃ b i : Nat, x = .int .i64 b ∧ y = .int .i64 i ∧ b < l ∧ i ≤ l ∧ Hid (∀ j, j < i → ts.getD j 0 ≤ ts.getD b 0) ∧ Hid (∀ j, j < b → ts.getD j 0 < ts.getD b 0) ∧ Hid (∃ m, wr = w.drewN m)

def SharePost (A T : Int) (xs : List Int) (l : Nat) (w : World) (e : Ending) (w' : World) : Prop :=
  ∃ g cap ys, e = .returned (.slice (some ⟨g, 0, none⟩) l cap) ∧ OwnI w.heap.size w' (.slice (some ⟨g, 0, none⟩) l cap) ys ∧ ys.length = l ∧ Below w.heap.size w w' ∧
    ∀ g, Prm 0 l id g → Srt (keyOf (reS A T xs)) 0 l g → ys = bump (shS A T xs) g (A - (shS A T xs).sum).toNat

set_option maxRecDepth 100000 in
set_option maxHeartbeats 1000000 in
theorem share_any (A : Int) (xs : List Int) (a : Option Addr) (l c : Nat) (w : World) (h : Ints w a l xs) (hb : shB A xs = true) (hz : xs.sum ≠ 0) :
    Calls Try.prog 47 #[.int .i64 A, .slice a l c] w (SharePost A xs.sum xs l w) := by
  have hm := h.max
  have H := Lib.hid h
  have hl := Lib.hid h.len
  obtain ⟨hA1, hA2, hX, h130⟩ := shB_of hb
  rw [hl.out] at h130
  have HX := Lib.hid hX
  have hT : 0 < xs.sum := by have := (mem_le_sum xs fun x hx => (hX x hx).1).1; omega
  have hTle : xs.sum ≤ 130000000000 := by
    have := sum_bd 1000000000 (by omega) xs fun x hx => by have := hX x hx; omega
    have h3 := hl.out
    omega
  have HF : Hid (SumsFit xs) := Lib.hid fun k => by
    have := sum_take_bd 1000000000 (by omega) xs k 130 (by rw [hl.out]; omega) fun x hx => by
      have := hX x (List.mem_of_mem_take hx); omega
    omega
  have HSb : Hid (∀ y ∈ shS A xs.sum xs, 0 ≤ y ∧ y ≤ A) := Lib.hid (sh_mem A xs hA1 (fun x hx => (hX x hx).1) hT)
  have HLB := Lib.hid (left_bd A xs hT)
  have HLE := Lib.hid (mem_le_sum xs fun x hx => (hX x hx).1).2
  clear h hX hb hz
  obtain ⟨T, hTe⟩ : ∃ T, xs.sum = T := ⟨_, rfl⟩
  have HTE := Lib.hid hTe
  have HSUM : ∀ wx : World, Ints wx a l xs → Calls Try.prog 46 #[.slice a l c] wx fun e w' => e = .returned (.int .i64 T) ∧ wx = w' := fun wx hx => by
    rw [← HTE.out]; exact sumL_any xs a l c wx hx HF.out
  have HSM := Lib.hid HSUM
  rw [hTe] at hT hTle HSb HLB HLE
  clear hTe HSUM
  have HLt := Lib.hid H.out.lt
  go_enter Try.func47, Try.ntmps47
  go_wp2_with (go_at_call 46; refine (HSM.out _ H.out).mono ?_; rintro e w' ⟨rfl, rfl⟩)
  have HT0 := Lib.hid (two_new w)
  go_loopw [8, 6, 7] (fun u v1 v2 wr => RelS xs A T l w.heap.size w u v1 v2 wr) (fun u _ _ _ => l - (intOf u).toNat)
  case atStart => exact ⟨0, Nat.zero_le _, rfl, by simpa using HT0, Lib.hid (((Below.refl _ _).alloc (Nat.le_refl _) _).alloc (by simp) _), Lib.hid (by simp; omega)⟩
  case round =>
    obtain ⟨k, hk, rfl, HTw, HB, HZ⟩ := hrel
    by_cases hlt : k < l
    · rcases H.out.cells with h0 | ⟨b, off, rfl, hc⟩
      · omega
      have hbl : b < w.heap.size := HLt.out ⟨b, off, none⟩ rfl (by omega)
      have hx := hc k hlt
      have hxl : k < xs.length := by rw [hl.out]; exact hlt
      have g1 := sh_get A T xs k hxl
      have g2 := re_get A T xs k hxl
      have n1 := take_snoc (shS A T xs) k (by rw [sh_len]; exact hxl)
      have n2 := take_snoc (reS A T xs) k (by rw [re_len]; exact hxl)
      have hmem : xs.getD k 0 ∈ xs := by simp [List.getD, List.getElem?_eq_getElem hxl]
      have hvb := HX.out _ hmem
      have hvT := HLE.out _ hmem
      obtain ⟨v, hv⟩ : ∃ v, xs.getD k 0 = v := ⟨_, rfl⟩
      rw [hv] at hx g1 g2 hvb hvT
      rw [g1] at n1
      rw [g2] at n2
      obtain ⟨e1, e2⟩ := hvb
      have hp0 : 0 ≤ A * v := Int.mul_nonneg hA1 e1
      have hp1 : A * v ≤ 1000000000 * 1000000000 := Int.mul_le_mul hA2 e2 e1 (by omega)
      have hq := share_le A v T hA1 e1 hvT hT
      have hr1 := Int.emod_nonneg (A * v) (show T ≠ 0 by omega)
      have hr2 := Int.emod_lt_of_pos (A * v) hT
      have HXC := Lib.hid hx
      have HC := Lib.hid hc
      have hx1 := hx
      rw [← HB.out.cell (p := ⟨b, off + k, none⟩) hbl] at hx1
      have hl1 : ((shS A T xs).take k).length ≤ 4096 := by simp; omega
      have hl2 : ((reS A T xs).take k).length ≤ 4096 := by simp; omega
      obtain ⟨zs, hzs⟩ : ∃ zs, (shS A T xs).take k = zs := ⟨_, rfl⟩
      obtain ⟨ts, hts⟩ : ∃ ts, (reS A T xs).take k = ts := ⟨_, rfl⟩
      rw [hzs] at HTw n1 hl1
      rw [hts] at HTw n2 hl2
      obtain ⟨p, hp⟩ : ∃ p, A * v = p := ⟨_, rfl⟩
      obtain ⟨q, hqe⟩ : ∃ q, p / T = q := ⟨_, rfl⟩
      obtain ⟨r, hre⟩ : ∃ r, p % T = r := ⟨_, rfl⟩
      rw [hp] at hp0 hp1 hq hr1 hr2 n1 n2
      rw [hqe] at hq n1
      rw [hre] at hr1 hr2 n2
      have N1 := Lib.hid n1
      have N2 := Lib.hid n2
      obtain ⟨q1, q2⟩ := hq
      have hbz := HZ.out
      clear hc hx hv g1 g2 n1 n2 hmem hxl hzs hts
      go_wp2_with (at_builtin; refine wpList_app rfl _ _ rfl w.heap.size _ zs q rfl (HTw.out.l.alloc _) ⟨wr.heap.size, 0, none⟩ rfl (one_newA wr q) hl1 (by simp; omega) ?_)
      intro v1' w5 hO hg hw
      have R5 := HTw.out.left hO hg hw
      have B5 := HB.out.trans ((((Below.refl w.heap.size wr).alloc hbz _)).grown hg (by simp; omega) fun j hj => (World.ownsRow.lt HTw.out.l j hj).1)
      have hx5 := HXC.out
      rw [← B5.cell (p := ⟨b, off + k, none⟩) hbl] at hx5
      have hbz5 : w.heap.size ≤ w5.heap.size := B5.size
      have HR5 := Lib.hid R5
      have HB5 := Lib.hid B5
      clear R5 B5 hO hg hw hx1 HTw HB HZ hbz
      go_wp2_with (at_builtin; refine wpList_app rfl _ _ rfl w.heap.size _ ts r rfl (HR5.out.r.alloc _) ⟨w5.heap.size, 0, none⟩ rfl (one_newA w5 r) hl2 (by simp; omega) ?_)
      intro v2' w6 hO hg hw
      have HR6 := Lib.hid (HR5.out.swap.left hO hg hw).swap
      have HB6 := Lib.hid (HB5.out.trans ((((Below.refl w.heap.size w5).alloc hbz5 _)).grown hg (by simp; omega) fun j hj => (World.ownsRow.lt HR5.out.r j hj).1))
      clear hO hg hw HR5 HB5 hx5 hbz5
      go_wp2_with fail
      go_roundw
      case rel => exact ⟨k + 1, by omega, by go_num, Lib.hid (by rw [← N1.out, ← N2.out]; exact HR6.out), HB6, Lib.hid HB6.out.size⟩
      case measure => simp [intOf]; omega
    · obtain rfl : k = l := by omega
      have el1 : (shS A T xs).take k = shS A T xs := List.take_of_length_le (by rw [sh_len, hl.out]; exact Nat.le_refl _)
      have el2 : (reS A T xs).take k = reS A T xs := List.take_of_length_le (by rw [re_len, hl.out]; exact Nat.le_refl _)
      rw [el1, el2] at HTw
      clear el1 el2 hlt hk
      obtain ⟨d1, c1, rfl⟩ := HTw.out.l.shape HTw.out.l0
      obtain ⟨d2, c2, rfl⟩ := HTw.out.r.shape HTw.out.r0
      rw [sh_len, re_len, hl.out] at HTw
      rw [sh_len, re_len, hl.out]
      have hd : d1 ≠ d2 := fun e => HTw.out.ne (by rw [e]; rfl)
      have hl0 : 0 < k := by
        by_cases h0 : k = 0
        · have e0 : xs = [] := List.eq_nil_of_length_eq_zero (by rw [hl.out]; exact h0)
          have := HTE.out; rw [e0] at this; simp at this; omega
        · omega
      have HIn : Hid (Ints wr (some ⟨d1, 0, none⟩) k (shS A T xs)) := Lib.hid (by
        obtain ⟨a1, c3, e3, h3⟩ := HTw.out.l.ints (by rw [sh_len, hl.out]; omega)
        simp only [Value.slice.injEq] at e3
        obtain ⟨rfl, e4, rfl⟩ := e3
        rw [← e4] at h3; exact h3)
      have HF2 : Hid (SumsFit (shS A T xs)) := Lib.hid fun j => by
        have := sum_take_bd 1000000000 (by omega) (shS A T xs) j 130 (by rw [sh_len, hl.out]; omega) fun y hy => by
          have := HSb.out y (List.mem_of_mem_take hy); omega
        omega
      have hsb : -130000000000 ≤ (shS A T xs).sum ∧ (shS A T xs).sum ≤ 130000000000 := by
        have := sum_bd 1000000000 (by omega) (shS A T xs) fun y hy => by have := HSb.out y hy; omega
        rw [sh_len, hl.out] at this
        omega
      have HSM2 : Hid (Calls Try.prog 46 #[.slice (some ⟨d1, 0, none⟩) k c1] wr fun e w' => e = .returned (.int .i64 (shS A T xs).sum) ∧ wr = w') := Lib.hid (sumL_any _ _ _ _ _ HIn.out HF2.out)
      have hL := HLB.out
      rw [hl.out] at hL
      obtain ⟨S, hSe⟩ : ∃ S, (shS A T xs).sum = S := ⟨_, rfl⟩
      rw [hSe] at hL hsb HSM2
      obtain ⟨L, hLe⟩ : ∃ L, A - S = L := ⟨_, rfl⟩
      rw [hLe] at hL
      have HLE2 : Hid ((A - (shS A T xs).sum).toNat = L.toNat) := Lib.hid (by rw [hSe, hLe])
      obtain ⟨hs1, hs2⟩ := hsb
      obtain ⟨hL1, hL2⟩ := hL
      have HD := Lib.hid hd
      clear hSe hd
      go_wp2_with (go_at_call 46; refine (HSM2.out).mono ?_; rintro e w' ⟨rfl, rfl⟩)
      clear hLe hs1 hs2
      go_loopw [9] (fun u wx => RelL A T L xs k w.heap.size w (.slice (some ⟨d1, 0, none⟩) k c1) (.slice (some ⟨d2, 0, none⟩) k c2) u wx) (fun u _ => (intOf u).toNat)
      case atStart => exact ⟨0, shS A T xs, reS A T xs, hL1, by simp, by rw [sh_len]; exact hl.out, by rw [re_len]; exact hl.out, HTw, Lib.hid (fun i => by have := getD_bd (shS A T xs) 1000000000 (by omega) (fun y hy => by have := HSb.out y hy; omega) i; omega), Lib.hid (fun i => by
          have := getD_bd (reS A T xs) T (by omega) (fun y hy => by
            obtain ⟨x, hx, rfl⟩ := List.mem_map.1 hy
            have h1 := Int.emod_nonneg (A * x) (show T ≠ 0 by omega)
            have h2 := Int.emod_lt_of_pos (A * x) hT
            omega) i
          omega), Lib.hid (fun g _ _ => ⟨rfl, rfl⟩), HB⟩
      case round =>
        obtain ⟨j, zs, ts, hjL, rfl, hzl, htl, HTj, HZb, HTb, HG, HBj⟩ := hrel
        have HZL := Lib.hid hzl
        have HTL := Lib.hid htl
        clear hzl htl
        by_cases hlt : (0 : Int) < L - j
        · go_wp2_with fail
          obtain ⟨wj, hwj⟩ : ∃ x : World, x = wr := ⟨_, rfl⟩
          subst hwj
          try generalize decide ((0 : Int) < L - (j : Int)) = bb
          try generalize decide ((j : Int) < L) = bb
          go_loopw [10, 11] (fun x y wx => RelP ts k wj x y wx) (fun _ y _ => k - (intOf y).toNat)
          case atStart => exact ⟨0, 0, rfl, rfl, hl0, Nat.zero_le _, Lib.hid (fun j h => by omega), Lib.hid (fun j h => by omega), Lib.hid ⟨0, rfl⟩⟩
          case round =>
            obtain ⟨b, i, rfl, rfl, hb, hi, HM, HN, HW⟩ := hrel
            have HTr : Hid (Two w.heap.size wr (.slice (some ⟨d1, 0, none⟩) k c1) (.slice (some ⟨d2, 0, none⟩) k c2) zs ts) := Lib.hid (by obtain ⟨mm, rfl⟩ := HW.out; exact HTj.out.drewN mm)
            by_cases hlt2 : i < k
            · have y1 := HTr.out.r.cell HTL.out i hlt2
              have y2 := HTr.out.r.cell HTL.out b hb
              obtain ⟨x, hx⟩ : ∃ x, ts.getD i 0 = x := ⟨_, rfl⟩
              obtain ⟨y, hy⟩ : ∃ y, ts.getD b 0 = y := ⟨_, rfl⟩
              rw [hx] at y1
              rw [hy] at y2
              have HX1 := Lib.hid hx
              have HY1 := Lib.hid hy
              clear hx hy
              by_cases hk : y < x
              · have HM2 : Hid (∀ j, j < i + 1 → ts.getD j 0 ≤ ts.getD i 0) := Lib.hid fun j h3 => by
                  by_cases e : j = i
                  · subst e; omega
                  · have := HM.out j (by omega)
                    rw [HY1.out] at this; rw [HX1.out]; omega
                have HN2 : Hid (∀ j, j < i → ts.getD j 0 < ts.getD i 0) := Lib.hid fun j h3 => by
                  have := HM.out j h3
                  rw [HY1.out] at this; rw [HX1.out]; omega
                go_wp2_with fail
                go_region
                go_wp2_with fail
                go_roundw
                case rel => exact ⟨i, i + 1, rfl, by go_num, hlt2, by omega, HM2, HN2, Lib.hid (by obtain ⟨mm, rfl⟩ := HW.out; exact ⟨_, World.drewN_drewN _ _ _⟩)⟩
                case measure => simp [intOf]; omega
              · have HM2 : Hid (∀ j, j < i + 1 → ts.getD j 0 ≤ ts.getD b 0) := Lib.hid fun j h3 => by
                  by_cases e : j = i
                  · subst e; rw [HX1.out, HY1.out]; omega
                  · exact HM.out j (by omega)
                go_wp2_with fail
                go_region
                go_wp2_with fail
                go_roundw
                case rel => exact ⟨b, i + 1, rfl, by go_num, hb, by omega, HM2, HN, Lib.hid (by obtain ⟨mm, rfl⟩ := HW.out; exact ⟨_, World.drewN_drewN _ _ _⟩)⟩
                case measure => simp [intOf]; omega
            · obtain rfl : i = k := by omega
              have HBest : Hid (IsBest ts i b) := Lib.hid ⟨hb, HM.out, HN.out⟩
              have HBr : Hid (Below w.heap.size w wr) := Lib.hid (by obtain ⟨mm, rfl⟩ := HW.out; exact below_drewN HBj.out mm)
              have y1 := HTr.out.l.cell HZL.out b hb
              have f1 := HTr.out.l.free HZL.out b
              have hzb := HZb.out b
              obtain ⟨z, hz⟩ : ∃ z, zs.getD b 0 = z := ⟨_, rfl⟩
              rw [hz] at y1 hzb
              obtain ⟨z1, z2⟩ := hzb
              have HT1 := Lib.hid (HTr.out.put HZL.out b (z + 1))
              have y2 := HT1.out.r.cell HTL.out b hb
              have f2 := HT1.out.r.free HTL.out b
              have HT2 := Lib.hid (HT1.out.swap.put HTL.out b (-1)).swap
              obtain ⟨u, hu⟩ : ∃ u, ts.getD b 0 = u := ⟨_, rfl⟩
              rw [hu] at y2
              have hd1 : w.heap.size ≤ d1 := (World.ownsRow.lt HTr.out.l d1 rfl).1
              have hd2 : w.heap.size ≤ d2 := (World.ownsRow.lt HTr.out.r d2 rfl).1
              have hjl : j < i := by omega
              have HB2 : Hid (Below w.heap.size w ((wr.setCell ⟨d1, b, none⟩ (.int .i64 (z + 1))).setCell ⟨d2, b, none⟩ (.int .i64 (-1)))) := Lib.hid ((HBr.out.setCell (p := ⟨d1, b, none⟩) hd1 _).setCell (p := ⟨d2, b, none⟩) hd2 _)
              have HG2 : Hid (∀ g, Prm 0 i id g → Srt (keyOf (reS A T xs)) 0 i g → zs.set b (z + 1) = bump (shS A T xs) g (j + 1) ∧ ts.set b (-1) = rest (reS A T xs) g (j + 1)) := Lib.hid fun g hp hs => by
                obtain ⟨g1, g2⟩ := HG.out g hp hs
                have hbb : b = g j := best_is hp hs (by rw [re_len]; exact hl.out) (fun x => (getD_bd (reS A T xs) T (by omega) (fun y hy => by
                  obtain ⟨x, hx, rfl⟩ := List.mem_map.1 hy
                  have h1 := Int.emod_nonneg (A * x) (show T ≠ 0 by omega)
                  have h2 := Int.emod_lt_of_pos (A * x) hT
                  omega) x).1) hjl (by rw [← g2]; exact HBest.out)
                simp only [bump, rest]
                rw [← g1, ← g2, ← hbb, hz]
                exact ⟨rfl, rfl⟩
              have HZ2 : Hid (∀ x, 0 ≤ (zs.set b (z + 1)).getD x 0 ∧ (zs.set b (z + 1)).getD x 0 ≤ 1000000000 + (j + 1 : Nat)) := Lib.hid fun x => by
                have := HZb.out x
                rw [getD_set]
                split <;> omega
              have HTb2 : Hid (∀ x, -1 ≤ (ts.set b (-1)).getD x 0 ∧ (ts.set b (-1)).getD x 0 ≤ 130000000000) := Lib.hid fun x => by
                have := HTb.out x
                rw [getD_set]
                split <;> omega
              clear hz hu hlt2 hi
              go_wp2_with fail
              go_roundw
              case rel => exact ⟨j + 1, zs.set b (z + 1), ts.set b (-1), by omega, by first | go_num | (congr 1; omega), by rw [List.length_set]; exact HZL.out, by rw [List.length_set]; exact HTL.out, HT2, HZ2, HTb2, HG2, HB2⟩
              case measure => simp [intOf]; omega
        · have hLj : L = (j : Int) := by omega
          have HLj := Lib.hid hLj
          clear hLj
          go_wp2_with fail
          go_ret
          refine ⟨d1, c1, zs, rfl, HTj.out.l, HZL.out, HBj.out, fun g hp hs => ?_⟩
          rw [HTE.out] at hs ⊢
          rw [HLE2.out, HLj.out]
          exact (HG.out g hp hs).1

end Go.Proofs.Ytalfbhkgjfkneaa
