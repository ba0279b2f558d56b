/- Merged: Tcy. -/
import Derived.Test.YtpphiekbhikadaaTa20
import Derived.Test.YtpphiekbhikadaaTa21

/- Tontines: the exact laws on BuryMembers and PayIncome. (Written by wip/gen/tcy.py.) -/
namespace Go.Proofs.Ytpphiekbhikadaa
open Go.ChangeShapes Go.WideShapes Go.ChangeAt Go.RowKit
set_option linter.unusedVariables false
set_option maxRecDepth 100000

/-- a list that a law has copied -/
def TiPost (xs : List Int) (l : Nat) (w : World) (e : Ending) (w' : World) : Prop := ∃ B, e = .returned (.slice (some ⟨B, 0, none⟩) l l) ∧ TbL w.heap.size w' (some ⟨B, 0, none⟩) l xs ∧ Below w.heap.size w w'

theorem toL_any (xs : List Int) (a : Option Addr) (l c : Nat) (w : World) (h : Ints w a l xs) (hl : l ≤ 1048576) : Calls Try.prog 28 #[.slice a l c] w (TiPost xs l w) :=
  (toS_any xs a l c w h hl).mono fun e w' ⟨he, hk, _, hb⟩ => ⟨_, he, blk_tl hk h.len hl (Nat.le_refl _), hb⟩

theorem eqL_any (xs : List Int) (a b : Option Addr) (l m c d : Nat) (w : World) (h : Ints w a l xs) (g : Ints w b m xs) : Calls Try.prog 30 #[.slice a l c, .slice b m d] w fun e w' => e = .returned (.bool true) ∧ Below w.heap.size w w' :=
  (eqS_any xs xs a b l m c d w h g).mono fun e w' ⟨he, n, hn⟩ => ⟨by rw [he]; simp, by rw [hn]; exact below_drewN (Below.refl _ _) n⟩

theorem heldL_any (a : Option Addr) (l c : Nat) (q : Int) (w : World) (h : Ints w a l (marks q l)) (hl : l ≤ 1048576) (q0 : 0 ≤ q) (q1 : q ≤ 1099511627776) : Calls Try.prog 34 #[.slice a l c, .int .i64 q] w fun e w' => e = .returned (.int .i64 (q + l)) ∧ Below w.heap.size w w' :=
  (held_any a l c q w h hl q0 q1).mono fun e w' ⟨he, hw⟩ => ⟨he, by rw [← hw]; exact Below.refl _ _⟩

theorem LW.add3 {w W W' : World} {bs : List (Nat × List Value)} {ls : List (Option Addr × Nat × List Int)} (h : LW w bs ls W) (hb : Below W.heap.size W W') {a b y : Option Addr} {n m k : Nat} {xs ys zs : List Int} (ht : TbL W.heap.size W' a n xs) (hu : TbL W.heap.size W' b m ys) (hv : TbL W.heap.size W' y k zs) (hab : Aprt a b ∧ Aprt a y ∧ Aprt b y) :
    LW w bs ((a, n, xs) :: (b, m, ys) :: (y, k, zs) :: ls) W' := by
  have q := h.add2 hb hu hv hab.2.2
  refine ⟨q.bx, fun r hr => ?_, List.pairwise_cons.2 ⟨fun r hr x z hx hz => ?_, q.ap⟩, fun p hp r hr x hx => ?_, q.low⟩
  · rcases List.mem_cons.1 hr with rfl | hr
    · exact ht.mono h.low.size
    · exact q.tl r hr
  · rcases List.mem_cons.1 hr with rfl | hr
    · exact hab.1 x z hx hz
    · rcases List.mem_cons.1 hr with rfl | hr
      · exact hab.2.1 x z hx hz
      · have h1 := (ht.far x hx).1
        have h2 := ((h.tl r hr).far z hz).2
        omega
  · rcases List.mem_cons.1 hr with rfl | hr
    · have h1 := (ht.far x hx).1
      have h2 := (h.bx p hp).2.lt
      omega
    · exact q.ab p hp r hr x hx

theorem lw_apart {w W : World} {bs : List (Nat × List Value)} {pre post : List (Option Addr × Nat × List Int)} {a b : Option Addr} {n m : Nat} {ys us : List Int} (h : LW w bs (pre ++ (a, n, ys) :: (b, m, us) :: post) W) : Aprt a b := by
  have hap := h.ap
  rw [List.pairwise_append, List.pairwise_cons] at hap
  exact hap.2.1.1 (b, m, us) (List.mem_cons_self ..)

set_option maxHeartbeats 4000000 in
theorem fnExactBuryMembers_walk (a0 : Option Addr) (len0 cap0 : Nat) (z0 : List Int) (b0 : Option Addr) (m0 e0 : Nat) (y0 : List Int) (ch0 : Int) (a1 : Option Addr) (len1 cap1 : Nat) (z1 : List Int) (w : World) (w0 : IsRow .i64 w a0 len0 cap0 z0) (u0 : IsRow .i64 w b0 m0 e0 y0) (w1 : IsRow .i64 w a1 len1 cap1 z1) :
    Calls Try.prog 6 #[.agg #[.slice a0 len0 cap0, .slice b0 m0 e0, .int .i64 ch0], .slice a1 len1 cap1] w fun e w' => e = .returned (.bool true) ∧ Below w.heap.size w w' := by
  have hmx := w0.len_le
  have hmy := u0.len_le
  have hmz := w1.len_le
  unfold maxLen at hmx hmy hmz
  by_cases hbm : (1048576 : Int) < len1
  · go_enter Try.func6, Try.ntmps6
    go_wp2_with fail
    go_ret
    exact ⟨rfl, box_b _ _⟩
  by_cases hbig : (1048576 : Int) < len0 + m0
  · go_enter Try.func6, Try.ntmps6
    go_wp2_with fail
    refine (szC_big _ _ _ _ _ _ _ _ _ (by omega) (by omega) (by omega) (by omega) hbig).mono ?_
    rintro e w1 ⟨rfl, hb⟩
    obtain ⟨hB, hx⟩ := bx3T hb
    have HB := Lib.hid hB
    clear hb hB hx
    go_wp2_with fail
    go_ret
    exact ⟨rfl, HB.out⟩
  · have h0 := w0.ints (by omega)
    have g0 := u0.ints (by omega)
    obtain ⟨sh, hsh⟩ : ∃ xs, z0.take len0 = xs := ⟨_, rfl⟩
    obtain ⟨de, hde⟩ : ∃ xs, y0.take m0 = xs := ⟨_, rfl⟩
    rw [hsh] at h0
    rw [hde] at g0
    have H := Lib.hid h0
    have GG := Lib.hid g0
    have hl1 : len0 ≤ 1048576 := by omega
    have hm1 : m0 ≤ 1048576 := by omega
    have hfit : (len0 : Int) + m0 ≤ 1048576 := by omega
    have hp : ¬ (1048576 : Int) - len0 - m0 < 0 := by omega
    have L0 := (LW.start w).box [.slice a0 len0 cap0, .slice b0 m0 e0, .int .i64 ch0] 41
    obtain ⟨p0_0, p0_1, p0_2⟩ := L0.c3 (.head _)
    have HL := Lib.hid L0
    clear h0 g0 w0 u0 hsh hde hbig hmx hmy L0
    have f0 := w1.ints (by omega)
    obtain ⟨ms, hms⟩ : ∃ xs, z1.take len1 = xs := ⟨_, rfl⟩
    rw [hms] at f0
    have F := Lib.hid f0
    have hn1 : len1 ≤ 1048576 := by omega
    clear f0 w1 hms hmz hbm
    obtain ⟨S1, hS1⟩ : ∃ y_, bmS sh de ch0 ms = y_ := ⟨_, rfl⟩
    obtain ⟨S2, hS2⟩ : ∃ y_, bmD sh de ch0 ms = y_ := ⟨_, rfl⟩
    obtain ⟨S3, hS3⟩ : ∃ y_, bmC sh de ch0 ms = y_ := ⟨_, rfl⟩
    obtain ⟨S5, hS5⟩ : ∃ y_, bmE sh de ch0 ms = y_ := ⟨_, rfl⟩
    have CS : Hid (∀ (a x y : Option Addr) (l c n d m k : Nat) (W : World), Ints W a l sh → Ints W x n de → Ints W y m ms → Calls Try.prog 27 #[.agg #[.slice a l c, .slice x n d, .int .i64 ch0], .slice y m k] W (CEPost S1 S2 S3 S5 W)) := Lib.hid (fun a x y l c n d m k W h1 h2 h3 => by rw [← hS1, ← hS2, ← hS3, ← hS5]; exact tbS_any sh de ms a x y l c n d m k ch0 W h1 h2 h3)
    have CI : Hid (∀ (a x y : Option Addr) (l c n d m k : Nat) (W : World), Ints W a l sh → Ints W x n de → Ints W y m ms → Calls Try.prog 29 #[.agg #[.slice a l c, .slice x n d, .int .i64 ch0], .slice y m k] W (CEPost S1 S2 S3 S5 W)) := Lib.hid (fun a x y l c n d m k W h1 h2 h3 => by rw [← hS1, ← hS2, ← hS3, ← hS5]; exact tbm_any sh de ms a x y l c n d m k ch0 W h1 h2 h3)
    clear hS1 hS2 hS3 hS5
    unfold CEPost at CS CI
    go_enter Try.func6, Try.ntmps6
    go_wp2_with fail
    refine (szC_fit _ _ len0 cap0 m0 e0 ch0 1048576 _ (by omega) hfit).mono ?_
    rintro e w1 ⟨rfl, hb⟩
    have HL := Lib.hid (HL.out.on hb)
    clear hb
    obtain ⟨p0_0, p0_1, p0_2⟩ := HL.out.c3 (.head _)
    go_wp2_with fail
    refine (toC_any sh de _ _ len0 cap0 m0 e0 ch0 _ (H.out.on HL.out.low) (GG.out.on HL.out.low) hl1 hm1).mono ?_
    rintro e w2 ⟨B1, C1, rfl, t1, u1, ne1, hb⟩
    have HL := Lib.hid (HL.out.add2 hb t1 u1 (fun x y hx hy => by cases hx; cases hy; exact ne1))
    clear hb t1 u1 ne1
    go_wp2_with fail
    refine (toL_any ms _ len1 cap1 _ (F.out.on HL.out.low) hn1).mono ?_
    rintro e w3 ⟨M2, rfl, t1, hb⟩
    have HL := Lib.hid (HL.out.add hb t1)
    clear hb t1
    obtain ⟨p0_0, p0_1, p0_2⟩ := HL.out.c3 (.head _)
    go_wp2_with fail
    refine (CS.out _ _ _ len0 len0 m0 m0 len1 len1 _ ((HL.out.tl _ (.tail _ (.head _))).ints) ((HL.out.tl _ (.tail _ (.tail _ (.head _)))).ints) ((HL.out.tl _ (.head _)).ints)).mono ?_
    rintro e w4 ⟨sa, sn, sc, sb, sm, sd, rfl, t1, t2, hab, hb⟩
    have hBs : sn ≤ 4096 ∧ sm ≤ 4096 := ⟨t1.2.1, t2.2.1⟩
    have HL := Lib.hid (HL.out.add2 hb (tl_of t1) (tl_of t2) hab)
    clear hb t1 t2 hab
    have HL := Lib.hid (HL.out.drop (ls' := [(sa, sn, S1), (sb, sm, S2)]) (List.Sublist.refl _) (.cons_cons _ (.cons_cons _ (.cons _ (.cons _ (.cons _ (.slnil)))))))
    have HL := Lib.hid (HL.out.box [.slice sa sn sc, .slice sb sm sd, .int .i64 S3] 26)
    obtain ⟨p1_0, p1_1, p1_2⟩ := HL.out.c3 (.tail _ (.head _))
    go_wp2_with fail
    refine (toC_any sh de _ _ len0 cap0 m0 e0 ch0 _ (H.out.on HL.out.low) (GG.out.on HL.out.low) hl1 hm1).mono ?_
    rintro e w5 ⟨Bx, Cx, rfl, t1, u1, ne1, hb⟩
    have HL := Lib.hid (HL.out.add2 hb t1 u1 (fun x y hx hy => by cases hx; cases hy; exact ne1))
    clear hb t1 u1 ne1
    have HL := Lib.hid (HL.out.box [.slice (some ⟨Bx, 0, none⟩) len0 len0, .slice (some ⟨Cx, 0, none⟩) m0 m0, .int .i64 ch0] 26)
    go_wp2_with fail
    refine (toL_any ms _ len1 cap1 _ (F.out.on HL.out.low) hn1).mono ?_
    rintro e w6 ⟨Mx, rfl, t1, hb⟩
    have HL := Lib.hid (HL.out.add hb t1)
    clear hb t1
    obtain ⟨p0_0, p0_1, p0_2⟩ := HL.out.c3 (.head _)
    obtain ⟨p2_0, p2_1, p2_2⟩ := HL.out.c3 (.tail _ (.tail _ (.head _)))
    go_wp2_with fail
    refine (CI.out _ _ _ len0 len0 m0 m0 len1 len1 _ ((HL.out.tl _ (.tail _ (.head _))).ints) ((HL.out.tl _ (.tail _ (.tail _ (.head _)))).ints) ((HL.out.tl _ (.head _)).ints)).mono ?_
    rintro e w7 ⟨ga, gn, gc, gb, gm, gd, rfl, t1, t2, hab, hb⟩
    have hBg : gn ≤ 4096 ∧ gm ≤ 4096 := ⟨t1.2.1, t2.2.1⟩
    have HL := Lib.hid (HL.out.add2 hb (tl_of t1) (tl_of t2) hab)
    clear hb t1 t2 hab
    have HL := Lib.hid (HL.out.box [.slice ga gn gc, .slice gb gm gd, .int .i64 S3] 26)
    obtain ⟨p0_0, p0_1, p0_2⟩ := HL.out.c3 (.head _)
    obtain ⟨p1_0, p1_1, p1_2⟩ := HL.out.c3 (.tail _ (.head _))
    obtain ⟨p2_0, p2_1, p2_2⟩ := HL.out.c3 (.tail _ (.tail _ (.head _)))
    obtain ⟨p3_0, p3_1, p3_2⟩ := HL.out.c3 (.tail _ (.tail _ (.tail _ (.head _))))
    go_wp2_with fail
    refine (eqTc_any S1 S2 _ _ _ _ gn gc gm gd sn sc sm sd S3 _ ((HL.out.tl _ (.head _)).ints) ((HL.out.tl _ (.tail _ (.head _))).ints) ((HL.out.tl _ (.tail _ (.tail _ (.tail _ (.tail _ (.tail _ (.head _))))))).ints) ((HL.out.tl _ (.tail _ (.tail _ (.tail _ (.tail _ (.tail _ (.tail _ (.head _)))))))).ints)).mono ?_
    rintro e w8 ⟨rfl, hb⟩
    have HL := Lib.hid (HL.out.on hb)
    clear hb
    obtain ⟨p0_0, p0_1, p0_2⟩ := HL.out.c3 (.head _)
    obtain ⟨p1_0, p1_1, p1_2⟩ := HL.out.c3 (.tail _ (.head _))
    obtain ⟨p2_0, p2_1, p2_2⟩ := HL.out.c3 (.tail _ (.tail _ (.head _)))
    obtain ⟨p3_0, p3_1, p3_2⟩ := HL.out.c3 (.tail _ (.tail _ (.tail _ (.head _))))
    have HXS : Hid (∀ W, Hid (LW w [(w7.heap.size, [.slice ga gn gc, .slice gb gm gd, .int .i64 S3]), (w5.heap.size, [.slice (some ⟨Bx, 0, none⟩) len0 len0, .slice (some ⟨Cx, 0, none⟩) m0 m0, .int .i64 ch0]), (w4.heap.size, [.slice sa sn sc, .slice sb sm sd, .int .i64 S3]), (w.heap.size, [.slice a0 len0 cap0, .slice b0 m0 e0, .int .i64 ch0])] [(ga, gn, S1), (gb, gm, S2), (some ⟨Mx, 0, none⟩, len1, ms), (some ⟨Bx, 0, none⟩, len0, sh), (some ⟨Cx, 0, none⟩, m0, de), (sa, sn, S1), (sb, sm, S2)] W) → Calls Try.prog 24 #[.agg #[.slice a0 len0 cap0, .slice b0 m0 e0, .int .i64 ch0]] W (TcPost sh de len0 m0 ch0 W)) := Lib.hid (fun W hW => toC_any sh de _ _ _ _ _ _ ch0 W (H.out.on hW.out.low) (GG.out.on hW.out.low) hl1 hm1)
    have HEQ : Hid (∀ W B3 C3, Hid (LW w [(w7.heap.size, [.slice ga gn gc, .slice gb gm gd, .int .i64 S3]), (w5.heap.size, [.slice (some ⟨Bx, 0, none⟩) len0 len0, .slice (some ⟨Cx, 0, none⟩) m0 m0, .int .i64 ch0]), (w4.heap.size, [.slice sa sn sc, .slice sb sm sd, .int .i64 S3]), (w.heap.size, [.slice a0 len0 cap0, .slice b0 m0 e0, .int .i64 ch0])] [(ga, gn, S1), (gb, gm, S2), (some ⟨Mx, 0, none⟩, len1, ms), (some ⟨Bx, 0, none⟩, len0, sh), (some ⟨Cx, 0, none⟩, m0, de), (sa, sn, S1), (sb, sm, S2)] W) → Hid (Ints W (some ⟨B3, 0, none⟩) len0 sh) → Hid (Ints W (some ⟨C3, 0, none⟩) m0 de) → Calls Try.prog 25 #[.agg #[.slice (some ⟨Bx, 0, none⟩) len0 len0, .slice (some ⟨Cx, 0, none⟩) m0 m0, .int .i64 ch0], .agg #[.slice (some ⟨B3, 0, none⟩) len0 len0, .slice (some ⟨C3, 0, none⟩) m0 m0, .int .i64 ch0]] W fun e w' => e = .returned (.bool true) ∧ Below W.heap.size W w') := Lib.hid (fun W B3 C3 hW h3 h4 => eqTc_any sh de _ _ _ _ _ _ _ _ _ _ _ _ ch0 W (hW.out.tl _ (.tail _ (.tail _ (.tail _ (.head _))))).ints (hW.out.tl _ (.tail _ (.tail _ (.tail _ (.tail _ (.head _)))))).ints h3.out h4.out)
    unfold TcPost at HXS
    have HSS : Hid (∀ W, LW w [(w7.heap.size, [.slice ga gn gc, .slice gb gm gd, .int .i64 S3]), (w5.heap.size, [.slice (some ⟨Bx, 0, none⟩) len0 len0, .slice (some ⟨Cx, 0, none⟩) m0 m0, .int .i64 ch0]), (w4.heap.size, [.slice sa sn sc, .slice sb sm sd, .int .i64 S3]), (w.heap.size, [.slice a0 len0 cap0, .slice b0 m0 e0, .int .i64 ch0])] [(ga, gn, S1), (gb, gm, S2), (some ⟨Mx, 0, none⟩, len1, ms), (some ⟨Bx, 0, none⟩, len0, sh), (some ⟨Cx, 0, none⟩, m0, de), (sa, sn, S1), (sb, sm, S2)] W → W.cell? ⟨w5.heap.size, 0, none⟩ = some (.slice (some ⟨Bx, 0, none⟩) len0 len0) ∧ W.cell? ⟨w5.heap.size, 1, none⟩ = some (.slice (some ⟨Cx, 0, none⟩) m0 m0) ∧ W.cell? ⟨w5.heap.size, 2, none⟩ = some (.int .i64 ch0) ∧ W.cell? ⟨w.heap.size, 0, none⟩ = some (.slice a0 len0 cap0) ∧ W.cell? ⟨w.heap.size, 1, none⟩ = some (.slice b0 m0 e0) ∧ W.cell? ⟨w.heap.size, 2, none⟩ = some (.int .i64 ch0) ∧ Hid (LW w [(w7.heap.size, [.slice ga gn gc, .slice gb gm gd, .int .i64 S3]), (w5.heap.size, [.slice (some ⟨Bx, 0, none⟩) len0 len0, .slice (some ⟨Cx, 0, none⟩) m0 m0, .int .i64 ch0]), (w4.heap.size, [.slice sa sn sc, .slice sb sm sd, .int .i64 S3]), (w.heap.size, [.slice a0 len0 cap0, .slice b0 m0 e0, .int .i64 ch0])] [(ga, gn, S1), (gb, gm, S2), (some ⟨Mx, 0, none⟩, len1, ms), (some ⟨Bx, 0, none⟩, len0, sh), (some ⟨Cx, 0, none⟩, m0, de), (sa, sn, S1), (sb, sm, S2)] W)) := Lib.hid (fun W h => by obtain ⟨a_, b_, c_⟩ := h.c3 (.tail _ (.head _)); obtain ⟨d_, e_, f_⟩ := h.c3 (.tail _ (.tail _ (.tail _ (.head _)))); exact ⟨a_, b_, c_, d_, e_, f_, Lib.hid h⟩)
    go_wp2_with fail
    go_region_held3 (fun W9 => W9.cell? ⟨w5.heap.size, 0, none⟩ = some (.slice (some ⟨Bx, 0, none⟩) len0 len0) ∧ W9.cell? ⟨w5.heap.size, 1, none⟩ = some (.slice (some ⟨Cx, 0, none⟩) m0 m0) ∧ W9.cell? ⟨w5.heap.size, 2, none⟩ = some (.int .i64 ch0) ∧ W9.cell? ⟨w.heap.size, 0, none⟩ = some (.slice a0 len0 cap0) ∧ W9.cell? ⟨w.heap.size, 1, none⟩ = some (.slice b0 m0 e0) ∧ W9.cell? ⟨w.heap.size, 2, none⟩ = some (.int .i64 ch0) ∧ Hid (LW w [(w7.heap.size, [.slice ga gn gc, .slice gb gm gd, .int .i64 S3]), (w5.heap.size, [.slice (some ⟨Bx, 0, none⟩) len0 len0, .slice (some ⟨Cx, 0, none⟩) m0 m0, .int .i64 ch0]), (w4.heap.size, [.slice sa sn sc, .slice sb sm sd, .int .i64 S3]), (w.heap.size, [.slice a0 len0 cap0, .slice b0 m0 e0, .int .i64 ch0])] [(ga, gn, S1), (gb, gm, S2), (some ⟨Mx, 0, none⟩, len1, ms), (some ⟨Bx, 0, none⟩, len0, sh), (some ⟨Cx, 0, none⟩, m0, de), (sa, sn, S1), (sb, sm, S2)] W9))
      (first
        | (go_split_ands; with_reducible exact HSS.out _ (Hid.out (by with_reducible assumption)))
        | (go_split_ands; with_reducible exact HSS.out _ (LW.on (Hid.out (by with_reducible assumption)) hb))
        | (go_split_ands; with_reducible exact HSS.out _ (LW.drew (Hid.out (by with_reducible assumption))))
        | fail)
      (first
        | (go_split_ands; go_at_call 24; ((with_reducible refine (HXS.out _ (by with_reducible assumption)).mono ?_); rintro e w' ⟨B3, C3, rfl, t3, u3, ne3, hb⟩; have HT3 := Lib.hid t3.ints; have HU3 := Lib.hid u3.ints; clear t3 u3))
        | (go_split_ands; go_at_call 25; ((with_reducible refine (HEQ.out _ _ _ (by with_reducible assumption) (by with_reducible assumption) (by with_reducible assumption)).mono ?_); rintro e w' ⟨rfl, hb⟩))
        | fail)
    go_split_ands
    have HLF : Hid (LW w [(w7.heap.size, [.slice ga gn gc, .slice gb gm gd, .int .i64 S3]), (w5.heap.size, [.slice (some ⟨Bx, 0, none⟩) len0 len0, .slice (some ⟨Cx, 0, none⟩) m0 m0, .int .i64 ch0]), (w4.heap.size, [.slice sa sn sc, .slice sb sm sd, .int .i64 S3]), (w.heap.size, [.slice a0 len0 cap0, .slice b0 m0 e0, .int .i64 ch0])] [(ga, gn, S1), (gb, gm, S2), (some ⟨Mx, 0, none⟩, len1, ms), (some ⟨Bx, 0, none⟩, len0, sh), (some ⟨Cx, 0, none⟩, m0, de), (sa, sn, S1), (sb, sm, S2)] w') := by with_reducible assumption
    have HL := Lib.hid HLF.out
    clear HXS HEQ HSS HT3 HU3 HLF
    obtain ⟨p0_0, p0_1, p0_2⟩ := HL.out.c3 (.head _)
    obtain ⟨p1_0, p1_1, p1_2⟩ := HL.out.c3 (.tail _ (.head _))
    obtain ⟨p2_0, p2_1, p2_2⟩ := HL.out.c3 (.tail _ (.tail _ (.head _)))
    obtain ⟨p3_0, p3_1, p3_2⟩ := HL.out.c3 (.tail _ (.tail _ (.tail _ (.head _))))
    go_wp2_with fail
    refine (toL_any ms _ len1 cap1 _ (F.out.on HL.out.low) hn1).mono ?_
    rintro e w9 ⟨M9, rfl, t1, hb⟩
    have HL := Lib.hid (HL.out.add hb t1)
    clear hb t1
    obtain ⟨p0_0, p0_1, p0_2⟩ := HL.out.c3 (.head _)
    obtain ⟨p1_0, p1_1, p1_2⟩ := HL.out.c3 (.tail _ (.head _))
    obtain ⟨p2_0, p2_1, p2_2⟩ := HL.out.c3 (.tail _ (.tail _ (.head _)))
    obtain ⟨p3_0, p3_1, p3_2⟩ := HL.out.c3 (.tail _ (.tail _ (.tail _ (.head _))))
    go_wp2_with fail
    refine (eqL_any ms _ _ len1 len1 len1 len1 _ ((HL.out.tl _ (.tail _ (.tail _ (.tail _ (.head _))))).ints) ((HL.out.tl _ (.head _)).ints)).mono ?_
    rintro e w10 ⟨rfl, hb⟩
    have HL := Lib.hid (HL.out.on hb)
    clear hb
    have HL := Lib.hid (HL.out.drop (ls' := [(ga, gn, S1), (gb, gm, S2), (some ⟨Mx, 0, none⟩, len1, ms), (some ⟨Bx, 0, none⟩, len0, sh), (some ⟨Cx, 0, none⟩, m0, de), (sa, sn, S1), (sb, sm, S2)]) (List.Sublist.refl _) (.cons _ (.cons_cons _ (.cons_cons _ (.cons_cons _ (.cons_cons _ (.cons_cons _ (.cons_cons _ (.cons_cons _ (.slnil))))))))))
    obtain ⟨p0_0, p0_1, p0_2⟩ := HL.out.c3 (.head _)
    obtain ⟨p1_0, p1_1, p1_2⟩ := HL.out.c3 (.tail _ (.head _))
    obtain ⟨p2_0, p2_1, p2_2⟩ := HL.out.c3 (.tail _ (.tail _ (.head _)))
    obtain ⟨p3_0, p3_1, p3_2⟩ := HL.out.c3 (.tail _ (.tail _ (.tail _ (.head _))))
    go_wp2_with fail
    refine (markTc_any sh de w.heap.size _ _ len0 len0 m0 m0 ch0 1 _ (HL.out.tl _ (.tail _ (.tail _ (.tail _ (.head _))))) (HL.out.tl _ (.tail _ (.tail _ (.tail _ (.tail _ (.head _)))))) (lw_apart HL.out (pre := [(ga, gn, S1), (gb, gm, S2), (some ⟨Mx, 0, none⟩, len1, ms)])) (by omega) (by omega)).mono ?_
    rintro e w11 ⟨rfl, t1, t2, hb⟩
    have HL := Lib.hid (HL.out.mark2 (pre := [(ga, gn, S1), (gb, gm, S2), (some ⟨Mx, 0, none⟩, len1, ms)]) hb t1 t2)
    clear hb t1 t2
    have HL : Hid (LW w [(w7.heap.size, [.slice ga gn gc, .slice gb gm gd, .int .i64 S3]), (w5.heap.size, [.slice (some ⟨Bx, 0, none⟩) len0 len0, .slice (some ⟨Cx, 0, none⟩) m0 m0, .int .i64 ch0]), (w4.heap.size, [.slice sa sn sc, .slice sb sm sd, .int .i64 S3]), (w.heap.size, [.slice a0 len0 cap0, .slice b0 m0 e0, .int .i64 ch0])] [(ga, gn, S1), (gb, gm, S2), (some ⟨Mx, 0, none⟩, len1, ms), (some ⟨Bx, 0, none⟩, len0, marks 1 len0), (some ⟨Cx, 0, none⟩, m0, marks (1 + len0) m0), (sa, sn, S1), (sb, sm, S2)] w11) := HL
    obtain ⟨p0_0, p0_1, p0_2⟩ := HL.out.c3 (.head _)
    obtain ⟨p1_0, p1_1, p1_2⟩ := HL.out.c3 (.tail _ (.head _))
    obtain ⟨p2_0, p2_1, p2_2⟩ := HL.out.c3 (.tail _ (.tail _ (.head _)))
    obtain ⟨p3_0, p3_1, p3_2⟩ := HL.out.c3 (.tail _ (.tail _ (.tail _ (.head _))))
    go_wp2_with fail
    refine (markL_any ms w.heap.size _ len1 len1 (1 + len0 + m0) _ (HL.out.tl _ (.tail _ (.tail _ (.head _)))) (by omega) (by omega)).mono ?_
    rintro e w12 ⟨rfl, t1, hb⟩
    have HL := Lib.hid (HL.out.mark (pre := [(ga, gn, S1), (gb, gm, S2)]) hb t1)
    clear hb t1
    have HL : Hid (LW w [(w7.heap.size, [.slice ga gn gc, .slice gb gm gd, .int .i64 S3]), (w5.heap.size, [.slice (some ⟨Bx, 0, none⟩) len0 len0, .slice (some ⟨Cx, 0, none⟩) m0 m0, .int .i64 ch0]), (w4.heap.size, [.slice sa sn sc, .slice sb sm sd, .int .i64 S3]), (w.heap.size, [.slice a0 len0 cap0, .slice b0 m0 e0, .int .i64 ch0])] [(ga, gn, S1), (gb, gm, S2), (some ⟨Mx, 0, none⟩, len1, marks (1 + len0 + m0) len1), (some ⟨Bx, 0, none⟩, len0, marks 1 len0), (some ⟨Cx, 0, none⟩, m0, marks (1 + len0) m0), (sa, sn, S1), (sb, sm, S2)] w12) := HL
    obtain ⟨p0_0, p0_1, p0_2⟩ := HL.out.c3 (.head _)
    obtain ⟨p1_0, p1_1, p1_2⟩ := HL.out.c3 (.tail _ (.head _))
    obtain ⟨p2_0, p2_1, p2_2⟩ := HL.out.c3 (.tail _ (.tail _ (.head _)))
    obtain ⟨p3_0, p3_1, p3_2⟩ := HL.out.c3 (.tail _ (.tail _ (.tail _ (.head _))))
    have hk0 : ¬ (1 : Int) + len0 + m0 + len1 < 0 := by omega
    go_wp2_with fail
    refine (eqTc_any S1 S2 _ _ _ _ gn gc gm gd sn sc sm sd S3 _ ((HL.out.tl _ (.head _)).ints) ((HL.out.tl _ (.tail _ (.head _))).ints) ((HL.out.tl _ (.tail _ (.tail _ (.tail _ (.tail _ (.tail _ (.head _))))))).ints) ((HL.out.tl _ (.tail _ (.tail _ (.tail _ (.tail _ (.tail _ (.tail _ (.head _)))))))).ints)).mono ?_
    rintro e w13 ⟨rfl, hb⟩
    have HL := Lib.hid (HL.out.on hb)
    clear hb
    obtain ⟨p0_0, p0_1, p0_2⟩ := HL.out.c3 (.head _)
    obtain ⟨p1_0, p1_1, p1_2⟩ := HL.out.c3 (.tail _ (.head _))
    obtain ⟨p2_0, p2_1, p2_2⟩ := HL.out.c3 (.tail _ (.tail _ (.head _)))
    obtain ⟨p3_0, p3_1, p3_2⟩ := HL.out.c3 (.tail _ (.tail _ (.tail _ (.head _))))
    go_wp2_with fail
    refine (markTc_any S1 S2 w.heap.size _ _ gn gc gm gd S3 1 _ (HL.out.tl _ (.head _)) (HL.out.tl _ (.tail _ (.head _))) (lw_apart HL.out (pre := [])) (by omega) (by omega)).mono ?_
    rintro e w14 ⟨rfl, t1, t2, hb⟩
    have HL := Lib.hid (HL.out.mark2 (pre := []) hb t1 t2)
    clear hb t1 t2
    have HL : Hid (LW w [(w7.heap.size, [.slice ga gn gc, .slice gb gm gd, .int .i64 S3]), (w5.heap.size, [.slice (some ⟨Bx, 0, none⟩) len0 len0, .slice (some ⟨Cx, 0, none⟩) m0 m0, .int .i64 ch0]), (w4.heap.size, [.slice sa sn sc, .slice sb sm sd, .int .i64 S3]), (w.heap.size, [.slice a0 len0 cap0, .slice b0 m0 e0, .int .i64 ch0])] [(ga, gn, marks 1 gn), (gb, gm, marks (1 + gn) gm), (some ⟨Mx, 0, none⟩, len1, marks (1 + len0 + m0) len1), (some ⟨Bx, 0, none⟩, len0, marks 1 len0), (some ⟨Cx, 0, none⟩, m0, marks (1 + len0) m0), (sa, sn, S1), (sb, sm, S2)] w14) := HL
    obtain ⟨p0_0, p0_1, p0_2⟩ := HL.out.c3 (.head _)
    obtain ⟨p1_0, p1_1, p1_2⟩ := HL.out.c3 (.tail _ (.head _))
    obtain ⟨p2_0, p2_1, p2_2⟩ := HL.out.c3 (.tail _ (.tail _ (.head _)))
    obtain ⟨p3_0, p3_1, p3_2⟩ := HL.out.c3 (.tail _ (.tail _ (.tail _ (.head _))))
    have hg0 : ¬ (1 : Int) + gn + gm < 0 := by omega
    go_wp2_with fail
    refine (heldTc_any _ _ gn gc gm gd S3 1 _ ((HL.out.tl _ (.head _)).ints) ((HL.out.tl _ (.tail _ (.head _))).ints) (by omega) (by omega) (by omega) (by omega)).mono ?_
    rintro e w15 ⟨rfl, hb⟩
    have HL := Lib.hid (HL.out.on hb)
    clear hb
    obtain ⟨p0_0, p0_1, p0_2⟩ := HL.out.c3 (.head _)
    obtain ⟨p1_0, p1_1, p1_2⟩ := HL.out.c3 (.tail _ (.head _))
    obtain ⟨p2_0, p2_1, p2_2⟩ := HL.out.c3 (.tail _ (.tail _ (.head _)))
    obtain ⟨p3_0, p3_1, p3_2⟩ := HL.out.c3 (.tail _ (.tail _ (.tail _ (.head _))))
    go_wp2_with fail
    refine (toC_any sh de _ _ len0 cap0 m0 e0 ch0 _ (H.out.on HL.out.low) (GG.out.on HL.out.low) hl1 hm1).mono ?_
    rintro e w16 ⟨B15, C15, rfl, t1, u1, ne1, hb⟩
    have HL := Lib.hid (HL.out.add2 hb t1 u1 (fun x y hx hy => by cases hx; cases hy; exact ne1))
    clear hb t1 u1 ne1
    go_wp2_with fail
    refine (toL_any ms _ len1 cap1 _ (F.out.on HL.out.low) hn1).mono ?_
    rintro e w17 ⟨M16, rfl, t1, hb⟩
    have HL := Lib.hid (HL.out.add hb t1)
    clear hb t1
    obtain ⟨p0_0, p0_1, p0_2⟩ := HL.out.c3 (.head _)
    obtain ⟨p1_0, p1_1, p1_2⟩ := HL.out.c3 (.tail _ (.head _))
    obtain ⟨p2_0, p2_1, p2_2⟩ := HL.out.c3 (.tail _ (.tail _ (.head _)))
    obtain ⟨p3_0, p3_1, p3_2⟩ := HL.out.c3 (.tail _ (.tail _ (.tail _ (.head _))))
    go_wp2_with fail
    refine (CI.out _ _ _ len0 len0 m0 m0 len1 len1 _ ((HL.out.tl _ (.tail _ (.head _))).ints) ((HL.out.tl _ (.tail _ (.tail _ (.head _)))).ints) ((HL.out.tl _ (.head _)).ints)).mono ?_
    rintro e w18 ⟨ha, hn, hc, hB9, hm, hd, rfl, t1, t2, hab, hb⟩
    have hBh : hn ≤ 4096 ∧ hm ≤ 4096 := ⟨t1.2.1, t2.2.1⟩
    have HL := Lib.hid (HL.out.add2 hb (tl_of t1) (tl_of t2) hab)
    clear hb t1 t2 hab
    have HL := Lib.hid (HL.out.box [.slice ha hn hc, .slice hB9 hm hd, .int .i64 S3] 26)
    obtain ⟨p0_0, p0_1, p0_2⟩ := HL.out.c3 (.head _)
    obtain ⟨p1_0, p1_1, p1_2⟩ := HL.out.c3 (.tail _ (.head _))
    obtain ⟨p2_0, p2_1, p2_2⟩ := HL.out.c3 (.tail _ (.tail _ (.head _)))
    obtain ⟨p3_0, p3_1, p3_2⟩ := HL.out.c3 (.tail _ (.tail _ (.tail _ (.head _))))
    obtain ⟨p4_0, p4_1, p4_2⟩ := HL.out.c3 (.tail _ (.tail _ (.tail _ (.tail _ (.head _)))))
    go_wp2_with fail
    refine (eqTc_any S1 S2 _ _ _ _ hn hc hm hd sn sc sm sd S3 _ ((HL.out.tl _ (.head _)).ints) ((HL.out.tl _ (.tail _ (.head _))).ints) ((HL.out.tl _ (.tail _ (.tail _ (.tail _ (.tail _ (.tail _ (.tail _ (.tail _ (.tail _ (.tail _ (.tail _ (.head _)))))))))))).ints) ((HL.out.tl _ (.tail _ (.tail _ (.tail _ (.tail _ (.tail _ (.tail _ (.tail _ (.tail _ (.tail _ (.tail _ (.tail _ (.head _))))))))))))).ints)).mono ?_
    rintro e w19 ⟨rfl, hb⟩
    have HL := Lib.hid (HL.out.on hb)
    clear hb
    obtain ⟨p0_0, p0_1, p0_2⟩ := HL.out.c3 (.head _)
    obtain ⟨p1_0, p1_1, p1_2⟩ := HL.out.c3 (.tail _ (.head _))
    obtain ⟨p2_0, p2_1, p2_2⟩ := HL.out.c3 (.tail _ (.tail _ (.head _)))
    obtain ⟨p3_0, p3_1, p3_2⟩ := HL.out.c3 (.tail _ (.tail _ (.tail _ (.head _))))
    obtain ⟨p4_0, p4_1, p4_2⟩ := HL.out.c3 (.tail _ (.tail _ (.tail _ (.tail _ (.head _)))))
    go_wp2_with fail
    refine (heldTc_any _ _ gn gc gm gd S3 1 _ ((HL.out.tl _ (.tail _ (.tail _ (.tail _ (.tail _ (.tail _ (.head _))))))).ints) ((HL.out.tl _ (.tail _ (.tail _ (.tail _ (.tail _ (.tail _ (.tail _ (.head _)))))))).ints) (by omega) (by omega) (by omega) (by omega)).mono ?_
    rintro e w20 ⟨rfl, hb⟩
    have HL := Lib.hid (HL.out.on hb)
    clear hb
    obtain ⟨p0_0, p0_1, p0_2⟩ := HL.out.c3 (.head _)
    obtain ⟨p1_0, p1_1, p1_2⟩ := HL.out.c3 (.tail _ (.head _))
    obtain ⟨p2_0, p2_1, p2_2⟩ := HL.out.c3 (.tail _ (.tail _ (.head _)))
    obtain ⟨p3_0, p3_1, p3_2⟩ := HL.out.c3 (.tail _ (.tail _ (.tail _ (.head _))))
    obtain ⟨p4_0, p4_1, p4_2⟩ := HL.out.c3 (.tail _ (.tail _ (.tail _ (.tail _ (.head _)))))
    go_wp2_with fail
    go_ret
    exact ⟨rfl, HL.out.low⟩
    
set_option maxHeartbeats 4000000 in
theorem fnExactPayIncome_walk (a0 : Option Addr) (len0 cap0 : Nat) (z0 : List Int) (b0 : Option Addr) (m0 e0 : Nat) (y0 : List Int) (ch0 : Int) (a1 : Int) (w : World) (w0 : IsRow .i64 w a0 len0 cap0 z0) (u0 : IsRow .i64 w b0 m0 e0 y0) (w1 : (Lit.int .i64 a1).wf = true) :
    Calls Try.prog 7 #[.agg #[.slice a0 len0 cap0, .slice b0 m0 e0, .int .i64 ch0], .int .i64 a1] w fun e w' => e = .returned (.bool true) ∧ Below w.heap.size w w' := by
  have hmx := w0.len_le
  have hmy := u0.len_le
  unfold maxLen at hmx hmy
  clear w1
  by_cases hbig : (1048576 : Int) < len0 + m0
  · go_enter Try.func7, Try.ntmps7
    go_wp2_with fail
    refine (szC_big _ _ _ _ _ _ _ _ _ (by omega) (by omega) (by omega) (by omega) hbig).mono ?_
    rintro e w1 ⟨rfl, hb⟩
    obtain ⟨hB, hx⟩ := bx3T hb
    have HB := Lib.hid hB
    clear hb hB hx
    go_wp2_with fail
    go_ret
    exact ⟨rfl, HB.out⟩
  · have h0 := w0.ints (by omega)
    have g0 := u0.ints (by omega)
    obtain ⟨sh, hsh⟩ : ∃ xs, z0.take len0 = xs := ⟨_, rfl⟩
    obtain ⟨de, hde⟩ : ∃ xs, y0.take m0 = xs := ⟨_, rfl⟩
    rw [hsh] at h0
    rw [hde] at g0
    have H := Lib.hid h0
    have GG := Lib.hid g0
    have hl1 : len0 ≤ 1048576 := by omega
    have hm1 : m0 ≤ 1048576 := by omega
    have hfit : (len0 : Int) + m0 ≤ 1048576 := by omega
    have hp : ¬ (1048576 : Int) - len0 - m0 < 0 := by omega
    have L0 := (LW.start w).box [.slice a0 len0 cap0, .slice b0 m0 e0, .int .i64 ch0] 41
    obtain ⟨p0_0, p0_1, p0_2⟩ := L0.c3 (.head _)
    have HL := Lib.hid L0
    clear h0 g0 w0 u0 hsh hde hbig hmx hmy L0
    obtain ⟨S1, hS1⟩ : ∃ y_, rcS sh de ch0 [a1] [[]] = y_ := ⟨_, rfl⟩
    obtain ⟨S2, hS2⟩ : ∃ y_, rcD sh de ch0 [a1] [[]] = y_ := ⟨_, rfl⟩
    obtain ⟨S3, hS3⟩ : ∃ y_, (rcT sh de ch0 [a1] [[]]).ch = y_ := ⟨_, rfl⟩
    obtain ⟨S4, hS4⟩ : ∃ y_, (rcT sh de ch0 [a1] [[]]).Pd = y_ := ⟨_, rfl⟩
    obtain ⟨S5, hS5⟩ : ∃ y_, rcE sh de ch0 [a1] [[]] = y_ := ⟨_, rfl⟩
    have CS : Hid (∀ (a x : Option Addr) (l c n d : Nat) (W : World), Ints W a l sh → Ints W x n de → Calls Try.prog 16 #[.agg #[.slice a l c, .slice x n d, .int .i64 ch0], .int .i64 a1] W (CPPost S1 S2 S3 S4 S5 W)) := Lib.hid (fun a x l c n d W h1 h2 => by rw [← hS1, ← hS2, ← hS3, ← hS4, ← hS5]; exact tpS_any sh de a x l c n d ch0 a1 W h1 h2)
    have CI : Hid (∀ (a x : Option Addr) (l c n d : Nat) (W : World), Ints W a l sh → Ints W x n de → Calls Try.prog 15 #[.agg #[.slice a l c, .slice x n d, .int .i64 ch0], .int .i64 a1] W (CPPost S1 S2 S3 S4 S5 W)) := Lib.hid (fun a x l c n d W h1 h2 => by rw [← hS1, ← hS2, ← hS3, ← hS4, ← hS5]; exact tpi_any sh de a x l c n d ch0 a1 W h1 h2)
    clear hS1 hS2 hS3 hS4 hS5
    unfold CPPost at CS CI
    go_enter Try.func7, Try.ntmps7
    go_wp2_with fail
    refine (szC_fit _ _ len0 cap0 m0 e0 ch0 1048576 _ (by omega) hfit).mono ?_
    rintro e w1 ⟨rfl, hb⟩
    have HL := Lib.hid (HL.out.on hb)
    clear hb
    obtain ⟨p0_0, p0_1, p0_2⟩ := HL.out.c3 (.head _)
    go_wp2_with fail
    refine (toC_any sh de _ _ len0 cap0 m0 e0 ch0 _ (H.out.on HL.out.low) (GG.out.on HL.out.low) hl1 hm1).mono ?_
    rintro e w2 ⟨B1, C1, rfl, t1, u1, ne1, hb⟩
    have HL := Lib.hid (HL.out.add2 hb t1 u1 (fun x y hx hy => by cases hx; cases hy; exact ne1))
    clear hb t1 u1 ne1
    obtain ⟨p0_0, p0_1, p0_2⟩ := HL.out.c3 (.head _)
    go_wp2_with fail
    refine (CS.out _ _ len0 len0 m0 m0 _ ((HL.out.tl _ (.head _)).ints) ((HL.out.tl _ (.tail _ (.head _))).ints)).mono ?_
    rintro e w3 ⟨sa, sn, sc, sb, sm, sd, sy, sk, sq, rfl, t1, t2, t3, hab, hb⟩
    have hBs : sn ≤ 4096 ∧ sm ≤ 4096 ∧ sk ≤ 4096 := ⟨t1.2.1, t2.2.1, t3.2.1⟩
    have HL := Lib.hid (HL.out.add3 hb (tl_of t1) (tl_of t2) (tl_of t3) hab)
    clear hb t1 t2 t3 hab
    have HL := Lib.hid (HL.out.drop (ls' := [(sa, sn, S1), (sb, sm, S2), (sy, sk, S4)]) (List.Sublist.refl _) (.cons_cons _ (.cons_cons _ (.cons_cons _ (.cons _ (.cons _ (.slnil)))))))
    have HL := Lib.hid (HL.out.box [.slice sa sn sc, .slice sb sm sd, .int .i64 S3] 26)
    obtain ⟨p1_0, p1_1, p1_2⟩ := HL.out.c3 (.tail _ (.head _))
    go_wp2_with fail
    refine (toC_any sh de _ _ len0 cap0 m0 e0 ch0 _ (H.out.on HL.out.low) (GG.out.on HL.out.low) hl1 hm1).mono ?_
    rintro e w4 ⟨Bx, Cx, rfl, t1, u1, ne1, hb⟩
    have HL := Lib.hid (HL.out.add2 hb t1 u1 (fun x y hx hy => by cases hx; cases hy; exact ne1))
    clear hb t1 u1 ne1
    have HL := Lib.hid (HL.out.box [.slice (some ⟨Bx, 0, none⟩) len0 len0, .slice (some ⟨Cx, 0, none⟩) m0 m0, .int .i64 ch0] 26)
    obtain ⟨p0_0, p0_1, p0_2⟩ := HL.out.c3 (.head _)
    obtain ⟨p2_0, p2_1, p2_2⟩ := HL.out.c3 (.tail _ (.tail _ (.head _)))
    go_wp2_with fail
    refine (CI.out _ _ len0 len0 m0 m0 _ ((HL.out.tl _ (.head _)).ints) ((HL.out.tl _ (.tail _ (.head _))).ints)).mono ?_
    rintro e w5 ⟨ga, gn, gc, gb, gm, gd, gy, gk, gq, rfl, t1, t2, t3, hab, hb⟩
    have hBg : gn ≤ 4096 ∧ gm ≤ 4096 ∧ gk ≤ 4096 := ⟨t1.2.1, t2.2.1, t3.2.1⟩
    have HL := Lib.hid (HL.out.add3 hb (tl_of t1) (tl_of t2) (tl_of t3) hab)
    clear hb t1 t2 t3 hab
    have HL := Lib.hid (HL.out.box [.slice ga gn gc, .slice gb gm gd, .int .i64 S3] 26)
    obtain ⟨p0_0, p0_1, p0_2⟩ := HL.out.c3 (.head _)
    obtain ⟨p1_0, p1_1, p1_2⟩ := HL.out.c3 (.tail _ (.head _))
    obtain ⟨p2_0, p2_1, p2_2⟩ := HL.out.c3 (.tail _ (.tail _ (.head _)))
    obtain ⟨p3_0, p3_1, p3_2⟩ := HL.out.c3 (.tail _ (.tail _ (.tail _ (.head _))))
    go_wp2_with fail
    refine (eqTc_any S1 S2 _ _ _ _ gn gc gm gd sn sc sm sd S3 _ ((HL.out.tl _ (.head _)).ints) ((HL.out.tl _ (.tail _ (.head _))).ints) ((HL.out.tl _ (.tail _ (.tail _ (.tail _ (.tail _ (.tail _ (.head _))))))).ints) ((HL.out.tl _ (.tail _ (.tail _ (.tail _ (.tail _ (.tail _ (.tail _ (.head _)))))))).ints)).mono ?_
    rintro e w6 ⟨rfl, hb⟩
    have HL := Lib.hid (HL.out.on hb)
    clear hb
    obtain ⟨p0_0, p0_1, p0_2⟩ := HL.out.c3 (.head _)
    obtain ⟨p1_0, p1_1, p1_2⟩ := HL.out.c3 (.tail _ (.head _))
    obtain ⟨p2_0, p2_1, p2_2⟩ := HL.out.c3 (.tail _ (.tail _ (.head _)))
    obtain ⟨p3_0, p3_1, p3_2⟩ := HL.out.c3 (.tail _ (.tail _ (.tail _ (.head _))))
    go_wp2_with fail
    refine (eqL_any S4 _ _ gk sk gq sq _ ((HL.out.tl _ (.tail _ (.tail _ (.head _)))).ints) ((HL.out.tl _ (.tail _ (.tail _ (.tail _ (.tail _ (.tail _ (.tail _ (.tail _ (.head _))))))))).ints)).mono ?_
    rintro e w7 ⟨rfl, hb⟩
    have HL := Lib.hid (HL.out.on hb)
    clear hb
    obtain ⟨p0_0, p0_1, p0_2⟩ := HL.out.c3 (.head _)
    obtain ⟨p1_0, p1_1, p1_2⟩ := HL.out.c3 (.tail _ (.head _))
    obtain ⟨p2_0, p2_1, p2_2⟩ := HL.out.c3 (.tail _ (.tail _ (.head _)))
    obtain ⟨p3_0, p3_1, p3_2⟩ := HL.out.c3 (.tail _ (.tail _ (.tail _ (.head _))))
    have HXS : Hid (∀ W, Hid (LW w [(w5.heap.size, [.slice ga gn gc, .slice gb gm gd, .int .i64 S3]), (w4.heap.size, [.slice (some ⟨Bx, 0, none⟩) len0 len0, .slice (some ⟨Cx, 0, none⟩) m0 m0, .int .i64 ch0]), (w3.heap.size, [.slice sa sn sc, .slice sb sm sd, .int .i64 S3]), (w.heap.size, [.slice a0 len0 cap0, .slice b0 m0 e0, .int .i64 ch0])] [(ga, gn, S1), (gb, gm, S2), (gy, gk, S4), (some ⟨Bx, 0, none⟩, len0, sh), (some ⟨Cx, 0, none⟩, m0, de), (sa, sn, S1), (sb, sm, S2), (sy, sk, S4)] W) → Calls Try.prog 24 #[.agg #[.slice a0 len0 cap0, .slice b0 m0 e0, .int .i64 ch0]] W (TcPost sh de len0 m0 ch0 W)) := Lib.hid (fun W hW => toC_any sh de _ _ _ _ _ _ ch0 W (H.out.on hW.out.low) (GG.out.on hW.out.low) hl1 hm1)
    have HEQ : Hid (∀ W B3 C3, Hid (LW w [(w5.heap.size, [.slice ga gn gc, .slice gb gm gd, .int .i64 S3]), (w4.heap.size, [.slice (some ⟨Bx, 0, none⟩) len0 len0, .slice (some ⟨Cx, 0, none⟩) m0 m0, .int .i64 ch0]), (w3.heap.size, [.slice sa sn sc, .slice sb sm sd, .int .i64 S3]), (w.heap.size, [.slice a0 len0 cap0, .slice b0 m0 e0, .int .i64 ch0])] [(ga, gn, S1), (gb, gm, S2), (gy, gk, S4), (some ⟨Bx, 0, none⟩, len0, sh), (some ⟨Cx, 0, none⟩, m0, de), (sa, sn, S1), (sb, sm, S2), (sy, sk, S4)] W) → Hid (Ints W (some ⟨B3, 0, none⟩) len0 sh) → Hid (Ints W (some ⟨C3, 0, none⟩) m0 de) → Calls Try.prog 25 #[.agg #[.slice (some ⟨Bx, 0, none⟩) len0 len0, .slice (some ⟨Cx, 0, none⟩) m0 m0, .int .i64 ch0], .agg #[.slice (some ⟨B3, 0, none⟩) len0 len0, .slice (some ⟨C3, 0, none⟩) m0 m0, .int .i64 ch0]] W fun e w' => e = .returned (.bool true) ∧ Below W.heap.size W w') := Lib.hid (fun W B3 C3 hW h3 h4 => eqTc_any sh de _ _ _ _ _ _ _ _ _ _ _ _ ch0 W (hW.out.tl _ (.tail _ (.tail _ (.tail _ (.head _))))).ints (hW.out.tl _ (.tail _ (.tail _ (.tail _ (.tail _ (.head _)))))).ints h3.out h4.out)
    unfold TcPost at HXS
    have HSS : Hid (∀ W, LW w [(w5.heap.size, [.slice ga gn gc, .slice gb gm gd, .int .i64 S3]), (w4.heap.size, [.slice (some ⟨Bx, 0, none⟩) len0 len0, .slice (some ⟨Cx, 0, none⟩) m0 m0, .int .i64 ch0]), (w3.heap.size, [.slice sa sn sc, .slice sb sm sd, .int .i64 S3]), (w.heap.size, [.slice a0 len0 cap0, .slice b0 m0 e0, .int .i64 ch0])] [(ga, gn, S1), (gb, gm, S2), (gy, gk, S4), (some ⟨Bx, 0, none⟩, len0, sh), (some ⟨Cx, 0, none⟩, m0, de), (sa, sn, S1), (sb, sm, S2), (sy, sk, S4)] W → W.cell? ⟨w4.heap.size, 0, none⟩ = some (.slice (some ⟨Bx, 0, none⟩) len0 len0) ∧ W.cell? ⟨w4.heap.size, 1, none⟩ = some (.slice (some ⟨Cx, 0, none⟩) m0 m0) ∧ W.cell? ⟨w4.heap.size, 2, none⟩ = some (.int .i64 ch0) ∧ W.cell? ⟨w.heap.size, 0, none⟩ = some (.slice a0 len0 cap0) ∧ W.cell? ⟨w.heap.size, 1, none⟩ = some (.slice b0 m0 e0) ∧ W.cell? ⟨w.heap.size, 2, none⟩ = some (.int .i64 ch0) ∧ Hid (LW w [(w5.heap.size, [.slice ga gn gc, .slice gb gm gd, .int .i64 S3]), (w4.heap.size, [.slice (some ⟨Bx, 0, none⟩) len0 len0, .slice (some ⟨Cx, 0, none⟩) m0 m0, .int .i64 ch0]), (w3.heap.size, [.slice sa sn sc, .slice sb sm sd, .int .i64 S3]), (w.heap.size, [.slice a0 len0 cap0, .slice b0 m0 e0, .int .i64 ch0])] [(ga, gn, S1), (gb, gm, S2), (gy, gk, S4), (some ⟨Bx, 0, none⟩, len0, sh), (some ⟨Cx, 0, none⟩, m0, de), (sa, sn, S1), (sb, sm, S2), (sy, sk, S4)] W)) := Lib.hid (fun W h => by obtain ⟨a_, b_, c_⟩ := h.c3 (.tail _ (.head _)); obtain ⟨d_, e_, f_⟩ := h.c3 (.tail _ (.tail _ (.tail _ (.head _)))); exact ⟨a_, b_, c_, d_, e_, f_, Lib.hid h⟩)
    go_wp2_with fail
    go_region_held3 (fun W9 => W9.cell? ⟨w4.heap.size, 0, none⟩ = some (.slice (some ⟨Bx, 0, none⟩) len0 len0) ∧ W9.cell? ⟨w4.heap.size, 1, none⟩ = some (.slice (some ⟨Cx, 0, none⟩) m0 m0) ∧ W9.cell? ⟨w4.heap.size, 2, none⟩ = some (.int .i64 ch0) ∧ W9.cell? ⟨w.heap.size, 0, none⟩ = some (.slice a0 len0 cap0) ∧ W9.cell? ⟨w.heap.size, 1, none⟩ = some (.slice b0 m0 e0) ∧ W9.cell? ⟨w.heap.size, 2, none⟩ = some (.int .i64 ch0) ∧ Hid (LW w [(w5.heap.size, [.slice ga gn gc, .slice gb gm gd, .int .i64 S3]), (w4.heap.size, [.slice (some ⟨Bx, 0, none⟩) len0 len0, .slice (some ⟨Cx, 0, none⟩) m0 m0, .int .i64 ch0]), (w3.heap.size, [.slice sa sn sc, .slice sb sm sd, .int .i64 S3]), (w.heap.size, [.slice a0 len0 cap0, .slice b0 m0 e0, .int .i64 ch0])] [(ga, gn, S1), (gb, gm, S2), (gy, gk, S4), (some ⟨Bx, 0, none⟩, len0, sh), (some ⟨Cx, 0, none⟩, m0, de), (sa, sn, S1), (sb, sm, S2), (sy, sk, S4)] W9))
      (first
        | (go_split_ands; with_reducible exact HSS.out _ (Hid.out (by with_reducible assumption)))
        | (go_split_ands; with_reducible exact HSS.out _ (LW.on (Hid.out (by with_reducible assumption)) hb))
        | (go_split_ands; with_reducible exact HSS.out _ (LW.drew (Hid.out (by with_reducible assumption))))
        | fail)
      (first
        | (go_split_ands; go_at_call 24; ((with_reducible refine (HXS.out _ (by with_reducible assumption)).mono ?_); rintro e w' ⟨B3, C3, rfl, t3, u3, ne3, hb⟩; have HT3 := Lib.hid t3.ints; have HU3 := Lib.hid u3.ints; clear t3 u3))
        | (go_split_ands; go_at_call 25; ((with_reducible refine (HEQ.out _ _ _ (by with_reducible assumption) (by with_reducible assumption) (by with_reducible assumption)).mono ?_); rintro e w' ⟨rfl, hb⟩))
        | fail)
    go_split_ands
    have HLF : Hid (LW w [(w5.heap.size, [.slice ga gn gc, .slice gb gm gd, .int .i64 S3]), (w4.heap.size, [.slice (some ⟨Bx, 0, none⟩) len0 len0, .slice (some ⟨Cx, 0, none⟩) m0 m0, .int .i64 ch0]), (w3.heap.size, [.slice sa sn sc, .slice sb sm sd, .int .i64 S3]), (w.heap.size, [.slice a0 len0 cap0, .slice b0 m0 e0, .int .i64 ch0])] [(ga, gn, S1), (gb, gm, S2), (gy, gk, S4), (some ⟨Bx, 0, none⟩, len0, sh), (some ⟨Cx, 0, none⟩, m0, de), (sa, sn, S1), (sb, sm, S2), (sy, sk, S4)] w') := by with_reducible assumption
    have HL := Lib.hid HLF.out
    clear HXS HEQ HSS HT3 HU3 HLF
    obtain ⟨p0_0, p0_1, p0_2⟩ := HL.out.c3 (.head _)
    obtain ⟨p1_0, p1_1, p1_2⟩ := HL.out.c3 (.tail _ (.head _))
    obtain ⟨p2_0, p2_1, p2_2⟩ := HL.out.c3 (.tail _ (.tail _ (.head _)))
    obtain ⟨p3_0, p3_1, p3_2⟩ := HL.out.c3 (.tail _ (.tail _ (.tail _ (.head _))))
    go_wp2_with fail
    refine (markTc_any sh de w.heap.size _ _ len0 len0 m0 m0 ch0 1 _ (HL.out.tl _ (.tail _ (.tail _ (.tail _ (.head _))))) (HL.out.tl _ (.tail _ (.tail _ (.tail _ (.tail _ (.head _)))))) (lw_apart HL.out (pre := [(ga, gn, S1), (gb, gm, S2), (gy, gk, S4)])) (by omega) (by omega)).mono ?_
    rintro e w8 ⟨rfl, t1, t2, hb⟩
    have HL := Lib.hid (HL.out.mark2 (pre := [(ga, gn, S1), (gb, gm, S2), (gy, gk, S4)]) hb t1 t2)
    clear hb t1 t2
    have HL : Hid (LW w [(w5.heap.size, [.slice ga gn gc, .slice gb gm gd, .int .i64 S3]), (w4.heap.size, [.slice (some ⟨Bx, 0, none⟩) len0 len0, .slice (some ⟨Cx, 0, none⟩) m0 m0, .int .i64 ch0]), (w3.heap.size, [.slice sa sn sc, .slice sb sm sd, .int .i64 S3]), (w.heap.size, [.slice a0 len0 cap0, .slice b0 m0 e0, .int .i64 ch0])] [(ga, gn, S1), (gb, gm, S2), (gy, gk, S4), (some ⟨Bx, 0, none⟩, len0, marks 1 len0), (some ⟨Cx, 0, none⟩, m0, marks (1 + len0) m0), (sa, sn, S1), (sb, sm, S2), (sy, sk, S4)] w8) := HL
    obtain ⟨p0_0, p0_1, p0_2⟩ := HL.out.c3 (.head _)
    obtain ⟨p1_0, p1_1, p1_2⟩ := HL.out.c3 (.tail _ (.head _))
    obtain ⟨p2_0, p2_1, p2_2⟩ := HL.out.c3 (.tail _ (.tail _ (.head _)))
    obtain ⟨p3_0, p3_1, p3_2⟩ := HL.out.c3 (.tail _ (.tail _ (.tail _ (.head _))))
    have hk0 : ¬ (1 : Int) + len0 + m0 < 0 := by omega
    go_wp2_with fail
    refine (eqTc_any S1 S2 _ _ _ _ gn gc gm gd sn sc sm sd S3 _ ((HL.out.tl _ (.head _)).ints) ((HL.out.tl _ (.tail _ (.head _))).ints) ((HL.out.tl _ (.tail _ (.tail _ (.tail _ (.tail _ (.tail _ (.head _))))))).ints) ((HL.out.tl _ (.tail _ (.tail _ (.tail _ (.tail _ (.tail _ (.tail _ (.head _)))))))).ints)).mono ?_
    rintro e w9 ⟨rfl, hb⟩
    have HL := Lib.hid (HL.out.on hb)
    clear hb
    obtain ⟨p0_0, p0_1, p0_2⟩ := HL.out.c3 (.head _)
    obtain ⟨p1_0, p1_1, p1_2⟩ := HL.out.c3 (.tail _ (.head _))
    obtain ⟨p2_0, p2_1, p2_2⟩ := HL.out.c3 (.tail _ (.tail _ (.head _)))
    obtain ⟨p3_0, p3_1, p3_2⟩ := HL.out.c3 (.tail _ (.tail _ (.tail _ (.head _))))
    go_wp2_with fail
    refine (eqL_any S4 _ _ gk sk gq sq _ ((HL.out.tl _ (.tail _ (.tail _ (.head _)))).ints) ((HL.out.tl _ (.tail _ (.tail _ (.tail _ (.tail _ (.tail _ (.tail _ (.tail _ (.head _))))))))).ints)).mono ?_
    rintro e w10 ⟨rfl, hb⟩
    have HL := Lib.hid (HL.out.on hb)
    clear hb
    obtain ⟨p0_0, p0_1, p0_2⟩ := HL.out.c3 (.head _)
    obtain ⟨p1_0, p1_1, p1_2⟩ := HL.out.c3 (.tail _ (.head _))
    obtain ⟨p2_0, p2_1, p2_2⟩ := HL.out.c3 (.tail _ (.tail _ (.head _)))
    obtain ⟨p3_0, p3_1, p3_2⟩ := HL.out.c3 (.tail _ (.tail _ (.tail _ (.head _))))
    go_wp2_with fail
    refine (markTc_any S1 S2 w.heap.size _ _ gn gc gm gd S3 1 _ (HL.out.tl _ (.head _)) (HL.out.tl _ (.tail _ (.head _))) (lw_apart HL.out (pre := [])) (by omega) (by omega)).mono ?_
    rintro e w11 ⟨rfl, t1, t2, hb⟩
    have HL := Lib.hid (HL.out.mark2 (pre := []) hb t1 t2)
    clear hb t1 t2
    have HL : Hid (LW w [(w5.heap.size, [.slice ga gn gc, .slice gb gm gd, .int .i64 S3]), (w4.heap.size, [.slice (some ⟨Bx, 0, none⟩) len0 len0, .slice (some ⟨Cx, 0, none⟩) m0 m0, .int .i64 ch0]), (w3.heap.size, [.slice sa sn sc, .slice sb sm sd, .int .i64 S3]), (w.heap.size, [.slice a0 len0 cap0, .slice b0 m0 e0, .int .i64 ch0])] [(ga, gn, marks 1 gn), (gb, gm, marks (1 + gn) gm), (gy, gk, S4), (some ⟨Bx, 0, none⟩, len0, marks 1 len0), (some ⟨Cx, 0, none⟩, m0, marks (1 + len0) m0), (sa, sn, S1), (sb, sm, S2), (sy, sk, S4)] w11) := HL
    obtain ⟨p0_0, p0_1, p0_2⟩ := HL.out.c3 (.head _)
    obtain ⟨p1_0, p1_1, p1_2⟩ := HL.out.c3 (.tail _ (.head _))
    obtain ⟨p2_0, p2_1, p2_2⟩ := HL.out.c3 (.tail _ (.tail _ (.head _)))
    obtain ⟨p3_0, p3_1, p3_2⟩ := HL.out.c3 (.tail _ (.tail _ (.tail _ (.head _))))
    go_wp2_with fail
    refine (markL_any S4 w.heap.size _ gk gq (1 + gn + gm) _ (HL.out.tl _ (.tail _ (.tail _ (.head _)))) (by omega) (by omega)).mono ?_
    rintro e w12 ⟨rfl, t1, hb⟩
    have HL := Lib.hid (HL.out.mark (pre := [(ga, gn, marks 1 gn), (gb, gm, marks (1 + gn) gm)]) hb t1)
    clear hb t1
    have HL : Hid (LW w [(w5.heap.size, [.slice ga gn gc, .slice gb gm gd, .int .i64 S3]), (w4.heap.size, [.slice (some ⟨Bx, 0, none⟩) len0 len0, .slice (some ⟨Cx, 0, none⟩) m0 m0, .int .i64 ch0]), (w3.heap.size, [.slice sa sn sc, .slice sb sm sd, .int .i64 S3]), (w.heap.size, [.slice a0 len0 cap0, .slice b0 m0 e0, .int .i64 ch0])] [(ga, gn, marks 1 gn), (gb, gm, marks (1 + gn) gm), (gy, gk, marks (1 + gn + gm) gk), (some ⟨Bx, 0, none⟩, len0, marks 1 len0), (some ⟨Cx, 0, none⟩, m0, marks (1 + len0) m0), (sa, sn, S1), (sb, sm, S2), (sy, sk, S4)] w12) := HL
    obtain ⟨p0_0, p0_1, p0_2⟩ := HL.out.c3 (.head _)
    obtain ⟨p1_0, p1_1, p1_2⟩ := HL.out.c3 (.tail _ (.head _))
    obtain ⟨p2_0, p2_1, p2_2⟩ := HL.out.c3 (.tail _ (.tail _ (.head _)))
    obtain ⟨p3_0, p3_1, p3_2⟩ := HL.out.c3 (.tail _ (.tail _ (.tail _ (.head _))))
    have hg0 : ¬ (1 : Int) + gn + gm < 0 := by omega
    have hg1 : ¬ (1 : Int) + gn + gm + gk < 0 := by omega
    go_wp2_with fail
    refine (heldTc_any _ _ gn gc gm gd S3 1 _ ((HL.out.tl _ (.head _)).ints) ((HL.out.tl _ (.tail _ (.head _))).ints) (by omega) (by omega) (by omega) (by omega)).mono ?_
    rintro e w13 ⟨rfl, hb⟩
    have HL := Lib.hid (HL.out.on hb)
    clear hb
    obtain ⟨p0_0, p0_1, p0_2⟩ := HL.out.c3 (.head _)
    obtain ⟨p1_0, p1_1, p1_2⟩ := HL.out.c3 (.tail _ (.head _))
    obtain ⟨p2_0, p2_1, p2_2⟩ := HL.out.c3 (.tail _ (.tail _ (.head _)))
    obtain ⟨p3_0, p3_1, p3_2⟩ := HL.out.c3 (.tail _ (.tail _ (.tail _ (.head _))))
    go_wp2_with fail
    refine (heldL_any _ gk gq (1 + gn + gm) _ ((HL.out.tl _ (.tail _ (.tail _ (.head _)))).ints) (by omega) (by omega) (by omega)).mono ?_
    rintro e w14 ⟨rfl, hb⟩
    have HL := Lib.hid (HL.out.on hb)
    clear hb
    obtain ⟨p0_0, p0_1, p0_2⟩ := HL.out.c3 (.head _)
    obtain ⟨p1_0, p1_1, p1_2⟩ := HL.out.c3 (.tail _ (.head _))
    obtain ⟨p2_0, p2_1, p2_2⟩ := HL.out.c3 (.tail _ (.tail _ (.head _)))
    obtain ⟨p3_0, p3_1, p3_2⟩ := HL.out.c3 (.tail _ (.tail _ (.tail _ (.head _))))
    go_wp2_with fail
    refine (toC_any sh de _ _ len0 cap0 m0 e0 ch0 _ (H.out.on HL.out.low) (GG.out.on HL.out.low) hl1 hm1).mono ?_
    rintro e w15 ⟨B14, C14, rfl, t1, u1, ne1, hb⟩
    have HL := Lib.hid (HL.out.add2 hb t1 u1 (fun x y hx hy => by cases hx; cases hy; exact ne1))
    clear hb t1 u1 ne1
    obtain ⟨p0_0, p0_1, p0_2⟩ := HL.out.c3 (.head _)
    obtain ⟨p1_0, p1_1, p1_2⟩ := HL.out.c3 (.tail _ (.head _))
    obtain ⟨p2_0, p2_1, p2_2⟩ := HL.out.c3 (.tail _ (.tail _ (.head _)))
    obtain ⟨p3_0, p3_1, p3_2⟩ := HL.out.c3 (.tail _ (.tail _ (.tail _ (.head _))))
    go_wp2_with fail
    refine (CI.out _ _ len0 len0 m0 m0 _ ((HL.out.tl _ (.head _)).ints) ((HL.out.tl _ (.tail _ (.head _))).ints)).mono ?_
    rintro e w16 ⟨ha, hn, hc, hB9, hm, hd, hy, hk, hq, rfl, t1, t2, t3, hab, hb⟩
    have hBh : hn ≤ 4096 ∧ hm ≤ 4096 ∧ hk ≤ 4096 := ⟨t1.2.1, t2.2.1, t3.2.1⟩
    have HL := Lib.hid (HL.out.add3 hb (tl_of t1) (tl_of t2) (tl_of t3) hab)
    clear hb t1 t2 t3 hab
    have HL := Lib.hid (HL.out.box [.slice ha hn hc, .slice hB9 hm hd, .int .i64 S3] 26)
    obtain ⟨p0_0, p0_1, p0_2⟩ := HL.out.c3 (.head _)
    obtain ⟨p1_0, p1_1, p1_2⟩ := HL.out.c3 (.tail _ (.head _))
    obtain ⟨p2_0, p2_1, p2_2⟩ := HL.out.c3 (.tail _ (.tail _ (.head _)))
    obtain ⟨p3_0, p3_1, p3_2⟩ := HL.out.c3 (.tail _ (.tail _ (.tail _ (.head _))))
    obtain ⟨p4_0, p4_1, p4_2⟩ := HL.out.c3 (.tail _ (.tail _ (.tail _ (.tail _ (.head _)))))
    go_wp2_with fail
    refine (eqTc_any S1 S2 _ _ _ _ hn hc hm hd sn sc sm sd S3 _ ((HL.out.tl _ (.head _)).ints) ((HL.out.tl _ (.tail _ (.head _))).ints) ((HL.out.tl _ (.tail _ (.tail _ (.tail _ (.tail _ (.tail _ (.tail _ (.tail _ (.tail _ (.tail _ (.tail _ (.head _)))))))))))).ints) ((HL.out.tl _ (.tail _ (.tail _ (.tail _ (.tail _ (.tail _ (.tail _ (.tail _ (.tail _ (.tail _ (.tail _ (.tail _ (.head _))))))))))))).ints)).mono ?_
    rintro e w17 ⟨rfl, hb⟩
    have HL := Lib.hid (HL.out.on hb)
    clear hb
    obtain ⟨p0_0, p0_1, p0_2⟩ := HL.out.c3 (.head _)
    obtain ⟨p1_0, p1_1, p1_2⟩ := HL.out.c3 (.tail _ (.head _))
    obtain ⟨p2_0, p2_1, p2_2⟩ := HL.out.c3 (.tail _ (.tail _ (.head _)))
    obtain ⟨p3_0, p3_1, p3_2⟩ := HL.out.c3 (.tail _ (.tail _ (.tail _ (.head _))))
    obtain ⟨p4_0, p4_1, p4_2⟩ := HL.out.c3 (.tail _ (.tail _ (.tail _ (.tail _ (.head _)))))
    go_wp2_with fail
    refine (eqL_any S4 _ _ hk sk hq sq _ ((HL.out.tl _ (.tail _ (.tail _ (.head _)))).ints) ((HL.out.tl _ (.tail _ (.tail _ (.tail _ (.tail _ (.tail _ (.tail _ (.tail _ (.tail _ (.tail _ (.tail _ (.tail _ (.tail _ (.head _)))))))))))))).ints)).mono ?_
    rintro e w18 ⟨rfl, hb⟩
    have HL := Lib.hid (HL.out.on hb)
    clear hb
    obtain ⟨p0_0, p0_1, p0_2⟩ := HL.out.c3 (.head _)
    obtain ⟨p1_0, p1_1, p1_2⟩ := HL.out.c3 (.tail _ (.head _))
    obtain ⟨p2_0, p2_1, p2_2⟩ := HL.out.c3 (.tail _ (.tail _ (.head _)))
    obtain ⟨p3_0, p3_1, p3_2⟩ := HL.out.c3 (.tail _ (.tail _ (.tail _ (.head _))))
    obtain ⟨p4_0, p4_1, p4_2⟩ := HL.out.c3 (.tail _ (.tail _ (.tail _ (.tail _ (.head _)))))
    go_wp2_with fail
    refine (heldTc_any _ _ gn gc gm gd S3 1 _ ((HL.out.tl _ (.tail _ (.tail _ (.tail _ (.tail _ (.tail _ (.head _))))))).ints) ((HL.out.tl _ (.tail _ (.tail _ (.tail _ (.tail _ (.tail _ (.tail _ (.head _)))))))).ints) (by omega) (by omega) (by omega) (by omega)).mono ?_
    rintro e w19 ⟨rfl, hb⟩
    have HL := Lib.hid (HL.out.on hb)
    clear hb
    obtain ⟨p0_0, p0_1, p0_2⟩ := HL.out.c3 (.head _)
    obtain ⟨p1_0, p1_1, p1_2⟩ := HL.out.c3 (.tail _ (.head _))
    obtain ⟨p2_0, p2_1, p2_2⟩ := HL.out.c3 (.tail _ (.tail _ (.head _)))
    obtain ⟨p3_0, p3_1, p3_2⟩ := HL.out.c3 (.tail _ (.tail _ (.tail _ (.head _))))
    obtain ⟨p4_0, p4_1, p4_2⟩ := HL.out.c3 (.tail _ (.tail _ (.tail _ (.tail _ (.head _)))))
    go_wp2_with fail
    refine (heldL_any _ gk gq (1 + gn + gm) _ ((HL.out.tl _ (.tail _ (.tail _ (.tail _ (.tail _ (.tail _ (.tail _ (.tail _ (.head _))))))))).ints) (by omega) (by omega) (by omega)).mono ?_
    rintro e w20 ⟨rfl, hb⟩
    have HL := Lib.hid (HL.out.on hb)
    clear hb
    obtain ⟨p0_0, p0_1, p0_2⟩ := HL.out.c3 (.head _)
    obtain ⟨p1_0, p1_1, p1_2⟩ := HL.out.c3 (.tail _ (.head _))
    obtain ⟨p2_0, p2_1, p2_2⟩ := HL.out.c3 (.tail _ (.tail _ (.head _)))
    obtain ⟨p3_0, p3_1, p3_2⟩ := HL.out.c3 (.tail _ (.tail _ (.tail _ (.head _))))
    obtain ⟨p4_0, p4_1, p4_2⟩ := HL.out.c3 (.tail _ (.tail _ (.tail _ (.tail _ (.head _)))))
    go_wp2_with fail
    go_ret
    exact ⟨rfl, HL.out.low⟩
    
end Go.Proofs.Ytpphiekbhikadaa
