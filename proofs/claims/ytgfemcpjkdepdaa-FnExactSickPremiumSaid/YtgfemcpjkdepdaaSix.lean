/- The exact laws on SickValue and SickPremium. (Written by wip/gen/six.py.) -/
import Derived.Test.YtgfemcpjkdepdaaSit
import Derived.Test.YtgfemcpjkdepdaaSicI
import Derived.Test.YtgfemcpjkdepdaaSicN
import Derived.Deep.RegionHeld3
namespace Go.Proofs.Ytgfemcpjkdepdaa
open Go.ChangeShapes Go.WideShapes Go.ChangeAt Go.RowKit
set_option linter.unusedVariables false
set_option maxRecDepth 100000

/-- what a law on two tables keeps: their boxes, what they are -/
structure D2 (w : World) (f : Int) (a : Option Addr) (l c : Nat) (g : Int) (b : Option Addr) (m d : Nat) (xs ys : List Int) (W : World) : Prop where
  k2 : K2 w f (.slice a l c) g (.slice b m d) W
  xx : Ints W a l xs
  yy : Ints W b m ys

theorem D2.on {w : World} {f : Int} {a : Option Addr} {l c : Nat} {g : Int} {b : Option Addr} {m d : Nat} {xs ys : List Int} {W W' : World} (h : D2 w f a l c g b m d xs ys W) (hb : Below W.heap.size W W') : D2 w f a l c g b m d xs ys W' := ⟨h.k2.on hb, h.xx.on hb, h.yy.on hb⟩

theorem D2.drew {w : World} {f : Int} {a : Option Addr} {l c : Nat} {g : Int} {b : Option Addr} {m d : Nat} {xs ys : List Int} {W : World} (h : D2 w f a l c g b m d xs ys W) : D2 w f a l c g b m d xs ys W.drew := h.on (Below.drew (Below.refl _ _))

theorem d2S {w : World} {f : Int} {a : Option Addr} {l c : Nat} {g : Int} {b : Option Addr} {m d : Nat} {xs ys : List Int} {W : World} (h : D2 w f a l c g b m d xs ys W) :
    W.cell? ⟨w.heap.size, 0, none⟩ = some (.int .i64 f) ∧ W.cell? ⟨w.heap.size, 1, none⟩ = some (.slice a l c) ∧ W.cell? ⟨w.heap.size + 1, 0, none⟩ = some (.int .i64 g) ∧ W.cell? ⟨w.heap.size + 1, 1, none⟩ = some (.slice b m d) ∧ Hid (D2 w f a l c g b m d xs ys W) := ⟨h.k2.t0, h.k2.t1, h.k2.u0, h.k2.u1, Lib.hid h⟩

/-- .. and the copies with which the program is called -/
structure E2 (w : World) (f : Int) (a : Option Addr) (l c : Nat) (g : Int) (b : Option Addr) (m d : Nat) (xs ys : List Int) (P1 P2 B1 B2 : Nat) (W : World) : Prop where
  d2 : D2 w f a l c g b m d xs ys W
  p1 : Bx W P1 [.int .i64 f, .slice (some ⟨B1, 0, none⟩) l l]
  p2 : Bx W P2 [.int .i64 g, .slice (some ⟨B2, 0, none⟩) m m]
  b1 : Blk W B1 xs
  b2 : Blk W B2 ys

theorem E2.on {w : World} {f : Int} {a : Option Addr} {l c : Nat} {g : Int} {b : Option Addr} {m d : Nat} {xs ys : List Int} {P1 P2 B1 B2 : Nat} {W W' : World} (h : E2 w f a l c g b m d xs ys P1 P2 B1 B2 W) (hb : Below W.heap.size W W') : E2 w f a l c g b m d xs ys P1 P2 B1 B2 W' := ⟨h.d2.on hb, h.p1.on hb, h.p2.on hb, h.b1.step hb, h.b2.step hb⟩

theorem e2S {w : World} {f : Int} {a : Option Addr} {l c : Nat} {g : Int} {b : Option Addr} {m d : Nat} {xs ys : List Int} {P1 P2 B1 B2 : Nat} {W : World} (h : E2 w f a l c g b m d xs ys P1 P2 B1 B2 W) :
    W.cell? ⟨w.heap.size, 0, none⟩ = some (.int .i64 f) ∧ W.cell? ⟨w.heap.size, 1, none⟩ = some (.slice a l c) ∧ W.cell? ⟨w.heap.size + 1, 0, none⟩ = some (.int .i64 g) ∧ W.cell? ⟨w.heap.size + 1, 1, none⟩ = some (.slice b m d) ∧ W.cell? ⟨P1, 0, none⟩ = some (.int .i64 f) ∧ W.cell? ⟨P1, 1, none⟩ = some (.slice (some ⟨B1, 0, none⟩) l l) ∧ W.cell? ⟨P2, 0, none⟩ = some (.int .i64 g) ∧ W.cell? ⟨P2, 1, none⟩ = some (.slice (some ⟨B2, 0, none⟩) m m) ∧ Hid (E2 w f a l c g b m d xs ys P1 P2 B1 B2 W) :=
  ⟨h.d2.k2.t0, h.d2.k2.t1, h.d2.k2.u0, h.d2.k2.u1, h.p1.two.1, h.p1.two.2, h.p2.two.1, h.p2.two.2, Lib.hid h⟩

set_option maxHeartbeats 4000000 in
theorem fnExactSickValue_walk (f0 : Int) (a0 : Option Addr) (len0 cap0 : Nat) (z0 : List Int) (f2 : Int) (a2 : Option Addr) (len2 cap2 : Nat) (z2 : List Int) (a3 : Int) (a4 : Int) (a5 : Int) (a6 : Int) (w : World) (w0 : IsRow .i64 w a0 len0 cap0 z0) (w2 : IsRow .i64 w a2 len2 cap2 z2) (w3 : (Lit.int .i64 a3).wf = true) (w4 : (Lit.int .i64 a4).wf = true) (w5 : (Lit.int .i64 a5).wf = true) (w6 : (Lit.int .i64 a6).wf = true) :
    Calls Try.prog 6 #[.agg #[.int .i64 f0, .slice a0 len0 cap0], .agg #[.int .i64 f2, .slice a2 len2 cap2], .int .i64 a3, .int .i64 a4, .int .i64 a5, .int .i64 a6] w fun e w' => e = .returned (.bool true) ∧ Below w.heap.size w w' := by
  have hmx := w0.len_le
  have hmx2 := w2.len_le
  unfold maxLen at hmx hmx2
  have HK : Hid (K2 w f0 (.slice a0 len0 cap0) f2 (.slice a2 len2 cap2) ((w.alloc (.cells #[.int .i64 f0, .slice a0 len0 cap0] 43)).alloc (.cells #[.int .i64 f2, .slice a2 len2 cap2] 35))) := Lib.hid (K2.new _ _ _ _ _ _ _)
  by_cases hbig : (1048576 : Int) < len0
  · go_enter Try.func6, Try.ntmps6
    go_wp2_with fail
    refine (szT_big2 _ _ _ _ _ _ (by omega) (by omega) (by omega) hbig).mono ?_
    rintro e w1 ⟨rfl, hb⟩
    have HK := Lib.hid (HK.out.on hb)
    clear hb
    go_wp2_with fail
    go_ret
    exact ⟨rfl, HK.out.low⟩
  by_cases hbig2 : (1048576 : Int) - len0 < len2
  · go_enter Try.func6, Try.ntmps6
    go_wp2_with fail
    refine (szT_fit2 _ _ _ _ _ _ (by omega) (by omega) (by omega)).mono ?_
    rintro e w1 ⟨rfl, hb⟩
    have HK := Lib.hid (HK.out.on hb)
    obtain ⟨k0, k1, k2, k3, _⟩ := HK.out
    clear hb
    go_wp2_with fail
    refine (szK_big2 _ _ _ _ _ _ (by omega) (by omega) (by omega) hbig2).mono ?_
    rintro e w2 ⟨rfl, hb⟩
    have HK := Lib.hid (HK.out.on hb)
    clear hb
    go_wp2_with fail
    go_ret
    exact ⟨rfl, HK.out.low⟩
  have h0 := w0.ints (by omega)
  have h2 := w2.ints (by omega)
  obtain ⟨xs, hxs⟩ : ∃ xs, z0.take len0 = xs := ⟨_, rfl⟩
  obtain ⟨ys, hys⟩ : ∃ ys, z2.take len2 = ys := ⟨_, rfl⟩
  rw [hxs] at h0
  rw [hys] at h2
  have HL := Lib.hid h0.len
  have HL2 := Lib.hid h2.len
  have HD : Hid (D2 w f0 a0 len0 cap0 f2 a2 len2 cap2 xs ys ((w.alloc (.cells #[.int .i64 f0, .slice a0 len0 cap0] 43)).alloc (.cells #[.int .i64 f2, .slice a2 len2 cap2] 35))) := Lib.hid ⟨HK.out, h0.on ((box_b _ _).trans ((box_b _ _).mono (by simp))), h2.on ((box_b _ _).trans ((box_b _ _).mono (by simp)))⟩
  have hfit : (len0 : Int) ≤ 1048576 := by omega
  have hfit2 : (len2 : Int) ≤ 1048576 - len0 := by omega
  clear h0 h2 w0 w2 w3 w4 w5 w6 hxs hys hbig hbig2 hmx hmx2 HK
  obtain ⟨A, hA⟩ : ∃ y_, svV a3 f0 xs f2 ys a4 a5 a6 = y_ := ⟨_, rfl⟩
  obtain ⟨C, hC⟩ : ∃ y_, skE a3 f0 xs f2 ys a4 a5 a6 = y_ := ⟨_, rfl⟩
  have CS : Hid (∀ W b1 b2 c1 c2, Hid (Blk W b1 xs) → Hid (Blk W b2 ys) → Calls Try.prog 25 #[.agg #[.int .i64 f0, .slice (some ⟨b1, 0, none⟩) len0 c1], .agg #[.int .i64 f2, .slice (some ⟨b2, 0, none⟩) len2 c2], .int .i64 a3, .int .i64 a4, .int .i64 a5, .int .i64 a6] W fun e w' => e = .returned (.tuple #[.int .i64 A, .int .i64 C]) ∧ Below W.heap.size W w') :=
    Lib.hid (fun W b1 b2 c1 c2 hk hj => by have := ssv_any a3 f0 xs (some ⟨b1, 0, none⟩) len0 c1 f2 ys (some ⟨b2, 0, none⟩) len2 c2 a4 a5 a6 W (hk.out.ints HL.out (by omega)) (hj.out.ints HL2.out (by omega)); unfold IIPost at this; rw [hA, hC] at this; exact this)
  have CI : Hid (∀ W b1 b2, Hid (Blk W b1 xs) → Hid (Blk W b2 ys) → Calls Try.prog 27 #[.agg #[.int .i64 f0, .slice (some ⟨b1, 0, none⟩) len0 len0], .agg #[.int .i64 f2, .slice (some ⟨b2, 0, none⟩) len2 len2], .int .i64 a3, .int .i64 a4, .int .i64 a5, .int .i64 a6] W fun e w' => e = .returned (.tuple #[.int .i64 A, .int .i64 C]) ∧ Below W.heap.size W w') :=
    Lib.hid (fun W b1 b2 hk hj => by have := isv_any a3 f0 xs (some ⟨b1, 0, none⟩) len0 len0 f2 ys (some ⟨b2, 0, none⟩) len2 len2 a4 a5 a6 W (hk.out.ints HL.out (by omega)) (hj.out.ints HL2.out (by omega)) (Nat.le_refl _) (Nat.le_refl _); unfold IIPost at this; rw [hA, hC] at this; exact this)
  clear hA hC
  have TX : Hid (∀ W, Hid (D2 w f0 a0 len0 cap0 f2 a2 len2 cap2 xs ys W) → Calls Try.prog 26 #[.agg #[.int .i64 f0, .slice a0 len0 cap0]] W (ToPost W f0 xs len0)) := Lib.hid (fun W hW => toT_any f0 xs _ _ _ W hW.out.xx (by omega))
  have TY : Hid (∀ W, Hid (D2 w f0 a0 len0 cap0 f2 a2 len2 cap2 xs ys W) → Calls Try.prog 21 #[.agg #[.int .i64 f2, .slice a2 len2 cap2]] W (ToPost W f2 ys len2)) := Lib.hid (fun W hW => toK_any f2 ys _ _ _ W hW.out.yy (by omega))
  have EX : Hid (∀ W b1 b2, Hid (Blk W b1 xs) → Hid (Blk W b2 xs) → Calls Try.prog 28 #[.agg #[.int .i64 f0, .slice (some ⟨b1, 0, none⟩) len0 len0], .agg #[.int .i64 f0, .slice (some ⟨b2, 0, none⟩) len0 len0]] W fun e w' => e = .returned (.bool true) ∧ Below W.heap.size W w') := Lib.hid (fun W b1 b2 hW hV => eqT_same f0 xs _ _ _ _ _ _ W (hW.out.ints HL.out (by omega)) (hV.out.ints HL.out (by omega)))
  have EY : Hid (∀ W b1 b2, Hid (Blk W b1 ys) → Hid (Blk W b2 ys) → Calls Try.prog 23 #[.agg #[.int .i64 f2, .slice (some ⟨b1, 0, none⟩) len2 len2], .agg #[.int .i64 f2, .slice (some ⟨b2, 0, none⟩) len2 len2]] W fun e w' => e = .returned (.bool true) ∧ Below W.heap.size W w') := Lib.hid (fun W b1 b2 hW hV => eqK_same f2 ys _ _ _ _ _ _ W (hW.out.ints HL2.out (by omega)) (hV.out.ints HL2.out (by omega)))
  go_enter Try.func6, Try.ntmps6
  go_wp2_with fail
  refine (szT_fit2 _ _ _ _ _ _ (by omega) (by omega) hfit).mono ?_
  rintro e w1 ⟨rfl, hb⟩
  have HD := Lib.hid (HD.out.on hb)
  obtain ⟨k0, k1, k2, k3, _⟩ := HD.out.k2
  clear hb
  go_wp2_with fail
  refine (szK_fit2 _ _ _ _ _ _ (by omega) (by omega) hfit2).mono ?_
  rintro e w2 ⟨rfl, hb⟩
  have HD := Lib.hid (HD.out.on hb)
  clear hb k0 k1 k2 k3
  obtain ⟨k0, k1, k2, k3, _⟩ := HD.out.k2
  go_wp2_with fail
  clear k0 k1 k2 k3
  go_region_held3 (fun w' => w'.cell? ⟨w.heap.size, 0, none⟩ = some (.int .i64 f0) ∧ w'.cell? ⟨w.heap.size, 1, none⟩ = some (.slice a0 len0 cap0) ∧ w'.cell? ⟨w.heap.size + 1, 0, none⟩ = some (.int .i64 f2) ∧ w'.cell? ⟨w.heap.size + 1, 1, none⟩ = some (.slice a2 len2 cap2) ∧ Hid (D2 w f0 a0 len0 cap0 f2 a2 len2 cap2 xs ys w')) (first
        | (go_split_ands; exact d2S (Hid.out (by with_reducible assumption)))
        | (go_split_ands; exact d2S (D2.on (Hid.out (by with_reducible assumption)) hb))
        | (go_split_ands; exact d2S (D2.on (Hid.out (by with_reducible assumption)) (Below.drew (Below.refl _ _))))
        | fail)
    (first
      | (go_split_ands; go_at_call 26; ((with_reducible refine (TX.out _ (by with_reducible assumption)).mono ?_); rintro e w' ⟨B1, rfl, hg1, hk1, hb⟩; have HB1 := Lib.hid hk1; clear hk1 hg1))
      | (go_split_ands; go_at_call 21; ((with_reducible refine (TY.out _ (by with_reducible assumption)).mono ?_); rintro e w' ⟨B2, rfl, hg2, hk2, hb⟩; replace HB1 := Lib.hid (HB1.out.step hb); have HB2 := Lib.hid hk2; clear hk2 hg2))
      | (go_split_ands; go_at_call 25; ((with_reducible refine (CS.out _ _ _ _ _ HB1 HB2).mono ?_); rintro e w' ⟨rfl, hb⟩))
      | fail)
  all_goals
    go_split_ands
    have HD : Hid (D2 w f0 a0 len0 cap0 f2 a2 len2 cap2 xs ys _) := (by with_reducible assumption)
    obtain ⟨k0, k1, k2, k3, _⟩ := HD.out.k2
    go_wp2_with fail
    with_reducible refine (TX.out _ HD).mono ?_
    rintro e w4 ⟨B1, rfl, hg1, hk1, hb⟩
    have hbx := box_b w4 (.cells #[.int .i64 f0, .slice (some ⟨B1, 0, none⟩) len0 len0] 46)
    have hp1 : Bx (w4.alloc (.cells #[.int .i64 f0, .slice (some ⟨B1, 0, none⟩) len0 len0] 46)) w4.heap.size [.int .i64 f0, .slice (some ⟨B1, 0, none⟩) len0 len0] := Bx.new w4 _ _
    have HD := Lib.hid ((HD.out.on hb).on hbx)
    have HB1 := Lib.hid (hk1.step hbx)
    obtain ⟨P1, hP1⟩ : ∃ y_, w4.heap.size = y_ := ⟨_, rfl⟩
    rw [hP1] at hp1
    clear hb hbx hk1 hg1 k0 k1 k2 k3
    obtain ⟨k0, k1, k2, k3, _⟩ := HD.out.k2
    go_wp2_with fail
    (try rw [hP1])
    generalize (w4.alloc (.cells #[.int .i64 f0, .slice (some ⟨B1, 0, none⟩) len0 len0] 46)) = v4 at HD HB1 hp1 k0 k1 k2 k3 ⊢
    clear hP1
    with_reducible refine (TY.out _ HD).mono ?_
    rintro e w5 ⟨B2, rfl, hg2, hk2, hb⟩
    have hbx := box_b w5 (.cells #[.int .i64 f2, .slice (some ⟨B2, 0, none⟩) len2 len2] 26)
    have hp2 : Bx (w5.alloc (.cells #[.int .i64 f2, .slice (some ⟨B2, 0, none⟩) len2 len2] 26)) w5.heap.size [.int .i64 f2, .slice (some ⟨B2, 0, none⟩) len2 len2] := Bx.new w5 _ _
    have HE : Hid (E2 w f0 a0 len0 cap0 f2 a2 len2 cap2 xs ys P1 w5.heap.size B1 B2 (w5.alloc (.cells #[.int .i64 f2, .slice (some ⟨B2, 0, none⟩) len2 len2] 26))) := Lib.hid ⟨(HD.out.on hb).on hbx, (hp1.on hb).on hbx, hp2, (HB1.out.step hb).step hbx, hk2.step hbx⟩
    obtain ⟨P2, hP2⟩ : ∃ y_, w5.heap.size = y_ := ⟨_, rfl⟩
    rw [hP2] at HE
    clear hb hbx hk2 hg2 hp1 hp2 HD HB1 k0 k1 k2 k3
    obtain ⟨k0, k1, k2, k3, k4, k5, k6, k7, _⟩ := e2S HE.out
    go_wp2_with fail
    (try rw [hP2])
    generalize (w5.alloc (.cells #[.int .i64 f2, .slice (some ⟨B2, 0, none⟩) len2 len2] 26)) = v5 at HE k0 k1 k2 k3 k4 k5 k6 k7 ⊢
    clear hP2
    with_reducible refine (CI.out _ _ _ (Lib.hid HE.out.b1) (Lib.hid HE.out.b2)).mono ?_
    rintro e w6 ⟨rfl, hb⟩
    have HE := Lib.hid (HE.out.on hb)
    clear hb k0 k1 k2 k3 k4 k5 k6 k7
    have TX2 : Hid (∀ W, Hid (E2 w f0 a0 len0 cap0 f2 a2 len2 cap2 xs ys P1 P2 B1 B2 W) → Calls Try.prog 26 #[.agg #[.int .i64 f0, .slice a0 len0 cap0]] W (ToPost W f0 xs len0)) := Lib.hid (fun W hW => TX.out W (Lib.hid hW.out.d2))
    have TY2 : Hid (∀ W, Hid (E2 w f0 a0 len0 cap0 f2 a2 len2 cap2 xs ys P1 P2 B1 B2 W) → Calls Try.prog 21 #[.agg #[.int .i64 f2, .slice a2 len2 cap2]] W (ToPost W f2 ys len2)) := Lib.hid (fun W hW => TY.out W (Lib.hid hW.out.d2))
    have EX2 : Hid (∀ W b2, Hid (E2 w f0 a0 len0 cap0 f2 a2 len2 cap2 xs ys P1 P2 B1 B2 W) → Hid (Blk W b2 xs) → Calls Try.prog 28 #[.agg #[.int .i64 f0, .slice (some ⟨B1, 0, none⟩) len0 len0], .agg #[.int .i64 f0, .slice (some ⟨b2, 0, none⟩) len0 len0]] W fun e w' => e = .returned (.bool true) ∧ Below W.heap.size W w') := Lib.hid (fun W b2 hW hb => EX.out W B1 b2 (Lib.hid hW.out.b1) hb)
    have EY2 : Hid (∀ W b2, Hid (E2 w f0 a0 len0 cap0 f2 a2 len2 cap2 xs ys P1 P2 B1 B2 W) → Hid (Blk W b2 ys) → Calls Try.prog 23 #[.agg #[.int .i64 f2, .slice (some ⟨B2, 0, none⟩) len2 len2], .agg #[.int .i64 f2, .slice (some ⟨b2, 0, none⟩) len2 len2]] W fun e w' => e = .returned (.bool true) ∧ Below W.heap.size W w') := Lib.hid (fun W b2 hW hb => EY.out W B2 b2 (Lib.hid hW.out.b2) hb)
    go_wp2_with fail
    go_region_held3 (fun w' => w'.cell? ⟨w.heap.size, 0, none⟩ = some (.int .i64 f0) ∧ w'.cell? ⟨w.heap.size, 1, none⟩ = some (.slice a0 len0 cap0) ∧ w'.cell? ⟨w.heap.size + 1, 0, none⟩ = some (.int .i64 f2) ∧ w'.cell? ⟨w.heap.size + 1, 1, none⟩ = some (.slice a2 len2 cap2) ∧ w'.cell? ⟨P1, 0, none⟩ = some (.int .i64 f0) ∧ w'.cell? ⟨P1, 1, none⟩ = some (.slice (some ⟨B1, 0, none⟩) len0 len0) ∧ w'.cell? ⟨P2, 0, none⟩ = some (.int .i64 f2) ∧ w'.cell? ⟨P2, 1, none⟩ = some (.slice (some ⟨B2, 0, none⟩) len2 len2) ∧ Hid (E2 w f0 a0 len0 cap0 f2 a2 len2 cap2 xs ys P1 P2 B1 B2 w')) (first
        | (go_split_ands; exact e2S (Hid.out (by with_reducible assumption)))
        | (go_split_ands; exact e2S (E2.on (Hid.out (by with_reducible assumption)) hb))
        | (go_split_ands; exact e2S (E2.on (Hid.out (by with_reducible assumption)) (Below.drew (Below.refl _ _))))
        | fail)
      (first
        | (go_split_ands; go_at_call 26; ((with_reducible refine (TX2.out _ (by with_reducible assumption)).mono ?_); rintro e w' ⟨B3, rfl, hg3, hk3, hb⟩; have HK3 := Lib.hid hk3; clear hk3 hg3))
        | (go_split_ands; go_at_call 28; ((with_reducible refine (EX2.out _ _ (by with_reducible assumption) HK3).mono ?_); rintro e w' ⟨rfl, hb⟩))
        | fail)
    all_goals
      go_split_ands
      have HE : Hid (E2 w f0 a0 len0 cap0 f2 a2 len2 cap2 xs ys P1 P2 B1 B2 _) := (by with_reducible assumption)
      go_wp2_with fail
      go_region_held3 (fun w' => w'.cell? ⟨w.heap.size, 0, none⟩ = some (.int .i64 f0) ∧ w'.cell? ⟨w.heap.size, 1, none⟩ = some (.slice a0 len0 cap0) ∧ w'.cell? ⟨w.heap.size + 1, 0, none⟩ = some (.int .i64 f2) ∧ w'.cell? ⟨w.heap.size + 1, 1, none⟩ = some (.slice a2 len2 cap2) ∧ w'.cell? ⟨P1, 0, none⟩ = some (.int .i64 f0) ∧ w'.cell? ⟨P1, 1, none⟩ = some (.slice (some ⟨B1, 0, none⟩) len0 len0) ∧ w'.cell? ⟨P2, 0, none⟩ = some (.int .i64 f2) ∧ w'.cell? ⟨P2, 1, none⟩ = some (.slice (some ⟨B2, 0, none⟩) len2 len2) ∧ Hid (E2 w f0 a0 len0 cap0 f2 a2 len2 cap2 xs ys P1 P2 B1 B2 w')) (first
        | (go_split_ands; exact e2S (Hid.out (by with_reducible assumption)))
        | (go_split_ands; exact e2S (E2.on (Hid.out (by with_reducible assumption)) hb))
        | (go_split_ands; exact e2S (E2.on (Hid.out (by with_reducible assumption)) (Below.drew (Below.refl _ _))))
        | fail)
        (first
          | (go_split_ands; go_at_call 21; ((with_reducible refine (TY2.out _ (by with_reducible assumption)).mono ?_); rintro e w' ⟨B4, rfl, hg3, hk3, hb⟩; have HK4 := Lib.hid hk3; clear hk3 hg3))
          | (go_split_ands; go_at_call 23; ((with_reducible refine (EY2.out _ _ (by with_reducible assumption) HK4).mono ?_); rintro e w' ⟨rfl, hb⟩))
          | fail)
      all_goals
        go_split_ands
        have HE : Hid (E2 w f0 a0 len0 cap0 f2 a2 len2 cap2 xs ys P1 P2 B1 B2 _) := (by with_reducible assumption)
        go_wp2_with fail
        go_ret
        exact ⟨rfl, HE.out.d2.k2.low⟩

set_option maxHeartbeats 4000000 in
theorem fnExactSickPremium_walk (f0 : Int) (a0 : Option Addr) (len0 cap0 : Nat) (z0 : List Int) (f2 : Int) (a2 : Option Addr) (len2 cap2 : Nat) (z2 : List Int) (a3 : Int) (a4 : Int) (a5 : Int) (a6 : Int) (w : World) (w0 : IsRow .i64 w a0 len0 cap0 z0) (w2 : IsRow .i64 w a2 len2 cap2 z2) (w3 : (Lit.int .i64 a3).wf = true) (w4 : (Lit.int .i64 a4).wf = true) (w5 : (Lit.int .i64 a5).wf = true) (w6 : (Lit.int .i64 a6).wf = true) :
    Calls Try.prog 7 #[.agg #[.int .i64 f0, .slice a0 len0 cap0], .agg #[.int .i64 f2, .slice a2 len2 cap2], .int .i64 a3, .int .i64 a4, .int .i64 a5, .int .i64 a6] w fun e w' => e = .returned (.bool true) ∧ Below w.heap.size w w' := by
  have hmx := w0.len_le
  have hmx2 := w2.len_le
  unfold maxLen at hmx hmx2
  have HK : Hid (K2 w f0 (.slice a0 len0 cap0) f2 (.slice a2 len2 cap2) ((w.alloc (.cells #[.int .i64 f0, .slice a0 len0 cap0] 43)).alloc (.cells #[.int .i64 f2, .slice a2 len2 cap2] 35))) := Lib.hid (K2.new _ _ _ _ _ _ _)
  by_cases hbig : (1048576 : Int) < len0
  · go_enter Try.func7, Try.ntmps7
    go_wp2_with fail
    refine (szT_big2 _ _ _ _ _ _ (by omega) (by omega) (by omega) hbig).mono ?_
    rintro e w1 ⟨rfl, hb⟩
    have HK := Lib.hid (HK.out.on hb)
    clear hb
    go_wp2_with fail
    go_ret
    exact ⟨rfl, HK.out.low⟩
  by_cases hbig2 : (1048576 : Int) - len0 < len2
  · go_enter Try.func7, Try.ntmps7
    go_wp2_with fail
    refine (szT_fit2 _ _ _ _ _ _ (by omega) (by omega) (by omega)).mono ?_
    rintro e w1 ⟨rfl, hb⟩
    have HK := Lib.hid (HK.out.on hb)
    obtain ⟨k0, k1, k2, k3, _⟩ := HK.out
    clear hb
    go_wp2_with fail
    refine (szK_big2 _ _ _ _ _ _ (by omega) (by omega) (by omega) hbig2).mono ?_
    rintro e w2 ⟨rfl, hb⟩
    have HK := Lib.hid (HK.out.on hb)
    clear hb
    go_wp2_with fail
    go_ret
    exact ⟨rfl, HK.out.low⟩
  have h0 := w0.ints (by omega)
  have h2 := w2.ints (by omega)
  obtain ⟨xs, hxs⟩ : ∃ xs, z0.take len0 = xs := ⟨_, rfl⟩
  obtain ⟨ys, hys⟩ : ∃ ys, z2.take len2 = ys := ⟨_, rfl⟩
  rw [hxs] at h0
  rw [hys] at h2
  have HL := Lib.hid h0.len
  have HL2 := Lib.hid h2.len
  have HD : Hid (D2 w f0 a0 len0 cap0 f2 a2 len2 cap2 xs ys ((w.alloc (.cells #[.int .i64 f0, .slice a0 len0 cap0] 43)).alloc (.cells #[.int .i64 f2, .slice a2 len2 cap2] 35))) := Lib.hid ⟨HK.out, h0.on ((box_b _ _).trans ((box_b _ _).mono (by simp))), h2.on ((box_b _ _).trans ((box_b _ _).mono (by simp)))⟩
  have hfit : (len0 : Int) ≤ 1048576 := by omega
  have hfit2 : (len2 : Int) ≤ 1048576 - len0 := by omega
  clear h0 h2 w0 w2 w3 w4 w5 w6 hxs hys hbig hbig2 hmx hmx2 HK
  obtain ⟨A, hA⟩ : ∃ y_, spV a3 f0 xs f2 ys a4 a5 a6 = y_ := ⟨_, rfl⟩
  obtain ⟨C, hC⟩ : ∃ y_, skE a3 f0 xs f2 ys a4 a5 a6 = y_ := ⟨_, rfl⟩
  have CS : Hid (∀ W b1 b2 c1 c2, Hid (Blk W b1 xs) → Hid (Blk W b2 ys) → Calls Try.prog 29 #[.agg #[.int .i64 f0, .slice (some ⟨b1, 0, none⟩) len0 c1], .agg #[.int .i64 f2, .slice (some ⟨b2, 0, none⟩) len2 c2], .int .i64 a3, .int .i64 a4, .int .i64 a5, .int .i64 a6] W fun e w' => e = .returned (.tuple #[.int .i64 A, .int .i64 C]) ∧ Below W.heap.size W w') :=
    Lib.hid (fun W b1 b2 c1 c2 hk hj => by have := ssp_any a3 f0 xs (some ⟨b1, 0, none⟩) len0 c1 f2 ys (some ⟨b2, 0, none⟩) len2 c2 a4 a5 a6 W (hk.out.ints HL.out (by omega)) (hj.out.ints HL2.out (by omega)); unfold IIPost at this; rw [hA, hC] at this; exact this)
  have CI : Hid (∀ W b1 b2, Hid (Blk W b1 xs) → Hid (Blk W b2 ys) → Calls Try.prog 30 #[.agg #[.int .i64 f0, .slice (some ⟨b1, 0, none⟩) len0 len0], .agg #[.int .i64 f2, .slice (some ⟨b2, 0, none⟩) len2 len2], .int .i64 a3, .int .i64 a4, .int .i64 a5, .int .i64 a6] W fun e w' => e = .returned (.tuple #[.int .i64 A, .int .i64 C]) ∧ Below W.heap.size W w') :=
    Lib.hid (fun W b1 b2 hk hj => by have := isp_any a3 f0 xs (some ⟨b1, 0, none⟩) len0 len0 f2 ys (some ⟨b2, 0, none⟩) len2 len2 a4 a5 a6 W (hk.out.ints HL.out (by omega)) (hj.out.ints HL2.out (by omega)) (Nat.le_refl _) (Nat.le_refl _); unfold IIPost at this; rw [hA, hC] at this; exact this)
  clear hA hC
  have TX : Hid (∀ W, Hid (D2 w f0 a0 len0 cap0 f2 a2 len2 cap2 xs ys W) → Calls Try.prog 26 #[.agg #[.int .i64 f0, .slice a0 len0 cap0]] W (ToPost W f0 xs len0)) := Lib.hid (fun W hW => toT_any f0 xs _ _ _ W hW.out.xx (by omega))
  have TY : Hid (∀ W, Hid (D2 w f0 a0 len0 cap0 f2 a2 len2 cap2 xs ys W) → Calls Try.prog 21 #[.agg #[.int .i64 f2, .slice a2 len2 cap2]] W (ToPost W f2 ys len2)) := Lib.hid (fun W hW => toK_any f2 ys _ _ _ W hW.out.yy (by omega))
  have EX : Hid (∀ W b1 b2, Hid (Blk W b1 xs) → Hid (Blk W b2 xs) → Calls Try.prog 28 #[.agg #[.int .i64 f0, .slice (some ⟨b1, 0, none⟩) len0 len0], .agg #[.int .i64 f0, .slice (some ⟨b2, 0, none⟩) len0 len0]] W fun e w' => e = .returned (.bool true) ∧ Below W.heap.size W w') := Lib.hid (fun W b1 b2 hW hV => eqT_same f0 xs _ _ _ _ _ _ W (hW.out.ints HL.out (by omega)) (hV.out.ints HL.out (by omega)))
  have EY : Hid (∀ W b1 b2, Hid (Blk W b1 ys) → Hid (Blk W b2 ys) → Calls Try.prog 23 #[.agg #[.int .i64 f2, .slice (some ⟨b1, 0, none⟩) len2 len2], .agg #[.int .i64 f2, .slice (some ⟨b2, 0, none⟩) len2 len2]] W fun e w' => e = .returned (.bool true) ∧ Below W.heap.size W w') := Lib.hid (fun W b1 b2 hW hV => eqK_same f2 ys _ _ _ _ _ _ W (hW.out.ints HL2.out (by omega)) (hV.out.ints HL2.out (by omega)))
  go_enter Try.func7, Try.ntmps7
  go_wp2_with fail
  refine (szT_fit2 _ _ _ _ _ _ (by omega) (by omega) hfit).mono ?_
  rintro e w1 ⟨rfl, hb⟩
  have HD := Lib.hid (HD.out.on hb)
  obtain ⟨k0, k1, k2, k3, _⟩ := HD.out.k2
  clear hb
  go_wp2_with fail
  refine (szK_fit2 _ _ _ _ _ _ (by omega) (by omega) hfit2).mono ?_
  rintro e w2 ⟨rfl, hb⟩
  have HD := Lib.hid (HD.out.on hb)
  clear hb k0 k1 k2 k3
  obtain ⟨k0, k1, k2, k3, _⟩ := HD.out.k2
  go_wp2_with fail
  clear k0 k1 k2 k3
  go_region_held3 (fun w' => w'.cell? ⟨w.heap.size, 0, none⟩ = some (.int .i64 f0) ∧ w'.cell? ⟨w.heap.size, 1, none⟩ = some (.slice a0 len0 cap0) ∧ w'.cell? ⟨w.heap.size + 1, 0, none⟩ = some (.int .i64 f2) ∧ w'.cell? ⟨w.heap.size + 1, 1, none⟩ = some (.slice a2 len2 cap2) ∧ Hid (D2 w f0 a0 len0 cap0 f2 a2 len2 cap2 xs ys w')) (first
        | (go_split_ands; exact d2S (Hid.out (by with_reducible assumption)))
        | (go_split_ands; exact d2S (D2.on (Hid.out (by with_reducible assumption)) hb))
        | (go_split_ands; exact d2S (D2.on (Hid.out (by with_reducible assumption)) (Below.drew (Below.refl _ _))))
        | fail)
    (first
      | (go_split_ands; go_at_call 26; ((with_reducible refine (TX.out _ (by with_reducible assumption)).mono ?_); rintro e w' ⟨B1, rfl, hg1, hk1, hb⟩; have HB1 := Lib.hid hk1; clear hk1 hg1))
      | (go_split_ands; go_at_call 21; ((with_reducible refine (TY.out _ (by with_reducible assumption)).mono ?_); rintro e w' ⟨B2, rfl, hg2, hk2, hb⟩; replace HB1 := Lib.hid (HB1.out.step hb); have HB2 := Lib.hid hk2; clear hk2 hg2))
      | (go_split_ands; go_at_call 29; ((with_reducible refine (CS.out _ _ _ _ _ HB1 HB2).mono ?_); rintro e w' ⟨rfl, hb⟩))
      | fail)
  all_goals
    go_split_ands
    have HD : Hid (D2 w f0 a0 len0 cap0 f2 a2 len2 cap2 xs ys _) := (by with_reducible assumption)
    obtain ⟨k0, k1, k2, k3, _⟩ := HD.out.k2
    go_wp2_with fail
    with_reducible refine (TX.out _ HD).mono ?_
    rintro e w4 ⟨B1, rfl, hg1, hk1, hb⟩
    have hbx := box_b w4 (.cells #[.int .i64 f0, .slice (some ⟨B1, 0, none⟩) len0 len0] 46)
    have hp1 : Bx (w4.alloc (.cells #[.int .i64 f0, .slice (some ⟨B1, 0, none⟩) len0 len0] 46)) w4.heap.size [.int .i64 f0, .slice (some ⟨B1, 0, none⟩) len0 len0] := Bx.new w4 _ _
    have HD := Lib.hid ((HD.out.on hb).on hbx)
    have HB1 := Lib.hid (hk1.step hbx)
    obtain ⟨P1, hP1⟩ : ∃ y_, w4.heap.size = y_ := ⟨_, rfl⟩
    rw [hP1] at hp1
    clear hb hbx hk1 hg1 k0 k1 k2 k3
    obtain ⟨k0, k1, k2, k3, _⟩ := HD.out.k2
    go_wp2_with fail
    (try rw [hP1])
    generalize (w4.alloc (.cells #[.int .i64 f0, .slice (some ⟨B1, 0, none⟩) len0 len0] 46)) = v4 at HD HB1 hp1 k0 k1 k2 k3 ⊢
    clear hP1
    with_reducible refine (TY.out _ HD).mono ?_
    rintro e w5 ⟨B2, rfl, hg2, hk2, hb⟩
    have hbx := box_b w5 (.cells #[.int .i64 f2, .slice (some ⟨B2, 0, none⟩) len2 len2] 26)
    have hp2 : Bx (w5.alloc (.cells #[.int .i64 f2, .slice (some ⟨B2, 0, none⟩) len2 len2] 26)) w5.heap.size [.int .i64 f2, .slice (some ⟨B2, 0, none⟩) len2 len2] := Bx.new w5 _ _
    have HE : Hid (E2 w f0 a0 len0 cap0 f2 a2 len2 cap2 xs ys P1 w5.heap.size B1 B2 (w5.alloc (.cells #[.int .i64 f2, .slice (some ⟨B2, 0, none⟩) len2 len2] 26))) := Lib.hid ⟨(HD.out.on hb).on hbx, (hp1.on hb).on hbx, hp2, (HB1.out.step hb).step hbx, hk2.step hbx⟩
    obtain ⟨P2, hP2⟩ : ∃ y_, w5.heap.size = y_ := ⟨_, rfl⟩
    rw [hP2] at HE
    clear hb hbx hk2 hg2 hp1 hp2 HD HB1 k0 k1 k2 k3
    obtain ⟨k0, k1, k2, k3, k4, k5, k6, k7, _⟩ := e2S HE.out
    go_wp2_with fail
    (try rw [hP2])
    generalize (w5.alloc (.cells #[.int .i64 f2, .slice (some ⟨B2, 0, none⟩) len2 len2] 26)) = v5 at HE k0 k1 k2 k3 k4 k5 k6 k7 ⊢
    clear hP2
    with_reducible refine (CI.out _ _ _ (Lib.hid HE.out.b1) (Lib.hid HE.out.b2)).mono ?_
    rintro e w6 ⟨rfl, hb⟩
    have HE := Lib.hid (HE.out.on hb)
    clear hb k0 k1 k2 k3 k4 k5 k6 k7
    have TX2 : Hid (∀ W, Hid (E2 w f0 a0 len0 cap0 f2 a2 len2 cap2 xs ys P1 P2 B1 B2 W) → Calls Try.prog 26 #[.agg #[.int .i64 f0, .slice a0 len0 cap0]] W (ToPost W f0 xs len0)) := Lib.hid (fun W hW => TX.out W (Lib.hid hW.out.d2))
    have TY2 : Hid (∀ W, Hid (E2 w f0 a0 len0 cap0 f2 a2 len2 cap2 xs ys P1 P2 B1 B2 W) → Calls Try.prog 21 #[.agg #[.int .i64 f2, .slice a2 len2 cap2]] W (ToPost W f2 ys len2)) := Lib.hid (fun W hW => TY.out W (Lib.hid hW.out.d2))
    have EX2 : Hid (∀ W b2, Hid (E2 w f0 a0 len0 cap0 f2 a2 len2 cap2 xs ys P1 P2 B1 B2 W) → Hid (Blk W b2 xs) → Calls Try.prog 28 #[.agg #[.int .i64 f0, .slice (some ⟨B1, 0, none⟩) len0 len0], .agg #[.int .i64 f0, .slice (some ⟨b2, 0, none⟩) len0 len0]] W fun e w' => e = .returned (.bool true) ∧ Below W.heap.size W w') := Lib.hid (fun W b2 hW hb => EX.out W B1 b2 (Lib.hid hW.out.b1) hb)
    have EY2 : Hid (∀ W b2, Hid (E2 w f0 a0 len0 cap0 f2 a2 len2 cap2 xs ys P1 P2 B1 B2 W) → Hid (Blk W b2 ys) → Calls Try.prog 23 #[.agg #[.int .i64 f2, .slice (some ⟨B2, 0, none⟩) len2 len2], .agg #[.int .i64 f2, .slice (some ⟨b2, 0, none⟩) len2 len2]] W fun e w' => e = .returned (.bool true) ∧ Below W.heap.size W w') := Lib.hid (fun W b2 hW hb => EY.out W B2 b2 (Lib.hid hW.out.b2) hb)
    go_wp2_with fail
    go_region_held3 (fun w' => w'.cell? ⟨w.heap.size, 0, none⟩ = some (.int .i64 f0) ∧ w'.cell? ⟨w.heap.size, 1, none⟩ = some (.slice a0 len0 cap0) ∧ w'.cell? ⟨w.heap.size + 1, 0, none⟩ = some (.int .i64 f2) ∧ w'.cell? ⟨w.heap.size + 1, 1, none⟩ = some (.slice a2 len2 cap2) ∧ w'.cell? ⟨P1, 0, none⟩ = some (.int .i64 f0) ∧ w'.cell? ⟨P1, 1, none⟩ = some (.slice (some ⟨B1, 0, none⟩) len0 len0) ∧ w'.cell? ⟨P2, 0, none⟩ = some (.int .i64 f2) ∧ w'.cell? ⟨P2, 1, none⟩ = some (.slice (some ⟨B2, 0, none⟩) len2 len2) ∧ Hid (E2 w f0 a0 len0 cap0 f2 a2 len2 cap2 xs ys P1 P2 B1 B2 w')) (first
        | (go_split_ands; exact e2S (Hid.out (by with_reducible assumption)))
        | (go_split_ands; exact e2S (E2.on (Hid.out (by with_reducible assumption)) hb))
        | (go_split_ands; exact e2S (E2.on (Hid.out (by with_reducible assumption)) (Below.drew (Below.refl _ _))))
        | fail)
      (first
        | (go_split_ands; go_at_call 26; ((with_reducible refine (TX2.out _ (by with_reducible assumption)).mono ?_); rintro e w' ⟨B3, rfl, hg3, hk3, hb⟩; have HK3 := Lib.hid hk3; clear hk3 hg3))
        | (go_split_ands; go_at_call 28; ((with_reducible refine (EX2.out _ _ (by with_reducible assumption) HK3).mono ?_); rintro e w' ⟨rfl, hb⟩))
        | fail)
    all_goals
      go_split_ands
      have HE : Hid (E2 w f0 a0 len0 cap0 f2 a2 len2 cap2 xs ys P1 P2 B1 B2 _) := (by with_reducible assumption)
      go_wp2_with fail
      go_region_held3 (fun w' => w'.cell? ⟨w.heap.size, 0, none⟩ = some (.int .i64 f0) ∧ w'.cell? ⟨w.heap.size, 1, none⟩ = some (.slice a0 len0 cap0) ∧ w'.cell? ⟨w.heap.size + 1, 0, none⟩ = some (.int .i64 f2) ∧ w'.cell? ⟨w.heap.size + 1, 1, none⟩ = some (.slice a2 len2 cap2) ∧ w'.cell? ⟨P1, 0, none⟩ = some (.int .i64 f0) ∧ w'.cell? ⟨P1, 1, none⟩ = some (.slice (some ⟨B1, 0, none⟩) len0 len0) ∧ w'.cell? ⟨P2, 0, none⟩ = some (.int .i64 f2) ∧ w'.cell? ⟨P2, 1, none⟩ = some (.slice (some ⟨B2, 0, none⟩) len2 len2) ∧ Hid (E2 w f0 a0 len0 cap0 f2 a2 len2 cap2 xs ys P1 P2 B1 B2 w')) (first
        | (go_split_ands; exact e2S (Hid.out (by with_reducible assumption)))
        | (go_split_ands; exact e2S (E2.on (Hid.out (by with_reducible assumption)) hb))
        | (go_split_ands; exact e2S (E2.on (Hid.out (by with_reducible assumption)) (Below.drew (Below.refl _ _))))
        | fail)
        (first
          | (go_split_ands; go_at_call 21; ((with_reducible refine (TY2.out _ (by with_reducible assumption)).mono ?_); rintro e w' ⟨B4, rfl, hg3, hk3, hb⟩; have HK4 := Lib.hid hk3; clear hk3 hg3))
          | (go_split_ands; go_at_call 23; ((with_reducible refine (EY2.out _ _ (by with_reducible assumption) HK4).mono ?_); rintro e w' ⟨rfl, hb⟩))
          | fail)
      all_goals
        go_split_ands
        have HE : Hid (E2 w f0 a0 len0 cap0 f2 a2 len2 cap2 xs ys P1 P2 B1 B2 _) := (by with_reducible assumption)
        go_wp2_with fail
        go_ret
        exact ⟨rfl, HE.out.d2.k2.low⟩

end Go.Proofs.Ytgfemcpjkdepdaa
