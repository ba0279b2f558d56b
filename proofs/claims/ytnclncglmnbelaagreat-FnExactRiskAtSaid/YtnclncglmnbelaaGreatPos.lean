/- Policies: the model: a basis, a valid policy, net premiums, durations, gains. (Written by wip/gen/pos.py.) -/
import Derived.Test.YtnclncglmnbelaaGreatPol
import Derived.Test.YtnclncglmnbelaaGreatPom
import Derived.Test.YtnclncglmnbelaaGreatBxs
import Derived.Deep.RegionHeld3
namespace Go.Proofs.YtnclncglmnbelaaGreat
open Go.ChangeShapes Go.WideShapes Go.ChangeAt Go.RowKit
set_option linter.unusedVariables false
set_option maxRecDepth 100000

theorem bx3 {w w1 : World} {x y z : Value} {T : TypeId} (hb : Below (w.alloc (.cells #[x, y, z] T)).heap.size (w.alloc (.cells #[x, y, z] T)) w1) :
    Below w.heap.size w w1 ∧ w1.cell? ⟨w.heap.size, 0, none⟩ = some x ∧ w1.cell? ⟨w.heap.size, 1, none⟩ = some y ∧ w1.cell? ⟨w.heap.size, 2, none⟩ = some z := by
  have h1 := box_b w (.cells #[x, y, z] T)
  exact ⟨h1.trans (hb.mono (by simp)), keep2 hb (by go_simp), keep2 hb (by go_simp), keep2 hb (by go_simp)⟩

theorem Bx.five0 {w : World} {B : Nat} {x y z u v : Value} (h : Bx w B [x, y, z, u, v]) : w.cell? ⟨B, 0, none⟩ = some x ∧ w.cell? ⟨B, 1, none⟩ = some y ∧ w.cell? ⟨B, 2, none⟩ = some z ∧ w.cell? ⟨B, 3, none⟩ = some u ∧ w.cell? ⟨B, 4, none⟩ = some v := by
  obtain ⟨T, h⟩ := h
  simp [World.cell?, h]

/-- the boxes of a basis and a policy -/
structure BP (w : World) (f : Int) (v : Value) (r k x n s u : Int) (W : World) : Prop where
  b0 : W.cell? ⟨w.heap.size, 0, none⟩ = some (.int .i64 f)
  b1 : W.cell? ⟨w.heap.size, 1, none⟩ = some v
  b2 : W.cell? ⟨w.heap.size, 2, none⟩ = some (.int .i64 r)
  p0 : W.cell? ⟨w.heap.size + 1, 0, none⟩ = some (.int .i64 k)
  p1 : W.cell? ⟨w.heap.size + 1, 1, none⟩ = some (.int .i64 x)
  p2 : W.cell? ⟨w.heap.size + 1, 2, none⟩ = some (.int .i64 n)
  p3 : W.cell? ⟨w.heap.size + 1, 3, none⟩ = some (.int .i64 s)
  p4 : W.cell? ⟨w.heap.size + 1, 4, none⟩ = some (.int .i64 u)
  low : Below w.heap.size w W
  sz : w.heap.size + 2 ≤ W.heap.size

theorem BP.on {w : World} {f : Int} {v : Value} {r k x n s u : Int} {W W' : World} (h : BP w f v r k x n s u W) (hb : Below W.heap.size W W') : BP w f v r k x n s u W' :=
  ⟨keep2 hb h.b0, keep2 hb h.b1, keep2 hb h.b2, keep2 hb h.p0, keep2 hb h.p1, keep2 hb h.p2, keep2 hb h.p3, keep2 hb h.p4, h.low.trans (hb.mono h.low.size), Nat.le_trans h.sz hb.size⟩

theorem BP.drew {w : World} {f : Int} {v : Value} {r k x n s u : Int} {W : World} (h : BP w f v r k x n s u W) : BP w f v r k x n s u W.drew := h.on (Below.drew (Below.refl _ _))

theorem BP.new (w : World) (f : Int) (v : Value) (r k x n s u : Int) (T U : TypeId) : BP w f v r k x n s u ((w.alloc (.cells #[.int .i64 f, v, .int .i64 r] T)).alloc (.cells #[.int .i64 k, .int .i64 x, .int .i64 n, .int .i64 s, .int .i64 u] U)) := by
  have hb := box_b (w.alloc (.cells #[.int .i64 f, v, .int .i64 r] T)) (.cells #[.int .i64 k, .int .i64 x, .int .i64 n, .int .i64 s, .int .i64 u] U)
  obtain ⟨h0, h1, h2, h3⟩ := bx3 hb
  have h4 := Bx.new (w.alloc (.cells #[.int .i64 f, v, .int .i64 r] T)) [.int .i64 k, .int .i64 x, .int .i64 n, .int .i64 s, .int .i64 u] U
  rw [World.size_alloc] at h4
  obtain ⟨g0, g1, g2, g3, g4⟩ := h4.five0
  exact ⟨h1, h2, h3, g0, g1, g2, g3, g4, h0, by simp⟩

theorem bpS {w : World} {f : Int} {v : Value} {r k x n s u : Int} {W : World} (h : BP w f v r k x n s u W) :
    W.cell? ⟨w.heap.size, 0, none⟩ = some (.int .i64 f) ∧ W.cell? ⟨w.heap.size, 1, none⟩ = some v ∧ W.cell? ⟨w.heap.size, 2, none⟩ = some (.int .i64 r) ∧ W.cell? ⟨w.heap.size + 1, 0, none⟩ = some (.int .i64 k) ∧ W.cell? ⟨w.heap.size + 1, 1, none⟩ = some (.int .i64 x) ∧ W.cell? ⟨w.heap.size + 1, 2, none⟩ = some (.int .i64 n) ∧ W.cell? ⟨w.heap.size + 1, 3, none⟩ = some (.int .i64 s) ∧ W.cell? ⟨w.heap.size + 1, 4, none⟩ = some (.int .i64 u) ∧ Hid (BP w f v r k x n s u W) :=
  ⟨h.b0, h.b1, h.b2, h.p0, h.p1, h.p2, h.p3, h.p4, Lib.hid h⟩

theorem bpLow {w W : World} (f : Int) (v : Value) (r k x n s u : Int) (h : Hid (BP w f v r k x n s u W)) : Below w.heap.size w W := h.out.low

def baB (r f : Int) (xs : List Int) : Bool := ltB f xs && rateB r

theorem asE_ba {r f : Int} {xs : List Int} {k x n s : Int} (h : asE r f xs k x n s = 0) : baB r f xs = true := by
  unfold asE at h
  obtain ⟨hc, -⟩ := anE_iff.1 h
  unfold coE at hc
  unfold baB
  by_cases h1 : ltB f xs = true
  · by_cases h2 : rateB r = true
    · rw [h1, h2]; rfl
    · rw [if_pos h1, if_neg (by simp [h2])] at hc
      cases hc
  · rw [if_neg h1] at hc
    cases hc

theorem poB_ba {r f : Int} {xs : List Int} {k x n s u : Int} (h : baB r f xs = false) : poB r f xs k x n s u = false := by
  cases hp : poB r f xs k x n s u with
  | false => rfl
  | true =>
    have := asE_ba (poB_iff.1 hp).1
    rw [h] at this; cases this

theorem poB_u {r f : Int} {xs : List Int} {k x n s u : Int} (h : inB u 0 1000 = false) : poB r f xs k x n s u = false := by
  unfold poB; rw [h]; simp

theorem poB_e {r f : Int} {xs : List Int} {k x n s u : Int} (h : asE r f xs k x n s ≠ 0) : poB r f xs k x n s u = false := by
  unfold poB; simp [h]

theorem poB_n {r f : Int} {xs : List Int} {k x n s u : Int} (h : npB r xs (x - f).toNat n.toNat = false) : poB r f xs k x n s u = false := by
  unfold poB; rw [h]; simp

theorem sbas_any (r f : Int) (xs : List Int) (a : Option Addr) (l c : Nat) (w : World) (h : Ints w a l xs) :
    Calls Tryz.prog 65 #[.agg #[.int .i64 f, .slice a l c, .int .i64 r]] w fun e w' => e = .returned (.bool (baB r f xs)) ∧ Below w.heap.size w w' := by
  have H := Lib.hid h
  clear h
  by_cases h1 : ltB f xs = true
  · have HR : Hid (baB r f xs = rateB r) := Lib.hid (by unfold baB; rw [h1]; rfl)
    go_enter Tryz.func65, Tryz.ntmps65
    go_wp2_with (first | (go_at_call 94; refine (sRate_any _ _).mono ?_; rintro e w' ⟨rfl, rfl⟩) | (go_at_call 93; refine (isL_spec f xs _ _ _ _ (H.out.on (box_b _ _))).mono ?_; rintro e w1 ⟨rfl, hb⟩; obtain ⟨hB, hc0, hc1, hc2⟩ := bx3 hb; have HB := Lib.hid hB; clear hB hb))
    go_ret
    exact ⟨ret_bool HR.out.symm, HB.out⟩
  · have h1' : ltB f xs = false := by simpa using h1
    have HR : Hid (baB r f xs = false) := Lib.hid (by unfold baB; rw [h1']; rfl)
    clear h1
    go_enter Tryz.func65, Tryz.ntmps65
    go_wp2_with (first | (go_at_call 94; refine (sRate_any _ _).mono ?_; rintro e w' ⟨rfl, rfl⟩) | (go_at_call 93; refine (isL_spec f xs _ _ _ _ (H.out.on (box_b _ _))).mono ?_; rintro e w1 ⟨rfl, hb⟩; obtain ⟨hB, hc0, hc1, hc2⟩ := bx3 hb; have HB := Lib.hid hB; clear hB hb))
    go_ret
    exact ⟨ret_bool HR.out.symm, HB.out⟩

set_option maxHeartbeats 4000000 in
theorem spol_any (r f : Int) (xs : List Int) (a : Option Addr) (l c : Nat) (k x n s u : Int) (w : World) (h : Ints w a l xs) :
    Calls Tryz.prog 41 #[.agg #[.int .i64 f, .slice a l c, .int .i64 r], .agg #[.int .i64 k, .int .i64 x, .int .i64 n, .int .i64 s, .int .i64 u]] w fun e w' => e = .returned (.bool (poB r f xs k x n s u)) ∧ Below w.heap.size w w' := by
  have H := Lib.hid h
  clear h
  have HP := Lib.hid (BP.new w f (.slice a l c) r k x n s u 28 30)
  have CB : Hid (∀ W, Hid (BP w f (.slice a l c) r k x n s u W) → Calls Tryz.prog 65 #[.agg #[.int .i64 f, .slice a l c, .int .i64 r]] W fun e w' => e = .returned (.bool (baB r f xs)) ∧ Below W.heap.size W w') :=
    Lib.hid (fun W hW => sbas_any r f xs a l c W (H.out.on hW.out.low))
  have CE : Hid (∀ W, Hid (BP w f (.slice a l c) r k x n s u W) → Calls Tryz.prog 73 #[.agg #[.int .i64 f, .slice a l c], .int .i64 r, .int .i64 k, .int .i64 x, .int .i64 n, .bool (inB s 1 100000000)] W fun e w' => e = .returned (.int .i64 (asE r f xs k x n s)) ∧ Below W.heap.size W w') :=
    Lib.hid (fun W hW => ascode_any r f xs a l c k x n _ W (H.out.on hW.out.low))
  have CS := Lib.hid (fun W => ssum_any s W)
  obtain ⟨Z, hZ⟩ : ∃ y_, inB s 1 100000000 = y_ := ⟨_, rfl⟩
  rw [hZ] at CE CS
  clear hZ
  by_cases hba : baB r f xs = true
  · rw [hba] at CB
    by_cases hu : inB u 0 1000 = true
    · by_cases hz : asE r f xs k x n s = 0
      · rw [hz] at CE
        obtain ⟨-, -, ht, ⟨r0, r1⟩, ⟨x0, x1⟩, ⟨n0, n1⟩, xn, -⟩ := as_in hz
        obtain ⟨f0, f1⟩ := ht.1
        have CD : Hid (∀ (j : Nat) W, Hid (BP w f (.slice a l c) r k x n s u W) → (j : Int) < n → Calls Tryz.prog 43 #[.agg #[.int .i64 f, .slice a l c], .int .i64 r, .int .i64 (x + j)] W fun e w' => e = .returned (.int .i64 (cD r xs ((x - f).toNat + j))) ∧ Below W.heap.size W w') :=
          Lib.hid (fun j W hW hj => by rw [show (x - f).toNat + j = (x + j - f).toNat by omega]; exact sD_any r f xs a l c (x + j) W (H.out.on hW.out.low) ht r0 r1 (by omega) (by omega))
        have HYes := Lib.hid (fun hy : ∀ m, m < n.toNat → cD r xs ((x - f).toNat + m) ≠ 0 => poB_iff.2 ⟨hz, (inB_iff _ _ _).1 hu, hy⟩)
        have HNo := Lib.hid (fun (m : Nat) (hm : m < n.toNat) (he : cD r xs ((x - f).toNat + m) = 0) => poB_n (k := k) (s := s) (u := u) (npB_no hm he))
        clear hba hz ht
        go_enter Tryz.func41, Tryz.ntmps41
        go_wp2_with fail
        obtain ⟨W1, hW1⟩ : ∃ W1, ((w.alloc (.cells #[.int .i64 f, .slice a l c, .int .i64 r] 28)).alloc (.cells #[.int .i64 k, .int .i64 x, .int .i64 n, .int .i64 s, .int .i64 u] 30)) = W1 := ⟨_, rfl⟩
        rw [hW1] at HP ⊢
        clear hW1
        with_reducible refine (CB.out _ HP).mono ?_
        rintro e w1 ⟨rfl, hb⟩
        have HP := Lib.hid (HP.out.on hb)
        obtain ⟨b0, b1, b2, p0, p1, p2, p3, p4, -⟩ := bpS HP.out
        clear hb CB
        go_wp2_with (go_at_call 72; refine (in_any _ _ _ _).mono ?_; rintro e w' ⟨rfl, rfl⟩)
        go_region_held3 (fun W9 => W9.cell? ⟨w.heap.size, 0, none⟩ = some (.int .i64 f) ∧ W9.cell? ⟨w.heap.size, 1, none⟩ = some (.slice a l c) ∧ W9.cell? ⟨w.heap.size, 2, none⟩ = some (.int .i64 r) ∧ W9.cell? ⟨w.heap.size + 1, 0, none⟩ = some (.int .i64 k) ∧ W9.cell? ⟨w.heap.size + 1, 1, none⟩ = some (.int .i64 x) ∧ W9.cell? ⟨w.heap.size + 1, 2, none⟩ = some (.int .i64 n) ∧ W9.cell? ⟨w.heap.size + 1, 3, none⟩ = some (.int .i64 s) ∧ W9.cell? ⟨w.heap.size + 1, 4, none⟩ = some (.int .i64 u) ∧ Hid (BP w f (.slice a l c) r k x n s u W9))
          (first
            | (go_split_ands; exact ⟨by with_reducible assumption, by with_reducible assumption, by with_reducible assumption, by with_reducible assumption, by with_reducible assumption, by with_reducible assumption, by with_reducible assumption, by with_reducible assumption, by with_reducible assumption⟩)
            | (go_split_ands; with_reducible exact bpS HP.out)
            | (go_split_ands; with_reducible exact bpS (BP.drew HP.out))
            | (go_split_ands; with_reducible exact bpS (BP.on (Hid.out (by with_reducible assumption)) hb))
            | fail)
            (first
              | (go_split_ands; go_at_call 74; ((with_reducible refine (CS.out _).mono ?_); rintro e w' ⟨rfl, rfl⟩))
              | (go_split_ands; go_at_call 73; ((with_reducible refine (CE.out _ (by with_reducible assumption)).mono ?_); rintro e w' ⟨rfl, hb⟩))
              | fail)
        all_goals
          go_split_ands
          go_wp2_with fail
          go_loopw [5] (fun i wr => ∃ j : Nat, (j : Int) ≤ n ∧ i = .int .i64 j ∧ Hid (∀ m, m < j → cD r xs ((x - f).toNat + m) ≠ 0) ∧ Hid (BP w f (.slice a l c) r k x n s u wr)) (fun i _ => n.toNat - (intOf i).toNat)
          case atStart => exact ⟨0, by omega, rfl, Lib.hid (fun m hm => by omega), by with_reducible assumption⟩
          case round =>
            obtain ⟨j, hj, rfl, HJ, HP⟩ := hrel
            obtain ⟨b0, b1, b2, p0, p1, p2, p3, p4, -⟩ := bpS HP.out
            by_cases hjn : (j : Int) < n
            · have q1 : IntKind.i64.wrap (x + j) = x + j := IntWalk.i64_in _ (by omega)
              have CC := Lib.hid (fun W hW => CD.out j W hW hjn)
              by_cases hz : cD r xs ((x - f).toNat + j) = 0
              · rw [hz] at CC
                have HR := Lib.hid (HNo.out j (by omega) hz)
                clear hz
                go_wp2_with fail
                with_reducible refine (CC.out _ HP).mono ?_
                rintro e w3 ⟨rfl, hb⟩
                have HB := Lib.hid (HP.out.on hb).low
                clear hb
                go_wp2_with fail
                go_ret
                exact ⟨ret_bool HR.out.symm, HB.out⟩
              · obtain ⟨Z, hZ⟩ : ∃ y_, cD r xs ((x - f).toNat + j) = y_ := ⟨_, rfl⟩
                have HZ := Lib.hid hZ
                rw [hZ] at CC hz
                have hz2 : (Z == 0) = false := by simp [hz]
                clear hZ
                go_wp2_with fail
                with_reducible refine (CC.out _ HP).mono ?_
                rintro e w3 ⟨rfl, hb⟩
                have HP := Lib.hid (HP.out.on hb)
                clear hb
                go_wp2_with fail
                go_roundw
                case rel => exact ⟨j + 1, by omega, by go_num, Lib.hid (fun m hm => by
                  by_cases e : m = j
                  · subst e; rw [HZ.out]; exact hz
                  · exact HJ.out m (by omega)), HP⟩
                case measure => simp [intOf]; omega
            · have HR := Lib.hid (HYes.out (fun m hm => HJ.out m (by omega)))
              go_wp2_with fail
              go_ret
              exact ⟨ret_bool HR.out.symm, HP.out.low⟩
      · have HR : Hid (poB r f xs k x n s u = false) := Lib.hid (poB_e hz)
        obtain ⟨E, hE⟩ : ∃ y_, asE r f xs k x n s = y_ := ⟨_, rfl⟩
        rw [hE] at CE hz
        have hne : (E != 0) = true := by simp [hz]
        clear hE hba
        go_enter Tryz.func41, Tryz.ntmps41
        go_wp2_with fail
        obtain ⟨W1, hW1⟩ : ∃ W1, ((w.alloc (.cells #[.int .i64 f, .slice a l c, .int .i64 r] 28)).alloc (.cells #[.int .i64 k, .int .i64 x, .int .i64 n, .int .i64 s, .int .i64 u] 30)) = W1 := ⟨_, rfl⟩
        rw [hW1] at HP ⊢
        clear hW1
        with_reducible refine (CB.out _ HP).mono ?_
        rintro e w1 ⟨rfl, hb⟩
        have HP := Lib.hid (HP.out.on hb)
        obtain ⟨b0, b1, b2, p0, p1, p2, p3, p4, -⟩ := bpS HP.out
        clear hb CB
        go_wp2_with (go_at_call 72; refine (in_any _ _ _ _).mono ?_; rintro e w' ⟨rfl, rfl⟩)
        go_region_held3 (fun W9 => W9.cell? ⟨w.heap.size, 0, none⟩ = some (.int .i64 f) ∧ W9.cell? ⟨w.heap.size, 1, none⟩ = some (.slice a l c) ∧ W9.cell? ⟨w.heap.size, 2, none⟩ = some (.int .i64 r) ∧ W9.cell? ⟨w.heap.size + 1, 0, none⟩ = some (.int .i64 k) ∧ W9.cell? ⟨w.heap.size + 1, 1, none⟩ = some (.int .i64 x) ∧ W9.cell? ⟨w.heap.size + 1, 2, none⟩ = some (.int .i64 n) ∧ W9.cell? ⟨w.heap.size + 1, 3, none⟩ = some (.int .i64 s) ∧ W9.cell? ⟨w.heap.size + 1, 4, none⟩ = some (.int .i64 u) ∧ Hid (BP w f (.slice a l c) r k x n s u W9))
          (first
            | (go_split_ands; exact ⟨by with_reducible assumption, by with_reducible assumption, by with_reducible assumption, by with_reducible assumption, by with_reducible assumption, by with_reducible assumption, by with_reducible assumption, by with_reducible assumption, by with_reducible assumption⟩)
            | (go_split_ands; with_reducible exact bpS HP.out)
            | (go_split_ands; with_reducible exact bpS (BP.drew HP.out))
            | (go_split_ands; with_reducible exact bpS (BP.on (Hid.out (by with_reducible assumption)) hb))
            | fail)
            (first
              | (go_split_ands; go_at_call 74; ((with_reducible refine (CS.out _).mono ?_); rintro e w' ⟨rfl, rfl⟩))
              | (go_split_ands; go_at_call 73; ((with_reducible refine (CE.out _ (by with_reducible assumption)).mono ?_); rintro e w' ⟨rfl, hb⟩))
              | fail)
        all_goals
          go_split_ands
          go_wp2_with fail
          go_ret
          exact ⟨ret_bool HR.out.symm, bpLow f (.slice a l c) r k x n s u (by with_reducible assumption)⟩
    · have hu2 : inB u 0 1000 = false := by simpa using hu
      have HR : Hid (poB r f xs k x n s u = false) := Lib.hid (poB_u hu2)
      clear hba
      go_enter Tryz.func41, Tryz.ntmps41
      go_wp2_with fail
      obtain ⟨W1, hW1⟩ : ∃ W1, ((w.alloc (.cells #[.int .i64 f, .slice a l c, .int .i64 r] 28)).alloc (.cells #[.int .i64 k, .int .i64 x, .int .i64 n, .int .i64 s, .int .i64 u] 30)) = W1 := ⟨_, rfl⟩
      rw [hW1] at HP ⊢
      clear hW1
      with_reducible refine (CB.out _ HP).mono ?_
      rintro e w1 ⟨rfl, hb⟩
      have HP := Lib.hid (HP.out.on hb)
      obtain ⟨b0, b1, b2, p0, p1, p2, p3, p4, -⟩ := bpS HP.out
      clear hb CB
      go_wp2_with (go_at_call 72; refine (in_any _ _ _ _).mono ?_; rintro e w' ⟨rfl, rfl⟩)
      go_ret
      exact ⟨ret_bool HR.out.symm, HP.out.low⟩
  · have hba2 : baB r f xs = false := by simpa using hba
    have HR : Hid (poB r f xs k x n s u = false) := Lib.hid (poB_ba hba2)
    rw [hba2] at CB
    clear hba hba2
    go_enter Tryz.func41, Tryz.ntmps41
    go_wp2_with fail
    obtain ⟨W1, hW1⟩ : ∃ W1, ((w.alloc (.cells #[.int .i64 f, .slice a l c, .int .i64 r] 28)).alloc (.cells #[.int .i64 k, .int .i64 x, .int .i64 n, .int .i64 s, .int .i64 u] 30)) = W1 := ⟨_, rfl⟩
    rw [hW1] at HP ⊢
    clear hW1
    with_reducible refine (CB.out _ HP).mono ?_
    rintro e w1 ⟨rfl, hb⟩
    have HP := Lib.hid (HP.out.on hb)
    clear hb CB
    go_wp2_with fail
    go_ret
    exact ⟨ret_bool HR.out.symm, HP.out.low⟩

end Go.Proofs.YtnclncglmnbelaaGreat
