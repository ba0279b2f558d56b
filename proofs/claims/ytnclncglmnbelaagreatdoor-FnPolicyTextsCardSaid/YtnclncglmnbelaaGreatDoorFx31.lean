/- Merged: Poo, Pop. -/
import Derived.Test.YtnclncglmnbelaaGreatDoorFx30
import Derived.Lib.SmallJoins

/- Policies: office premiums, the greatest sum for a premium. (Written by wip/gen/poo.py.) -/
namespace Go.Proofs.YtnclncglmnbelaaGreatDoor
open Go.ChangeShapes Go.WideShapes Go.ChangeAt Go.RowKit
open Go.ChangeMaps (setBlock heap_setBlock_same heap_setBlock_other)
set_option linter.unusedVariables false
set_option maxRecDepth 100000

def offV (r f : Int) (xs : List Int) (k x n s u : Int) : Int := if poB r f xs k x n s u = true then offN (netN r f xs k x n s) u else 0

/-- the numbers of an office premium -/
theorem off_nums {r f : Int} {xs : List Int} {k x n s u : Int} (hp : poB r f xs k x n s u = true) : ∃ p : Int, netN r f xs k x n s = p ∧ 0 ≤ p ∧ p ≤ 100000001 ∧ 0 ≤ p * u ∧ p * u ≤ 100000001000 ∧ 0 ≤ u ∧ u ≤ 1000 ∧ p ≤ offN p u ∧ offN p u ≤ 2 * p := by
  obtain ⟨-, -, -, p, -, -, -, e4, -, -, -, -, -, -, p0, p1, -⟩ := po_nums hp
  obtain ⟨-, ⟨u0, u1⟩, -⟩ := poB_iff.1 hp
  obtain ⟨o1, o2, o3, o4⟩ := offN_bd p u p0 p1 u0 u1
  exact ⟨p, e4, p0, p1, o3, o4, u0, u1, o1, o2⟩

set_option maxHeartbeats 1000000 in
theorem soff_any (r f : Int) (xs : List Int) (a : Option Addr) (l c : Nat) (k x n s u : Int) (w : World) (h : Ints w a l xs) (hp : poB r f xs k x n s u = true) :
    Calls Tryz.prog 24 #[.agg #[.int .i64 f, .slice a l c, .int .i64 r], .agg #[.int .i64 k, .int .i64 x, .int .i64 n, .int .i64 s, .int .i64 u]] w fun e w' => e = .returned (.int .i64 (offN (netN r f xs k x n s) u)) ∧ Below w.heap.size w w' := by
  have H := Lib.hid h
  clear h
  have HP := Lib.hid (BP.new w f (.slice a l c) r k x n s u 28 30)
  have CN : Hid (∀ W, Hid (BP w f (.slice a l c) r k x n s u W) → Calls Tryz.prog 49 #[.agg #[.int .i64 f, .slice a l c, .int .i64 r], .agg #[.int .i64 k, .int .i64 x, .int .i64 n, .int .i64 s, .int .i64 u]] W fun e w' => e = .returned (.int .i64 (netN r f xs k x n s)) ∧ Below W.heap.size W w') :=
    Lib.hid (fun W hW => snet_any r f xs a l c k x n s u W (H.out.on hW.out.low) hp)
  obtain ⟨p, e4, p0, p1, o3, o4, u0, u1, o1, o2⟩ := off_nums hp
  rw [e4] at CN ⊢
  unfold offN at o1 o2 ⊢
  have CU := Lib.hid (fun W => up_any (p * u) 1000 W (by omega) (by omega) (by omega))
  obtain ⟨Y, hY⟩ : ∃ y_, -(-(p * u) / 1000) = y_ := ⟨_, rfl⟩
  rw [hY] at CU o1 o2 ⊢
  have q1 : IntKind.i64.wrap (p * u) = p * u := IntWalk.i64_in _ (by omega)
  have q2 : IntKind.i64.wrap (p + Y) = p + Y := IntWalk.i64_in _ (by omega)
  clear e4 hp hY
  go_enter Tryz.func24, Tryz.ntmps24
  go_wp2_with fail
  obtain ⟨W1, hW1⟩ : ∃ W1, ((w.alloc (.cells #[.int .i64 f, .slice a l c, .int .i64 r] 28)).alloc (.cells #[.int .i64 k, .int .i64 x, .int .i64 n, .int .i64 s, .int .i64 u] 30)) = W1 := ⟨_, rfl⟩
  rw [hW1] at HP ⊢
  clear hW1
  with_reducible refine (CN.out _ HP).mono ?_
  rintro e w1 ⟨rfl, hb⟩
  have HP := Lib.hid (HP.out.on hb)
  clear hb
  obtain ⟨b0, b1, b2, p0, p1, p2, p3, p4, -⟩ := bpS HP.out
  go_wp2_with fail
  with_reducible refine (CU.out _).mono ?_
  rintro e w' ⟨rfl, rfl⟩
  go_wp2_with fail
  go_ret
  exact ⟨rfl, HP.out.low⟩

theorem Bx.set3 {w : World} {B : Nat} {x0 x1 x2 x3 x4 : Value} (h : Bx w B [x0, x1, x2, x3, x4]) (z : Value) : Bx (w.setCell ⟨B, 3, none⟩ z) B [x0, x1, x2, z, x4] := by
  obtain ⟨T, h⟩ := h
  exact ⟨T, by rw [Joins.block_setCell h]; rfl⟩

theorem Bx.three9 {w : World} {B : Nat} {x y z : Value} (h : Bx w B [x, y, z]) : w.cell? ⟨B, 0, none⟩ = some x ∧ w.cell? ⟨B, 1, none⟩ = some y ∧ w.cell? ⟨B, 2, none⟩ = some z := by
  obtain ⟨T, h⟩ := h
  simp [World.cell?, h]

/-- while the model looks for a sum -/
structure LS (w : World) (f : Int) (v : Value) (r k x n s u : Int) (W : World) : Prop where
  b : Bx W w.heap.size [.int .i64 f, v, .int .i64 r]
  p : Bx W (w.heap.size + 1) [.int .i64 k, .int .i64 x, .int .i64 n, .int .i64 s, .int .i64 u]
  low : Below w.heap.size w W

theorem LS.on {w : World} {f : Int} {v : Value} {r k x n s u : Int} {W W' : World} (h : LS w f v r k x n s u W) (hb : Below W.heap.size W W') : LS w f v r k x n s u W' := ⟨h.b.on hb, h.p.on hb, h.low.trans (hb.mono h.low.size)⟩

theorem LS.set {w : World} {f : Int} {v : Value} {r k x n s u : Int} {W : World} (h : LS w f v r k x n s u W) (t : Int) : LS w f v r k x n t u (W.setCell ⟨w.heap.size + 1, 3, none⟩ (.int .i64 t)) :=
  ⟨h.b.same (Below.heap_setCell _ _ _ _ (by show w.heap.size ≠ w.heap.size + 1; omega)), h.p.set3 _, h.low.setCell (p := ⟨w.heap.size + 1, 3, none⟩) (by show w.heap.size ≤ w.heap.size + 1; omega) _⟩

theorem LS.new (w : World) (f : Int) (v : Value) (r k x n s u : Int) : LS w f v r k x n s u ((w.alloc (.cells #[.int .i64 f, v, .int .i64 r] 28)).alloc (.cells #[.int .i64 k, .int .i64 x, .int .i64 n, .int .i64 s, .int .i64 u] 30)) := by
  have h1 := Bx.new w [.int .i64 f, v, .int .i64 r] 28
  have hb := box_b (w.alloc (.cells #[.int .i64 f, v, .int .i64 r] 28)) (.cells #[.int .i64 k, .int .i64 x, .int .i64 n, .int .i64 s, .int .i64 u] 30)
  have h2 := Bx.new (w.alloc (.cells #[.int .i64 f, v, .int .i64 r] 28)) [.int .i64 k, .int .i64 x, .int .i64 n, .int .i64 s, .int .i64 u] 30
  rw [World.size_alloc] at h2
  exact ⟨h1.on hb, h2, (box_b _ _).trans (hb.mono (by simp))⟩

set_option maxHeartbeats 4000000 in
theorem ssf_any (r f : Int) (xs : List Int) (a : Option Addr) (l c : Nat) (k x n s u q : Int) (w : World) (h : Ints w a l xs) :
    Calls Tryz.prog 7 #[.agg #[.int .i64 f, .slice a l c, .int .i64 r], .agg #[.int .i64 k, .int .i64 x, .int .i64 n, .int .i64 s, .int .i64 u], .int .i64 q] w (IIPost (sfV r f xs k x n s u q) (sfE r f xs k x n s u q) w) := by
  have H := Lib.hid h
  clear h
  have HP := Lib.hid (LS.new w f (.slice a l c) r k x n s u)
  unfold IIPost
  have CP : Hid (∀ W, LS w f (.slice a l c) r k x n s u W → Calls Tryz.prog 22 #[.agg #[.int .i64 f, .slice a l c, .int .i64 r], .agg #[.int .i64 k, .int .i64 x, .int .i64 n, .int .i64 s, .int .i64 u]] W fun e w' => e = .returned (.bool (poB r f xs k x n s u)) ∧ Below W.heap.size W w') :=
    Lib.hid (fun W hW => spol_any r f xs a l c k x n s u W (H.out.on hW.low))
  by_cases hp : poB r f xs k x n s u = true
  · rw [hp] at CP
    by_cases hq : inB q 1 100000000 = true
    · obtain ⟨q0, q1⟩ := (inB_iff _ _ _).1 hq
      have CO : Hid (∀ t W, LS w f (.slice a l c) r k x n t u W → 1 ≤ t → t ≤ 100000000 → Calls Tryz.prog 24 #[.agg #[.int .i64 f, .slice a l c, .int .i64 r], .agg #[.int .i64 k, .int .i64 x, .int .i64 n, .int .i64 t, .int .i64 u]] W fun e w' => e = .returned (.int .i64 (offN (netN r f xs k x n t) u)) ∧ Below W.heap.size W w') :=
        Lib.hid (fun t W hW t0 t1 => soff_any r f xs a l c k x n t u W (H.out.on hW.low) (poB_sum hp t0 t1))
      have HM := Lib.hid (fun a b hab => off_mono hp a b hab)
      have HE : Hid (∀ g : Int, 0 ≤ g → g ≤ 100000000 → (g = 0 ∨ offN (netN r f xs k x n g) u ≤ q) → (∀ t : Int, g < t → t ≤ 100000000 → q < offN (netN r f xs k x n t) u) → (g = 0 → sfV r f xs k x n s u q = 0 ∧ sfE r f xs k x n s u q = 4) ∧ (g ≠ 0 → sfV r f xs k x n s u q = g ∧ sfE r f xs k x n s u q = 0)) :=
        Lib.hid (fun g g0 g1 hg hn => by
          have e := sfN_eq g g0 g1 hg hn
          constructor
          · intro hz
            have : sfE r f xs k x n s u q = 4 := by unfold sfE; rw [if_pos hp, if_pos hq, e, if_pos hz]
            exact ⟨by unfold sfV; rw [this, if_neg (by decide)], this⟩
          · intro hz
            have : sfE r f xs k x n s u q = 0 := by unfold sfE; rw [if_pos hp, if_pos hq, e, if_neg hz]
            exact ⟨by unfold sfV; rw [this, e, if_pos rfl], this⟩)
      obtain ⟨VV, hVV⟩ : ∃ y_, sfV r f xs k x n s u q = y_ := ⟨_, rfl⟩
      obtain ⟨EE, hEE⟩ : ∃ y_, sfE r f xs k x n s u q = y_ := ⟨_, rfl⟩
      rw [hVV, hEE] at HE ⊢
      clear hVV hEE hp
      go_enter Tryz.func7, Tryz.ntmps7
      go_wp2_with fail
      obtain ⟨W1, hW1⟩ : ∃ W1, ((w.alloc (.cells #[.int .i64 f, .slice a l c, .int .i64 r] 28)).alloc (.cells #[.int .i64 k, .int .i64 x, .int .i64 n, .int .i64 s, .int .i64 u] 30)) = W1 := ⟨_, rfl⟩
      rw [hW1] at HP ⊢
      clear hW1
      with_reducible refine (CP.out _ HP.out).mono ?_
      rintro e w1 ⟨rfl, hb⟩
      have HP := Lib.hid (HP.out.on hb)
      clear hb CP
      go_wp2_with (go_at_call 23; refine (ssum_any _ _).mono ?_; rintro e w' ⟨rfl, rfl⟩)
      go_loopw [8, 9] (fun x' y' wr => ∃ lo hi t : Int, x' = .int .i64 lo ∧ y' = .int .i64 hi ∧ 0 ≤ lo ∧ lo ≤ hi ∧ hi ≤ 100000000 ∧ Hid (lo = 0 ∨ offN (netN r f xs k x n lo) u ≤ q) ∧ Hid (∀ t : Int, hi < t → t ≤ 100000000 → q < offN (netN r f xs k x n t) u) ∧ Hid (LS w f (.slice a l c) r k x n t u wr)) (fun x' y' _ => (intOf y' - intOf x').toNat)
      case atStart => exact ⟨0, 100000000, s, rfl, rfl, by omega, by omega, by omega, Lib.hid (.inl rfl), Lib.hid (fun t h1 h2 => by omega), HP⟩
      case round =>
        clear HP
        obtain ⟨lo, hi, t, rfl, rfl, l0, l1, l2, HA, HI, HP⟩ := hrel
        by_cases hlt : lo < hi
        · obtain ⟨m, hm⟩ : ∃ m, (lo + hi + 1) / 2 = m := ⟨_, rfl⟩
          have m0 : lo < m := by omega
          have m1 : m ≤ hi := by omega
          have hmt : (lo + hi + 1).tdiv 2 = m := by rw [Int.tdiv_eq_ediv_of_nonneg (by omega)]; exact hm
          have g1 : IntKind.i64.wrap (lo + hi) = lo + hi := IntWalk.i64_in _ (by omega)
          have g2 : IntKind.i64.wrap (lo + hi + 1) = lo + hi + 1 := IntWalk.i64_in _ (by omega)
          have g3 : IntKind.i64.wrap m = m := IntWalk.i64_in _ (by omega)
          have CM := Lib.hid (fun W hW => CO.out m W hW (by omega) (by omega))
          have HS := Lib.hid (HP.out.set m)
          have hfz := HP.out.p.free 3
          obtain ⟨b0, b1, b2⟩ := HS.out.b.three9
          obtain ⟨-, -, -, p3, -⟩ := HP.out.p.five0
          obtain ⟨c0, c1, c2, c3, c4⟩ := HS.out.p.five0
          obtain ⟨Z, hZ⟩ : ∃ y_, offN (netN r f xs k x n m) u = y_ := ⟨_, rfl⟩
          have HZ := Lib.hid hZ
          rw [hZ] at CM
          clear hZ hm
          by_cases hle : Z ≤ q
          · go_wp2_with fail
            with_reducible refine (CM.out _ HS.out).mono ?_
            rintro e w3 ⟨rfl, hb⟩
            have HP := Lib.hid (HS.out.on hb)
            obtain ⟨d0, d1, d2, d3, d4⟩ := HP.out.p.five0
            clear hb b0 b1 b2 c0 c1 c2 c3 c4 p3 hfz
            go_wp2_with fail
            go_roundw
            case rel => exact ⟨m, hi, m, rfl, rfl, by omega, by omega, by omega, Lib.hid (.inr (by rw [HZ.out]; exact hle)), HI, HP⟩
            case measure => simp [intOf]; omega
          · have HU : Hid (∀ t : Int, m - 1 < t → t ≤ 100000000 → q < offN (netN r f xs k x n t) u) := Lib.hid (fun t h1 h2 => by
              have := HM.out m t (by omega)
              rw [HZ.out] at this
              omega)
            have g4 : IntKind.i64.wrap (m - 1) = m - 1 := IntWalk.i64_in _ (by omega)
            go_wp2_with fail
            with_reducible refine (CM.out _ HS.out).mono ?_
            rintro e w3 ⟨rfl, hb⟩
            have HP := Lib.hid (HS.out.on hb)
            obtain ⟨d0, d1, d2, d3, d4⟩ := HP.out.p.five0
            clear hb b0 b1 b2 c0 c1 c2 c3 c4 p3 hfz
            go_wp2_with fail
            go_roundw
            case rel => exact ⟨lo, m - 1, m, rfl, rfl, by omega, by omega, by omega, HA, HU, HP⟩
            case measure => simp [intOf]; omega
        · obtain rfl : lo = hi := by omega
          by_cases hz : lo = 0
          · have HV := Lib.hid ((HE.out lo l0 l2 HA.out HI.out).1 hz)
            have hz2 : (lo == 0) = true := by simp [hz]
            go_wp2_with fail
            go_ret2
            exact ⟨ret_ii HV.out.1.symm HV.out.2.symm, HP.out.low⟩
          · have HV := Lib.hid ((HE.out lo l0 l2 HA.out HI.out).2 hz)
            have hz2 : (lo == 0) = false := by simp [hz]
            go_wp2_with fail
            go_ret2
            exact ⟨ret_ii HV.out.1.symm HV.out.2.symm, HP.out.low⟩
    · have hq2 : inB q 1 100000000 = false := by simpa using hq
      have HV : Hid (sfV r f xs k x n s u q = 0 ∧ sfE r f xs k x n s u q = 2) := Lib.hid (by
        have : sfE r f xs k x n s u q = 2 := by unfold sfE; rw [if_pos hp, if_neg hq]
        exact ⟨by unfold sfV; rw [this, if_neg (by decide)], this⟩)
      clear hp hq
      go_enter Tryz.func7, Tryz.ntmps7
      go_wp2_with fail
      obtain ⟨W1, hW1⟩ : ∃ W1, ((w.alloc (.cells #[.int .i64 f, .slice a l c, .int .i64 r] 28)).alloc (.cells #[.int .i64 k, .int .i64 x, .int .i64 n, .int .i64 s, .int .i64 u] 30)) = W1 := ⟨_, rfl⟩
      rw [hW1] at HP ⊢
      clear hW1
      with_reducible refine (CP.out _ HP.out).mono ?_
      rintro e w1 ⟨rfl, hb⟩
      have HP := Lib.hid (HP.out.on hb)
      clear hb CP
      go_wp2_with (go_at_call 23; refine (ssum_any _ _).mono ?_; rintro e w' ⟨rfl, rfl⟩)
      go_ret2
      exact ⟨ret_ii HV.out.1.symm HV.out.2.symm, HP.out.low⟩
  · have hp2 : poB r f xs k x n s u = false := by simpa using hp
    have HV : Hid (sfV r f xs k x n s u q = 0 ∧ sfE r f xs k x n s u q = 1) := Lib.hid (by
      have : sfE r f xs k x n s u q = 1 := by unfold sfE; rw [if_neg hp]
      exact ⟨by unfold sfV; rw [this, if_neg (by decide)], this⟩)
    rw [hp2] at CP
    clear hp hp2
    go_enter Tryz.func7, Tryz.ntmps7
    go_wp2_with fail
    obtain ⟨W1, hW1⟩ : ∃ W1, ((w.alloc (.cells #[.int .i64 f, .slice a l c, .int .i64 r] 28)).alloc (.cells #[.int .i64 k, .int .i64 x, .int .i64 n, .int .i64 s, .int .i64 u] 30)) = W1 := ⟨_, rfl⟩
    rw [hW1] at HP ⊢
    clear hW1
    with_reducible refine (CP.out _ HP.out).mono ?_
    rintro e w1 ⟨rfl, hb⟩
    have HP := Lib.hid (HP.out.on hb)
    clear hb CP
    go_wp2_with fail
    go_ret2
    exact ⟨ret_ii HV.out.1.symm HV.out.2.symm, HP.out.low⟩

end Go.Proofs.YtnclncglmnbelaaGreatDoor

/- Policies: the program's office premium, the greatest sum for a premium. (Written by wip/gen/pop.py.) -/
namespace Go.Proofs.YtnclncglmnbelaaGreatDoor
open Go.ChangeShapes Go.WideShapes Go.ChangeAt Go.RowKit
open Go.ChangeMaps (setBlock heap_setBlock_same heap_setBlock_other)
set_option linter.unusedVariables false
set_option maxRecDepth 100000

/-- the box of a policy, while the tariff's map may grow -/
structure GS (w : World) (R M D : Nat) (r f : Int) (xs : List Int) (v : Value) (k x n s u : Int) (W : World) : Prop where
  tf : TF R M D r f xs v k x n u W
  box : Bx W w.heap.size [.int .i64 k, .int .i64 x, .int .i64 n, .int .i64 s, .int .i64 u]
  but : But M w W
  dl : D < w.heap.size
  rl : R < w.heap.size
  ml : M < w.heap.size

theorem GS.onM {w : World} {R M D : Nat} {r f : Int} {xs : List Int} {v : Value} {k x n s u : Int} {W W' : World} (h : GS w R M D r f xs v k x n s u W) (ht : TF R M D r f xs v k x n u W') (hb : But M W W') : GS w R M D r f xs v k x n s u W' := by
  have hm := h.ml
  exact ⟨ht, h.box.same (hb.block _ h.box.lt (by omega)), h.but.trans hb, h.dl, h.rl, hm⟩

theorem GS.set {w : World} {R M D : Nat} {r f : Int} {xs : List Int} {v : Value} {k x n s u : Int} {W : World} (h : GS w R M D r f xs v k x n s u W) (t : Int) : GS w R M D r f xs v k x n t u (W.setCell ⟨w.heap.size, 3, none⟩ (.int .i64 t)) := by
  have hd := h.dl
  have hr := h.rl
  have hm := h.ml
  have far : ∀ j, j < w.heap.size → (W.setCell ⟨w.heap.size, 3, none⟩ (.int .i64 t)).heap[j]? = W.heap[j]? := fun j hj => Below.heap_setCell _ _ _ _ (by show j ≠ w.heap.size; omega)
  obtain ⟨es, c, hmm, hk⟩ := h.tf.map
  refine ⟨⟨(World.cell?_of_block (w := W) (a := ⟨D, 0, none⟩) (far D hd)).trans h.tf.t0, (World.cell?_of_block (w := W) (a := ⟨D, 1, none⟩) (far D hd)).trans h.tf.t1, h.tf.cols.same (far R hr), es, c, (far M hm).trans hmm, hk⟩, h.box.set3 _, ?_, hd, hr, hm⟩
  exact ⟨h.but.os, h.but.tape, h.but.output, by have := h.but.size; simpa [World.setCell] using this, fun j hj hne => (far j hj).trans (h.but.block j hj hne)⟩

theorem GS.new (R M D : Nat) (r f : Int) (xs : List Int) (v : Value) (k x n s u : Int) (w : World) (h : TF R M D r f xs v k x n u w) : GS w R M D r f xs v k x n s u (w.alloc (.cells #[.int .i64 k, .int .i64 x, .int .i64 n, .int .i64 s, .int .i64 u] 30)) := by
  obtain ⟨es, c, hm, -⟩ := h.map
  exact ⟨h.on (box_b _ _), Bx.new w [.int .i64 k, .int .i64 x, .int .i64 n, .int .i64 s, .int .i64 u] 30, butM_of (box_b _ _), block_lt h.t0, h.cols.lt, mapB_lt hm⟩

set_option maxHeartbeats 1000000 in
theorem ioff_any (R M D : Nat) (r f : Int) (xs : List Int) (v : Value) (k x n s u : Int) (w : World) (h : TF R M D r f xs v k x n u w) (hp : poB r f xs k x n s u = true) :
    Calls Tryz.prog 36 #[.pointer (some ⟨D, 0, none⟩), .agg #[.int .i64 k, .int .i64 x, .int .i64 n, .int .i64 s, .int .i64 u]] w (TPost (offN (netN r f xs k x n s) u) R M D r f xs v k x n u w) := by
  have HP := Lib.hid (GS.new R M D r f xs v k x n s u w h)
  unfold TPost
  have CN : Hid (∀ W, GS w R M D r f xs v k x n s u W → Calls Tryz.prog 60 #[.pointer (some ⟨D, 0, none⟩), .agg #[.int .i64 k, .int .i64 x, .int .i64 n, .int .i64 s, .int .i64 u]] W (TPost (netN r f xs k x n s) R M D r f xs v k x n u W)) :=
    Lib.hid (fun W hW => inet_any R M D r f xs v k x n s u W hW.tf hp)
  unfold TPost at CN
  obtain ⟨p, e4, p0, p1, o3, o4, u0, u1, o1, o2⟩ := off_nums hp
  rw [e4] at CN ⊢
  unfold offN at o1 o2 ⊢
  have CU := Lib.hid (fun W => partUp_any p u 1000 W (by omega) (by omega) u0 u1 (by omega))
  rw [show -(-p * u / 1000) = -(-(p * u) / 1000) by rw [Int.neg_mul]] at CU
  obtain ⟨Y, hY⟩ : ∃ y_, -(-(p * u) / 1000) = y_ := ⟨_, rfl⟩
  rw [hY] at CU o1 o2 ⊢
  have q2 : IntKind.i64.wrap (p + Y) = p + Y := IntWalk.i64_in _ (by omega)
  clear e4 hp hY h
  go_enter Tryz.func36, Tryz.ntmps36
  go_wp2_with fail
  obtain ⟨W0, hW0⟩ : ∃ y_, (w.alloc (.cells #[.int .i64 k, .int .i64 x, .int .i64 n, .int .i64 s, .int .i64 u] 30)) = y_ := ⟨_, rfl⟩
  rw [hW0] at HP ⊢
  clear hW0
  with_reducible refine (CN.out _ HP.out).mono ?_
  rintro e w1 ⟨rfl, ht, hb⟩
  have HP := Lib.hid (HP.out.onM ht hb)
  obtain ⟨c0, c1, c2, c3, c4⟩ := HP.out.box.five0
  clear hb ht
  go_wp2_with fail
  with_reducible refine (CU.out _).mono ?_
  rintro e w' ⟨rfl, rfl⟩
  go_wp2_with fail
  go_ret
  exact ⟨rfl, HP.out.tf, HP.out.but⟩

set_option maxHeartbeats 1000000 in
theorem iop_any (r f : Int) (xs : List Int) (a : Option Addr) (l c : Nat) (k x n s u : Int) (w : World) (h : Ints w a l xs) (hlc : l ≤ c) :
    Calls Tryz.prog 14 #[.agg #[.int .i64 f, .slice a l c, .int .i64 r], .agg #[.int .i64 k, .int .i64 x, .int .i64 n, .int .i64 s, .int .i64 u]] w (IIPost (offV r f xs k x n s u) (poE r f xs k x n s u) w) := by
  have H := Lib.hid h
  clear h
  have HP := Lib.hid (BP.new w f (.slice a l c) r k x n s u 28 30)
  unfold IIPost
  by_cases hp : poB r f xs k x n s u = true
  · have HV : Hid (offV r f xs k x n s u = offN (netN r f xs k x n s) u) := Lib.hid (by unfold offV; rw [if_pos hp])
    rw [HV.out, poE_yes hp]
    have CT : Hid (∀ W, Hid (BP w f (.slice a l c) r k x n s u W) → Calls Tryz.prog 19 #[.agg #[.int .i64 f, .slice a l c, .int .i64 r], .agg #[.int .i64 k, .int .i64 x, .int .i64 n, .int .i64 s, .int .i64 u]] W (TfYes r f xs (.slice a l c) k x n u W)) := Lib.hid (fun W hW => itf_yes r f xs a l c k x n s u W (H.out.on hW.out.low) hlc hp)
    unfold TfYes at CT
    have CN : Hid (∀ R M D W, TF R M D r f xs (.slice a l c) k x n u W → Calls Tryz.prog 36 #[.pointer (some ⟨D, 0, none⟩), .agg #[.int .i64 k, .int .i64 x, .int .i64 n, .int .i64 s, .int .i64 u]] W (TPost (offN (netN r f xs k x n s) u) R M D r f xs (.slice a l c) k x n u W)) :=
      Lib.hid (fun R M D W hW => ioff_any R M D r f xs (.slice a l c) k x n s u W hW hp)
    obtain ⟨Z, hZ⟩ : ∃ y_, offN (netN r f xs k x n s) u = y_ := ⟨_, rfl⟩
    rw [hZ] at CN ⊢
    unfold TPost at CN
    clear hp hZ HV
    go_enter Tryz.func14, Tryz.ntmps14
    go_wp2_with fail
    obtain ⟨W1, hW1⟩ : ∃ W1, ((w.alloc (.cells #[.int .i64 f, .slice a l c, .int .i64 r] 28)).alloc (.cells #[.int .i64 k, .int .i64 x, .int .i64 n, .int .i64 s, .int .i64 u] 30)) = W1 := ⟨_, rfl⟩
    rw [hW1] at HP ⊢
    clear hW1
    with_reducible refine (CT.out _ HP).mono ?_
    rintro e w1 ⟨R, M, D, rfl, htf, hnew, hb⟩
    have HM : Hid (w.heap.size ≤ M) := Lib.hid (Nat.le_trans HP.out.low.size hnew)
    have HP := Lib.hid (HP.out.on hb)
    have HT := Lib.hid htf
    obtain ⟨b0, b1, b2, p0, p1, p2, p3, p4, -⟩ := bpS HP.out
    clear hb htf hnew
    go_wp2_with fail
    with_reducible refine (CN.out R M D _ HT.out).mono ?_
    rintro e w2 ⟨rfl, -, hbm⟩
    have HB := Lib.hid (HP.out.low.trans (hbm.below HM.out HP.out.low.size))
    clear hbm
    go_wp2_with fail
    go_ret2
    exact ⟨rfl, HB.out⟩
  · have hp : poB r f xs k x n s u = false := by simpa using hp
    have HV : Hid (offV r f xs k x n s u = 0) := Lib.hid (by unfold offV; rw [hp]; rfl)
    rw [poE_no hp]
    have CT : Hid (∀ W, Hid (BP w f (.slice a l c) r k x n s u W) → Calls Tryz.prog 19 #[.agg #[.int .i64 f, .slice a l c, .int .i64 r], .agg #[.int .i64 k, .int .i64 x, .int .i64 n, .int .i64 s, .int .i64 u]] W (TfNo W)) := Lib.hid (fun W hW => itf_no r f xs a l c k x n s u W (H.out.on hW.out.low) hlc hp)
    unfold TfNo at CT
    clear hp
    go_enter Tryz.func14, Tryz.ntmps14
    go_wp2_with fail
    obtain ⟨W1, hW1⟩ : ∃ W1, ((w.alloc (.cells #[.int .i64 f, .slice a l c, .int .i64 r] 28)).alloc (.cells #[.int .i64 k, .int .i64 x, .int .i64 n, .int .i64 s, .int .i64 u] 30)) = W1 := ⟨_, rfl⟩
    rw [hW1] at HP ⊢
    clear hW1
    with_reducible refine (CT.out _ HP).mono ?_
    rintro e w1 ⟨rfl, hb⟩
    have HP := Lib.hid (HP.out.on hb)
    obtain ⟨b0, b1, b2, p0, p1, p2, p3, p4, -⟩ := bpS HP.out
    clear hb
    go_wp2_with fail
    go_ret2
    exact ⟨ret_ii HV.out.symm rfl, HP.out.low⟩

/-- the sum that is found: the number and its code -/
def gsV (r f : Int) (xs : List Int) (k x n u q : Int) : Int := sfN r f xs k x n u q

def gsE (r f : Int) (xs : List Int) (k x n u q : Int) : Int := if sfN r f xs k x n u q = 0 then 4 else 0

set_option maxHeartbeats 4000000 in
theorem igs_any (R M D : Nat) (r f : Int) (xs : List Int) (v : Value) (k x n s u q : Int) (w : World) (h : TF R M D r f xs v k x n u w) (hp : poB r f xs k x n s u = true) :
    Calls Tryz.prog 21 #[.pointer (some ⟨D, 0, none⟩), .agg #[.int .i64 k, .int .i64 x, .int .i64 n, .int .i64 s, .int .i64 u], .int .i64 q] w (fun e w' => e = .returned (.tuple #[.int .i64 (gsV r f xs k x n u q), .int .i64 (gsE r f xs k x n u q)]) ∧ But M w w') := by
  have HP := Lib.hid (GS.new R M D r f xs v k x n s u w h)
  have CO : Hid (∀ t W, TF R M D r f xs v k x n u W → 1 ≤ t → t ≤ 100000000 → Calls Tryz.prog 36 #[.pointer (some ⟨D, 0, none⟩), .agg #[.int .i64 k, .int .i64 x, .int .i64 n, .int .i64 t, .int .i64 u]] W (TPost (offN (netN r f xs k x n t) u) R M D r f xs v k x n u W)) :=
    Lib.hid (fun t W hW t0 t1 => ioff_any R M D r f xs v k x n t u W hW (poB_sum hp t0 t1))
  unfold TPost at CO
  have HM := Lib.hid (fun a b hab => off_mono hp a b hab)
  have HE : Hid (∀ g : Int, 0 ≤ g → g ≤ 100000000 → (g = 0 ∨ offN (netN r f xs k x n g) u ≤ q) → (∀ t : Int, g < t → t ≤ 100000000 → q < offN (netN r f xs k x n t) u) → (g = 0 → gsV r f xs k x n u q = 0 ∧ gsE r f xs k x n u q = 4) ∧ (g ≠ 0 → gsV r f xs k x n u q = g ∧ gsE r f xs k x n u q = 0)) :=
    Lib.hid (fun g g0 g1 hg hn => by
      have e := sfN_eq g g0 g1 hg hn
      unfold gsV gsE
      rw [e]
      exact ⟨fun hz => ⟨hz, by rw [if_pos hz]⟩, fun hz => ⟨rfl, by rw [if_neg hz]⟩⟩)
  obtain ⟨VV, hVV⟩ : ∃ y_, gsV r f xs k x n u q = y_ := ⟨_, rfl⟩
  obtain ⟨EE, hEE⟩ : ∃ y_, gsE r f xs k x n u q = y_ := ⟨_, rfl⟩
  rw [hVV, hEE] at HE ⊢
  clear hVV hEE hp h
  go_enter Tryz.func21, Tryz.ntmps21
  go_wp2_with fail
  obtain ⟨W0, hW0⟩ : ∃ y_, (w.alloc (.cells #[.int .i64 k, .int .i64 x, .int .i64 n, .int .i64 s, .int .i64 u] 30)) = y_ := ⟨_, rfl⟩
  rw [hW0] at HP ⊢
  clear hW0
  go_loopw [8, 9] (fun x' y' wr => ∃ lo hi t : Int, x' = .int .i64 lo ∧ y' = .int .i64 hi ∧ 1 ≤ lo ∧ lo ≤ hi ∧ hi ≤ 100000000 ∧ Hid (lo = 1 ∨ offN (netN r f xs k x n lo) u ≤ q) ∧ Hid (∀ t : Int, hi < t → t ≤ 100000000 → q < offN (netN r f xs k x n t) u) ∧ Hid (GS w R M D r f xs v k x n t u wr)) (fun x' y' _ => (intOf y' - intOf x').toNat)
  case atStart => exact ⟨1, 100000000, s, rfl, rfl, by omega, by omega, by omega, Lib.hid (.inl rfl), Lib.hid (fun t h1 h2 => by omega), HP⟩
  case round =>
    clear HP
    obtain ⟨lo, hi, t, rfl, rfl, l0, l1, l2, HA, HI, HP⟩ := hrel
    by_cases hlt : lo < hi
    · obtain ⟨m0, hm0⟩ : ∃ m, (hi - lo) / 2 = m := ⟨_, rfl⟩
      obtain ⟨m, hm⟩ : ∃ m, hi - m0 = m := ⟨_, rfl⟩
      have y0 : lo < m := by omega
      have y1 : m ≤ hi := by omega
      have hmt : (hi - lo).tdiv 2 = m0 := by rw [Int.tdiv_eq_ediv_of_nonneg (by omega)]; exact hm0
      have g1 : IntKind.i64.wrap (hi - lo) = hi - lo := IntWalk.i64_in _ (by omega)
      have g2 : IntKind.i64.wrap m0 = m0 := IntWalk.i64_in _ (by omega)
      have g3 : IntKind.i64.wrap (hi - m0) = m := by rw [hm]; exact IntWalk.i64_in _ (by omega)
      have g5 : IntKind.i64.wrap m = m := IntWalk.i64_in _ (by omega)
      have CM := Lib.hid (fun W hW => CO.out m W hW (by omega) (by omega))
      have HS := Lib.hid (HP.out.set m)
      have hfz := HP.out.box.free 3
      obtain ⟨-, -, -, p3, -⟩ := HP.out.box.five0
      obtain ⟨c0, c1, c2, c3, c4⟩ := HS.out.box.five0
      obtain ⟨Z, hZ⟩ : ∃ y_, offN (netN r f xs k x n m) u = y_ := ⟨_, rfl⟩
      have HZ := Lib.hid hZ
      rw [hZ] at CM
      have HMM := Lib.hid hm
      clear hZ
      by_cases hle : Z ≤ q
      · go_wp2_with fail
        with_reducible refine (CM.out _ HS.out.tf).mono ?_
        rintro e w3 ⟨rfl, ht, hb⟩
        have HP := Lib.hid (HS.out.onM ht hb)
        obtain ⟨d0, d1, d2, d3, d4⟩ := HP.out.box.five0
        clear hb ht c0 c1 c2 c3 c4 p3 hfz
        go_wp2_with fail
        go_roundw
        case rel => exact ⟨m, hi, m, rfl, rfl, by omega, by omega, by omega, Lib.hid (.inr (by rw [HZ.out]; exact hle)), HI, HP⟩
        case measure => simp [intOf]; omega
      · have HU : Hid (∀ t : Int, m - 1 < t → t ≤ 100000000 → q < offN (netN r f xs k x n t) u) := Lib.hid (fun t h1 h2 => by
          have := HM.out m t (by omega)
          rw [HZ.out] at this
          omega)
        have g4 : IntKind.i64.wrap (m - 1) = m - 1 := IntWalk.i64_in _ (by omega)
        go_wp2_with fail
        with_reducible refine (CM.out _ HS.out.tf).mono ?_
        rintro e w3 ⟨rfl, ht, hb⟩
        have HP := Lib.hid (HS.out.onM ht hb)
        obtain ⟨d0, d1, d2, d3, d4⟩ := HP.out.box.five0
        clear hb ht c0 c1 c2 c3 c4 p3 hfz
        go_wp2_with fail
        go_roundw
        case rel => exact ⟨lo, m - 1, m, rfl, rfl, by omega, by omega, by omega, HA, HU, HP⟩
        case measure => simp [intOf]; omega
    · obtain rfl : lo = hi := by omega
      have CM := Lib.hid (fun W hW => CO.out lo W hW (by omega) (by omega))
      have HS := Lib.hid (HP.out.set lo)
      have hfz := HP.out.box.free 3
      obtain ⟨-, -, -, p3, -⟩ := HP.out.box.five0
      obtain ⟨c0, c1, c2, c3, c4⟩ := HS.out.box.five0
      obtain ⟨Z, hZ⟩ : ∃ y_, offN (netN r f xs k x n lo) u = y_ := ⟨_, rfl⟩
      have HZ := Lib.hid hZ
      rw [hZ] at CM
      clear hZ
      by_cases hgt : q < Z
      · have HV : Hid (VV = 0 ∧ EE = 4) := Lib.hid (by
          have h1 : lo = 1 := by
            rcases HA.out with h | h
            · exact h
            · rw [HZ.out] at h; omega
          refine (HE.out 0 (by omega) (by omega) (.inl rfl) (fun t h2 h3 => ?_)).1 rfl
          by_cases h4 : t = 1
          · subst h4; rw [← h1, HZ.out]; exact hgt
          · exact HI.out t (by omega) h3)
        go_wp2_with fail
        with_reducible refine (CM.out _ HS.out.tf).mono ?_
        rintro e w3 ⟨rfl, ht, hb⟩
        have HP := Lib.hid (HS.out.onM ht hb)
        clear hb ht
        go_wp2_with fail
        go_ret2
        exact ⟨ret_ii HV.out.1.symm HV.out.2.symm, HP.out.but⟩
      · have HV := Lib.hid ((HE.out lo (by omega) l2 (.inr (by rw [HZ.out]; omega)) HI.out).2 (by omega))
        go_wp2_with fail
        with_reducible refine (CM.out _ HS.out.tf).mono ?_
        rintro e w3 ⟨rfl, ht, hb⟩
        have HP := Lib.hid (HS.out.onM ht hb)
        clear hb ht
        go_wp2_with fail
        go_ret2
        exact ⟨ret_ii HV.out.1.symm HV.out.2.symm, HP.out.but⟩

set_option maxHeartbeats 1000000 in
theorem isf_any (r f : Int) (xs : List Int) (a : Option Addr) (l c : Nat) (k x n s u q : Int) (w : World) (h : Ints w a l xs) (hlc : l ≤ c) :
    Calls Tryz.prog 6 #[.agg #[.int .i64 f, .slice a l c, .int .i64 r], .agg #[.int .i64 k, .int .i64 x, .int .i64 n, .int .i64 s, .int .i64 u], .int .i64 q] w (IIPost (sfV r f xs k x n s u q) (sfE r f xs k x n s u q) w) := by
  have H := Lib.hid h
  clear h
  have HP := Lib.hid (BP.new w f (.slice a l c) r k x n s u 28 30)
  unfold IIPost
  by_cases hp : poB r f xs k x n s u = true
  · by_cases hq : inB q 1 100000000 = true
    · have HV : Hid (gsV r f xs k x n u q = sfV r f xs k x n s u q ∧ gsE r f xs k x n u q = sfE r f xs k x n s u q) := Lib.hid (by
        unfold gsV gsE sfV sfE
        rw [if_pos hp, if_pos hq]
        by_cases hz : sfN r f xs k x n u q = 0
        · rw [if_pos hz, hz, if_neg (by decide)]; exact ⟨rfl, rfl⟩
        · rw [if_neg hz, if_pos rfl]; exact ⟨rfl, rfl⟩)
      have CT : Hid (∀ W, Hid (BP w f (.slice a l c) r k x n s u W) → Calls Tryz.prog 19 #[.agg #[.int .i64 f, .slice a l c, .int .i64 r], .agg #[.int .i64 k, .int .i64 x, .int .i64 n, .int .i64 s, .int .i64 u]] W (TfYes r f xs (.slice a l c) k x n u W)) := Lib.hid (fun W hW => itf_yes r f xs a l c k x n s u W (H.out.on hW.out.low) hlc hp)
      unfold TfYes at CT
      have CN : Hid (∀ R M D W, TF R M D r f xs (.slice a l c) k x n u W → Calls Tryz.prog 21 #[.pointer (some ⟨D, 0, none⟩), .agg #[.int .i64 k, .int .i64 x, .int .i64 n, .int .i64 s, .int .i64 u], .int .i64 q] W (fun e w' => e = .returned (.tuple #[.int .i64 (gsV r f xs k x n u q), .int .i64 (gsE r f xs k x n u q)]) ∧ But M W w')) :=
        Lib.hid (fun R M D W hW => igs_any R M D r f xs (.slice a l c) k x n s u q W hW hp)
      rw [HV.out.1, HV.out.2] at CN
      obtain ⟨Z, hZ⟩ : ∃ y_, sfV r f xs k x n s u q = y_ := ⟨_, rfl⟩
      obtain ⟨E, hE⟩ : ∃ y_, sfE r f xs k x n s u q = y_ := ⟨_, rfl⟩
      rw [hZ, hE] at CN ⊢
      clear hp hZ hE HV
      go_enter Tryz.func6, Tryz.ntmps6
      go_wp2_with fail
      obtain ⟨W1, hW1⟩ : ∃ W1, ((w.alloc (.cells #[.int .i64 f, .slice a l c, .int .i64 r] 28)).alloc (.cells #[.int .i64 k, .int .i64 x, .int .i64 n, .int .i64 s, .int .i64 u] 30)) = W1 := ⟨_, rfl⟩
      rw [hW1] at HP ⊢
      clear hW1
      with_reducible refine (CT.out _ HP).mono ?_
      rintro e w1 ⟨R, M, D, rfl, htf, hnew, hb⟩
      have HM : Hid (w.heap.size ≤ M) := Lib.hid (Nat.le_trans HP.out.low.size hnew)
      have HP := Lib.hid (HP.out.on hb)
      have HT := Lib.hid htf
      obtain ⟨b0, b1, b2, p0, p1, p2, p3, p4, -⟩ := bpS HP.out
      clear hb htf hnew
      go_wp2_with (go_at_call 20; refine (within_any _ _ _ _).mono ?_; rintro e w' ⟨rfl, rfl⟩)
      with_reducible refine (CN.out R M D _ HT.out).mono ?_
      rintro e w2 ⟨rfl, hbm⟩
      have HB := Lib.hid (HP.out.low.trans (hbm.below HM.out HP.out.low.size))
      clear hbm
      go_wp2_with fail
      go_ret2
      exact ⟨rfl, HB.out⟩
    · have hq2 : inB q 1 100000000 = false := by simpa using hq
      have HV : Hid (sfV r f xs k x n s u q = 0 ∧ sfE r f xs k x n s u q = 2) := Lib.hid (by
        have : sfE r f xs k x n s u q = 2 := by unfold sfE; rw [if_pos hp, if_neg hq]
        exact ⟨by unfold sfV; rw [this, if_neg (by decide)], this⟩)
      have CT : Hid (∀ W, Hid (BP w f (.slice a l c) r k x n s u W) → Calls Tryz.prog 19 #[.agg #[.int .i64 f, .slice a l c, .int .i64 r], .agg #[.int .i64 k, .int .i64 x, .int .i64 n, .int .i64 s, .int .i64 u]] W (TfYes r f xs (.slice a l c) k x n u W)) := Lib.hid (fun W hW => itf_yes r f xs a l c k x n s u W (H.out.on hW.out.low) hlc hp)
      unfold TfYes at CT
      clear hp hq
      go_enter Tryz.func6, Tryz.ntmps6
      go_wp2_with fail
      obtain ⟨W1, hW1⟩ : ∃ W1, ((w.alloc (.cells #[.int .i64 f, .slice a l c, .int .i64 r] 28)).alloc (.cells #[.int .i64 k, .int .i64 x, .int .i64 n, .int .i64 s, .int .i64 u] 30)) = W1 := ⟨_, rfl⟩
      rw [hW1] at HP ⊢
      clear hW1
      with_reducible refine (CT.out _ HP).mono ?_
      rintro e w1 ⟨R, M, D, rfl, htf, hnew, hb⟩
      have HM : Hid (w.heap.size ≤ M) := Lib.hid (Nat.le_trans HP.out.low.size hnew)
      have HP := Lib.hid (HP.out.on hb)
      have HT := Lib.hid htf
      obtain ⟨b0, b1, b2, p0, p1, p2, p3, p4, -⟩ := bpS HP.out
      clear hb htf hnew
      go_wp2_with (go_at_call 20; refine (within_any _ _ _ _).mono ?_; rintro e w' ⟨rfl, rfl⟩)
      go_ret2
      exact ⟨ret_ii HV.out.1.symm HV.out.2.symm, HP.out.low⟩
  · have HV : Hid (sfV r f xs k x n s u q = 0 ∧ sfE r f xs k x n s u q = 1) := Lib.hid (by
      have : sfE r f xs k x n s u q = 1 := by unfold sfE; rw [if_neg hp]
      exact ⟨by unfold sfV; rw [this, if_neg (by decide)], this⟩)
    have hp : poB r f xs k x n s u = false := by simpa using hp
    have CT : Hid (∀ W, Hid (BP w f (.slice a l c) r k x n s u W) → Calls Tryz.prog 19 #[.agg #[.int .i64 f, .slice a l c, .int .i64 r], .agg #[.int .i64 k, .int .i64 x, .int .i64 n, .int .i64 s, .int .i64 u]] W (TfNo W)) := Lib.hid (fun W hW => itf_no r f xs a l c k x n s u W (H.out.on hW.out.low) hlc hp)
    unfold TfNo at CT
    clear hp
    go_enter Tryz.func6, Tryz.ntmps6
    go_wp2_with fail
    obtain ⟨W1, hW1⟩ : ∃ W1, ((w.alloc (.cells #[.int .i64 f, .slice a l c, .int .i64 r] 28)).alloc (.cells #[.int .i64 k, .int .i64 x, .int .i64 n, .int .i64 s, .int .i64 u] 30)) = W1 := ⟨_, rfl⟩
    rw [hW1] at HP ⊢
    clear hW1
    with_reducible refine (CT.out _ HP).mono ?_
    rintro e w1 ⟨rfl, hb⟩
    have HP := Lib.hid (HP.out.on hb)
    obtain ⟨b0, b1, b2, p0, p1, p2, p3, p4, -⟩ := bpS HP.out
    clear hb
    go_wp2_with fail
    go_ret2
    exact ⟨ret_ii HV.out.1.symm HV.out.2.symm, HP.out.low⟩

end Go.Proofs.YtnclncglmnbelaaGreatDoor
