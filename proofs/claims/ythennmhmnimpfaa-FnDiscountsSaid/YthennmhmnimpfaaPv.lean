/- PresentValue of the program and of its model: one Lean function for both. -/
import Derived.Test.YthennmhmnimpfaaDsum
import Derived.Test.YthennmhmnimpfaaSum
namespace Go.Proofs.Ythennmhmnimpfaa
open Go.ChangeShapes Go.WideShapes Go.ChangeAt Go.RowKit
set_option linter.unusedVariables false
set_option maxRecDepth 100000

/-- the sum of the first k payments, each times its discount -/
def pvS (r : Int) (xs : List Int) : Nat → Int
  | 0 => 0
  | k + 1 => pvS r xs k + xs.getD k 0 * disc r k

def pvB (xs : List Int) (r : Int) : Bool := (xs.all (fun x => inB x 0 1000000000) && decide ((xs.length : Int) ≤ 120)) && rateB r

def pvV (xs : List Int) (r : Int) : Int := if pvB xs r then -(-(pvS r xs xs.length) / 1000000000) else 0

def pvE (xs : List Int) (r : Int) : Int := if pvB xs r then 0 else 2

theorem pvB_iff (xs : List Int) (r : Int) : pvB xs r = true ↔ ((∀ i, i < xs.length → inB (xs.getD i 0) 0 1000000000 = true) ∧ xs.length ≤ 120) ∧ rateB r = true := by
  unfold pvB
  rw [Bool.and_eq_true, Bool.and_eq_true, List.all_eq_true, decide_eq_true_iff]
  constructor
  · rintro ⟨⟨h1, h2⟩, h3⟩
    exact ⟨⟨fun i hi => h1 _ (by simp [List.getD, List.getElem?_eq_getElem hi]), by omega⟩, h3⟩
  · rintro ⟨⟨h1, h2⟩, h3⟩
    refine ⟨⟨fun x hx => ?_, by omega⟩, h3⟩
    obtain ⟨i, hi, rfl⟩ := List.getElem_of_mem hx
    have := h1 i hi
    simpa [List.getD, List.getElem?_eq_getElem hi] using this

/-- a payment times a discount, told for the walks -/
theorem prod_step (x d : Int) (x0 : 0 ≤ x) (x1 : x ≤ 1000000000) (d0 : 0 ≤ d) (d1 : d ≤ 1000000000) :
    ∃ q t : Int, x * d = q * 1000000000 + t ∧ 0 ≤ q ∧ q ≤ 1000000000 ∧ 0 ≤ t ∧ t < 1000000000 ∧ 0 ≤ x * d ∧ x * d ≤ 1000000000000000000 ∧ IntKind.i64.wrap ((x * d).tdiv 1000000000) = q ∧ IntKind.i64.wrap ((x * d).tmod 1000000000) = t := by
  have p0 : 0 ≤ x * d := Int.mul_nonneg x0 d0
  have p1 : x * d ≤ 1000000000 * 1000000000 := Int.le_trans (Int.mul_le_mul_of_nonneg_left d1 x0) (Int.mul_le_mul_of_nonneg_right x1 (by omega))
  refine ⟨x * d / 1000000000, x * d % 1000000000, by omega, by omega, by omega, by omega, by omega, p0, by omega, ?_, ?_⟩
  · rw [Int.tdiv_eq_ediv_of_nonneg p0]; exact IntWalk.i64_in _ (by omega)
  · rw [Int.tmod_eq_emod_of_nonneg p0]; exact IntWalk.i64_in _ (by omega)

theorem parts_any (c s x d : Int) (w : World) (c0 : 0 ≤ c) (c1 : c ≤ 1000000000000) (s0 : 0 ≤ s) (s1 : s < 1000000000) (x0 : 0 ≤ x) (x1 : x ≤ 1000000000) (d0 : 0 ≤ d) (d1 : d ≤ 1000000000) :
    Calls Try.prog 59 #[.int .i64 c, .int .i64 s, .int .i64 x, .int .i64 d] w fun e w' => e = .returned (.tuple #[.int .i64 ((c * 1000000000 + s + x * d) / 1000000000), .int .i64 ((c * 1000000000 + s + x * d) % 1000000000)]) ∧ w = w' := by
  obtain ⟨q, t, he, q0, q1, t0, t1, p0, p1, hd, hm⟩ := prod_step x d x0 x1 d0 d1
  have HE := Lib.hid he
  clear he
  have f1 : IntKind.i64.wrap ((s + t).tdiv 1000000000) = (s + t) / 1000000000 := by rw [Int.tdiv_eq_ediv_of_nonneg (by omega)]; exact IntWalk.i64_in _ (by omega)
  have f2 : IntKind.i64.wrap ((s + t).tmod 1000000000) = (s + t) % 1000000000 := by rw [Int.tmod_eq_emod_of_nonneg (by omega)]; exact IntWalk.i64_in _ (by omega)
  go_enter Try.func59, Try.ntmps59
  go_wp2_with fail
  go_ret2
  have h := HE.out
  exact ⟨ret_ii (by omega) (by omega), rfl⟩

theorem quiet_sym {P : Program} {f : FuncId} {args : Array Value} {w : World} {n : Nat} {v : Value}
    (h : Calls P f args (w.drewN n) fun e w' => e = .returned v ∧ w.drewN n = w') : Calls P f args (w.drewN n) fun e w'' => e = .returned v ∧ ∃ m, w'' = w.drewN m :=
  Calls.quiet_of_same (h.mono fun _ _ h => ⟨h.1, h.2.symm⟩)

theorem ret_eq {a b : Int} (h : a = b) : Value.int .i64 a = .int .i64 b := by rw [h]

theorem pv_spec (xs : List Int) (a : Option Addr) (l c : Nat) (r : Int) (w : World) (h : Ints w a l xs) :
    Calls Try.prog 22 #[.slice a l c, .int .i64 r] w fun e w' => e = .returned (.tuple #[.int .i64 (pvV xs r), .int .i64 (pvE xs r)]) ∧ Below w.heap.size w w' := by
  have H := Lib.hid h
  have HL := Lib.hid h.len
  have hw := fun W (hW : Ints W a l xs) => inAll_any xs a l c 120 0 1000000000 W hW
  obtain ⟨t, ht⟩ : ∃ t, (xs.all (fun x => inB x 0 1000000000) && decide ((l : Int) ≤ 120)) = t := ⟨_, rfl⟩
  have hp : pvB xs r = (t && rateB r) := by rw [← ht, ← h.len]; rfl
  rw [ht] at hw
  clear h
  have HW := Lib.hid hw
  clear hw
  by_cases hb : pvB xs r = true
  · obtain ⟨⟨g1, g2⟩, g3⟩ := (pvB_iff _ _).1 hb
    obtain ⟨r0, r1⟩ := (inB_iff _ _ _).1 g3
    have e1 : t = true := by rw [hp, Bool.and_eq_true] at hb; exact hb.1
    have l1 : l ≤ 120 := by rw [← HL.out]; exact g2
    have HA := Lib.hid g1
    have HB := Lib.hid hb
    clear g1 g2 hp ht hb
    subst e1
    go_enter Try.func22, Try.ntmps22
    go_wp2_with (first | (go_at_call 58; refine (HW.out _ H.out).mono ?_; rintro e w' ⟨rfl, rfl⟩) | (go_at_call 51; refine (sRate_any _ _).mono ?_; rintro e w' ⟨rfl, rfl⟩))
    go_loopw [6, 7, 8] (fun u v i wr => ∃ k : Nat, k ≤ l ∧ i = .int .i64 k ∧ u = .int .i64 (pvS r xs k / 1000000000) ∧ v = .int .i64 (pvS r xs k % 1000000000) ∧ Hid (0 ≤ pvS r xs k ∧ pvS r xs k ≤ k * 1000000000000000000) ∧ Hid (∃ m, wr = w.drewN m)) (fun _ _ i _ => l - (intOf i).toNat)
    case atStart => exact ⟨0, by omega, rfl, rfl, rfl, Lib.hid (by simp [pvS]), Lib.hid ⟨0, rfl⟩⟩
    case round =>
      obtain ⟨k, hk, rfl, rfl, rfl, HS, HM⟩ := hrel
      have HI : Hid (Ints wr a l xs) := Lib.hid (by obtain ⟨m, hm⟩ := HM.out; rw [hm]; exact H.out.drewN m)
      have hS := HS.out
      have hcb : 0 ≤ pvS r xs k / 1000000000 ∧ pvS r xs k / 1000000000 ≤ 130000000000 := by omega
      have htb : 0 ≤ pvS r xs k % 1000000000 ∧ pvS r xs k % 1000000000 < 1000000000 := by omega
      clear hS
      obtain ⟨C, hC⟩ : ∃ C, pvS r xs k / 1000000000 = C := ⟨_, rfl⟩
      obtain ⟨T, hT⟩ : ∃ T, pvS r xs k % 1000000000 = T := ⟨_, rfl⟩
      rw [hC] at hcb ⊢
      rw [hT] at htb ⊢
      have HC := Lib.hid hC
      have HT := Lib.hid hT
      obtain ⟨c0, c1⟩ := hcb
      obtain ⟨t0, t1⟩ := htb
      clear hC hT
      by_cases hlt : k < l
      · rcases HI.out.cells with h0 | ⟨b, off, rfl, hc⟩
        · omega
        have hx := hc k hlt
        obtain ⟨x0, x1⟩ := (inB_iff _ _ _).1 (HA.out k (by rw [HL.out]; exact hlt))
        obtain ⟨d0, d1⟩ := disc_bd r r0 k
        obtain ⟨q, t, he, q0, q1, u0, u1, p0, p1, hd, hm⟩ := prod_step _ _ x0 x1 d0 d1
        have HE := Lib.hid he
        have HP := Lib.hid p1
        have HS1 : Hid (pvS r xs (k + 1) = pvS r xs k + xs.getD k 0 * disc r k) := Lib.hid rfl
        have hdc := fun W => sdisc_any r k W r0 r1 (by omega)
        obtain ⟨D, hD⟩ : ∃ D, disc r k = D := ⟨_, rfl⟩
        obtain ⟨X, hX⟩ : ∃ X, xs.getD k 0 = X := ⟨_, rfl⟩
        simp only [hD] at hdc
        rw [hX] at hx x0 x1
        rw [hD] at d0 d1
        rw [hD, hX] at HE HS1 HP
        have HDC := Lib.hid hdc
        have HC2 := Lib.hid hc
        clear he hd hm p0 p1 hdc hc hX hD
        have hpt := fun W => parts_any C T X D W c0 (by omega) t0 t1 x0 x1 d0 d1
        obtain ⟨C2, hC2⟩ : ∃ y, (C * 1000000000 + T + X * D) / 1000000000 = y := ⟨_, rfl⟩
        obtain ⟨T2, hT2⟩ : ∃ y, (C * 1000000000 + T + X * D) % 1000000000 = y := ⟨_, rfl⟩
        simp only [hC2, hT2] at hpt
        have HPT := Lib.hid hpt
        have HC3 := Lib.hid hC2
        have HT3 := Lib.hid hT2
        clear hpt hC2 hT2
        go_wp2_with fail
        go_quiet (first | (go_at_call 53; exact quiet_sym (HDC.out _)) | (go_at_call 59; exact quiet_sym (HPT.out _)))
        go_wp2_with fail
        go_roundw
        case rel =>
          have s1 := HS1.out
          have s2 := HE.out
          have s3 := HC.out
          have s4 := HT.out
          have s5 := HC3.out
          have s6 := HT3.out
          have s7 := HS.out
          have s8 := HP.out
          refine ⟨k + 1, by omega, by go_num, ret_eq (by omega), ret_eq (by omega), Lib.hid (by omega), Lib.hid ?_⟩
          obtain ⟨m, hm⟩ := HM.out
          exact ⟨m + nq, by rw [hm, World.drewN_drewN]⟩
        case measure => simp [intOf]; omega
      · go_wp2_with fail
        all_goals
          go_ret2
          obtain rfl : k = l := by omega
          have e1 := HC.out
          have e2 := HT.out
          have e3 := HL.out
          obtain ⟨m, hm⟩ := HM.out
          exact ⟨ret_ii (by simp only [pvV, HB.out, if_true, e3]; omega) (by simp [pvE, HB.out]), by rw [hm]; exact below_drewN (Below.refl _ _) _⟩
  · have HB := Lib.hid hb
    have HP := Lib.hid hp
    clear hb hp ht
    cases t <;> cases h2 : rateB r
    case true.true => exact absurd (by rw [HP.out, h2]; rfl) HB.out
    all_goals
      go_enter Try.func22, Try.ntmps22
      go_wp2_with (first | (go_at_call 58; refine (HW.out _ H.out).mono ?_; rintro e w' ⟨rfl, rfl⟩) | (go_at_call 51; refine (sRate_any _ _).mono ?_; rintro e w' ⟨rfl, rfl⟩))
      go_ret2
      exact ⟨ret_ii (by simp [pvV, HB.out]) (by simp [pvE, HB.out]), Below.refl _ _⟩

theorem pv_impl (xs : List Int) (a : Option Addr) (l c : Nat) (r : Int) (w : World) (h : Ints w a l xs) :
    Calls Try.prog 21 #[.slice a l c, .int .i64 r] w fun e w' => e = .returned (.tuple #[.int .i64 (pvV xs r), .int .i64 (pvE xs r)]) ∧ Below w.heap.size w w' := by
  have hm := h.max
  have H := Lib.hid h
  have HL := Lib.hid h.len
  clear h
  by_cases h1 : l ≤ 120
  · by_cases h2 : rateB r = true
    · obtain ⟨r0, r1⟩ := (inB_iff _ _ _).1 h2
      have hst := store_dsc r w
      have HLT := Lib.hid H.out.lt
      go_enter Try.func21, Try.ntmps21
      go_wp2_with (go_at_call 48; refine (isRate_any _ _).mono ?_; rintro e w' ⟨rfl, rfl⟩)
      have HD0 := Lib.hid (db_new r w)
      have HB0 : Hid (Below w.heap.size w (w.alloc (.cells (dcells r 0 0 z121) 64))) := Lib.hid ((Below.refl w.heap.size w).alloc (Nat.le_refl _) _)
      obtain ⟨w0, hw0⟩ : ∃ x, w.alloc (.cells (dcells r 0 0 z121) 64) = x := ⟨_, rfl⟩
      rw [hw0] at HD0 HB0 ⊢
      clear hw0 hst
      go_loopw [7, 8, 24] (fun u v i wr => ∃ (k : Nat) (C T : Int), k ≤ l ∧ i = .int .i64 k ∧ u = .int .i64 C ∧ v = .int .i64 T ∧ 0 ≤ C ∧ C ≤ k * 1000000000 ∧ 0 ≤ T ∧ T ≤ k * 1000000000 ∧ Hid (C * 1000000000 + T = pvS r xs k) ∧ Hid (∀ j, j < k → inB (xs.getD j 0) 0 1000000000 = true) ∧ Hid (DB wr w.heap.size r) ∧ Hid (Below w.heap.size w wr)) (fun _ _ i _ => l - (intOf i).toNat)
      case atStart => exact ⟨0, 0, 0, by omega, rfl, rfl, rfl, by omega, by omega, by omega, by omega, Lib.hid (by simp [pvS]), Lib.hid (fun j hj => absurd hj (by omega)), HD0, HB0⟩
      case round =>
        obtain ⟨k, C, T, hk, rfl, rfl, rfl, c0, c1, t0, t1, HS, HA, HD, HB⟩ := hrel
        by_cases hlt : k < l
        · rcases H.out.cells with h0 | ⟨b, off, rfl, hc⟩
          · omega
          have hb : b < w.heap.size := HLT.out _ rfl (by omega)
          have hx := hc k hlt
          rw [← HB.out.cell (p := ⟨b, off + k, none⟩) hb] at hx
          have HC := Lib.hid hc
          clear hc
          by_cases hin : inB (xs.getD k 0) 0 1000000000 = true
          · obtain ⟨x0, x1⟩ := (inB_iff _ _ _).1 hin
            obtain ⟨d0, d1⟩ := disc_bd r r0 k
            obtain ⟨q, t, he, q0, q1, u0, u1, p0, p1, hd, hm2⟩ := prod_step _ _ x0 x1 d0 d1
            clear q0 q1 u0 u1 he hd hm2 q t
            have HS1 : Hid (pvS r xs (k + 1) = pvS r xs k + xs.getD k 0 * disc r k) := Lib.hid rfl
            have haf := after_any w.heap.size r k _ HD.out r0 r1 (by omega)
            have HA2 : Hid (∀ j, j < k + 1 → inB (xs.getD j 0) 0 1000000000 = true) := Lib.hid fun j hj => by
              by_cases hjk : j = k
              · subst hjk; exact hin
              · exact HA.out j (by omega)
            obtain ⟨D, hD⟩ : ∃ D, disc r k = D := ⟨_, rfl⟩
            obtain ⟨X, hX⟩ : ∃ X, xs.getD k 0 = X := ⟨_, rfl⟩
            rw [hX] at hx x0 x1 hin
            rw [hD] at d0 d1 haf
            rw [hD, hX] at HS1 p0 p1
            have hamt : amtB X = true := hin
            have HAF := Lib.hid haf
            clear haf hX hD hin
            go_wp2_with (go_at_call 56; refine (isAmount_any _ _).mono ?_; rintro e w' ⟨rfl, rfl⟩)
            refine HAF.out.mono ?_
            rintro e w2 ⟨rfl, hdb, hbl⟩
            have HD2 := Lib.hid hdb
            have HB2 := Lib.hid (HB.out.trans (hbl.below (Nat.le_refl _)))
            clear hdb hbl
            go_wp2_with fail
            go_roundw
            case rel => exact ⟨k + 1, C + X * D / 1000000000, T + X * D % 1000000000, by omega, by go_num, by first | rfl | go_num | exact ret_eq (by omega), by first | rfl | go_num | exact ret_eq (by omega), by omega, by omega, by omega, by omega, Lib.hid (by have e1 := HS1.out; have e3 := HS.out; omega), HA2, HD2, HB2⟩
            case measure => simp [intOf]; omega
          · have HN : Hid (pvB xs r = false) := Lib.hid (by
              rw [Bool.eq_false_iff]
              intro hp
              exact hin (((pvB_iff _ _).1 hp).1.1 k (by rw [HL.out]; exact hlt)))
            obtain ⟨X, hX⟩ : ∃ X, xs.getD k 0 = X := ⟨_, rfl⟩
            rw [hX] at hx hin
            have hamt : amtB X = false := by simpa [amtB] using hin
            clear hX hin
            go_wp2_with (go_at_call 56; refine (isAmount_any _ _).mono ?_; rintro e w' ⟨rfl, rfl⟩)
            go_ret2
            exact ⟨ret_ii (by simp [pvV, HN.out]) (by simp [pvE, HN.out]), HB.out⟩
        · have hup := fun W => partUp_any T 1 1000000000 W (by omega) (by omega) (by omega) (by omega) (by omega)
          obtain ⟨U, hU⟩ : ∃ U, -(-T * 1 / 1000000000) = U := ⟨_, rfl⟩
          simp only [hU] at hup
          have HU := Lib.hid hU
          have HUP := Lib.hid hup
          have u0 : 0 ≤ U := by omega
          have u1 : U ≤ 1000000000 := by omega
          clear hup hU
          go_wp2_with (go_at_call 57; refine (HUP.out _).mono ?_; rintro e w' ⟨rfl, rfl⟩)
          go_ret2
          obtain rfl : k = l := by omega
          have e1 := HU.out
          have e2 := HS.out
          have e3 := HL.out
          have hp : pvB xs r = true := (pvB_iff _ _).2 ⟨⟨fun i hi => HA.out i (by omega), by omega⟩, h2⟩
          exact ⟨ret_ii (by simp only [pvV, hp, if_true, e3]; omega) (by simp [pvE, hp]), HB.out⟩
    · have hN : pvB xs r = false := by simp [pvB, h2]
      have HN := Lib.hid hN
      clear hN
      go_enter Try.func21, Try.ntmps21
      go_wp2_with (go_at_call 48; refine (isRate_any _ _).mono ?_; rintro e w' ⟨rfl, rfl⟩)
      go_ret2
      exact ⟨ret_ii (by simp [pvV, HN.out]) (by simp [pvE, HN.out]), Below.refl _ _⟩
  · have hN : pvB xs r = false := by
      rw [Bool.eq_false_iff]
      intro hp
      have := ((pvB_iff _ _).1 hp).1.2
      have e := HL.out
      omega
    have HN := Lib.hid hN
    clear hN
    go_enter Try.func21, Try.ntmps21
    go_wp2_with (go_at_call 48; refine (isRate_any _ _).mono ?_; rintro e w' ⟨rfl, rfl⟩)
    go_ret2
    exact ⟨ret_ii (by simp [pvV, HN.out]) (by simp [pvE, HN.out]), Below.refl _ _⟩

end Go.Proofs.Ythennmhmnimpfaa
