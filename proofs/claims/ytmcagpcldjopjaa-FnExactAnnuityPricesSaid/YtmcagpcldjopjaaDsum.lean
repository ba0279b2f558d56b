/- Sums of discounts; DiscountOf and CertainAnnuity of the program and of its model: one Lean function for both. -/
import Derived.Test.YtmcagpcldjopjaaDisc
import Derived.Deep.WholeRow
namespace Go.Proofs.Ytmcagpcldjopjaa
open Go.ChangeShapes Go.WideShapes Go.ChangeAt Go.RowKit
set_option linter.unusedVariables false
set_option maxRecDepth 100000

/-- the sum of the discounts after m to m + n - 1 years -/
def dsum (r : Int) (m : Nat) : Nat → Int
  | 0 => 0
  | n + 1 => dsum r m n + disc r (m + n)

theorem dsum_bd (r : Int) (h : 0 ≤ r) (m n : Nat) : 0 ≤ dsum r m n ∧ dsum r m n ≤ n * 1000000000 := by
  induction n with
  | zero => simp [dsum]
  | succ n ih =>
    obtain ⟨h1, h2⟩ := disc_bd r h (m + n)
    rw [dsum]
    omega

/-- the walks' form of a step of a sum: both terms told -/
theorem dsum_step (r : Int) (h : 0 ≤ r) (m n : Nat) (hn : n ≤ 1000) : ∃ s d : Int, dsum r m n = s ∧ disc r (m + n) = d ∧ dsum r m (n + 1) = s + d ∧ 0 ≤ s ∧ s ≤ 1000000000000 ∧ 0 ≤ d ∧ d ≤ 1000000000 := by
  obtain ⟨h1, h2⟩ := disc_bd r h (m + n)
  obtain ⟨h3, h4⟩ := dsum_bd r h m n
  exact ⟨_, _, rfl, rfl, rfl, h3, by omega, h1, h2⟩

theorem sdisc_any (r : Int) (k : Nat) (w : World) (h0 : 0 ≤ r) (h1 : r ≤ 200) (hk : k ≤ 1000) :
    Calls Try.prog 89 #[.int .i64 r, .int .i64 k] w fun e w' => e = .returned (.int .i64 (disc r k)) ∧ w = w' := by
  go_enter Try.func89, Try.ntmps89
  go_wp2_with fail
  go_loopw [5, 6] (fun v i wr => ∃ j : Nat, j ≤ k ∧ i = .int .i64 j ∧ v = .int .i64 (disc r j) ∧ wr = w) (fun _ i _ => k - (intOf i).toNat)
  case atStart => exact ⟨0, by omega, rfl, rfl, rfl⟩
  case round =>
    obtain ⟨j, hj, rfl, rfl, rfl⟩ := hrel
    by_cases hlt : j < k
    · obtain ⟨b1, b2⟩ := disc_bd r h0 j
      have hq := disc_q r h0 j
      obtain ⟨D, hD⟩ : ∃ D, disc r j = D := ⟨_, rfl⟩
      rw [hD] at b1 b2 hq ⊢
      clear hD
      go_wp2_with fail
      go_roundw
      case rel => exact ⟨j + 1, by omega, by go_num, by first | rfl | go_num, by first | rfl | trivial⟩
      case measure => simp [intOf]; omega
    · go_wp2_with fail
      go_ret
      obtain rfl : j = k := by omega
      exact ⟨rfl, rfl⟩

theorem sann_any (r : Int) (m n : Nat) (w : World) (h0 : 0 ≤ r) (h1 : r ≤ 200) (hm : m + n ≤ 1000) :
    Calls Try.prog 68 #[.int .i64 r, .int .i64 m, .int .i64 n] w fun e w' => e = .returned (.int .i64 (dsum r m n)) ∧ w = w' := by
  go_enter Try.func68, Try.ntmps68
  go_wp2_with fail
  go_loopw [7, 8] (fun v i wr => ∃ j : Nat, j ≤ n ∧ i = .int .i64 ((m + j : Nat) : Int) ∧ v = .int .i64 (dsum r m j) ∧ wr = w) (fun _ i _ => m + n - (intOf i).toNat)
  case atStart => exact ⟨0, by omega, rfl, rfl, rfl⟩
  case round =>
    obtain ⟨j, hj, rfl, rfl, rfl⟩ := hrel
    by_cases hlt : j < n
    · obtain ⟨s, d, hs, hd, he, b1, b2, b3, b4⟩ := dsum_step r h0 m j (by omega)
      rw [hs]
      have HE := Lib.hid he
      have HD := Lib.hid hd
      clear hs he hd
      go_wp2_with fail
      refine (sdisc_any r (m + j) _ h0 h1 (by omega)).mono ?_
      rintro e w' ⟨rfl, rfl⟩
      rw [HD.out]
      go_wp2_with fail
      go_roundw
      case rel => exact ⟨j + 1, by omega, by go_num, by first | (rw [HE.out]; go_num) | (rw [HE.out]), by first | rfl | trivial⟩
      case measure => simp [intOf]; omega
    · go_wp2_with fail
      go_ret
      obtain rfl : j = n := by omega
      exact ⟨rfl, rfl⟩

def SumPost (B : Nat) (r v : Int) (w : World) (e : Ending) (w' : World) : Prop := e = .returned (.int .i64 v) ∧ DB w' B r ∧ Only B w w'

theorem isum_any (B : Nat) (r : Int) (m n : Nat) (la : Int) (w : World) (h : DB w B r) (h0 : 0 ≤ r) (h1 : r ≤ 200) (hm : m + n ≤ 121) (hla : la = (m : Int) + n - 1) :
    Calls Try.prog 92 #[.pointer (some ⟨B, 0, none⟩), .int .i64 m, .int .i64 la] w (SumPost B r (dsum r m n) w) := by
  have H := Lib.hid h
  clear h
  subst hla
  go_enter Try.func92, Try.ntmps92
  go_wp2_with fail
  go_loopw [7, 8] (fun v i wr => ∃ j : Nat, j ≤ n ∧ i = .int .i64 ((m + j : Nat) : Int) ∧ v = .int .i64 (dsum r m j) ∧ Hid (DB wr B r) ∧ Hid (Only B w wr)) (fun _ i _ => m + n - (intOf i).toNat)
  case atStart => exact ⟨0, by omega, rfl, rfl, H, Lib.hid (Only.refl _ _)⟩
  case round =>
    obtain ⟨j, hj, rfl, rfl, HB, HO⟩ := hrel
    by_cases hlt : j < n
    · obtain ⟨s, d, hs, hd, he, b1, b2, b3, b4⟩ := dsum_step r h0 m j (by omega)
      rw [hs]
      have HE := Lib.hid he
      have HD := Lib.hid hd
      clear hs he hd
      go_wp2_with fail
      refine (after_any B r (m + j) _ HB.out h0 h1 (by omega)).mono ?_
      rintro e w' ⟨rfl, hb, ho⟩
      have HB2 := Lib.hid hb
      have HO2 := Lib.hid (HO.out.trans ho)
      clear hb ho
      rw [HD.out]
      go_wp2_with fail
      go_roundw
      case rel =>
        exact ⟨j + 1, by omega, by go_num, by first | (rw [HE.out]; go_num) | (rw [HE.out]), HB2, HO2⟩
      case measure => simp [intOf]; omega
    · go_wp2_with fail
      go_ret
      obtain rfl : j = n := by omega
      exact ⟨rfl, HB.out, HO.out⟩

/-! ### the tests of the arguments -/

def rateB (r : Int) : Bool := inB r 0 200

def termB (n : Int) : Bool := inB n 0 120

theorem isRate_any (r : Int) (w : World) : Calls Try.prog 90 #[.int .i64 r] w fun e w' => e = .returned (.bool (rateB r)) ∧ w = w' := by
  go_enter Try.func90, Try.ntmps90
  go_wp2_with (go_at_call 70; refine (within_any _ _ _ _).mono ?_; rintro e w' ⟨rfl, rfl⟩)
  go_ret
  exact ⟨rfl, rfl⟩

theorem isTerm_any (n : Int) (w : World) : Calls Try.prog 91 #[.int .i64 n] w fun e w' => e = .returned (.bool (termB n)) ∧ w = w' := by
  go_enter Try.func91, Try.ntmps91
  go_wp2_with (go_at_call 70; refine (within_any _ _ _ _).mono ?_; rintro e w' ⟨rfl, rfl⟩)
  go_ret
  exact ⟨rfl, rfl⟩

theorem sRate_any (r : Int) (w : World) : Calls Try.prog 103 #[.int .i64 r] w fun e w' => e = .returned (.bool (rateB r)) ∧ w = w' := by
  go_enter Try.func103, Try.ntmps103
  go_wp2_with (go_at_call 74; refine (in_any _ _ _ _).mono ?_; rintro e w' ⟨rfl, rfl⟩)
  go_ret
  exact ⟨rfl, rfl⟩

def amtB (n : Int) : Bool := inB n 0 1000000000

/-! ### new discounts -/

/-- no discounts yet -/
def z121 : List Int := List.replicate 121 0

theorem zero_dsc : Try.zeroCells112 = dcells 0 0 0 z121 := by kernel_rfl

theorem zero_set (r : Int) : Try.zeroCells112.toList.set 0 (.int .i64 r) = (dcells r 0 0 z121).toList := by
  rw [zero_dsc]; rfl

theorem dcells_one (r d m : Int) (xs : List Int) : (dcells r d m xs).all (·.oneCell') = true := by
  simp [dcells, Value.oneCell']

theorem store_dsc (r : Int) (w : World) : (storeCells ⟨w.heap.size, 0, none⟩ (Try.zeroCells112.toList.set 0 (.int .i64 r))).run Try.prog (w.alloc (.cells Try.zeroCells112 112)) = .ok () (w.alloc (.cells (dcells r 0 0 z121) 112)) := by
  rw [zero_set]
  exact run_storeCells_new w 112 _ _ (by rw [show (dcells r 0 0 z121).size = 125 by simp [dcells, z121]]; kernel_rfl) (by rw [zero_dsc]; simp [dcells, z121]) (dcells_one _ _ _ _)

theorem db_new (r : Int) (w : World) : DB (w.alloc (.cells (dcells r 0 0 z121) 112)) w.heap.size r := by
  refine ⟨0, z121, by simp [z121], ?_, .inl rfl⟩
  unfold DBX
  show (w.heap.push _)[w.heap.size]? = _
  simp

theorem new_below {w w' : World} {o : Obj} (h : Only w.heap.size (w.alloc o) w') : Below w.heap.size w w' :=
  ((Below.refl w.heap.size w).alloc (Nat.le_refl _) _).trans (h.below (Nat.le_refl _))

/-! ### DiscountOf and CertainAnnuity -/

def rtB (r n : Int) : Bool := rateB r && termB n

def rtE (r n : Int) : Int := if rtB r n then 0 else 2

def doV (r n : Int) : Int := if rtB r n then disc r n.toNat else 0

def caV (r n : Int) : Int := if rtB r n then dsum r 0 n.toNat else 0

theorem rtB_iff (r n : Int) : rtB r n = true ↔ (0 ≤ r ∧ r ≤ 200) ∧ (0 ≤ n ∧ n ≤ 120) := by
  unfold rtB rateB termB; rw [Bool.and_eq_true, inB_iff, inB_iff]

theorem ca_impl (r n : Int) (w : World) : Calls Try.prog 66 #[.int .i64 r, .int .i64 n] w fun e w' => e = .returned (.tuple #[.int .i64 (caV r n), .int .i64 (rtE r n)]) ∧ Below w.heap.size w w' := by
  by_cases h1 : rateB r = true
  · by_cases h2 : termB n = true
    · obtain ⟨r0, r1⟩ := (inB_iff _ _ _).1 h1
      obtain ⟨n0, n1⟩ := (inB_iff _ _ _).1 h2
      obtain ⟨k, rfl⟩ : ∃ k : Nat, n = k := ⟨n.toNat, by omega⟩
      have hst := store_dsc r w
      go_enter Try.func66, Try.ntmps66
      go_wp2_with (first | (go_at_call 90; refine (isRate_any _ _).mono ?_; rintro e w' ⟨rfl, rfl⟩) | (go_at_call 91; refine (isTerm_any _ _).mono ?_; rintro e w' ⟨rfl, rfl⟩) | (go_at_call 92; refine (isum_any w.heap.size r 0 k _ _ (db_new r w) r0 r1 (by omega) (by omega)).mono ?_; rintro e w2 ⟨rfl, hb, ho⟩))
      go_ret2
      exact ⟨ret_ii (by simp [caV, rtB, h1, h2]) (by simp [rtE, rtB, h1, h2]), new_below ho⟩
    · go_enter Try.func66, Try.ntmps66
      go_wp2_with (first | (go_at_call 90; refine (isRate_any _ _).mono ?_; rintro e w' ⟨rfl, rfl⟩) | (go_at_call 91; refine (isTerm_any _ _).mono ?_; rintro e w' ⟨rfl, rfl⟩))
      go_ret2
      exact ⟨ret_ii (by simp [caV, rtB, h1, h2]) (by simp [rtE, rtB, h1, h2]), Below.refl _ _⟩
  · go_enter Try.func66, Try.ntmps66
    go_wp2_with (first | (go_at_call 90; refine (isRate_any _ _).mono ?_; rintro e w' ⟨rfl, rfl⟩) | (go_at_call 91; refine (isTerm_any _ _).mono ?_; rintro e w' ⟨rfl, rfl⟩))
    go_ret2
    exact ⟨ret_ii (by simp [caV, rtB, h1]) (by simp [rtE, rtB, h1]), Below.refl _ _⟩

end Go.Proofs.Ytmcagpcldjopjaa
