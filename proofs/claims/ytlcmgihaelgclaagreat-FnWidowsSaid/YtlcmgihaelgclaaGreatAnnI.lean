/- Annuities: the program's check, its rounding up, its numerators over the columns. -/
import Derived.Test.YtlcmgihaelgclaaGreatAnn
import Derived.Test.YtlcmgihaelgclaaGreatComI
import Derived.Test.YtlcmgihaelgclaaGreatMdD
import Derived.Deep.RegionHeld3
namespace Go.Proofs.YtlcmgihaelgclaaGreat
open Go.ChangeShapes Go.WideShapes Go.ChangeAt Go.RowKit
set_option linter.unusedVariables false
set_option maxRecDepth 100000

theorem tu_any (a b c : Int) (w : World) (a0 : 0 ≤ a) (a1 : a ≤ 1000000000000) (b0 : 0 ≤ b) (b1 : b ≤ 1000000000000000000) (c0 : 1 ≤ c) (c1 : c ≤ 1000000000000000000) (hq : a * b / c ≤ 100000000000000000) :
    Calls Tryz.prog 76 #[.int .i64 a, .int .i64 b, .int .i64 c] w fun e w' => e = .returned (.int .i64 (upV a b c)) ∧ Below w.heap.size w w' := by
  have HC := Lib.hid (fun W => md_impl a b c W)
  have hin : mvIn a b c = true := (mvIn_iff a b c).2 ⟨⟨a0, a1⟩, ⟨b0, b1⟩, c0, c1⟩
  obtain ⟨e0, e1, e2⟩ := md_in hin (by omega)
  rw [e0, e1, e2] at HC
  obtain ⟨q, r, hq1, hr1, r0, r1, g1, g2⟩ := upV_eq a b c c0
  have q0 : 0 ≤ q := by rw [← hq1]; exact Int.ediv_nonneg (Int.mul_nonneg a0 b0) (by omega)
  rw [hq1, hr1] at HC
  rw [hq1] at hq
  clear e0 e1 e2 hq1 hr1 hin
  by_cases hz : r = 0
  · have G := Lib.hid (g1 hz)
    subst hz
    clear g1 g2
    go_enter Tryz.func76, Tryz.ntmps76
    go_wp2_with (go_at_call 86; refine (HC.out _).mono ?_; rintro e w2 ⟨rfl, hb⟩)
    go_ret
    exact ⟨ret_int (by rw [G.out]), hb⟩
  · have h1 : 0 < r := by omega
    have G := Lib.hid (g2 h1)
    clear g1 g2
    go_enter Tryz.func76, Tryz.ntmps76
    go_wp2_with (go_at_call 86; refine (HC.out _).mono ?_; rintro e w2 ⟨rfl, hb⟩)
    go_ret
    exact ⟨ret_int (by rw [G.out]), hb⟩

/-- the code of an annuity but for D -/
def akE (r f : Int) (xs : List Int) (x : Int) (b : Bool) (n : Int) : Int :=
  if coE r f xs x = 0 then (if b = true ∧ (0 ≤ n ∧ n ≤ 120) ∧ x + n ≤ 150 then 0 else 2) else coE r f xs x

theorem anE_ak (r f : Int) (xs : List Int) (x : Int) (b : Bool) (n : Int) : anE r f xs x b n = if akE r f xs x b n = 0 then (if cD r xs (x - f).toNat = 0 then 5 else 0) else akE r f xs x b n := by
  unfold anE akE
  by_cases h1 : coE r f xs x = 0
  · by_cases h2 : b = true ∧ (0 ≤ n ∧ n ≤ 120) ∧ x + n ≤ 150
    · simp only [if_pos h1, if_pos h2]; simp
    · simp only [if_pos h1, if_neg h2]; simp
  · simp only [if_neg h1]

theorem akE_iff {r f : Int} {xs : List Int} {x : Int} {b : Bool} {n : Int} : akE r f xs x b n = 0 ↔ coE r f xs x = 0 ∧ b = true ∧ (0 ≤ n ∧ n ≤ 120) ∧ x + n ≤ 150 := by
  unfold akE
  by_cases h1 : coE r f xs x = 0
  · by_cases h2 : b = true ∧ (0 ≤ n ∧ n ≤ 120) ∧ x + n ≤ 150
    · rw [if_pos h1, if_pos h2]; simp [h1, h2]
    · rw [if_pos h1, if_neg h2]
      constructor
      · intro h; omega
      · rintro ⟨_, a⟩; exact absurd a h2
  · rw [if_neg h1]
    constructor
    · intro h; exact absurd h h1
    · rintro ⟨h, _⟩; exact absurd h h1

set_option maxHeartbeats 400000 in
theorem ackeck_any (r f : Int) (xs : List Int) (a : Option Addr) (l c : Nat) (x b n : Int) (w : World) (h : Ints w a l xs) (hlc : l ≤ c) :
    Calls Tryz.prog 57 #[.agg #[.int .i64 f, .slice a l c], .int .i64 r, .int .i64 x, .int .i64 b, .int .i64 n] w fun e w' => e = .returned (.int .i64 (akE r f xs x (inB b 1 1000000) n)) ∧ Below w.heap.size w w' := by
  have H := Lib.hid h
  have CO : Hid (∀ W, Hid (Below w.heap.size w W) → Calls Tryz.prog 69 #[.agg #[.int .i64 f, .slice a l c], .int .i64 r, .int .i64 x] W fun e w' => e = .returned (.int .i64 (coE r f xs x)) ∧ Below W.heap.size W w') :=
    Lib.hid (fun W hW => icheck_any r f xs a l c x W (H.out.on hW.out) hlc)
  clear h
  by_cases hz : coE r f xs x = 0
  · obtain ⟨ht, ⟨r0, r1⟩, x0, x1⟩ := coE_iff.1 hz
    obtain ⟨f0, f1⟩ := ht.1
    rw [hz] at CO
    by_cases hb1 : inB b 1 1000000 = true
    · by_cases hn : 0 ≤ n ∧ n ≤ 120
      · have hin : termB n = true := (inB_iff _ _ _).2 hn
        by_cases hx : x + n ≤ 150
        · have HR : Hid (akE r f xs x (inB b 1 1000000) n = 0) := Lib.hid (akE_iff.2 ⟨hz, hb1, hn, hx⟩)
          obtain ⟨n0, n1⟩ := hn
          clear hz ht
          go_enter Tryz.func57, Tryz.ntmps57
          go_wp2_with fail
          with_reducible refine (CO.out _ (Lib.hid (box_b _ _))).mono ?_
          rintro e w1 ⟨rfl, hb⟩
          obtain ⟨hB, hc0, hc1⟩ := box2 hb
          have HB := Lib.hid hB
          clear hB hb
          go_wp2_with (first | (go_at_call 70; refine (within_any _ _ _ _).mono ?_; rintro e w' ⟨rfl, rfl⟩) | (go_at_call 71; refine (isTerm_any _ _).mono ?_; rintro e w' ⟨rfl, rfl⟩))
          go_ret
          exact ⟨ret_int HR.out.symm, HB.out⟩
        · have HR : Hid (akE r f xs x (inB b 1 1000000) n = 2) := Lib.hid (by unfold akE; rw [if_pos hz, if_neg (fun h => hx h.2.2)])
          obtain ⟨n0, n1⟩ := hn
          clear hz ht
          go_enter Tryz.func57, Tryz.ntmps57
          go_wp2_with fail
          with_reducible refine (CO.out _ (Lib.hid (box_b _ _))).mono ?_
          rintro e w1 ⟨rfl, hb⟩
          obtain ⟨hB, hc0, hc1⟩ := box2 hb
          have HB := Lib.hid hB
          clear hB hb
          go_wp2_with (first | (go_at_call 70; refine (within_any _ _ _ _).mono ?_; rintro e w' ⟨rfl, rfl⟩) | (go_at_call 71; refine (isTerm_any _ _).mono ?_; rintro e w' ⟨rfl, rfl⟩))
          go_ret
          exact ⟨ret_int HR.out.symm, HB.out⟩
      · have HR : Hid (akE r f xs x (inB b 1 1000000) n = 2) := Lib.hid (by unfold akE; rw [if_pos hz, if_neg (fun h => hn h.2.1)])
        have hin : termB n = false := inB_no hn
        clear hz ht hn
        go_enter Tryz.func57, Tryz.ntmps57
        go_wp2_with fail
        with_reducible refine (CO.out _ (Lib.hid (box_b _ _))).mono ?_
        rintro e w1 ⟨rfl, hb⟩
        obtain ⟨hB, hc0, hc1⟩ := box2 hb
        have HB := Lib.hid hB
        clear hB hb
        go_wp2_with (first | (go_at_call 70; refine (within_any _ _ _ _).mono ?_; rintro e w' ⟨rfl, rfl⟩) | (go_at_call 71; refine (isTerm_any _ _).mono ?_; rintro e w' ⟨rfl, rfl⟩))
        go_ret
        exact ⟨ret_int HR.out.symm, HB.out⟩
    · have HR : Hid (akE r f xs x (inB b 1 1000000) n = 2) := Lib.hid (by unfold akE; rw [if_pos hz, if_neg (fun h => hb1 h.1)])
      have hb2 : inB b 1 1000000 = false := by simpa using hb1
      clear hz ht hb1
      go_enter Tryz.func57, Tryz.ntmps57
      go_wp2_with fail
      with_reducible refine (CO.out _ (Lib.hid (box_b _ _))).mono ?_
      rintro e w1 ⟨rfl, hb⟩
      obtain ⟨hB, hc0, hc1⟩ := box2 hb
      have HB := Lib.hid hB
      clear hB hb
      go_wp2_with (first | (go_at_call 70; refine (within_any _ _ _ _).mono ?_; rintro e w' ⟨rfl, rfl⟩) | (go_at_call 71; refine (isTerm_any _ _).mono ?_; rintro e w' ⟨rfl, rfl⟩))
      go_ret
      exact ⟨ret_int HR.out.symm, HB.out⟩
  · have HR : Hid (akE r f xs x (inB b 1 1000000) n = coE r f xs x) := Lib.hid (by unfold akE; rw [if_neg hz])
    obtain ⟨E, hE⟩ : ∃ E, coE r f xs x = E := ⟨_, rfl⟩
    rw [hE] at CO HR hz
    have hne : (E != 0) = true := by simp [hz]
    clear hE hz
    go_enter Tryz.func57, Tryz.ntmps57
    go_wp2_with fail
    with_reducible refine (CO.out _ (Lib.hid (box_b _ _))).mono ?_
    rintro e w1 ⟨rfl, hb⟩
    obtain ⟨hB, hc0, hc1⟩ := box2 hb
    have HB := Lib.hid hB
    clear hB hb
    go_wp2_with fail
    go_ret
    exact ⟨ret_int HR.out.symm, HB.out⟩

/-- a table with its columns, told by the columns -/
def Cols (w : World) (R : Nat) (r f : Int) (xs : List Int) (v : Value) : Prop := ∃ G, CBX w R f v G ∧ ∀ m, f.toNat ≤ m → m ≤ 150 → G (m * 4) = cD r xs (m - f.toNat) ∧ G (m * 4 + 1) = cN r xs (m - f.toNat) ∧ G (m * 4 + 2) = cC r xs (m - f.toNat) ∧ G (m * 4 + 3) = cM r xs (m - f.toNat)

theorem Cols.lt {w : World} {R : Nat} {r f : Int} {xs : List Int} {v : Value} (h : Cols w R r f xs v) : R < w.heap.size := by
  obtain ⟨G, hG, _⟩ := h; exact hG.lt

theorem Cols.same {w w' : World} {R : Nat} {r f : Int} {xs : List Int} {v : Value} (h : Cols w R r f xs v) (hb : w'.heap[R]? = w.heap[R]?) : Cols w' R r f xs v := by
  obtain ⟨G, hG, hg⟩ := h; exact ⟨G, hG.same hb, hg⟩

theorem Cols.on {w w' : World} {R : Nat} {r f : Int} {xs : List Int} {v : Value} (h : Cols w R r f xs v) (hb : Below w.heap.size w w') : Cols w' R r f xs v := h.same (hb.block R h.lt)

theorem at_cols (r f : Int) (xs : List Int) (v : Value) (R : Nat) (x : Int) (w : World) (h : Cols w R r f xs v) (f0 : 0 ≤ f) (x0 : f ≤ x) (x1 : x ≤ 150) :
    Calls Tryz.prog 75 #[.pointer (some ⟨R, 2, none⟩), .int .i64 x] w fun e w' => e = .returned (.agg #[.int .i64 (cD r xs (x - f).toNat), .int .i64 (cN r xs (x - f).toNat), .int .i64 (cC r xs (x - f).toNat), .int .i64 (cM r xs (x - f).toNat)]) ∧ Below w.heap.size w w' := by
  obtain ⟨G, hG, hg⟩ := h
  obtain ⟨m, rfl⟩ : ∃ m : Nat, x = m := ⟨x.toNat, by omega⟩
  have := colat_any R f _ G m w hG (by omega)
  obtain ⟨e0, e1, e2, e3⟩ := hg m (by omega) (by omega)
  unfold AtG at this
  rw [e0, e1, e2, e3, show m - f.toNat = ((m : Int) - f).toNat by omega] at this
  exact this

/-- what the closures over the columns hold: the block that holds their pointer -/
def Cap (w : World) (cb R : Nat) : Prop := w.cell? ⟨cb, 0, none⟩ = some (.pointer (some ⟨R, 0, none⟩))

theorem fldD (A B C D : Int) (W : World) : (Instr.field 100 (.agg #[.int .i64 A, .int .i64 B, .int .i64 C, .int .i64 D]) 0).run Tryz.prog W = .ok (.int .i64 A) W := by kernel_rfl

theorem fldN (A B C D : Int) (W : World) : (Instr.field 100 (.agg #[.int .i64 A, .int .i64 B, .int .i64 C, .int .i64 D]) 1).run Tryz.prog W = .ok (.int .i64 B) W := by kernel_rfl

theorem num2_any (r f : Int) (xs : List Int) (v : Value) (cb R : Nat) (x n : Int) (w : World) (hc : Cap w cb R) (h : Cols w R r f xs v) (f0 : 0 ≤ f) (x0 : f ≤ x) (x1 : x ≤ 150) :
    Calls Tryz.prog 77 #[.int .i64 x, .int .i64 n, .pointer (some ⟨cb, 0, none⟩)] w fun e w' => e = .returned (.int .i64 (cN r xs (x - f).toNat)) ∧ Below w.heap.size w w' := by
  have HA := Lib.hid (at_cols r f xs v R x w h f0 x0 x1)
  obtain ⟨A, hA⟩ : ∃ A, cD r xs (x - f).toNat = A := ⟨_, rfl⟩
  obtain ⟨B, hB⟩ : ∃ A, cN r xs (x - f).toNat = A := ⟨_, rfl⟩
  obtain ⟨C, hC⟩ : ∃ A, cC r xs (x - f).toNat = A := ⟨_, rfl⟩
  obtain ⟨D, hD⟩ : ∃ A, cM r xs (x - f).toNat = A := ⟨_, rfl⟩
  rw [hA, hB, hC, hD] at HA
  rw [hB]
  have hfl := fldN A B C D
  clear hA hB hC hD h
  unfold Cap at hc
  go_enter Tryz.func77, Tryz.ntmps77
  go_wp2_with (go_at_call 75; refine (HA.out).mono ?_; rintro e w2 ⟨rfl, hb⟩)
  go_ret
  exact ⟨rfl, hb⟩

set_option maxHeartbeats 1000000 in
theorem num3_any (r f : Int) (xs : List Int) (v : Value) (cb R : Nat) (x n : Int) (w : World) (hc : Cap w cb R) (h : Cols w R r f xs v) (ht : LTab f xs) (r0 : 0 ≤ r) (f0 : 0 ≤ f) (x0 : f ≤ x) (n0 : 0 ≤ n) (n1 : n ≤ 120) (x1 : x + n ≤ 150) :
    Calls Tryz.prog 78 #[.int .i64 x, .int .i64 n, .pointer (some ⟨cb, 0, none⟩)] w fun e w' => e = .returned (.int .i64 (cN r xs (x - f).toNat - cN r xs (x + n - f).toNat)) ∧ Below w.heap.size w w' := by
  have HA : Hid (∀ W, Hid (Below w.heap.size w W) → Calls Tryz.prog 75 #[.pointer (some ⟨R, 2, none⟩), .int .i64 x] W fun e w' => e = .returned (.agg #[.int .i64 (cD r xs (x - f).toNat), .int .i64 (cN r xs (x - f).toNat), .int .i64 (cC r xs (x - f).toNat), .int .i64 (cM r xs (x - f).toNat)]) ∧ Below W.heap.size W w') :=
    Lib.hid (fun W hW => at_cols r f xs v R x W (h.on hW.out) f0 x0 (by omega))
  have HB : Hid (∀ W, Hid (Below w.heap.size w W) → Calls Tryz.prog 75 #[.pointer (some ⟨R, 2, none⟩), .int .i64 (x + n)] W fun e w' => e = .returned (.agg #[.int .i64 (cD r xs (x + n - f).toNat), .int .i64 (cN r xs (x + n - f).toNat), .int .i64 (cC r xs (x + n - f).toNat), .int .i64 (cM r xs (x + n - f).toNat)]) ∧ Below W.heap.size W w') :=
    Lib.hid (fun W hW => at_cols r f xs v R (x + n) W (h.on hW.out) f0 (by omega) x1)
  have b1 := ht.cN_bd r r0 (x - f).toNat
  have b2 := ht.cN_bd r r0 (x + n - f).toNat
  obtain ⟨A, hA⟩ : ∃ A, cD r xs (x - f).toNat = A := ⟨_, rfl⟩
  obtain ⟨B, hB⟩ : ∃ A, cN r xs (x - f).toNat = A := ⟨_, rfl⟩
  obtain ⟨C, hC⟩ : ∃ A, cC r xs (x - f).toNat = A := ⟨_, rfl⟩
  obtain ⟨D, hD⟩ : ∃ A, cM r xs (x - f).toNat = A := ⟨_, rfl⟩
  rw [hA, hB, hC, hD] at HA
  rw [hB] at b1 ⊢
  clear hA hB hC hD
  obtain ⟨A2, hA⟩ : ∃ A, cD r xs (x + n - f).toNat = A := ⟨_, rfl⟩
  obtain ⟨B2, hB⟩ : ∃ A, cN r xs (x + n - f).toNat = A := ⟨_, rfl⟩
  obtain ⟨C2, hC⟩ : ∃ A, cC r xs (x + n - f).toNat = A := ⟨_, rfl⟩
  obtain ⟨D2, hD⟩ : ∃ A, cM r xs (x + n - f).toNat = A := ⟨_, rfl⟩
  rw [hA, hB, hC, hD] at HB
  rw [hB] at b2 ⊢
  have q1 : IntKind.i64.wrap (x + n) = x + n := IntWalk.i64_in _ (by omega)
  have q2 : IntKind.i64.wrap (B - B2) = B - B2 := IntWalk.i64_in _ (by omega)
  have hfl := fldN A B C D
  have hfm := fldN A2 B2 C2 D2
  clear hA hB hC hD h ht b1 b2
  unfold Cap at hc
  go_enter Tryz.func78, Tryz.ntmps78
  go_wp2_with fail
  go_region_held3 (fun w' => w'.cell? ⟨cb, 0, none⟩ = some (.pointer (some ⟨R, 0, none⟩)) ∧ Hid (Below w.heap.size w w'))
    (first
      | (go_split_ands; exact ⟨by with_reducible assumption, by with_reducible assumption⟩)
      | (go_split_ands; exact ⟨hc, Lib.hid (Below.drew (Below.refl _ _))⟩)
      | (go_split_ands; exact ⟨hc, Lib.hid (Below.refl _ _)⟩)
      | (go_split_ands; exact ⟨keep2 hb (by with_reducible assumption), Lib.hid (Below.trans (Hid.out (by with_reducible assumption)) (Below.mono hb (Below.size (Hid.out (by with_reducible assumption)))))⟩))
    (first
      | (go_split_ands; go_at_call 75; ((with_reducible refine (HA.out _ (by with_reducible assumption)).mono ?_); rintro e w' ⟨rfl, hb⟩))
      | (go_split_ands; go_at_call 75; ((with_reducible refine (HB.out _ (by with_reducible assumption)).mono ?_); rintro e w' ⟨rfl, hb⟩)))
  all_goals
    go_split_ands
    go_wp2_with fail
    go_ret
    exact ⟨rfl, Hid.out (by with_reducible assumption)⟩

theorem num4_any (r f : Int) (xs : List Int) (v : Value) (cb R : Nat) (x n : Int) (w : World) (hc : Cap w cb R) (h : Cols w R r f xs v) (f0 : 0 ≤ f) (x0 : f ≤ x) (n0 : 0 ≤ n) (n1 : n ≤ 120) (x1 : x + n ≤ 150) :
    Calls Tryz.prog 79 #[.int .i64 x, .int .i64 n, .pointer (some ⟨cb, 0, none⟩)] w fun e w' => e = .returned (.int .i64 (cN r xs (x + n - f).toNat)) ∧ Below w.heap.size w w' := by
  have HA := Lib.hid (at_cols r f xs v R (x + n) w h f0 (by omega) x1)
  obtain ⟨A, hA⟩ : ∃ A, cD r xs (x + n - f).toNat = A := ⟨_, rfl⟩
  obtain ⟨B, hB⟩ : ∃ A, cN r xs (x + n - f).toNat = A := ⟨_, rfl⟩
  obtain ⟨C, hC⟩ : ∃ A, cC r xs (x + n - f).toNat = A := ⟨_, rfl⟩
  obtain ⟨D, hD⟩ : ∃ A, cM r xs (x + n - f).toNat = A := ⟨_, rfl⟩
  rw [hA, hB, hC, hD] at HA
  rw [hB]
  have hfl := fldN A B C D
  clear hA hB hC hD h
  unfold Cap at hc
  go_enter Tryz.func79, Tryz.ntmps79
  go_wp2_with (go_at_call 75; refine (HA.out).mono ?_; rintro e w2 ⟨rfl, hb⟩)
  go_ret
  exact ⟨rfl, hb⟩

end Go.Proofs.YtlcmgihaelgclaaGreat
