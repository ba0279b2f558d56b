/- Merged: AnnI, SicC, SicV. -/
import Derived.Test.YtpdmbmfjeankbaaGreatDoorSn14
import Derived.Test.YtpdmbmfjeankbaaGreatDoorSn15
import Derived.Test.YtpdmbmfjeankbaaGreatDoorSn22
import Derived.Test.YtpdmbmfjeankbaaGreatDoorSn23
import Derived.Test.YtpdmbmfjeankbaaGreatDoorSn25
import Derived.Deep.RegionHeld3
import Derived.Defers
import Derived.Laws.Pointers

/- Annuities: the program's check, its rounding up, its numerators over the columns. -/
namespace Go.Proofs.YtpdmbmfjeankbaaGreatDoor
open Go.ChangeShapes Go.WideShapes Go.ChangeAt Go.RowKit
set_option linter.unusedVariables false
set_option maxRecDepth 100000

theorem tu_any (a b c : Int) (w : World) (a0 : 0 ≤ a) (a1 : a ≤ 1000000000000) (b0 : 0 ≤ b) (b1 : b ≤ 1000000000000000000) (c0 : 1 ≤ c) (c1 : c ≤ 1000000000000000000) (hq : a * b / c ≤ 100000000000000000) :
    Calls Tryz.prog 48 #[.int .i64 a, .int .i64 b, .int .i64 c] w fun e w' => e = .returned (.int .i64 (upV a b c)) ∧ Below w.heap.size w w' := by
  have HC := Lib.hid (fun W => md_impl a b c W)
  have hin : mvIn a b c = true := (mvIn_iff a b c).2 ⟨⟨a0, a1⟩, ⟨b0, b1⟩, c0, c1⟩
  obtain ⟨e0, e1, e2⟩ := md_in hin (by omega)
  rw [e0, e1, e2] at HC
  obtain ⟨q, r, hq1, hr1, r0, r1, g1, g2⟩ := upV_eq a b c c0
  have q0 : 0 ≤ q := by rw [← hq1]; exact Int.ediv_nonneg (Int.mul_nonneg a0 b0) (by omega)
  rw [hq1, hr1] at HC
  rw [hq1] at hq
  clear e0 e1 e2 hq1 hr1 hin
  by_cases hz : r = 0
  · have G := Lib.hid (g1 hz)
    subst hz
    clear g1 g2
    go_enter Tryz.func48, Tryz.ntmps48
    go_wp2_with (go_at_call 68; refine (HC.out _).mono ?_; rintro e w2 ⟨rfl, hb⟩)
    go_ret
    exact ⟨ret_int (by rw [G.out]), hb⟩
  · have h1 : 0 < r := by omega
    have G := Lib.hid (g2 h1)
    clear g1 g2
    go_enter Tryz.func48, Tryz.ntmps48
    go_wp2_with (go_at_call 68; refine (HC.out _).mono ?_; rintro e w2 ⟨rfl, hb⟩)
    go_ret
    exact ⟨ret_int (by rw [G.out]), hb⟩

/-- the code of an annuity but for D -/
def akE (r f : Int) (xs : List Int) (x : Int) (b : Bool) (n : Int) : Int :=
  if coE r f xs x = 0 then (if b = true ∧ (0 ≤ n ∧ n ≤ 120) ∧ x + n ≤ 150 then 0 else 2) else coE r f xs x

theorem anE_ak (r f : Int) (xs : List Int) (x : Int) (b : Bool) (n : Int) : anE r f xs x b n = if akE r f xs x b n = 0 then (if cD r xs (x - f).toNat = 0 then 5 else 0) else akE r f xs x b n := by
  unfold anE akE
  by_cases h1 : coE r f xs x = 0
  · by_cases h2 : b = true ∧ (0 ≤ n ∧ n ≤ 120) ∧ x + n ≤ 150
    · simp only [if_pos h1, if_pos h2]; simp
    · simp only [if_pos h1, if_neg h2]; simp
  · simp only [if_neg h1]

theorem akE_iff {r f : Int} {xs : List Int} {x : Int} {b : Bool} {n : Int} : akE r f xs x b n = 0 ↔ coE r f xs x = 0 ∧ b = true ∧ (0 ≤ n ∧ n ≤ 120) ∧ x + n ≤ 150 := by
  unfold akE
  by_cases h1 : coE r f xs x = 0
  · by_cases h2 : b = true ∧ (0 ≤ n ∧ n ≤ 120) ∧ x + n ≤ 150
    · rw [if_pos h1, if_pos h2]; simp [h1, h2]
    · rw [if_pos h1, if_neg h2]
      constructor
      · intro h; omega
      · rintro ⟨_, a⟩; exact absurd a h2
  · rw [if_neg h1]
    constructor
    · intro h; exact absurd h h1
    · rintro ⟨h, _⟩; exact absurd h h1

/-- a table with its columns, told by the columns -/
def Cols (w : World) (R : Nat) (r f : Int) (xs : List Int) (v : Value) : Prop := ∃ G, CBX w R f v G ∧ ∀ m, f.toNat ≤ m → m ≤ 150 → G (m * 4) = cD r xs (m - f.toNat) ∧ G (m * 4 + 1) = cN r xs (m - f.toNat) ∧ G (m * 4 + 2) = cC r xs (m - f.toNat) ∧ G (m * 4 + 3) = cM r xs (m - f.toNat)

theorem Cols.lt {w : World} {R : Nat} {r f : Int} {xs : List Int} {v : Value} (h : Cols w R r f xs v) : R < w.heap.size := by
  obtain ⟨G, hG, _⟩ := h; exact hG.lt

theorem Cols.same {w w' : World} {R : Nat} {r f : Int} {xs : List Int} {v : Value} (h : Cols w R r f xs v) (hb : w'.heap[R]? = w.heap[R]?) : Cols w' R r f xs v := by
  obtain ⟨G, hG, hg⟩ := h; exact ⟨G, hG.same hb, hg⟩

theorem Cols.on {w w' : World} {R : Nat} {r f : Int} {xs : List Int} {v : Value} (h : Cols w R r f xs v) (hb : Below w.heap.size w w') : Cols w' R r f xs v := h.same (hb.block R h.lt)

theorem at_cols (r f : Int) (xs : List Int) (v : Value) (R : Nat) (x : Int) (w : World) (h : Cols w R r f xs v) (f0 : 0 ≤ f) (x0 : f ≤ x) (x1 : x ≤ 150) :
    Calls Tryz.prog 45 #[.pointer (some ⟨R, 2, none⟩), .int .i64 x] w fun e w' => e = .returned (.agg #[.int .i64 (cD r xs (x - f).toNat), .int .i64 (cN r xs (x - f).toNat), .int .i64 (cC r xs (x - f).toNat), .int .i64 (cM r xs (x - f).toNat)]) ∧ Below w.heap.size w w' := by
  obtain ⟨G, hG, hg⟩ := h
  obtain ⟨m, rfl⟩ : ∃ m : Nat, x = m := ⟨x.toNat, by omega⟩
  have := colat_any R f _ G m w hG (by omega)
  obtain ⟨e0, e1, e2, e3⟩ := hg m (by omega) (by omega)
  unfold AtG at this
  rw [e0, e1, e2, e3, show m - f.toNat = ((m : Int) - f).toNat by omega] at this
  exact this

/-- what the closures over the columns hold: the block that holds their pointer -/
def Cap (w : World) (cb R : Nat) : Prop := w.cell? ⟨cb, 0, none⟩ = some (.pointer (some ⟨R, 0, none⟩))

theorem fldD (A B C D : Int) (W : World) : (Instr.field 74 (.agg #[.int .i64 A, .int .i64 B, .int .i64 C, .int .i64 D]) 0).run Tryz.prog W = .ok (.int .i64 A) W := by kernel_rfl

theorem fldN (A B C D : Int) (W : World) : (Instr.field 74 (.agg #[.int .i64 A, .int .i64 B, .int .i64 C, .int .i64 D]) 1).run Tryz.prog W = .ok (.int .i64 B) W := by kernel_rfl

end Go.Proofs.YtpdmbmfjeankbaaGreatDoor

/- Sickness: the program's check of a benefit, and its cover. (Written by wip/gen/sicc.py.) -/
namespace Go.Proofs.YtpdmbmfjeankbaaGreatDoor
open Go.ChangeShapes Go.WideShapes Go.ChangeAt Go.RowKit
set_option linter.unusedVariables false
set_option linter.unusedSimpArgs false
set_option maxRecDepth 100000

/-- the code of a benefit but for D -/
def ckE (r f : Int) (xs : List Int) (g : Int) (ys : List Int) (x n q : Int) : Int := if skB g ys = true then akE r f xs x (inB n 1 60 && inB q 1 100000) n else 1

theorem skE_ck (r f : Int) (xs : List Int) (g : Int) (ys : List Int) (x n q : Int) : skE r f xs g ys x n q = if ckE r f xs g ys x n q = 0 then (if cD r xs (x - f).toNat = 0 then 5 else 0) else ckE r f xs g ys x n q := by
  unfold skE ckE
  by_cases h : skB g ys = true
  · rw [if_pos h, if_pos h]; exact anE_ak _ _ _ _ _ _
  · rw [if_neg h, if_neg h]; simp

theorem ck_no {r f : Int} {xs : List Int} {g : Int} {ys : List Int} {x n q : Int} (h1 : skB g ys = true) (hz : coE r f xs x = 0) (h : ¬ (inB n 1 60 = true ∧ inB q 1 100000 = true ∧ x + n ≤ 150)) : ckE r f xs g ys x n q = 2 := by
  unfold ckE akE
  rw [if_pos h1, if_pos hz, if_neg]
  rintro ⟨a, b, c⟩
  rw [Bool.and_eq_true] at a
  exact h ⟨a.1, a.2, c⟩

theorem ck_yes {r f : Int} {xs : List Int} {g : Int} {ys : List Int} {x n q : Int} (h1 : skB g ys = true) (hz : coE r f xs x = 0) (h2 : inB n 1 60 = true) (h3 : inB q 1 100000 = true) (h4 : x + n ≤ 150) : ckE r f xs g ys x n q = 0 := by
  unfold ckE akE
  have h5 := (inB_iff _ _ _).1 h2
  rw [if_pos h1, if_pos hz, if_pos ⟨by rw [h2, h3]; rfl, by omega, h4⟩]

set_option maxHeartbeats 1000000 in
theorem ichs_any (r f : Int) (xs : List Int) (a : Option Addr) (l c : Nat) (g : Int) (ys : List Int) (b : Option Addr) (m d : Nat) (x n q : Int) (w : World) (h : Ints w a l xs) (k : Ints w b m ys) (hlc : l ≤ c) (hmd : m ≤ d) :
    Calls Tryz.prog 43 #[.agg #[.int .i64 f, .slice a l c], .agg #[.int .i64 g, .slice b m d], .int .i64 r, .int .i64 x, .int .i64 n, .int .i64 q] w fun e w' => e = .returned (.int .i64 (ckE r f xs g ys x n q)) ∧ Below w.heap.size w w' := by
  have HK : Hid (K2 w f (.slice a l c) g (.slice b m d) ((w.alloc (.cells #[.int .i64 f, .slice a l c] 26)).alloc (.cells #[.int .i64 g, .slice b m d] 28))) := Lib.hid (K2.new _ _ _ _ _ _ _)
  have C1 : Hid (∀ W, Hid (K2 w f (.slice a l c) g (.slice b m d) W) → Calls Tryz.prog 16 #[.agg #[.int .i64 g, .slice b m d]] W fun e w' => e = .returned (.bool (skB g ys)) ∧ Below W.heap.size W w') :=
    Lib.hid (fun W hW => isS_impl g ys b m d W (k.on hW.out.low) hmd)
  have C2 : Hid (∀ W, Hid (K2 w f (.slice a l c) g (.slice b m d) W) → Calls Tryz.prog 65 #[.agg #[.int .i64 f, .slice a l c], .int .i64 r, .int .i64 x] W fun e w' => e = .returned (.int .i64 (coE r f xs x)) ∧ Below W.heap.size W w') :=
    Lib.hid (fun W hW => icheck_any r f xs a l c x W (h.on hW.out.low) hlc)
  clear h k
  by_cases h1 : skB g ys = true
  · rw [h1] at C1
    by_cases hz : coE r f xs x = 0
    · obtain ⟨ht, ⟨r0, r1⟩, x0, x1⟩ := coE_iff.1 hz
      obtain ⟨f0, f1⟩ := ht.1
      rw [hz] at C2
      by_cases hn : inB n 1 60 = true
      · obtain ⟨n0, n1⟩ := (inB_iff _ _ _).1 hn
        by_cases hx : x + n ≤ 150
        · by_cases hq : inB q 1 100000 = true
          · have HR := Lib.hid (ck_yes h1 hz hn hq hx)
            clear h1 hz ht
            go_enter Tryz.func43, Tryz.ntmps43
            go_wp2_with fail
            with_reducible refine (C1.out _ HK).mono ?_
            rintro e w1 ⟨rfl, hb⟩
            have HK := Lib.hid (HK.out.on hb)
            clear hb
            obtain ⟨k0, k1, k2, k3, _⟩ := HK.out
            go_wp2_with fail
            with_reducible refine (C2.out _ HK).mono ?_
            rintro e w2 ⟨rfl, hb⟩
            have HK := Lib.hid (HK.out.on hb)
            clear hb k0 k1 k2 k3
            go_wp2_with (go_at_call 39; refine (within_any _ _ _ _).mono ?_; rintro e w' ⟨rfl, rfl⟩)
            go_ret
            exact ⟨ret_int HR.out.symm, HK.out.low⟩
          · have HR := Lib.hid (ck_no (n := n) (q := q) h1 hz (fun e => hq e.2.1))
            have hq2 : inB q 1 100000 = false := by simpa using hq
            clear h1 hz ht hq
            go_enter Tryz.func43, Tryz.ntmps43
            go_wp2_with fail
            with_reducible refine (C1.out _ HK).mono ?_
            rintro e w1 ⟨rfl, hb⟩
            have HK := Lib.hid (HK.out.on hb)
            clear hb
            obtain ⟨k0, k1, k2, k3, _⟩ := HK.out
            go_wp2_with fail
            with_reducible refine (C2.out _ HK).mono ?_
            rintro e w2 ⟨rfl, hb⟩
            have HK := Lib.hid (HK.out.on hb)
            clear hb k0 k1 k2 k3
            go_wp2_with (go_at_call 39; refine (within_any _ _ _ _).mono ?_; rintro e w' ⟨rfl, rfl⟩)
            go_ret
            exact ⟨ret_int HR.out.symm, HK.out.low⟩
        · have HR := Lib.hid (ck_no (n := n) (q := q) h1 hz (fun e => hx e.2.2))
          have hx2 : 150 < x + n := by omega
          clear h1 hz ht hx
          go_enter Tryz.func43, Tryz.ntmps43
          go_wp2_with fail
          with_reducible refine (C1.out _ HK).mono ?_
          rintro e w1 ⟨rfl, hb⟩
          have HK := Lib.hid (HK.out.on hb)
          clear hb
          obtain ⟨k0, k1, k2, k3, _⟩ := HK.out
          go_wp2_with fail
          with_reducible refine (C2.out _ HK).mono ?_
          rintro e w2 ⟨rfl, hb⟩
          have HK := Lib.hid (HK.out.on hb)
          clear hb k0 k1 k2 k3
          go_wp2_with (go_at_call 39; refine (within_any _ _ _ _).mono ?_; rintro e w' ⟨rfl, rfl⟩)
          go_ret
          exact ⟨ret_int HR.out.symm, HK.out.low⟩
      · have HR := Lib.hid (ck_no (n := n) (q := q) h1 hz (fun e => hn e.1))
        have hn2 : inB n 1 60 = false := by simpa using hn
        clear h1 hz ht hn
        go_enter Tryz.func43, Tryz.ntmps43
        go_wp2_with fail
        with_reducible refine (C1.out _ HK).mono ?_
        rintro e w1 ⟨rfl, hb⟩
        have HK := Lib.hid (HK.out.on hb)
        clear hb
        obtain ⟨k0, k1, k2, k3, _⟩ := HK.out
        go_wp2_with fail
        with_reducible refine (C2.out _ HK).mono ?_
        rintro e w2 ⟨rfl, hb⟩
        have HK := Lib.hid (HK.out.on hb)
        clear hb k0 k1 k2 k3
        go_wp2_with (go_at_call 39; refine (within_any _ _ _ _).mono ?_; rintro e w' ⟨rfl, rfl⟩)
        go_ret
        exact ⟨ret_int HR.out.symm, HK.out.low⟩
    · have HR : Hid (ckE r f xs g ys x n q = coE r f xs x) := Lib.hid (by unfold ckE akE; rw [if_pos h1, if_neg hz])
      obtain ⟨E, hE⟩ : ∃ E, coE r f xs x = E := ⟨_, rfl⟩
      rw [hE] at C2 HR hz
      have hne : (E != 0) = true := by simp [hz]
      clear hE hz h1
      go_enter Tryz.func43, Tryz.ntmps43
      go_wp2_with fail
      with_reducible refine (C1.out _ HK).mono ?_
      rintro e w1 ⟨rfl, hb⟩
      have HK := Lib.hid (HK.out.on hb)
      clear hb
      obtain ⟨k0, k1, k2, k3, _⟩ := HK.out
      go_wp2_with fail
      with_reducible refine (C2.out _ HK).mono ?_
      rintro e w2 ⟨rfl, hb⟩
      have HK := Lib.hid (HK.out.on hb)
      clear hb k0 k1 k2 k3
      go_wp2_with (go_at_call 39; refine (within_any _ _ _ _).mono ?_; rintro e w' ⟨rfl, rfl⟩)
      go_ret
      exact ⟨ret_int HR.out.symm, HK.out.low⟩
  · have HR : Hid (ckE r f xs g ys x n q = 1) := Lib.hid (by unfold ckE; rw [if_neg h1])
    have h1' : skB g ys = false := by simpa using h1
    rw [h1'] at C1
    clear h1 h1'
    go_enter Tryz.func43, Tryz.ntmps43
    go_wp2_with fail
    with_reducible refine (C1.out _ HK).mono ?_
    rintro e w1 ⟨rfl, hb⟩
    have HK := Lib.hid (HK.out.on hb)
    clear hb
    obtain ⟨k0, k1, k2, k3, _⟩ := HK.out
    go_wp2_with fail
    go_ret
    exact ⟨ret_int HR.out.symm, HK.out.low⟩

/-- a cover of sickness -/
def scv (R : Nat) (g : Int) (b : Option Addr) (m d : Nat) (x n : Int) : Value := .agg #[.pointer (some ⟨R, 0, none⟩), .int .i64 g, .slice b m d, .int .i64 x, .int .i64 n]

/-- .. none -/
def scz : Value := .agg #[.pointer none, .int .i64 0, .slice none 0 0, .int .i64 0, .int .i64 0]

theorem build_sc (p : Value) (R : Nat) (g : Int) (b : Option Addr) (m d : Nat) (x n : Int) (W : World) : (Instr.build 49 #[(0, .pointer (some ⟨R, 0, none⟩)), (1, .agg #[.int .i64 g, .slice b m d]), (2, .int .i64 x), (3, .int .i64 n)]).run Tryz.prog W = .ok (.agg #[.pointer (some ⟨R, 0, none⟩), .int .i64 g, .slice b m d, .int .i64 x, .int .i64 n]) W := by kernel_rfl

theorem build_sz (W : World) : (Instr.build 49 #[]).run Tryz.prog W = .ok (.agg #[.pointer none, .int .i64 0, .slice none 0 0, .int .i64 0, .int .i64 0]) W := by kernel_rfl

theorem Bx.five {w : World} {B : Nat} {x y z u v : Value} (h : Bx w B [x, y, z, u, v]) : w.cell? ⟨B, 0, none⟩ = some x ∧ w.cell? ⟨B, 1, none⟩ = some y ∧ w.cell? ⟨B, 2, none⟩ = some z ∧ w.cell? ⟨B, 3, none⟩ = some u ∧ w.cell? ⟨B, 4, none⟩ = some v := by
  obtain ⟨T, h⟩ := h
  simp [World.cell?, h]

set_option maxHeartbeats 2000000 in
theorem sco_err (r f : Int) (xs : List Int) (a : Option Addr) (l c : Nat) (g : Int) (ys : List Int) (b : Option Addr) (m d : Nat) (x n q : Int) (w : World) (h : Ints w a l xs) (k : Ints w b m ys) (hlc : l ≤ c) (hmd : m ≤ d) (hk : ckE r f xs g ys x n q ≠ 0) :
    Calls Tryz.prog 23 #[.agg #[.int .i64 f, .slice a l c], .agg #[.int .i64 g, .slice b m d], .int .i64 r, .int .i64 x, .int .i64 n, .int .i64 q] w fun e w' => e = .returned (.tuple #[scz, .int .i64 (ckE r f xs g ys x n q)]) ∧ Below w.heap.size w w' := by
  have HK : Hid (K2 w f (.slice a l c) g (.slice b m d) ((w.alloc (.cells #[.int .i64 f, .slice a l c] 26)).alloc (.cells #[.int .i64 g, .slice b m d] 28))) := Lib.hid (K2.new _ _ _ _ _ _ _)
  have HK0 := Lib.hid (K2.rb (w := w) (f := f) (sa := .slice a l c) (g := g) (sb := .slice b m d) 26 28 49 [.pointer none, .int .i64 0, .slice none 0 0, .int .i64 0, .int .i64 0])
  have C1 : Hid (∀ W, Hid (K2 w f (.slice a l c) g (.slice b m d) W) → Calls Tryz.prog 43 #[.agg #[.int .i64 f, .slice a l c], .agg #[.int .i64 g, .slice b m d], .int .i64 r, .int .i64 x, .int .i64 n, .int .i64 q] W fun e w' => e = .returned (.int .i64 (ckE r f xs g ys x n q)) ∧ Below W.heap.size W w') :=
    Lib.hid (fun W hW => ichs_any r f xs a l c g ys b m d x n q W (h.on hW.out.low) (k.on hW.out.low) hlc hmd)
  obtain ⟨E, hE⟩ : ∃ y_, ckE r f xs g ys x n q = y_ := ⟨_, rfl⟩
  rw [hE] at C1 hk ⊢
  have hne : (E != 0) = true := by simp [hk]
  have hbz := build_sz
  unfold scz
  clear h k hE hk
  go_enter Tryz.func23, Tryz.ntmps23
  go_wp2_with fail
  obtain ⟨W1, hW1⟩ : ∃ W1, ((w.alloc (.cells #[.int .i64 f, .slice a l c] 26)).alloc (.cells #[.int .i64 g, .slice b m d] 28)).alloc (.cells #[.pointer none, .int .i64 0, .slice none 0 0, .int .i64 0, .int .i64 0] 49) = W1 := ⟨_, rfl⟩
  have HKK : Hid (K2 w f (.slice a l c) g (.slice b m d) W1) := Lib.hid (by rw [← hW1]; exact HK0.out.1)
  have HX : Hid (Bx W1 (w.heap.size + 2) [.pointer none, .int .i64 0, .slice none 0 0, .int .i64 0, .int .i64 0]) := Lib.hid (by rw [← hW1]; exact HK0.out.2)
  (try rw [hW1])
  clear hW1 HK0 HK
  with_reducible refine (C1.out _ HKK).mono ?_
  rintro e w2 ⟨rfl, hb⟩
  have HK := Lib.hid (HKK.out.on hb)
  have HX := Lib.hid (HX.out.on hb)
  clear hb HKK
  obtain ⟨k0, k1, k2, k3, _⟩ := HK.out
  obtain ⟨c0, c1, c2, c3, c4⟩ := HX.out.five
  have m0 := HX.out.free 0
  have m1 := HX.out.free 1
  have m2 := HX.out.free 2
  have m3 := HX.out.free 3
  have m4 := HX.out.free 4
  go_wp2_with fail
  refine bodyPost_ret (v := .tuple #[.agg #[.pointer none, .int .i64 0, .slice none 0 0, .int .i64 0, .int .i64 0], .int .i64 E]) ?_ rfl ⟨rfl, ?_⟩
  · simp [results, Tryz.results23, go_sem, c0, c1, c2, c3, c4]
  · exact ((((HK.out.low.setCell (p := ⟨w.heap.size + 2, 0, none⟩) (by simp) _).setCell (p := ⟨w.heap.size + 2, 1, none⟩) (by simp) _).setCell (p := ⟨w.heap.size + 2, 2, none⟩) (by simp) _).setCell (p := ⟨w.heap.size + 2, 3, none⟩) (by simp) _).setCell (p := ⟨w.heap.size + 2, 4, none⟩) (by simp) _

set_option maxHeartbeats 2000000 in
theorem sco_dead (r f : Int) (xs : List Int) (a : Option Addr) (l c : Nat) (g : Int) (ys : List Int) (b : Option Addr) (m d : Nat) (x n q : Int) (w : World) (h : Ints w a l xs) (k : Ints w b m ys) (hlc : l ≤ c) (hmd : m ≤ d) (hk : ckE r f xs g ys x n q = 0) (hd : cD r xs (x - f).toNat = 0) :
    Calls Tryz.prog 23 #[.agg #[.int .i64 f, .slice a l c], .agg #[.int .i64 g, .slice b m d], .int .i64 r, .int .i64 x, .int .i64 n, .int .i64 q] w fun e w' => e = .returned (.tuple #[scz, .int .i64 5]) ∧ Below w.heap.size w w' := by
  have HK : Hid (K2 w f (.slice a l c) g (.slice b m d) ((w.alloc (.cells #[.int .i64 f, .slice a l c] 26)).alloc (.cells #[.int .i64 g, .slice b m d] 28))) := Lib.hid (K2.new _ _ _ _ _ _ _)
  have HK0 := Lib.hid (K2.rb (w := w) (f := f) (sa := .slice a l c) (g := g) (sb := .slice b m d) 26 28 49 [.pointer none, .int .i64 0, .slice none 0 0, .int .i64 0, .int .i64 0])
  have C1 : Hid (∀ W, Hid (K2 w f (.slice a l c) g (.slice b m d) W) → Calls Tryz.prog 43 #[.agg #[.int .i64 f, .slice a l c], .agg #[.int .i64 g, .slice b m d], .int .i64 r, .int .i64 x, .int .i64 n, .int .i64 q] W fun e w' => e = .returned (.int .i64 (ckE r f xs g ys x n q)) ∧ Below W.heap.size W w') :=
    Lib.hid (fun W hW => ichs_any r f xs a l c g ys b m d x n q W (h.on hW.out.low) (k.on hW.out.low) hlc hmd)
  obtain ⟨hc, -⟩ : coE r f xs x = 0 ∧ True := by
    unfold ckE at hk
    split at hk
    · exact ⟨(akE_iff.1 hk).1, trivial⟩
    · cases hk
  obtain ⟨ht, ⟨r0, r1⟩, x0, x1⟩ := coE_iff.1 hc
  rw [hk] at C1
  have H := Lib.hid h
  have HT := Lib.hid ht
  have HCD := Lib.hid hd
  have hbz := build_sz
  unfold scz
  clear h k hk hc hd
  go_enter Tryz.func23, Tryz.ntmps23
  go_wp2_with fail
  obtain ⟨W1, hW1⟩ : ∃ W1, ((w.alloc (.cells #[.int .i64 f, .slice a l c] 26)).alloc (.cells #[.int .i64 g, .slice b m d] 28)).alloc (.cells #[.pointer none, .int .i64 0, .slice none 0 0, .int .i64 0, .int .i64 0] 49) = W1 := ⟨_, rfl⟩
  have HKK : Hid (K2 w f (.slice a l c) g (.slice b m d) W1) := Lib.hid (by rw [← hW1]; exact HK0.out.1)
  have HX : Hid (Bx W1 (w.heap.size + 2) [.pointer none, .int .i64 0, .slice none 0 0, .int .i64 0, .int .i64 0]) := Lib.hid (by rw [← hW1]; exact HK0.out.2)
  (try rw [hW1])
  clear hW1 HK0 HK
  with_reducible refine (C1.out _ HKK).mono ?_
  rintro e w2 ⟨rfl, hb⟩
  have HK := Lib.hid (HKK.out.on hb)
  have HX := Lib.hid (HX.out.on hb)
  clear hb HKK
  obtain ⟨k0, k1, k2, k3, _⟩ := HK.out
  go_wp2_with fail
  with_reducible refine (co_any r f xs a l c _ (H.out.on HK.out.low) HT.out r0 r1).mono ?_
  rintro e w3 ⟨R, G, rfl, hR, hG, hGs, hb⟩
  have HCC := Lib.hid (at_cols r f xs (.slice a l c) R x w3 ⟨G, hG, hGs⟩ HT.out.1.1 x0 x1)
  rw [HCD.out] at HCC
  obtain ⟨B, hB⟩ : ∃ y_, cN r xs (x - f).toNat = y_ := ⟨_, rfl⟩
  obtain ⟨C, hC⟩ : ∃ y_, cC r xs (x - f).toNat = y_ := ⟨_, rfl⟩
  obtain ⟨D, hD⟩ : ∃ y_, cM r xs (x - f).toNat = y_ := ⟨_, rfl⟩
  rw [hB, hC, hD] at HCC
  have hfl := fldD 0 B C D
  have HK := Lib.hid (HK.out.on hb)
  have HX := Lib.hid (HX.out.on hb)
  clear hb hG hGs hR k0 k1 k2 k3 hB hC hD
  obtain ⟨k0, k1, k2, k3, _⟩ := HK.out
  go_wp2_with fail
  with_reducible refine HCC.out.mono ?_
  rintro e w4 ⟨rfl, hb⟩
  have HK := Lib.hid (HK.out.on hb)
  have HX := Lib.hid (HX.out.on hb)
  clear hb k0 k1 k2 k3 HCC
  obtain ⟨k0, k1, k2, k3, _⟩ := HK.out
  obtain ⟨c0, c1, c2, c3, c4⟩ := HX.out.five
  have m0 := HX.out.free 0
  have m1 := HX.out.free 1
  have m2 := HX.out.free 2
  have m3 := HX.out.free 3
  have m4 := HX.out.free 4
  go_wp2_with fail
  refine bodyPost_ret (v := .tuple #[.agg #[.pointer none, .int .i64 0, .slice none 0 0, .int .i64 0, .int .i64 0], .int .i64 5]) ?_ rfl ⟨rfl, ?_⟩
  · simp [results, Tryz.results23, go_sem, c0, c1, c2, c3, c4]
  · exact ((((HK.out.low.setCell (p := ⟨w.heap.size + 2, 0, none⟩) (by simp) _).setCell (p := ⟨w.heap.size + 2, 1, none⟩) (by simp) _).setCell (p := ⟨w.heap.size + 2, 2, none⟩) (by simp) _).setCell (p := ⟨w.heap.size + 2, 3, none⟩) (by simp) _).setCell (p := ⟨w.heap.size + 2, 4, none⟩) (by simp) _

/-- a cover, and its columns -/
def ScPost (r f : Int) (xs : List Int) (v : Value) (g : Int) (b : Option Addr) (m d : Nat) (x n : Int) (w : World) (e : Ending) (w' : World) : Prop := ∃ R, e = .returned (.tuple #[scv R g b m d x n, .int .i64 0]) ∧ Cols w' R r f xs v ∧ Below w.heap.size w w'

theorem cols_set5 {w : World} {R : Nat} {r f : Int} {xs : List Int} {v : Value} {B : Nat} {u0 u1 u2 u3 u4 : Value} (h : Cols w R r f xs v) (hR : R ≠ B) : Cols (((((w.setCell ⟨B, 0, none⟩ u0).setCell ⟨B, 1, none⟩ u1).setCell ⟨B, 2, none⟩ u2).setCell ⟨B, 3, none⟩ u3).setCell ⟨B, 4, none⟩ u4) R r f xs v :=
  h.same (by rw [heap_setCell_far _ _ _ _ hR, heap_setCell_far _ _ _ _ hR, heap_setCell_far _ _ _ _ hR, heap_setCell_far _ _ _ _ hR, heap_setCell_far _ _ _ _ hR])

set_option maxHeartbeats 2000000 in
theorem sco_yes (r f : Int) (xs : List Int) (a : Option Addr) (l c : Nat) (g : Int) (ys : List Int) (b : Option Addr) (m d : Nat) (x n q : Int) (w : World) (h : Ints w a l xs) (k : Ints w b m ys) (hlc : l ≤ c) (hmd : m ≤ d) (hE : skE r f xs g ys x n q = 0) :
    Calls Tryz.prog 23 #[.agg #[.int .i64 f, .slice a l c], .agg #[.int .i64 g, .slice b m d], .int .i64 r, .int .i64 x, .int .i64 n, .int .i64 q] w (ScPost r f xs (.slice a l c) g b m d x n w) := by
  have hs := skE_iff.1 hE
  have hk : ckE r f xs g ys x n q = 0 := by
    have e := skE_ck r f xs g ys x n q
    by_cases hk : ckE r f xs g ys x n q = 0
    · exact hk
    · rw [if_neg hk, hE] at e; exact e.symm
  have HK : Hid (K2 w f (.slice a l c) g (.slice b m d) ((w.alloc (.cells #[.int .i64 f, .slice a l c] 26)).alloc (.cells #[.int .i64 g, .slice b m d] 28))) := Lib.hid (K2.new _ _ _ _ _ _ _)
  have HK0 := Lib.hid (K2.rb (w := w) (f := f) (sa := .slice a l c) (g := g) (sb := .slice b m d) 26 28 49 [.pointer none, .int .i64 0, .slice none 0 0, .int .i64 0, .int .i64 0])
  have C1 : Hid (∀ W, Hid (K2 w f (.slice a l c) g (.slice b m d) W) → Calls Tryz.prog 43 #[.agg #[.int .i64 f, .slice a l c], .agg #[.int .i64 g, .slice b m d], .int .i64 r, .int .i64 x, .int .i64 n, .int .i64 q] W fun e w' => e = .returned (.int .i64 (ckE r f xs g ys x n q)) ∧ Below W.heap.size W w') :=
    Lib.hid (fun W hW => ichs_any r f xs a l c g ys b m d x n q W (h.on hW.out.low) (k.on hW.out.low) hlc hmd)
  have x0 := hs.x0
  have xn := hs.xn
  have n0 := hs.n0
  have r0 := hs.r0
  have r1 := hs.r1
  rw [hk] at C1
  have H := Lib.hid h
  have HS := Lib.hid hs
  have hbs := build_sc
  unfold ScPost scv
  clear h k hk hE hs
  go_enter Tryz.func23, Tryz.ntmps23
  go_wp2_with fail
  obtain ⟨W1, hW1⟩ : ∃ W1, ((w.alloc (.cells #[.int .i64 f, .slice a l c] 26)).alloc (.cells #[.int .i64 g, .slice b m d] 28)).alloc (.cells #[.pointer none, .int .i64 0, .slice none 0 0, .int .i64 0, .int .i64 0] 49) = W1 := ⟨_, rfl⟩
  have HKK : Hid (K2 w f (.slice a l c) g (.slice b m d) W1) := Lib.hid (by rw [← hW1]; exact HK0.out.1)
  have HX : Hid (Bx W1 (w.heap.size + 2) [.pointer none, .int .i64 0, .slice none 0 0, .int .i64 0, .int .i64 0]) := Lib.hid (by rw [← hW1]; exact HK0.out.2)
  (try rw [hW1])
  clear hW1 HK0 HK
  with_reducible refine (C1.out _ HKK).mono ?_
  rintro e w2 ⟨rfl, hb⟩
  have HK := Lib.hid (HKK.out.on hb)
  have HX := Lib.hid (HX.out.on hb)
  clear hb HKK
  obtain ⟨k0, k1, k2, k3, _⟩ := HK.out
  go_wp2_with fail
  with_reducible refine (co_any r f xs a l c _ (H.out.on HK.out.low) HS.out.lt r0 r1).mono ?_
  rintro e w3 ⟨R, G, rfl, hR, hG, hGs, hb⟩
  have HCO : Hid (Cols w3 R r f xs (.slice a l c)) := Lib.hid ⟨G, hG, hGs⟩
  have HCC := Lib.hid (at_cols r f xs (.slice a l c) R x w3 HCO.out HS.out.lt.1.1 x0 (by omega))
  have hd := HS.out.hd
  obtain ⟨A, hA⟩ : ∃ y_, cD r xs (x - f).toNat = y_ := ⟨_, rfl⟩
  obtain ⟨B, hB⟩ : ∃ y_, cN r xs (x - f).toNat = y_ := ⟨_, rfl⟩
  obtain ⟨C, hC⟩ : ∃ y_, cC r xs (x - f).toNat = y_ := ⟨_, rfl⟩
  obtain ⟨D, hD⟩ : ∃ y_, cM r xs (x - f).toNat = y_ := ⟨_, rfl⟩
  rw [hA, hB, hC, hD] at HCC
  rw [hA] at hd
  have hfl := fldD A B C D
  have hA0 : (A == 0) = false := by simp [hd]
  have hRn : R ≠ w.heap.size + 2 := by
    have h1 := HX.out.lt
    omega
  have HK := Lib.hid (HK.out.on hb)
  have HX := Lib.hid (HX.out.on hb)
  clear hb hG hGs hR k0 k1 k2 k3 hA hB hC hD hd
  obtain ⟨k0, k1, k2, k3, _⟩ := HK.out
  go_wp2_with fail
  with_reducible refine HCC.out.mono ?_
  rintro e w4 ⟨rfl, hb⟩
  have HK := Lib.hid (HK.out.on hb)
  have HX := Lib.hid (HX.out.on hb)
  have HCO := Lib.hid (HCO.out.on hb)
  clear hb k0 k1 k2 k3 HCC
  obtain ⟨k0, k1, k2, k3, _⟩ := HK.out
  obtain ⟨c0, c1, c2, c3, c4⟩ := HX.out.five
  have m0 := HX.out.free 0
  have m1 := HX.out.free 1
  have m2 := HX.out.free 2
  have m3 := HX.out.free 3
  have m4 := HX.out.free 4
  go_wp2_with fail
  refine bodyPost_ret (v := .tuple #[.agg #[.pointer (some ⟨R, 0, none⟩), .int .i64 g, .slice b m d, .int .i64 x, .int .i64 n], .int .i64 0]) ?_ rfl ⟨R, rfl, cols_set5 HCO.out hRn, ?_⟩
  · simp [results, Tryz.results23, go_sem, c0, c1, c2, c3, c4]
  · exact ((((HK.out.low.setCell (p := ⟨w.heap.size + 2, 0, none⟩) (by simp) _).setCell (p := ⟨w.heap.size + 2, 1, none⟩) (by simp) _).setCell (p := ⟨w.heap.size + 2, 2, none⟩) (by simp) _).setCell (p := ⟨w.heap.size + 2, 3, none⟩) (by simp) _).setCell (p := ⟨w.heap.size + 2, 4, none⟩) (by simp) _

end Go.Proofs.YtpdmbmfjeankbaaGreatDoor

/- Sickness: the program's value of a benefit: the numbers of the years, summed up by a deferred function. -/
namespace Go.Proofs.YtpdmbmfjeankbaaGreatDoor
open Go.ChangeShapes Go.WideShapes Go.ChangeAt Go.RowKit
set_option linter.unusedVariables false
set_option linter.unusedSimpArgs false
set_option maxRecDepth 100000

theorem colL_sum (F : Nat → Int) (k : Nat) : (colL F k).sum = fsum F 0 k := by
  induction k with
  | zero => rfl
  | succ k ih => rw [colL_snoc, List.sum_append, ih, fsum]; simp

theorem colL_takes (F : Nat → Int) (n k : Nat) : (colL F n).take k = colL F (min k n) := by
  unfold colL
  rw [← List.map_take, List.take_range]

theorem vdef_any (L : List Int) (H M : Nat) (a : Option Addr) (l c : Nat) (x : Value) (u : FrameMode) (w : World) (hv : w.cell? ⟨H, 0, none⟩ = some (.slice a l c)) (hi : Ints w a l L) (hlc : l ≤ c) (hs : ∀ k, 0 ≤ (L.take k).sum ∧ (L.take k).sum ≤ 1000000000000) (hm : w.cell? ⟨M, 0, none⟩ = some x) (hz : w.frozen? ⟨M, 0, none⟩ = false) :
    CallsD Tryz.prog 46 #[.pointer (some ⟨H, 0, none⟩), .pointer (some ⟨M, 0, none⟩)] u w fun e u' w' => u' = u ∧ (e = .returned (.tuple #[]) ∧ w' = w.setCell ⟨M, 0, none⟩ (.int .i64 L.sum)) := by
  have CT := Lib.hid (tot_any L a l c w hi hlc hs)
  clear hi hs
  go_enter_d Tryz.func46, Tryz.ntmps46
  go_wp2_with (go_at_call 47; refine (CT.out).mono ?_; rintro e w' ⟨rfl, rfl⟩)
  go_end0
  exact ⟨rfl, rfl⟩

/-- what the reckoning of a value keeps -/
structure SV (w : World) (R : Nat) (r f : Int) (xs : List Int) (v : Value) (g : Int) (ys : List Int) (b : Option Addr) (m d : Nat) (x n : Int) (W : World) : Prop where
  bx : Bx W w.heap.size [.pointer (some ⟨R, 0, none⟩), .int .i64 g, .slice b m d, .int .i64 x, .int .i64 n]
  rs : Bx W (w.heap.size + 1) [.int .i64 0]
  co : Cols W R r f xs v
  yy : Ints W b m ys
  low : Below w.heap.size w W
  sz : w.heap.size + 3 < W.heap.size

theorem SV.on {w : World} {R : Nat} {r f : Int} {xs : List Int} {v : Value} {g : Int} {ys : List Int} {b : Option Addr} {m d : Nat} {x n : Int} {W W' : World} (h : SV w R r f xs v g ys b m d x n W) (hb : Below W.heap.size W W') : SV w R r f xs v g ys b m d x n W' :=
  ⟨h.bx.on hb, h.rs.on hb, h.co.on hb, h.yy.on hb, h.low.trans (hb.mono h.low.size), Nat.lt_of_lt_of_le h.sz hb.size⟩

theorem SV.drew {w : World} {R : Nat} {r f : Int} {xs : List Int} {v : Value} {g : Int} {ys : List Int} {b : Option Addr} {m d : Nat} {x n : Int} {W : World} (h : SV w R r f xs v g ys b m d x n W) : SV w R r f xs v g ys b m d x n W.drew := h.on (Below.drew (Below.refl _ _))

/-- behind an append to the numbers -/
theorem SV.app {w : World} {R : Nat} {r f : Int} {xs : List Int} {v : Value} {g : Int} {ys : List Int} {b : Option Addr} {m d : Nat} {x n : Int} {W w5 : World} {row : Option Nat} (h : SV w R r f xs v g ys b m d x n W) (hg : W.grownBy w5 row) (hr : ∀ k, row = some k → w.heap.size + 2 ≤ k) (hR : R < w.heap.size) (hY : Ints w b m ys) : SV w R r f xs v g ys b m d x n w5 := by
  have hs := h.sz
  have far : ∀ k, k < w.heap.size + 2 → w5.heap[k]? = W.heap[k]? := fun k hk => hg.block k (by omega) (fun e => by have := hr k e.symm; omega)
  have hl := h.low.grown hg (by omega) (fun k hk => by have := hr k hk; omega)
  exact ⟨h.bx.same (far _ (by omega)), h.rs.same (far _ (by omega)), h.co.same (far _ (by omega)), hY.on hl, hl, Nat.lt_of_lt_of_le hs hg.size⟩

/-- .. and behind a store into the numbers' header -/
theorem SV.set {w : World} {R : Nat} {r f : Int} {xs : List Int} {v : Value} {g : Int} {ys : List Int} {b : Option Addr} {m d : Nat} {x n : Int} {W : World} (h : SV w R r f xs v g ys b m d x n W) (u : Value) (hR : R < w.heap.size) (hY : Ints w b m ys) : SV w R r f xs v g ys b m d x n (W.setCell ⟨w.heap.size + 3, 0, none⟩ u) := by
  have far : ∀ k, k < w.heap.size + 3 → (W.setCell ⟨w.heap.size + 3, 0, none⟩ u).heap[k]? = W.heap[k]? := fun k hk => far_setCell _ _ _ _ (by show k ≠ w.heap.size + 3; omega)
  have hl := h.low.setCell (p := ⟨w.heap.size + 3, 0, none⟩) (by show w.heap.size ≤ w.heap.size + 3; omega) u
  exact ⟨h.bx.same (far _ (by omega)), h.rs.same (far _ (by omega)), h.co.same (far _ (by omega)), hY.on hl, hl, by have := h.sz; simpa [World.setCell] using this⟩

/-- .. with the numbers so far -/
structure SG (w : World) (R : Nat) (r f : Int) (xs : List Int) (v : Value) (g : Int) (ys : List Int) (b : Option Addr) (m d : Nat) (x n : Int) (u : Value) (L : List Int) (W : World) : Prop where
  sv : SV w R r f xs v g ys b m d x n W
  hd : Bx W (w.heap.size + 3) [u]
  own : OwnI (w.heap.size + 2) W u L
  ne : u.ownBlock ≠ some (w.heap.size + 3)

theorem SG.on {w : World} {R : Nat} {r f : Int} {xs : List Int} {v : Value} {g : Int} {ys : List Int} {b : Option Addr} {m d : Nat} {x n : Int} {u : Value} {L : List Int} {W W' : World} (h : SG w R r f xs v g ys b m d x n u L W) (hb : Below W.heap.size W W') : SG w R r f xs v g ys b m d x n u L W' :=
  ⟨h.sv.on hb, h.hd.on hb, h.own.on hb, h.ne⟩

theorem Bx.one {w : World} {B : Nat} {x : Value} (h : Bx w B [x]) : w.cell? ⟨B, 0, none⟩ = some x := by
  obtain ⟨T, h⟩ := h
  simp [World.cell?, h]

theorem Bx.put1 {w : World} {B : Nat} {x : Value} (h : Bx w B [x]) (z : Value) : Bx (w.setCell ⟨B, 0, none⟩ z) B [z] := by
  have hl := h.lt
  obtain ⟨T, h⟩ := h
  rw [Array.getElem?_eq_getElem hl] at h
  have h' : w.heap[B] = .cells [x].toArray T (0, 0) := by simpa using h
  exact ⟨T, by simp [World.setCell, Array.getElem?_modify, Array.getElem?_eq_getElem hl, h']⟩

/-- .. as the reckoning begins -/
theorem SG.new {w : World} {R : Nat} {r f : Int} {xs : List Int} {v : Value} {g : Int} {ys : List Int} {b : Option Addr} {m d : Nat} {x n : Int} (T1 T2 T4 : TypeId) (hc : Cols w R r f xs v) (hy : Ints w b m ys) :
    SG w R r f xs v g ys b m d x n (.slice (some ⟨w.heap.size + 2, 0, none⟩) 0 0) [] ((((w.alloc (.cells #[.pointer (some ⟨R, 0, none⟩), .int .i64 g, .slice b m d, .int .i64 x, .int .i64 n] T1)).alloc (.cells #[.int .i64 0] T2)).alloc (.cells #[] 2)).alloc (.cells #[.slice (some ⟨w.heap.size + 2, 0, none⟩) 0 0] T4)) := by
  have p1 := Bx.new w [.pointer (some ⟨R, 0, none⟩), .int .i64 g, .slice b m d, .int .i64 x, .int .i64 n] T1
  have c1 := hc.on (box_b w (.cells #[.pointer (some ⟨R, 0, none⟩), .int .i64 g, .slice b m d, .int .i64 x, .int .i64 n] T1))
  have y1 := hy.on (box_b w (.cells #[.pointer (some ⟨R, 0, none⟩), .int .i64 g, .slice b m d, .int .i64 x, .int .i64 n] T1))
  have l1 := box_b w (.cells #[.pointer (some ⟨R, 0, none⟩), .int .i64 g, .slice b m d, .int .i64 x, .int .i64 n] T1)
  have s1 := World.size_alloc w (.cells #[.pointer (some ⟨R, 0, none⟩), .int .i64 g, .slice b m d, .int .i64 x, .int .i64 n] T1)
  generalize w.alloc (.cells #[.pointer (some ⟨R, 0, none⟩), .int .i64 g, .slice b m d, .int .i64 x, .int .i64 n] T1) = W1 at *
  have p2 := Bx.new W1 [.int .i64 0] T2
  rw [s1] at p2
  have hb1 := box_b W1 (.cells #[.int .i64 0] T2)
  have s2 := World.size_alloc W1 (.cells #[.int .i64 0] T2)
  rw [s1] at s2
  generalize W1.alloc (.cells #[.int .i64 0] T2) = W2 at *
  have o3 := ownI_new W2
  rw [s2] at o3
  have hb2 := box_b W2 (.cells #[] 2)
  have s3 := World.size_alloc W2 (.cells #[] 2)
  rw [s2] at s3
  generalize W2.alloc (.cells #[] 2) = W3 at *
  have p4 := Bx.new W3 [.slice (some ⟨w.heap.size + 2, 0, none⟩) 0 0] T4
  rw [s3] at p4
  have hb3 := box_b W3 (.cells #[.slice (some ⟨w.heap.size + 2, 0, none⟩) 0 0] T4)
  have s4 := World.size_alloc W3 (.cells #[.slice (some ⟨w.heap.size + 2, 0, none⟩) 0 0] T4)
  rw [s3] at s4
  exact ⟨⟨((p1.on hb1).on hb2).on hb3, (p2.on hb2).on hb3, ((c1.on hb1).on hb2).on hb3, ((y1.on hb1).on hb2).on hb3, ((l1.trans (hb1.mono (by omega))).trans (hb2.mono (by omega))).trans (hb3.mono (by omega)), by omega⟩, p4, o3.on hb3, by simp [Value.ownBlock]⟩

end Go.Proofs.YtpdmbmfjeankbaaGreatDoor
