/- Sickness: the program's check of a benefit, and its cover. (Written by wip/gen/sicc.py.) -/
import Derived.Test.YtgfemcpjkdepdaaSicP
import Derived.Test.YtgfemcpjkdepdaaAnnI
import Derived.Test.YtgfemcpjkdepdaaBxs
import Derived.Test.YtgfemcpjkdepdaaComL
import Derived.Deep.RegionHeld3
namespace Go.Proofs.Ytgfemcpjkdepdaa
open Go.ChangeShapes Go.WideShapes Go.ChangeAt Go.RowKit
set_option linter.unusedVariables false
set_option linter.unusedSimpArgs false
set_option maxRecDepth 100000

/-- the code of a benefit but for D -/
def ckE (r f : Int) (xs : List Int) (g : Int) (ys : List Int) (x n q : Int) : Int := if skB g ys = true then akE r f xs x (inB n 1 60 && inB q 1 100000) n else 1

theorem skE_ck (r f : Int) (xs : List Int) (g : Int) (ys : List Int) (x n q : Int) : skE r f xs g ys x n q = if ckE r f xs g ys x n q = 0 then (if cD r xs (x - f).toNat = 0 then 5 else 0) else ckE r f xs g ys x n q := by
  unfold skE ckE
  by_cases h : skB g ys = true
  · rw [if_pos h, if_pos h]; exact anE_ak _ _ _ _ _ _
  · rw [if_neg h, if_neg h]; simp

theorem ck_no {r f : Int} {xs : List Int} {g : Int} {ys : List Int} {x n q : Int} (h1 : skB g ys = true) (hz : coE r f xs x = 0) (h : ¬ (inB n 1 60 = true ∧ inB q 1 100000 = true ∧ x + n ≤ 150)) : ckE r f xs g ys x n q = 2 := by
  unfold ckE akE
  rw [if_pos h1, if_pos hz, if_neg]
  rintro ⟨a, b, c⟩
  rw [Bool.and_eq_true] at a
  exact h ⟨a.1, a.2, c⟩

theorem ck_yes {r f : Int} {xs : List Int} {g : Int} {ys : List Int} {x n q : Int} (h1 : skB g ys = true) (hz : coE r f xs x = 0) (h2 : inB n 1 60 = true) (h3 : inB q 1 100000 = true) (h4 : x + n ≤ 150) : ckE r f xs g ys x n q = 0 := by
  unfold ckE akE
  have h5 := (inB_iff _ _ _).1 h2
  rw [if_pos h1, if_pos hz, if_pos ⟨by rw [h2, h3]; rfl, by omega, h4⟩]

set_option maxHeartbeats 1000000 in
theorem ichs_any (r f : Int) (xs : List Int) (a : Option Addr) (l c : Nat) (g : Int) (ys : List Int) (b : Option Addr) (m d : Nat) (x n q : Int) (w : World) (h : Ints w a l xs) (k : Ints w b m ys) (hlc : l ≤ c) (hmd : m ≤ d) :
    Calls Try.prog 60 #[.agg #[.int .i64 f, .slice a l c], .agg #[.int .i64 g, .slice b m d], .int .i64 r, .int .i64 x, .int .i64 n, .int .i64 q] w fun e w' => e = .returned (.int .i64 (ckE r f xs g ys x n q)) ∧ Below w.heap.size w w' := by
  have HK : Hid (K2 w f (.slice a l c) g (.slice b m d) ((w.alloc (.cells #[.int .i64 f, .slice a l c] 46)).alloc (.cells #[.int .i64 g, .slice b m d] 26))) := Lib.hid (K2.new _ _ _ _ _ _ _)
  have C1 : Hid (∀ W, Hid (K2 w f (.slice a l c) g (.slice b m d) W) → Calls Try.prog 22 #[.agg #[.int .i64 g, .slice b m d]] W fun e w' => e = .returned (.bool (skB g ys)) ∧ Below W.heap.size W w') :=
    Lib.hid (fun W hW => isS_impl g ys b m d W (k.on hW.out.low) hmd)
  have C2 : Hid (∀ W, Hid (K2 w f (.slice a l c) g (.slice b m d) W) → Calls Try.prog 71 #[.agg #[.int .i64 f, .slice a l c], .int .i64 r, .int .i64 x] W fun e w' => e = .returned (.int .i64 (coE r f xs x)) ∧ Below W.heap.size W w') :=
    Lib.hid (fun W hW => icheck_any r f xs a l c x W (h.on hW.out.low) hlc)
  clear h k
  by_cases h1 : skB g ys = true
  · rw [h1] at C1
    by_cases hz : coE r f xs x = 0
    · obtain ⟨ht, ⟨r0, r1⟩, x0, x1⟩ := coE_iff.1 hz
      obtain ⟨f0, f1⟩ := ht.1
      rw [hz] at C2
      by_cases hn : inB n 1 60 = true
      · obtain ⟨n0, n1⟩ := (inB_iff _ _ _).1 hn
        by_cases hx : x + n ≤ 150
        · by_cases hq : inB q 1 100000 = true
          · have HR := Lib.hid (ck_yes h1 hz hn hq hx)
            clear h1 hz ht
            go_enter Try.func60, Try.ntmps60
            go_wp2_with fail
            with_reducible refine (C1.out _ HK).mono ?_
            rintro e w1 ⟨rfl, hb⟩
            have HK := Lib.hid (HK.out.on hb)
            clear hb
            obtain ⟨k0, k1, k2, k3, _⟩ := HK.out
            go_wp2_with fail
            with_reducible refine (C2.out _ HK).mono ?_
            rintro e w2 ⟨rfl, hb⟩
            have HK := Lib.hid (HK.out.on hb)
            clear hb k0 k1 k2 k3
            go_wp2_with (go_at_call 37; refine (within_any _ _ _ _).mono ?_; rintro e w' ⟨rfl, rfl⟩)
            go_ret
            exact ⟨ret_int HR.out.symm, HK.out.low⟩
          · have HR := Lib.hid (ck_no (n := n) (q := q) h1 hz (fun e => hq e.2.1))
            have hq2 : inB q 1 100000 = false := by simpa using hq
            clear h1 hz ht hq
            go_enter Try.func60, Try.ntmps60
            go_wp2_with fail
            with_reducible refine (C1.out _ HK).mono ?_
            rintro e w1 ⟨rfl, hb⟩
            have HK := Lib.hid (HK.out.on hb)
            clear hb
            obtain ⟨k0, k1, k2, k3, _⟩ := HK.out
            go_wp2_with fail
            with_reducible refine (C2.out _ HK).mono ?_
            rintro e w2 ⟨rfl, hb⟩
            have HK := Lib.hid (HK.out.on hb)
            clear hb k0 k1 k2 k3
            go_wp2_with (go_at_call 37; refine (within_any _ _ _ _).mono ?_; rintro e w' ⟨rfl, rfl⟩)
            go_ret
            exact ⟨ret_int HR.out.symm, HK.out.low⟩
        · have HR := Lib.hid (ck_no (n := n) (q := q) h1 hz (fun e => hx e.2.2))
          have hx2 : 150 < x + n := by omega
          clear h1 hz ht hx
          go_enter Try.func60, Try.ntmps60
          go_wp2_with fail
          with_reducible refine (C1.out _ HK).mono ?_
          rintro e w1 ⟨rfl, hb⟩
          have HK := Lib.hid (HK.out.on hb)
          clear hb
          obtain ⟨k0, k1, k2, k3, _⟩ := HK.out
          go_wp2_with fail
          with_reducible refine (C2.out _ HK).mono ?_
          rintro e w2 ⟨rfl, hb⟩
          have HK := Lib.hid (HK.out.on hb)
          clear hb k0 k1 k2 k3
          go_wp2_with (go_at_call 37; refine (within_any _ _ _ _).mono ?_; rintro e w' ⟨rfl, rfl⟩)
          go_ret
          exact ⟨ret_int HR.out.symm, HK.out.low⟩
      · have HR := Lib.hid (ck_no (n := n) (q := q) h1 hz (fun e => hn e.1))
        have hn2 : inB n 1 60 = false := by simpa using hn
        clear h1 hz ht hn
        go_enter Try.func60, Try.ntmps60
        go_wp2_with fail
        with_reducible refine (C1.out _ HK).mono ?_
        rintro e w1 ⟨rfl, hb⟩
        have HK := Lib.hid (HK.out.on hb)
        clear hb
        obtain ⟨k0, k1, k2, k3, _⟩ := HK.out
        go_wp2_with fail
        with_reducible refine (C2.out _ HK).mono ?_
        rintro e w2 ⟨rfl, hb⟩
        have HK := Lib.hid (HK.out.on hb)
        clear hb k0 k1 k2 k3
        go_wp2_with (go_at_call 37; refine (within_any _ _ _ _).mono ?_; rintro e w' ⟨rfl, rfl⟩)
        go_ret
        exact ⟨ret_int HR.out.symm, HK.out.low⟩
    · have HR : Hid (ckE r f xs g ys x n q = coE r f xs x) := Lib.hid (by unfold ckE akE; rw [if_pos h1, if_neg hz])
      obtain ⟨E, hE⟩ : ∃ E, coE r f xs x = E := ⟨_, rfl⟩
      rw [hE] at C2 HR hz
      have hne : (E != 0) = true := by simp [hz]
      clear hE hz h1
      go_enter Try.func60, Try.ntmps60
      go_wp2_with fail
      with_reducible refine (C1.out _ HK).mono ?_
      rintro e w1 ⟨rfl, hb⟩
      have HK := Lib.hid (HK.out.on hb)
      clear hb
      obtain ⟨k0, k1, k2, k3, _⟩ := HK.out
      go_wp2_with fail
      with_reducible refine (C2.out _ HK).mono ?_
      rintro e w2 ⟨rfl, hb⟩
      have HK := Lib.hid (HK.out.on hb)
      clear hb k0 k1 k2 k3
      go_wp2_with (go_at_call 37; refine (within_any _ _ _ _).mono ?_; rintro e w' ⟨rfl, rfl⟩)
      go_ret
      exact ⟨ret_int HR.out.symm, HK.out.low⟩
  · have HR : Hid (ckE r f xs g ys x n q = 1) := Lib.hid (by unfold ckE; rw [if_neg h1])
    have h1' : skB g ys = false := by simpa using h1
    rw [h1'] at C1
    clear h1 h1'
    go_enter Try.func60, Try.ntmps60
    go_wp2_with fail
    with_reducible refine (C1.out _ HK).mono ?_
    rintro e w1 ⟨rfl, hb⟩
    have HK := Lib.hid (HK.out.on hb)
    clear hb
    obtain ⟨k0, k1, k2, k3, _⟩ := HK.out
    go_wp2_with fail
    go_ret
    exact ⟨ret_int HR.out.symm, HK.out.low⟩

/-- a cover of sickness -/
def scv (R : Nat) (g : Int) (b : Option Addr) (m d : Nat) (x n : Int) : Value := .agg #[.pointer (some ⟨R, 0, none⟩), .int .i64 g, .slice b m d, .int .i64 x, .int .i64 n]

/-- .. none -/
def scz : Value := .agg #[.pointer none, .int .i64 0, .slice none 0 0, .int .i64 0, .int .i64 0]

theorem build_sc (p : Value) (R : Nat) (g : Int) (b : Option Addr) (m d : Nat) (x n : Int) (W : World) : (Instr.build 71 #[(0, .pointer (some ⟨R, 0, none⟩)), (1, .agg #[.int .i64 g, .slice b m d]), (2, .int .i64 x), (3, .int .i64 n)]).run Try.prog W = .ok (.agg #[.pointer (some ⟨R, 0, none⟩), .int .i64 g, .slice b m d, .int .i64 x, .int .i64 n]) W := by kernel_rfl

theorem build_sz (W : World) : (Instr.build 71 #[]).run Try.prog W = .ok (.agg #[.pointer none, .int .i64 0, .slice none 0 0, .int .i64 0, .int .i64 0]) W := by kernel_rfl

theorem Bx.five {w : World} {B : Nat} {x y z u v : Value} (h : Bx w B [x, y, z, u, v]) : w.cell? ⟨B, 0, none⟩ = some x ∧ w.cell? ⟨B, 1, none⟩ = some y ∧ w.cell? ⟨B, 2, none⟩ = some z ∧ w.cell? ⟨B, 3, none⟩ = some u ∧ w.cell? ⟨B, 4, none⟩ = some v := by
  obtain ⟨T, h⟩ := h
  simp [World.cell?, h]

set_option maxHeartbeats 2000000 in
theorem sco_err (r f : Int) (xs : List Int) (a : Option Addr) (l c : Nat) (g : Int) (ys : List Int) (b : Option Addr) (m d : Nat) (x n q : Int) (w : World) (h : Ints w a l xs) (k : Ints w b m ys) (hlc : l ≤ c) (hmd : m ≤ d) (hk : ckE r f xs g ys x n q ≠ 0) :
    Calls Try.prog 50 #[.agg #[.int .i64 f, .slice a l c], .agg #[.int .i64 g, .slice b m d], .int .i64 r, .int .i64 x, .int .i64 n, .int .i64 q] w fun e w' => e = .returned (.tuple #[scz, .int .i64 (ckE r f xs g ys x n q)]) ∧ Below w.heap.size w w' := by
  have HK : Hid (K2 w f (.slice a l c) g (.slice b m d) ((w.alloc (.cells #[.int .i64 f, .slice a l c] 46)).alloc (.cells #[.int .i64 g, .slice b m d] 26))) := Lib.hid (K2.new _ _ _ _ _ _ _)
  have HK0 := Lib.hid (K2.rb (w := w) (f := f) (sa := .slice a l c) (g := g) (sb := .slice b m d) 46 26 71 [.pointer none, .int .i64 0, .slice none 0 0, .int .i64 0, .int .i64 0])
  have C1 : Hid (∀ W, Hid (K2 w f (.slice a l c) g (.slice b m d) W) → Calls Try.prog 60 #[.agg #[.int .i64 f, .slice a l c], .agg #[.int .i64 g, .slice b m d], .int .i64 r, .int .i64 x, .int .i64 n, .int .i64 q] W fun e w' => e = .returned (.int .i64 (ckE r f xs g ys x n q)) ∧ Below W.heap.size W w') :=
    Lib.hid (fun W hW => ichs_any r f xs a l c g ys b m d x n q W (h.on hW.out.low) (k.on hW.out.low) hlc hmd)
  obtain ⟨E, hE⟩ : ∃ y_, ckE r f xs g ys x n q = y_ := ⟨_, rfl⟩
  rw [hE] at C1 hk ⊢
  have hne : (E != 0) = true := by simp [hk]
  have hbz := build_sz
  unfold scz
  clear h k hE hk
  go_enter Try.func50, Try.ntmps50
  go_wp2_with fail
  obtain ⟨W1, hW1⟩ : ∃ W1, ((w.alloc (.cells #[.int .i64 f, .slice a l c] 46)).alloc (.cells #[.int .i64 g, .slice b m d] 26)).alloc (.cells #[.pointer none, .int .i64 0, .slice none 0 0, .int .i64 0, .int .i64 0] 71) = W1 := ⟨_, rfl⟩
  have HKK : Hid (K2 w f (.slice a l c) g (.slice b m d) W1) := Lib.hid (by rw [← hW1]; exact HK0.out.1)
  have HX : Hid (Bx W1 (w.heap.size + 2) [.pointer none, .int .i64 0, .slice none 0 0, .int .i64 0, .int .i64 0]) := Lib.hid (by rw [← hW1]; exact HK0.out.2)
  (try rw [hW1])
  clear hW1 HK0 HK
  with_reducible refine (C1.out _ HKK).mono ?_
  rintro e w2 ⟨rfl, hb⟩
  have HK := Lib.hid (HKK.out.on hb)
  have HX := Lib.hid (HX.out.on hb)
  clear hb HKK
  obtain ⟨k0, k1, k2, k3, _⟩ := HK.out
  obtain ⟨c0, c1, c2, c3, c4⟩ := HX.out.five
  have m0 := HX.out.free 0
  have m1 := HX.out.free 1
  have m2 := HX.out.free 2
  have m3 := HX.out.free 3
  have m4 := HX.out.free 4
  go_wp2_with fail
  refine bodyPost_ret (v := .tuple #[.agg #[.pointer none, .int .i64 0, .slice none 0 0, .int .i64 0, .int .i64 0], .int .i64 E]) ?_ rfl ⟨rfl, ?_⟩
  · simp [results, Try.results50, go_sem, c0, c1, c2, c3, c4]
  · exact ((((HK.out.low.setCell (p := ⟨w.heap.size + 2, 0, none⟩) (by simp) _).setCell (p := ⟨w.heap.size + 2, 1, none⟩) (by simp) _).setCell (p := ⟨w.heap.size + 2, 2, none⟩) (by simp) _).setCell (p := ⟨w.heap.size + 2, 3, none⟩) (by simp) _).setCell (p := ⟨w.heap.size + 2, 4, none⟩) (by simp) _

set_option maxHeartbeats 2000000 in
theorem sco_dead (r f : Int) (xs : List Int) (a : Option Addr) (l c : Nat) (g : Int) (ys : List Int) (b : Option Addr) (m d : Nat) (x n q : Int) (w : World) (h : Ints w a l xs) (k : Ints w b m ys) (hlc : l ≤ c) (hmd : m ≤ d) (hk : ckE r f xs g ys x n q = 0) (hd : cD r xs (x - f).toNat = 0) :
    Calls Try.prog 50 #[.agg #[.int .i64 f, .slice a l c], .agg #[.int .i64 g, .slice b m d], .int .i64 r, .int .i64 x, .int .i64 n, .int .i64 q] w fun e w' => e = .returned (.tuple #[scz, .int .i64 5]) ∧ Below w.heap.size w w' := by
  have HK : Hid (K2 w f (.slice a l c) g (.slice b m d) ((w.alloc (.cells #[.int .i64 f, .slice a l c] 46)).alloc (.cells #[.int .i64 g, .slice b m d] 26))) := Lib.hid (K2.new _ _ _ _ _ _ _)
  have HK0 := Lib.hid (K2.rb (w := w) (f := f) (sa := .slice a l c) (g := g) (sb := .slice b m d) 46 26 71 [.pointer none, .int .i64 0, .slice none 0 0, .int .i64 0, .int .i64 0])
  have C1 : Hid (∀ W, Hid (K2 w f (.slice a l c) g (.slice b m d) W) → Calls Try.prog 60 #[.agg #[.int .i64 f, .slice a l c], .agg #[.int .i64 g, .slice b m d], .int .i64 r, .int .i64 x, .int .i64 n, .int .i64 q] W fun e w' => e = .returned (.int .i64 (ckE r f xs g ys x n q)) ∧ Below W.heap.size W w') :=
    Lib.hid (fun W hW => ichs_any r f xs a l c g ys b m d x n q W (h.on hW.out.low) (k.on hW.out.low) hlc hmd)
  obtain ⟨hc, -⟩ : coE r f xs x = 0 ∧ True := by
    unfold ckE at hk
    split at hk
    · exact ⟨(akE_iff.1 hk).1, trivial⟩
    · cases hk
  obtain ⟨ht, ⟨r0, r1⟩, x0, x1⟩ := coE_iff.1 hc
  rw [hk] at C1
  have H := Lib.hid h
  have HT := Lib.hid ht
  have HCD := Lib.hid hd
  have hbz := build_sz
  unfold scz
  clear h k hk hc hd
  go_enter Try.func50, Try.ntmps50
  go_wp2_with fail
  obtain ⟨W1, hW1⟩ : ∃ W1, ((w.alloc (.cells #[.int .i64 f, .slice a l c] 46)).alloc (.cells #[.int .i64 g, .slice b m d] 26)).alloc (.cells #[.pointer none, .int .i64 0, .slice none 0 0, .int .i64 0, .int .i64 0] 71) = W1 := ⟨_, rfl⟩
  have HKK : Hid (K2 w f (.slice a l c) g (.slice b m d) W1) := Lib.hid (by rw [← hW1]; exact HK0.out.1)
  have HX : Hid (Bx W1 (w.heap.size + 2) [.pointer none, .int .i64 0, .slice none 0 0, .int .i64 0, .int .i64 0]) := Lib.hid (by rw [← hW1]; exact HK0.out.2)
  (try rw [hW1])
  clear hW1 HK0 HK
  with_reducible refine (C1.out _ HKK).mono ?_
  rintro e w2 ⟨rfl, hb⟩
  have HK := Lib.hid (HKK.out.on hb)
  have HX := Lib.hid (HX.out.on hb)
  clear hb HKK
  obtain ⟨k0, k1, k2, k3, _⟩ := HK.out
  go_wp2_with fail
  with_reducible refine (co_any r f xs a l c _ (H.out.on HK.out.low) HT.out r0 r1).mono ?_
  rintro e w3 ⟨R, G, rfl, hR, hG, hGs, hb⟩
  have HCC := Lib.hid (at_cols r f xs (.slice a l c) R x w3 ⟨G, hG, hGs⟩ HT.out.1.1 x0 x1)
  rw [HCD.out] at HCC
  obtain ⟨B, hB⟩ : ∃ y_, cN r xs (x - f).toNat = y_ := ⟨_, rfl⟩
  obtain ⟨C, hC⟩ : ∃ y_, cC r xs (x - f).toNat = y_ := ⟨_, rfl⟩
  obtain ⟨D, hD⟩ : ∃ y_, cM r xs (x - f).toNat = y_ := ⟨_, rfl⟩
  rw [hB, hC, hD] at HCC
  have hfl := fldD 0 B C D
  have HK := Lib.hid (HK.out.on hb)
  have HX := Lib.hid (HX.out.on hb)
  clear hb hG hGs hR k0 k1 k2 k3 hB hC hD
  obtain ⟨k0, k1, k2, k3, _⟩ := HK.out
  go_wp2_with fail
  with_reducible refine HCC.out.mono ?_
  rintro e w4 ⟨rfl, hb⟩
  have HK := Lib.hid (HK.out.on hb)
  have HX := Lib.hid (HX.out.on hb)
  clear hb k0 k1 k2 k3 HCC
  obtain ⟨k0, k1, k2, k3, _⟩ := HK.out
  obtain ⟨c0, c1, c2, c3, c4⟩ := HX.out.five
  have m0 := HX.out.free 0
  have m1 := HX.out.free 1
  have m2 := HX.out.free 2
  have m3 := HX.out.free 3
  have m4 := HX.out.free 4
  go_wp2_with fail
  refine bodyPost_ret (v := .tuple #[.agg #[.pointer none, .int .i64 0, .slice none 0 0, .int .i64 0, .int .i64 0], .int .i64 5]) ?_ rfl ⟨rfl, ?_⟩
  · simp [results, Try.results50, go_sem, c0, c1, c2, c3, c4]
  · exact ((((HK.out.low.setCell (p := ⟨w.heap.size + 2, 0, none⟩) (by simp) _).setCell (p := ⟨w.heap.size + 2, 1, none⟩) (by simp) _).setCell (p := ⟨w.heap.size + 2, 2, none⟩) (by simp) _).setCell (p := ⟨w.heap.size + 2, 3, none⟩) (by simp) _).setCell (p := ⟨w.heap.size + 2, 4, none⟩) (by simp) _

/-- a cover, and its columns -/
def ScPost (r f : Int) (xs : List Int) (v : Value) (g : Int) (b : Option Addr) (m d : Nat) (x n : Int) (w : World) (e : Ending) (w' : World) : Prop := ∃ R, e = .returned (.tuple #[scv R g b m d x n, .int .i64 0]) ∧ Cols w' R r f xs v ∧ Below w.heap.size w w'

theorem cols_set5 {w : World} {R : Nat} {r f : Int} {xs : List Int} {v : Value} {B : Nat} {u0 u1 u2 u3 u4 : Value} (h : Cols w R r f xs v) (hR : R ≠ B) : Cols (((((w.setCell ⟨B, 0, none⟩ u0).setCell ⟨B, 1, none⟩ u1).setCell ⟨B, 2, none⟩ u2).setCell ⟨B, 3, none⟩ u3).setCell ⟨B, 4, none⟩ u4) R r f xs v :=
  h.same (by rw [heap_setCell_far _ _ _ _ hR, heap_setCell_far _ _ _ _ hR, heap_setCell_far _ _ _ _ hR, heap_setCell_far _ _ _ _ hR, heap_setCell_far _ _ _ _ hR])

set_option maxHeartbeats 2000000 in
theorem sco_yes (r f : Int) (xs : List Int) (a : Option Addr) (l c : Nat) (g : Int) (ys : List Int) (b : Option Addr) (m d : Nat) (x n q : Int) (w : World) (h : Ints w a l xs) (k : Ints w b m ys) (hlc : l ≤ c) (hmd : m ≤ d) (hE : skE r f xs g ys x n q = 0) :
    Calls Try.prog 50 #[.agg #[.int .i64 f, .slice a l c], .agg #[.int .i64 g, .slice b m d], .int .i64 r, .int .i64 x, .int .i64 n, .int .i64 q] w (ScPost r f xs (.slice a l c) g b m d x n w) := by
  have hs := skE_iff.1 hE
  have hk : ckE r f xs g ys x n q = 0 := by
    have e := skE_ck r f xs g ys x n q
    by_cases hk : ckE r f xs g ys x n q = 0
    · exact hk
    · rw [if_neg hk, hE] at e; exact e.symm
  have HK : Hid (K2 w f (.slice a l c) g (.slice b m d) ((w.alloc (.cells #[.int .i64 f, .slice a l c] 46)).alloc (.cells #[.int .i64 g, .slice b m d] 26))) := Lib.hid (K2.new _ _ _ _ _ _ _)
  have HK0 := Lib.hid (K2.rb (w := w) (f := f) (sa := .slice a l c) (g := g) (sb := .slice b m d) 46 26 71 [.pointer none, .int .i64 0, .slice none 0 0, .int .i64 0, .int .i64 0])
  have C1 : Hid (∀ W, Hid (K2 w f (.slice a l c) g (.slice b m d) W) → Calls Try.prog 60 #[.agg #[.int .i64 f, .slice a l c], .agg #[.int .i64 g, .slice b m d], .int .i64 r, .int .i64 x, .int .i64 n, .int .i64 q] W fun e w' => e = .returned (.int .i64 (ckE r f xs g ys x n q)) ∧ Below W.heap.size W w') :=
    Lib.hid (fun W hW => ichs_any r f xs a l c g ys b m d x n q W (h.on hW.out.low) (k.on hW.out.low) hlc hmd)
  have x0 := hs.x0
  have xn := hs.xn
  have n0 := hs.n0
  have r0 := hs.r0
  have r1 := hs.r1
  rw [hk] at C1
  have H := Lib.hid h
  have HS := Lib.hid hs
  have hbs := build_sc
  unfold ScPost scv
  clear h k hk hE hs
  go_enter Try.func50, Try.ntmps50
  go_wp2_with fail
  obtain ⟨W1, hW1⟩ : ∃ W1, ((w.alloc (.cells #[.int .i64 f, .slice a l c] 46)).alloc (.cells #[.int .i64 g, .slice b m d] 26)).alloc (.cells #[.pointer none, .int .i64 0, .slice none 0 0, .int .i64 0, .int .i64 0] 71) = W1 := ⟨_, rfl⟩
  have HKK : Hid (K2 w f (.slice a l c) g (.slice b m d) W1) := Lib.hid (by rw [← hW1]; exact HK0.out.1)
  have HX : Hid (Bx W1 (w.heap.size + 2) [.pointer none, .int .i64 0, .slice none 0 0, .int .i64 0, .int .i64 0]) := Lib.hid (by rw [← hW1]; exact HK0.out.2)
  (try rw [hW1])
  clear hW1 HK0 HK
  with_reducible refine (C1.out _ HKK).mono ?_
  rintro e w2 ⟨rfl, hb⟩
  have HK := Lib.hid (HKK.out.on hb)
  have HX := Lib.hid (HX.out.on hb)
  clear hb HKK
  obtain ⟨k0, k1, k2, k3, _⟩ := HK.out
  go_wp2_with fail
  with_reducible refine (co_any r f xs a l c _ (H.out.on HK.out.low) HS.out.lt r0 r1).mono ?_
  rintro e w3 ⟨R, G, rfl, hR, hG, hGs, hb⟩
  have HCO : Hid (Cols w3 R r f xs (.slice a l c)) := Lib.hid ⟨G, hG, hGs⟩
  have HCC := Lib.hid (at_cols r f xs (.slice a l c) R x w3 HCO.out HS.out.lt.1.1 x0 (by omega))
  have hd := HS.out.hd
  obtain ⟨A, hA⟩ : ∃ y_, cD r xs (x - f).toNat = y_ := ⟨_, rfl⟩
  obtain ⟨B, hB⟩ : ∃ y_, cN r xs (x - f).toNat = y_ := ⟨_, rfl⟩
  obtain ⟨C, hC⟩ : ∃ y_, cC r xs (x - f).toNat = y_ := ⟨_, rfl⟩
  obtain ⟨D, hD⟩ : ∃ y_, cM r xs (x - f).toNat = y_ := ⟨_, rfl⟩
  rw [hA, hB, hC, hD] at HCC
  rw [hA] at hd
  have hfl := fldD A B C D
  have hA0 : (A == 0) = false := by simp [hd]
  have hRn : R ≠ w.heap.size + 2 := by
    have h1 := HX.out.lt
    omega
  have HK := Lib.hid (HK.out.on hb)
  have HX := Lib.hid (HX.out.on hb)
  clear hb hG hGs hR k0 k1 k2 k3 hA hB hC hD hd
  obtain ⟨k0, k1, k2, k3, _⟩ := HK.out
  go_wp2_with fail
  with_reducible refine HCC.out.mono ?_
  rintro e w4 ⟨rfl, hb⟩
  have HK := Lib.hid (HK.out.on hb)
  have HX := Lib.hid (HX.out.on hb)
  have HCO := Lib.hid (HCO.out.on hb)
  clear hb k0 k1 k2 k3 HCC
  obtain ⟨k0, k1, k2, k3, _⟩ := HK.out
  obtain ⟨c0, c1, c2, c3, c4⟩ := HX.out.five
  have m0 := HX.out.free 0
  have m1 := HX.out.free 1
  have m2 := HX.out.free 2
  have m3 := HX.out.free 3
  have m4 := HX.out.free 4
  go_wp2_with fail
  refine bodyPost_ret (v := .tuple #[.agg #[.pointer (some ⟨R, 0, none⟩), .int .i64 g, .slice b m d, .int .i64 x, .int .i64 n], .int .i64 0]) ?_ rfl ⟨R, rfl, cols_set5 HCO.out hRn, ?_⟩
  · simp [results, Try.results50, go_sem, c0, c1, c2, c3, c4]
  · exact ((((HK.out.low.setCell (p := ⟨w.heap.size + 2, 0, none⟩) (by simp) _).setCell (p := ⟨w.heap.size + 2, 1, none⟩) (by simp) _).setCell (p := ⟨w.heap.size + 2, 2, none⟩) (by simp) _).setCell (p := ⟨w.heap.size + 2, 3, none⟩) (by simp) _).setCell (p := ⟨w.heap.size + 2, 4, none⟩) (by simp) _

end Go.Proofs.Ytgfemcpjkdepdaa
