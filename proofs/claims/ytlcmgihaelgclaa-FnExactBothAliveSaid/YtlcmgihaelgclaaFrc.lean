/- Fractions of the program; boxes of two tables; the first error of two codes: what the calls return. -/
import Derived.Test.YtlcmgihaelgclaaTwo
namespace Go.Proofs.Ytlcmgihaelgclaa
open Go.ChangeShapes Go.WideShapes Go.ChangeAt Go.RowKit
set_option linter.unusedVariables false

/-- a block of plain cells -/
def Bx (w : World) (B : Nat) (vs : List Value) : Prop := ∃ T, w.heap[B]? = some (.cells vs.toArray T (0, 0))

theorem Bx.two {w : World} {B : Nat} {x y : Value} (h : Bx w B [x, y]) : w.cell? ⟨B, 0, none⟩ = some x ∧ w.cell? ⟨B, 1, none⟩ = some y := by
  obtain ⟨T, h⟩ := h
  simp [World.cell?, h]

theorem Bx.four {w : World} {B : Nat} {x y z u : Value} (h : Bx w B [x, y, z, u]) : w.cell? ⟨B, 0, none⟩ = some x ∧ w.cell? ⟨B, 1, none⟩ = some y ∧ w.cell? ⟨B, 2, none⟩ = some z ∧ w.cell? ⟨B, 3, none⟩ = some u := by
  obtain ⟨T, h⟩ := h
  simp [World.cell?, h]

theorem Bx.free {w : World} {B : Nat} {vs : List Value} (h : Bx w B vs) (i : Nat) : w.frozen? ⟨B, i, none⟩ = false := by
  obtain ⟨T, h⟩ := h
  simp [World.frozen?, h]

theorem Bx.lt {w : World} {B : Nat} {vs : List Value} (h : Bx w B vs) : B < w.heap.size := by
  obtain ⟨T, h⟩ := h
  by_cases hb : B < w.heap.size
  · exact hb
  · have : w.heap[B]? = none := by simp; omega
    rw [this] at h; cases h

theorem Bx.same {w w' : World} {B : Nat} {vs : List Value} (h : Bx w B vs) (hb : w'.heap[B]? = w.heap[B]?) : Bx w' B vs := by
  obtain ⟨T, h⟩ := h
  exact ⟨T, by rw [hb, h]⟩

theorem Bx.on {w w' : World} {B : Nat} {vs : List Value} (h : Bx w B vs) (hb : Below w.heap.size w w') : Bx w' B vs := h.same (hb.block _ h.lt)

theorem Bx.new (w : World) (vs : List Value) (T : TypeId) : Bx (w.alloc (.cells vs.toArray T)) w.heap.size vs := ⟨T, heap_alloc_new _ _⟩

/-- the boxes of two tables -/
structure K2 (w : World) (f : Int) (sa : Value) (g : Int) (sb : Value) (W : World) : Prop where
  t0 : W.cell? ⟨w.heap.size, 0, none⟩ = some (.int .i64 f)
  t1 : W.cell? ⟨w.heap.size, 1, none⟩ = some sa
  u0 : W.cell? ⟨w.heap.size + 1, 0, none⟩ = some (.int .i64 g)
  u1 : W.cell? ⟨w.heap.size + 1, 1, none⟩ = some sb
  low : Below w.heap.size w W

theorem K2.on {w : World} {f : Int} {sa : Value} {g : Int} {sb : Value} {W W' : World} (h : K2 w f sa g sb W) (hb : Below W.heap.size W W') : K2 w f sa g sb W' :=
  ⟨keep2 hb h.t0, keep2 hb h.t1, keep2 hb h.u0, keep2 hb h.u1, h.low.trans (hb.mono h.low.size)⟩

theorem K2.new (w : World) (f : Int) (sa : Value) (g : Int) (sb : Value) (T U : TypeId) : K2 w f sa g sb ((w.alloc (.cells #[.int .i64 f, sa] T)).alloc (.cells #[.int .i64 g, sb] U)) := by
  have h1 := Bx.new w [.int .i64 f, sa] T
  have h2 := Bx.new (w.alloc (.cells #[.int .i64 f, sa] T)) [.int .i64 g, sb] U
  have h3 := h1.on (box_b (w.alloc (.cells #[.int .i64 f, sa] T)) (.cells #[.int .i64 g, sb] U))
  rw [World.size_alloc] at h2
  exact ⟨h3.two.1, h3.two.2, h2.two.1, h2.two.2, (box_b _ _).alloc (by simp) _⟩

theorem ftm_any (a b c d : Int) (w : World) (h1 : -9000000000000000000 ≤ a * c) (h2 : a * c ≤ 9000000000000000000) (h3 : -9000000000000000000 ≤ b * d) (h4 : b * d ≤ 9000000000000000000) :
    Calls Try.prog 49 #[.agg #[.int .i64 a, .int .i64 b], .agg #[.int .i64 c, .int .i64 d]] w fun e w' => e = .returned (.agg #[.int .i64 (a * c), .int .i64 (b * d)]) ∧ Below w.heap.size w w' := by
  go_enter Try.func49, Try.ntmps49
  go_wp2_with fail
  refine bodyPost_ret (v := .agg #[.int .i64 (a * c), .int .i64 (b * d)]) (by simp [results, Try.results49, go_sem]) rfl ⟨rfl, ?_⟩
  exact ((box_b _ _).alloc (by simp) _).alloc (by simp; omega) _

theorem minus_any (a b c d : Int) (w : World) (h1 : -4000000000000000000 ≤ a * d) (h2 : a * d ≤ 4000000000000000000) (h3 : -4000000000000000000 ≤ c * b) (h4 : c * b ≤ 4000000000000000000) (h5 : -9000000000000000000 ≤ b * d) (h6 : b * d ≤ 9000000000000000000) :
    Calls Try.prog 73 #[.agg #[.int .i64 a, .int .i64 b], .agg #[.int .i64 c, .int .i64 d]] w fun e w' => e = .returned (.agg #[.int .i64 (a * d - c * b), .int .i64 (b * d)]) ∧ Below w.heap.size w w' := by
  go_enter Try.func73, Try.ntmps73
  go_wp2_with fail
  refine bodyPost_ret (v := .agg #[.int .i64 (a * d - c * b), .int .i64 (b * d)]) (by simp [results, Try.results73, go_sem]) rfl ⟨rfl, ?_⟩
  exact ((box_b _ _).alloc (by simp) _).alloc (by simp; omega) _

theorem rest_any (a b : Int) (w : World) (a0 : -1000000000000 ≤ a) (a1 : a ≤ 1000000000000) (b0 : 0 ≤ b) (b1 : b ≤ 1000000000000) :
    Calls Try.prog 54 #[.agg #[.int .i64 a, .int .i64 b]] w fun e w' => e = .returned (.agg #[.int .i64 (b - a), .int .i64 b]) ∧ Below w.heap.size w w' := by
  have HM : Hid (∀ W, Calls Try.prog 73 #[.agg #[.int .i64 1, .int .i64 1], .agg #[.int .i64 a, .int .i64 b]] W fun e w' => e = .returned (.agg #[.int .i64 (b - a), .int .i64 b]) ∧ Below W.heap.size W w') := Lib.hid (fun W => by
    have := minus_any 1 1 a b W (by omega) (by omega) (by omega) (by omega) (by omega) (by omega)
    rw [Int.one_mul, Int.mul_one] at this
    exact this)
  have hq := (Bx.new (w.alloc (.cells #[.int .i64 a, .int .i64 b] 65)) [.int .i64 0, .int .i64 0] 65)
  have HB : Hid (Below w.heap.size w ((w.alloc (.cells #[.int .i64 a, .int .i64 b] 65)).alloc (.cells #[.int .i64 0, .int .i64 0] 65))) := Lib.hid ((box_b _ _).alloc (by simp) _)
  rw [World.size_alloc] at hq
  have HQ : Hid (Bx ((w.alloc (.cells #[.int .i64 a, .int .i64 b] 65)).alloc (.cells #[.int .i64 0, .int .i64 0] 65)) (w.heap.size + 1) [.int .i64 0, .int .i64 0]) := Lib.hid hq
  clear hq
  go_enter Try.func54, Try.ntmps54
  go_wp2_with fail
  refine (HM.out _).mono ?_
  rintro e w1 ⟨rfl, hb⟩
  have hq := HQ.out.on hb
  have HB1 := Lib.hid (HB.out.trans (hb.mono HB.out.size))
  obtain ⟨c0, c1⟩ := hq.two
  have m0 := hq.free 0
  have m1 := hq.free 1
  clear hb hq
  go_wp2_with fail
  refine bodyPost_ret (v := .agg #[.int .i64 (b - a), .int .i64 b]) (by simp [results, Try.results54, go_sem, c0, c1]) rfl ⟨rfl, ?_⟩
  exact (HB1.out.setCell (by simp) _).setCell (by simp) _

theorem lowest_any (a b : Int) (w : World) (a0 : 0 ≤ a) (a1 : a ≤ 1000000000000000) (b0 : 1 ≤ b) (b1 : b ≤ 1000000000000) :
    Calls Try.prog 50 #[.agg #[.int .i64 a, .int .i64 b]] w fun e w' => e = .returned (.tuple #[.int .i64 (a / gcdI a b), .int .i64 (b / gcdI a b)]) ∧ Below w.heap.size w w' := by
  obtain ⟨p1, p2⟩ := low_parts a b a0 b0
  have m0 := Int.emod_nonneg a (show b ≠ 0 by omega)
  have m1 := Int.emod_lt_of_pos a (show 0 < b by omega)
  have d0 := Int.ediv_nonneg a0 (show 0 ≤ b by omega)
  have hm := Int.mul_ediv_add_emod a b
  have g1 := gcdI_pos (a % b) b m0 b0
  obtain ⟨n0, n1⟩ := div_in (a % b) (gcdI (a % b) b) b m0 (by omega) g1
  obtain ⟨e0, e1⟩ := div_in b (gcdI (a % b) b) b (by omega) (by omega) g1
  have C := Lib.hid (fun W => low_any (a % b) b W m0 (by omega) b0 b1)
  have t1 : a.tmod b = a % b := Int.tmod_eq_emod_of_nonneg a0
  have t2 : a.tdiv b = a / b := Int.tdiv_eq_ediv_of_nonneg a0
  obtain ⟨M, hM⟩ : ∃ y_, a % b = y_ := ⟨_, rfl⟩
  obtain ⟨Q, hQ⟩ : ∃ y_, a / b = y_ := ⟨_, rfl⟩
  rw [hM] at p1 p2 m0 m1 hm g1 n0 n1 e0 e1 C t1
  rw [hQ] at p1 d0 hm t2
  obtain ⟨N, hN⟩ : ∃ y_, M / gcdI M b = y_ := ⟨_, rfl⟩
  obtain ⟨D, hD⟩ : ∃ y_, b / gcdI M b = y_ := ⟨_, rfl⟩
  rw [hN] at p1 n0 n1 C
  rw [hD] at p1 p2 e0 e1 C
  have h1 : 0 ≤ Q * D := Int.mul_nonneg d0 e0
  have h2 : Q * D ≤ Q * b := Int.mul_le_mul_of_nonneg_left e1 d0
  rw [Int.mul_comm b Q] at hm
  have h3 : Q * D ≤ 1000000000000000 := by omega
  have HP1 := Lib.hid p1
  have HP2 := Lib.hid p2
  have q3 : Q ≤ 1000000000000000 := by
    have := Int.mul_le_mul_of_nonneg_left b0 d0
    omega
  have q1 : IntKind.i64.wrap (a.tmod b) = M := by rw [t1]; exact IntWalk.i64_in _ (by omega)
  have q2 : IntKind.i64.wrap (a.tdiv b) = Q := by rw [t2]; exact IntWalk.i64_in _ (by omega)
  have hp : 0 < b := by omega
  clear p1 p2 hN hD g1 h2 hm
  go_enter Try.func50, Try.ntmps50
  go_wp2_with fail
  go_quiet ((go_at_call 83; exact Calls.quiet_of (C.out _)))
  go_wp2_with fail
  go_ret2
  exact ⟨ret_ii HP1.out HP2.out, below_drewN (box_b _ _) _⟩

theorem has_any (B : Nat) (k c d : Int) (r : Bool) (w : World) (h : Bx w B [.int .i64 c, .int .i64 d]) (hr : decide (c = k ∨ d = k) = r) :
    Calls Try.prog 97 #[.int .i64 k, .pointer (some ⟨B, 0, none⟩)] w fun e w' => e = .returned (.bool r) ∧ w = w' := by
  obtain ⟨c0, c1⟩ := h.two
  clear h
  by_cases h1 : c = k
  · subst h1
    have HR : Hid (r = true) := Lib.hid (by rw [← hr]; simp)
    clear hr
    go_enter Try.func97, Try.ntmps97
    go_wp2_with fail
    go_ret
    exact ⟨ret_bool HR.out.symm, rfl⟩
  · have e1 : (c == k) = false := by simpa using h1
    by_cases h2 : d = k
    · subst h2
      have HR : Hid (r = true) := Lib.hid (by rw [← hr]; simp)
      clear hr h1
      go_enter Try.func97, Try.ntmps97
      go_wp2_with fail
      go_ret
      exact ⟨ret_bool HR.out.symm, rfl⟩
    · have e2 : (d == k) = false := by simpa using h2
      have HR : Hid (r = false) := Lib.hid (by rw [← hr]; simp [h1, h2])
      clear hr h1 h2
      go_enter Try.func97, Try.ntmps97
      go_wp2_with fail
      go_ret
      exact ⟨ret_bool HR.out.symm, rfl⟩

set_option maxHeartbeats 2000000 in
theorem first_any (x c d : Int) (w : World) :
    Calls Try.prog 76 #[.int .i64 x, .agg #[.int .i64 c, .int .i64 d]] w fun e w' => e = .returned (.int .i64 (feE x c d)) ∧ Below w.heap.size w w' := by
  have hmf : ∀ (fn : Fn) (first cap : Array Value) (w : World), (Instr.makeFunc fn first cap).run Try.prog w = .ok (.func fn first cap) w := fun _ _ _ _ => rfl
  have HH : Hid (∀ k r, decide (c = k ∨ d = k) = r → Calls Try.prog 97 #[.int .i64 k, .pointer (some ⟨w.heap.size, 0, none⟩)] (w.alloc (.cells #[.int .i64 c, .int .i64 d] 84)) fun e w' => e = .returned (.bool r) ∧ (w.alloc (.cells #[.int .i64 c, .int .i64 d] 84)) = w') :=
    Lib.hid (fun k r hr => has_any w.heap.size k c d r _ (Bx.new w [.int .i64 c, .int .i64 d] 84) hr)
  by_cases h1 : c = 1 ∨ d = 1
  · have HR : Hid (feE x c d = 1) := Lib.hid (by unfold feE; rw [if_pos h1])
    have H1 : Hid (decide (c = 1 ∨ d = 1) = true) := Lib.hid (by simpa using h1)
    clear h1
    go_enter Try.func76, Try.ntmps76
    go_wp2_with fail
    refine (HH.out _ _ H1.out).mono ?_
    rintro e w' ⟨rfl, rfl⟩
    go_wp2_with fail
    go_ret
    exact ⟨ret_int HR.out.symm, box_b _ _⟩
  have H1 : Hid (decide (c = 1 ∨ d = 1) = false) := Lib.hid (by simpa using h1)
  by_cases h2 : c = 2 ∨ d = 2
  · have HR : Hid (feE x c d = 2) := Lib.hid (by unfold feE; rw [if_neg h1, if_pos (by omega)])
    have H2 : Hid (decide (c = 2 ∨ d = 2) = true) := Lib.hid (by simpa using h2)
    clear h1 h2
    go_enter Try.func76, Try.ntmps76
    go_wp2_with fail
    refine (HH.out _ _ H1.out).mono ?_
    rintro e w' ⟨rfl, rfl⟩
    go_wp2_with fail
    refine (HH.out _ _ H2.out).mono ?_
    rintro e w' ⟨rfl, rfl⟩
    go_wp2_with fail
    go_ret
    exact ⟨ret_int HR.out.symm, box_b _ _⟩
  have H2 : Hid (decide (c = 2 ∨ d = 2) = false) := Lib.hid (by simpa using h2)
  by_cases h3 : 100 < x
  · have HR : Hid (feE x c d = 2) := Lib.hid (by unfold feE; rw [if_neg h1, if_pos (by omega)])
    clear h1 h2
    go_enter Try.func76, Try.ntmps76
    go_wp2_with fail
    refine (HH.out _ _ H1.out).mono ?_
    rintro e w' ⟨rfl, rfl⟩
    go_wp2_with fail
    refine (HH.out _ _ H2.out).mono ?_
    rintro e w' ⟨rfl, rfl⟩
    go_wp2_with fail
    go_ret
    exact ⟨ret_int HR.out.symm, box_b _ _⟩
  by_cases h5 : c = 5 ∨ d = 5
  · have HR : Hid (feE x c d = 5) := Lib.hid (by unfold feE; rw [if_neg h1, if_neg (by omega), if_pos h5])
    have H5 : Hid (decide (c = 5 ∨ d = 5) = true) := Lib.hid (by simpa using h5)
    clear h1 h2 h5
    go_enter Try.func76, Try.ntmps76
    go_wp2_with fail
    refine (HH.out _ _ H1.out).mono ?_
    rintro e w' ⟨rfl, rfl⟩
    go_wp2_with fail
    refine (HH.out _ _ H2.out).mono ?_
    rintro e w' ⟨rfl, rfl⟩
    go_wp2_with fail
    refine (HH.out _ _ H5.out).mono ?_
    rintro e w' ⟨rfl, rfl⟩
    go_wp2_with fail
    go_ret
    exact ⟨ret_int HR.out.symm, box_b _ _⟩
  · have HR : Hid (feE x c d = 0) := Lib.hid (by unfold feE; rw [if_neg h1, if_neg (by omega), if_neg h5])
    have H5 : Hid (decide (c = 5 ∨ d = 5) = false) := Lib.hid (by simpa using h5)
    clear h1 h2 h5
    go_enter Try.func76, Try.ntmps76
    go_wp2_with fail
    refine (HH.out _ _ H1.out).mono ?_
    rintro e w' ⟨rfl, rfl⟩
    go_wp2_with fail
    refine (HH.out _ _ H2.out).mono ?_
    rintro e w' ⟨rfl, rfl⟩
    go_wp2_with fail
    refine (HH.out _ _ H5.out).mono ?_
    rintro e w' ⟨rfl, rfl⟩
    go_wp2_with fail
    go_ret
    exact ⟨ret_int HR.out.symm, box_b _ _⟩

end Go.Proofs.Ytlcmgihaelgclaa
