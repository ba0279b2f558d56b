/- Sickness tables as lists of numbers: weeks, values, codes; what the model's small functions on them return. -/
import Derived.Test.YtgfemcpjkdepdaaAnn
import Derived.Test.YtgfemcpjkdepdaaSib
namespace Go.Proofs.Ytgfemcpjkdepdaa
open Go.ChangeShapes Go.WideShapes Go.ChangeAt Go.RowKit
set_option linter.unusedVariables false
set_option maxRecDepth 100000

/-- the weeks at an age -/
def wk (g : Int) (ys : List Int) (x : Int) : Int := if inB (x - g) 0 ((ys.length : Int) - 1) = true then ys.getD (x - g).toNat 0 else 0

theorem STab.wk_bd {g : Int} {ys : List Int} (h : STab g ys) (x : Int) : 0 ≤ wk g ys x ∧ wk g ys x ≤ 52000 := by
  unfold wk
  split
  · exact h.get _
  · omega

/-! ### the codes -/

/-- a sickness table alone -/
def siE (g : Int) (ys : List Int) : Int := if skB g ys = true then 0 else 1

theorem siE_iff {g : Int} {ys : List Int} : siE g ys = 0 ↔ STab g ys := by
  unfold siE; rw [← skB_iff]; split <;> simp_all

/-- .. and an age -/
def weE (g : Int) (ys : List Int) (x : Int) : Int := if skB g ys = true then (if inB x 0 150 = true then 0 else 2) else 1

def weV (g : Int) (ys : List Int) (x : Int) : Int := if weE g ys x = 0 then wk g ys x else 0

theorem weE_iff {g : Int} {ys : List Int} {x : Int} : weE g ys x = 0 ↔ STab g ys ∧ 0 ≤ x ∧ x ≤ 150 := by
  unfold weE; rw [← skB_iff, ← inB_iff]
  split
  · next h => split <;> simp_all
  · next h => simp [h]

/-- .. and a benefit for some years -/
def skE (r f : Int) (xs : List Int) (g : Int) (ys : List Int) (x n b : Int) : Int := if skB g ys = true then anE r f xs x (inB n 1 60 && inB b 1 100000) n else 1

/-- what must hold of a benefit's arguments -/
structure SkIn (r f : Int) (xs : List Int) (g : Int) (ys : List Int) (x n b : Int) : Prop where
  st : STab g ys
  lt : LTab f xs
  r0 : 0 ≤ r
  r1 : r ≤ 200
  x0 : f ≤ x
  n0 : 1 ≤ n
  n1 : n ≤ 60
  xn : x + n ≤ 150
  b0 : 1 ≤ b
  b1 : b ≤ 100000
  hd : cD r xs (x - f).toNat ≠ 0

theorem skE_iff {r f : Int} {xs : List Int} {g : Int} {ys : List Int} {x n b : Int} : skE r f xs g ys x n b = 0 ↔ SkIn r f xs g ys x n b := by
  unfold skE
  constructor
  · intro h
    split at h
    · next hs =>
      obtain ⟨hc, hb, ⟨n0, n1⟩, xn, hd⟩ := anE_iff.1 h
      obtain ⟨ht, ⟨r0, r1⟩, x0, x1⟩ := coE_iff.1 hc
      rw [Bool.and_eq_true, inB_iff, inB_iff] at hb
      exact ⟨(skB_iff _ _).1 hs, ht, r0, r1, x0, hb.1.1, hb.1.2, xn, hb.2.1, hb.2.2, hd⟩
    · cases h
  · intro h
    rw [if_pos ((skB_iff _ _).2 h.st)]
    have h1 := h.n0
    have h2 := h.n1
    have h3 := h.xn
    exact anE_iff.2 ⟨coE_iff.2 ⟨h.lt, ⟨h.r0, h.r1⟩, h.x0, by omega⟩, by rw [Bool.and_eq_true, inB_iff, inB_iff]; exact ⟨⟨h.n0, h.n1⟩, h.b0, h.b1⟩, by omega, h.xn, h.hd⟩

/-! ### values -/

/-- what the benefit costs for the year k -/
def svF (r f : Int) (xs : List Int) (g : Int) (ys : List Int) (x b : Int) (k : Nat) : Int := upV (b * wk g ys (x + k)) (cD r xs (x + k - f).toNat) (1000 * cD r xs (x - f).toNat)

/-- .. for n years -/
def svS (r f : Int) (xs : List Int) (g : Int) (ys : List Int) (x b : Int) (n : Nat) : Int := fsum (svF r f xs g ys x b) 0 n

def svV (r f : Int) (xs : List Int) (g : Int) (ys : List Int) (x n b : Int) : Int := if skE r f xs g ys x n b = 0 then svS r f xs g ys x b n.toNat else 0

def spV (r f : Int) (xs : List Int) (g : Int) (ys : List Int) (x n b : Int) : Int := if skE r f xs g ys x n b = 0 then upV (svS r f xs g ys x b n.toNat) (cD r xs (x - f).toNat) (cN r xs (x - f).toNat - cN r xs (x + n - f).toNat) else 0

theorem LTab.cD_later {f : Int} {xs : List Int} (h : LTab f xs) (r : Int) (r0 : 0 ≤ r) (x : Int) (x0 : f ≤ x) (k : Nat) : cD r xs (x + k - f).toNat ≤ cD r xs (x - f).toNat := by
  have := h.cD_mono r r0 (x - f).toNat k
  rw [show (x + k - f).toNat = (x - f).toNat + k by omega]; exact this

theorem quot_small (b u v : Int) (b0 : 0 ≤ b) (v0 : 1 ≤ v) (u1 : u ≤ v) : b * u / v ≤ b := by
  have h1 := Int.mul_le_mul_of_nonneg_left u1 b0
  have h2 := Int.ediv_le_ediv (show 0 < v by omega) h1
  rw [Int.mul_ediv_cancel _ (show v ≠ 0 by omega)] at h2
  exact h2

/-- the numbers of a year's price, and what comes of them -/
theorem SkIn.year {r f : Int} {xs : List Int} {g : Int} {ys : List Int} {x n b : Int} (h : SkIn r f xs g ys x n b) (k : Nat) :
    ∃ W L D : Int, wk g ys (x + k) = W ∧ cD r xs (x + k - f).toNat = L ∧ cD r xs (x - f).toNat = D ∧ svF r f xs g ys x b k = upV (b * W) L (1000 * D) ∧ 0 ≤ W ∧ W ≤ 52000 ∧ 0 ≤ b * W ∧ b * W ≤ 5200000000 ∧ 0 ≤ L ∧ L ≤ 1000000000000000 ∧ 1 ≤ D ∧ D ≤ 1000000000000000 ∧ b * W * L / (1000 * D) ≤ 5200000 ∧ 0 ≤ upV (b * W) L (1000 * D) ∧ upV (b * W) L (1000 * D) ≤ 5200001 := by
  refine ⟨_, _, _, rfl, rfl, rfl, rfl, ?_⟩
  obtain ⟨w0, w1⟩ := h.st.wk_bd (x + k)
  obtain ⟨l0, l1⟩ := h.lt.cD_bd r h.r0 (x + k - f).toNat
  obtain ⟨d0, d1⟩ := h.lt.cD_bd r h.r0 (x - f).toNat
  have hle := h.lt.cD_later r h.r0 x h.x0 k
  have hd := h.hd
  have hb0 := h.b0
  have hb1 := h.b1
  generalize wk g ys (x + k) = W at *
  generalize cD r xs (x + k - f).toNat = L at *
  generalize cD r xs (x - f).toNat = D at *
  have p0 : 0 ≤ b * W := Int.mul_nonneg (by omega) w0
  have p1 : b * W ≤ 5200000000 := by
    have := Int.mul_le_mul hb1 w1 w0 (by omega); omega
  have q : b * W * L / (1000 * D) ≤ 5200000 := by
    have h1 := quot_small (b * W) L D p0 (by omega) hle
    rw [show b * W * L / (1000 * D) = b * W * L / D / 1000 by rw [Int.ediv_ediv_of_nonneg (by omega : (0 : Int) ≤ D), Int.mul_comm 1000 D]]
    omega
  obtain ⟨u0, u1⟩ := upV_bd (b * W) L (1000 * D) 5200000 p0 l0 (by omega) q
  exact ⟨w0, w1, p0, p1, l0, l1, by omega, d1, q, u0, u1⟩

theorem fsum_bdB (F : Nat → Int) (B : Int) (h : ∀ j, 0 ≤ F j ∧ F j ≤ B) (k n : Nat) : 0 ≤ fsum F k n ∧ fsum F k n ≤ n * B := by
  induction n with
  | zero => simp [fsum]
  | succ n ih =>
    have := h (k + n)
    rw [fsum]
    have e : ((n + 1 : Nat) : Int) * B = n * B + B := by rw [Int.natCast_add, Int.add_mul]; simp
    rw [e]; omega

theorem SkIn.sum_bd {r f : Int} {xs : List Int} {g : Int} {ys : List Int} {x n b : Int} (h : SkIn r f xs g ys x n b) (k : Nat) (hk : k ≤ 60) : 0 ≤ svS r f xs g ys x b k ∧ svS r f xs g ys x b k ≤ 312000060 := by
  have := fsum_bdB (svF r f xs g ys x b) 5200001 (fun j => by
    obtain ⟨W, L, D, _, _, _, e, _, _, _, _, _, _, _, _, _, u0, u1⟩ := h.year j
    rw [e]; exact ⟨u0, u1⟩) 0 k
  unfold svS
  omega

theorem svS_succ (r f : Int) (xs : List Int) (g : Int) (ys : List Int) (x b : Int) (k : Nat) : svS r f xs g ys x b (k + 1) = svS r f xs g ys x b k + svF r f xs g ys x b k := by
  unfold svS; rw [fsum, Nat.zero_add]

/-- behind the last living nothing is added -/
theorem SkIn.stop {r f : Int} {xs : List Int} {g : Int} {ys : List Int} {x n b : Int} (h : SkIn r f xs g ys x n b) (k m : Nat) (hk : k ≤ m) (hz : cD r xs (x + k - f).toNat = 0) : svS r f xs g ys x b m = svS r f xs g ys x b k := by
  obtain ⟨d, rfl⟩ : ∃ d, m = k + d := ⟨m - k, by omega⟩
  unfold svS
  refine fsum_more _ k 0 k (fun j hj => ?_) (by omega) d
  have h1 := h.lt.cD_later r h.r0 (x + k) (by have := h.x0; omega) (j - k)
  rw [show x + (k : Int) + ((j - k : Nat) : Int) = x + j by omega, hz] at h1
  have h2 := (h.lt.cD_bd r h.r0 (x + j - f).toNat).1
  have h3 : cD r xs (x + j - f).toNat = 0 := by omega
  unfold svF upV
  rw [h3]; simp

/-- the numbers of a premium -/
theorem SkIn.prem {r f : Int} {xs : List Int} {g : Int} {ys : List Int} {x n b : Int} (h : SkIn r f xs g ys x n b) :
    ∃ S D N M : Int, svS r f xs g ys x b n.toNat = S ∧ cD r xs (x - f).toNat = D ∧ cN r xs (x - f).toNat = N ∧ cN r xs (x + n - f).toNat = M ∧ 0 ≤ S ∧ S ≤ 312000060 ∧ 1 ≤ D ∧ D ≤ 1000000000000000 ∧ 0 ≤ N ∧ N ≤ 152000000000000000 ∧ 0 ≤ M ∧ M ≤ 152000000000000000 ∧ 1 ≤ N - M ∧ S * D / (N - M) ≤ 312000060 := by
  refine ⟨_, _, _, _, rfl, rfl, rfl, rfl, ?_⟩
  have hn0 := h.n0
  have hx0 := h.x0
  obtain ⟨s0, s1⟩ := h.sum_bd n.toNat (by have := h.n1; omega)
  obtain ⟨d0, d1⟩ := h.lt.cD_bd r h.r0 (x - f).toNat
  obtain ⟨n0, n1⟩ := h.lt.cN_bd r h.r0 (x - f).toNat
  obtain ⟨m0, m1⟩ := h.lt.cN_bd r h.r0 (x + n - f).toNat
  have h1 := h.lt.cN_step r (x - f).toNat
  have h2 := h.lt.cN_mono r h.r0 ((x - f).toNat + 1) (n.toNat - 1)
  rw [show (x - f).toNat + 1 + (n.toNat - 1) = (x + n - f).toNat by omega] at h2
  have hd := h.hd
  generalize svS r f xs g ys x b n.toNat = S at *
  generalize cD r xs (x - f).toNat = D at *
  generalize cN r xs (x - f).toNat = N at *
  generalize cN r xs (x + n - f).toNat = M at *
  have hN : D ≤ N - M := by omega
  have hq := quot_small S D (N - M) s0 (by omega) hN
  exact ⟨s0, s1, by omega, d1, n0, n1, m0, m1, by omega, by omega⟩

/-! ### the model's walks -/

theorem swk_any (g : Int) (ys : List Int) (a : Option Addr) (l c : Nat) (x : Int) (w : World) (h : Ints w a l ys) (g0 : 0 ≤ g) (g1 : g ≤ 100) (x0 : 0 ≤ x) (x1 : x ≤ 1000) (hl : l ≤ 1000) :
    Calls Try.prog 42 #[.agg #[.int .i64 g, .slice a l c], .int .i64 x] w fun e w' => e = .returned (.int .i64 (wk g ys x)) ∧ Below w.heap.size w w' := by
  have HL := Lib.hid h.len
  have H := Lib.hid h
  clear h
  have HR0 : Hid (wk g ys x = if inB (x - g) 0 ((l : Int) - 1) = true then ys.getD (x - g).toNat 0 else 0) := Lib.hid (by unfold wk; rw [HL.out])
  have q1 : IntKind.i64.wrap (x - g) = x - g := IntWalk.i64_in _ (by omega)
  have q2 : IntKind.i64.wrap ((l : Int) - 1) = (l : Int) - 1 := IntWalk.i64_in _ (by omega)
  by_cases hin : inB (x - g) 0 ((l : Int) - 1) = true
  · obtain ⟨i0, i1⟩ := (inB_iff _ _ _).1 hin
    obtain ⟨b, off, rfl, hb, hc⟩ := H.out.at (by omega)
    have hx := hc (x - g).toNat (by omega)
    obtain ⟨v, hv⟩ : ∃ v, ys.getD (x - g).toNat 0 = v := ⟨_, rfl⟩
    rw [hv] at hx
    have HR : Hid (wk g ys x = v) := Lib.hid (by rw [HR0.out, if_pos hin, hv])
    have q3 : (x - g).toNat < l := by omega
    clear hv hc HR0
    go_enter Try.func42, Try.ntmps42
    go_wp2_with (go_at_call 44; refine (in_any _ _ _ _).mono ?_; rintro e w' ⟨rfl, rfl⟩)
    go_ret
    exact ⟨ret_int HR.out.symm, box_b _ _⟩
  · have HR : Hid (wk g ys x = 0) := Lib.hid (by rw [HR0.out, if_neg hin])
    have hin2 : inB (x - g) 0 ((l : Int) - 1) = false := by simpa using hin
    clear HR0 hin
    go_enter Try.func42, Try.ntmps42
    go_wp2_with (go_at_call 44; refine (in_any _ _ _ _).mono ?_; rintro e w' ⟨rfl, rfl⟩)
    go_ret
    exact ⟨ret_int HR.out.symm, box_b _ _⟩

theorem swe_any (g : Int) (ys : List Int) (a : Option Addr) (l c : Nat) (x : Int) (w : World) (h : Ints w a l ys) :
    Calls Try.prog 16 #[.agg #[.int .i64 g, .slice a l c], .int .i64 x] w (IIPost (weV g ys x) (weE g ys x) w) := by
  have HC := Lib.hid (isS_spec g ys a l c (w.alloc (.cells #[.int .i64 g, .slice a l c] 26)) (h.on (box_b _ _)))
  have HL := Lib.hid h.len
  have H := Lib.hid h
  clear h
  unfold IIPost
  by_cases h1 : skB g ys = true
  · rw [h1] at HC
    by_cases h2 : inB x 0 150 = true
    · have HE : Hid (weE g ys x = 0) := Lib.hid (by unfold weE; rw [if_pos h1, if_pos h2])
      have HV : Hid (weV g ys x = wk g ys x) := Lib.hid (by unfold weV; rw [if_pos HE.out])
      obtain ⟨⟨g0, g1⟩, ⟨l0, l1⟩, _⟩ := (skB_iff _ _).1 h1
      obtain ⟨x0, x1⟩ := (inB_iff _ _ _).1 h2
      have hl := HL.out
      rw [hl] at l0 l1
      clear h1 hl
      go_enter Try.func16, Try.ntmps16
      go_wp2_with fail
      refine HC.out.mono ?_
      rintro e w1 ⟨rfl, hb1⟩
      obtain ⟨hB, hc0, hc1⟩ := box2 hb1
      have HB := Lib.hid hB
      clear hB hb1
      go_wp2_with (go_at_call 44; refine (in_any _ _ _ _).mono ?_; rintro e w' ⟨rfl, rfl⟩)
      refine (swk_any g ys _ _ _ _ _ (H.out.on HB.out) g0 g1 x0 (by omega) (by omega)).mono ?_
      rintro e w2 ⟨rfl, hb⟩
      have HB2 := Lib.hid (HB.out.trans (hb.mono HB.out.size))
      clear hb
      go_wp2_with fail
      go_ret2
      exact ⟨ret_ii HV.out.symm HE.out.symm, HB2.out⟩
    · have HE : Hid (weE g ys x = 2) := Lib.hid (by unfold weE; rw [if_pos h1, if_neg h2])
      have HV : Hid (weV g ys x = 0) := Lib.hid (by unfold weV; rw [HE.out]; rfl)
      have h3 : inB x 0 150 = false := by simpa using h2
      clear h1 h2
      go_enter Try.func16, Try.ntmps16
      go_wp2_with fail
      refine HC.out.mono ?_
      rintro e w1 ⟨rfl, hb1⟩
      obtain ⟨hB, hc0, hc1⟩ := box2 hb1
      have HB := Lib.hid hB
      clear hB hb1
      go_wp2_with (go_at_call 44; refine (in_any _ _ _ _).mono ?_; rintro e w' ⟨rfl, rfl⟩)
      go_ret2
      exact ⟨ret_ii HV.out.symm HE.out.symm, HB.out⟩
  · have h1' : skB g ys = false := by simpa using h1
    have HE : Hid (weE g ys x = 1) := Lib.hid (by unfold weE; rw [if_neg h1])
    have HV : Hid (weV g ys x = 0) := Lib.hid (by unfold weV; rw [HE.out]; rfl)
    rw [h1'] at HC
    clear h1 h1'
    go_enter Try.func16, Try.ntmps16
    go_wp2_with fail
    refine HC.out.mono ?_
    rintro e w1 ⟨rfl, hb1⟩
    obtain ⟨hB, hc0, hc1⟩ := box2 hb1
    have HB := Lib.hid hB
    clear hB hb1
    go_wp2_with fail
    go_ret2
    exact ⟨ret_ii HV.out.symm HE.out.symm, HB.out⟩

end Go.Proofs.Ytgfemcpjkdepdaa
