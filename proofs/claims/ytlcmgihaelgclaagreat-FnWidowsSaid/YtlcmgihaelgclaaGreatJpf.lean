/- Two lives: the annuities of the program. (Written by wip/gen/jpe.py.) -/
import Derived.Test.YtlcmgihaelgclaaGreatJpj
import Derived.Test.YtlcmgihaelgclaaGreatJpc
import Derived.Test.YtlcmgihaelgclaaGreatJmo
import Derived.Test.YtlcmgihaelgclaaGreatAnnQ
namespace Go.Proofs.YtlcmgihaelgclaaGreat
open Go.ChangeShapes Go.WideShapes Go.ChangeAt Go.RowKit
set_option linter.unusedVariables false
set_option linter.unusedSimpArgs false
set_option maxRecDepth 100000

theorem jp_yes2 {f : Int} {xs : List Int} {x g : Int} {ys : List Int} {y : Int} (h : twE f xs x g ys y true = 0) : jpF f xs x g ys y = x ∧ jpY f xs x g ys y = jtL f xs x g ys y := by simp [jpF, jpY, h]

/-! ### prices -/

theorem l1_any (RB ZB : Nat) (r z f : Int) (xs : List Int) (a : Option Addr) (l c : Nat) (x : Int) (w : World) (h : Ints w a l xs) (hlc : l ≤ c) (hr : w.cell? ⟨RB, 0, none⟩ = some (.int .i64 r)) (hz : w.cell? ⟨ZB, 0, none⟩ = some (.int .i64 z)) :
    Calls Tryz.prog 36 #[.agg #[.int .i64 f, .slice a l c], .int .i64 x, .pointer (some ⟨RB, 0, none⟩), .pointer (some ⟨ZB, 0, none⟩)] w fun e w' => e = .returned (.tuple #[.int .i64 (lifeV r f xs x z), .int .i64 (anE r f xs x (inB z 1 1000000) 0)]) ∧ Below w.heap.size w w' := by
  have hb0 := box_b w (.cells #[.int .i64 f, .slice a l c] 26)
  have HC := Lib.hid (ilife_any r f xs a l c x z _ (h.on hb0) hlc)
  unfold IIPost at HC
  have hr2 := keep2 hb0 hr
  have hz2 := keep2 hb0 hz
  have HB := Lib.hid hb0
  obtain ⟨V, hV⟩ : ∃ y_, lifeV r f xs x z = y_ := ⟨_, rfl⟩
  obtain ⟨E, hE⟩ : ∃ y_, anE r f xs x (inB z 1 1000000) 0 = y_ := ⟨_, rfl⟩
  rw [hV, hE] at HC
  rw [hV, hE]
  clear hV hE h hb0
  go_enter Tryz.func36, Tryz.ntmps36
  go_wp2_with fail
  refine HC.out.mono ?_
  rintro e w1 ⟨rfl, hb⟩
  have HB1 := Lib.hid (HB.out.trans (hb.mono HB.out.size))
  clear hb
  go_wp2_with fail
  go_ret2
  exact ⟨rfl, HB1.out⟩

def LpPost (A B E : Int) (w : World) (e : Ending) (w' : World) : Prop := e = .returned (.tuple #[.agg #[.int .i64 (chU E A), .int .i64 (chU E B)], .int .i64 E]) ∧ Below w.heap.size w w'

theorem set2_b {w w1 : World} {B : Nat} (h : Below w.heap.size w w1) (hB : w.heap.size ≤ B) (x0 x1 : Value) : Below w.heap.size w ((w1.setCell ⟨B, 0, none⟩ x0).setCell ⟨B, 1, none⟩ x1) :=
  (h.setCell (p := ⟨B, 0, none⟩) hB _).setCell (p := ⟨B, 1, none⟩) hB _

set_option maxHeartbeats 4000000 in
theorem askl_any (RB ZB : Nat) (f : Int) (xs : List Int) (a : Option Addr) (l c : Nat) (x : Int) (g : Int) (ys : List Int) (b : Option Addr) (m d : Nat) (y : Int) (r z : Int) (w : World) (h : Ints w a l xs) (k : Ints w b m ys) (hlc : l ≤ c) (hmd : m ≤ d) (hr : w.cell? ⟨RB, 0, none⟩ = some (.int .i64 r)) (hzz : w.cell? ⟨ZB, 0, none⟩ = some (.int .i64 z)) :
    Calls Tryz.prog 35 #[.agg #[.int .i64 f, .slice a l c], .int .i64 x, .agg #[.int .i64 g, .slice b m d], .int .i64 y, .func (.func 36) #[] #[.pointer (some ⟨RB, 0, none⟩), .pointer (some ⟨ZB, 0, none⟩)]] w (LpPost (lifeV r f xs x z) (lifeV r g ys y z) (moE r f xs x g ys y (inB z 1 1000000)) w) := by
  have H := Lib.hid h
  have KK := Lib.hid k
  have H0 := Lib.hid (K2.rbi (w := w) (f := f) (sa := .slice a l c) (g := g) (sb := .slice b m d) 26 26 35 [.int .i64 0, .int .i64 0])
  have HK := Lib.hid H0.out.1
  have HR := Lib.hid H0.out.2
  have HN := Lib.hid hr
  have HN2 := Lib.hid hzz
  have hRB : RB < w.heap.size := block_lt hr
  have hZB : ZB < w.heap.size := block_lt hzz
  have HFE : Hid (feE x (anE r f xs x (inB z 1 1000000) 0) (anE r g ys y (inB z 1 1000000) 0) = moE r f xs x g ys y (inB z 1 1000000)) := Lib.hid fe_an
  have C1 : Hid (∀ W, Hid (K2 w f (.slice a l c) g (.slice b m d) W) → Calls Tryz.prog 36 #[.agg #[.int .i64 f, .slice a l c], .int .i64 x, .pointer (some ⟨RB, 0, none⟩), .pointer (some ⟨ZB, 0, none⟩)] W fun e w' => e = .returned (.tuple #[.int .i64 (lifeV r f xs x z), .int .i64 (anE r f xs x (inB z 1 1000000) 0)]) ∧ Below W.heap.size W w') :=
    Lib.hid (fun W hW => l1_any RB ZB r z f xs a l c x W (H.out.on hW.out.low) hlc ((hW.out.low.cell (p := ⟨RB, 0, none⟩) hRB).trans HN.out) ((hW.out.low.cell (p := ⟨ZB, 0, none⟩) hZB).trans HN2.out))
  have C2 : Hid (∀ W, Hid (K2 w f (.slice a l c) g (.slice b m d) W) → Calls Tryz.prog 36 #[.agg #[.int .i64 g, .slice b m d], .int .i64 y, .pointer (some ⟨RB, 0, none⟩), .pointer (some ⟨ZB, 0, none⟩)] W fun e w' => e = .returned (.tuple #[.int .i64 (lifeV r g ys y z), .int .i64 (anE r g ys y (inB z 1 1000000) 0)]) ∧ Below W.heap.size W w') :=
    Lib.hid (fun W hW => l1_any RB ZB r z g ys b m d y W (KK.out.on hW.out.low) hmd ((hW.out.low.cell (p := ⟨RB, 0, none⟩) hRB).trans HN.out) ((hW.out.low.cell (p := ⟨ZB, 0, none⟩) hZB).trans HN2.out))
  unfold LpPost
  obtain ⟨E1, hE1⟩ : ∃ y_, anE r f xs x (inB z 1 1000000) 0 = y_ := ⟨_, rfl⟩
  obtain ⟨E2, hE2⟩ : ∃ y_, anE r g ys y (inB z 1 1000000) 0 = y_ := ⟨_, rfl⟩
  obtain ⟨E, hE⟩ : ∃ y_, moE r f xs x g ys y (inB z 1 1000000) = y_ := ⟨_, rfl⟩
  obtain ⟨A, hA⟩ : ∃ y_, lifeV r f xs x z = y_ := ⟨_, rfl⟩
  obtain ⟨B, hB⟩ : ∃ y_, lifeV r g ys y z = y_ := ⟨_, rfl⟩
  rw [hE1, hA] at C1
  rw [hE2, hB] at C2
  rw [hE1, hE2, hE] at HFE
  rw [hE, hA, hB]
  have CF : Hid (∀ W, Calls Tryz.prog 64 #[.int .i64 x, .agg #[.int .i64 E1, .int .i64 E2]] W fun e w' => e = .returned (.int .i64 E) ∧ Below W.heap.size W w') := Lib.hid (fun W => by have := first_any x E1 E2 W; rw [HFE.out] at this; exact this)
  clear hE1 hE2 hE h k H0 HFE hA hB hr hzz
  by_cases hz : E = 0
  · subst hz
    go_enter Tryz.func35, Tryz.ntmps35
    go_wp2_with fail
    with_reducible refine (C1.out _ HK).mono ?_
    rintro e w1 ⟨rfl, hb⟩
    have HK := Lib.hid (HK.out.on hb)
    have HR := Lib.hid (HR.out.on hb)
    obtain ⟨k0, k1, k2, k3, _⟩ := HK.out
    clear hb
    go_wp2_with fail
    with_reducible refine (C2.out _ HK).mono ?_
    rintro e w2 ⟨rfl, hb⟩
    have HK := Lib.hid (HK.out.on hb)
    have HR := Lib.hid (HR.out.on hb)
    clear hb k0 k1 k2 k3
    go_wp2_with fail
    with_reducible refine (CF.out _).mono ?_
    rintro e w3 ⟨rfl, hb⟩
    have HK := Lib.hid (HK.out.on hb)
    have HR := Lib.hid (HR.out.on hb)
    obtain ⟨r0, r1⟩ := HR.out.two
    have f0 := HR.out.free 0
    have f1 := HR.out.free 1
    clear hb
    go_wp2_with fail
    exact bodyPost_ret (v := .tuple #[.agg #[.int .i64 A, .int .i64 B], .int .i64 0]) (by simp [results, Tryz.results35, go_sem, r0, r1]) rfl ⟨by simp [chU], set2_b HK.out.low (by omega) _ _⟩
  · have hne : (E != 0) = true := by simpa using hz
    have hz3 : (E = 0) = False := by simpa using hz
    clear hz
    go_enter Tryz.func35, Tryz.ntmps35
    go_wp2_with fail
    with_reducible refine (C1.out _ HK).mono ?_
    rintro e w1 ⟨rfl, hb⟩
    have HK := Lib.hid (HK.out.on hb)
    have HR := Lib.hid (HR.out.on hb)
    obtain ⟨k0, k1, k2, k3, _⟩ := HK.out
    clear hb
    go_wp2_with fail
    with_reducible refine (C2.out _ HK).mono ?_
    rintro e w2 ⟨rfl, hb⟩
    have HK := Lib.hid (HK.out.on hb)
    have HR := Lib.hid (HR.out.on hb)
    clear hb k0 k1 k2 k3
    go_wp2_with fail
    with_reducible refine (CF.out _).mono ?_
    rintro e w3 ⟨rfl, hb⟩
    have HK := Lib.hid (HK.out.on hb)
    have HR := Lib.hid (HR.out.on hb)
    obtain ⟨r0, r1⟩ := HR.out.two
    have f0 := HR.out.free 0
    have f1 := HR.out.free 1
    clear hb
    go_wp2_with fail
    exact bodyPost_ret (v := .tuple #[.agg #[.int .i64 0, .int .i64 0], .int .i64 E]) (by simp [results, Tryz.results35, go_sem, r0, r1]) rfl ⟨by simp [chU, hz3], set2_b HK.out.low (by omega) _ _⟩

theorem mo_life {r f : Int} {xs : List Int} {x g : Int} {ys : List Int} {y z : Int} (h : moE r f xs x g ys y (inB z 1 1000000) = 0) : lifeV r f xs x z = priceV r f xs x z ∧ lifeV r g ys y z = priceV r g ys y z ∧ lifeV r x (jtL f xs x g ys y) x z = togV r f xs x g ys y z := by
  obtain ⟨hD, hr, hz, d1, d2⟩ := mo_iff.1 h
  obtain ⟨hz, d1, d2⟩ : inB z 1 1000000 = true ∧ cD r xs (x - f).toNat ≠ 0 ∧ cD r ys (y - g).toNat ≠ 0 := ⟨hz, d1, d2⟩
  have x1 := hD.x1
  have e1 : anE r f xs x (inB z 1 1000000) 0 = 0 := anE_iff.2 ⟨coE_iff.2 ⟨hD.t, hr, hD.x0, by omega⟩, hz, by omega, by omega, d1⟩
  have e2 : anE r g ys y (inB z 1 1000000) 0 = 0 := anE_iff.2 ⟨coE_iff.2 ⟨hD.u, hr, hD.y0, hD.y1⟩, hz, by omega, by have := hD.y1; omega, d2⟩
  have e3 := hD.anj hr.1 hr.2 hz
  refine ⟨by simp [lifeV, priceV, e1], by simp [lifeV, priceV, e2], ?_⟩
  unfold lifeV togV
  rw [if_pos e3, show (x - x).toNat = 0 by omega]

/-- prices for each and for both together -/
def LqPost (A B T E : Int) (w : World) (e : Ending) (w' : World) : Prop := e = .returned (.tuple #[.agg #[.int .i64 (chU E A), .int .i64 (chU E B)], .int .i64 (chU E T), .int .i64 E]) ∧ Below w.heap.size w w'

theorem K2.only {w : World} {f : Int} {sa : Value} {g : Int} {sb : Value} {W W' : World} {B : Nat} (h : K2 w f sa g sb W) (ho : Only B W W') (hB : w.heap.size + 2 ≤ B) : K2 w f sa g sb W' :=
  ⟨(ho.cell (p := ⟨w.heap.size, 0, none⟩) (by show w.heap.size ≠ B; omega)).trans h.t0, (ho.cell (p := ⟨w.heap.size, 1, none⟩) (by show w.heap.size ≠ B; omega)).trans h.t1, (ho.cell (p := ⟨w.heap.size + 1, 0, none⟩) (by show w.heap.size + 1 ≠ B; omega)).trans h.u0, (ho.cell (p := ⟨w.heap.size + 1, 1, none⟩) (by show w.heap.size + 1 ≠ B; omega)).trans h.u1, h.low.trans (ho.below (by omega))⟩

theorem Bx.only {w w' : World} {B C : Nat} {vs : List Value} (h : Bx w B vs) (ho : Only C w w') (hB : B ≠ C) : Bx w' B vs := h.same (ho.block B hB)

theorem Bx.set0 {w : World} {B : Nat} {x y : Value} (h : Bx w B [x, y]) (z : Value) : Bx (w.setCell ⟨B, 0, none⟩ z) B [z, y] := by
  have hl := h.lt
  obtain ⟨T, h⟩ := h
  rw [Array.getElem?_eq_getElem hl] at h
  have h' : w.heap[B] = .cells #[x, y] T (0, 0) := by simpa using h
  refine ⟨T, ?_⟩
  show (w.heap.modify B _)[B]? = _
  rw [Array.getElem?_modify, if_pos rfl, Array.getElem?_eq_getElem hl, h']
  simp

/-- the boxes of lifePrices -/
structure L5 (w : World) (f : Int) (sa : Value) (g : Int) (sb : Value) (r z : Int) (A B : Int) (W : World) : Prop where
  k2 : K2 w f sa g sb W
  rr : W.cell? ⟨w.heap.size + 2, 0, none⟩ = some (.int .i64 r)
  zz : W.cell? ⟨w.heap.size + 3, 0, none⟩ = some (.int .i64 z)
  pp : Bx W (w.heap.size + 4) [.int .i64 A, .int .i64 B]

theorem L5.on {w : World} {f : Int} {sa : Value} {g : Int} {sb : Value} {r z A B : Int} {W W' : World} (h : L5 w f sa g sb r z A B W) (hb : Below W.heap.size W W') : L5 w f sa g sb r z A B W' := ⟨h.k2.on hb, keep2 hb h.rr, keep2 hb h.zz, h.pp.on hb⟩

theorem L5.set {w : World} {f : Int} {sa : Value} {g : Int} {sb : Value} {r z A B : Int} {W : World} (h : L5 w f sa g sb r z A B W) (C D : Int) : L5 w f sa g sb r z C D ((W.setCell ⟨w.heap.size + 1 + 1 + 1 + 1, 0, none⟩ (.int .i64 C)).setCell ⟨w.heap.size + 1 + 1 + 1 + 1, 1, none⟩ (.int .i64 D)) := by
  have ho : Only (w.heap.size + 4) W ((W.setCell ⟨w.heap.size + 4, 0, none⟩ (.int .i64 C)).setCell ⟨w.heap.size + 4, 1, none⟩ (.int .i64 D)) := ((Only.refl _ W).setCell (p := ⟨w.heap.size + 4, 0, none⟩) rfl _).setCell (p := ⟨w.heap.size + 4, 1, none⟩) rfl _
  exact ⟨h.k2.only ho (by omega), (ho.cell (p := ⟨w.heap.size + 2, 0, none⟩) (by simp)).trans h.rr, (ho.cell (p := ⟨w.heap.size + 3, 0, none⟩) (by simp)).trans h.zz, (h.pp.set0 _).set1 _⟩

theorem L5.new (w : World) (f : Int) (sa : Value) (g : Int) (sb : Value) (r z : Int) (T U V X Y : TypeId) : L5 w f sa g sb r z 0 0 (((((w.alloc (.cells #[.int .i64 f, sa] T)).alloc (.cells #[.int .i64 g, sb] U)).alloc (.cells #[.int .i64 r] V)).alloc (.cells #[.int .i64 z] X)).alloc (.cells #[.int .i64 0, .int .i64 0] Y)) := by
  have h1 := K2.new w f sa g sb T U
  have s1 : ((w.alloc (.cells #[.int .i64 f, sa] T)).alloc (.cells #[.int .i64 g, sb] U)).heap.size = w.heap.size + 2 := by simp
  generalize ((w.alloc (.cells #[.int .i64 f, sa] T)).alloc (.cells #[.int .i64 g, sb] U)) = W1 at h1 s1 ⊢
  have r1 : (W1.alloc (.cells #[.int .i64 r] V)).cell? ⟨w.heap.size + 2, 0, none⟩ = some (.int .i64 r) := by rw [← s1]; exact World.cell?_alloc_new _ _ _ _
  have h2 := h1.on (box_b W1 (.cells #[.int .i64 r] V))
  have s2 : (W1.alloc (.cells #[.int .i64 r] V)).heap.size = w.heap.size + 3 := by simp [s1]
  generalize (W1.alloc (.cells #[.int .i64 r] V)) = W2 at h2 s2 r1 ⊢
  have z1 : (W2.alloc (.cells #[.int .i64 z] X)).cell? ⟨w.heap.size + 3, 0, none⟩ = some (.int .i64 z) := by rw [← s2]; exact World.cell?_alloc_new _ _ _ _
  have hb2 := box_b W2 (.cells #[.int .i64 z] X)
  have h3 := h2.on hb2
  have r2 := keep2 hb2 r1
  have s3 : (W2.alloc (.cells #[.int .i64 z] X)).heap.size = w.heap.size + 4 := by simp [s2]
  generalize (W2.alloc (.cells #[.int .i64 z] X)) = W3 at h3 s3 r2 z1 ⊢
  have hb3 := box_b W3 (.cells #[.int .i64 0, .int .i64 0] Y)
  have p1 := Bx.new W3 [.int .i64 0, .int .i64 0] Y
  rw [s3] at p1
  exact ⟨h3.on hb3, keep2 hb3 r2, keep2 hb3 z1, p1⟩

set_option maxHeartbeats 8000000 in
theorem lps_any (f : Int) (xs : List Int) (a : Option Addr) (l c : Nat) (x : Int) (g : Int) (ys : List Int) (b : Option Addr) (m d : Nat) (y : Int) (r z : Int) (w : World) (h : Ints w a l xs) (k : Ints w b m ys) (hlc : l ≤ c) (hmd : m ≤ d) :
    Calls Tryz.prog 16 #[.agg #[.int .i64 f, .slice a l c], .int .i64 x, .agg #[.int .i64 g, .slice b m d], .int .i64 y, .int .i64 r, .int .i64 z] w (LqPost (lifeV r f xs x z) (lifeV r g ys y z) (togV r f xs x g ys y z) (moE r f xs x g ys y (inB z 1 1000000)) w) := by
  have hmf : ∀ (fn : Fn) (first cap : Array Value) (w : World), (Instr.makeFunc fn first cap).run Tryz.prog w = .ok (.func fn first cap) w := fun _ _ _ _ => rfl
  have H := Lib.hid h
  have KK := Lib.hid k
  have HL := Lib.hid (L5.new w f (.slice a l c) g (.slice b m d) r z 26 26 2 2 35)
  have CA : Hid (∀ W, Hid (L5 w f (.slice a l c) g (.slice b m d) r z 0 0 W) → Calls Tryz.prog 35 #[.agg #[.int .i64 f, .slice a l c], .int .i64 x, .agg #[.int .i64 g, .slice b m d], .int .i64 y, .func (.func 36) #[] #[.pointer (some ⟨w.heap.size + 1 + 1, 0, none⟩), .pointer (some ⟨w.heap.size + 1 + 1 + 1, 0, none⟩)]] W (LpPost (lifeV r f xs x z) (lifeV r g ys y z) (moE r f xs x g ys y (inB z 1 1000000)) W)) :=
    Lib.hid (fun W hW => askl_any (w.heap.size + 2) (w.heap.size + 3) f xs a l c x g ys b m d y r z W (H.out.on hW.out.k2.low) (KK.out.on hW.out.k2.low) hlc hmd hW.out.rr hW.out.zz)
  unfold LpPost at CA
  unfold LqPost
  have HMO : Hid (moE r f xs x g ys y (inB z 1 1000000) = 0 → Duo f xs x g ys y ∧ (0 ≤ r ∧ r ≤ 200) ∧ (1 ≤ z ∧ z ≤ 1000000) ∧ cD r xs (x - f).toNat ≠ 0 ∧ cD r ys (y - g).toNat ≠ 0) := Lib.hid moDuo
  have HLF : Hid (moE r f xs x g ys y (inB z 1 1000000) = 0 → lifeV r f xs x z = priceV r f xs x z ∧ lifeV r g ys y z = priceV r g ys y z ∧ lifeV r x (jtL f xs x g ys y) x z = togV r f xs x g ys y z) := Lib.hid mo_life
  obtain ⟨E, hE⟩ : ∃ y_, moE r f xs x g ys y (inB z 1 1000000) = y_ := ⟨_, rfl⟩
  obtain ⟨A, hA⟩ : ∃ y_, lifeV r f xs x z = y_ := ⟨_, rfl⟩
  obtain ⟨B, hB⟩ : ∃ y_, lifeV r g ys y z = y_ := ⟨_, rfl⟩
  rw [hE, hA, hB] at CA
  rw [hE] at HMO HLF
  rw [hE, hA, hB]
  clear hE hA hB h k
  by_cases hz : E = 0
  case neg =>
    have hne : (E != 0) = true := by simpa using hz
    have hc : ∀ v, chU E v = 0 := fun v => by simp [chU, hz]
    rw [hc, hc] at CA
    rw [hc, hc, hc]
    clear hz HMO HLF hc
    go_enter Tryz.func16, Tryz.ntmps16
    go_wp2_with fail
    refine (CA.out _ HL).mono ?_
    rintro e w1 ⟨rfl, hb⟩
    have HL1 := Lib.hid (HL.out.on hb)
    have HS := Lib.hid (HL1.out.set 0 0)
    obtain ⟨p0, p1⟩ := HL1.out.pp.two
    have m0 := HL1.out.pp.free 0
    have m1 := HL1.out.pp.free 1
    clear hb
    go_wp2_with fail
    have h9 := HS.out.set 0 0
    have e0 := show World.cell? _ ⟨w.heap.size + 1 + 1 + 1 + 1, 0, none⟩ = _ from h9.pp.two.1
    have e1 := show World.cell? _ ⟨w.heap.size + 1 + 1 + 1 + 1, 1, none⟩ = _ from h9.pp.two.2
    refine bodyPost_ret (v := .tuple #[.agg #[.int .i64 0, .int .i64 0], .int .i64 0, .int .i64 E]) (by simp [results, Tryz.results16, go_sem, e0, e1]) rfl ⟨rfl, ?_⟩
    exact set2_b HS.out.k2.low (by show w.heap.size ≤ w.heap.size + 4; omega) _ _
  subst hz
  have hc : ∀ v, chU 0 v = v := fun v => by simp [chU]
  rw [hc, hc] at CA
  rw [hc, hc, hc]
  obtain ⟨hD, ⟨r0, r1⟩, ⟨z0, z1⟩, -, -⟩ := HMO.out rfl
  obtain ⟨-, -, hT⟩ := HLF.out rfl
  have hz2 : inB z 1 1000000 = true := inB_t z0 z1
  have CJ : Hid (∀ W, Hid (L5 w f (.slice a l c) g (.slice b m d) r z A B W) → Calls Tryz.prog 22 #[.agg #[.int .i64 f, .slice a l c], .int .i64 x, .agg #[.int .i64 g, .slice b m d], .int .i64 y] W (JpPost x (jtL f xs x g ys y) 0 W)) :=
    Lib.hid (fun W hW => by
      have h0 : twE f xs x g ys y true = 0 := tw_iff.2 ⟨hD, rfl⟩
      have := ijt_any f xs a l c x g ys b m d y W (H.out.on hW.out.k2.low) (KK.out.on hW.out.k2.low) hlc hmd
      rw [(jp_yes2 h0).1, (jp_yes2 h0).2, h0] at this
      exact this)
  have CX : Hid (∀ W ja jb jc, Ints W ja jb (jtL f xs x g ys y) → jb ≤ jc → Calls Tryz.prog 14 #[.agg #[.int .i64 x, .slice ja jb jc], .int .i64 r, .int .i64 x, .int .i64 z] W fun e w' => e = .returned (.tuple #[.int .i64 (togV r f xs x g ys y z), .int .i64 0]) ∧ Below W.heap.size W w') :=
    Lib.hid (fun W ja jb jc hj hl => by
      have := ilife_any r x (jtL f xs x g ys y) ja jb jc x z W hj hl
      unfold IIPost at this
      rw [hT, hD.anj r0 r1 hz2] at this
      exact this)
  unfold JpPost at CJ
  obtain ⟨T, hTT⟩ : ∃ y_, togV r f xs x g ys y z = y_ := ⟨_, rfl⟩
  obtain ⟨YL, hYL⟩ : ∃ y_, jtL f xs x g ys y = y_ := ⟨_, rfl⟩
  rw [hTT, hYL] at CX
  rw [hYL] at CJ
  rw [hTT]
  clear hc hD HMO HLF hT hz2 hTT hYL r0 r1 z0 z1
  go_enter Tryz.func16, Tryz.ntmps16
  go_wp2_with fail
  refine (CA.out _ HL).mono ?_
  rintro e w1 ⟨rfl, hb⟩
  have HL1 := Lib.hid (HL.out.on hb)
  have HS := Lib.hid (HL1.out.set A B)
  obtain ⟨p0, p1⟩ := HL1.out.pp.two
  have m0 := HL1.out.pp.free 0
  have m1 := HL1.out.pp.free 1
  obtain ⟨k0, k1, k2, k3, _⟩ := HL1.out.k2
  clear hb
  go_wp2_with fail
  refine (CJ.out _ HS).mono ?_
  rintro e w2 ⟨ja, jb, jc, rfl, hT, hjl, hb⟩
  have hbx := box_b w2 (.cells #[.int .i64 x, .slice ja jb jc] 26)
  have hj : Bx (w2.alloc (.cells #[.int .i64 x, .slice ja jb jc] 26)) w2.heap.size [.int .i64 x, .slice ja jb jc] := Bx.new w2 _ _
  have HS := Lib.hid ((HS.out.on hb).on hbx)
  have HI := Lib.hid (hT.ints.on hbx)
  obtain ⟨J, hJ⟩ : ∃ y_, w2.heap.size = y_ := ⟨_, rfl⟩
  rw [hJ] at hj
  obtain ⟨j0, j1⟩ := hj.two
  have rr := HS.out.rr
  have zz := HS.out.zz
  clear hT hb hbx hj p0 p1 m0 m1 k0 k1 k2 k3
  go_wp2_with fail
  (try rw [hJ])
  generalize (w2.alloc (.cells #[.int .i64 x, .slice ja jb jc] 26)) = v2 at HS HI j0 j1 rr zz ⊢
  clear hJ
  refine (CX.out _ _ _ _ HI.out hjl).mono ?_
  rintro e w3 ⟨rfl, hb⟩
  have HS := Lib.hid (HS.out.on hb)
  obtain ⟨p0, p1⟩ := HS.out.pp.two
  have m0 := HS.out.pp.free 0
  have m1 := HS.out.pp.free 1
  clear hb j0 j1 rr zz
  go_wp2_with fail
  refine bodyPost_ret (v := .tuple #[.agg #[.int .i64 A, .int .i64 B], .int .i64 T, .int .i64 0]) (by simp [results, Tryz.results16, go_sem, p0, p1]) rfl ⟨rfl, ?_⟩
  exact set2_b HS.out.k2.low (by show w.heap.size ≤ w.heap.size + 4; omega) _ _

set_option maxHeartbeats 4000000 in
theorem ija_any (f : Int) (xs : List Int) (a : Option Addr) (l c : Nat) (x : Int) (g : Int) (ys : List Int) (b : Option Addr) (m d : Nat) (y : Int) (r z : Int) (w : World) (h : Ints w a l xs) (k : Ints w b m ys) (hlc : l ≤ c) (hmd : m ≤ d) :
    Calls Tryz.prog 10 #[.agg #[.int .i64 f, .slice a l c], .int .i64 x, .agg #[.int .i64 g, .slice b m d], .int .i64 y, .int .i64 r, .int .i64 z] w (IIPost (jaV r f xs x g ys y z) (moE r f xs x g ys y (inB z 1 1000000)) w) := by
  have H := Lib.hid h
  have KK := Lib.hid k
  have HK : Hid (K2 w f (.slice a l c) g (.slice b m d) ((w.alloc (.cells #[.int .i64 f, .slice a l c] 26)).alloc (.cells #[.int .i64 g, .slice b m d] 26))) := Lib.hid (K2.new _ _ _ _ _ _ _)
  have CA : Hid (∀ W, Hid (K2 w f (.slice a l c) g (.slice b m d) W) → Calls Tryz.prog 16 #[.agg #[.int .i64 f, .slice a l c], .int .i64 x, .agg #[.int .i64 g, .slice b m d], .int .i64 y, .int .i64 r, .int .i64 z] W (LqPost (lifeV r f xs x z) (lifeV r g ys y z) (togV r f xs x g ys y z) (moE r f xs x g ys y (inB z 1 1000000)) W)) :=
    Lib.hid (fun W hW => lps_any f xs a l c x g ys b m d y r z W (H.out.on hW.out.low) (KK.out.on hW.out.low) hlc hmd)
  unfold LqPost at CA
  unfold IIPost
  have HB0 : Hid (moE r f xs x g ys y (inB z 1 1000000) ≠ 0 → jaV r f xs x g ys y z = 0) := Lib.hid (fun e => by simp [jaV, e])
  have HB1 : Hid (moE r f xs x g ys y (inB z 1 1000000) = 0 → (jaV r f xs x g ys y z = togV r f xs x g ys y z ∧ lifeV r f xs x z = priceV r f xs x z ∧ lifeV r g ys y z = priceV r g ys y z) ∧ ((0 ≤ priceV r f xs x z ∧ priceV r f xs x z ≤ 152000001) ∧ (0 ≤ priceV r g ys y z ∧ priceV r g ys y z ≤ 152000001)) ∧ 0 ≤ togV r f xs x g ys y z ∧ togV r f xs x g ys y z ≤ 152000001) := Lib.hid (fun e => by
    obtain ⟨hD, ⟨r0, r1⟩, ⟨z0, z1⟩, d1, d2⟩ := moDuo e
    obtain ⟨l1, l2, _⟩ := mo_life e
    exact ⟨⟨by simp [jaV, waV, e], l1, l2⟩, ⟨price_bd hD.t r0 _ d1 z0 z1, price_bd hD.u r0 _ d2 z0 z1⟩, tog_bd hD r0 z0 z1⟩)
  obtain ⟨E, hE⟩ : ∃ y_, moE r f xs x g ys y (inB z 1 1000000) = y_ := ⟨_, rfl⟩
  rw [hE] at CA HB0 HB1 ⊢
  clear hE h k
  by_cases hz : E = 0
  case neg =>
    have HV := Lib.hid (HB0.out hz)
    have hne : (E != 0) = true := by simpa using hz
    have hc : ∀ v, chU E v = 0 := fun v => by simp [chU, hz]
    rw [hc, hc, hc] at CA
    clear hz HB0 HB1 hc
    go_enter Tryz.func10, Tryz.ntmps10
    go_wp2_with fail
    refine (CA.out _ HK).mono ?_
    rintro e w1 ⟨rfl, hb⟩
    have HB := Lib.hid ((HK.out.on hb).low.trans ((box_b w1 (.cells #[.int .i64 0, .int .i64 0] 35)).mono (HK.out.on hb).low.size))
    clear hb
    go_wp2_with fail
    go_ret2
    exact ⟨ret_ii HV.out.symm rfl, HB.out⟩
  subst hz
  have hc : ∀ v, chU 0 v = v := fun v => by simp [chU]
  rw [hc, hc, hc] at CA
  obtain ⟨⟨hv, l1, l2⟩, ⟨⟨a0, a1⟩, b0, b1⟩, t0, t1⟩ := HB1.out rfl
  rw [l1, l2] at CA
  have HV := Lib.hid hv
  obtain ⟨A, hA⟩ : ∃ y_, priceV r f xs x z = y_ := ⟨_, rfl⟩
  obtain ⟨B, hB⟩ : ∃ y_, priceV r g ys y z = y_ := ⟨_, rfl⟩
  obtain ⟨T, hT⟩ : ∃ y_, togV r f xs x g ys y z = y_ := ⟨_, rfl⟩
  rw [hA, hB, hT] at CA
  (try rw [hA] at HV)
  (try rw [hB] at HV)
  rw [hT] at HV t0 t1
  rw [hA] at a0 a1
  rw [hB] at b0 b1
  clear hv l1 l2 hc HB0 HB1 hA hB hT
  go_enter Tryz.func10, Tryz.ntmps10
  go_wp2_with fail
  refine (CA.out _ HK).mono ?_
  rintro e w1 ⟨rfl, hb⟩
  have HB := Lib.hid ((HK.out.on hb).low.trans ((box_b w1 (.cells #[.int .i64 A, .int .i64 B] 35)).mono (HK.out.on hb).low.size))
  clear hb
  go_wp2_with fail
  go_ret2
  exact ⟨ret_ii HV.out.symm rfl, HB.out⟩

set_option maxHeartbeats 4000000 in
theorem iwa_any (f : Int) (xs : List Int) (a : Option Addr) (l c : Nat) (x : Int) (g : Int) (ys : List Int) (b : Option Addr) (m d : Nat) (y : Int) (r z : Int) (w : World) (h : Ints w a l xs) (k : Ints w b m ys) (hlc : l ≤ c) (hmd : m ≤ d) :
    Calls Tryz.prog 8 #[.agg #[.int .i64 f, .slice a l c], .int .i64 x, .agg #[.int .i64 g, .slice b m d], .int .i64 y, .int .i64 r, .int .i64 z] w (IIPost (waV r f xs x g ys y z) (moE r f xs x g ys y (inB z 1 1000000)) w) := by
  have H := Lib.hid h
  have KK := Lib.hid k
  have HK : Hid (K2 w f (.slice a l c) g (.slice b m d) ((w.alloc (.cells #[.int .i64 f, .slice a l c] 26)).alloc (.cells #[.int .i64 g, .slice b m d] 26))) := Lib.hid (K2.new _ _ _ _ _ _ _)
  have CA : Hid (∀ W, Hid (K2 w f (.slice a l c) g (.slice b m d) W) → Calls Tryz.prog 16 #[.agg #[.int .i64 f, .slice a l c], .int .i64 x, .agg #[.int .i64 g, .slice b m d], .int .i64 y, .int .i64 r, .int .i64 z] W (LqPost (lifeV r f xs x z) (lifeV r g ys y z) (togV r f xs x g ys y z) (moE r f xs x g ys y (inB z 1 1000000)) W)) :=
    Lib.hid (fun W hW => lps_any f xs a l c x g ys b m d y r z W (H.out.on hW.out.low) (KK.out.on hW.out.low) hlc hmd)
  unfold LqPost at CA
  unfold IIPost
  have HB0 : Hid (moE r f xs x g ys y (inB z 1 1000000) ≠ 0 → waV r f xs x g ys y z = 0) := Lib.hid (fun e => by simp [waV, e])
  have HB1 : Hid (moE r f xs x g ys y (inB z 1 1000000) = 0 → (waV r f xs x g ys y z = priceV r g ys y z + 1 - togV r f xs x g ys y z ∧ lifeV r f xs x z = priceV r f xs x z ∧ lifeV r g ys y z = priceV r g ys y z) ∧ ((0 ≤ priceV r f xs x z ∧ priceV r f xs x z ≤ 152000001) ∧ (0 ≤ priceV r g ys y z ∧ priceV r g ys y z ≤ 152000001)) ∧ 0 ≤ togV r f xs x g ys y z ∧ togV r f xs x g ys y z ≤ 152000001) := Lib.hid (fun e => by
    obtain ⟨hD, ⟨r0, r1⟩, ⟨z0, z1⟩, d1, d2⟩ := moDuo e
    obtain ⟨l1, l2, _⟩ := mo_life e
    exact ⟨⟨by simp [waV, waV, e], l1, l2⟩, ⟨price_bd hD.t r0 _ d1 z0 z1, price_bd hD.u r0 _ d2 z0 z1⟩, tog_bd hD r0 z0 z1⟩)
  obtain ⟨E, hE⟩ : ∃ y_, moE r f xs x g ys y (inB z 1 1000000) = y_ := ⟨_, rfl⟩
  rw [hE] at CA HB0 HB1 ⊢
  clear hE h k
  by_cases hz : E = 0
  case neg =>
    have HV := Lib.hid (HB0.out hz)
    have hne : (E != 0) = true := by simpa using hz
    have hc : ∀ v, chU E v = 0 := fun v => by simp [chU, hz]
    rw [hc, hc, hc] at CA
    clear hz HB0 HB1 hc
    go_enter Tryz.func8, Tryz.ntmps8
    go_wp2_with fail
    refine (CA.out _ HK).mono ?_
    rintro e w1 ⟨rfl, hb⟩
    have HB := Lib.hid ((HK.out.on hb).low.trans ((box_b w1 (.cells #[.int .i64 0, .int .i64 0] 35)).mono (HK.out.on hb).low.size))
    clear hb
    go_wp2_with fail
    go_ret2
    exact ⟨ret_ii HV.out.symm rfl, HB.out⟩
  subst hz
  have hc : ∀ v, chU 0 v = v := fun v => by simp [chU]
  rw [hc, hc, hc] at CA
  obtain ⟨⟨hv, l1, l2⟩, ⟨⟨a0, a1⟩, b0, b1⟩, t0, t1⟩ := HB1.out rfl
  rw [l1, l2] at CA
  have HV := Lib.hid hv
  obtain ⟨A, hA⟩ : ∃ y_, priceV r f xs x z = y_ := ⟨_, rfl⟩
  obtain ⟨B, hB⟩ : ∃ y_, priceV r g ys y z = y_ := ⟨_, rfl⟩
  obtain ⟨T, hT⟩ : ∃ y_, togV r f xs x g ys y z = y_ := ⟨_, rfl⟩
  rw [hA, hB, hT] at CA
  (try rw [hA] at HV)
  (try rw [hB] at HV)
  rw [hT] at HV t0 t1
  rw [hA] at a0 a1
  rw [hB] at b0 b1
  have q5 : IntKind.i64.wrap (B + 1) = B + 1 := IntWalk.i64_in _ (by omega)
  have q9 : IntKind.i64.wrap (B + 1 - T) = B + 1 - T := IntWalk.i64_in _ (by omega)
  clear hv l1 l2 hc HB0 HB1 hA hB hT
  go_enter Tryz.func8, Tryz.ntmps8
  go_wp2_with fail
  refine (CA.out _ HK).mono ?_
  rintro e w1 ⟨rfl, hb⟩
  have HB := Lib.hid ((HK.out.on hb).low.trans ((box_b w1 (.cells #[.int .i64 A, .int .i64 B] 35)).mono (HK.out.on hb).low.size))
  clear hb
  go_wp2_with fail
  go_ret2
  exact ⟨ret_ii HV.out.symm rfl, HB.out⟩

set_option maxHeartbeats 4000000 in
theorem ila_any (f : Int) (xs : List Int) (a : Option Addr) (l c : Nat) (x : Int) (g : Int) (ys : List Int) (b : Option Addr) (m d : Nat) (y : Int) (r z : Int) (w : World) (h : Ints w a l xs) (k : Ints w b m ys) (hlc : l ≤ c) (hmd : m ≤ d) :
    Calls Tryz.prog 6 #[.agg #[.int .i64 f, .slice a l c], .int .i64 x, .agg #[.int .i64 g, .slice b m d], .int .i64 y, .int .i64 r, .int .i64 z] w (IIPost (lastV r f xs x g ys y z) (moE r f xs x g ys y (inB z 1 1000000)) w) := by
  have H := Lib.hid h
  have KK := Lib.hid k
  have HK : Hid (K2 w f (.slice a l c) g (.slice b m d) ((w.alloc (.cells #[.int .i64 f, .slice a l c] 26)).alloc (.cells #[.int .i64 g, .slice b m d] 26))) := Lib.hid (K2.new _ _ _ _ _ _ _)
  have CA : Hid (∀ W, Hid (K2 w f (.slice a l c) g (.slice b m d) W) → Calls Tryz.prog 16 #[.agg #[.int .i64 f, .slice a l c], .int .i64 x, .agg #[.int .i64 g, .slice b m d], .int .i64 y, .int .i64 r, .int .i64 z] W (LqPost (lifeV r f xs x z) (lifeV r g ys y z) (togV r f xs x g ys y z) (moE r f xs x g ys y (inB z 1 1000000)) W)) :=
    Lib.hid (fun W hW => lps_any f xs a l c x g ys b m d y r z W (H.out.on hW.out.low) (KK.out.on hW.out.low) hlc hmd)
  unfold LqPost at CA
  unfold IIPost
  have HB0 : Hid (moE r f xs x g ys y (inB z 1 1000000) ≠ 0 → lastV r f xs x g ys y z = 0) := Lib.hid (fun e => by simp [lastV, e])
  have HB1 : Hid (moE r f xs x g ys y (inB z 1 1000000) = 0 → (lastV r f xs x g ys y z = priceV r f xs x z + priceV r g ys y z + 1 - togV r f xs x g ys y z ∧ lifeV r f xs x z = priceV r f xs x z ∧ lifeV r g ys y z = priceV r g ys y z) ∧ ((0 ≤ priceV r f xs x z ∧ priceV r f xs x z ≤ 152000001) ∧ (0 ≤ priceV r g ys y z ∧ priceV r g ys y z ≤ 152000001)) ∧ 0 ≤ togV r f xs x g ys y z ∧ togV r f xs x g ys y z ≤ 152000001) := Lib.hid (fun e => by
    obtain ⟨hD, ⟨r0, r1⟩, ⟨z0, z1⟩, d1, d2⟩ := moDuo e
    obtain ⟨l1, l2, _⟩ := mo_life e
    exact ⟨⟨by simp [lastV, waV, e]; omega, l1, l2⟩, ⟨price_bd hD.t r0 _ d1 z0 z1, price_bd hD.u r0 _ d2 z0 z1⟩, tog_bd hD r0 z0 z1⟩)
  obtain ⟨E, hE⟩ : ∃ y_, moE r f xs x g ys y (inB z 1 1000000) = y_ := ⟨_, rfl⟩
  rw [hE] at CA HB0 HB1 ⊢
  clear hE h k
  by_cases hz : E = 0
  case neg =>
    have HV := Lib.hid (HB0.out hz)
    have hne : (E != 0) = true := by simpa using hz
    have hc : ∀ v, chU E v = 0 := fun v => by simp [chU, hz]
    rw [hc, hc, hc] at CA
    clear hz HB0 HB1 hc
    go_enter Tryz.func6, Tryz.ntmps6
    go_wp2_with fail
    refine (CA.out _ HK).mono ?_
    rintro e w1 ⟨rfl, hb⟩
    have HB := Lib.hid ((HK.out.on hb).low.trans ((box_b w1 (.cells #[.int .i64 0, .int .i64 0] 35)).mono (HK.out.on hb).low.size))
    clear hb
    go_wp2_with fail
    go_ret2
    exact ⟨ret_ii HV.out.symm rfl, HB.out⟩
  subst hz
  have hc : ∀ v, chU 0 v = v := fun v => by simp [chU]
  rw [hc, hc, hc] at CA
  obtain ⟨⟨hv, l1, l2⟩, ⟨⟨a0, a1⟩, b0, b1⟩, t0, t1⟩ := HB1.out rfl
  rw [l1, l2] at CA
  have HV := Lib.hid hv
  obtain ⟨A, hA⟩ : ∃ y_, priceV r f xs x z = y_ := ⟨_, rfl⟩
  obtain ⟨B, hB⟩ : ∃ y_, priceV r g ys y z = y_ := ⟨_, rfl⟩
  obtain ⟨T, hT⟩ : ∃ y_, togV r f xs x g ys y z = y_ := ⟨_, rfl⟩
  rw [hA, hB, hT] at CA
  (try rw [hA] at HV)
  (try rw [hB] at HV)
  rw [hT] at HV t0 t1
  rw [hA] at a0 a1
  rw [hB] at b0 b1
  have q5 : IntKind.i64.wrap (A + B) = A + B := IntWalk.i64_in _ (by omega)
  have q9 : IntKind.i64.wrap (A + B + 1) = A + B + 1 := IntWalk.i64_in _ (by omega)
  have q13 : IntKind.i64.wrap (A + B + 1 - T) = A + B + 1 - T := IntWalk.i64_in _ (by omega)
  clear hv l1 l2 hc HB0 HB1 hA hB hT
  go_enter Tryz.func6, Tryz.ntmps6
  go_wp2_with fail
  refine (CA.out _ HK).mono ?_
  rintro e w1 ⟨rfl, hb⟩
  have HB := Lib.hid ((HK.out.on hb).low.trans ((box_b w1 (.cells #[.int .i64 A, .int .i64 B] 35)).mono (HK.out.on hb).low.size))
  clear hb
  go_wp2_with fail
  go_ret2
  exact ⟨ret_ii HV.out.symm rfl, HB.out⟩

end Go.Proofs.YtlcmgihaelgclaaGreat
