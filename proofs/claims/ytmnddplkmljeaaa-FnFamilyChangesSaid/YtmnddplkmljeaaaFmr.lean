/- Families: a new marriage: the program and its model. (Written by wip/gen/fmr.py.) -/
import Derived.Test.YtmnddplkmljeaaaFmh
import Derived.Test.YtmnddplkmljeaaaFmt
import Derived.Test.YtmnddplkmljeaaaFmk
namespace Go.Proofs.Ytmnddplkmljeaaa
open Go.ChangeShapes Go.WideShapes Go.ChangeAt Go.RowKit
set_option linter.unusedVariables false
set_option linter.unusedSimpArgs false
set_option maxRecDepth 100000

def fL (E : Int) (ch : List Int) : List Int := if E = 0 then ch else []

/-- a family that a call hands over, and a code -/
def RmP (d m v k : Int) (ch : List Int) (E : Int) (w : World) (e : Ending) (w' : World) : Prop :=
  ∃ x q c', e = .returned (.tuple #[.agg #[.int .i64 (fV E d), .int .i64 (fV E m), .int .i64 (fV E v), .int .i64 (fV E k), .slice x q c'], .int .i64 E]) ∧ TbL w.heap.size w' x q (fL E ch) ∧ Below w.heap.size w w'

theorem tl_none (base : Nat) (w : World) : TbL base w none 0 [] := ⟨rfl, by omega, .inl ⟨rfl, rfl⟩⟩

theorem tl_set {base : Nat} {W : World} {x : Option Addr} {q : Nat} {ys : List Int} (h : TbL base W x q ys) (B i : Nat) (u : Value) (hB : B < base) : TbL base (W.setCell ⟨B, i, none⟩ u) x q ys :=
  h.same (by simp [World.setCell]) fun y hy => far_setCell _ _ _ _ (by show y.block ≠ B; have := (h.far y hy).1; omega)

/-- the boxes of a call: its family, its result -/
structure RB (w : World) (vs rs : List Value) (W : World) : Prop where
  f : Bx W w.heap.size vs
  r : Bx W (w.heap.size + 1) rs
  low : Below w.heap.size w W
  sz : w.heap.size + 2 ≤ W.heap.size

section
variable {w W W' : World} {vs rs : List Value}

theorem RB.on (h : RB w vs rs W) (hb : Below W.heap.size W W') : RB w vs rs W' := ⟨h.f.on hb, h.r.on hb, h.low.trans (hb.mono h.low.size), Nat.le_trans h.sz hb.size⟩

theorem RB.drew (h : RB w vs rs W) : RB w vs rs W.drew := h.on (Below.drew (Below.refl _ _))

theorem RB.setF (h : RB w vs rs W) (i : Nat) (u : Value) : RB w (vs.set i u) rs (W.setCell ⟨w.heap.size, i, none⟩ u) :=
  ⟨h.f.setI i u, h.r.same (far_setCell _ _ _ _ (by show w.heap.size + 1 ≠ w.heap.size; omega)), h.low.setCell (p := ⟨w.heap.size, i, none⟩) (Nat.le_refl _) _, by have := h.sz; simp [World.setCell]; omega⟩

theorem RB.setR (h : RB w vs rs W) (i : Nat) (u : Value) : RB w vs (rs.set i u) (W.setCell ⟨w.heap.size + 1, i, none⟩ u) :=
  ⟨h.f.same (far_setCell _ _ _ _ (by show w.heap.size ≠ w.heap.size + 1; omega)), h.r.setI i u, h.low.setCell (p := ⟨w.heap.size + 1, i, none⟩) (by show w.heap.size ≤ w.heap.size + 1; omega) _, by have := h.sz; simp [World.setCell]; omega⟩

theorem RB.new (w : World) (vs rs : List Value) (A B : TypeId) : RB w vs rs ((w.alloc (.cells vs.toArray A)).alloc (.cells rs.toArray B)) := by
  have x2 := Bx.new (w.alloc (.cells vs.toArray A)) rs B
  rw [World.size_alloc] at x2
  exact ⟨(Bx.new w vs A).on (box_b _ _), x2, (box_b _ _).alloc (by simp) _, by simp⟩
end

/-- the cells of both boxes -/
theorem rbS {w W : World} {a0 a1 a2 a3 a4 b0 b1 b2 b3 b4 : Value} (h : RB w [a0, a1, a2, a3, a4] [b0, b1, b2, b3, b4] W) :
    (W.cell? ⟨w.heap.size, 0, none⟩ = some a0 ∧ W.cell? ⟨w.heap.size, 1, none⟩ = some a1 ∧ W.cell? ⟨w.heap.size, 2, none⟩ = some a2 ∧ W.cell? ⟨w.heap.size, 3, none⟩ = some a3 ∧ W.cell? ⟨w.heap.size, 4, none⟩ = some a4) ∧
    (W.cell? ⟨w.heap.size + 1, 0, none⟩ = some b0 ∧ W.cell? ⟨w.heap.size + 1, 1, none⟩ = some b1 ∧ W.cell? ⟨w.heap.size + 1, 2, none⟩ = some b2 ∧ W.cell? ⟨w.heap.size + 1, 3, none⟩ = some b3 ∧ W.cell? ⟨w.heap.size + 1, 4, none⟩ = some b4) ∧
    (W.frozen? ⟨w.heap.size + 1, 0, none⟩ = false ∧ W.frozen? ⟨w.heap.size + 1, 1, none⟩ = false ∧ W.frozen? ⟨w.heap.size + 1, 2, none⟩ = false ∧ W.frozen? ⟨w.heap.size + 1, 3, none⟩ = false ∧ W.frozen? ⟨w.heap.size + 1, 4, none⟩ = false) ∧
    (W.frozen? ⟨w.heap.size, 3, none⟩ = false ∧ W.frozen? ⟨w.heap.size, 4, none⟩ = false) :=
  ⟨h.f.five, h.r.five, ⟨h.r.free 0, h.r.free 1, h.r.free 2, h.r.free 3, h.r.free 4⟩, h.f.free 3, h.f.free 4⟩

/-- five values stored into the result -/
theorem RB.put {w W : World} {vs : List Value} {b0 b1 b2 b3 b4 : Value} (h : RB w vs [b0, b1, b2, b3, b4] W) (c0 c1 c2 c3 c4 : Value) : RB w vs [c0, c1, c2, c3, c4] (((((W.setCell ⟨w.heap.size + 1, 0, none⟩ c0).setCell ⟨w.heap.size + 1, 1, none⟩ c1).setCell ⟨w.heap.size + 1, 2, none⟩ c2).setCell ⟨w.heap.size + 1, 3, none⟩ c3).setCell ⟨w.heap.size + 1, 4, none⟩ c4) :=
  ((((h.setR 0 c0).setR 1 c1).setR 2 c2).setR 3 c3).setR 4 c4

theorem tl_put {base : Nat} {W : World} {x : Option Addr} {q : Nat} {ys : List Int} (h : TbL base W x q ys) (B : Nat) (c0 c1 c2 c3 c4 : Value) (hB : B < base) : TbL base (((((W.setCell ⟨B, 0, none⟩ c0).setCell ⟨B, 1, none⟩ c1).setCell ⟨B, 2, none⟩ c2).setCell ⟨B, 3, none⟩ c3).setCell ⟨B, 4, none⟩ c4) x q ys :=
  tl_set (tl_set (tl_set (tl_set (tl_set h B 0 c0 hB) B 1 c1 hB) B 2 c2 hB) B 3 c3 hB) B 4 c4 hB

theorem RmP.zero {d m v k : Int} {ch : List Int} {E : Int} {w w' : World} (hE : E ≠ 0) (h : Below w.heap.size w w') : RmP d m v k ch E w (.returned (.tuple #[.agg #[.int .i64 0, .int .i64 0, .int .i64 0, .int .i64 0, .slice none 0 0], .int .i64 E])) w' :=
  ⟨none, 0, 0, by simp [fV, hE], by simp only [fL, if_neg hE]; exact tl_none _ _, h⟩

set_option maxHeartbeats 2000000 in
theorem irm_any (d m v l : Int) (ch : List Int) (a : Option Addr) (n c : Nat) (k : Int) (w : World) (h : Ints w a n ch) : Calls Try.prog 37 #[.agg #[.int .i64 d, .int .i64 m, .int .i64 v, .int .i64 l, .slice a n c], .int .i64 k] w (RmP d m v k ch (rmE (fmE (fmB d m v l ch) (mthB k)) (wdB v l k)) w) := by
  have H := Lib.hid h
  have HR := Lib.hid (RB.new w [.int .i64 d, .int .i64 m, .int .i64 v, .int .i64 l, .slice a n c] [.int .i64 0, .int .i64 0, .int .i64 0, .int .i64 0, .slice none 0 0] 26 26)
  have CG : Hid (∀ W, Hid (RB w [.int .i64 d, .int .i64 m, .int .i64 v, .int .i64 l, .slice a n c] [.int .i64 0, .int .i64 0, .int .i64 0, .int .i64 0, .slice none 0 0] W) → Calls Try.prog 22 #[.agg #[.int .i64 d, .int .i64 m, .int .i64 v, .int .i64 l, .slice a n c], .int .i64 k] W fun e w' => e = .returned (.tuple #[.bool (fB (fmE (fmB d m v l ch) (mthB k)) (wdB v l k)), .int .i64 (fmE (fmB d m v l ch) (mthB k))]) ∧ Below W.heap.size W w') := Lib.hid (fun W hW => igw_any d m v l ch a n c k W (H.out.on hW.out.low))
  obtain ⟨⟨f0, f1, f2, f3, f4⟩, -, -, -⟩ := rbS HR.out
  have HN : Hid (fmE (fmB d m v l ch) (mthB k) = 0 → n ≤ 12) := Lib.hid (fun hE => by rw [← h.len]; exact ((fm_iff ..).1 (fmE_iff.1 hE).1).2.2.2.2.1)
  obtain ⟨E, hE⟩ : ∃ y_, fmE (fmB d m v l ch) (mthB k) = y_ := ⟨_, rfl⟩
  obtain ⟨g, hg⟩ : ∃ y_, wdB v l k = y_ := ⟨_, rfl⟩
  rw [hE, hg] at CG
  rw [hE] at HN
  rw [hE, hg]
  clear h hE hg
  by_cases h0 : E = 0
  · subst h0
    have hn := HN.out rfl
    cases g with
    | false =>
      have HV : Hid (fB 0 false = false ∧ rmE 0 false = 5) := Lib.hid ⟨rfl, rfl⟩
      rw [HV.out.1] at CG
      rw [HV.out.2]
      have HNE : Hid ((5 : Int) ≠ 0) := Lib.hid (by decide)
      go_enter Try.func37, Try.ntmps37
      go_wp2_with fail
      (with_reducible refine (CG.out _ HR).mono ?_)
      rintro e w1 ⟨rfl, hb⟩
      have HR1 := Lib.hid (HR.out.on hb)
      obtain ⟨-, ⟨r0, r1, r2, r3, r4⟩, ⟨z0, z1, z2, z3, z4⟩, -⟩ := rbS HR1.out
      clear hb
      go_wp2_with fail
      have HR2 := HR1.out.put (.int .i64 0) (.int .i64 0) (.int .i64 0) (.int .i64 0) (.slice none 0 0)
      obtain ⟨q0, q1, q2, q3, q4⟩ := HR2.r.five
      refine bodyPost_ret (v := .tuple #[.agg #[.int .i64 0, .int .i64 0, .int .i64 0, .int .i64 0, .slice none 0 0], .int .i64 5]) ?_ rfl (RmP.zero HNE.out HR2.low)
      simp [results, Try.results37, go_sem, q0, q1, q2, q3, q4]
    | true =>
      have HV : Hid (fB 0 true = true ∧ rmE 0 true = 0) := Lib.hid ⟨rfl, rfl⟩
      rw [HV.out.1] at CG
      rw [HV.out.2]
      go_enter Try.func37, Try.ntmps37
      go_wp2_with fail
      (with_reducible refine (CG.out _ HR).mono ?_)
      rintro e w1 ⟨rfl, hb⟩
      have HR1 := Lib.hid (HR.out.on hb)
      obtain ⟨⟨f0, f1, f2, f3, f4⟩, ⟨r0, r1, r2, r3, r4⟩, ⟨z0, z1, z2, z3, z4⟩, y3, y4⟩ := rbS HR1.out
      have HR2 := Lib.hid (HR1.out.setF 3 (.int .i64 k))
      have CC := Lib.hid (clo_any ch a n c (w1.setCell ⟨w.heap.size, 3, none⟩ (.int .i64 k)) (H.out.on HR2.out.low) (by omega))
      clear hb
      go_wp2_with fail
      (with_reducible refine CC.out.mono ?_)
      rintro e w2 ⟨x, q, c', rfl, htl, hb⟩
      have HR3 := Lib.hid (HR2.out.on hb)
      have HT := Lib.hid htl
      obtain ⟨⟨f0, f1, f2, f3, f4⟩, ⟨r0, r1, r2, r3, r4⟩, ⟨z0, z1, z2, z3, z4⟩, y3, y4⟩ := rbS HR3.out
      clear hb htl CC
      go_wp2_with fail
      have HR4 := HR3.out.setF 4 (.slice x q c')
      have HR5 := HR4.put (.int .i64 d) (.int .i64 m) (.int .i64 v) (.int .i64 k) (.slice x q c')
      obtain ⟨q0, q1, q2, q3, q4⟩ := HR5.r.five
      have hsz := HR2.out.sz
      refine bodyPost_ret (v := .tuple #[.agg #[.int .i64 d, .int .i64 m, .int .i64 v, .int .i64 k, .slice x q c'], .int .i64 0]) ?_ rfl ⟨x, q, c', rfl, ?_, HR5.low⟩
      · simp [results, Try.results37, go_sem, q0, q1, q2, q3, q4]
      · exact (tl_put (tl_set HT.out w.heap.size 4 _ (by omega)) (w.heap.size + 1) _ _ _ _ _ (by omega)).mono (by omega)
  · have HV : Hid (rmE E g = E) := Lib.hid (by simp [rmE, h0])
    rw [HV.out]
    have b1 : (E == 0) = false := by simpa using h0
    have b2 : (E != 0) = true := by simpa using h0
    have HNE := Lib.hid h0
    obtain ⟨G, hG⟩ : ∃ y_, fB E g = y_ := ⟨_, rfl⟩
    rw [hG] at CG
    clear h0 hG
    go_enter Try.func37, Try.ntmps37
    go_wp2_with fail
    (with_reducible refine (CG.out _ HR).mono ?_)
    rintro e w1 ⟨rfl, hb⟩
    have HR1 := Lib.hid (HR.out.on hb)
    obtain ⟨-, ⟨r0, r1, r2, r3, r4⟩, ⟨z0, z1, z2, z3, z4⟩, -⟩ := rbS HR1.out
    clear hb
    go_wp2_with fail
    have HR2 := HR1.out.put (.int .i64 0) (.int .i64 0) (.int .i64 0) (.int .i64 0) (.slice none 0 0)
    obtain ⟨q0, q1, q2, q3, q4⟩ := HR2.r.five
    refine bodyPost_ret (v := .tuple #[.agg #[.int .i64 0, .int .i64 0, .int .i64 0, .int .i64 0, .slice none 0 0], .int .i64 E]) ?_ rfl (RmP.zero HNE.out HR2.low)
    simp [results, Try.results37, go_sem, q0, q1, q2, q3, q4]

theorem rbC {w : World} {d m v l : Int} {a : Option Addr} {n c : Nat} {W : World} (h : RB w [.int .i64 d, .int .i64 m, .int .i64 v, .int .i64 l, .slice a n c] [.int .i64 0, .int .i64 0, .int .i64 0, .int .i64 0, .slice none 0 0] W) : W.cell? ⟨w.heap.size, 0, none⟩ = some (.int .i64 d) ∧ W.cell? ⟨w.heap.size, 1, none⟩ = some (.int .i64 m) ∧ W.cell? ⟨w.heap.size, 2, none⟩ = some (.int .i64 v) ∧ W.cell? ⟨w.heap.size, 3, none⟩ = some (.int .i64 l) ∧ W.cell? ⟨w.heap.size, 4, none⟩ = some (.slice a n c) ∧ Hid (RB w [.int .i64 d, .int .i64 m, .int .i64 v, .int .i64 l, .slice a n c] [.int .i64 0, .int .i64 0, .int .i64 0, .int .i64 0, .slice none 0 0] W) := by
  obtain ⟨⟨f0, f1, f2, f3, f4⟩, -⟩ := rbS h
  exact ⟨f0, f1, f2, f3, f4, Lib.hid h⟩

theorem rbX {w : World} {d m v l : Int} {a : Option Addr} {n c : Nat} {rs : List Value} {W : World} (h : RB w [.int .i64 d, .int .i64 m, .int .i64 v, .int .i64 l, .slice a n c] rs W) : W.cell? ⟨w.heap.size, 0, none⟩ = some (.int .i64 d) ∧ W.cell? ⟨w.heap.size, 1, none⟩ = some (.int .i64 m) ∧ W.cell? ⟨w.heap.size, 2, none⟩ = some (.int .i64 v) ∧ W.cell? ⟨w.heap.size, 3, none⟩ = some (.int .i64 l) ∧ W.cell? ⟨w.heap.size, 4, none⟩ = some (.slice a n c) ∧ Hid (∃ rs, RB w [.int .i64 d, .int .i64 m, .int .i64 v, .int .i64 l, .slice a n c] rs W) := by
  obtain ⟨f0, f1, f2, f3, f4⟩ := h.f.five
  exact ⟨f0, f1, f2, f3, f4, Lib.hid ⟨rs, h⟩⟩

set_option maxHeartbeats 4000000 in
theorem srm_any (d m v l : Int) (ch : List Int) (a : Option Addr) (n c : Nat) (k : Int) (w : World) (h : Ints w a n ch) : Calls Try.prog 38 #[.agg #[.int .i64 d, .int .i64 m, .int .i64 v, .int .i64 l, .slice a n c], .int .i64 k] w (RmP d m v k ch (rmE (fmE (fmB d m v l ch) (mthB k)) (wdB v l k)) w) := by
  have H := Lib.hid h
  have HR := Lib.hid (RB.new w [.int .i64 d, .int .i64 m, .int .i64 v, .int .i64 l, .slice a n c] [.int .i64 0, .int .i64 0, .int .i64 0, .int .i64 0, .slice none 0 0] 26 26)
  obtain ⟨⟨f0, f1, f2, f3, f4⟩, -, -, -⟩ := rbS HR.out
  have HN : Hid (fmE (fmB d m v l ch) (mthB k) = 0 → n ≤ 12) := Lib.hid (fun hE => by rw [← h.len]; exact ((fm_iff ..).1 (fmE_iff.1 hE).1).2.2.2.2.1)
  obtain ⟨E, hE⟩ : ∃ y_, fmE (fmB d m v l ch) (mthB k) = y_ := ⟨_, rfl⟩
  have CC : Hid (∀ W, Hid (RB w [.int .i64 d, .int .i64 m, .int .i64 v, .int .i64 l, .slice a n c] [.int .i64 0, .int .i64 0, .int .i64 0, .int .i64 0, .slice none 0 0] W) → Calls Try.prog 80 #[.agg #[.int .i64 d, .int .i64 m, .int .i64 v, .int .i64 l, .slice a n c], .bool (mthB k)] W fun e w' => e = .returned (.int .i64 E) ∧ Below W.heap.size W w') := Lib.hid (fun W hW => by rw [← hE]; exact scode_any d m v l ch a n c _ W (H.out.on hW.out.low))
  have CW : Hid (∀ W, Hid (RB w [.int .i64 d, .int .i64 m, .int .i64 v, .int .i64 l, .slice a n c] [.int .i64 0, .int .i64 0, .int .i64 0, .int .i64 0, .slice none 0 0] W) → Calls Try.prog 86 #[.agg #[.int .i64 d, .int .i64 m, .int .i64 v, .int .i64 l, .slice a n c], .int .i64 k] W fun e w' => e = .returned (.bool (wdB v l k)) ∧ Below W.heap.size W w') := Lib.hid (fun W hW => swid_any d m v l ch a n c k W)
  obtain ⟨g, hg⟩ : ∃ y_, wdB v l k = y_ := ⟨_, rfl⟩
  rw [hg] at CW
  rw [hE] at HN
  rw [hE, hg]
  clear h hE hg
  by_cases h0 : E = 0
  · subst h0
    have hn := HN.out rfl
    cases g with
    | false =>
      have HV : Hid (rmE 0 false = 5) := Lib.hid rfl
      rw [HV.out]
      have HNE : Hid ((5 : Int) ≠ 0) := Lib.hid (by decide)
      go_enter Try.func38, Try.ntmps38
      go_wp2_with fail
      go_region_held3 (fun W9 => W9.cell? ⟨w.heap.size, 0, none⟩ = some (.int .i64 d) ∧ W9.cell? ⟨w.heap.size, 1, none⟩ = some (.int .i64 m) ∧ W9.cell? ⟨w.heap.size, 2, none⟩ = some (.int .i64 v) ∧ W9.cell? ⟨w.heap.size, 3, none⟩ = some (.int .i64 l) ∧ W9.cell? ⟨w.heap.size, 4, none⟩ = some (.slice a n c) ∧ Hid (RB w [.int .i64 d, .int .i64 m, .int .i64 v, .int .i64 l, .slice a n c] [.int .i64 0, .int .i64 0, .int .i64 0, .int .i64 0, .slice none 0 0] W9))
        (first
          | (go_split_ands; with_reducible exact rbC (Hid.out (by with_reducible assumption)))
          | (go_split_ands; with_reducible exact rbC (RB.on (Hid.out (by with_reducible assumption)) hb))
          | (go_split_ands; with_reducible exact rbC (RB.drew (Hid.out (by with_reducible assumption))))
          | fail)
        (first
          | (go_split_ands; go_at_call 81; ((with_reducible refine (l02m_any _ _).mono ?_); rintro e w' ⟨rfl, rfl⟩))
          | (go_split_ands; go_at_call 80; ((with_reducible refine (CC.out _ (by with_reducible assumption)).mono ?_); rintro e w' ⟨rfl, hb⟩))
          | fail)
      all_goals
        go_split_ands
        have HR2 : Hid (RB w [.int .i64 d, .int .i64 m, .int .i64 v, .int .i64 l, .slice a n c] [.int .i64 0, .int .i64 0, .int .i64 0, .int .i64 0, .slice none 0 0] w') := by with_reducible assumption
        go_wp2_with fail
        (with_reducible refine (CW.out _ HR2).mono ?_)
        rintro e w2 ⟨rfl, hb⟩
        have HR3 := Lib.hid (HR2.out.on hb)
        clear hb
        obtain ⟨-, ⟨r0, r1, r2, r3, r4⟩, ⟨z0, z1, z2, z3, z4⟩, -⟩ := rbS HR3.out
        go_wp2_with fail
        have HRZ := HR3.out.put (.int .i64 0) (.int .i64 0) (.int .i64 0) (.int .i64 0) (.slice none 0 0)
        obtain ⟨q0, q1, q2, q3, q4⟩ := HRZ.r.five
        refine bodyPost_ret (v := .tuple #[.agg #[.int .i64 0, .int .i64 0, .int .i64 0, .int .i64 0, .slice none 0 0], .int .i64 5]) ?_ rfl (RmP.zero HNE.out HRZ.low)
        simp [results, Try.results38, go_sem, q0, q1, q2, q3, q4]
    | true =>
      have HV : Hid (rmE 0 true = 0) := Lib.hid rfl
      rw [HV.out]
      have CO : Hid (∀ W, Hid (RB w [.int .i64 d, .int .i64 m, .int .i64 v, .int .i64 l, .slice a n c] [.int .i64 0, .int .i64 0, .int .i64 0, .int .i64 0, .slice none 0 0] W) → Calls Try.prog 97 #[.slice a n c] W (CpP ch W)) := Lib.hid (fun W hW => by
        have hh := H.out.on hW.out.low
        exact (sow_any ch a n c W hh (by omega)).mono fun e w' hp => hp.cp (by rw [hh.len]; omega))
      go_enter Try.func38, Try.ntmps38
      go_wp2_with fail
      go_region_held3 (fun W9 => W9.cell? ⟨w.heap.size, 0, none⟩ = some (.int .i64 d) ∧ W9.cell? ⟨w.heap.size, 1, none⟩ = some (.int .i64 m) ∧ W9.cell? ⟨w.heap.size, 2, none⟩ = some (.int .i64 v) ∧ W9.cell? ⟨w.heap.size, 3, none⟩ = some (.int .i64 l) ∧ W9.cell? ⟨w.heap.size, 4, none⟩ = some (.slice a n c) ∧ Hid (RB w [.int .i64 d, .int .i64 m, .int .i64 v, .int .i64 l, .slice a n c] [.int .i64 0, .int .i64 0, .int .i64 0, .int .i64 0, .slice none 0 0] W9))
        (first
          | (go_split_ands; with_reducible exact rbC (Hid.out (by with_reducible assumption)))
          | (go_split_ands; with_reducible exact rbC (RB.on (Hid.out (by with_reducible assumption)) hb))
          | (go_split_ands; with_reducible exact rbC (RB.drew (Hid.out (by with_reducible assumption))))
          | fail)
        (first
          | (go_split_ands; go_at_call 81; ((with_reducible refine (l02m_any _ _).mono ?_); rintro e w' ⟨rfl, rfl⟩))
          | (go_split_ands; go_at_call 80; ((with_reducible refine (CC.out _ (by with_reducible assumption)).mono ?_); rintro e w' ⟨rfl, hb⟩))
          | fail)
      all_goals
        go_split_ands
        have HR2 : Hid (RB w [.int .i64 d, .int .i64 m, .int .i64 v, .int .i64 l, .slice a n c] [.int .i64 0, .int .i64 0, .int .i64 0, .int .i64 0, .slice none 0 0] w') := by with_reducible assumption
        go_wp2_with fail
        (with_reducible refine (CW.out _ HR2).mono ?_)
        rintro e w2 ⟨rfl, hb⟩
        have HR3 := Lib.hid (HR2.out.on hb)
        obtain ⟨f0, f1, f2, f3, f4, -⟩ := rbC HR3.out
        clear hb
        go_wp2_with fail
        have HRd := Lib.hid (HR3.out.drew)
        refine wp_region_held_drew (S := fun W9 => W9.cell? ⟨w.heap.size, 0, none⟩ = some (.int .i64 d) ∧ W9.cell? ⟨w.heap.size, 1, none⟩ = some (.int .i64 m) ∧ W9.cell? ⟨w.heap.size, 2, none⟩ = some (.int .i64 v) ∧ W9.cell? ⟨w.heap.size, 3, none⟩ = some (.int .i64 l) ∧ W9.cell? ⟨w.heap.size, 4, none⟩ = some (.slice a n c) ∧ Hid (∃ rs, RB w [.int .i64 d, .int .i64 m, .int .i64 v, .int .i64 l, .slice a n c] rs W9)) (by kernel_rfl) (rbX HRd.out) (fun hHeld => ?_)
        refine wpAnyH_take (i := 0) (v := ?_) rfl (by kernel_rfl) (by kernel_rfl) (by kernel_rfl) (fun _ _ _ h => h) (Or.inl ⟨by kernel_rfl, ?_⟩) (by assumption) ?_
        rotate_left
        · (intro w hSw; (try dsimp only at hSw); go_split_ands; go_simp; try with_reducible rfl)
        try simp only [Act.put, List.setIfInBounds_toArray, List.set_cons_zero, List.set_cons_succ]
        refine wpAnyH_take (i := 1) (v := ?_) rfl (by kernel_rfl) (by kernel_rfl) (by kernel_rfl) (fun _ _ _ h => h) (Or.inl ⟨by kernel_rfl, ?_⟩) (by assumption) ?_
        rotate_left
        · (intro w hSw; (try dsimp only at hSw); go_split_ands; go_simp; try with_reducible rfl)
        try simp only [Act.put, List.setIfInBounds_toArray, List.set_cons_zero, List.set_cons_succ]
        refine wpAnyH_take (i := 2) (v := ?_) rfl (by kernel_rfl) (by kernel_rfl) (by kernel_rfl) (fun _ _ _ h => h) (Or.inl ⟨by kernel_rfl, ?_⟩) (by assumption) ?_
        rotate_left
        · (intro w hSw; (try dsimp only at hSw); go_split_ands; go_simp; try with_reducible rfl)
        try simp only [Act.put, List.setIfInBounds_toArray, List.set_cons_zero, List.set_cons_succ]
        refine wpAnyH_take (i := 3) (v := ?_) rfl (by kernel_rfl) (by kernel_rfl) (by kernel_rfl) (fun _ _ _ h => h) (Or.inl ⟨by kernel_rfl, ?_⟩) (by assumption) ?_
        rotate_left
        · (intro w hSw; (try dsimp only at hSw); go_split_ands; go_simp; try with_reducible rfl)
        try simp only [Act.put, List.setIfInBounds_toArray, List.set_cons_zero, List.set_cons_succ]
        refine wpAnyH_take (i := 4) (v := ?_) rfl (by kernel_rfl) (by kernel_rfl) (by kernel_rfl) (fun _ _ _ h => h) (Or.inl ⟨by kernel_rfl, ?_⟩) (by assumption) ?_
        rotate_left
        · (intro w hSw; (try dsimp only at hSw); go_split_ands; go_simp; try with_reducible rfl)
        try simp only [Act.put, List.setIfInBounds_toArray, List.set_cons_zero, List.set_cons_succ]
        refine wpAnyH_take (i := 5) (v := ?_) rfl (by kernel_rfl) (by kernel_rfl) (by kernel_rfl) (fun _ _ _ h => h) (Or.inl ⟨by kernel_rfl, ?_⟩) (by assumption) ?_
        rotate_left
        · (intro w hSw; (try dsimp only at hSw); go_split_ands; go_simp; try with_reducible rfl)
        try simp only [Act.put, List.setIfInBounds_toArray, List.set_cons_zero, List.set_cons_succ]
        refine wpAnyH_take (i := 6) (v := ?_) rfl (by kernel_rfl) (by kernel_rfl) (by kernel_rfl) (fun _ _ _ h => h) (Or.inl ⟨by kernel_rfl, ?_⟩) (by assumption) ?_
        rotate_left
        · (intro w hSw; (try dsimp only at hSw); go_split_ands; go_simp; try with_reducible rfl)
        try simp only [Act.put, List.setIfInBounds_toArray, List.set_cons_zero, List.set_cons_succ]
        refine wpAnyH_take (i := 7) (v := ?_) rfl (by kernel_rfl) (by kernel_rfl) (by kernel_rfl) (fun _ _ _ h => h) (Or.inl ⟨by kernel_rfl, ?_⟩) (by assumption) ?_
        rotate_left
        · (intro w hSw; (try dsimp only at hSw); go_split_ands; go_simp; try with_reducible rfl)
        try simp only [Act.put, List.setIfInBounds_toArray, List.set_cons_zero, List.set_cons_succ]
        refine wpAnyH_take (i := 8) (v := ?_) rfl (by kernel_rfl) (by kernel_rfl) (by kernel_rfl) (fun _ _ _ h => h) (Or.inl ⟨by kernel_rfl, ?_⟩) (by assumption) ?_
        rotate_left
        · (intro w hSw; (try dsimp only at hSw); go_split_ands; go_simp; try with_reducible rfl)
        try simp only [Act.put, List.setIfInBounds_toArray, List.set_cons_zero, List.set_cons_succ]
        refine wpAnyH_ready (rs := [9]) (by kernel_rfl) (by simp) ?_
        refine AllReadyH.cons (o := _) rfl (fun K hK => ?_) AllReadyH.nil
        try simp only [List.getElem_toArray, List.getElem_cons_succ, List.getElem_cons_zero]
        go_simp
        with_reducible refine (CO.out _ HRd).mono ?_
        rintro e w3 ⟨x, q, c', rfl, htl, hb⟩
        have HR4 := Lib.hid (HRd.out.on hb)
        have HT := Lib.hid htl
        have HSZ := Lib.hid HRd.out.sz
        obtain ⟨-, ⟨r0, r1, r2, r3, r4⟩, ⟨z0, z1, z2, z3, z4⟩, -⟩ := rbS HR4.out
        clear hb htl
        refine hK.out _ _ ?_ (fun hHeld => ?_)
        · exact rbX HR4.out
        clear hK K
        try simp only [Act.put, List.setIfInBounds_toArray, List.set_cons_zero, List.set_cons_succ]
        refine wpAnyH_take (i := 10) (v := ?_) rfl (by kernel_rfl) (by kernel_rfl) (by kernel_rfl) (fun _ _ _ h => h) (Or.inl ⟨by kernel_rfl, ?_⟩) (by assumption) ?_
        rotate_left
        · (intro w hSw; (try dsimp only at hSw); go_split_ands; go_simp; try with_reducible rfl)
        try simp only [Act.put, List.setIfInBounds_toArray, List.set_cons_zero, List.set_cons_succ]
        refine wpAnyH_ready (rs := [11]) (by kernel_rfl) (by simp) ?_
        refine AllReadyH.cons (o := _) rfl (fun K hK => ?_) AllReadyH.nil
        try simp only [List.getElem_toArray, List.getElem_cons_succ, List.getElem_cons_zero]
        go_simp
        have HR5 := Lib.hid (HR4.out.put (.int .i64 d) (.int .i64 m) (.int .i64 v) (.int .i64 k) (.slice x q c'))
        refine hK.out _ _ ?_ (fun hHeld => ?_)
        · exact rbX HR5.out
        clear hK K
        try simp only [Act.put, List.setIfInBounds_toArray, List.set_cons_zero, List.set_cons_succ]
        refine wpAnyH_take (i := 12) (v := ?_) rfl (by kernel_rfl) (by kernel_rfl) (by kernel_rfl) (fun _ _ _ h => h) (Or.inl ⟨by kernel_rfl, ?_⟩) (by assumption) ?_
        rotate_left
        · (intro w hSw; (try dsimp only at hSw); go_split_ands; go_simp; try with_reducible rfl)
        try simp only [Act.put, List.setIfInBounds_toArray, List.set_cons_zero, List.set_cons_succ]
        refine wpAnyH_done (by kernel_rfl) ?_ _
        try simp only [List.getElem_toArray, List.getElem_cons_succ, List.getElem_cons_zero, List.setIfInBounds_toArray, List.set_cons_zero, List.set_cons_succ]
        go_wp2_with fail
        obtain ⟨q0, q1, q2, q3, q4⟩ := HR5.out.r.five
        have hsz := HSZ.out
        refine bodyPost_ret (v := .tuple #[.agg #[.int .i64 d, .int .i64 m, .int .i64 v, .int .i64 k, .slice x q c'], .int .i64 0]) ?_ rfl ⟨x, q, c', rfl, ?_, HR5.out.low⟩
        · simp [results, Try.results38, go_sem, q0, q1, q2, q3, q4]
        · exact (tl_put HT.out (w.heap.size + 1) _ _ _ _ _ (by omega)).mono (by omega)
  · have HV : Hid (rmE E g = E) := Lib.hid (by simp [rmE, h0])
    rw [HV.out]
    have b1 : (E == 0) = false := by simpa using h0
    have b2 : (E != 0) = true := by simpa using h0
    have HNE := Lib.hid h0
    clear h0
    go_enter Try.func38, Try.ntmps38
    go_wp2_with fail
    go_region_held3 (fun W9 => W9.cell? ⟨w.heap.size, 0, none⟩ = some (.int .i64 d) ∧ W9.cell? ⟨w.heap.size, 1, none⟩ = some (.int .i64 m) ∧ W9.cell? ⟨w.heap.size, 2, none⟩ = some (.int .i64 v) ∧ W9.cell? ⟨w.heap.size, 3, none⟩ = some (.int .i64 l) ∧ W9.cell? ⟨w.heap.size, 4, none⟩ = some (.slice a n c) ∧ Hid (RB w [.int .i64 d, .int .i64 m, .int .i64 v, .int .i64 l, .slice a n c] [.int .i64 0, .int .i64 0, .int .i64 0, .int .i64 0, .slice none 0 0] W9))
      (first
        | (go_split_ands; with_reducible exact rbC (Hid.out (by with_reducible assumption)))
        | (go_split_ands; with_reducible exact rbC (RB.on (Hid.out (by with_reducible assumption)) hb))
        | (go_split_ands; with_reducible exact rbC (RB.drew (Hid.out (by with_reducible assumption))))
        | fail)
      (first
        | (go_split_ands; go_at_call 81; ((with_reducible refine (l02m_any _ _).mono ?_); rintro e w' ⟨rfl, rfl⟩))
        | (go_split_ands; go_at_call 80; ((with_reducible refine (CC.out _ (by with_reducible assumption)).mono ?_); rintro e w' ⟨rfl, hb⟩))
        | fail)
    all_goals
      go_split_ands
      have HR2 : Hid (RB w [.int .i64 d, .int .i64 m, .int .i64 v, .int .i64 l, .slice a n c] [.int .i64 0, .int .i64 0, .int .i64 0, .int .i64 0, .slice none 0 0] w') := by with_reducible assumption
      obtain ⟨-, ⟨r0, r1, r2, r3, r4⟩, ⟨z0, z1, z2, z3, z4⟩, -⟩ := rbS HR2.out
      go_wp2_with fail
      have HRZ := HR2.out.put (.int .i64 0) (.int .i64 0) (.int .i64 0) (.int .i64 0) (.slice none 0 0)
      obtain ⟨q0, q1, q2, q3, q4⟩ := HRZ.r.five
      refine bodyPost_ret (v := .tuple #[.agg #[.int .i64 0, .int .i64 0, .int .i64 0, .int .i64 0, .slice none 0 0], .int .i64 E]) ?_ rfl (RmP.zero HNE.out HRZ.low)
      simp [results, Try.results38, go_sem, q0, q1, q2, q3, q4]

end Go.Proofs.Ytmnddplkmljeaaa
