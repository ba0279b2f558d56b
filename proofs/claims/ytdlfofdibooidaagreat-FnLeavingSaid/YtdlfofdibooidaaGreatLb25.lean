/- Merged: Asi. -/
import Derived.Test.YtdlfofdibooidaaGreatLb10
import Derived.Test.YtdlfofdibooidaaGreatLb24
import Derived.Deep.RegionHeld3

/- Assurances: the program's kinds. | Assurances: the program's check, the prices and premiums of a cover, the cover at an age. (Written by wip/gen/asj.py.) | Assurances: the block of a cover of the program, the cover at an age. (Written by wip/gen/ask.py.) | Assurances: the cover of the arguments. (Written by wip/gen/asm.py.) | Assurances: the program's AssurancePrice, LevelPremium, SumFor, AssuranceNumber, TermPart. (Written by wip/gen/asn.py.) -/
namespace Go.Proofs.YtdlfofdibooidaaGreat
open Go.ChangeShapes Go.WideShapes Go.ChangeAt Go.RowKit
set_option linter.unusedVariables false
set_option maxRecDepth 100000

/-- the dynamic type of a kind, and its value; a number that is none: nil -/
def kT (k : Int) : TypeId := if k = 0 then 136 else if k = 1 then 137 else if k = 2 then 138 else 139

def kI (k : Int) : Value := .iface (kT k) (.agg #[])

def kV (k : Int) : Value := if inB k 0 3 = true then kI k else .nilIface

theorem as00 (w : World) (v : Value) : (Instr.typeAssert (.iface 136 v) 60 136 true).run Tryz.prog w = .ok (.tuple #[v, .bool true]) w := by kernel_rfl

theorem as10 (w : World) (v : Value) : (Instr.typeAssert (.iface 137 v) 60 136 true).run Tryz.prog w = .ok (.tuple #[.agg #[], .bool false]) w := by kernel_rfl

theorem as20 (w : World) (v : Value) : (Instr.typeAssert (.iface 138 v) 60 136 true).run Tryz.prog w = .ok (.tuple #[.agg #[], .bool false]) w := by kernel_rfl

theorem as30 (w : World) (v : Value) : (Instr.typeAssert (.iface 139 v) 60 136 true).run Tryz.prog w = .ok (.tuple #[.agg #[], .bool false]) w := by kernel_rfl

theorem me0 (w : World) : (method 328 136 (.agg #[]) "loop.example/g01025/impl.numerator").run Tryz.prog w = .ok (186, .agg #[]) w := by kernel_rfl

theorem me1 (w : World) : (method 328 137 (.agg #[]) "loop.example/g01025/impl.numerator").run Tryz.prog w = .ok (187, .agg #[]) w := by kernel_rfl

theorem me2 (w : World) : (method 328 138 (.agg #[]) "loop.example/g01025/impl.numerator").run Tryz.prog w = .ok (188, .agg #[]) w := by kernel_rfl

theorem me3 (w : World) : (method 328 139 (.agg #[]) "loop.example/g01025/impl.numerator").run Tryz.prog w = .ok (189, .agg #[]) w := by kernel_rfl

theorem kT_cases (k : Int) (h : 0 ≤ k ∧ k ≤ 3) : k = 0 ∨ k = 1 ∨ k = 2 ∨ k = 3 := by omega

/-! ### which kind, and for how long -/

theorem aof_any (k : Int) (w : World) : Calls Tryz.prog 65 #[.int .i64 k] w fun e w' => e = .returned (kV k) ∧ w = w' := by
  by_cases h : inB k 0 3 = true
  · obtain ⟨h0, h3⟩ := (inB_iff _ _ _).1 h
    rcases kT_cases k ⟨h0, h3⟩ with rfl | rfl | rfl | rfl
    all_goals
      go_enter Tryz.func65, Tryz.ntmps65
      go_wp2_with fail
      go_ret
      exact ⟨rfl, rfl⟩
  · have hk : ¬ (0 ≤ k ∧ k ≤ 3) := fun hh => h ((inB_iff _ _ _).2 hh)
    have h0 : (k == 0) = false := by simp; omega
    have h1 : (k == 1) = false := by simp; omega
    have h2 : (k == 2) = false := by simp; omega
    have h3 : (k == 3) = false := by simp; omega
    have HV : Hid (kV k = .nilIface) := Lib.hid (by unfold kV; rw [if_neg h])
    clear h hk
    go_enter Tryz.func65, Tryz.ntmps65
    go_wp2_with fail
    go_ret
    exact ⟨by rw [HV.out]; rfl, rfl⟩

/-- does a kind last n years? -/
def lasB (k n : Int) : Bool := if inB k 0 3 = true then (if k = 0 then n == 0 else inB n 1 120) else false

theorem lasts_any (k n : Int) (w : World) : Calls Tryz.prog 105 #[kV k, .int .i64 n] w fun e w' => e = .returned (.bool (lasB k n)) ∧ w = w' := by
  have a0 := as00
  have a1 := as10
  have a2 := as20
  have a3 := as30
  by_cases h : inB k 0 3 = true
  · obtain ⟨h0, h3⟩ := (inB_iff _ _ _).1 h
    rcases kT_cases k ⟨h0, h3⟩ with rfl | rfl | rfl | rfl
    · show Calls Tryz.prog 105 #[.iface 136 (.agg #[]), .int .i64 n] w _
      go_enter Tryz.func105, Tryz.ntmps105
      go_wp2_with fail
      go_ret
      exact ⟨rfl, rfl⟩
    · show Calls Tryz.prog 105 #[.iface 137 (.agg #[]), .int .i64 n] w _
      go_enter Tryz.func105, Tryz.ntmps105
      go_wp2_with (go_at_call 87; refine (within_any _ _ _ _).mono ?_; rintro e w' ⟨rfl, rfl⟩)
      go_ret
      exact ⟨rfl, rfl⟩
    · show Calls Tryz.prog 105 #[.iface 138 (.agg #[]), .int .i64 n] w _
      go_enter Tryz.func105, Tryz.ntmps105
      go_wp2_with (go_at_call 87; refine (within_any _ _ _ _).mono ?_; rintro e w' ⟨rfl, rfl⟩)
      go_ret
      exact ⟨rfl, rfl⟩
    · show Calls Tryz.prog 105 #[.iface 139 (.agg #[]), .int .i64 n] w _
      go_enter Tryz.func105, Tryz.ntmps105
      go_wp2_with (go_at_call 87; refine (within_any _ _ _ _).mono ?_; rintro e w' ⟨rfl, rfl⟩)
      go_ret
      exact ⟨rfl, rfl⟩
  · have HV : Hid (lasB k n = false) := Lib.hid (by unfold lasB; rw [if_neg h])
    rw [show kV k = .nilIface by unfold kV; rw [if_neg h]]
    go_enter Tryz.func105, Tryz.ntmps105
    go_wp2_with fail
    go_ret
    exact ⟨by rw [HV.out]; rfl, rfl⟩

/-! ### numerators -/

theorem nm0_any (A B C D A' B' C' D' : Int) (w : World) : Calls Tryz.prog 186 #[.agg #[], .agg #[.int .i64 A, .int .i64 B, .int .i64 C, .int .i64 D], .agg #[.int .i64 A', .int .i64 B', .int .i64 C', .int .i64 D']] w fun e w' => e = .returned (.int .i64 D) ∧ Below w.heap.size w w' := by
  go_enter Tryz.func186, Tryz.ntmps186
  go_wp2_with fail
  go_ret
  exact ⟨rfl, ((box_b _ _).alloc (by simp) _).alloc (by simp; omega) _⟩

theorem nm1_any (A B C D A' B' C' D' : Int) (w : World) (h0 : 0 ≤ D) (h1 : D ≤ 1000000000000000000) (h2 : 0 ≤ D') (h3 : D' ≤ 1000000000000000000) : Calls Tryz.prog 187 #[.agg #[], .agg #[.int .i64 A, .int .i64 B, .int .i64 C, .int .i64 D], .agg #[.int .i64 A', .int .i64 B', .int .i64 C', .int .i64 D']] w fun e w' => e = .returned (.int .i64 (D - D')) ∧ Below w.heap.size w w' := by
  have q : IntKind.i64.wrap (D - D') = D - D' := IntWalk.i64_in _ (by omega)
  go_enter Tryz.func187, Tryz.ntmps187
  go_wp2_with fail
  go_ret
  exact ⟨rfl, ((box_b _ _).alloc (by simp) _).alloc (by simp; omega) _⟩

theorem nm3_any (A B C D A' B' C' D' : Int) (w : World) : Calls Tryz.prog 189 #[.agg #[], .agg #[.int .i64 A, .int .i64 B, .int .i64 C, .int .i64 D], .agg #[.int .i64 A', .int .i64 B', .int .i64 C', .int .i64 D']] w fun e w' => e = .returned (.int .i64 A') ∧ Below w.heap.size w w' := by
  go_enter Tryz.func189, Tryz.ntmps189
  go_wp2_with fail
  go_ret
  exact ⟨rfl, ((box_b _ _).alloc (by simp) _).alloc (by simp; omega) _⟩

theorem nm2_any (A B C D A' B' C' D' : Int) (w : World) (h0 : 0 ≤ D) (h1 : D ≤ 1000000000000000000) (h2 : 0 ≤ D') (h3 : D' ≤ 1000000000000000000) (h4 : 0 ≤ A') (h5 : A' ≤ 1000000000000000000) : Calls Tryz.prog 188 #[.agg #[], .agg #[.int .i64 A, .int .i64 B, .int .i64 C, .int .i64 D], .agg #[.int .i64 A', .int .i64 B', .int .i64 C', .int .i64 D']] w fun e w' => e = .returned (.int .i64 (D - D' + A')) ∧ Below w.heap.size w w' := by
  have q : IntKind.i64.wrap (D - D' + A') = D - D' + A' := IntWalk.i64_in _ (by omega)
  have C1 := Lib.hid (fun W => nm1_any A B C D A' B' C' D' W h0 h1 h2 h3)
  have C2 := Lib.hid (fun W => nm3_any A B C D A' B' C' D' W)
  clear h0 h1 h2 h3 h4 h5
  have hS : ∀ w', w' = (((w.alloc (.cells #[] 138)).alloc (.cells #[.int .i64 A, .int .i64 B, .int .i64 C, .int .i64 D] 62)).alloc (.cells #[.int .i64 A', .int .i64 B', .int .i64 C', .int .i64 D'] 62)) → (w'.cell? ⟨w.heap.size + 1, 0, none⟩ = some (.int .i64 A) ∧ w'.cell? ⟨w.heap.size + 1, 1, none⟩ = some (.int .i64 B) ∧ w'.cell? ⟨w.heap.size + 1, 2, none⟩ = some (.int .i64 C) ∧ w'.cell? ⟨w.heap.size + 1, 3, none⟩ = some (.int .i64 D) ∧ w'.cell? ⟨w.heap.size + 1 + 1, 0, none⟩ = some (.int .i64 A') ∧ w'.cell? ⟨w.heap.size + 1 + 1, 1, none⟩ = some (.int .i64 B') ∧ w'.cell? ⟨w.heap.size + 1 + 1, 2, none⟩ = some (.int .i64 C') ∧ w'.cell? ⟨w.heap.size + 1 + 1, 3, none⟩ = some (.int .i64 D') ∧ Hid (Below w.heap.size w w')) := by
    intro w' hw
    subst hw
    refine ⟨by go_simp, by go_simp, by go_simp, by go_simp, by go_simp, by go_simp, by go_simp, by go_simp, Lib.hid (((box_b _ _).alloc (by simp) _).alloc (by simp; omega) _)⟩
  go_enter Tryz.func188, Tryz.ntmps188
  go_wp2_with fail
  obtain ⟨W1, hW1⟩ : ∃ W1, (((w.alloc (.cells #[] 138)).alloc (.cells #[.int .i64 A, .int .i64 B, .int .i64 C, .int .i64 D] 62)).alloc (.cells #[.int .i64 A', .int .i64 B', .int .i64 C', .int .i64 D'] 62)) = W1 := ⟨_, rfl⟩
  obtain ⟨s0, s1, s2, s3, s4, s5, s6, s7, HB⟩ := hS W1 hW1.symm
  rw [hW1]
  clear hW1 hS
  go_region_held3 (fun w' => w'.cell? ⟨w.heap.size + 1, 0, none⟩ = some (.int .i64 A) ∧ w'.cell? ⟨w.heap.size + 1, 1, none⟩ = some (.int .i64 B) ∧ w'.cell? ⟨w.heap.size + 1, 2, none⟩ = some (.int .i64 C) ∧ w'.cell? ⟨w.heap.size + 1, 3, none⟩ = some (.int .i64 D) ∧ w'.cell? ⟨w.heap.size + 1 + 1, 0, none⟩ = some (.int .i64 A') ∧ w'.cell? ⟨w.heap.size + 1 + 1, 1, none⟩ = some (.int .i64 B') ∧ w'.cell? ⟨w.heap.size + 1 + 1, 2, none⟩ = some (.int .i64 C') ∧ w'.cell? ⟨w.heap.size + 1 + 1, 3, none⟩ = some (.int .i64 D') ∧ Hid (Below w.heap.size w w'))
    (first
      | (go_split_ands; exact ⟨by with_reducible assumption, by with_reducible assumption, by with_reducible assumption, by with_reducible assumption, by with_reducible assumption, by with_reducible assumption, by with_reducible assumption, by with_reducible assumption, by with_reducible assumption⟩)
      | (go_split_ands; exact ⟨cell_drew s0, cell_drew s1, cell_drew s2, cell_drew s3, cell_drew s4, cell_drew s5, cell_drew s6, cell_drew s7, Lib.hid (Below.drew HB.out)⟩)
      | (go_split_ands; exact ⟨keep2 hb (by with_reducible assumption), keep2 hb (by with_reducible assumption), keep2 hb (by with_reducible assumption), keep2 hb (by with_reducible assumption), keep2 hb (by with_reducible assumption), keep2 hb (by with_reducible assumption), keep2 hb (by with_reducible assumption), keep2 hb (by with_reducible assumption), Lib.hid (Below.trans (Hid.out (by with_reducible assumption)) (Below.mono hb (Below.size (Hid.out (by with_reducible assumption)))))⟩)
      | fail)
    (first
      | (go_split_ands; go_at_call 187; ((with_reducible refine (C1.out _).mono ?_); rintro e w' ⟨rfl, hb⟩))
      | (go_split_ands; go_at_call 189; ((with_reducible refine (C2.out _).mono ?_); rintro e w' ⟨rfl, hb⟩))
      | fail)
  all_goals
    go_split_ands
    go_wp2_with fail
    go_ret
    exact ⟨rfl, Hid.out (by with_reducible assumption)⟩

/-- the numerator of a kind over the columns now and later -/
def numK (k A B C D A' B' C' D' : Int) : Int := if k = 0 then D else if k = 1 then D - D' else if k = 2 then D - D' + A' else A'

def payK (k A B C D A' B' C' D' : Int) : Int := if k = 0 then B else B - B'

/-- bounds of columns -/
def InC (A B C D : Int) : Prop := (0 ≤ A ∧ A ≤ 1000000000000000000) ∧ (0 ≤ B ∧ B ≤ 1000000000000000000) ∧ (0 ≤ D ∧ D ≤ 1000000000000000000)

def cvr (v : Value) (A B C D A' B' C' D' : Int) : Value := .agg #[v, .int .i64 A, .int .i64 B, .int .i64 C, .int .i64 D, .int .i64 A', .int .i64 B', .int .i64 C', .int .i64 D']

theorem cnum_any (k A B C D A' B' C' D' : Int) (hk : 0 ≤ k ∧ k ≤ 3) (h : InC A B C D) (h' : InC A' B' C' D') (w : World) : Calls Tryz.prog 70 #[cvr (kI k) A B C D A' B' C' D'] w fun e w' => e = .returned (.int .i64 (numK k A B C D A' B' C' D')) ∧ Below w.heap.size w w' := by
  have m0 := me0
  have m1 := me1
  have m2 := me2
  have m3 := me3
  obtain ⟨⟨a0, a1⟩, -, d0, d1⟩ := h
  obtain ⟨⟨e0, e1⟩, -, g0, g1⟩ := h'
  have C0 := Lib.hid (fun W => nm0_any A B C D A' B' C' D' W)
  have C1 := Lib.hid (fun W => nm1_any A B C D A' B' C' D' W d0 d1 g0 g1)
  have C2 := Lib.hid (fun W => nm2_any A B C D A' B' C' D' W d0 d1 g0 g1 e0 e1)
  have C3 := Lib.hid (fun W => nm3_any A B C D A' B' C' D' W)
  clear a0 a1 d0 d1 e0 e1 g0 g1
  unfold cvr
  rcases kT_cases k hk with rfl | rfl | rfl | rfl
  · show Calls Tryz.prog 70 #[.agg #[.iface 136 (.agg #[]), .int .i64 A, .int .i64 B, .int .i64 C, .int .i64 D, .int .i64 A', .int .i64 B', .int .i64 C', .int .i64 D']] w _
    go_enter Tryz.func70, Tryz.ntmps70
    go_wp2_with fail
    with_reducible refine (C0.out _).mono ?_
    rintro e w1 ⟨rfl, hb⟩
    have HB := Lib.hid ((box_b w _).trans (hb.mono (by simp)))
    clear hb
    go_wp2_with fail
    go_ret
    exact ⟨rfl, HB.out⟩
  · show Calls Tryz.prog 70 #[.agg #[.iface 137 (.agg #[]), .int .i64 A, .int .i64 B, .int .i64 C, .int .i64 D, .int .i64 A', .int .i64 B', .int .i64 C', .int .i64 D']] w _
    go_enter Tryz.func70, Tryz.ntmps70
    go_wp2_with fail
    with_reducible refine (C1.out _).mono ?_
    rintro e w1 ⟨rfl, hb⟩
    have HB := Lib.hid ((box_b w _).trans (hb.mono (by simp)))
    clear hb
    go_wp2_with fail
    go_ret
    exact ⟨rfl, HB.out⟩
  · show Calls Tryz.prog 70 #[.agg #[.iface 138 (.agg #[]), .int .i64 A, .int .i64 B, .int .i64 C, .int .i64 D, .int .i64 A', .int .i64 B', .int .i64 C', .int .i64 D']] w _
    go_enter Tryz.func70, Tryz.ntmps70
    go_wp2_with fail
    with_reducible refine (C2.out _).mono ?_
    rintro e w1 ⟨rfl, hb⟩
    have HB := Lib.hid ((box_b w _).trans (hb.mono (by simp)))
    clear hb
    go_wp2_with fail
    go_ret
    exact ⟨rfl, HB.out⟩
  · show Calls Tryz.prog 70 #[.agg #[.iface 139 (.agg #[]), .int .i64 A, .int .i64 B, .int .i64 C, .int .i64 D, .int .i64 A', .int .i64 B', .int .i64 C', .int .i64 D']] w _
    go_enter Tryz.func70, Tryz.ntmps70
    go_wp2_with fail
    with_reducible refine (C3.out _).mono ?_
    rintro e w1 ⟨rfl, hb⟩
    have HB := Lib.hid ((box_b w _).trans (hb.mono (by simp)))
    clear hb
    go_wp2_with fail
    go_ret
    exact ⟨rfl, HB.out⟩

theorem cpay_any (k A B C D A' B' C' D' : Int) (hk : 0 ≤ k ∧ k ≤ 3) (h : InC A B C D) (h' : InC A' B' C' D') (w : World) : Calls Tryz.prog 129 #[cvr (kI k) A B C D A' B' C' D'] w fun e w' => e = .returned (.int .i64 (payK k A B C D A' B' C' D')) ∧ Below w.heap.size w w' := by
  have t0 := as00
  have t1 := as10
  have t2 := as20
  have t3 := as30
  obtain ⟨-, ⟨b0, b1⟩, -⟩ := h
  obtain ⟨-, ⟨e0, e1⟩, -⟩ := h'
  have q : IntKind.i64.wrap (B - B') = B - B' := IntWalk.i64_in _ (by omega)
  unfold cvr
  rcases kT_cases k hk with rfl | rfl | rfl | rfl
  · show Calls Tryz.prog 129 #[.agg #[.iface 136 (.agg #[]), .int .i64 A, .int .i64 B, .int .i64 C, .int .i64 D, .int .i64 A', .int .i64 B', .int .i64 C', .int .i64 D']] w _
    go_enter Tryz.func129, Tryz.ntmps129
    go_wp2_with fail
    go_ret
    exact ⟨rfl, box_b _ _⟩
  · show Calls Tryz.prog 129 #[.agg #[.iface 137 (.agg #[]), .int .i64 A, .int .i64 B, .int .i64 C, .int .i64 D, .int .i64 A', .int .i64 B', .int .i64 C', .int .i64 D']] w _
    go_enter Tryz.func129, Tryz.ntmps129
    go_wp2_with fail
    go_ret
    exact ⟨rfl, box_b _ _⟩
  · show Calls Tryz.prog 129 #[.agg #[.iface 138 (.agg #[]), .int .i64 A, .int .i64 B, .int .i64 C, .int .i64 D, .int .i64 A', .int .i64 B', .int .i64 C', .int .i64 D']] w _
    go_enter Tryz.func129, Tryz.ntmps129
    go_wp2_with fail
    go_ret
    exact ⟨rfl, box_b _ _⟩
  · show Calls Tryz.prog 129 #[.agg #[.iface 139 (.agg #[]), .int .i64 A, .int .i64 B, .int .i64 C, .int .i64 D, .int .i64 A', .int .i64 B', .int .i64 C', .int .i64 D']] w _
    go_enter Tryz.func129, Tryz.ntmps129
    go_wp2_with fail
    go_ret
    exact ⟨rfl, box_b _ _⟩

theorem lasB_iff {k n : Int} : lasB k n = true ↔ (0 ≤ k ∧ k ≤ 3) ∧ (k = 0 → n = 0) ∧ (k ≠ 0 → 1 ≤ n ∧ n ≤ 120) := by
  unfold lasB
  by_cases h : inB k 0 3 = true
  · rw [if_pos h]
    have h2 := (inB_iff _ _ _).1 h
    by_cases h0 : k = 0
    · rw [if_pos h0]; simp [h0]
    · rw [if_neg h0, inB_iff]
      exact ⟨fun a => ⟨h2, fun b => absurd b h0, fun _ => a⟩, fun a => a.2.2 h0⟩
  · rw [if_neg h]
    have h2 : ¬ (0 ≤ k ∧ k ≤ 3) := fun hh => h ((inB_iff _ _ _).2 hh)
    exact ⟨fun a => (by cases a), fun a => absurd a.1 h2⟩

theorem chk_as (r f : Int) (xs : List Int) (k x n b : Int) : akE r f xs x (inB b 1 100000000 && fitB k n) n = if coE r f xs x = 0 then (if lasB k n = true ∧ x + n ≤ 150 ∧ inB b 1 100000000 = true then 0 else 2) else coE r f xs x := by
  unfold akE
  have e : ((inB b 1 100000000 && fitB k n) = true ∧ (0 ≤ n ∧ n ≤ 120) ∧ x + n ≤ 150) ↔ (lasB k n = true ∧ x + n ≤ 150 ∧ inB b 1 100000000 = true) := by
    rw [Bool.and_eq_true, fitB_iff, lasB_iff]
    constructor
    · rintro ⟨⟨h1, h2, h3⟩, ⟨h4, h5⟩, h6⟩
      exact ⟨⟨h2, h3.1, fun h => ⟨by (by_cases h0 : n = 0; exact absurd (h3.2 h0) h; omega), h5⟩⟩, h6, h1⟩
    · rintro ⟨⟨h2, h3, h4⟩, h5, h1⟩
      by_cases h0 : k = 0
      · have := h3 h0
        exact ⟨⟨h1, h2, ⟨fun _ => this, fun _ => h0⟩⟩, by omega, h5⟩
      · have := h4 h0
        exact ⟨⟨h1, h2, ⟨fun h => absurd h h0, fun h => by omega⟩⟩, by omega, h5⟩
  simp only [e]

set_option maxHeartbeats 1000000 in
theorem chka_any (r f : Int) (xs : List Int) (a : Option Addr) (l c : Nat) (k x n b : Int) (w : World) (h : Ints w a l xs) (hlc : l ≤ c) :
    Calls Tryz.prog 66 #[.agg #[.int .i64 f, .slice a l c], .int .i64 r, kV k, .int .i64 x, .int .i64 n, .int .i64 b] w fun e w' => e = .returned (.int .i64 (akE r f xs x (inB b 1 100000000 && fitB k n) n)) ∧ Below w.heap.size w w' := by
  have H := Lib.hid h
  have CO : Hid (∀ W, Hid (Below w.heap.size w W) → Calls Tryz.prog 104 #[.agg #[.int .i64 f, .slice a l c], .int .i64 r, .int .i64 x] W fun e w' => e = .returned (.int .i64 (coE r f xs x)) ∧ Below W.heap.size W w') :=
    Lib.hid (fun W hW => icheck_any r f xs a l c x W (H.out.on hW.out) hlc)
  have CL := Lib.hid (fun W => lasts_any k n W)
  rw [chk_as]
  obtain ⟨V, hV⟩ : ∃ y_, kV k = y_ := ⟨_, rfl⟩
  rw [hV] at CL ⊢
  obtain ⟨L, hL⟩ : ∃ y_, lasB k n = y_ := ⟨_, rfl⟩
  rw [hL] at CL ⊢
  clear h hV
  by_cases hz : coE r f xs x = 0
  · obtain ⟨-, ⟨r0, r1⟩, x0, x1⟩ := coE_iff.1 hz
    obtain ⟨f0, f1⟩ := (coE_iff.1 hz).1.1
    rw [if_pos hz]
    rw [hz] at CO
    cases L
    · rw [show (if false = true ∧ x + n ≤ 150 ∧ inB b 1 100000000 = true then (0 : Int) else 2) = 2 from by simp]
      clear hz hL
      go_enter Tryz.func66, Tryz.ntmps66
      go_wp2_with fail
      with_reducible refine (CO.out _ (Lib.hid (box_b _ _))).mono ?_
      rintro e w1 ⟨rfl, hb⟩
      obtain ⟨hB, hc0, hc1⟩ := box2 hb
      have HB := Lib.hid hB
      clear hB hb
      go_wp2_with (first | (go_at_call 87; refine (within_any _ _ _ _).mono ?_; rintro e w' ⟨rfl, rfl⟩) | (go_at_call 105; with_reducible refine (CL.out _).mono ?_; rintro e w' ⟨rfl, rfl⟩))
      go_ret
      exact ⟨rfl, HB.out⟩
    · obtain ⟨-, hn0, hn1⟩ := lasB_iff.1 hL
      have hn : 0 ≤ n ∧ n ≤ 120 := by
        by_cases h0 : k = 0
        · have := hn0 h0; omega
        · exact ⟨by have := hn1 h0; omega, by have := hn1 h0; omega⟩
      obtain ⟨n0, n1⟩ := hn
      clear hn0 hn1 hL
      have q1 : IntKind.i64.wrap (x + n) = x + n := IntWalk.i64_in _ (by omega)
      by_cases hx : x + n ≤ 150
      · by_cases hb1 : inB b 1 100000000 = true
        · rw [show (if true = true ∧ x + n ≤ 150 ∧ inB b 1 100000000 = true then (0 : Int) else 2) = 0 from by simp [hx, hb1]]
          clear hz
          go_enter Tryz.func66, Tryz.ntmps66
          go_wp2_with fail
          with_reducible refine (CO.out _ (Lib.hid (box_b _ _))).mono ?_
          rintro e w1 ⟨rfl, hb⟩
          obtain ⟨hB, hc0, hc1⟩ := box2 hb
          have HB := Lib.hid hB
          clear hB hb
          go_wp2_with (first | (go_at_call 87; refine (within_any _ _ _ _).mono ?_; rintro e w' ⟨rfl, rfl⟩) | (go_at_call 105; with_reducible refine (CL.out _).mono ?_; rintro e w' ⟨rfl, rfl⟩))
          go_ret
          exact ⟨rfl, HB.out⟩
        · have hb2 : inB b 1 100000000 = false := by simpa using hb1
          rw [show (if true = true ∧ x + n ≤ 150 ∧ inB b 1 100000000 = true then (0 : Int) else 2) = 2 from by simp [hb2]]
          clear hz hb1
          go_enter Tryz.func66, Tryz.ntmps66
          go_wp2_with fail
          with_reducible refine (CO.out _ (Lib.hid (box_b _ _))).mono ?_
          rintro e w1 ⟨rfl, hb⟩
          obtain ⟨hB, hc0, hc1⟩ := box2 hb
          have HB := Lib.hid hB
          clear hB hb
          go_wp2_with (first | (go_at_call 87; refine (within_any _ _ _ _).mono ?_; rintro e w' ⟨rfl, rfl⟩) | (go_at_call 105; with_reducible refine (CL.out _).mono ?_; rintro e w' ⟨rfl, rfl⟩))
          go_ret
          exact ⟨rfl, HB.out⟩
      · rw [show (if true = true ∧ x + n ≤ 150 ∧ inB b 1 100000000 = true then (0 : Int) else 2) = 2 from by simp [hx]]
        clear hz
        go_enter Tryz.func66, Tryz.ntmps66
        go_wp2_with fail
        with_reducible refine (CO.out _ (Lib.hid (box_b _ _))).mono ?_
        rintro e w1 ⟨rfl, hb⟩
        obtain ⟨hB, hc0, hc1⟩ := box2 hb
        have HB := Lib.hid hB
        clear hB hb
        go_wp2_with (first | (go_at_call 87; refine (within_any _ _ _ _).mono ?_; rintro e w' ⟨rfl, rfl⟩) | (go_at_call 105; with_reducible refine (CL.out _).mono ?_; rintro e w' ⟨rfl, rfl⟩))
        go_ret
        exact ⟨rfl, HB.out⟩
  · rw [if_neg hz]
    obtain ⟨E, hE⟩ : ∃ E, coE r f xs x = E := ⟨_, rfl⟩
    rw [hE] at CO hz ⊢
    have hne : (E != 0) = true := by simp [hz]
    clear hE hz
    go_enter Tryz.func66, Tryz.ntmps66
    go_wp2_with fail
    with_reducible refine (CO.out _ (Lib.hid (box_b _ _))).mono ?_
    rintro e w1 ⟨rfl, hb⟩
    obtain ⟨hB, hc0, hc1⟩ := box2 hb
    have HB := Lib.hid hB
    clear hB hb
    go_wp2_with fail
    go_ret
    exact ⟨rfl, HB.out⟩

set_option maxHeartbeats 4000000 in
theorem cpri_any (T : TypeId) (z : Value) (A B C D A' B' C' D' N : Int) (b : Int) (w : World) (hN : ∀ W, Calls Tryz.prog 70 #[cvr (.iface T z) A B C D A' B' C' D'] W fun e w' => e = .returned (.int .i64 N) ∧ Below W.heap.size W w')
    (b0 : 0 ≤ b) (b1 : b ≤ 1000000000000) (n0 : 0 ≤ N) (n1 : N ≤ 1000000000000000000) (a0 : 1 ≤ A) (a1 : A ≤ 1000000000000000000) (hq : b * N / A ≤ 100000000000000000) :
    Calls Tryz.prog 42 #[cvr (.iface T z) A B C D A' B' C' D', .int .i64 b] w fun e w' => e = .returned (.int .i64 (upV b N A)) ∧ Below w.heap.size w w' := by
  have CU := Lib.hid (fun W => tu_any b N A W b0 b1 n0 n1 a0 a1 hq)
  have CN := Lib.hid hN
  obtain ⟨U, hU⟩ : ∃ y_, upV b N A = y_ := ⟨_, rfl⟩
  rw [hU] at CU ⊢
  clear hU hq hN
  unfold cvr at *
  have hS : ∀ w', w' = (w.alloc (.cells #[.iface T z, .int .i64 A, .int .i64 B, .int .i64 C, .int .i64 D, .int .i64 A', .int .i64 B', .int .i64 C', .int .i64 D'] 64)) → (w'.cell? ⟨w.heap.size, 0, none⟩ = some (.iface T z) ∧ w'.cell? ⟨w.heap.size, 1, none⟩ = some (.int .i64 A) ∧ w'.cell? ⟨w.heap.size, 2, none⟩ = some (.int .i64 B) ∧ w'.cell? ⟨w.heap.size, 3, none⟩ = some (.int .i64 C) ∧ w'.cell? ⟨w.heap.size, 4, none⟩ = some (.int .i64 D) ∧ w'.cell? ⟨w.heap.size, 5, none⟩ = some (.int .i64 A') ∧ w'.cell? ⟨w.heap.size, 6, none⟩ = some (.int .i64 B') ∧ w'.cell? ⟨w.heap.size, 7, none⟩ = some (.int .i64 C') ∧ w'.cell? ⟨w.heap.size, 8, none⟩ = some (.int .i64 D') ∧ Hid (Below w.heap.size w w')) := by
    intro w' hw
    subst hw
    refine ⟨by go_simp, by go_simp, by go_simp, by go_simp, by go_simp, by go_simp, by go_simp, by go_simp, by go_simp, Lib.hid (box_b _ _)⟩
  go_enter Tryz.func42, Tryz.ntmps42
  go_wp2_with fail
  obtain ⟨W1, hW1⟩ : ∃ W1, (w.alloc (.cells #[.iface T z, .int .i64 A, .int .i64 B, .int .i64 C, .int .i64 D, .int .i64 A', .int .i64 B', .int .i64 C', .int .i64 D'] 64)) = W1 := ⟨_, rfl⟩
  obtain ⟨s0, s1, s2, s3, s4, s5, s6, s7, s8, HB⟩ := hS W1 hW1.symm
  rw [hW1]
  clear hW1 hS
  go_region_held3 (fun w' => w'.cell? ⟨w.heap.size, 0, none⟩ = some (.iface T z) ∧ w'.cell? ⟨w.heap.size, 1, none⟩ = some (.int .i64 A) ∧ w'.cell? ⟨w.heap.size, 2, none⟩ = some (.int .i64 B) ∧ w'.cell? ⟨w.heap.size, 3, none⟩ = some (.int .i64 C) ∧ w'.cell? ⟨w.heap.size, 4, none⟩ = some (.int .i64 D) ∧ w'.cell? ⟨w.heap.size, 5, none⟩ = some (.int .i64 A') ∧ w'.cell? ⟨w.heap.size, 6, none⟩ = some (.int .i64 B') ∧ w'.cell? ⟨w.heap.size, 7, none⟩ = some (.int .i64 C') ∧ w'.cell? ⟨w.heap.size, 8, none⟩ = some (.int .i64 D') ∧ Hid (Below w.heap.size w w'))
    (first
      | (go_split_ands; exact ⟨by with_reducible assumption, by with_reducible assumption, by with_reducible assumption, by with_reducible assumption, by with_reducible assumption, by with_reducible assumption, by with_reducible assumption, by with_reducible assumption, by with_reducible assumption, by with_reducible assumption⟩)
      | (go_split_ands; exact ⟨cell_drew s0, cell_drew s1, cell_drew s2, cell_drew s3, cell_drew s4, cell_drew s5, cell_drew s6, cell_drew s7, cell_drew s8, Lib.hid (Below.drew HB.out)⟩)
      | (go_split_ands; exact ⟨keep2 hb (by with_reducible assumption), keep2 hb (by with_reducible assumption), keep2 hb (by with_reducible assumption), keep2 hb (by with_reducible assumption), keep2 hb (by with_reducible assumption), keep2 hb (by with_reducible assumption), keep2 hb (by with_reducible assumption), keep2 hb (by with_reducible assumption), keep2 hb (by with_reducible assumption), Lib.hid (Below.trans (Hid.out (by with_reducible assumption)) (Below.mono hb (Below.size (Hid.out (by with_reducible assumption)))))⟩)
      | fail)
    (first
      | (go_split_ands; go_at_call 70; ((with_reducible refine (CN.out _).mono ?_); rintro e w' ⟨rfl, hb⟩))
      | (go_split_ands; go_at_call 69; ((with_reducible refine (CU.out _).mono ?_); rintro e w' ⟨rfl, hb⟩))
      | fail)
  all_goals
    go_split_ands
    go_wp2_with fail
    go_ret
    exact ⟨rfl, Hid.out (by with_reducible assumption)⟩

set_option maxHeartbeats 4000000 in
theorem cpre_any (T : TypeId) (z : Value) (A B C D A' B' C' D' N M : Int) (b : Int) (w : World) (hN : ∀ W, Calls Tryz.prog 70 #[cvr (.iface T z) A B C D A' B' C' D'] W fun e w' => e = .returned (.int .i64 N) ∧ Below W.heap.size W w') (hM : ∀ W, Calls Tryz.prog 129 #[cvr (.iface T z) A B C D A' B' C' D'] W fun e w' => e = .returned (.int .i64 M) ∧ Below W.heap.size W w')
    (b0 : 0 ≤ b) (b1 : b ≤ 1000000000000) (n0 : 0 ≤ N) (n1 : N ≤ 1000000000000000000) (a0 : 1 ≤ M) (a1 : M ≤ 1000000000000000000) (hq : b * N / M ≤ 100000000000000000) :
    Calls Tryz.prog 114 #[cvr (.iface T z) A B C D A' B' C' D', .int .i64 b] w fun e w' => e = .returned (.int .i64 (upV b N M)) ∧ Below w.heap.size w w' := by
  have CU := Lib.hid (fun W => tu_any b N M W b0 b1 n0 n1 a0 a1 hq)
  have CN := Lib.hid hN
  have CM := Lib.hid hM
  clear hM
  obtain ⟨U, hU⟩ : ∃ y_, upV b N M = y_ := ⟨_, rfl⟩
  rw [hU] at CU ⊢
  clear hU hq hN
  unfold cvr at *
  have hS : ∀ w', w' = (w.alloc (.cells #[.iface T z, .int .i64 A, .int .i64 B, .int .i64 C, .int .i64 D, .int .i64 A', .int .i64 B', .int .i64 C', .int .i64 D'] 64)) → (w'.cell? ⟨w.heap.size, 0, none⟩ = some (.iface T z) ∧ w'.cell? ⟨w.heap.size, 1, none⟩ = some (.int .i64 A) ∧ w'.cell? ⟨w.heap.size, 2, none⟩ = some (.int .i64 B) ∧ w'.cell? ⟨w.heap.size, 3, none⟩ = some (.int .i64 C) ∧ w'.cell? ⟨w.heap.size, 4, none⟩ = some (.int .i64 D) ∧ w'.cell? ⟨w.heap.size, 5, none⟩ = some (.int .i64 A') ∧ w'.cell? ⟨w.heap.size, 6, none⟩ = some (.int .i64 B') ∧ w'.cell? ⟨w.heap.size, 7, none⟩ = some (.int .i64 C') ∧ w'.cell? ⟨w.heap.size, 8, none⟩ = some (.int .i64 D') ∧ Hid (Below w.heap.size w w')) := by
    intro w' hw
    subst hw
    refine ⟨by go_simp, by go_simp, by go_simp, by go_simp, by go_simp, by go_simp, by go_simp, by go_simp, by go_simp, Lib.hid (box_b _ _)⟩
  go_enter Tryz.func114, Tryz.ntmps114
  go_wp2_with fail
  obtain ⟨W1, hW1⟩ : ∃ W1, (w.alloc (.cells #[.iface T z, .int .i64 A, .int .i64 B, .int .i64 C, .int .i64 D, .int .i64 A', .int .i64 B', .int .i64 C', .int .i64 D'] 64)) = W1 := ⟨_, rfl⟩
  obtain ⟨s0, s1, s2, s3, s4, s5, s6, s7, s8, HB⟩ := hS W1 hW1.symm
  rw [hW1]
  clear hW1 hS
  go_region_held3 (fun w' => w'.cell? ⟨w.heap.size, 0, none⟩ = some (.iface T z) ∧ w'.cell? ⟨w.heap.size, 1, none⟩ = some (.int .i64 A) ∧ w'.cell? ⟨w.heap.size, 2, none⟩ = some (.int .i64 B) ∧ w'.cell? ⟨w.heap.size, 3, none⟩ = some (.int .i64 C) ∧ w'.cell? ⟨w.heap.size, 4, none⟩ = some (.int .i64 D) ∧ w'.cell? ⟨w.heap.size, 5, none⟩ = some (.int .i64 A') ∧ w'.cell? ⟨w.heap.size, 6, none⟩ = some (.int .i64 B') ∧ w'.cell? ⟨w.heap.size, 7, none⟩ = some (.int .i64 C') ∧ w'.cell? ⟨w.heap.size, 8, none⟩ = some (.int .i64 D') ∧ Hid (Below w.heap.size w w'))
    (first
      | (go_split_ands; exact ⟨by with_reducible assumption, by with_reducible assumption, by with_reducible assumption, by with_reducible assumption, by with_reducible assumption, by with_reducible assumption, by with_reducible assumption, by with_reducible assumption, by with_reducible assumption, by with_reducible assumption⟩)
      | (go_split_ands; exact ⟨cell_drew s0, cell_drew s1, cell_drew s2, cell_drew s3, cell_drew s4, cell_drew s5, cell_drew s6, cell_drew s7, cell_drew s8, Lib.hid (Below.drew HB.out)⟩)
      | (go_split_ands; exact ⟨keep2 hb (by with_reducible assumption), keep2 hb (by with_reducible assumption), keep2 hb (by with_reducible assumption), keep2 hb (by with_reducible assumption), keep2 hb (by with_reducible assumption), keep2 hb (by with_reducible assumption), keep2 hb (by with_reducible assumption), keep2 hb (by with_reducible assumption), keep2 hb (by with_reducible assumption), Lib.hid (Below.trans (Hid.out (by with_reducible assumption)) (Below.mono hb (Below.size (Hid.out (by with_reducible assumption)))))⟩)
      | fail)
    (first
      | (go_split_ands; go_at_call 70; ((with_reducible refine (CN.out _).mono ?_); rintro e w' ⟨rfl, hb⟩))
      | (go_split_ands; go_at_call 129; ((with_reducible refine (CM.out _).mono ?_); rintro e w' ⟨rfl, hb⟩))
      | (go_split_ands; go_at_call 69; ((with_reducible refine (CU.out _).mono ?_); rintro e w' ⟨rfl, hb⟩))
      | fail)
  all_goals
    go_split_ands
    go_wp2_with fail
    go_ret
    exact ⟨rfl, Hid.out (by with_reducible assumption)⟩

/-- a block that holds a cover -/
def Q9 (w : World) (Q : Nat) (V : Value) (A B C D A' B' C' D' : Int) : Prop := w.heap[Q]? = some (.cells #[V, .int .i64 A, .int .i64 B, .int .i64 C, .int .i64 D, .int .i64 A', .int .i64 B', .int .i64 C', .int .i64 D'] 64 (0, 0))

theorem q9_new (X : World) (V : Value) (A B C D A' B' C' D' : Int) : Q9 (X.alloc (.cells #[V, .int .i64 A, .int .i64 B, .int .i64 C, .int .i64 D, .int .i64 A', .int .i64 B', .int .i64 C', .int .i64 D'] 64)) X.heap.size V A B C D A' B' C' D' := heap_alloc_new _ _

theorem Q9.same {w w' : World} {Q : Nat} {V : Value} {A B C D A' B' C' D' : Int} (h : Q9 w Q V A B C D A' B' C' D') (hb : w'.heap[Q]? = w.heap[Q]?) : Q9 w' Q V A B C D A' B' C' D' := by
  unfold Q9 at h ⊢; rw [hb, h]

theorem Q9.lt {w : World} {Q : Nat} {V : Value} {A B C D A' B' C' D' : Int} (h : Q9 w Q V A B C D A' B' C' D') : Q < w.heap.size := by
  unfold Q9 at h
  by_cases hb : Q < w.heap.size
  · exact hb
  · have : w.heap[Q]? = none := by simp; omega
    rw [this] at h; cases h

theorem Q9.on {w w' : World} {Q : Nat} {V : Value} {A B C D A' B' C' D' : Int} (h : Q9 w Q V A B C D A' B' C' D') (hb : Below w.heap.size w w') : Q9 w' Q V A B C D A' B' C' D' := h.same (hb.block _ h.lt)

theorem Q9.cell {w : World} {Q : Nat} {V : Value} {A B C D A' B' C' D' : Int} (h : Q9 w Q V A B C D A' B' C' D') : w.cell? ⟨Q, 0, none⟩ = some (V) ∧ w.cell? ⟨Q, 1, none⟩ = some (.int .i64 A) ∧ w.cell? ⟨Q, 2, none⟩ = some (.int .i64 B) ∧ w.cell? ⟨Q, 3, none⟩ = some (.int .i64 C) ∧ w.cell? ⟨Q, 4, none⟩ = some (.int .i64 D) ∧ w.cell? ⟨Q, 5, none⟩ = some (.int .i64 A') ∧ w.cell? ⟨Q, 6, none⟩ = some (.int .i64 B') ∧ w.cell? ⟨Q, 7, none⟩ = some (.int .i64 C') ∧ w.cell? ⟨Q, 8, none⟩ = some (.int .i64 D') := by
  unfold Q9 at h
  simp [World.cell?, h]

theorem Q9.free {w : World} {Q : Nat} {V : Value} {A B C D A' B' C' D' : Int} (h : Q9 w Q V A B C D A' B' C' D') (i : Nat) : w.frozen? ⟨Q, i, none⟩ = false := by
  unfold Q9 at h
  simp [World.frozen?, h]

theorem Q4.on {w w' : World} {B : Nat} {a b c d : Int} (h : Q4 w B a b c d) (hb : Below w.heap.size w w') : Q4 w' B a b c d := h.same (hb.block _ h.lt)

theorem build_cv (T : TypeId) (z : Value) (A B C D A' B' C' D' : Int) (W : World) : (Instr.build 64 #[(0, .iface T z), (1, .agg #[.int .i64 A, .int .i64 B, .int .i64 C, .int .i64 D]), (2, .agg #[.int .i64 A', .int .i64 B', .int .i64 C', .int .i64 D'])]).run Tryz.prog W = .ok (.agg #[.iface T z, .int .i64 A, .int .i64 B, .int .i64 C, .int .i64 D, .int .i64 A', .int .i64 B', .int .i64 C', .int .i64 D']) W := by kernel_rfl

theorem Q9.set9 {w : World} {Q : Nat} {V : Value} {A B C D A' B' C' D' : Int} (h : Q9 w Q V A B C D A' B' C' D') (U : Value) (x0 x1 x2 x3 x4 x5 x6 x7 : Int) : Q9 (((((((((w.setCell ⟨Q, 0, none⟩ (U)).setCell ⟨Q, 1, none⟩ (.int .i64 x0)).setCell ⟨Q, 2, none⟩ (.int .i64 x1)).setCell ⟨Q, 3, none⟩ (.int .i64 x2)).setCell ⟨Q, 4, none⟩ (.int .i64 x3)).setCell ⟨Q, 5, none⟩ (.int .i64 x4)).setCell ⟨Q, 6, none⟩ (.int .i64 x5)).setCell ⟨Q, 7, none⟩ (.int .i64 x6)).setCell ⟨Q, 8, none⟩ (.int .i64 x7)) Q U x0 x1 x2 x3 x4 x5 x6 x7 := by
  have hl := h.lt
  unfold Q9 at h ⊢
  rw [Array.getElem?_eq_getElem hl] at h
  have h' : w.heap[Q] = .cells #[V, .int .i64 A, .int .i64 B, .int .i64 C, .int .i64 D, .int .i64 A', .int .i64 B', .int .i64 C', .int .i64 D'] 64 (0, 0) := by simpa using h
  simp [World.setCell, Array.getElem?_modify, Array.getElem?_eq_getElem hl, h']

/-- above w the heap is new; its block K holds a cover -/
def P9 (w : World) (K : Nat) (w' : World) : Prop := Below w.heap.size w w' ∧ ∃ V x0 x1 x2 x3 x4 x5 x6 x7, Q9 w' K V x0 x1 x2 x3 x4 x5 x6 x7

theorem P9.on {w : World} {K : Nat} {w1 w2 : World} (h : P9 w K w1) (hb : Below w1.heap.size w1 w2) : P9 w K w2 := by
  obtain ⟨a, V, x0, x1, x2, x3, x4, x5, x6, x7, q⟩ := h
  exact ⟨a.trans (hb.mono a.size), V, x0, x1, x2, x3, x4, x5, x6, x7, q.on hb⟩

theorem P9.drew {w : World} {K : Nat} {w1 : World} (h : P9 w K w1) : P9 w K w1.drew := by
  obtain ⟨a, V, x0, x1, x2, x3, x4, x5, x6, x7, q⟩ := h
  exact ⟨a.drew, V, x0, x1, x2, x3, x4, x5, x6, x7, q⟩

/-- the cells of a cover's block, to be written -/
structure F9 (w : World) (K : Nat) (V : Value) (x0 x1 x2 x3 x4 x5 x6 x7 : Int) : Prop where
  c0 : w.cell? ⟨K, 0, none⟩ = some V
  c1 : w.cell? ⟨K, 1, none⟩ = some (.int .i64 x0)
  c2 : w.cell? ⟨K, 2, none⟩ = some (.int .i64 x1)
  c3 : w.cell? ⟨K, 3, none⟩ = some (.int .i64 x2)
  c4 : w.cell? ⟨K, 4, none⟩ = some (.int .i64 x3)
  c5 : w.cell? ⟨K, 5, none⟩ = some (.int .i64 x4)
  c6 : w.cell? ⟨K, 6, none⟩ = some (.int .i64 x5)
  c7 : w.cell? ⟨K, 7, none⟩ = some (.int .i64 x6)
  c8 : w.cell? ⟨K, 8, none⟩ = some (.int .i64 x7)
  m0 : w.frozen? ⟨K, 0, none⟩ = false
  m1 : w.frozen? ⟨K, 1, none⟩ = false
  m2 : w.frozen? ⟨K, 2, none⟩ = false
  m3 : w.frozen? ⟨K, 3, none⟩ = false
  m4 : w.frozen? ⟨K, 4, none⟩ = false
  m5 : w.frozen? ⟨K, 5, none⟩ = false
  m6 : w.frozen? ⟨K, 6, none⟩ = false
  m7 : w.frozen? ⟨K, 7, none⟩ = false
  m8 : w.frozen? ⟨K, 8, none⟩ = false

theorem Q9.f9 {w : World} {K : Nat} {V : Value} {x0 x1 x2 x3 x4 x5 x6 x7 : Int} (h : Q9 w K V x0 x1 x2 x3 x4 x5 x6 x7) : F9 w K V x0 x1 x2 x3 x4 x5 x6 x7 := by
  obtain ⟨k0, k1, k2, k3, k4, k5, k6, k7, k8⟩ := h.cell
  exact ⟨k0, k1, k2, k3, k4, k5, k6, k7, k8, h.free 0, h.free 1, h.free 2, h.free 3, h.free 4, h.free 5, h.free 6, h.free 7, h.free 8⟩

theorem keep9 {w w' : World} {N K : Nat} {U : Value} {a b c d x0 x1 x2 x3 x4 x5 x6 x7 : Int} (h0 : w'.cell? ⟨N, 0, none⟩ = some (.int .i64 a)) (h1 : w'.cell? ⟨N, 1, none⟩ = some (.int .i64 b)) (h2 : w'.cell? ⟨N, 2, none⟩ = some (.int .i64 c)) (h3 : w'.cell? ⟨N, 3, none⟩ = some (.int .i64 d)) (hp : Hid (P9 w K w')) (hn : N ≠ K) (hk : w.heap.size ≤ K) :
    (((((((((w'.setCell ⟨K, 0, none⟩ (U)).setCell ⟨K, 1, none⟩ (.int .i64 x0)).setCell ⟨K, 2, none⟩ (.int .i64 x1)).setCell ⟨K, 3, none⟩ (.int .i64 x2)).setCell ⟨K, 4, none⟩ (.int .i64 x3)).setCell ⟨K, 5, none⟩ (.int .i64 x4)).setCell ⟨K, 6, none⟩ (.int .i64 x5)).setCell ⟨K, 7, none⟩ (.int .i64 x6)).setCell ⟨K, 8, none⟩ (.int .i64 x7)).cell? ⟨N, 0, none⟩ = some (.int .i64 a) ∧ (((((((((w'.setCell ⟨K, 0, none⟩ (U)).setCell ⟨K, 1, none⟩ (.int .i64 x0)).setCell ⟨K, 2, none⟩ (.int .i64 x1)).setCell ⟨K, 3, none⟩ (.int .i64 x2)).setCell ⟨K, 4, none⟩ (.int .i64 x3)).setCell ⟨K, 5, none⟩ (.int .i64 x4)).setCell ⟨K, 6, none⟩ (.int .i64 x5)).setCell ⟨K, 7, none⟩ (.int .i64 x6)).setCell ⟨K, 8, none⟩ (.int .i64 x7)).cell? ⟨N, 1, none⟩ = some (.int .i64 b) ∧ (((((((((w'.setCell ⟨K, 0, none⟩ (U)).setCell ⟨K, 1, none⟩ (.int .i64 x0)).setCell ⟨K, 2, none⟩ (.int .i64 x1)).setCell ⟨K, 3, none⟩ (.int .i64 x2)).setCell ⟨K, 4, none⟩ (.int .i64 x3)).setCell ⟨K, 5, none⟩ (.int .i64 x4)).setCell ⟨K, 6, none⟩ (.int .i64 x5)).setCell ⟨K, 7, none⟩ (.int .i64 x6)).setCell ⟨K, 8, none⟩ (.int .i64 x7)).cell? ⟨N, 2, none⟩ = some (.int .i64 c) ∧ (((((((((w'.setCell ⟨K, 0, none⟩ (U)).setCell ⟨K, 1, none⟩ (.int .i64 x0)).setCell ⟨K, 2, none⟩ (.int .i64 x1)).setCell ⟨K, 3, none⟩ (.int .i64 x2)).setCell ⟨K, 4, none⟩ (.int .i64 x3)).setCell ⟨K, 5, none⟩ (.int .i64 x4)).setCell ⟨K, 6, none⟩ (.int .i64 x5)).setCell ⟨K, 7, none⟩ (.int .i64 x6)).setCell ⟨K, 8, none⟩ (.int .i64 x7)).cell? ⟨N, 3, none⟩ = some (.int .i64 d) ∧ Hid (P9 w K (((((((((w'.setCell ⟨K, 0, none⟩ (U)).setCell ⟨K, 1, none⟩ (.int .i64 x0)).setCell ⟨K, 2, none⟩ (.int .i64 x1)).setCell ⟨K, 3, none⟩ (.int .i64 x2)).setCell ⟨K, 4, none⟩ (.int .i64 x3)).setCell ⟨K, 5, none⟩ (.int .i64 x4)).setCell ⟨K, 6, none⟩ (.int .i64 x5)).setCell ⟨K, 7, none⟩ (.int .i64 x6)).setCell ⟨K, 8, none⟩ (.int .i64 x7))) := by
  have far : (((((((((w'.setCell ⟨K, 0, none⟩ (U)).setCell ⟨K, 1, none⟩ (.int .i64 x0)).setCell ⟨K, 2, none⟩ (.int .i64 x1)).setCell ⟨K, 3, none⟩ (.int .i64 x2)).setCell ⟨K, 4, none⟩ (.int .i64 x3)).setCell ⟨K, 5, none⟩ (.int .i64 x4)).setCell ⟨K, 6, none⟩ (.int .i64 x5)).setCell ⟨K, 7, none⟩ (.int .i64 x6)).setCell ⟨K, 8, none⟩ (.int .i64 x7)).heap[N]? = w'.heap[N]? := by
    rw [heap_setCell_far _ _ _ _ hn, heap_setCell_far _ _ _ _ hn, heap_setCell_far _ _ _ _ hn, heap_setCell_far _ _ _ _ hn, heap_setCell_far _ _ _ _ hn, heap_setCell_far _ _ _ _ hn, heap_setCell_far _ _ _ _ hn, heap_setCell_far _ _ _ _ hn, heap_setCell_far _ _ _ _ hn]
  obtain ⟨hb, V, y0, y1, y2, y3, y4, y5, y6, y7, hq⟩ := hp.out
  refine ⟨(World.cell?_of_block (w := w') (a := ⟨N, 0, none⟩) far).trans h0, (World.cell?_of_block (w := w') (a := ⟨N, 1, none⟩) far).trans h1, (World.cell?_of_block (w := w') (a := ⟨N, 2, none⟩) far).trans h2, (World.cell?_of_block (w := w') (a := ⟨N, 3, none⟩) far).trans h3, Lib.hid ⟨?_, U, x0, x1, x2, x3, x4, x5, x6, x7, hq.set9 U x0 x1 x2 x3 x4 x5 x6 x7⟩⟩
  exact (((((((((hb.setCell (p := ⟨K, 0, none⟩) hk _).setCell (p := ⟨K, 1, none⟩) hk _).setCell (p := ⟨K, 2, none⟩) hk _).setCell (p := ⟨K, 3, none⟩) hk _).setCell (p := ⟨K, 4, none⟩) hk _).setCell (p := ⟨K, 5, none⟩) hk _).setCell (p := ⟨K, 6, none⟩) hk _).setCell (p := ⟨K, 7, none⟩) hk _).setCell (p := ⟨K, 8, none⟩) hk _)

/-- what a cover at an age is: E is its code -/
def CvPost (V : Value) (A B C D A' B' C' D' E : Int) (w : World) (e : Ending) (w' : World) : Prop := e = .returned (.tuple #[cvr V A B C D A' B' C' D', .int .i64 E]) ∧ Below w.heap.size w w'

set_option maxHeartbeats 1000000 in
theorem cvz_any (T : TypeId) (z : Value) (r f : Int) (xs : List Int) (v : Value) (R : Nat) (x n : Int) (w : World) (h : Cols w R r f xs v) (f0 : 0 ≤ f) (x0 : f ≤ x) (x1 : x ≤ 150) (hd : cD r xs (x - f).toNat = 0) :
    Calls Tryz.prog 68 #[.pointer (some ⟨R, 0, none⟩), .iface T z, .int .i64 x, .int .i64 n] w (CvPost .nilIface 0 0 0 0 0 0 0 0 5 w) := by
  have H1 : Hid (∀ W, Hid (Below w.heap.size w W) → Calls Tryz.prog 88 #[.pointer (some ⟨R, 2, none⟩), .int .i64 x] W fun e w' => e = .returned (.agg #[.int .i64 (cD r xs (x - f).toNat), .int .i64 (cN r xs (x - f).toNat), .int .i64 (cC r xs (x - f).toNat), .int .i64 (cM r xs (x - f).toNat)]) ∧ Below W.heap.size W w') :=
    Lib.hid (fun W hW => at_cols r f xs v R x W (h.on hW.out) f0 x0 x1)
  obtain ⟨B, hB⟩ : ∃ y_, cN r xs (x - f).toNat = y_ := ⟨_, rfl⟩
  obtain ⟨C, hC⟩ : ∃ y_, cC r xs (x - f).toNat = y_ := ⟨_, rfl⟩
  obtain ⟨D, hD⟩ : ∃ y_, cM r xs (x - f).toNat = y_ := ⟨_, rfl⟩
  rw [hd, hB, hC, hD] at H1
  clear hB hC hD h hd
  unfold CvPost cvr
  have hq : Q9 (w.alloc (.cells #[.nilIface, .int .i64 0, .int .i64 0, .int .i64 0, .int .i64 0, .int .i64 0, .int .i64 0, .int .i64 0, .int .i64 0] 64)) w.heap.size .nilIface 0 0 0 0 0 0 0 0 := q9_new _ _ 0 0 0 0 0 0 0 0
  have HB0 : Hid (Below w.heap.size w (w.alloc (.cells #[.nilIface, .int .i64 0, .int .i64 0, .int .i64 0, .int .i64 0, .int .i64 0, .int .i64 0, .int .i64 0, .int .i64 0] 64))) := Lib.hid (box_b _ _)
  have HQ0 := Lib.hid hq
  clear hq
  go_enter Tryz.func68, Tryz.ntmps68
  go_wp2_with fail
  with_reducible refine (H1.out _ HB0).mono ?_
  rintro e w1 ⟨rfl, hb⟩
  have hq := (HQ0.out.on hb).on (box_b w1 (.cells #[.int .i64 0, .int .i64 B, .int .i64 C, .int .i64 D] 62))
  have HB1 : Hid (Below w.heap.size w (w1.alloc (.cells #[.int .i64 0, .int .i64 B, .int .i64 C, .int .i64 D] 62))) := Lib.hid ((HB0.out.trans (hb.mono HB0.out.size)).alloc (by have := (HQ0.out.on hb).lt; omega) _)
  obtain ⟨c0, c1, c2, c3, c4, c5, c6, c7, c8, m0, m1, m2, m3, m4, m5, m6, m7, m8⟩ := hq.f9
  clear hb HB0 HQ0 hq
  go_wp2_with fail
  refine bodyPost_ret (v := .tuple #[.agg #[.nilIface, .int .i64 0, .int .i64 0, .int .i64 0, .int .i64 0, .int .i64 0, .int .i64 0, .int .i64 0, .int .i64 0], .int .i64 5]) ?_ rfl ⟨rfl, ?_⟩
  · simp [results, Tryz.results68, go_sem, c0, c1, c2, c3, c4, c5, c6, c7, c8]
  · exact (((((((((HB1.out.setCell (p := ⟨w.heap.size, 0, none⟩) (Nat.le_refl _) _).setCell (p := ⟨w.heap.size, 1, none⟩) (Nat.le_refl _) _).setCell (p := ⟨w.heap.size, 2, none⟩) (Nat.le_refl _) _).setCell (p := ⟨w.heap.size, 3, none⟩) (Nat.le_refl _) _).setCell (p := ⟨w.heap.size, 4, none⟩) (Nat.le_refl _) _).setCell (p := ⟨w.heap.size, 5, none⟩) (Nat.le_refl _) _).setCell (p := ⟨w.heap.size, 6, none⟩) (Nat.le_refl _) _).setCell (p := ⟨w.heap.size, 7, none⟩) (Nat.le_refl _) _).setCell (p := ⟨w.heap.size, 8, none⟩) (Nat.le_refl _) _)


set_option maxHeartbeats 8000000 in
theorem cva_any (T : TypeId) (z : Value) (r f : Int) (xs : List Int) (v : Value) (R : Nat) (x n : Int) (w : World) (h : Cols w R r f xs v) (f0 : 0 ≤ f) (x0 : f ≤ x) (n0 : 0 ≤ n) (xn : x + n ≤ 150) (hd : cD r xs (x - f).toNat ≠ 0) :
    Calls Tryz.prog 68 #[.pointer (some ⟨R, 0, none⟩), .iface T z, .int .i64 x, .int .i64 n] w (CvPost (.iface T z) (cD r xs (x - f).toNat) (cN r xs (x - f).toNat) (cC r xs (x - f).toNat) (cM r xs (x - f).toNat) (cD r xs (x + n - f).toNat) (cN r xs (x + n - f).toNat) (cC r xs (x + n - f).toNat) (cM r xs (x + n - f).toNat) 0 w) := by
  have H1 : Hid (∀ W, Hid (Below w.heap.size w W) → Calls Tryz.prog 88 #[.pointer (some ⟨R, 2, none⟩), .int .i64 x] W fun e w' => e = .returned (.agg #[.int .i64 (cD r xs (x - f).toNat), .int .i64 (cN r xs (x - f).toNat), .int .i64 (cC r xs (x - f).toNat), .int .i64 (cM r xs (x - f).toNat)]) ∧ Below W.heap.size W w') :=
    Lib.hid (fun W hW => at_cols r f xs v R x W (h.on hW.out) f0 x0 (by omega))
  have H2 : Hid (∀ W, Hid (Below w.heap.size w W) → Calls Tryz.prog 88 #[.pointer (some ⟨R, 2, none⟩), .int .i64 (x + n)] W fun e w' => e = .returned (.agg #[.int .i64 (cD r xs (x + n - f).toNat), .int .i64 (cN r xs (x + n - f).toNat), .int .i64 (cC r xs (x + n - f).toNat), .int .i64 (cM r xs (x + n - f).toNat)]) ∧ Below W.heap.size W w') :=
    Lib.hid (fun W hW => at_cols r f xs v R (x + n) W (h.on hW.out) f0 (by omega) xn)
  obtain ⟨A, hA⟩ : ∃ y_, cD r xs (x - f).toNat = y_ := ⟨_, rfl⟩
  obtain ⟨B, hB⟩ : ∃ y_, cN r xs (x - f).toNat = y_ := ⟨_, rfl⟩
  obtain ⟨C, hC⟩ : ∃ y_, cC r xs (x - f).toNat = y_ := ⟨_, rfl⟩
  obtain ⟨D, hD⟩ : ∃ y_, cM r xs (x - f).toNat = y_ := ⟨_, rfl⟩
  rw [hA, hB, hC, hD] at H1 ⊢
  rw [hA] at hd
  clear hA hB hC hD
  obtain ⟨A', hA⟩ : ∃ y_, cD r xs (x + n - f).toNat = y_ := ⟨_, rfl⟩
  obtain ⟨B', hB⟩ : ∃ y_, cN r xs (x + n - f).toNat = y_ := ⟨_, rfl⟩
  obtain ⟨C', hC⟩ : ∃ y_, cC r xs (x + n - f).toNat = y_ := ⟨_, rfl⟩
  obtain ⟨D', hD⟩ : ∃ y_, cM r xs (x + n - f).toNat = y_ := ⟨_, rfl⟩
  rw [hA, hB, hC, hD] at H2 ⊢
  have q1 : IntKind.i64.wrap (x + n) = x + n := IntWalk.i64_in _ (by omega)
  have hd2 : (A == 0) = false := by simp [hd]
  clear hA hB hC hD h hd
  unfold CvPost cvr
  have hq : Q9 (w.alloc (.cells #[.nilIface, .int .i64 0, .int .i64 0, .int .i64 0, .int .i64 0, .int .i64 0, .int .i64 0, .int .i64 0, .int .i64 0] 64)) w.heap.size .nilIface 0 0 0 0 0 0 0 0 := q9_new _ _ 0 0 0 0 0 0 0 0
  have HB0 : Hid (Below w.heap.size w (w.alloc (.cells #[.nilIface, .int .i64 0, .int .i64 0, .int .i64 0, .int .i64 0, .int .i64 0, .int .i64 0, .int .i64 0, .int .i64 0] 64))) := Lib.hid (box_b _ _)
  have HQ0 := Lib.hid hq
  clear hq
  go_enter Tryz.func68, Tryz.ntmps68
  go_wp2_with fail
  with_reducible refine (H1.out _ HB0).mono ?_
  rintro e w1 ⟨rfl, hb⟩
  have HB1 := Lib.hid (HB0.out.trans (hb.mono HB0.out.size))
  have HQ1 := Lib.hid (HQ0.out.on hb)
  clear hb HB0 HQ0
  go_wp2_with fail
  have hbu := build_cv T z A B C D A' B' C' D'
  have hKN : w.heap.size < w1.heap.size := HQ1.out.lt
  have hNK : w1.heap.size ≠ w.heap.size := by omega
  have HP : Hid (P9 w w.heap.size (w1.alloc (.cells #[.int .i64 A, .int .i64 B, .int .i64 C, .int .i64 D] 62))) := Lib.hid ⟨HB1.out.alloc (by omega) _, _, _, _, _, _, _, _, _, _, HQ1.out.on (box_b _ _)⟩
  obtain ⟨s0, s1, s2, s3⟩ := (q4_new w1 A B C D).cell
  have HC : Hid (∀ W, Hid (P9 w w.heap.size W) → Calls Tryz.prog 88 #[.pointer (some ⟨R, 2, none⟩), .int .i64 (x + n)] W fun e w' => e = .returned (.agg #[.int .i64 A', .int .i64 B', .int .i64 C', .int .i64 D']) ∧ Below W.heap.size W w' ∧ ∃ V x0 x1 x2 x3 x4 x5 x6 x7, F9 w' w.heap.size V x0 x1 x2 x3 x4 x5 x6 x7) :=
    Lib.hid (fun W hW => (H2.out W (Lib.hid hW.out.1)).mono (fun e w' he => by
      obtain ⟨-, V, x0, x1, x2, x3, x4, x5, x6, x7, q⟩ := hW.out.on he.2
      exact ⟨he.1, he.2, V, x0, x1, x2, x3, x4, x5, x6, x7, q.f9⟩))
  obtain ⟨W2, hW2⟩ : ∃ W2, w1.alloc (.cells #[.int .i64 A, .int .i64 B, .int .i64 C, .int .i64 D] 62) = W2 := ⟨_, rfl⟩
  rw [hW2] at HP s0 s1 s2 s3 ⊢
  clear hW2 H1 H2 HB1 HQ1
  obtain ⟨N, hN⟩ : ∃ N, w1.heap.size = N := ⟨_, rfl⟩
  rw [hN] at hKN hNK s0 s1 s2 s3 ⊢
  clear hN
  obtain ⟨K, hK⟩ : ∃ K, w.heap.size = K := ⟨_, rfl⟩
  have HKW : Hid (w.heap.size ≤ K) := Lib.hid (by omega)
  rw [hK] at HP HC hKN hNK ⊢
  go_region_held3 (fun w' => w'.cell? ⟨N, 0, none⟩ = some (.int .i64 A) ∧ w'.cell? ⟨N, 1, none⟩ = some (.int .i64 B) ∧ w'.cell? ⟨N, 2, none⟩ = some (.int .i64 C) ∧ w'.cell? ⟨N, 3, none⟩ = some (.int .i64 D) ∧ Hid (P9 w K w'))
    (first
      | (go_split_ands; exact ⟨by with_reducible assumption, by with_reducible assumption, by with_reducible assumption, by with_reducible assumption, by with_reducible assumption⟩)
      | (go_split_ands; with_reducible exact keep9 (by with_reducible assumption) (by with_reducible assumption) (by with_reducible assumption) (by with_reducible assumption) (by with_reducible assumption) hNK HKW.out)
      | (go_split_ands; with_reducible exact ⟨keep2 hb (by with_reducible assumption), keep2 hb (by with_reducible assumption), keep2 hb (by with_reducible assumption), keep2 hb (by with_reducible assumption), Lib.hid (P9.on (Hid.out (by with_reducible assumption)) hb)⟩)
      | (go_split_ands; with_reducible exact ⟨cell_drew s0, cell_drew s1, cell_drew s2, cell_drew s3, Lib.hid (P9.drew HP.out)⟩)
      | fail)
    (first
      | (go_split_ands; go_at_call 88; ((with_reducible refine (HC.out _ (by with_reducible assumption)).mono ?_); rintro e w' ⟨rfl, hb, V9, y0, y1, y2, y3, y4, y5, y6, y7, c0, c1, c2, c3, c4, c5, c6, c7, c8, m0, m1, m2, m3, m4, m5, m6, m7, m8⟩))
      | fail)
  all_goals
    go_split_ands
    go_wp2_with fail
    refine bodyPost_ret (v := .tuple #[.agg #[.iface T z, .int .i64 A, .int .i64 B, .int .i64 C, .int .i64 D, .int .i64 A', .int .i64 B', .int .i64 C', .int .i64 D'], .int .i64 0]) ?_ rfl ⟨rfl, ?_⟩
    · simp [results, Tryz.results68, go_sem, c0, c1, c2, c3, c4, c5, c6, c7, c8]
    · exact (Hid.out (by with_reducible assumption : Hid (P9 w K _))).1

theorem kV_in {k : Int} (h : 0 ≤ k ∧ k ≤ 3) : kV k = .iface (kT k) (.agg #[]) := by
  unfold kV; rw [(inB_iff _ _ _).2 h]; rfl

theorem build_cz (W : World) : (Instr.build 64 #[]).run Tryz.prog W = .ok (.agg #[.nilIface, .int .i64 0, .int .i64 0, .int .i64 0, .int .i64 0, .int .i64 0, .int .i64 0, .int .i64 0, .int .i64 0]) W := by kernel_rfl

set_option maxHeartbeats 1000000 in
theorem cvo_err (r f : Int) (xs : List Int) (a : Option Addr) (l c : Nat) (k x n b : Int) (w : World) (h : Ints w a l xs) (hlc : l ≤ c) (hk : akE r f xs x (inB b 1 100000000 && fitB k n) n ≠ 0) :
    Calls Tryz.prog 41 #[.agg #[.int .i64 f, .slice a l c], .int .i64 r, .int .i64 k, .int .i64 x, .int .i64 n, .int .i64 b] w (CvPost .nilIface 0 0 0 0 0 0 0 0 (akE r f xs x (inB b 1 100000000 && fitB k n) n) w) := by
  have CA := Lib.hid (fun W => aof_any k W)
  have CK : Hid (∀ W, Hid (Below w.heap.size w W) → Calls Tryz.prog 66 #[.agg #[.int .i64 f, .slice a l c], .int .i64 r, kV k, .int .i64 x, .int .i64 n, .int .i64 b] W fun e w' => e = .returned (.int .i64 (akE r f xs x (inB b 1 100000000 && fitB k n) n)) ∧ Below W.heap.size W w') :=
    Lib.hid (fun W hW => chka_any r f xs a l c k x n b W (h.on hW.out) hlc)
  obtain ⟨V, hV⟩ : ∃ y_, kV k = y_ := ⟨_, rfl⟩
  rw [hV] at CA CK
  obtain ⟨E, hE⟩ : ∃ y_, akE r f xs x (inB b 1 100000000 && fitB k n) n = y_ := ⟨_, rfl⟩
  rw [hE] at CK hk ⊢
  have hne : (E != 0) = true := by simp [hk]
  clear h hV hE hk
  unfold CvPost cvr
  have hq : Q9 ((w.alloc (.cells #[.int .i64 f, .slice a l c] 26)).alloc (.cells #[.nilIface, .int .i64 0, .int .i64 0, .int .i64 0, .int .i64 0, .int .i64 0, .int .i64 0, .int .i64 0, .int .i64 0] 64)) (w.heap.size + 1) .nilIface 0 0 0 0 0 0 0 0 := by
    have := q9_new (w.alloc (.cells #[.int .i64 f, .slice a l c] 26)) .nilIface 0 0 0 0 0 0 0 0
    rw [World.size_alloc] at this
    exact this
  have HQ0 := Lib.hid hq
  have HB0 : Hid (Below w.heap.size w ((w.alloc (.cells #[.int .i64 f, .slice a l c] 26)).alloc (.cells #[.nilIface, .int .i64 0, .int .i64 0, .int .i64 0, .int .i64 0, .int .i64 0, .int .i64 0, .int .i64 0, .int .i64 0] 64))) := Lib.hid ((box_b _ _).alloc (by simp) _)
  have hc0 : ((w.alloc (.cells #[.int .i64 f, .slice a l c] 26)).alloc (.cells #[.nilIface, .int .i64 0, .int .i64 0, .int .i64 0, .int .i64 0, .int .i64 0, .int .i64 0, .int .i64 0, .int .i64 0] 64)).cell? ⟨w.heap.size, 0, none⟩ = some (.int .i64 f) := by go_simp
  have hc1 : ((w.alloc (.cells #[.int .i64 f, .slice a l c] 26)).alloc (.cells #[.nilIface, .int .i64 0, .int .i64 0, .int .i64 0, .int .i64 0, .int .i64 0, .int .i64 0, .int .i64 0, .int .i64 0] 64)).cell? ⟨w.heap.size, 1, none⟩ = some (.slice a l c) := by go_simp
  clear hq
  go_enter Tryz.func41, Tryz.ntmps41
  go_wp2_with fail
  with_reducible refine (CA.out _).mono ?_
  rintro e w' ⟨rfl, rfl⟩
  obtain ⟨W1, hW1⟩ : ∃ W1, ((w.alloc (.cells #[.int .i64 f, .slice a l c] 26)).alloc (.cells #[.nilIface, .int .i64 0, .int .i64 0, .int .i64 0, .int .i64 0, .int .i64 0, .int .i64 0, .int .i64 0, .int .i64 0] 64)) = W1 := ⟨_, rfl⟩
  rw [hW1] at HQ0 HB0 hc0 hc1 ⊢
  clear hW1
  go_wp2_with fail
  with_reducible refine (CK.out _ HB0).mono ?_
  rintro e w2 ⟨rfl, hb⟩
  have HQ2 := Lib.hid (HQ0.out.on hb)
  have HB2 := Lib.hid (HB0.out.trans (hb.mono HB0.out.size))
  have hd0 := keep2 hb hc0
  have hd1 := keep2 hb hc1
  clear hb HQ0 HB0 hc0 hc1
  obtain ⟨c0, c1, c2, c3, c4, c5, c6, c7, c8, m0, m1, m2, m3, m4, m5, m6, m7, m8⟩ := HQ2.out.f9
  go_wp2_with fail
  refine bodyPost_ret (v := .tuple #[.agg #[.nilIface, .int .i64 0, .int .i64 0, .int .i64 0, .int .i64 0, .int .i64 0, .int .i64 0, .int .i64 0, .int .i64 0], .int .i64 E]) ?_ rfl ⟨rfl, ?_⟩
  · simp [results, Tryz.results41, go_sem, c0, c1, c2, c3, c4, c5, c6, c7, c8]
  · exact (((((((((HB2.out.setCell (p := ⟨w.heap.size + 1, 0, none⟩) (by simp) _).setCell (p := ⟨w.heap.size + 1, 1, none⟩) (by simp) _).setCell (p := ⟨w.heap.size + 1, 2, none⟩) (by simp) _).setCell (p := ⟨w.heap.size + 1, 3, none⟩) (by simp) _).setCell (p := ⟨w.heap.size + 1, 4, none⟩) (by simp) _).setCell (p := ⟨w.heap.size + 1, 5, none⟩) (by simp) _).setCell (p := ⟨w.heap.size + 1, 6, none⟩) (by simp) _).setCell (p := ⟨w.heap.size + 1, 7, none⟩) (by simp) _).setCell (p := ⟨w.heap.size + 1, 8, none⟩) (by simp) _)

set_option maxHeartbeats 2000000 in
theorem cvo_okI (r f : Int) (xs : List Int) (a : Option Addr) (l c : Nat) (k x n b : Int) (w : World) (h : Ints w a l xs) (hlc : l ≤ c) (hk : akE r f xs x (inB b 1 100000000 && fitB k n) n = 0) (T' : TypeId) (z' : Value) (y0 y1 y2 y3 y4 y5 y6 y7 E : Int)
    (hcv : ∀ R W, Cols W R r f xs (.slice a l c) → Calls Tryz.prog 68 #[.pointer (some ⟨R, 0, none⟩), .iface (kT k) (.agg #[]), .int .i64 x, .int .i64 n] W (CvPost (.iface T' z') y0 y1 y2 y3 y4 y5 y6 y7 E W)) :
    Calls Tryz.prog 41 #[.agg #[.int .i64 f, .slice a l c], .int .i64 r, .int .i64 k, .int .i64 x, .int .i64 n, .int .i64 b] w (CvPost (.iface T' z') y0 y1 y2 y3 y4 y5 y6 y7 E w) := by
  have H := Lib.hid h
  have CA := Lib.hid (fun W => aof_any k W)
  have CK : Hid (∀ W, Hid (Below w.heap.size w W) → Calls Tryz.prog 66 #[.agg #[.int .i64 f, .slice a l c], .int .i64 r, kV k, .int .i64 x, .int .i64 n, .int .i64 b] W fun e w' => e = .returned (.int .i64 (akE r f xs x (inB b 1 100000000 && fitB k n) n)) ∧ Below W.heap.size W w') :=
    Lib.hid (fun W hW => chka_any r f xs a l c k x n b W (h.on hW.out) hlc)
  obtain ⟨hc, hb, -, -⟩ := akE_iff.1 hk
  obtain ⟨ht, ⟨r0, r1⟩, x0, x1⟩ := coE_iff.1 hc
  rw [Bool.and_eq_true] at hb
  rw [kV_in (fitB_iff.1 hb.2).1] at CA CK
  rw [hk] at CK
  have HT := Lib.hid ht
  have HCV := Lib.hid hcv
  unfold CvPost cvr at HCV
  obtain ⟨T, hT⟩ : ∃ y_, kT k = y_ := ⟨_, rfl⟩
  rw [hT] at CA CK HCV
  clear h hk hc hb ht hT hcv
  unfold CvPost cvr
  have hq : Q9 ((w.alloc (.cells #[.int .i64 f, .slice a l c] 26)).alloc (.cells #[.nilIface, .int .i64 0, .int .i64 0, .int .i64 0, .int .i64 0, .int .i64 0, .int .i64 0, .int .i64 0, .int .i64 0] 64)) (w.heap.size + 1) .nilIface 0 0 0 0 0 0 0 0 := by
    have := q9_new (w.alloc (.cells #[.int .i64 f, .slice a l c] 26)) .nilIface 0 0 0 0 0 0 0 0
    rw [World.size_alloc] at this
    exact this
  have HQ0 := Lib.hid hq
  have HB0 : Hid (Below w.heap.size w ((w.alloc (.cells #[.int .i64 f, .slice a l c] 26)).alloc (.cells #[.nilIface, .int .i64 0, .int .i64 0, .int .i64 0, .int .i64 0, .int .i64 0, .int .i64 0, .int .i64 0, .int .i64 0] 64))) := Lib.hid ((box_b _ _).alloc (by simp) _)
  have hc0 : ((w.alloc (.cells #[.int .i64 f, .slice a l c] 26)).alloc (.cells #[.nilIface, .int .i64 0, .int .i64 0, .int .i64 0, .int .i64 0, .int .i64 0, .int .i64 0, .int .i64 0, .int .i64 0] 64)).cell? ⟨w.heap.size, 0, none⟩ = some (.int .i64 f) := by go_simp
  have hc1 : ((w.alloc (.cells #[.int .i64 f, .slice a l c] 26)).alloc (.cells #[.nilIface, .int .i64 0, .int .i64 0, .int .i64 0, .int .i64 0, .int .i64 0, .int .i64 0, .int .i64 0, .int .i64 0] 64)).cell? ⟨w.heap.size, 1, none⟩ = some (.slice a l c) := by go_simp
  clear hq
  go_enter Tryz.func41, Tryz.ntmps41
  go_wp2_with fail
  with_reducible refine (CA.out _).mono ?_
  rintro e w' ⟨rfl, rfl⟩
  obtain ⟨W1, hW1⟩ : ∃ W1, ((w.alloc (.cells #[.int .i64 f, .slice a l c] 26)).alloc (.cells #[.nilIface, .int .i64 0, .int .i64 0, .int .i64 0, .int .i64 0, .int .i64 0, .int .i64 0, .int .i64 0, .int .i64 0] 64)) = W1 := ⟨_, rfl⟩
  rw [hW1] at HQ0 HB0 hc0 hc1 ⊢
  clear hW1
  go_wp2_with fail
  with_reducible refine (CK.out _ HB0).mono ?_
  rintro e w2 ⟨rfl, hb⟩
  have HQ2 := Lib.hid (HQ0.out.on hb)
  have HB2 := Lib.hid (HB0.out.trans (hb.mono HB0.out.size))
  have hd0 := keep2 hb hc0
  have hd1 := keep2 hb hc1
  clear hb HQ0 HB0 hc0 hc1
  go_wp2_with fail
  with_reducible refine (co_any r f xs a l c _ (H.out.on HB2.out) HT.out r0 r1).mono ?_
  rintro e w3 ⟨R, G, rfl, hR, hG, hGs, hb⟩
  have HQ3 := Lib.hid (HQ2.out.on hb)
  have HB3 := Lib.hid (HB2.out.trans (hb.mono HB2.out.size))
  have HCC := Lib.hid (HCV.out R w3 ⟨G, hG, hGs⟩)
  clear hb hG hGs hR HQ2 HB2 hd0 hd1
  go_wp2_with fail
  with_reducible refine HCC.out.mono ?_
  rintro e w4 ⟨rfl, hb⟩
  have hq := HQ3.out.on hb
  have HB4 := Lib.hid (HB3.out.trans (hb.mono HB3.out.size))
  obtain ⟨c0, c1, c2, c3, c4, c5, c6, c7, c8, m0, m1, m2, m3, m4, m5, m6, m7, m8⟩ := hq.f9
  clear hb HQ3 HB3 hq HCC HCV
  go_wp2_with fail
  refine bodyPost_ret (v := .tuple #[.agg #[(.iface T' z'), .int .i64 y0, .int .i64 y1, .int .i64 y2, .int .i64 y3, .int .i64 y4, .int .i64 y5, .int .i64 y6, .int .i64 y7], .int .i64 E]) ?_ rfl ⟨rfl, ?_⟩
  · simp [results, Tryz.results41, go_sem, c0, c1, c2, c3, c4, c5, c6, c7, c8]
  · exact (((((((((HB4.out.setCell (p := ⟨w.heap.size + 1, 0, none⟩) (by simp) _).setCell (p := ⟨w.heap.size + 1, 1, none⟩) (by simp) _).setCell (p := ⟨w.heap.size + 1, 2, none⟩) (by simp) _).setCell (p := ⟨w.heap.size + 1, 3, none⟩) (by simp) _).setCell (p := ⟨w.heap.size + 1, 4, none⟩) (by simp) _).setCell (p := ⟨w.heap.size + 1, 5, none⟩) (by simp) _).setCell (p := ⟨w.heap.size + 1, 6, none⟩) (by simp) _).setCell (p := ⟨w.heap.size + 1, 7, none⟩) (by simp) _).setCell (p := ⟨w.heap.size + 1, 8, none⟩) (by simp) _)

set_option maxHeartbeats 2000000 in
theorem cvo_okN (r f : Int) (xs : List Int) (a : Option Addr) (l c : Nat) (k x n b : Int) (w : World) (h : Ints w a l xs) (hlc : l ≤ c) (hk : akE r f xs x (inB b 1 100000000 && fitB k n) n = 0) (y0 y1 y2 y3 y4 y5 y6 y7 E : Int)
    (hcv : ∀ R W, Cols W R r f xs (.slice a l c) → Calls Tryz.prog 68 #[.pointer (some ⟨R, 0, none⟩), .iface (kT k) (.agg #[]), .int .i64 x, .int .i64 n] W (CvPost .nilIface y0 y1 y2 y3 y4 y5 y6 y7 E W)) :
    Calls Tryz.prog 41 #[.agg #[.int .i64 f, .slice a l c], .int .i64 r, .int .i64 k, .int .i64 x, .int .i64 n, .int .i64 b] w (CvPost .nilIface y0 y1 y2 y3 y4 y5 y6 y7 E w) := by
  have H := Lib.hid h
  have CA := Lib.hid (fun W => aof_any k W)
  have CK : Hid (∀ W, Hid (Below w.heap.size w W) → Calls Tryz.prog 66 #[.agg #[.int .i64 f, .slice a l c], .int .i64 r, kV k, .int .i64 x, .int .i64 n, .int .i64 b] W fun e w' => e = .returned (.int .i64 (akE r f xs x (inB b 1 100000000 && fitB k n) n)) ∧ Below W.heap.size W w') :=
    Lib.hid (fun W hW => chka_any r f xs a l c k x n b W (h.on hW.out) hlc)
  obtain ⟨hc, hb, -, -⟩ := akE_iff.1 hk
  obtain ⟨ht, ⟨r0, r1⟩, x0, x1⟩ := coE_iff.1 hc
  rw [Bool.and_eq_true] at hb
  rw [kV_in (fitB_iff.1 hb.2).1] at CA CK
  rw [hk] at CK
  have HT := Lib.hid ht
  have HCV := Lib.hid hcv
  unfold CvPost cvr at HCV
  obtain ⟨T, hT⟩ : ∃ y_, kT k = y_ := ⟨_, rfl⟩
  rw [hT] at CA CK HCV
  clear h hk hc hb ht hT hcv
  unfold CvPost cvr
  have hq : Q9 ((w.alloc (.cells #[.int .i64 f, .slice a l c] 26)).alloc (.cells #[.nilIface, .int .i64 0, .int .i64 0, .int .i64 0, .int .i64 0, .int .i64 0, .int .i64 0, .int .i64 0, .int .i64 0] 64)) (w.heap.size + 1) .nilIface 0 0 0 0 0 0 0 0 := by
    have := q9_new (w.alloc (.cells #[.int .i64 f, .slice a l c] 26)) .nilIface 0 0 0 0 0 0 0 0
    rw [World.size_alloc] at this
    exact this
  have HQ0 := Lib.hid hq
  have HB0 : Hid (Below w.heap.size w ((w.alloc (.cells #[.int .i64 f, .slice a l c] 26)).alloc (.cells #[.nilIface, .int .i64 0, .int .i64 0, .int .i64 0, .int .i64 0, .int .i64 0, .int .i64 0, .int .i64 0, .int .i64 0] 64))) := Lib.hid ((box_b _ _).alloc (by simp) _)
  have hc0 : ((w.alloc (.cells #[.int .i64 f, .slice a l c] 26)).alloc (.cells #[.nilIface, .int .i64 0, .int .i64 0, .int .i64 0, .int .i64 0, .int .i64 0, .int .i64 0, .int .i64 0, .int .i64 0] 64)).cell? ⟨w.heap.size, 0, none⟩ = some (.int .i64 f) := by go_simp
  have hc1 : ((w.alloc (.cells #[.int .i64 f, .slice a l c] 26)).alloc (.cells #[.nilIface, .int .i64 0, .int .i64 0, .int .i64 0, .int .i64 0, .int .i64 0, .int .i64 0, .int .i64 0, .int .i64 0] 64)).cell? ⟨w.heap.size, 1, none⟩ = some (.slice a l c) := by go_simp
  clear hq
  go_enter Tryz.func41, Tryz.ntmps41
  go_wp2_with fail
  with_reducible refine (CA.out _).mono ?_
  rintro e w' ⟨rfl, rfl⟩
  obtain ⟨W1, hW1⟩ : ∃ W1, ((w.alloc (.cells #[.int .i64 f, .slice a l c] 26)).alloc (.cells #[.nilIface, .int .i64 0, .int .i64 0, .int .i64 0, .int .i64 0, .int .i64 0, .int .i64 0, .int .i64 0, .int .i64 0] 64)) = W1 := ⟨_, rfl⟩
  rw [hW1] at HQ0 HB0 hc0 hc1 ⊢
  clear hW1
  go_wp2_with fail
  with_reducible refine (CK.out _ HB0).mono ?_
  rintro e w2 ⟨rfl, hb⟩
  have HQ2 := Lib.hid (HQ0.out.on hb)
  have HB2 := Lib.hid (HB0.out.trans (hb.mono HB0.out.size))
  have hd0 := keep2 hb hc0
  have hd1 := keep2 hb hc1
  clear hb HQ0 HB0 hc0 hc1
  go_wp2_with fail
  with_reducible refine (co_any r f xs a l c _ (H.out.on HB2.out) HT.out r0 r1).mono ?_
  rintro e w3 ⟨R, G, rfl, hR, hG, hGs, hb⟩
  have HQ3 := Lib.hid (HQ2.out.on hb)
  have HB3 := Lib.hid (HB2.out.trans (hb.mono HB2.out.size))
  have HCC := Lib.hid (HCV.out R w3 ⟨G, hG, hGs⟩)
  clear hb hG hGs hR HQ2 HB2 hd0 hd1
  go_wp2_with fail
  with_reducible refine HCC.out.mono ?_
  rintro e w4 ⟨rfl, hb⟩
  have hq := HQ3.out.on hb
  have HB4 := Lib.hid (HB3.out.trans (hb.mono HB3.out.size))
  obtain ⟨c0, c1, c2, c3, c4, c5, c6, c7, c8, m0, m1, m2, m3, m4, m5, m6, m7, m8⟩ := hq.f9
  clear hb HQ3 HB3 hq HCC HCV
  go_wp2_with fail
  refine bodyPost_ret (v := .tuple #[.agg #[.nilIface, .int .i64 y0, .int .i64 y1, .int .i64 y2, .int .i64 y3, .int .i64 y4, .int .i64 y5, .int .i64 y6, .int .i64 y7], .int .i64 E]) ?_ rfl ⟨rfl, ?_⟩
  · simp [results, Tryz.results41, go_sem, c0, c1, c2, c3, c4, c5, c6, c7, c8]
  · exact (((((((((HB4.out.setCell (p := ⟨w.heap.size + 1, 0, none⟩) (by simp) _).setCell (p := ⟨w.heap.size + 1, 1, none⟩) (by simp) _).setCell (p := ⟨w.heap.size + 1, 2, none⟩) (by simp) _).setCell (p := ⟨w.heap.size + 1, 3, none⟩) (by simp) _).setCell (p := ⟨w.heap.size + 1, 4, none⟩) (by simp) _).setCell (p := ⟨w.heap.size + 1, 5, none⟩) (by simp) _).setCell (p := ⟨w.heap.size + 1, 6, none⟩) (by simp) _).setCell (p := ⟨w.heap.size + 1, 7, none⟩) (by simp) _).setCell (p := ⟨w.heap.size + 1, 8, none⟩) (by simp) _)

/-- the cover of the arguments: none, or the kind with its columns -/
theorem cvo_no (r f : Int) (xs : List Int) (a : Option Addr) (l c : Nat) (k x n b : Int) (w : World) (h : Ints w a l xs) (hlc : l ≤ c) (hE : anE r f xs x (inB b 1 100000000 && fitB k n) n ≠ 0) :
    Calls Tryz.prog 41 #[.agg #[.int .i64 f, .slice a l c], .int .i64 r, .int .i64 k, .int .i64 x, .int .i64 n, .int .i64 b] w (CvPost .nilIface 0 0 0 0 0 0 0 0 (anE r f xs x (inB b 1 100000000 && fitB k n) n) w) := by
  have e := anE_ak r f xs x (inB b 1 100000000 && fitB k n) n
  by_cases hk : akE r f xs x (inB b 1 100000000 && fitB k n) n = 0
  · rw [if_pos hk] at e
    have hd : cD r xs (x - f).toNat = 0 := by
      by_cases hd : cD r xs (x - f).toNat = 0
      · exact hd
      · rw [if_neg hd] at e; exact absurd e hE
    rw [if_pos hd] at e
    rw [e]
    obtain ⟨hc, -, -, -⟩ := akE_iff.1 hk
    obtain ⟨ht, -, x0, x1⟩ := coE_iff.1 hc
    exact cvo_okN r f xs a l c k x n b w h hlc hk _ _ _ _ _ _ _ _ _ (fun R W hW => cvz_any (kT k) _ r f xs _ R x n W hW ht.1.1 x0 x1 hd)
  · rw [if_neg hk] at e
    rw [e]
    exact cvo_err r f xs a l c k x n b w h hlc hk

theorem cvo_yes (r f : Int) (xs : List Int) (a : Option Addr) (l c : Nat) (k x n b : Int) (w : World) (h : Ints w a l xs) (hlc : l ≤ c) (hE : anE r f xs x (inB b 1 100000000 && fitB k n) n = 0) :
    Calls Tryz.prog 41 #[.agg #[.int .i64 f, .slice a l c], .int .i64 r, .int .i64 k, .int .i64 x, .int .i64 n, .int .i64 b] w (CvPost (.iface (kT k) (.agg #[])) (cD r xs (x - f).toNat) (cN r xs (x - f).toNat) (cC r xs (x - f).toNat) (cM r xs (x - f).toNat) (cD r xs (x + n - f).toNat) (cN r xs (x + n - f).toNat) (cC r xs (x + n - f).toNat) (cM r xs (x + n - f).toNat) 0 w) := by
  have e := anE_ak r f xs x (inB b 1 100000000 && fitB k n) n
  by_cases hk : akE r f xs x (inB b 1 100000000 && fitB k n) n = 0
  · rw [if_pos hk, hE] at e
    have hd : cD r xs (x - f).toNat ≠ 0 := by
      intro hd
      rw [if_pos hd] at e; cases e
    obtain ⟨hc, -, ⟨n0, n1⟩, xn⟩ := akE_iff.1 hk
    obtain ⟨ht, -, x0, x1⟩ := coE_iff.1 hc
    exact cvo_okI r f xs a l c k x n b w h hlc hk _ _ _ _ _ _ _ _ _ _ _ (fun R W hW => cva_any (kT k) _ r f xs _ R x n W hW ht.1.1 x0 n0 xn hd)
  · rw [if_neg hk, hE] at e
    exact absurd e.symm hk

theorem LTab.inC {f : Int} {xs : List Int} (h : LTab f xs) (r : Int) (r0 : 0 ≤ r) (m : Nat) : InC (cD r xs m) (cN r xs m) (cC r xs m) (cM r xs m) := by
  have e1 := h.cD_bd r r0 m
  have e2 := h.cN_bd r r0 m
  have e3 := h.cM_bd r r0 m
  exact ⟨⟨e1.1, by omega⟩, ⟨e2.1, by omega⟩, e3.1, by omega⟩

theorem numK_asT (r f : Int) (xs : List Int) (k x n : Int) : numK k (cD r xs (x - f).toNat) (cN r xs (x - f).toNat) (cC r xs (x - f).toNat) (cM r xs (x - f).toNat) (cD r xs (x + n - f).toNat) (cN r xs (x + n - f).toNat) (cC r xs (x + n - f).toNat) (cM r xs (x + n - f).toNat) = asT r f xs k x n := rfl

theorem payK_asB (r f : Int) (xs : List Int) (k x n : Int) : payK k (cD r xs (x - f).toNat) (cN r xs (x - f).toNat) (cC r xs (x - f).toNat) (cM r xs (x - f).toNat) (cD r xs (x + n - f).toNat) (cN r xs (x + n - f).toNat) (cC r xs (x + n - f).toNat) (cM r xs (x + n - f).toNat) = asB r f xs k x n := rfl

theorem cvn_any {r f : Int} {xs : List Int} {x n : Int} {B : Bool} {k : Int} (h : anE r f xs x (B && fitB k n) n = 0) (W : World) : Calls Tryz.prog 70 #[cvr (.iface (kT k) (.agg #[])) (cD r xs (x - f).toNat) (cN r xs (x - f).toNat) (cC r xs (x - f).toNat) (cM r xs (x - f).toNat) (cD r xs (x + n - f).toNat) (cN r xs (x + n - f).toNat) (cC r xs (x + n - f).toNat) (cM r xs (x + n - f).toNat)] W fun e w' => e = .returned (.int .i64 (asT r f xs k x n)) ∧ Below W.heap.size W w' := by
  obtain ⟨-, ⟨hk, -⟩, ht, ⟨r0, -⟩, -, -, -, -⟩ := as_in h
  have := cnum_any k (cD r xs (x - f).toNat) (cN r xs (x - f).toNat) (cC r xs (x - f).toNat) (cM r xs (x - f).toNat) (cD r xs (x + n - f).toNat) (cN r xs (x + n - f).toNat) (cC r xs (x + n - f).toNat) (cM r xs (x + n - f).toNat) hk (ht.inC r r0 _) (ht.inC r r0 _) W
  rw [numK_asT] at this
  exact this

theorem cvb_any {r f : Int} {xs : List Int} {x n : Int} {B : Bool} {k : Int} (h : anE r f xs x (B && fitB k n) n = 0) (W : World) : Calls Tryz.prog 129 #[cvr (.iface (kT k) (.agg #[])) (cD r xs (x - f).toNat) (cN r xs (x - f).toNat) (cC r xs (x - f).toNat) (cM r xs (x - f).toNat) (cD r xs (x + n - f).toNat) (cN r xs (x + n - f).toNat) (cC r xs (x + n - f).toNat) (cM r xs (x + n - f).toNat)] W fun e w' => e = .returned (.int .i64 (asB r f xs k x n)) ∧ Below W.heap.size W w' := by
  obtain ⟨-, ⟨hk, -⟩, ht, ⟨r0, -⟩, -, -, -, -⟩ := as_in h
  have := cpay_any k (cD r xs (x - f).toNat) (cN r xs (x - f).toNat) (cC r xs (x - f).toNat) (cM r xs (x - f).toNat) (cD r xs (x + n - f).toNat) (cN r xs (x + n - f).toNat) (cC r xs (x + n - f).toNat) (cM r xs (x + n - f).toNat) hk (ht.inC r r0 _) (ht.inC r r0 _) W
  rw [payK_asB] at this
  exact this

theorem cvp_any {r f : Int} {xs : List Int} {x n b : Int} {k : Int} (h : anE r f xs x (inB b 1 100000000 && fitB k n) n = 0) (W : World) : Calls Tryz.prog 42 #[cvr (.iface (kT k) (.agg #[])) (cD r xs (x - f).toNat) (cN r xs (x - f).toNat) (cC r xs (x - f).toNat) (cM r xs (x - f).toNat) (cD r xs (x + n - f).toNat) (cN r xs (x + n - f).toNat) (cC r xs (x + n - f).toNat) (cM r xs (x + n - f).toNat), .int .i64 b] W fun e w' => e = .returned (.int .i64 (upV b (asT r f xs k x n) (cD r xs (x - f).toNat))) ∧ Below W.heap.size W w' := by
  have hb := (as_in h).1
  obtain ⟨b0, b1⟩ := (inB_iff _ _ _).1 hb
  obtain ⟨t, d, v, ht1, hd1, hv1, t0, t1, d0, d1, v0, v1⟩ := as_nums h
  have hq := quot_le b t d (by omega) (by omega) (by omega)
  rw [← ht1, ← hd1] at hq
  exact cpri_any (kT k) _ (cD r xs (x - f).toNat) (cN r xs (x - f).toNat) (cC r xs (x - f).toNat) (cM r xs (x - f).toNat) (cD r xs (x + n - f).toNat) (cN r xs (x + n - f).toNat) (cC r xs (x + n - f).toNat) (cM r xs (x + n - f).toNat) (asT r f xs k x n) b W (cvn_any h) (by omega) (by omega) (by omega) (by omega) (by omega) (by omega) (by omega)

theorem cvm_any {r f : Int} {xs : List Int} {x n b : Int} {k : Int} (h : anE r f xs x (inB b 1 100000000 && fitB k n) n = 0) (W : World) : Calls Tryz.prog 114 #[cvr (.iface (kT k) (.agg #[])) (cD r xs (x - f).toNat) (cN r xs (x - f).toNat) (cC r xs (x - f).toNat) (cM r xs (x - f).toNat) (cD r xs (x + n - f).toNat) (cN r xs (x + n - f).toNat) (cC r xs (x + n - f).toNat) (cM r xs (x + n - f).toNat), .int .i64 b] W fun e w' => e = .returned (.int .i64 (upV b (asT r f xs k x n) (asB r f xs k x n))) ∧ Below W.heap.size W w' := by
  have hb := (as_in h).1
  obtain ⟨b0, b1⟩ := (inB_iff _ _ _).1 hb
  obtain ⟨t, d, v, ht1, hd1, hv1, t0, t1, d0, d1, v0, v1⟩ := as_nums h
  have hq := quot_le b t v (by omega) (by omega) (by omega)
  rw [← ht1, ← hv1] at hq
  exact cpre_any (kT k) _ (cD r xs (x - f).toNat) (cN r xs (x - f).toNat) (cC r xs (x - f).toNat) (cM r xs (x - f).toNat) (cD r xs (x + n - f).toNat) (cN r xs (x + n - f).toNat) (cC r xs (x + n - f).toNat) (cM r xs (x + n - f).toNat) (asT r f xs k x n) (asB r f xs k x n) b W (cvn_any h) (cvb_any h) (by omega) (by omega) (by omega) (by omega) (by omega) (by omega) (by omega)

set_option maxHeartbeats 1000000 in
theorem ipri_any (r f : Int) (xs : List Int) (a : Option Addr) (l c : Nat) (k x n b : Int) (w : World) (h : Ints w a l xs) (hlc : l ≤ c) :
    Calls Tryz.prog 21 #[.agg #[.int .i64 f, .slice a l c], .int .i64 r, .int .i64 k, .int .i64 x, .int .i64 n, .int .i64 b] w (IIPost (priV r f xs k x n b) (asE r f xs k x n b) w) := by
  unfold IIPost asE
  by_cases hE : anE r f xs x (inB b 1 100000000 && fitB k n) n = 0
  · have HV : Hid (priV r f xs k x n b = upV b (asT r f xs k x n) (cD r xs (x - f).toNat)) := Lib.hid (by unfold priV asE; rw [if_pos hE])
    rw [hE]
    have CO : Hid (∀ W, Hid (Below w.heap.size w W) → Calls Tryz.prog 41 #[.agg #[.int .i64 f, .slice a l c], .int .i64 r, .int .i64 k, .int .i64 x, .int .i64 n, .int .i64 b] W (CvPost (.iface (kT k) (.agg #[])) (cD r xs (x - f).toNat) (cN r xs (x - f).toNat) (cC r xs (x - f).toNat) (cM r xs (x - f).toNat) (cD r xs (x + n - f).toNat) (cN r xs (x + n - f).toNat) (cC r xs (x + n - f).toNat) (cM r xs (x + n - f).toNat) 0 W)) :=
      Lib.hid (fun W hW => cvo_yes r f xs a l c k x n b W (h.on hW.out) hlc hE)
    have CP := Lib.hid (fun W => cvp_any hE W)
    unfold cvr at CP
    obtain ⟨A, h0⟩ : ∃ y_, cD r xs (x - f).toNat = y_ := ⟨_, rfl⟩
    obtain ⟨B, h1⟩ : ∃ y_, cN r xs (x - f).toNat = y_ := ⟨_, rfl⟩
    obtain ⟨C, h2⟩ : ∃ y_, cC r xs (x - f).toNat = y_ := ⟨_, rfl⟩
    obtain ⟨D, h3⟩ : ∃ y_, cM r xs (x - f).toNat = y_ := ⟨_, rfl⟩
    obtain ⟨A', h4⟩ : ∃ y_, cD r xs (x + n - f).toNat = y_ := ⟨_, rfl⟩
    obtain ⟨B', h5⟩ : ∃ y_, cN r xs (x + n - f).toNat = y_ := ⟨_, rfl⟩
    obtain ⟨C', h6⟩ : ∃ y_, cC r xs (x + n - f).toNat = y_ := ⟨_, rfl⟩
    obtain ⟨D', h7⟩ : ∃ y_, cM r xs (x + n - f).toNat = y_ := ⟨_, rfl⟩
    rw [h0, h1, h2, h3, h4, h5, h6, h7] at CO CP
    rw [HV.out]
    obtain ⟨T, hT⟩ : ∃ y_, kT k = y_ := ⟨_, rfl⟩
    rw [hT] at CO CP
    obtain ⟨U, hU⟩ : ∃ y_, upV b (asT r f xs k x n) (cD r xs (x - f).toNat) = y_ := ⟨_, rfl⟩
    rw [h0] at hU ⊢
    rw [hU] at CP ⊢
    clear h0 h1 h2 h3 h4 h5 h6 h7 hT hU HV
    unfold CvPost cvr at CO
    clear h hE
    go_enter Tryz.func21, Tryz.ntmps21
    go_wp2_with fail
    with_reducible refine (CO.out _ (Lib.hid (box_b _ _))).mono ?_
    rintro e w1 ⟨rfl, hb⟩
    obtain ⟨hB, hc0, hc1⟩ := box2 hb
    have HB := Lib.hid hB
    clear hB hb
    have HBq := Lib.hid (HB.out.alloc (by have := HB.out.size; omega) (.cells #[.iface T (.agg #[]), .int .i64 A, .int .i64 B, .int .i64 C, .int .i64 D, .int .i64 A', .int .i64 B', .int .i64 C', .int .i64 D'] 64))
    obtain ⟨y0, y1, y2, y3, y4, y5, y6, y7, y8⟩ := (q9_new w1 (.iface T (.agg #[])) A B C D A' B' C' D').cell
    clear hc0 hc1
    go_wp2_with fail
    with_reducible refine (CP.out _).mono ?_
    rintro e w2 ⟨rfl, hb⟩
    have HB2 := Lib.hid (HBq.out.trans (hb.mono HBq.out.size))
    clear hb
    go_wp2_with fail
    go_ret2
    exact ⟨rfl, HB2.out⟩
  · have HV : Hid (priV r f xs k x n b = 0) := Lib.hid (by unfold priV asE; rw [if_neg hE])
    rw [HV.out]
    have CO : Hid (∀ W, Hid (Below w.heap.size w W) → Calls Tryz.prog 41 #[.agg #[.int .i64 f, .slice a l c], .int .i64 r, .int .i64 k, .int .i64 x, .int .i64 n, .int .i64 b] W (CvPost (.nilIface) 0 0 0 0 0 0 0 0 (anE r f xs x (inB b 1 100000000 && fitB k n) n) W)) :=
      Lib.hid (fun W hW => cvo_no r f xs a l c k x n b W (h.on hW.out) hlc hE)
    have hE2 := hE
    obtain ⟨E, hEE⟩ : ∃ y_, anE r f xs x (inB b 1 100000000 && fitB k n) n = y_ := ⟨_, rfl⟩
    rw [hEE] at CO hE2 ⊢
    have hne : (E != 0) = true := by simp [hE2]
    clear hEE hE2
    unfold CvPost cvr at CO
    clear h hE
    go_enter Tryz.func21, Tryz.ntmps21
    go_wp2_with fail
    with_reducible refine (CO.out _ (Lib.hid (box_b _ _))).mono ?_
    rintro e w1 ⟨rfl, hb⟩
    obtain ⟨hB, hc0, hc1⟩ := box2 hb
    have HB := Lib.hid hB
    clear hB hb
    have HBq := Lib.hid (HB.out.alloc (by have := HB.out.size; omega) (.cells #[.nilIface, .int .i64 0, .int .i64 0, .int .i64 0, .int .i64 0, .int .i64 0, .int .i64 0, .int .i64 0, .int .i64 0] 64))
    obtain ⟨y0, y1, y2, y3, y4, y5, y6, y7, y8⟩ := (q9_new w1 (.nilIface) 0 0 0 0 0 0 0 0).cell
    clear hc0 hc1
    go_wp2_with fail
    go_ret2
    exact ⟨rfl, HBq.out⟩

end Go.Proofs.YtdlfofdibooidaaGreat
