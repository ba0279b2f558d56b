/- Families: the program: pensions of a month and of a time. (Written by wip/gen/fmg.py.) -/
import Derived.Test.YtmnddplkmljeaaaFmf
namespace Go.Proofs.Ytmnddplkmljeaaa
open Go.ChangeShapes Go.WideShapes Go.ChangeAt Go.RowKit
set_option linter.unusedVariables false
set_option linter.unusedSimpArgs false
set_option maxRecDepth 100000

def wdI (v l k : Int) : Int := if wdB v l k = true then 1 else 0

theorem wdI_bd (v l k : Int) : 0 ≤ wdI v l k ∧ wdI v l k ≤ 1 := by unfold wdI; split <;> omega

/-- pensions and a code -/
def PnP (X Y E : Int) (w : World) (e : Ending) (w' : World) : Prop := e = .returned (.tuple #[.agg #[.int .i64 X, .int .i64 Y], .int .i64 E]) ∧ Below w.heap.size w w'

/-- the family's box, the result's box -/
structure FR (w : World) (d m v l : Int) (a : Option Addr) (n c : Nat) (ch : List Int) (W : World) : Prop where
  fb : FB w d m v l a n c ch W
  r : Bx W (w.heap.size + 1) [.int .i64 0, .int .i64 0]

theorem FR.on {w : World} {d m v l : Int} {a : Option Addr} {n c : Nat} {ch : List Int} {W W' : World} (h : FR w d m v l a n c ch W) (hb : Below W.heap.size W W') : FR w d m v l a n c ch W' := ⟨h.fb.on hb, h.r.on hb⟩

theorem FR.new (w : World) (d m v l : Int) {a : Option Addr} {n c : Nat} {ch : List Int} (h : Ints w a n ch) (T : TypeId) : FR w d m v l a n c ch ((w.alloc (.cells #[.int .i64 d, .int .i64 m, .int .i64 v, .int .i64 l, .slice a n c] 26)).alloc (.cells #[.int .i64 0, .int .i64 0] T)) := by
  have x2 := Bx.new (w.alloc (.cells #[.int .i64 d, .int .i64 m, .int .i64 v, .int .i64 l, .slice a n c] 26)) [.int .i64 0, .int .i64 0] T
  rw [World.size_alloc] at x2
  exact ⟨(FB.new w d m v l h).box _, x2⟩

theorem frS {w : World} {d m v l : Int} {a : Option Addr} {n c : Nat} {ch : List Int} {W : World} (h : FR w d m v l a n c ch W) : W.cell? ⟨w.heap.size, 0, none⟩ = some (.int .i64 d) ∧ W.cell? ⟨w.heap.size, 1, none⟩ = some (.int .i64 m) ∧ W.cell? ⟨w.heap.size, 2, none⟩ = some (.int .i64 v) ∧ W.cell? ⟨w.heap.size, 3, none⟩ = some (.int .i64 l) ∧ W.cell? ⟨w.heap.size, 4, none⟩ = some (.slice a n c) ∧ W.cell? ⟨w.heap.size + 1, 0, none⟩ = some (.int .i64 0) ∧ W.cell? ⟨w.heap.size + 1, 1, none⟩ = some (.int .i64 0) ∧ W.frozen? ⟨w.heap.size + 1, 0, none⟩ = false ∧ W.frozen? ⟨w.heap.size + 1, 1, none⟩ = false := by
  obtain ⟨f0, f1, f2, f3, f4, -⟩ := fbS h.fb
  obtain ⟨r0, r1⟩ := h.r.two
  exact ⟨f0, f1, f2, f3, f4, r0, r1, h.r.free 0, h.r.free 1⟩

theorem frE {w : World} {d m v l : Int} {a : Option Addr} {n c : Nat} {ch : List Int} {W : World} (h : FR w d m v l a n c ch W) (X Y : Int) : ((W.setCell ⟨w.heap.size + 1, 0, none⟩ (.int .i64 X)).setCell ⟨w.heap.size + 1, 1, none⟩ (.int .i64 Y)).cell? ⟨w.heap.size + 1, 0, none⟩ = some (.int .i64 X) ∧ ((W.setCell ⟨w.heap.size + 1, 0, none⟩ (.int .i64 X)).setCell ⟨w.heap.size + 1, 1, none⟩ (.int .i64 Y)).cell? ⟨w.heap.size + 1, 1, none⟩ = some (.int .i64 Y) ∧ Below w.heap.size w ((W.setCell ⟨w.heap.size + 1, 0, none⟩ (.int .i64 X)).setCell ⟨w.heap.size + 1, 1, none⟩ (.int .i64 Y)) := by
  obtain ⟨e0, e1⟩ := ((h.r.setI 0 (.int .i64 X)).setI 1 (.int .i64 Y)).two
  exact ⟨e0, e1, (h.fb.low.setCell (p := ⟨w.heap.size + 1, 0, none⟩) (by show w.heap.size ≤ w.heap.size + 1; omega) _).setCell (p := ⟨w.heap.size + 1, 1, none⟩) (by show w.heap.size ≤ w.heap.size + 1; omega) _⟩

set_option maxHeartbeats 1000000 in
theorem ipo_any (d m v l : Int) (ch : List Int) (a : Option Addr) (n c : Nat) (k : Int) (w : World) (h : Ints w a n ch) :
    Calls Try.prog 85 #[.agg #[.int .i64 d, .int .i64 m, .int .i64 v, .int .i64 l, .slice a n c], .int .i64 k] w (PnP (fV (fmE (fmB d m v l ch) (mthB k)) (wdI v l k)) (fV (fmE (fmB d m v l ch) (mthB k)) (orN d ch k)) (fmE (fmB d m v l ch) (mthB k)) w) := by
  have HR := Lib.hid (FR.new w d m v l (c := c) h 95)
  have CF : Hid (∀ W, Hid (FR w d m v l a n c ch W) → Calls Try.prog 26 #[.agg #[.int .i64 d, .int .i64 m, .int .i64 v, .int .i64 l, .slice a n c]] W fun e w' => e = .returned (.bool (fmB d m v l ch)) ∧ Below W.heap.size W w') := Lib.hid (fun W hW => ifm_any d m v l ch a n c W hW.out.fb.i)
  obtain ⟨f0, f1, f2, f3, f4, r0, r1, z0, z1⟩ := frS HR.out
  unfold PnP
  cases hf : fmB d m v l ch with
  | false =>
    rw [hf] at CF
    clear h hf
    go_enter Try.func85, Try.ntmps85
    go_wp2_with (go_at_call 26; (with_reducible refine (CF.out _ HR).mono ?_); rintro e w1 ⟨rfl, hb⟩; have HR1 := Lib.hid (HR.out.on hb); obtain ⟨f0, f1, f2, f3, f4, r0, r1, z0, z1⟩ := frS HR1.out; clear hb)
    obtain ⟨e0, e1, e2⟩ := frE HR1.out 0 0
    refine bodyPost_ret (v := .tuple #[.agg #[.int .i64 0, .int .i64 0], .int .i64 1]) ?_ rfl ⟨rfl, e2⟩
    simp [results, Try.results85, go_sem, e0, e1]
  | true =>
    rw [hf] at CF
    have hok := (fm_iff ..).1 hf
    cases hk : mthB k with
    | false =>
      have CM : Hid (∀ W, Calls Try.prog 74 #[.int .i64 k] W fun e w' => e = .returned (.bool false) ∧ W = w') := Lib.hid (fun W => by have := mvalid_any k W; rw [hk] at this; exact this)
      clear h hf hok hk
      go_enter Try.func85, Try.ntmps85
      go_wp2_with (first | (go_at_call 26; (with_reducible refine (CF.out _ HR).mono ?_); rintro e w1 ⟨rfl, hb⟩; have HR1 := Lib.hid (HR.out.on hb); obtain ⟨f0, f1, f2, f3, f4, r0, r1, z0, z1⟩ := frS HR1.out; clear hb) | (go_at_call 74; refine (CM.out _).mono ?_; rintro e w' ⟨rfl, rfl⟩))
      obtain ⟨e0, e1, e2⟩ := frE HR1.out 0 0
      refine bodyPost_ret (v := .tuple #[.agg #[.int .i64 0, .int .i64 0], .int .i64 2]) ?_ rfl ⟨rfl, e2⟩
      simp [results, Try.results85, go_sem, e0, e1]
    | true =>
      have CM : Hid (∀ W, Calls Try.prog 74 #[.int .i64 k] W fun e w' => e = .returned (.bool true) ∧ W = w') := Lib.hid (fun W => by have := mvalid_any k W; rw [hk] at this; exact this)
      have CE : Hid (∀ W, Hid (FR w d m v l a n c ch W) → Calls Try.prog 77 #[.agg #[.int .i64 d, .int .i64 m, .int .i64 v, .int .i64 l, .slice a n c]] W fun e w' => ∃ x q, e = .returned (.slice x (evs d v l ch).length q) ∧ EvL w' x (evs d v l ch).length (evs d v l ch) ∧ Below W.heap.size W w') := Lib.hid (fun W hW => iev_any d m v l ch a n c W hW.out.fb.i hok)
      have CP : Hid (∀ x q W, EvL W x (evs d v l ch).length (evs d v l ch) → Calls Try.prog 78 #[.slice x (evs d v l ch).length q, .int .i64 k] W fun e w' => e = .returned (.agg #[.int .i64 (wdI v l k), .int .i64 (orN d ch k)]) ∧ Below W.heap.size W w') := Lib.hid (fun x q W hW => by
        have := ipn_any (evs d v l ch) x (evs d v l ch).length q k W hW (evs_sm hok).1
        rw [psW_evs hok, psO_evs] at this
        exact this)
      have HV : Hid (fV (fmE true true) (wdI v l k) = wdI v l k ∧ fV (fmE true true) (orN d ch k) = orN d ch k ∧ fmE true true = 0) := Lib.hid ⟨rfl, rfl, rfl⟩
      rw [HV.out.1, HV.out.2.1, HV.out.2.2]
      obtain ⟨X, hX⟩ : ∃ y_, wdI v l k = y_ := ⟨_, rfl⟩
      obtain ⟨Y, hY⟩ : ∃ y_, orN d ch k = y_ := ⟨_, rfl⟩
      obtain ⟨es, hes⟩ : ∃ y_, evs d v l ch = y_ := ⟨_, rfl⟩
      rw [hX, hY, hes] at CP
      rw [hes] at CE
      rw [hX, hY]
      clear h hf hok hk hX hY hes
      go_enter Try.func85, Try.ntmps85
      go_wp2_with (first | (go_at_call 26; (with_reducible refine (CF.out _ HR).mono ?_); rintro e w1 ⟨rfl, hb⟩; have HR1 := Lib.hid (HR.out.on hb); obtain ⟨f0, f1, f2, f3, f4, r0, r1, z0, z1⟩ := frS HR1.out; clear hb) | (go_at_call 74; refine (CM.out _).mono ?_; rintro e w' ⟨rfl, rfl⟩))
      (with_reducible refine (CE.out _ HR1).mono ?_)
      rintro e w2 ⟨x, q, rfl, hev, hb⟩
      have HR2 := Lib.hid (HR1.out.on hb)
      have HEV := Lib.hid hev
      clear hb hev
      go_wp2_with fail
      (with_reducible refine (CP.out _ _ _ HEV.out).mono ?_)
      rintro e w3 ⟨rfl, hb⟩
      have HR3 := Lib.hid (HR2.out.on hb)
      obtain ⟨f0, f1, f2, f3, f4, r0, r1, z0, z1⟩ := frS HR3.out
      clear hb
      go_wp2_with fail
      obtain ⟨e0, e1, e2⟩ := frE HR3.out X Y
      refine bodyPost_ret (v := .tuple #[.agg #[.int .i64 X, .int .i64 Y], .int .i64 0]) ?_ rfl ⟨rfl, e2⟩
      simp [results, Try.results85, go_sem, e0, e1]

theorem gw_eq (E v l k : Int) : decide (0 < fV E (wdI v l k)) = fB E (wdB v l k) := by
  unfold fV fB wdI
  by_cases h : E = 0
  · rw [if_pos h, if_pos h]
    cases wdB v l k <;> simp
  · rw [if_neg h, if_neg h]; simp

theorem iar_any (p o : Int) (w : World) : Calls Try.prog 76 #[.int .i64 p, .int .i64 o] w fun e w' => e = .returned (.bool (rtP p o)) ∧ w = w' := by
  by_cases h1 : inB p 0 1000000 = true
  · have HR : Hid (rtP p o = inB o 0 1000000) := Lib.hid (by unfold rtP; rw [h1]; rfl)
    go_enter Try.func76, Try.ntmps76
    go_wp2_with (go_at_call 75; refine (within_any _ _ _ _).mono ?_; rintro e w' ⟨rfl, rfl⟩)
    go_ret
    exact ⟨ret_bool HR.out.symm, rfl⟩
  · have h1' : inB p 0 1000000 = false := by simpa using h1
    have HR : Hid (rtP p o = false) := Lib.hid (by unfold rtP; rw [h1']; rfl)
    go_enter Try.func76, Try.ntmps76
    go_wp2_with (go_at_call 75; refine (within_any _ _ _ _).mono ?_; rintro e w' ⟨rfl, rfl⟩)
    go_ret
    exact ⟨ret_bool HR.out.symm, rfl⟩

theorem igw_any (d m v l : Int) (ch : List Int) (a : Option Addr) (n c : Nat) (k : Int) (w : World) (h : Ints w a n ch) :
    Calls Try.prog 22 #[.agg #[.int .i64 d, .int .i64 m, .int .i64 v, .int .i64 l, .slice a n c], .int .i64 k] w fun e w' => e = .returned (.tuple #[.bool (fB (fmE (fmB d m v l ch) (mthB k)) (wdB v l k)), .int .i64 (fmE (fmB d m v l ch) (mthB k))]) ∧ Below w.heap.size w w' := by
  have HB := Lib.hid (FB.new w d m v l (c := c) h)
  have HG := Lib.hid (gw_eq (fmE (fmB d m v l ch) (mthB k)) v l k)
  have CP : Hid (∀ W, Hid (FB w d m v l a n c ch W) → Calls Try.prog 85 #[.agg #[.int .i64 d, .int .i64 m, .int .i64 v, .int .i64 l, .slice a n c], .int .i64 k] W (PnP (fV (fmE (fmB d m v l ch) (mthB k)) (wdI v l k)) (fV (fmE (fmB d m v l ch) (mthB k)) (orN d ch k)) (fmE (fmB d m v l ch) (mthB k)) W)) := Lib.hid (fun W hW => ipo_any d m v l ch a n c k W hW.out.i)
  obtain ⟨E, hE⟩ : ∃ y_, fmE (fmB d m v l ch) (mthB k) = y_ := ⟨_, rfl⟩
  rw [hE] at CP HG ⊢
  obtain ⟨X, hX⟩ : ∃ y_, fV E (wdI v l k) = y_ := ⟨_, rfl⟩
  obtain ⟨Y, hY⟩ : ∃ y_, fV E (orN d ch k) = y_ := ⟨_, rfl⟩
  rw [hX, hY] at CP
  rw [hX] at HG
  unfold PnP at CP
  obtain ⟨f0, f1, f2, f3, f4, -⟩ := fbS HB.out
  have HY := Lib.hid hY
  clear h hE hX hY
  go_enter Try.func22, Try.ntmps22
  go_wp2_with fail
  (with_reducible refine (CP.out _ HB).mono ?_)
  rintro e w1 ⟨rfl, hb⟩
  have HB1 := Lib.hid ((HB.out.on hb).box (.cells #[.int .i64 X, .int .i64 Y] 95))
  clear hb
  go_wp2_with fail
  go_ret2
  exact ⟨by rw [← HG.out]; rfl, HB1.out.low⟩

theorem ioi_any (d m v l : Int) (ch : List Int) (a : Option Addr) (n c : Nat) (k : Int) (w : World) (h : Ints w a n ch) :
    Calls Try.prog 24 #[.agg #[.int .i64 d, .int .i64 m, .int .i64 v, .int .i64 l, .slice a n c], .int .i64 k] w fun e w' => e = .returned (.tuple #[.int .i64 (fV (fmE (fmB d m v l ch) (mthB k)) (orN d ch k)), .int .i64 (fmE (fmB d m v l ch) (mthB k))]) ∧ Below w.heap.size w w' := by
  have HB := Lib.hid (FB.new w d m v l (c := c) h)
  have HG := Lib.hid (gw_eq (fmE (fmB d m v l ch) (mthB k)) v l k)
  have CP : Hid (∀ W, Hid (FB w d m v l a n c ch W) → Calls Try.prog 85 #[.agg #[.int .i64 d, .int .i64 m, .int .i64 v, .int .i64 l, .slice a n c], .int .i64 k] W (PnP (fV (fmE (fmB d m v l ch) (mthB k)) (wdI v l k)) (fV (fmE (fmB d m v l ch) (mthB k)) (orN d ch k)) (fmE (fmB d m v l ch) (mthB k)) W)) := Lib.hid (fun W hW => ipo_any d m v l ch a n c k W hW.out.i)
  obtain ⟨E, hE⟩ : ∃ y_, fmE (fmB d m v l ch) (mthB k) = y_ := ⟨_, rfl⟩
  rw [hE] at CP HG ⊢
  obtain ⟨X, hX⟩ : ∃ y_, fV E (wdI v l k) = y_ := ⟨_, rfl⟩
  obtain ⟨Y, hY⟩ : ∃ y_, fV E (orN d ch k) = y_ := ⟨_, rfl⟩
  rw [hX, hY] at CP
  rw [hX] at HG
  unfold PnP at CP
  obtain ⟨f0, f1, f2, f3, f4, -⟩ := fbS HB.out
  have HY := Lib.hid hY
  clear h hE hX hY
  go_enter Try.func24, Try.ntmps24
  go_wp2_with fail
  (with_reducible refine (CP.out _ HB).mono ?_)
  rintro e w1 ⟨rfl, hb⟩
  have HB1 := Lib.hid ((HB.out.on hb).box (.cells #[.int .i64 X, .int .i64 Y] 95))
  clear hb
  go_wp2_with fail
  go_ret2
  exact ⟨by rw [HY.out]; rfl, HB1.out.low⟩

end Go.Proofs.Ytmnddplkmljeaaa
