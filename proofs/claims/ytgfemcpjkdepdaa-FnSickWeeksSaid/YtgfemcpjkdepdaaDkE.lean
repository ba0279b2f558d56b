/- The model's draw of what WeeksAt takes. -/
import Derived.Test.YtgfemcpjkdepdaaDkD
namespace Go.Proofs.Ytgfemcpjkdepdaa
open Go.ChangeShapes Go.WideShapes Go.ChangeAt Go.RowKit
set_option linter.unusedVariables false
set_option linter.unusedSimpArgs false
set_option maxRecDepth 100000

def WxPost (w : World) (e : Ending) (w' : World) : Prop :=
  ∃ F ta tn tc xs x, e = .returned (.tuple #[.agg #[.int .i64 F, .slice ta tn tc], .int .i64 x]) ∧ Ints w' ta tn xs ∧ tn ≤ tc ∧ tn ≤ 30 ∧ Below w.heap.size w w'

/-- a drawn table behind which a number is drawn: the result's cells are written -/
theorem wx_fin {B X : Nat} {F x : Int} {ta : Option Addr} {tn tc : Nat} {xs : List Int} {w W : World} (hI : Ints W ta tn xs) (far : ∀ y, ta = some y → X < y.block) (h1 : tn ≤ tc) (h2 : tn ≤ 30) (hb : Below X w W) (eX : w.heap.size = X) (hr : Bx W X [.int .i64 0, .slice none 0 0]) :
    WxPost w (.returned (.tuple #[.agg #[.int .i64 F, .slice ta tn tc], .int .i64 x])) ((W.setCell ⟨X, 0, none⟩ (.int .i64 F)).setCell ⟨X, 1, none⟩ (.slice ta tn tc)) ∧
    ((W.setCell ⟨X, 0, none⟩ (.int .i64 F)).setCell ⟨X, 1, none⟩ (.slice ta tn tc)).cell? ⟨X, 0, none⟩ = some (.int .i64 F) ∧ ((W.setCell ⟨X, 0, none⟩ (.int .i64 F)).setCell ⟨X, 1, none⟩ (.slice ta tn tc)).cell? ⟨X, 1, none⟩ = some (.slice ta tn tc) := by
  have ho : Only X W ((W.setCell ⟨X, 0, none⟩ (.int .i64 F)).setCell ⟨X, 1, none⟩ (.slice ta tn tc)) := ((Only.refl _ _).setCell (p := ⟨X, 0, none⟩) rfl _).setCell (p := ⟨X, 1, none⟩) rfl _
  have n1 : (⟨X, 0, none⟩ : Addr) ≠ ⟨X, 1, none⟩ := fun e => by injection e; omega
  refine ⟨⟨F, ta, tn, tc, xs, x, rfl, hI.butT ho.but (fun y hy => by have := far y hy; omega), h1, h2, ?_⟩, ?_, ?_⟩
  · have := hb.trans (ho.below (Nat.le_refl X))
    rw [eX]; exact this
  · rw [far_set n1]; exact World.cell?_setCell_same' _ _ _ (by rw [hr.two.1]; rfl)
  · exact World.cell?_setCell_same' _ _ _ (by rw [far_set n1.symm, hr.two.2]; rfl)

set_option maxHeartbeats 2000000 in
theorem drawWX (a : Option Addr) (l c : Nat) (z : List Int) (w : World) (hr : IsRow .u8 w a l c z) : Calls Try.prog 14 #[.slice a l c] w (WxPost w) := by
  have hq := box_b w (.cells #[.int .i64 0, .slice none 0 0] 26)
  have hR1 := hr.below hq hr.apart
  have HR1 : Hid (IsRow .u8 (w.alloc (.cells #[.int .i64 0, .slice none 0 0] 26)) a l c z) := Lib.hid hR1
  have hrb := Bx.new w [.int .i64 0, .slice none 0 0] 26
  clear hr hR1
  go_enter Try.func14, Try.ntmps14
  go_wp2_with fail
  refine (from_any _ _ _ z _ HR1.out).mono ?_
  rintro e w1 ⟨rfl, hs, hz, hb⟩
  have HS := Lib.hid (ready_of HR1.out hs hb)
  have hrb := hrb.on hb
  have HB := Lib.hid (hq.trans (hb.mono (by simp)))
  rw [World.size_alloc] at HS hz ⊢
  obtain ⟨X, hX⟩ : ∃ X, w.heap.size = X := ⟨_, rfl⟩
  rw [hX] at hrb HS HB hz ⊢
  obtain ⟨B, hBX⟩ : ∃ B, X + 1 = B := ⟨_, rfl⟩
  rw [hBX] at HS hz ⊢
  have oB : X < B := by omega
  clear hb hs hBX hq
  go_wp2_with fail
  refine (next_r _ _ _ _ _ _ _ HS.out).mono ?_
  rintro e w2 ⟨r, rfl, hd, ho, hs⟩
  have hrb := hrb.same (ho.block X hrb.lt (by omega))
  have HB := Lib.hid (HB.out.trans (ho.below (A := X) (by omega) (by omega)))
  have HS := Lib.hid hs
  have hz := ho.size
  clear hd ho hs
  by_cases hr0 : r = 0
  · subst hr0
    go_wp2_with fail
    refine (dsick B a l c z w2 HS.out).mono ?_
    rintro e w3 ⟨F, ta, tn, tc, xs, rfl, hI, htc, htn, f0, f1, far, ho, hs⟩
    have hrb := hrb.same (ho.block X hrb.lt (by omega))
    have HB := Lib.hid (HB.out.trans (ho.below (A := X) (by omega) (by omega)))
    have HS := Lib.hid hs
    have HF : Hid (∀ x, ta = some x → B < x.block) := Lib.hid (fun x hx => by have := far x hx; omega)
    have hI := hI
    clear far ho hs
    go_wp2_with fail
    refine (pick4 _ _ _ _ _ _ _ HS.out).mono ?_
    rintro e w4 ⟨x, rfl, hd, ho, hs⟩
    have hB4 := HS.out.here
    have hrb := hrb.same (ho.block X hrb.lt (by omega))
    have HB := Lib.hid (HB.out.trans (ho.below (A := X) (by omega) (by omega)))
    have hI := hI.butT ho (fun y hy => by have := HF.out y hy; omega)
    obtain ⟨hpo, e0, e1⟩ := wx_fin (B := B) (F := F) (x := x) (tc := tc) hI (fun y hy => by have := HF.out y hy; omega) htc htn HB.out hX hrb
    have HPO := Lib.hid hpo
    obtain ⟨x0, x1⟩ := hrb.two
    have m0 := hrb.free 0
    have m1 := hrb.free 1
    clear hpo hI ho hs hd
    go_wp2_with fail
    exact bodyPost_ret (v := .tuple #[.agg #[.int .i64 F, .slice ta tn tc], .int .i64 x]) (by simp [results, Try.results14, go_sem, e0, e1]) rfl HPO.out
  · have b0 : (r == 0) = false := by simpa using hr0
    go_wp2_with fail
    refine (dsick B a l c z w2 HS.out).mono ?_
    rintro e w3 ⟨F, ta, tn, tc, xs, rfl, hI, htc, htn, f0, f1, far, ho, hs⟩
    have hrb := hrb.same (ho.block X hrb.lt (by omega))
    have HB := Lib.hid (HB.out.trans (ho.below (A := X) (by omega) (by omega)))
    have HS := Lib.hid hs
    have HF : Hid (∀ x, ta = some x → B < x.block) := Lib.hid (fun x hx => by have := far x hx; omega)
    clear far ho hs
    go_wp2_with fail
    refine (next_r _ _ _ _ _ _ _ HS.out).mono ?_
    rintro e w4 ⟨x, rfl, hd, ho, hs⟩
    have hB4 := HS.out.here
    have hrb := hrb.same (ho.block X hrb.lt (by omega))
    have HB := Lib.hid (HB.out.trans (ho.below (A := X) (by omega) (by omega)))
    have hI := hI.butT ho (fun y hy => by have := HF.out y hy; omega)
    obtain ⟨hpo, e0, e1⟩ := wx_fin (B := B) (F := F) (x := x) (tc := tc) hI (fun y hy => by have := HF.out y hy; omega) htc htn HB.out hX hrb
    have HPO := Lib.hid hpo
    obtain ⟨x0, x1⟩ := hrb.two
    have m0 := hrb.free 0
    have m1 := hrb.free 1
    clear hpo hI ho hs hd
    go_wp2_with fail
    exact bodyPost_ret (v := .tuple #[.agg #[.int .i64 F, .slice ta tn tc], .int .i64 x]) (by simp [results, Try.results14, go_sem, e0, e1]) rfl HPO.out

end Go.Proofs.Ytgfemcpjkdepdaa
