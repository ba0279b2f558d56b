/- Merged: Dpr. -/
import Derived.Test.YtnppkdnmkhoeeaaGreatFp15

/- Policies: what the laws draw: a basis and a policy, a basis. (Written by wip/gen/dpr.py.) -/
namespace Go.Proofs.YtnppkdnmkhoeeaaGreat
open Go.ChangeShapes Go.WideShapes Go.ChangeAt Go.RowKit
set_option linter.unusedVariables false
set_option linter.unusedSimpArgs false

set_option maxHeartbeats 1000000 in
theorem two_end {X Y : Nat} {V E : World} {F : Int} {ta : Option Addr} {tn tc : Nat} {xs : List Int} {r k x n s u : Int} (rx : Bx V X [.int .i64 0, .slice none 0 0, .int .i64 0]) (ry : Bx V Y [.int .i64 0, .int .i64 0, .int .i64 0, .int .i64 0, .int .i64 0]) (hXY : X < Y) (hi : Ints V ta tn xs) (far : ∀ y, ta = some y → Y < y.block) (hE : E = ((((((((V.setCell ⟨X, 0, none⟩ (.int .i64 F)).setCell ⟨X, 1, none⟩ (.slice ta tn tc)).setCell ⟨X, 2, none⟩ (.int .i64 r)).setCell ⟨Y, 0, none⟩ (.int .i64 k)).setCell ⟨Y, 1, none⟩ (.int .i64 x)).setCell ⟨Y, 2, none⟩ (.int .i64 n)).setCell ⟨Y, 3, none⟩ (.int .i64 s)).setCell ⟨Y, 4, none⟩ (.int .i64 u))) :
    Bx E X [.int .i64 F, .slice ta tn tc, .int .i64 r] ∧ Bx E Y [.int .i64 k, .int .i64 x, .int .i64 n, .int .i64 s, .int .i64 u] ∧ Ints E ta tn xs ∧ Below X V E := by
  have nXY : X ≠ Y := by omega
  have nYX : Y ≠ X := by omega
  have x8 := ((((((((rx.p30 (.int .i64 F)).p31 (.slice ta tn tc)).p32 (.int .i64 r)).off nXY 0 (.int .i64 k)).off nXY 1 (.int .i64 x)).off nXY 2 (.int .i64 n)).off nXY 3 (.int .i64 s)).off nXY 4 (.int .i64 u))
  have y8 := ((((((((ry.off nYX 0 (.int .i64 F)).off nYX 1 (.slice ta tn tc)).off nYX 2 (.int .i64 r)).p50 (.int .i64 k)).p51 (.int .i64 x)).p52 (.int .i64 n)).p53 (.int .i64 s)).p54 (.int .i64 u))
  have hlow := (((((((((Below.refl X V).setCell (p := ⟨X, 0, none⟩) (by show X ≤ X; omega) (.int .i64 F)).setCell (p := ⟨X, 1, none⟩) (by show X ≤ X; omega) (.slice ta tn tc)).setCell (p := ⟨X, 2, none⟩) (by show X ≤ X; omega) (.int .i64 r)).setCell (p := ⟨Y, 0, none⟩) (by show X ≤ Y; omega) (.int .i64 k)).setCell (p := ⟨Y, 1, none⟩) (by show X ≤ Y; omega) (.int .i64 x)).setCell (p := ⟨Y, 2, none⟩) (by show X ≤ Y; omega) (.int .i64 n)).setCell (p := ⟨Y, 3, none⟩) (by show X ≤ Y; omega) (.int .i64 s)).setCell (p := ⟨Y, 4, none⟩) (by show X ≤ Y; omega) (.int .i64 u))
  have hall : ∀ j, j ≠ X → j ≠ Y → ((((((((V.setCell ⟨X, 0, none⟩ (.int .i64 F)).setCell ⟨X, 1, none⟩ (.slice ta tn tc)).setCell ⟨X, 2, none⟩ (.int .i64 r)).setCell ⟨Y, 0, none⟩ (.int .i64 k)).setCell ⟨Y, 1, none⟩ (.int .i64 x)).setCell ⟨Y, 2, none⟩ (.int .i64 n)).setCell ⟨Y, 3, none⟩ (.int .i64 s)).setCell ⟨Y, 4, none⟩ (.int .i64 u)).heap[j]? = V.heap[j]? := fun j hx hy => ((setoff (((((((V.setCell ⟨X, 0, none⟩ (.int .i64 F)).setCell ⟨X, 1, none⟩ (.slice ta tn tc)).setCell ⟨X, 2, none⟩ (.int .i64 r)).setCell ⟨Y, 0, none⟩ (.int .i64 k)).setCell ⟨Y, 1, none⟩ (.int .i64 x)).setCell ⟨Y, 2, none⟩ (.int .i64 n)).setCell ⟨Y, 3, none⟩ (.int .i64 s)) Y 4 (.int .i64 u) j hy).trans ((setoff ((((((V.setCell ⟨X, 0, none⟩ (.int .i64 F)).setCell ⟨X, 1, none⟩ (.slice ta tn tc)).setCell ⟨X, 2, none⟩ (.int .i64 r)).setCell ⟨Y, 0, none⟩ (.int .i64 k)).setCell ⟨Y, 1, none⟩ (.int .i64 x)).setCell ⟨Y, 2, none⟩ (.int .i64 n)) Y 3 (.int .i64 s) j hy).trans ((setoff (((((V.setCell ⟨X, 0, none⟩ (.int .i64 F)).setCell ⟨X, 1, none⟩ (.slice ta tn tc)).setCell ⟨X, 2, none⟩ (.int .i64 r)).setCell ⟨Y, 0, none⟩ (.int .i64 k)).setCell ⟨Y, 1, none⟩ (.int .i64 x)) Y 2 (.int .i64 n) j hy).trans ((setoff ((((V.setCell ⟨X, 0, none⟩ (.int .i64 F)).setCell ⟨X, 1, none⟩ (.slice ta tn tc)).setCell ⟨X, 2, none⟩ (.int .i64 r)).setCell ⟨Y, 0, none⟩ (.int .i64 k)) Y 1 (.int .i64 x) j hy).trans ((setoff (((V.setCell ⟨X, 0, none⟩ (.int .i64 F)).setCell ⟨X, 1, none⟩ (.slice ta tn tc)).setCell ⟨X, 2, none⟩ (.int .i64 r)) Y 0 (.int .i64 k) j hy).trans ((setoff ((V.setCell ⟨X, 0, none⟩ (.int .i64 F)).setCell ⟨X, 1, none⟩ (.slice ta tn tc)) X 2 (.int .i64 r) j hx).trans ((setoff (V.setCell ⟨X, 0, none⟩ (.int .i64 F)) X 1 (.slice ta tn tc) j hx).trans (setoff V X 0 (.int .i64 F) j hx))))))))
  obtain ⟨G, hG⟩ : ∃ y_, ((((((((V.setCell ⟨X, 0, none⟩ (.int .i64 F)).setCell ⟨X, 1, none⟩ (.slice ta tn tc)).setCell ⟨X, 2, none⟩ (.int .i64 r)).setCell ⟨Y, 0, none⟩ (.int .i64 k)).setCell ⟨Y, 1, none⟩ (.int .i64 x)).setCell ⟨Y, 2, none⟩ (.int .i64 n)).setCell ⟨Y, 3, none⟩ (.int .i64 s)).setCell ⟨Y, 4, none⟩ (.int .i64 u)) = y_ := ⟨_, rfl⟩
  rw [hG] at x8 y8 hlow hall hE
  clear hG
  subst hE
  refine ⟨x8, y8, ?_, hlow⟩
  refine ⟨hi.len, hi.max, ?_⟩
  rcases hi.cells with h0 | ⟨b, off, rfl, hc⟩
  · exact .inl h0
  · have hb : Y < b := far ⟨b, off, none⟩ rfl
    exact .inr ⟨b, off, rfl, fun i hI => (World.cell?_of_block (w := V) (a := ⟨b, off + i, none⟩) (hall b (by omega) (by omega))).trans (hc i hI)⟩


set_option maxHeartbeats 1000000 in
theorem one_end {X : Nat} {V E : World} {F : Int} {ta : Option Addr} {tn tc : Nat} {xs : List Int} {r : Int} (rx : Bx V X [.int .i64 0, .slice none 0 0, .int .i64 0]) (hi : Ints V ta tn xs) (far : ∀ y, ta = some y → X < y.block) (hE : E = (((V.setCell ⟨X, 0, none⟩ (.int .i64 F)).setCell ⟨X, 1, none⟩ (.slice ta tn tc)).setCell ⟨X, 2, none⟩ (.int .i64 r))) :
    Bx E X [.int .i64 F, .slice ta tn tc, .int .i64 r] ∧ Ints E ta tn xs ∧ Below X V E := by
  have x8 := (((rx.p30 (.int .i64 F)).p31 (.slice ta tn tc)).p32 (.int .i64 r))
  have hlow := ((((Below.refl X V).setCell (p := ⟨X, 0, none⟩) (by show X ≤ X; omega) (.int .i64 F)).setCell (p := ⟨X, 1, none⟩) (by show X ≤ X; omega) (.slice ta tn tc)).setCell (p := ⟨X, 2, none⟩) (by show X ≤ X; omega) (.int .i64 r))
  have hall : ∀ j, j ≠ X → (((V.setCell ⟨X, 0, none⟩ (.int .i64 F)).setCell ⟨X, 1, none⟩ (.slice ta tn tc)).setCell ⟨X, 2, none⟩ (.int .i64 r)).heap[j]? = V.heap[j]? := fun j hx => ((setoff ((V.setCell ⟨X, 0, none⟩ (.int .i64 F)).setCell ⟨X, 1, none⟩ (.slice ta tn tc)) X 2 (.int .i64 r) j hx).trans ((setoff (V.setCell ⟨X, 0, none⟩ (.int .i64 F)) X 1 (.slice ta tn tc) j hx).trans (setoff V X 0 (.int .i64 F) j hx)))
  obtain ⟨G, hG⟩ : ∃ y_, (((V.setCell ⟨X, 0, none⟩ (.int .i64 F)).setCell ⟨X, 1, none⟩ (.slice ta tn tc)).setCell ⟨X, 2, none⟩ (.int .i64 r)) = y_ := ⟨_, rfl⟩
  rw [hG] at x8 hlow hall hE
  clear hG
  subst hE
  refine ⟨x8, ?_, hlow⟩
  refine ⟨hi.len, hi.max, ?_⟩
  rcases hi.cells with h0 | ⟨b, off, rfl, hc⟩
  · exact .inl h0
  · have hb : X < b := far ⟨b, off, none⟩ rfl
    exact .inr ⟨b, off, rfl, fun i hI => (World.cell?_of_block (w := V) (a := ⟨b, off + i, none⟩) (hall b (by omega))).trans (hc i hI)⟩


def DgPost (w : World) (e : Ending) (w' : World) : Prop :=
  ∃ F ta tn tc xs r k x n s u, e = .returned (.tuple #[.agg #[.int .i64 F, .slice ta tn tc, .int .i64 r], .agg #[.int .i64 k, .int .i64 x, .int .i64 n, .int .i64 s, .int .i64 u]]) ∧ Ints w' ta tn xs ∧ tn ≤ tc ∧ tn ≤ 4096 ∧ Below w.heap.size w w'

def DbPost (w : World) (e : Ending) (w' : World) : Prop :=
  ∃ F ta tn tc xs r, e = .returned (.agg #[.int .i64 F, .slice ta tn tc, .int .i64 r]) ∧ Ints w' ta tn xs ∧ tn ≤ tc ∧ tn ≤ 4096 ∧ Below w.heap.size w w'

set_option maxRecDepth 100000 in
set_option maxHeartbeats 4000000 in
theorem drawPG (a : Option Addr) (l c : Nat) (z : List Int) (w : World) (hr : IsRow .u8 w a l c z) : Calls Tryz.prog 7 #[.slice a l c] w (DgPost w) := by
  have hb1 := box_b w (.cells #[.int .i64 0, .slice none 0 0, .int .i64 0] 28)
  have hb2 := box_b (w.alloc (.cells #[.int .i64 0, .slice none 0 0, .int .i64 0] 28)) (.cells #[.int .i64 0, .int .i64 0, .int .i64 0, .int .i64 0, .int .i64 0] 30)
  have x0 := (Bx.new w [.int .i64 0, .slice none 0 0, .int .i64 0] 28).on hb2
  have y0 := Bx.new (w.alloc (.cells #[.int .i64 0, .slice none 0 0, .int .i64 0] 28)) [.int .i64 0, .int .i64 0, .int .i64 0, .int .i64 0, .int .i64 0] 30
  rw [World.size_alloc] at y0
  have HB := Lib.hid (hb1.trans (hb2.mono (by simp)))
  have HX := Lib.hid (And.intro x0 y0)
  have HR := Lib.hid (hr.below HB.out hr.apart)
  clear hr hb1 hb2 x0 y0
  go_enter Tryz.func7, Tryz.ntmps7
  go_wp2_with fail
  have hsz : ((w.alloc (.cells #[.int .i64 0, .slice none 0 0, .int .i64 0] 28)).alloc (.cells #[.int .i64 0, .int .i64 0, .int .i64 0, .int .i64 0, .int .i64 0] 30)).heap.size = w.heap.size + 1 + 1 := by simp
  obtain ⟨W0, hW0⟩ : ∃ y_, (w.alloc (.cells #[.int .i64 0, .slice none 0 0, .int .i64 0] 28)).alloc (.cells #[.int .i64 0, .int .i64 0, .int .i64 0, .int .i64 0, .int .i64 0] 30) = y_ := ⟨_, rfl⟩
  rw [hW0] at HB HX HR hsz ⊢
  clear hW0
  refine (from_any _ _ _ z _ HR.out).mono ?_
  rintro e w1 ⟨rfl, hs, hz, hb⟩
  have HS := Lib.hid (ready_of HR.out hs hb)
  have hx := HX.out.1.on hb
  have hy := HX.out.2.on hb
  have HB1 := Lib.hid (HB.out.trans (hb.mono HB.out.size))
  have HZ := Lib.hid hz
  have HSZ := Lib.hid hsz
  clear hb hz hs HX HB HR hsz
  go_wp2_with fail
  refine (d10 _ a l c z w1 HS.out).mono ?_
  rintro e w2 ⟨F, ta, tn, tc, xs, r, k, x, n, s, u, rfl, hI, htc, htn, far, ho, -⟩
  have e1 := HSZ.out
  have e2 := HZ.out
  have hx2 := hx.same (ho.block _ hx.lt (by omega))
  have hy2 := hy.same (ho.block _ hy.lt (by omega))
  have HEND := Lib.hid (fun E hE => two_end (E := E) (F := F) (tc := tc) (r := r) (k := k) (x := x) (n := n) (s := s) (u := u) hx2 hy2 (by omega) hI (fun y hy => by have := far y hy; omega) hE)
  have HLOW := Lib.hid (HB1.out.trans (ho.below (by omega) (by omega)))
  have HT := Lib.hid (And.intro htc htn)
  obtain ⟨x0, x1, x2⟩ := hx2.three0
  obtain ⟨y0, y1, y2, y3, y4⟩ := hy2.five9
  have fx0 := hx2.free 0
  have fx1 := hx2.free 1
  have fx2 := hx2.free 2
  have fy0 := hy2.free 0
  have fy1 := hy2.free 1
  have fy2 := hy2.free 2
  have fy3 := hy2.free 3
  have fy4 := hy2.free 4
  clear hx hy hx2 hy2 hI far ho e1 e2 htc htn HS HZ HSZ HB1
  go_wp2_with fail
  obtain ⟨hbx, hby, hi, hlw⟩ := HEND.out _ rfl
  obtain ⟨e0, e1, e2⟩ := hbx.three0
  obtain ⟨e3, e4, e5, e6, e7⟩ := hby.five9
  exact bodyPost_ret (v := .tuple #[.agg #[.int .i64 F, .slice ta tn tc, .int .i64 r], .agg #[.int .i64 k, .int .i64 x, .int .i64 n, .int .i64 s, .int .i64 u]]) (by simp [results, Tryz.results7, go_sem, e0, e1, e2, e3, e4, e5, e6, e7]) rfl ⟨F, ta, tn, tc, xs, r, k, x, n, s, u, rfl, hi, HT.out.1, HT.out.2, HLOW.out.trans hlw⟩

set_option maxRecDepth 100000 in
set_option maxHeartbeats 4000000 in
theorem drawIB (a : Option Addr) (l c : Nat) (z : List Int) (w : World) (hr : IsRow .u8 w a l c z) : Calls Tryz.prog 16 #[.slice a l c] w (DbPost w) := by
  have hb1 := box_b w (.cells #[.int .i64 0, .slice none 0 0, .int .i64 0] 28)
  have HX := Lib.hid (Bx.new w [.int .i64 0, .slice none 0 0, .int .i64 0] 28)
  have HB := Lib.hid hb1
  have HR := Lib.hid (hr.below HB.out hr.apart)
  clear hr hb1
  go_enter Tryz.func16, Tryz.ntmps16
  go_wp2_with fail
  have hsz : (w.alloc (.cells #[.int .i64 0, .slice none 0 0, .int .i64 0] 28)).heap.size = w.heap.size + 1 := by simp
  obtain ⟨W0, hW0⟩ : ∃ y_, w.alloc (.cells #[.int .i64 0, .slice none 0 0, .int .i64 0] 28) = y_ := ⟨_, rfl⟩
  rw [show w.alloc (.cells [.int .i64 0, .slice none 0 0, .int .i64 0].toArray 28) = W0 from hW0] at HX
  rw [hW0] at HB HR hsz ⊢
  clear hW0
  refine (from_any _ _ _ z _ HR.out).mono ?_
  rintro e w1 ⟨rfl, hs, hz, hb⟩
  have HS := Lib.hid (ready_of HR.out hs hb)
  have hx := HX.out.on hb
  have HB1 := Lib.hid (HB.out.trans (hb.mono HB.out.size))
  have HZ := Lib.hid hz
  have HSZ := Lib.hid hsz
  clear hb hz hs HX HB HR hsz
  go_wp2_with fail
  refine (drawTR _ a l c z w1 HS.out).mono ?_
  rintro e w2 ⟨F, ta, tn, tc, xs, r, rfl, hI, htc, htn, f0, f1, far, ho, -⟩
  have e1 := HSZ.out
  have e2 := HZ.out
  have hq := box_b w2 (.cells #[.int .i64 F, .slice ta tn tc] 26)
  have hx2 := (hx.same (ho.block _ hx.lt (by omega))).on hq
  have HI := Lib.hid (hI.on hq)
  have HEND := Lib.hid (fun E hE => one_end (E := E) (F := F) (tc := tc) (r := r) hx2 HI.out (fun y hy => by have := far y hy; omega) hE)
  have hs2 := ho.size
  have HLOW := Lib.hid ((HB1.out.trans (ho.below (by omega) (by omega))).trans (hq.mono (by omega)))
  have HT := Lib.hid (And.intro htc htn)
  obtain ⟨t0, t1⟩ := (Bx.new w2 [.int .i64 F, .slice ta tn tc] 26).two
  obtain ⟨x0, x1, x2⟩ := hx2.three0
  have fx0 := hx2.free 0
  have fx1 := hx2.free 1
  have fx2 := hx2.free 2
  clear hx hx2 hI far ho e1 e2 htc htn HS HZ HSZ HB1 hq hs2
  go_wp2_with fail
  obtain ⟨hbx, hi, hlw⟩ := HEND.out _ rfl
  obtain ⟨e0, e1, e2⟩ := hbx.three0
  exact bodyPost_ret (v := .agg #[.int .i64 F, .slice ta tn tc, .int .i64 r]) (by simp [results, Tryz.results16, go_sem, e0, e1, e2]) rfl ⟨F, ta, tn, tc, xs, r, rfl, hi, HT.out.1, HT.out.2, HLOW.out.trans hlw⟩

end Go.Proofs.YtnppkdnmkhoeeaaGreat
