/- The exact law on ReadSick. (Written by wip/gen/sictx.py.) -/
import Derived.Test.YtgfemcpjkdepdaaDoorSktR
import Derived.Test.YtgfemcpjkdepdaaDoorSit
namespace Go.Proofs.YtgfemcpjkdepdaaDoor
open Go.ChangeShapes Go.WideShapes Go.ChangeAt Go.RowKit
set_option linter.unusedVariables false
set_option linter.unusedSimpArgs false
set_option maxRecDepth 100000

theorem eqK_tb (F : Int) (ys : List Int) (a b : Option Addr) (n m c d : Nat) (w : World) (h : Ints w a n ys) (k : Ints w b m ys) : Calls Tryd.prog 9 #[.agg #[.int .i64 F, .slice a n c], .agg #[.int .i64 F, .slice b m d]] w fun e w' => e = .returned (.bool true) ∧ Below w.heap.size w w' := eqK_same F ys a b n m c d w h k

/-- two cells that had just been laid, and the world as a letter -/
theorem lay2 (w : World) (x y : Value) (T : TypeId) : ∃ v, w.alloc (.cells #[x, y] T) = v ∧ v.cell? ⟨w.heap.size, 0, none⟩ = some x ∧ v.cell? ⟨w.heap.size, 1, none⟩ = some y ∧ Below w.heap.size w v ∧ v.heap.size = w.heap.size + 1 :=
  ⟨_, rfl, World.cell?_alloc_new _ _ _ _, World.cell?_alloc_new _ _ _ _, box_b _ _, World.size_alloc _ _⟩

def TkP (F : Int) (Y : List Int) (O : Bool) (w : World) (e : Ending) (w' : World) : Prop :=
  ∃ a n c, e = .returned (.tuple #[.agg #[.int .i64 F, .slice a n c], .bool O]) ∧ n ≤ c ∧ TbR w.heap.size w' a n Y ∧ Below w.heap.size w w'

set_option maxHeartbeats 4000000 in
theorem fnExactReadSick_walk (s0 : ByteArray) (ws0 : s0.size ≤ maxLen) (w : World) (ht : Tab w) (hsh : w.ShapedOpen Tryd.prog) (h1 : ErrIs w "strconv.ErrSyntax") (h2 : ErrIs w "strconv.ErrRange") :
    Calls Tryd.prog 4 #[.string s0] w fun e w' => e = .returned (.bool true) ∧ Below w.heap.size w w' := by
  have HA := Lib.hid (AskT.mk ht ⟨h1, h2, hsh⟩)
  clear ht hsh h1 h2
  by_cases hbig : (1048576 : Int) < s0.size
  · unfold maxLen at ws0
    go_enter Tryd.func4, Tryd.ntmps4
    go_wp2_with fail
    go_ret
    exact ⟨rfl, Below.refl _ _⟩
  · obtain ⟨F, hF⟩ : ∃ F, tkF s0.data.toList = F := ⟨_, rfl⟩
    obtain ⟨Y, hY⟩ : ∃ Y, tkY s0.data.toList = Y := ⟨_, rfl⟩
    obtain ⟨O, hO⟩ : ∃ O, rkO s0.data.toList = O := ⟨_, rfl⟩
    have CS : Hid (∀ W : World, Calls Tryd.prog 10 #[.string s0] W (TkP F Y O W)) := Lib.hid (fun W => (rk_spec s0 W (by omega)).mono fun e w' hh => by unfold TkPost at hh; rw [hF, hY, hO] at hh; exact hh)
    have CI : Hid (∀ W : World, Below w.heap.size w W → Calls Tryd.prog 11 #[.string s0] W (TkP F Y O W)) := Lib.hid (fun W hW => (rk_impl s0 W (by omega) (HA.out.step hW)).mono fun e w' hh => by unfold TkPost at hh; rw [hF, hY, hO] at hh; exact hh)
    clear hF hY hO HA
    go_enter Tryd.func4, Tryd.ntmps4
    go_wp2_with fail
    refine (CS.out _).mono ?_
    rintro e w2 ⟨sa, sn, sc, rfl, _, hT, hb⟩
    have HB2 := Lib.hid hb
    have HS2 := Lib.hid hT.ints
    have HSA := Lib.hid hT.far
    clear hb hT
    go_wp2_with fail
    obtain ⟨v2, hv2, ht0, ht1, hq, hz2⟩ := lay2 w2 (.int .i64 F) (.slice sa sn sc) 27
    rw [hv2]
    have hB2 := HB2.out.trans (hq.mono HB2.out.size)
    have hI2 := HS2.out.on hq
    obtain ⟨T7, hT7⟩ : ∃ T, w2.heap.size = T := ⟨_, rfl⟩
    rw [hT7] at HSA ht0 ht1 hz2
    (try rw [hT7])
    have HWL : Hid (w.heap.size ≤ T7) := Lib.hid (by rw [← hT7]; exact HB2.out.size)
    clear HB2 HS2 hT7 hv2 hq
    refine (CI.out _ hB2).mono ?_
    rintro e w4 ⟨ga, gn, gc, rfl, _, hT, hb⟩
    have ht0 := keep2 hb ht0
    have ht1 := keep2 hb ht1
    have HB4 := Lib.hid (hB2.trans (hb.mono hB2.size))
    have HI4 := Lib.hid (hI2.on hb)
    have HGA := Lib.hid hT.far
    have HT4 := Lib.hid hT
    have hs4 : T7 < w4.heap.size := by have := hb.size; omega
    have hgn : gn ≤ 4096 := hT.2.1
    have HGN := Lib.hid hT.1
    rw [hz2] at HGA
    have HWT : Hid (w.heap.size ≤ T7) := HWL
    clear hb hT hB2 hI2 hz2
    go_wp2_with fail
    obtain ⟨v4, hv4, hp0, hp1, hq, hz5⟩ := lay2 w4 (.int .i64 F) (.slice ga gn gc) 27
    rw [hv4]
    have ht0 := keep2 hq ht0
    have ht1 := keep2 hq ht1
    have HB5 := Lib.hid (HB4.out.trans (hq.mono HB4.out.size))
    have HI5 := Lib.hid (HI4.out.on hq)
    have HT5 := Lib.hid (HT4.out.on hq)
    obtain ⟨T10, hT10⟩ : ∃ T, w4.heap.size = T := ⟨_, rfl⟩
    rw [hT10] at HGA hs4 hp0 hp1 hz5
    (try rw [hT10])
    clear hT10 hv4 hq HB4 HI4 HT4
    refine (eqK_tb F Y _ _ _ _ _ _ _ HT5.out.ints HI5.out).mono ?_
    rintro e w5 ⟨rfl, hb⟩
    have hp0 := keep2 hb hp0
    have hp1 := keep2 hb hp1
    have ht0 := keep2 hb ht0
    have ht1 := keep2 hb ht1
    have HB6 := Lib.hid (HB5.out.trans (hb.mono HB5.out.size))
    have HI6 := Lib.hid (HI5.out.on hb)
    have HT6 := Lib.hid (HT5.out.on hb)
    clear hb HB5 HI5 HT5
    go_wp2_with fail
    refine (markK_any F Y _ ga gn gc 1 _ HT6.out (by omega) (by omega)).mono ?_
    rintro e w10 ⟨rfl, hmt, hba⟩
    have hd0 := hba.cell ht0 (fun x hx => by have := HGA.out x hx; show x.block ≠ T7; omega)
    have hd1 := hba.cell ht1 (fun x hx => by have := HGA.out x hx; show x.block ≠ T7; omega)
    have hr0 := hba.cell hp0 (fun x hx => by have := HGA.out x hx; show x.block ≠ T10; omega)
    have hr1 := hba.cell hp1 (fun x hx => by have := HGA.out x hx; show x.block ≠ T10; omega)
    have HB10 := Lib.hid (HB6.out.trans (hba.low (fun x hx => by have := HGA.out x hx; have := HWT.out; omega) HB6.out.size))
    have HI10 := Lib.hid (Ints.butA HI6.out hba (fun x y hx hy => by have := HSA.out x hx; have := HGA.out y hy; omega))
    have HM10 := Lib.hid hmt
    clear hmt hba ht0 ht1 hp0 hp1 HB6 HI6 HT6
    go_wp2_with fail
    refine (heldK_any F ga gn gc 1 _ HM10.out.ints hgn (by omega) (by omega)).mono ?_
    rintro e w11 ⟨rfl, hb⟩
    have ht0 := keep2 hb hd0
    have ht1 := keep2 hb hd1
    have hp0 := keep2 hb hr0
    have hp1 := keep2 hb hr1
    have HB11 := Lib.hid (HB10.out.trans (hb.mono HB10.out.size))
    have HI11 := Lib.hid (HI10.out.on hb)
    have HM11 := Lib.hid (HM10.out.on hb)
    have hkp : ¬ (1 : Int) + gn < 0 := by omega
    clear hb hd0 hd1 hr0 hr1 HB10 HI10 HM10
    go_wp2_with fail
    refine (CI.out _ HB11.out).mono ?_
    rintro e w13 ⟨ha, hn, hc, rfl, _, hT, hb⟩
    have ht0 := keep2 hb ht0
    have ht1 := keep2 hb ht1
    have hp0 := keep2 hb hp0
    have hp1 := keep2 hb hp1
    have HB13 := Lib.hid (HB11.out.trans (hb.mono HB11.out.size))
    have HI13 := Lib.hid (HI11.out.on hb)
    have HM13 := Lib.hid (HM11.out.on hb)
    have HT13 := Lib.hid hT.ints
    have l0 : T7 < w13.heap.size := block_lt ht0
    have l1 : T10 < w13.heap.size := block_lt hp0
    clear hb hT HB11 HI11 HM11
    go_wp2_with fail
    obtain ⟨v13, hv13, hx0, hx1, hq, hz13⟩ := lay2 w13 (.int .i64 F) (.slice ha hn hc) 27
    rw [hv13]
    have ht0 := keep2 hq ht0
    have ht1 := keep2 hq ht1
    have hp0 := keep2 hq hp0
    have hp1 := keep2 hq hp1
    have HB14 := Lib.hid (HB13.out.trans (hq.mono HB13.out.size))
    have HI14 := Lib.hid (HI13.out.on hq)
    have HM14 := Lib.hid (HM13.out.on hq)
    have HT14 := Lib.hid (HT13.out.on hq)
    clear hv13 hq HB13 HI13 HM13 HT13
    (try go_wp2_with fail)
    refine (eqK_tb F Y _ _ _ _ _ _ _ HT14.out HI14.out).mono ?_
    rintro e w14 ⟨rfl, hb⟩
    have hp0 := keep2 hb hp0
    have hp1 := keep2 hb hp1
    have HB15 := Lib.hid (HB14.out.trans (hb.mono HB14.out.size))
    have HM15 := Lib.hid (HM14.out.on hb)
    clear hb HB14 HM14 HI14 HT14
    go_wp2_with fail
    refine (heldK_any F ga gn gc 1 _ HM15.out.ints hgn (by omega) (by omega)).mono ?_
    rintro e w15 ⟨rfl, hb⟩
    have HB16 := Lib.hid (HB15.out.trans (hb.mono HB15.out.size))
    clear hb hp0 hp1
    go_wp2_with fail
    go_ret
    exact ⟨rfl, HB16.out⟩

end Go.Proofs.YtgfemcpjkdepdaaDoor
