/- The model's draws of what SickWeeks and WeeksAt take. -/
import Derived.Test.YtgfemcpjkdepdaaDkW
namespace Go.Proofs.Ytgfemcpjkdepdaa
open Go.ChangeShapes Go.WideShapes Go.ChangeAt Go.RowKit
set_option linter.unusedVariables false
set_option linter.unusedSimpArgs false
set_option maxRecDepth 100000

theorem OwnI.intsK {base : Nat} {w : World} {v : Value} {xs : List Int} (h : OwnI base w v xs) (hm : xs.length ≤ 4096) : ∃ a c, v = .slice a xs.length c ∧ Ints w a xs.length xs ∧ xs.length ≤ c ∧ ∀ x, a = some x → base ≤ x.block := by
  have hh := h
  obtain ⟨h0, ⟨rfl, hn⟩ | ⟨g, cap, cur, rfl, hg, hb, hc, r⟩⟩ := h
  · rw [hn]
    exact ⟨none, 0, rfl, ⟨by simpa using hn, by omega, .inl rfl⟩, Nat.le_refl _, fun x hx => by cases hx⟩
  · refine ⟨_, cap, rfl, ⟨rfl, by omega, .inr ⟨g, 0, rfl, fun i hi => ?_⟩⟩, hc, fun x hx => by cases hx; exact hg⟩
    rw [Nat.zero_add, hh.cellAt i (by omega)]
    simp [List.getD, hi]

/-- a drawn table in its box, and a list that is drawn: the result's cells X -/
structure DL (B X T base : Nat) (a : Option Addr) (l c : Nat) (z : List Int) (F : Int) (ta : Option Addr) (tn tc : Nat) (xs : List Int) (v : Value) (L : List Int) (w W : World) : Prop where
  ready : Ready B a l c z W
  low : Below X w W
  rb : Bx W X [.int .i64 0, .slice none 0 0]
  tb : Bx W T [.int .i64 F, .slice ta tn tc]
  ti : Ints W ta tn xs
  far : ∀ x, ta = some x → B < x.block ∧ x.block < base
  own : OwnI base W v L
  eX : w.heap.size = X
  oB : X < B
  oT : B < T
  ob : T < base
  sz : base ≤ W.heap.size

theorem DL.call {B X T base : Nat} {a : Option Addr} {l c : Nat} {z : List Int} {F : Int} {ta : Option Addr} {tn tc : Nat} {xs : List Int} {v : Value} {L : List Int} {w W W' : World} (h : DL B X T base a l c z F ta tn tc xs v L w W) (ho : But B W W') (hs : Ready B a l c z W') : DL B X T base a l c z F ta tn tc xs v L w W' := by
  have oB := h.oB
  have oT := h.oT
  have ob := h.ob
  have sz := h.sz
  exact ⟨hs, h.low.trans (ho.below (by omega) (by omega)), h.rb.same (ho.block X h.rb.lt (by omega)), h.tb.same (ho.block T h.tb.lt (by omega)), h.ti.butT ho (fun x hx => by have := h.far x hx; omega), h.far, h.own.but ho (by omega), h.eX, oB, oT, ob, Nat.le_trans sz ho.size⟩

theorem DL.app {B X T base : Nat} {a : Option Addr} {l c : Nat} {z : List Int} {F : Int} {ta : Option Addr} {tn tc : Nat} {xs : List Int} {v v' : Value} {L L2 : List Int} {w W w5 : World} {o : Obj} (h : DL B X T base a l c z F ta tn tc xs v L w W) (hg : (W.alloc o).grownBy w5 v.ownBlock) (hown' : OwnI base w5 v' L2) : DL B X T base a l c z F ta tn tc xs v' L2 w w5 := by
  have oB := h.oB
  have oT := h.oT
  have ob := h.ob
  have hb := app_below h.own h.sz hg
  exact ⟨h.ready.below hb (by omega), h.low.trans (hb.mono (by omega)), h.rb.same (hb.block X (by omega)), h.tb.same (hb.block T ob), h.ti.below hb (fun x hx _ => (h.far x hx).2), h.far, hown', h.eX, oB, oT, ob, Nat.le_trans h.sz hb.size⟩

def SwPost (w : World) (e : Ending) (w' : World) : Prop :=
  ∃ F ta tn tc xs za zn zc zs, e = .returned (.tuple #[.agg #[.int .i64 F, .slice ta tn tc], .slice za zn zc]) ∧ Ints w' ta tn xs ∧ tn ≤ tc ∧ Ints w' za zn zs ∧ zn ≤ zc ∧ zn ≤ 200 ∧ Below w.heap.size w w'

theorem DL.post {B X T base : Nat} {a : Option Addr} {l c : Nat} {z : List Int} {F : Int} {ta : Option Addr} {tn tc : Nat} {xs : List Int} {v : Value} {L : List Int} {w W : World} {za : Option Addr} {zn zc : Nat} {zs : List Int} (h : DL B X T base a l c z F ta tn tc xs v L w W) (hI : Ints W za zn zs) (hf : ∀ x, za = some x → X < x.block) (h1 : zn ≤ zc) (h2 : zn ≤ 200) (h3 : tn ≤ tc) :
    SwPost w (.returned (.tuple #[.agg #[.int .i64 F, .slice ta tn tc], .slice za zn zc])) ((W.setCell ⟨X, 0, none⟩ (.int .i64 F)).setCell ⟨X, 1, none⟩ (.slice ta tn tc)) ∧
    ((W.setCell ⟨X, 0, none⟩ (.int .i64 F)).setCell ⟨X, 1, none⟩ (.slice ta tn tc)).cell? ⟨X, 0, none⟩ = some (.int .i64 F) ∧ ((W.setCell ⟨X, 0, none⟩ (.int .i64 F)).setCell ⟨X, 1, none⟩ (.slice ta tn tc)).cell? ⟨X, 1, none⟩ = some (.slice ta tn tc) := by
  have oB := h.oB
  have oT := h.oT
  have ho : Only X W ((W.setCell ⟨X, 0, none⟩ (.int .i64 F)).setCell ⟨X, 1, none⟩ (.slice ta tn tc)) := ((Only.refl _ _).setCell (p := ⟨X, 0, none⟩) rfl _).setCell (p := ⟨X, 1, none⟩) rfl _
  have n1 : (⟨X, 0, none⟩ : Addr) ≠ ⟨X, 1, none⟩ := fun e => by injection e; omega
  refine ⟨⟨F, ta, tn, tc, xs, za, zn, zc, zs, rfl, h.ti.butT ho.but (fun x hx => by have := h.far x hx; omega), h3, hI.butT ho.but (fun x hx => by have := hf x hx; omega), h1, h2, ?_⟩, ?_, ?_⟩
  · have := h.low.trans (ho.below (Nat.le_refl X))
    rw [h.eX]; exact this
  · rw [far_set n1]; exact World.cell?_setCell_same' _ _ _ (by rw [h.rb.two.1]; rfl)
  · exact World.cell?_setCell_same' _ _ _ (by rw [far_set n1.symm, h.rb.two.2]; rfl)

set_option maxHeartbeats 4000000 in
theorem drawSW (a : Option Addr) (l c : Nat) (z : List Int) (w : World) (hr : IsRow .u8 w a l c z) : Calls Try.prog 11 #[.slice a l c] w (SwPost w) := by
  have hq := box_b w (.cells #[.int .i64 0, .slice none 0 0] 26)
  have hR1 := hr.below hq hr.apart
  have HR1 : Hid (IsRow .u8 (w.alloc (.cells #[.int .i64 0, .slice none 0 0] 26)) a l c z) := Lib.hid hR1
  have hrb := Bx.new w [.int .i64 0, .slice none 0 0] 26
  clear hr hR1
  go_enter Try.func11, Try.ntmps11
  go_wp2_with fail
  refine (from_any _ _ _ z _ HR1.out).mono ?_
  rintro e w1 ⟨rfl, hs, hz, hb⟩
  have HS := Lib.hid (ready_of HR1.out hs hb)
  have hrb := hrb.on hb
  have HB := Lib.hid (hq.trans (hb.mono (by simp)))
  rw [World.size_alloc] at HS hz ⊢
  obtain ⟨X, hX⟩ : ∃ X, w.heap.size = X := ⟨_, rfl⟩
  rw [hX] at hrb HS HB hz ⊢
  obtain ⟨B, hBX⟩ : ∃ B, X + 1 = B := ⟨_, rfl⟩
  rw [hBX] at HS hz ⊢
  have oB : X < B := by omega
  have HX := Lib.hid hX
  clear hb hs hX hBX hq
  go_wp2_with fail
  refine (dsick B a l c z w1 HS.out).mono ?_
  rintro e w2 ⟨F, ta, tn, tc, xs, rfl, hI, htc, htn, f0, f1, far, ho, hs⟩
  have hsz := ho.size
  have hG : Hid (DL B X w2.heap.size (w2.heap.size + 1) a l c z F ta tn tc xs (.slice (some ⟨w2.heap.size + 1, 0, none⟩) 0 0) [] w ((w2.alloc (.cells #[.int .i64 F, .slice ta tn tc] 26)).alloc (.cells #[] 2))) := Lib.hid (by
    have rb2 := hrb.same (ho.block X hrb.lt (by omega))
    have lo2 := HB.out.trans (ho.below (A := X) (by omega) (by omega))
    have hb1 := box_b w2 (.cells #[.int .i64 F, .slice ta tn tc] 26)
    have z1 := World.size_alloc w2 (.cells #[.int .i64 F, .slice ta tn tc] 26)
    have p1 := Bx.new w2 [.int .i64 F, .slice ta tn tc] 26
    have rd := hs.alloc (.cells #[.int .i64 F, .slice ta tn tc] 26)
    generalize w2.alloc (.cells #[.int .i64 F, .slice ta tn tc] 26) = W3 at *
    have o1 := ownI_new W3
    rw [z1] at o1
    have hb2 := box_b W3 (.cells #[] 2)
    exact ⟨rd.alloc _, (lo2.trans (hb1.mono (by omega))).trans (hb2.mono (by omega)), (rb2.on hb1).on hb2, p1.on hb2, (hI.on hb1).on hb2, fun x hx => by have := far x hx; omega, o1, HX.out, oB, by omega, by omega, by simp [z1]⟩)
  clear hI far ho hs hrb HB HS
  go_wp2_with fail
  obtain ⟨T, hT⟩ : ∃ y_, w2.heap.size = y_ := ⟨_, rfl⟩
  rw [hT] at hG
  (try rw [hT])
  obtain ⟨base, hbs⟩ : ∃ y_, T + 1 = y_ := ⟨_, rfl⟩
  rw [hbs] at hG
  (try rw [hbs])
  generalize ((w2.alloc (.cells #[.int .i64 F, .slice ta tn tc] 26)).alloc (.cells #[] 2)) = w3 at hG ⊢
  clear hT hbs hsz
  refine (next_r _ _ _ _ _ _ _ hG.out.ready).mono ?_
  rintro e w4 ⟨r, rfl, hd, ho, hs⟩
  have hr := drawn_bd hd (by omega)
  have hG := Lib.hid (hG.out.call ho hs)
  clear hd ho hs
  go_wp2_with fail
  go_loopw [6, 7] (fun u i wr => ∃ (n : Int) (L : List Int), i = .int .i64 n ∧ 0 ≤ n ∧ L.length + n ≤ 12 ∧ Hid (DL B X T base a l c z F ta tn tc xs u L w wr)) (fun _ i _ => (intOf i).toNat)
  case atStart => exact ⟨r, [], rfl, hr.1, by simp; omega, hG⟩
  case round =>
    clear hG hr
    obtain ⟨n, L, rfl, hn0, hn12, HG⟩ := hrel
    by_cases hn : 0 < n
    · go_wp2_with fail
      refine (next_r _ _ _ _ _ _ _ HG.out.ready).mono ?_
      rintro e w5 ⟨y, rfl, hd, ho, hs⟩
      have HG := Lib.hid (HG.out.call ho hs)
      have hsz := HG.out.sz
      clear hd ho hs
      go_wp2_with (at_builtin; refine wpList_app rfl _ _ rfl base _ L y rfl (HG.out.own.same (fun k hk hl => Below.heap_alloc _ _ _ hl)) ⟨w5.heap.size, 0, none⟩ rfl (one_newC w5 y) (by omega) (by simp; omega) ?_)
      intro v' w6 hown' hgrow hw
      have HG := Lib.hid (HG.out.app hgrow hown')
      clear hown' hgrow hw hsz
      go_wp2_with fail
      go_roundw
      case rel => exact ⟨n - 1, L ++ [y], by go_num, by omega, by simp; omega, HG⟩
      case measure => simp [intOf]; omega
    · obtain rfl : n = 0 := by omega
      have hL : L.length ≤ 12 := by omega
      clear hn hn0 hn12
      go_wp2_with fail
      refine (next_r _ _ _ _ _ _ _ HG.out.ready).mono ?_
      rintro e w7 ⟨sw, rfl, hd, ho, hs⟩
      have HG := Lib.hid (HG.out.call ho hs)
      clear hd ho hs
      by_cases hs0 : sw = 0
      · subst hs0
        go_wp2_with fail
        refine (pick3 _ _ _ _ _ _ HG.out.ready).mono ?_
        rintro e w8 ⟨y, rfl, hd, ho, hs⟩
        have HG := Lib.hid (HG.out.call ho hs)
        have hsz := HG.out.sz
        clear hd ho hs
        go_wp2_with (at_builtin; refine wpList_app rfl _ _ rfl base _ L y rfl (HG.out.own.same (fun k hk hl => Below.heap_alloc _ _ _ hl)) ⟨w8.heap.size, 0, none⟩ rfl (one_newC w8 y) (by omega) (by simp; omega) ?_)
        intro v' w9 hown' hgrow hw
        have HG := Lib.hid (HG.out.app hgrow hown')
        clear hown' hgrow hw hsz
        obtain ⟨za, zc, rfl, hzI, hzc, hzf⟩ := HG.out.own.intsK (by simp; omega)
        obtain ⟨zn, hzn⟩ : ∃ y_, (L ++ [y]).length = y_ := ⟨_, rfl⟩
        have hzn2 : zn ≤ 200 := by rw [← hzn]; simp; omega
        rw [hzn] at hzI hzc
        obtain ⟨hpo, e0, e1⟩ := HG.out.post hzI (fun x hx => by have := hzf x hx; have := HG.out.ob; have := HG.out.oT; have := HG.out.oB; omega) hzc hzn2 htc
        have HPO := Lib.hid hpo
        obtain ⟨t0, t1⟩ := HG.out.tb.two
        obtain ⟨x0, x1⟩ := HG.out.rb.two
        have m0 := HG.out.rb.free 0
        have m1 := HG.out.rb.free 1
        clear hpo hzI hzf
        (try rw [hzn])
        go_wp2_with fail
        exact bodyPost_ret (v := .tuple #[.agg #[.int .i64 F, .slice ta tn tc], .slice za zn zc]) (by simp [results, Try.results11, go_sem, e0, e1]) rfl HPO.out
      have b0 : (sw == 0) = false := by simpa using hs0
      by_cases hs1 : sw = 1
      · subst hs1
        clear b0 hs0
        go_wp2_with fail
        refine (next_r _ _ _ _ _ _ _ HG.out.ready).mono ?_
        rintro e w8 ⟨y, rfl, hd, ho, hs⟩
        have hy := drawn_bd hd (by omega)
        have HG := Lib.hid (HG.out.call ho hs)
        clear hd ho hs
        obtain ⟨zn, hzn⟩ : ∃ zn : Nat, 130 + y = zn := ⟨(130 + y).toNat, by omega⟩
        have hzn2 : zn ≤ 200 := by omega
        have r1 : IntKind.i64.wrap (130 + y) = 130 + y := IntWalk.i64_in _ (by omega)
        have hmk := make_zT zn (130 + y) hzn (by omega) w8
        have HG := Lib.hid (HG.out.call (But.alloc (zeroT zn)) (HG.out.ready.alloc _))
        have hzI : Ints (w8.alloc (zeroT zn)) (some ⟨w8.heap.size, 0, none⟩) zn (List.replicate zn 0) := (Blk.newT w8 zn).ints (by simp) (by omega)
        have hX8 : X < w8.heap.size := by
          have h1 := HG.out.sz
          have h2 := HG.out.ob
          have h3 := HG.out.oT
          have h4 := HG.out.oB
          simp at h1; omega
        obtain ⟨hpo, e0, e1⟩ := HG.out.post (zc := zn) hzI (fun x hx => by cases hx; exact hX8) (Nat.le_refl _) hzn2 htc
        have HPO := Lib.hid hpo
        obtain ⟨t0, t1⟩ := HG.out.tb.two
        obtain ⟨x0, x1⟩ := HG.out.rb.two
        have m0 := HG.out.rb.free 0
        have m1 := HG.out.rb.free 1
        obtain ⟨w9, hw9⟩ : ∃ y_, w8.alloc (zeroT zn) = y_ := ⟨_, rfl⟩
        rw [hw9] at hmk HPO e0 e1 t0 t1 x0 x1 m0 m1
        clear hpo hzI hzn hy HG hw9
        go_wp2_with fail
        exact bodyPost_ret (v := .tuple #[.agg #[.int .i64 F, .slice ta tn tc], .slice (some ⟨w8.heap.size, 0, none⟩) zn zn]) (by simp [results, Try.results11, go_sem, e0, e1]) rfl HPO.out
      have b1 : (sw == 1) = false := by simpa using hs1
      obtain ⟨za, zc, rfl, hzI, hzc, hzf⟩ := HG.out.own.intsK (by omega)
      obtain ⟨zn, hzn⟩ : ∃ y_, L.length = y_ := ⟨_, rfl⟩
      have hzn2 : zn ≤ 200 := by omega
      rw [hzn] at hzI hzc
      obtain ⟨hpo, e0, e1⟩ := HG.out.post hzI (fun x hx => by have := hzf x hx; have := HG.out.ob; have := HG.out.oT; have := HG.out.oB; omega) hzc hzn2 htc
      have HPO := Lib.hid hpo
      obtain ⟨t0, t1⟩ := HG.out.tb.two
      obtain ⟨x0, x1⟩ := HG.out.rb.two
      have m0 := HG.out.rb.free 0
      have m1 := HG.out.rb.free 1
      clear hpo hzI hzf
      (try rw [hzn])
      go_wp2_with fail
      exact bodyPost_ret (v := .tuple #[.agg #[.int .i64 F, .slice ta tn tc], .slice za zn zc]) (by simp [results, Try.results11, go_sem, e0, e1]) rfl HPO.out

end Go.Proofs.Ytgfemcpjkdepdaa
