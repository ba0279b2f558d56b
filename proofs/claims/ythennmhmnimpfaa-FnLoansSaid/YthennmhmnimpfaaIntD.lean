/- The draws of chapter 4: numbers, and a list with a rate, whatever they are. -/
import Derived.Test.YthennmhmnimpfaaDrawA
import Derived.Test.YthennmhmnimpfaaApp
namespace Go.Proofs.Ythennmhmnimpfaa
open Go.ChangeShapes Go.WideShapes Go.ChangeAt Go.RowKit
set_option linter.unusedVariables false
set_option maxRecDepth 100000

theorem bigI_any (a : Option Addr) (l c : Nat) (w : World) : Calls Try.prog 14 #[.slice a l c] w fun e w' => e = .returned (.bool (decide (4096 < (l : Int)))) ∧ w = w' := by
  go_enter Try.func14, Try.ntmps14
  go_wp2
  go_ret
  exact ⟨rfl, rfl⟩

theorem rate_r (B : Nat) (a : Option Addr) (l c : Nat) (z : List Int) (w : World) (h : Ready B a l c z w) :
    Calls Try.prog 46 #[.pointer (some ⟨B, 0, none⟩)] w (NumPost B a l c z Any w) := by
  have HS := Lib.hid h
  have HO := Lib.hid (But.refl B w)
  clear h
  go_enter Try.func46, Try.ntmps46
  go_wp2_with (first | (go_at_call 45; refine (next_r _ _ _ _ _ _ _ HS.out).mono ?_; rintro e w1 ⟨r, rfl, hd, ho, hs⟩; have HO := Lib.hid (HO.out.trans ho); have HS := Lib.hid hs; clear ho hs hd) | (go_at_call 47; ((with_reducible refine (pick4 B _ _ _ _ _ _ HS.out).mono ?_); rintro e w1 ⟨r, rfl, hd, ho, hs⟩; have HO := Lib.hid (HO.out.trans ho); have HS := Lib.hid hs; clear ho hs hd)) | (go_at_call 47; ((with_reducible refine (pick5 B _ _ _ _ _ _ _ HS.out).mono ?_); rintro e w1 ⟨r, rfl, hd, ho, hs⟩; have HO := Lib.hid (HO.out.trans ho); have HS := Lib.hid hs; clear ho hs hd)))
  all_goals
    go_ret
    exact ⟨_, rfl, trivial, HO.out, HS.out⟩

def ThreePost (w : World) (e : Ending) (w' : World) : Prop := ∃ x y z, e = .returned (.tuple #[.int .i64 x, .int .i64 y, .int .i64 z]) ∧ Below w.heap.size w w'

theorem drawDO (a : Option Addr) (l c : Nat) (z : List Int) (w : World) (hr : IsRow .u8 w a l c z) : Calls Try.prog 15 #[.slice a l c] w (TwoPost w) := by
  have HR := Lib.hid hr
  clear hr
  go_enter Try.func15, Try.ntmps15
  go_wp2_with (first | (go_at_call 44; refine (from_any _ _ _ z _ HR.out).mono ?_; rintro e w1 ⟨rfl, hs, hz, hb⟩; have HB := Lib.hid hb; have HS := Lib.hid (ready_of HR.out hs hb); have HO := Lib.hid (But.refl w.heap.size w1); have HZ := Lib.hid hz; clear hs hb hz) | (go_at_call 45; refine (next_r _ _ _ _ _ _ _ HS.out).mono ?_; rintro e w1 ⟨r, rfl, hd, ho, hs⟩; have HO := Lib.hid (HO.out.trans ho); have HS := Lib.hid hs; clear ho hs hd) | (go_at_call 46; refine (rate_r _ _ _ _ _ _ HS.out).mono ?_; rintro e w1 ⟨r, rfl, hd, ho, hs⟩; have HO := Lib.hid (HO.out.trans ho); have HS := Lib.hid hs; clear ho hs hd) | (go_at_call 47; ((with_reducible refine (pick4 _ _ _ _ _ _ _ HS.out).mono ?_); rintro e w1 ⟨r, rfl, hd, ho, hs⟩; have HO := Lib.hid (HO.out.trans ho); have HS := Lib.hid hs; clear ho hs hd)))
  all_goals
    go_ret2
    exact ⟨_, _, rfl, HB.out.trans (HO.out.below (Nat.le_refl _) (by have := HZ.out; omega))⟩

theorem drawGA (a : Option Addr) (l c : Nat) (z : List Int) (w : World) (hr : IsRow .u8 w a l c z) : Calls Try.prog 34 #[.slice a l c] w (ThreePost w) := by
  have HR := Lib.hid hr
  clear hr
  go_enter Try.func34, Try.ntmps34
  go_wp2_with (first | (go_at_call 44; refine (from_any _ _ _ z _ HR.out).mono ?_; rintro e w1 ⟨rfl, hs, hz, hb⟩; have HB := Lib.hid hb; have HS := Lib.hid (ready_of HR.out hs hb); have HO := Lib.hid (But.refl w.heap.size w1); have HZ := Lib.hid hz; clear hs hb hz) | (go_at_call 45; refine (next_r _ _ _ _ _ _ _ HS.out).mono ?_; rintro e w1 ⟨r, rfl, hd, ho, hs⟩; have HO := Lib.hid (HO.out.trans ho); have HS := Lib.hid hs; clear ho hs hd) | (go_at_call 46; refine (rate_r _ _ _ _ _ _ HS.out).mono ?_; rintro e w1 ⟨r, rfl, hd, ho, hs⟩; have HO := Lib.hid (HO.out.trans ho); have HS := Lib.hid hs; clear ho hs hd) | (go_at_call 47; ((with_reducible refine (pick3 _ _ _ _ _ _ HS.out).mono ?_); rintro e w1 ⟨r, rfl, hd, ho, hs⟩; have HO := Lib.hid (HO.out.trans ho); have HS := Lib.hid hs; clear ho hs hd)) | (go_at_call 47; ((with_reducible refine (pick4 _ _ _ _ _ _ _ HS.out).mono ?_); rintro e w1 ⟨r, rfl, hd, ho, hs⟩; have HO := Lib.hid (HO.out.trans ho); have HS := Lib.hid hs; clear ho hs hd)))
  all_goals
    go_ret3
    exact ⟨_, _, _, rfl, HB.out.trans (HO.out.below (Nat.le_refl _) (by have := HZ.out; omega))⟩

theorem drawLPay (a : Option Addr) (l c : Nat) (z : List Int) (w : World) (hr : IsRow .u8 w a l c z) : Calls Try.prog 60 #[.slice a l c] w (ThreePost w) := by
  have HR := Lib.hid hr
  clear hr
  go_enter Try.func60, Try.ntmps60
  go_wp2_with (first | (go_at_call 44; refine (from_any _ _ _ z _ HR.out).mono ?_; rintro e w1 ⟨rfl, hs, hz, hb⟩; have HB := Lib.hid hb; have HS := Lib.hid (ready_of HR.out hs hb); have HO := Lib.hid (But.refl w.heap.size w1); have HZ := Lib.hid hz; clear hs hb hz) | (go_at_call 45; refine (next_r _ _ _ _ _ _ _ HS.out).mono ?_; rintro e w1 ⟨r, rfl, hd, ho, hs⟩; have HO := Lib.hid (HO.out.trans ho); have HS := Lib.hid hs; clear ho hs hd) | (go_at_call 46; refine (rate_r _ _ _ _ _ _ HS.out).mono ?_; rintro e w1 ⟨r, rfl, hd, ho, hs⟩; have HO := Lib.hid (HO.out.trans ho); have HS := Lib.hid hs; clear ho hs hd) | (go_at_call 47; ((with_reducible refine (pick4 _ _ _ _ _ _ _ HS.out).mono ?_); rintro e w1 ⟨r, rfl, hd, ho, hs⟩; have HO := Lib.hid (HO.out.trans ho); have HS := Lib.hid hs; clear ho hs hd)))
  all_goals
    go_ret3
    exact ⟨_, _, _, rfl, HB.out.trans (HO.out.below (Nat.le_refl _) (by have := HZ.out; omega))⟩

theorem drawLPlan (a : Option Addr) (l c : Nat) (z : List Int) (w : World) (hr : IsRow .u8 w a l c z) : Calls Try.prog 24 #[.slice a l c] w (ThreePost w) := by
  go_enter Try.func24, Try.ntmps24
  go_wp2_with (go_at_call 60; refine (drawLPay _ _ _ _ _ hr).mono ?_; rintro e w1 ⟨x, y, z, rfl, hb⟩)
  go_ret3
  exact ⟨_, _, _, rfl, hb⟩

theorem drawDYr (a : Option Addr) (l c : Nat) (z : List Int) (w : World) (hr : IsRow .u8 w a l c z) : Calls Try.prog 37 #[.slice a l c] w (OnePost w) := by
  have HR := Lib.hid hr
  clear hr
  go_enter Try.func37, Try.ntmps37
  go_wp2_with (first | (go_at_call 44; refine (from_any _ _ _ z _ HR.out).mono ?_; rintro e w1 ⟨rfl, hs, hz, hb⟩; have HB := Lib.hid hb; have HS := Lib.hid (ready_of HR.out hs hb); have HO := Lib.hid (But.refl w.heap.size w1); have HZ := Lib.hid hz; clear hs hb hz) | (go_at_call 46; refine (rate_r _ _ _ _ _ _ HS.out).mono ?_; rintro e w1 ⟨r, rfl, hd, ho, hs⟩; have HO := Lib.hid (HO.out.trans ho); have HS := Lib.hid hs; clear ho hs hd))
  go_ret
  exact ⟨_, rfl, HB.out.trans (HO.out.below (Nat.le_refl _) (by have := HZ.out; omega))⟩

theorem drawRBet (a : Option Addr) (l c : Nat) (z : List Int) (w : World) (hr : IsRow .u8 w a l c z) : Calls Try.prog 31 #[.slice a l c] w (ThreePost w) := by
  have HR := Lib.hid hr
  clear hr
  go_enter Try.func31, Try.ntmps31
  go_wp2_with (first | (go_at_call 44; refine (from_any _ _ _ z _ HR.out).mono ?_; rintro e w1 ⟨rfl, hs, hz, hb⟩; have HB := Lib.hid hb; have HS := Lib.hid (ready_of HR.out hs hb); have HO := Lib.hid (But.refl w.heap.size w1); have HZ := Lib.hid hz; clear hs hb hz) | (go_at_call 45; refine (next_r _ _ _ _ _ _ _ HS.out).mono ?_; rintro e w1 ⟨r, rfl, hd, ho, hs⟩; have HO := Lib.hid (HO.out.trans ho); have HS := Lib.hid hs; clear ho hs hd) | (go_at_call 47; ((with_reducible refine (pick4 _ _ _ _ _ _ _ HS.out).mono ?_); rintro e w1 ⟨r, rfl, hd, ho, hs⟩; have HO := Lib.hid (HO.out.trans ho); have HS := Lib.hid hs; clear ho hs hd)))
  all_goals
    go_ret3
    exact ⟨_, _, _, rfl, HB.out.trans (HO.out.below (Nat.le_refl _) (by have := HZ.out; omega))⟩

/-! ### a list and a rate -/

def LrPost (w : World) (e : Ending) (w' : World) : Prop := ∃ a l c xs r, e = .returned (.tuple #[.slice a l c, .int .i64 r]) ∧ Ints w' a l xs ∧ l ≤ 4096 ∧ Below w.heap.size w w'

def zeroL (l : Nat) : Obj := .cells ((List.replicate l (0 : Int)).map (Value.int .i64)).toArray 2

theorem make_zeroL (l : Nat) (n : Int) (h : n = l) (hl : l ≤ 1048576) (w : World) :
    (Instr.makeSlice 27 (.int .i64 n) (.int .i64 n)).run Try.prog w = .ok (.slice (some ⟨w.heap.size, 0, none⟩) l l) (w.alloc (zeroL l)) := by
  subst h; exact make_ints l hl w

theorem Blk.newL (w : World) (l : Nat) : Blk (w.alloc (zeroL l)) w.heap.size (List.replicate l 0) := Blk.new w (List.replicate l 0)

theorem one_newD (w : World) (x : Int) : ∀ j u, [Value.int .i64 x][j]? = some u → (w.alloc (.cells #[.int .i64 x] 2)).cell? ((⟨w.heap.size, 0, none⟩ : Addr).add j) = some u := by
  intro j u hj
  match j, hj with
  | 0, hj => simp at hj; subst hj; simp [Addr.add]

theorem OwnI.alloc4 {base : Nat} {w : World} {v : Value} {xs : List Int} (h : OwnI base w v xs) (o : Obj) : OwnI base (w.alloc o) v xs := h.same fun k _ hl => Below.heap_alloc _ _ _ hl

/-- a list keeps its numbers while the source of the draws turns -/
theorem Ints.but4 {w w' : World} {a : Option Addr} {l B : Nat} {xs : List Int} (h : Ints w a l xs) (ho : But B w w') (hne : ∀ x, a = some x → x.block ≠ B) : Ints w' a l xs := by
  have hlt := h.lt
  obtain ⟨h1, h2, h3⟩ := h
  refine ⟨h1, h2, ?_⟩
  rcases h3 with h0 | ⟨b, off, rfl, hc⟩
  · exact .inl h0
  · by_cases hl : l = 0
    · exact .inl hl
    · exact .inr ⟨b, off, rfl, fun i hi => by rw [ho.cell (p := ⟨b, off + i, none⟩) (hlt ⟨b, off, none⟩ rfl (by omega)) (hne ⟨b, off, none⟩ rfl)]; exact hc i hi⟩

theorem OwnI.ints4 {base : Nat} {w : World} {v : Value} {xs : List Int} (h : OwnI base w v xs) (hm : xs.length ≤ 4096) : ∃ a c, v = .slice a xs.length c ∧ Ints w a xs.length xs ∧ ∀ x, a = some x → base ≤ x.block := by
  have hh := h
  obtain ⟨h0, ⟨rfl, hn⟩ | ⟨g, cap, cur, rfl, hg, hb, r⟩⟩ := h
  · rw [hn]
    exact ⟨none, 0, rfl, ⟨by simpa using hn, by omega, .inl rfl⟩, fun x hx => by cases hx⟩
  · refine ⟨_, cap, rfl, ⟨rfl, by omega, .inr ⟨g, 0, rfl, fun i hi => ?_⟩⟩, fun x hx => by cases hx; exact hg⟩
    rw [Nat.zero_add, hh.cellAt i (by omega)]
    simp [List.getD, hi]

set_option maxHeartbeats 2000000 in
theorem drawPVal (a : Option Addr) (l c : Nat) (z : List Int) (w : World) (hr : IsRow .u8 w a l c z) : Calls Try.prog 20 #[.slice a l c] w (LrPost w) := by
  have HR := Lib.hid hr
  clear hr
  go_enter Try.func20, Try.ntmps20
  go_wp2_with fail
  refine (from_any _ _ _ z _ HR.out).mono ?_
  rintro e w1 ⟨rfl, hs, hz, hb⟩
  have HB := Lib.hid hb
  have HS := Lib.hid (ready_of HR.out hs hb)
  have hown0 := ownI_new w1
  have hwz : w.heap.size < w1.heap.size := by omega
  clear hs hb hz
  go_wp2_with fail
  refine (next_r _ _ _ _ _ _ _ (HS.out.alloc _)).mono ?_
  rintro e w2 ⟨r, rfl, hd, ho, hs⟩
  have hbd := drawn_bd hd (by omega)
  have HO := Lib.hid (hown0.but ho hwz)
  have HW := Lib.hid (HB.out.trans (((Below.refl w.heap.size w1).alloc (by omega) (.cells #[] 2)).trans (ho.below (Nat.le_refl _) (by simp; omega))))
  have HS := Lib.hid hs
  have hw2 : w1.heap.size ≤ w2.heap.size := by have := ho.size; simp at this; omega
  clear hd ho hs hown0
  go_wp2_with fail
  go_loopw [5, 6] (fun v i wr => ∃ n xs, i = .int .i64 n ∧ 0 ≤ n ∧ n ≤ 12 ∧ xs.length + n.toNat ≤ 12 ∧ OwnI w1.heap.size wr v xs ∧ Hid (Ready w.heap.size a l c z wr) ∧ Hid (Below w.heap.size w wr) ∧ w1.heap.size ≤ wr.heap.size) (fun _ i _ => (intOf i).toNat)
  case atStart => exact ⟨r, [], rfl, hbd.1, by omega, by simp; omega, HO.out, HS, HW, hw2⟩
  case round =>
    obtain ⟨n, xs, rfl, hn0, hn12, hxs, hown, HS, HW, hwr⟩ := hrel
    by_cases hn : 0 < n
    · go_wp2_with fail
      refine (next_r _ _ _ _ _ _ _ HS.out).mono ?_
      rintro e w3 ⟨q, rfl, hd, ho, hs⟩
      have hown := hown.but ho hwz
      have HW := Lib.hid (HW.out.trans (ho.below (Nat.le_refl _) (by omega)))
      have HS := Lib.hid hs
      have hwr : w1.heap.size ≤ w3.heap.size := Nat.le_trans hwr ho.size
      clear hd ho hs
      go_wp2_with fail
      refine (pick3 _ _ _ _ _ _ HS.out).mono ?_
      rintro e w4 ⟨x, rfl, hd, ho, hs⟩
      have hown := hown.but ho hwz
      have HW := Lib.hid (HW.out.trans (ho.below (Nat.le_refl _) (by omega)))
      have HS := Lib.hid hs
      have hwr : w1.heap.size ≤ w4.heap.size := Nat.le_trans hwr ho.size
      clear hd ho hs
      go_wp2_with (at_builtin; refine wpList_app rfl _ _ rfl w1.heap.size _ xs x rfl (hown.alloc4 _) ⟨w4.heap.size, 0, none⟩ rfl (one_newD w4 x) (by omega) (by simp; omega) ?_)
      intro v' w5 hO hg hw
      have hbel := Lib.hid (((Below.refl w1.heap.size w4).alloc hwr _).grown hg (by simp; omega) fun k hk => (World.ownsRow.lt hown k hk).1)
      have HO5 := Lib.hid hO
      clear hO hg hw hown
      go_wp2_with fail
      go_roundw
      case rel => exact ⟨n - 1, xs ++ [x], by go_num, by omega, by omega, by simp; omega, HO5.out, Lib.hid (HS.out.below hbel.out hwz), Lib.hid (HW.out.trans (hbel.out.mono (by omega))), Nat.le_trans hwr hbel.out.size⟩
      case measure => simp [intOf]; omega
    · obtain rfl : n = 0 := by omega
      go_wp2_with fail
      refine (next_r _ _ _ _ _ _ _ HS.out).mono ?_
      rintro e w3 ⟨r, rfl, hd, ho, hs⟩
      have hown := hown.but ho hwz
      have HW := Lib.hid (HW.out.trans (ho.below (Nat.le_refl _) (by omega)))
      have HS := Lib.hid hs
      have hwr : w1.heap.size ≤ w3.heap.size := Nat.le_trans hwr ho.size
      clear hd ho hs
      by_cases hr : r = 0
      · subst hr
        go_wp2_with fail
        refine (pick3 _ _ _ _ _ _ HS.out).mono ?_
        rintro e w4 ⟨x, rfl, hd, ho, hs⟩
        have hown := hown.but ho hwz
        have HW := Lib.hid (HW.out.trans (ho.below (Nat.le_refl _) (by omega)))
        have HS := Lib.hid hs
        have hwr : w1.heap.size ≤ w4.heap.size := Nat.le_trans hwr ho.size
        clear hd ho hs
        go_wp2_with (at_builtin; refine wpList_app rfl _ _ rfl w1.heap.size _ xs x rfl (hown.alloc4 _) ⟨w4.heap.size, 0, none⟩ rfl (one_newD w4 x) (by omega) (by simp; omega) ?_)
        intro v' w9 hO hg hw
        have hbel := Lib.hid (((Below.refl w1.heap.size w4).alloc hwr _).grown hg (by simp; omega) fun k hk => (World.ownsRow.lt hown k hk).1)
        obtain ⟨al, cl, rfl, hI, hN⟩ := hO.ints4 (by simp; omega)
        have HI := Lib.hid hI
        have HN := Lib.hid (show ∀ x, al = some x → x.block ≠ w.heap.size from fun x hx => by have := hN x hx; omega)
        have HW := Lib.hid (HW.out.trans (hbel.out.mono (by omega)))
        have HS := Lib.hid (HS.out.below hbel.out hwz)
        obtain ⟨ll, hll⟩ : ∃ ll, (xs ++ [x]).length = ll := ⟨_, rfl⟩
        rw [hll] at HI ⊢
        have HL := Lib.hid (show ll ≤ 4096 by simp at hll; omega)
        clear hO hg hw hown hI hN hll hbel
        go_wp2_with fail
        refine (rate_r _ _ _ _ _ _ HS.out).mono ?_
        rintro e w10 ⟨r2, rfl, hd, ho, hs⟩
        have HI := Lib.hid (HI.out.but4 ho HN.out)
        have HW := Lib.hid (HW.out.trans (ho.below (Nat.le_refl _) HW.out.size))
        clear hd ho hs
        go_wp2_with fail
        go_ret2
        exact ⟨_, _, _, _, _, rfl, HI.out, HL.out, HW.out⟩
      · have hrb : (r == 0) = false := by simpa using hr
        by_cases hr1 : r = 1
        · subst hr1
          clear hrb
          go_wp2_with fail
          refine (next_r _ _ _ _ _ _ _ HS.out).mono ?_
          rintro e w4 ⟨q, rfl, hd, ho, hs⟩
          have hqb := drawn_bd hd (by omega)
          have HW := Lib.hid (HW.out.trans (ho.below (Nat.le_refl _) HW.out.size))
          have HS := Lib.hid hs
          clear hd ho hs hown
          have hmk := make_zeroL (120 + q).toNat (120 + q) (by omega) (by omega) w4
          have HI := Lib.hid ((Blk.newL w4 (120 + q).toNat).ints (l := (120 + q).toNat) (by simp) (by omega))
          have HN : Hid (∀ x, (some ⟨w4.heap.size, 0, none⟩ : Option Addr) = some x → x.block ≠ w.heap.size) := Lib.hid (fun x hx => by cases hx; have := HS.out.here; simp; omega)
          have HL := Lib.hid (show (120 + q).toNat ≤ 4096 by omega)
          have HS2 := Lib.hid (HS.out.alloc (zeroL (120 + q).toNat))
          have HW2 := Lib.hid (HW.out.alloc HW.out.size (zeroL (120 + q).toNat))
          obtain ⟨L, hL⟩ : ∃ L, (120 + q).toNat = L := ⟨_, rfl⟩
          rw [hL] at hmk HI HL HS2 HW2
          clear hL
          go_wp2_with fail
          refine (rate_r _ _ _ _ _ _ HS2.out).mono ?_
          rintro e w10 ⟨r2, rfl, hd, ho, hs⟩
          have HI := Lib.hid (HI.out.but4 ho HN.out)
          have HW := Lib.hid (HW2.out.trans (ho.below (Nat.le_refl _) HW2.out.size))
          clear hd ho hs
          go_wp2_with fail
          go_ret2
          exact ⟨_, _, _, _, _, rfl, HI.out, HL.out, HW.out⟩
        · have hrb1 : (r == 1) = false := by simpa using hr1
          obtain ⟨al, cl, rfl, hI, hN⟩ := hown.ints4 (by omega)
          have HI := Lib.hid hI
          have HN := Lib.hid (show ∀ x, al = some x → x.block ≠ w.heap.size from fun x hx => by have := hN x hx; omega)
          obtain ⟨ll, hll⟩ : ∃ ll, xs.length = ll := ⟨_, rfl⟩
          rw [hll] at HI ⊢
          have HL := Lib.hid (show ll ≤ 4096 by omega)
          clear hown hI hN hll
          go_wp2_with fail
          refine (rate_r _ _ _ _ _ _ HS.out).mono ?_
          rintro e w10 ⟨r2, rfl, hd, ho, hs⟩
          have HI := Lib.hid (HI.out.but4 ho HN.out)
          have HW := Lib.hid (HW.out.trans (ho.below (Nat.le_refl _) HW.out.size))
          clear hd ho hs
          go_wp2_with fail
          go_ret2
          exact ⟨_, _, _, _, _, rfl, HI.out, HL.out, HW.out⟩

end Go.Proofs.Ythennmhmnimpfaa
