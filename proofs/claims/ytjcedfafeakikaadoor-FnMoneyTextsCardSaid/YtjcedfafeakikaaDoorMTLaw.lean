/- The law of chapter 1 on money's texts and sums: the walk of the law. -/
import Derived.Test.YtjcedfafeakikaaDoorMoneyTexts
namespace Go.Proofs.YtjcedfafeakikaaDoor
open Go.ChangeShapes Go.WideShapes Go.ChangeAt Go.RowKit
set_option linter.unusedVariables false

theorem big_any (a : Option Addr) (l c : Nat) (w : World) : Calls Tryd.prog 6 #[.slice a l c] w fun e w' => e = .returned (.bool (decide (4096 < (l : Int)))) ∧ w = w' := by
  go_enter Tryd.func6, Tryd.ntmps6
  go_wp2
  go_ret
  exact ⟨rfl, rfl⟩

theorem rm_at (l : List UInt8) (w : World) (h : l.length ≤ 65) (ha : Ask w) : Calls Tryd.prog 9 #[.string ⟨l.toArray⟩] w (RmPost l w) := by
  have := rm_impl ⟨l.toArray⟩ w (by show l.toArray.size ≤ _; simp; omega) ha
  simpa using this

theorem Ints.step {w w1 : World} {a : Option Addr} {l : Nat} {xs : List Int} (h : Ints w a l xs) (hb : Below w.heap.size w w1) : Ints w1 a l xs := h.below hb h.lt

theorem rev_step (xs : List Int) (m : Nat) (x : Int) (h0 : 0 < m) (h : m ≤ xs.length) (hx : xs.getD (m - 1) 0 = x) : (xs.drop (m - 1)).reverse = (xs.drop m).reverse ++ [x] := by
  have h1 : m - 1 < xs.length := by omega
  rw [List.drop_eq_getElem_cons h1, List.reverse_cons, show m - 1 + 1 = m by omega]
  rw [List.getD_eq_getElem?_getD, List.getElem?_eq_getElem h1] at hx
  simp at hx
  rw [hx]

theorem one_new (w : World) (x : Int) : ∀ j u, [Value.int .i64 x][j]? = some u → (w.alloc (.cells #[.int .i64 x] 2)).cell? ((⟨w.heap.size, 0, none⟩ : Addr).add j) = some u := by
  intro j u hj
  match j, hj with
  | 0, hj => simp at hj; subst hj; simp [Addr.add]

theorem one_cell (x : Int) : ∀ u ∈ [Value.int .i64 x], u.oneCell' = true := by
  intro u hu; simp at hu; subst hu; rfl

set_option maxHeartbeats 4000000 in
theorem fnMoneyTexts_walk (a0 : Option Addr) (len0 cap0 : Nat) (z0 : List Int) (w : World) (w0 : IsRow .u8 w a0 len0 cap0 z0) (ht : Tab w) (hsh : w.ShapedOpen Tryd.prog) (h1 : ErrIs w "strconv.ErrSyntax") (h2 : ErrIs w "strconv.ErrRange") :
    Calls Tryd.prog 3 #[.slice a0 len0 cap0] w fun e w' => e = .returned (.bool true) ∧ Below w.heap.size w w' := by
  have HA := Lib.hid (Ask.mk ht h1 h2 hsh)
  clear ht h1 h2 hsh
  by_cases hbig : (4096 : Int) < len0
  · go_enter Tryd.func3, Tryd.ntmps3
    go_wp2_with (go_at_call 6; refine (big_any _ _ _ _).mono ?_; rintro e w' ⟨rfl, rfl⟩)
    go_ret
    exact ⟨rfl, Below.refl _ _⟩
  · have HR := Lib.hid w0
    clear w0
    obtain ⟨i0, hi, hz0, hz1, hz2⟩ := info_parts infoI
    go_enter Tryd.func3, Tryd.ntmps3
    go_wp2_with (go_at_call 6; refine (big_any _ _ _ _).mono ?_; rintro e w' ⟨rfl, rfl⟩)
    refine (drawMT _ _ _ _ _ HR.out).mono ?_
    rintro e w1 ⟨n, rfl, hb⟩
    have HB := Lib.hid hb; have HR1 := Lib.hid (HR.out.below hb HR.out.apart); have HA1 := Lib.hid (HA.out.step hb)
    clear hb
    have hlen := mtx_len n
    go_wp2_with fail
    refine (mt_impl _ _ HA1.out.tab).mono ?_
    rintro e w2 ⟨rfl, hb⟩
    have HR2 := Lib.hid (HR1.out.below hb HR1.out.apart); have HA2 := Lib.hid (HA1.out.step hb); have HB := Lib.hid (HB.out.trans (hb.mono HB.out.size))
    clear hb
    go_wp2_with fail
    refine (rm_at _ _ hlen HA2.out).mono ?_
    rintro e w3 ⟨rfl, hb⟩
    have HR3 := Lib.hid (HR2.out.below hb HR2.out.apart); have HA3 := Lib.hid (HA2.out.step hb); have HB := Lib.hid (HB.out.trans (hb.mono HB.out.size))
    clear hb
    go_wp2_with fail
    refine (drawRM _ _ _ _ _ HR3.out).mono ?_
    rintro e w4 ⟨s, rfl, hs, hb⟩
    have HR4 := Lib.hid (HR3.out.below hb HR3.out.apart); have HA4 := Lib.hid (HA3.out.step hb); have HB := Lib.hid (HB.out.trans (hb.mono HB.out.size))
    clear hb
    go_wp2_with fail
    refine (rm_impl _ _ (by omega) HA4.out).mono ?_
    rintro e w5 ⟨rfl, hb⟩
    have HR5 := Lib.hid (HR4.out.below hb HR4.out.apart); have HA5 := Lib.hid (HA4.out.step hb); have HB := Lib.hid (HB.out.trans (hb.mono HB.out.size))
    clear hb
    go_wp2_with fail
    refine (rm_spec' _ _ (by omega)).mono ?_
    rintro e w6 ⟨rfl, hb⟩
    have HR6 := Lib.hid (HR5.out.below hb HR5.out.apart); have HA6 := Lib.hid (HA5.out.step hb); have HB := Lib.hid (HB.out.trans (hb.mono HB.out.size))
    clear hb
    go_wp2_with fail
    refine (drawSO _ _ _ _ _ HR6.out).mono ?_
    rintro e w7 ⟨al, ll, cl, xs, rfl, hin, hll, hb⟩
    have HA7 := Lib.hid (HA6.out.step hb); have HB := Lib.hid (HB.out.trans (hb.mono HB.out.size)); have HI := Lib.hid hin
    clear hb hin
    go_wp2_with (first | (go_at_call 13; refine (so_impl xs _ _ _ _ HI.out).mono ?_; rintro e w' ⟨rfl, rfl⟩) | (go_at_call 14; refine (so_spec xs _ _ _ _ HI.out).mono ?_; rintro e w' ⟨rfl, rfl⟩))
    refine (mt_spec _ _).mono ?_
    rintro e w8 ⟨rfl, hb⟩
    have HA8 := Lib.hid (HA7.out.step hb); have HB := Lib.hid (HB.out.trans (hb.mono HB.out.size)); have HI := Lib.hid (HI.out.step hb)
    clear hb
    rcases back_split n with ⟨m0, m1, m2, m3⟩ | ⟨m1, m2, m3⟩
    all_goals
      rcases text_split s with ⟨y, y1, y2, y3⟩ | y2
    case' inl.inl => go_wp2_with (go_at_call 8; refine (mt_impl _ _ HA8.out.tab).mono ?_; rintro e w9 ⟨rfl, hb⟩; have HB := Lib.hid (HB.out.trans (hb.mono HB.out.size)); have HI := Lib.hid (HI.out.step hb); clear hb)
    case' inr.inl => go_wp2_with (go_at_call 8; refine (mt_impl _ _ HA8.out.tab).mono ?_; rintro e w9 ⟨rfl, hb⟩; have HB := Lib.hid (HB.out.trans (hb.mono HB.out.size)); have HI := Lib.hid (HI.out.step hb); clear hb)
    case' inl.inr => obtain ⟨w9, rfl⟩ : ∃ w9 : World, w9 = w8 := ⟨_, rfl⟩; go_wp2_with fail
    case' inr.inr => obtain ⟨w9, rfl⟩ : ∃ w9 : World, w9 = w8 := ⟨_, rfl⟩; go_wp2_with fail
    all_goals
      have HLt := Lib.hid HI.out.lt
      have HLn := Lib.hid HI.out.len
      have HN := Lib.hid (ownI_new w9)
      go_loopw [17, 18] (fun v i wr => ∃ m : Nat, m ≤ ll ∧ i = .int .i64 ((m : Int) - 1) ∧ OwnI w9.heap.size wr v (xs.drop m).reverse ∧ Hid (Below w9.heap.size w9 wr) ∧ w9.heap.size ≤ wr.heap.size) (fun _ i _ => (intOf i + 1).toNat)
      case atStart => exact ⟨ll, Nat.le_refl _, rfl, by rw [List.drop_of_length_le (by rw [HLn.out]; exact Nat.le_refl _)]; exact HN.out, Lib.hid ((Below.refl _ _).alloc (Nat.le_refl _) _), by simp⟩
      case round =>
        obtain ⟨m, hm, rfl, hown, HW, hwr⟩ := hrel
        by_cases hm0 : m = 0
        · subst hm0
          have hV := soV_rev xs
          have hE := soE_rev xs
          have hlr : xs.reverse.length = ll := by simp; exact HLn.out
          rw [List.drop_zero] at hown
          obtain ⟨ys, hys⟩ : ∃ ys, xs.reverse = ys := ⟨_, rfl⟩
          rw [hys] at hown hV hE hlr
          obtain ⟨ad, cp, rfl, hin⟩ := hown.ints (by omega)
          have HI2 := Lib.hid hin
          have HV := Lib.hid hV
          have HE := Lib.hid hE
          clear hin hown hlr hV hE hys
          go_wp2_with fail
          refine (so_impl ys _ _ _ _ HI2.out).mono ?_
          rintro e w' ⟨rfl, rfl⟩
          rw [HV.out, HE.out]
          go_wp2_with fail
          go_ret
          exact ⟨rfl, HB.out.trans (HW.out.mono HB.out.size)⟩
        · rcases HI.out.cells with h0 | ⟨b, off, rfl, hc⟩
          · omega
          have hx := hc (m - 1) (by omega)
          rw [← HW.out.cell (p := ⟨b, off + (m - 1), none⟩) (HLt.out ⟨b, off, none⟩ rfl (by omega))] at hx
          obtain ⟨x, hx0⟩ : ∃ x, xs.getD (m - 1) 0 = x := ⟨_, rfl⟩
          rw [hx0] at hx
          have hstep : (xs.drop (m - 1)).reverse = (xs.drop m).reverse ++ [x] := rev_step xs m x (by omega) (by rw [HLn.out]; omega) hx0
          obtain ⟨ys, hys⟩ : ∃ ys, (xs.drop m).reverse = ys := ⟨_, rfl⟩
          have hrl : ys.length ≤ 4096 := by rw [← hys]; simp; have := HLn.out; omega
          rw [hys] at hown hstep
          have HST := Lib.hid hstep
          obtain ⟨k, rfl⟩ : ∃ k, m = k + 1 := ⟨m - 1, by omega⟩
          simp only [Nat.add_sub_cancel] at hx HST
          have hk1 : ((k + 1 : Nat) : Int) - 1 = (k : Int) := by omega
          rw [hk1]
          clear hc hx0 hstep hys hk1 hm0
          go_wp2_with (at_builtin; refine wpList_append_own _ rfl _ _ 29 rfl w9.heap.size 2 i0 (.int .i64 0) 1 8 Tryd.underlying29 hi hz0 hz1 hz2 rfl (by decide) _ _ _ rfl (hown.alloc _) ⟨wr.heap.size, 0, none⟩ 1 1 [.int .i64 x] rfl rfl (one_new wr x) (one_cell x) (by unfold maxLen; omega) (by omega) (by simp; omega) ?_; intro v' w5 hown' hgrow _; have R := ownI_step hown hwr hown' hgrow; have HR5 := Lib.hid R; clear R hown' hgrow hown)
          go_roundw
          case rel => exact ⟨k, by omega, by first | rfl | go_num, by rw [HST.out]; exact HR5.out.1, Lib.hid (HW.out.trans HR5.out.2), Nat.le_trans hwr HR5.out.2.size⟩
          case measure => simp [intOf]

end Go.Proofs.YtjcedfafeakikaaDoor
