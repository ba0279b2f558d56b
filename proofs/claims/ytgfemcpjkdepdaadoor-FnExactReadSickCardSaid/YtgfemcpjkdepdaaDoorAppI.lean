/- strconv.AppendInt onto a slice of bytes of the call's own, also one that a conversion of a string made. -/
import Derived.Test.YtgfemcpjkdepdaaDoorBrow
import Derived.Test.YtgfemcpjkdepdaaDoorTabTs
import Derived.Lib.ItoaMem
import Derived.Deep.RegionWith
namespace Go.Proofs.YtgfemcpjkdepdaaDoor
open Go.ChangeShapes Go.WideShapes Go.ChangeAt Go.RowKit
set_option linter.unusedVariables false

/-- what an append of the text m onto l leaves -/
def AppM (base : Nat) (l m : List UInt8) (w : World) (e : Ending) (w' : World) : Prop := ∃ v', e = .returned v' ∧ OwnM base w' v' (l ++ m) ∧ Below base w w'

theorem dec_len100 (u : Nat) (h : u < 100) : (Lib.decDigits u).length ≤ 20 := by
  rw [Lib.decDigits_length]
  by_cases h10 : u < 10
  · rw [Lib.nDigits_small h10]; omega
  · rw [Lib.nDigits_big h10, Lib.nDigits_small (show u / 10 < 10 by omega)]; omega

set_option maxRecDepth 100000 in
set_option maxHeartbeats 4000000 in
theorem au_small (base u : Nat) (hu : u < 100) (v : Value) (l : List UInt8) (w : World) (hown : OwnM base w v l) (hb : base ≤ w.heap.size) (hl : l.length ≤ 140737488355000) :
    Calls Tryd.prog 46 #[v, .int .u64 u, .int .i64 10] w (AppM base l (Lib.decDigits u) w) := by
  have HO := Lib.hid hown
  have hd := dec_len100 u hu
  clear hown
  go_enter Tryd.func46, Tryd.ntmps46
  go_wp2_with (first
    | (go_at_call 42; refine (Tryd.internal_strconv_small u hu _).mono ?_; rintro e w' ⟨rfl, hw⟩; have hw := hw.symm; subst hw)
    | (at_builtin; refine wpM_string rfl _ _ rfl base _ _ (Lib.decDigits u) rfl HO.out rfl (by omega) hb ?_))
  intro v' w1 hown' hgrow
  have H1 := Lib.hid hown'
  have HB : Hid (Below base w w1) := Lib.hid ((Below.refl _ _).grown hgrow hb (fun k hk => (HO.out.lt k hk).1))
  clear hown' hgrow
  go_wp2_with fail
  go_ret
  exact ⟨v', rfl, H1.out, HB.out⟩

set_option maxRecDepth 100000 in
set_option maxHeartbeats 8000000 in
theorem au_big (base u : Nat) (hu : 100 ≤ u) (hu64 : u < 18446744073709551616) (v : Value) (l : List UInt8) (w : World) (hown : OwnM base w v l) (hb : base ≤ w.heap.size) (hl : l.length ≤ 140737488355000) (ht : Tab w) :
    Calls Tryd.prog 46 #[v, .int .u64 u, .int .i64 10] w (AppM base l (Lib.decDigits u) w) := by
  have hu1 : 1 ≤ u := by omega
  have hnd : Lib.nDigits u ≤ 20 := by have := Lib.numDigits_eq u hu1 hu64; split at this <;> omega
  have hdl := Lib.decDigits_length u
  have hsl : ∀ W, (Instr.sliceAt 63 (.pointer (some ⟨w.heap.size, 0, none⟩)) none (some (.int .i64 (Lib.nDigits u : Int))) none).run Tryd.prog W = .ok (.slice (some ⟨w.heap.size, 0, none⟩) (Lib.nDigits u) 24) W := fun W => by
    rw [run_sliceAt_array_h W 63 ⟨w.heap.size, 0, none⟩ (by kernel_rfl) .i64 (Lib.nDigits u : Int) (by omega) (by rw [show Tryd.prog.arrayLen 63 = 24 by kernel_rfl]; omega), show Tryd.prog.arrayLen 63 = 24 by kernel_rfl]
    go_simp
  have hH0 := Lib.holds_zero0 w 63 (Lib.nDigits u) (by omega)
  have hfmt := Tryd.internal_strconv_formatBase10 w.heap.size 0 24 u (Array.replicate (Lib.nDigits u) 0) (w.alloc (.cells Lib.zeros24 63)) hH0 (by rw [Array.size_replicate]; exact Lib.lt_pow_nDigits u) hu64 (by rw [Array.size_replicate]; omega)
  rw [Array.size_replicate] at hfmt
  have hnum := Tryd.internal_strconv_numDigits u hu1 hu64 _ (Lib.tabIs_alloc ht (.cells Lib.zeros24 63))
  have HO := Lib.hid hown
  have HF := Lib.hid hfmt
  have HN := Lib.hid hnum
  have HH := Lib.hid hH0
  have HD := Lib.hid hdl
  have iu : (100 : Int) ≤ (u : Int) := by omega
  clear hown hfmt hnum hH0 hdl ht
  go_enter Tryd.func46, Tryd.ntmps46
  go_wp2_with (go_at_call 43; refine HN.out.mono ?_; rintro e w' ⟨rfl, rfl⟩)
  refine HF.out.mono ?_
  rintro e w' ⟨rfl, k, v', dk, rfl, hF⟩
  have hcells : ∀ j u', (Lib.byteCells (Lib.decDigits u))[j]? = some u' → ((Go.Sort.putRow (fun (b : UInt8) => Value.int .u8 (b.toNat : Int)) (w.alloc (.cells Lib.zeros24 63)) w.heap.size 0 dk).drewN k).cell? ((⟨w.heap.size, 0, none⟩ : Addr).add j) = some u' := by
    intro j u' hj
    have hjl : j < (Lib.decDigits u).length := by
      have h5 := (List.getElem?_eq_some_iff.1 hj).1
      rwa [Lib.byteCells_length] at h5
    have e5 : (Lib.byteCells (Lib.decDigits u))[j]? = some (Value.int .u8 ((Lib.decDigits u)[j].toNat : Int)) := by simp [Lib.byteCells, hjl]
    rw [e5] at hj
    cases hj
    rw [Lib.row_is_numeral hF j hjl, Addr.add_lit, World.cell?_drewN]
    exact Go.Sort.cell?_putRow (fun (b : UInt8) => Value.int .u8 (b.toNat : Int)) _ w.heap.size 0 _ dk HH.out (by rw [hF.size, Array.size_replicate]) j (by rw [hF.size, ← HD.out]; exact hjl)
  obtain ⟨os, eo⟩ := Lib.fin_at w (.cells Lib.zeros24 63) dk k 0
  have hbW : Below w.heap.size w ((Go.Sort.putRow (fun (b : UInt8) => Value.int .u8 (b.toNat : Int)) (w.alloc (.cells Lib.zeros24 63)) w.heap.size 0 dk).drewN k) := by rw [eo]; exact Lib.below_grow w.heap.size w (Nat.le_refl _) k os
  have HO2 := Lib.hid (HO.out.step hbW)
  have HB2 := Lib.hid (hbW.mono hb)
  have HC := Lib.hid hcells
  have hsz : base ≤ ((Go.Sort.putRow (fun (b : UInt8) => Value.int .u8 (b.toNat : Int)) (w.alloc (.cells Lib.zeros24 63)) w.heap.size 0 dk).drewN k).heap.size := Nat.le_trans hb hbW.size
  generalize (Go.Sort.putRow (fun (b : UInt8) => Value.int .u8 (b.toNat : Int)) (w.alloc (.cells Lib.zeros24 63)) w.heap.size 0 dk).drewN k = W2 at HC HO2 HB2 hsz ⊢
  clear eo hF hcells hbW HF HN HH HO
  go_wp2_with (at_builtin; refine wpM_slice rfl _ _ rfl base _ _ (Lib.decDigits u) rfl HO2.out (Lib.nDigits u) 24 ⟨w.heap.size, 0, none⟩ rfl HD.out HC.out (by rw [HD.out]; omega) hsz ?_)
  intro v2 w3 hown' hgrow
  have H3 := Lib.hid hown'
  have HB3 : Hid (Below base w w3) := Lib.hid (HB2.out.grown hgrow hsz (fun k hk => (HO2.out.lt k hk).1))
  clear hown' hgrow
  go_wp2_with fail
  go_ret
  exact ⟨v2, rfl, H3.out, HB3.out⟩

theorem au_any (base u : Nat) (hu64 : u < 18446744073709551616) (v : Value) (l : List UInt8) (w : World) (hown : OwnM base w v l) (hb : base ≤ w.heap.size) (hl : l.length ≤ 140737488355000) (ht : Tab w) :
    Calls Tryd.prog 46 #[v, .int .u64 u, .int .i64 10] w (AppM base l (Lib.decDigits u) w) := by
  by_cases h : u < 100
  · exact au_small base u h v l w hown hb hl
  · exact au_big base u (by omega) hu64 v l w hown hb hl ht

theorem Tab.stepB {w w' : World} {B : Nat} (h : Tab w) (hg : 0 < B) (hb : Below B w w') : Tab w' := var?_below hb gTab hg h

set_option maxRecDepth 100000 in
set_option maxHeartbeats 4000000 in
theorem ai_in (base : Nat) (n : Int) (h0 : -9223372036854775808 ≤ n) (h1 : n ≤ 9223372036854775807) (v : Value) (l : List UInt8) (w : World) (hown : OwnM base w v l) (hb : base ≤ w.heap.size) (hg : 0 < base) (hl : l.length ≤ 140737488354000) (ht : Tab w) :
    Calls Tryd.prog 37 #[v, .int .i64 n, .int .i64 10] w (AppM base l (Lib.itoa n) w) := by
  have HT := Lib.hid ht
  have HO := Lib.hid hown
  clear ht hown
  by_cases hneg : n < 0
  · obtain ⟨u, rfl⟩ : ∃ u : Nat, n = -(u : Int) := ⟨n.natAbs, by omega⟩
    have hwr : IntKind.u64.wrap (-IntKind.u64.wrap (-(u : Int))) = (u : Int) := by rw [IntKind.wrap_u64, IntKind.wrap_u64]; omega
    have HI := Lib.hid (Lib.itoa_neg u (by omega))
    go_enter Tryd.func37, Tryd.ntmps37
    go_wp2_with (at_builtin; refine wpM_slice rfl _ _ rfl base _ _ [45] rfl (HO.out.step (box_b _ _)) 1 1 ⟨w.heap.size, 0, none⟩ rfl rfl (oneB (World.cell?_alloc_new _ _ _ _)) (by simp; omega) (by simp; omega) ?_)
    intro v1 w1 hown' hgrow
    have H1 := Lib.hid hown'
    have hB1 : Below base w w1 := ((Below.refl base w).alloc hb _).grown hgrow (by simp; omega) (fun k hk => (HO.out.lt k hk).1)
    have HB1 := Lib.hid hB1
    have HT1 := Lib.hid (HT.out.stepB hg hB1)
    have hsz := hB1.size
    clear hown' hgrow hB1
    go_wp2_with fail
    refine (au_any base u (by omega) v1 _ w1 H1.out (by omega) (by simp; omega) HT1.out).mono ?_
    rintro e w2 ⟨v2, rfl, hown2, hb2⟩
    have H2 := Lib.hid hown2
    have HB2 := Lib.hid (HB1.out.trans hb2)
    clear hown2 hb2
    go_wp2_with fail
    go_ret
    refine ⟨v2, rfl, ?_, HB2.out⟩
    have := H2.out
    rw [HI.out]
    simpa using this
  · obtain ⟨u, rfl⟩ := Int.eq_ofNat_of_zero_le (show 0 ≤ n by omega)
    have HI := Lib.hid (itoa_nat u)
    go_enter Tryd.func37, Tryd.ntmps37
    go_wp2_with fail
    refine (au_any base u (by omega) v _ w HO.out hb (by omega) HT.out).mono ?_
    rintro e w2 ⟨v2, rfl, hown2, hb2⟩
    have H2 := Lib.hid hown2
    have HB2 := Lib.hid hb2
    clear hown2 hb2
    go_wp2_with fail
    go_ret
    exact ⟨v2, rfl, by rw [HI.out]; exact H2.out, HB2.out⟩

theorem ai_any (base : Nat) (n : Int) (h0 : -9223372036854775808 ≤ n) (h1 : n ≤ 9223372036854775807) (v : Value) (l : List UInt8) (w : World) (hown : OwnM base w v l) (hb : base ≤ w.heap.size) (hg : 0 < base) (hl : l.length ≤ 140737488354000) (ht : Tab w) :
    Calls Tryd.prog 31 #[v, .int .i64 n, .int .i64 10] w (AppM base l (Lib.itoa n) w) := by
  have HT := Lib.hid ht
  have HO := Lib.hid hown
  clear ht hown
  go_enter Tryd.func31, Tryd.ntmps31
  go_wp2_with fail
  refine (ai_in base n h0 h1 v l w HO.out hb hg hl HT.out).mono ?_
  rintro e w2 ⟨v2, rfl, hown2, hb2⟩
  have H2 := Lib.hid hown2
  have HB2 := Lib.hid hb2
  clear hown2 hb2
  go_wp2_with fail
  go_ret
  exact ⟨v2, rfl, H2.out, HB2.out⟩

end Go.Proofs.YtgfemcpjkdepdaaDoor
