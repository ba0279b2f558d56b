/- Merged: TabTx, TabTs, AppI, NumT, TTI, Wds. -/
import Derived.Test.YtpphiekbhikadaaDoorTrx3
import Derived.Test.YtpphiekbhikadaaDoorTrx4
import Derived.Test.YtpphiekbhikadaaDoorTrx6
import Derived.Test.YtpphiekbhikadaaDoorTrx19
import Derived.Test.YtpphiekbhikadaaDoorTrx20
import Derived.Lib.ItoaMem
import Derived.Deep.RegionWith
import Derived.Lib.SplitLaws
import Derived.Lib.ParseIntBTie

/- TableText of the model: what the calls return. -/
namespace Go.Proofs.YtpphiekbhikadaaDoor
open Go.ChangeShapes Go.WideShapes Go.ChangeAt Go.RowKit
set_option linter.unusedVariables false
set_option maxRecDepth 100000

theorem itoa_len (n : Int) (h0 : 0 ≤ n) (h1 : n ≤ 1000000000000) : (Lib.itoa n).length ≤ 21 := Lib.itoa_length_le n (by omega) (by omega)

theorem tailT_len (r : List Int) (h : ∀ x ∈ r, 0 ≤ x ∧ x ≤ 1000000) : (tailT r).length ≤ 22 * r.length := by
  induction r with
  | nil => simp [tailT]
  | cons x t ih =>
    rw [tailT_cons, List.length_cons, List.length_append, List.length_cons]
    have h1 := itoa_len x (h x List.mem_cons_self).1 (by have := (h x List.mem_cons_self).2; omega)
    have h2 := ih fun y hy => h y (List.mem_cons_of_mem _ hy)
    omega

theorem jn_len (xs : List Int) (h : ∀ x ∈ xs, 0 ≤ x ∧ x ≤ 1000000) : (jn xs).length ≤ 22 * xs.length := by
  cases xs with
  | nil => simp [jn]
  | cons x t =>
    rw [jn, List.length_append, List.length_cons]
    have h1 := itoa_len x (h x List.mem_cons_self).1 (by have := (h x List.mem_cons_self).2; omega)
    have h2 := tailT_len t fun y hy => h y (List.mem_cons_of_mem _ hy)
    omega

theorem jn_take_succ (xs : List Int) (k : Nat) (hk : k < xs.length) (h0 : 0 < k) : jn (xs.take (k + 1)) = jn (xs.take k) ++ (32 :: Lib.itoa (xs.getD k 0)) := by
  rw [List.take_add_one, List.getElem?_eq_getElem hk]
  cases xs with
  | nil => simp at hk
  | cons x t =>
    obtain ⟨j, rfl⟩ : ∃ j, k = j + 1 := ⟨k - 1, by omega⟩
    rw [List.take_succ_cons]
    show jn (x :: (t.take j ++ [(x :: t)[j + 1]])) = _
    rw [jn_snoc]
    simp [List.getD, show j < t.length by simpa using hk]

theorem jn_take_one (xs : List Int) (hk : 0 < xs.length) : jn (xs.take 1) = Lib.itoa (xs.getD 0 0) := by
  cases xs with
  | nil => simp at hk
  | cons x t => simp [jn_one]

/-- numbers of a table's text -/
def Nums (xs : List Int) : Prop := ∀ x ∈ xs, 0 ≤ x ∧ x ≤ 1000000

theorem Nums.get {xs : List Int} (h : Nums xs) (i : Nat) : 0 ≤ xs.getD i 0 ∧ xs.getD i 0 ≤ 1000000 := by
  by_cases hi : i < xs.length
  · rw [List.getD_eq_getElem?_getD, List.getElem?_eq_getElem hi]; exact h _ (List.getElem_mem _)
  · rw [getD_far _ _ (by omega)]; omega

theorem Nums.take {xs : List Int} (h : Nums xs) (k : Nat) : Nums (xs.take k) := fun x hx => h x (List.mem_of_mem_take hx)

theorem LTab.nums {f : Int} {xs : List Int} (h : LTab f xs) : Nums (f :: xs) := by
  intro x hx
  rcases List.mem_cons.1 hx with rfl | hx
  · have := h.1; omega
  · obtain ⟨i, hi, rfl⟩ := List.getElem_of_mem hx
    have h1 := h.nonneg i
    have h2 := h.le i
    rw [List.getD_eq_getElem?_getD, List.getElem?_eq_getElem hi] at h1 h2
    exact ⟨h1, h2⟩

theorem number_any (n : Int) (w : World) (h0 : 0 ≤ n) (h1 : n ≤ 1000000000000) :
    Calls Tryd.prog 60 #[.int .i64 n] w fun e w' => e = .returned (.string ⟨(Lib.itoa n).toArray⟩) ∧ Below w.heap.size w w' := by
  obtain ⟨u, rfl⟩ := Int.eq_ofNat_of_zero_le h0
  have hc := fun w => dec_any u (u : Int) w (by omega) (by omega) (by omega)
  have HI := Lib.hid (itoa_nat u)
  simp only [Int.toNat_natCast] at hc
  have HC := Lib.hid hc
  clear hc
  go_enter Tryd.func60, Tryd.ntmps60
  go_wp2_with fail
  refine (HC.out _).mono ?_
  rintro e w1 ⟨rfl, hb⟩
  have HB := Lib.hid hb
  clear hb
  go_wp2_with fail
  go_ret
  exact ⟨ret_str (by rw [HI.out]), HB.out⟩

set_option maxHeartbeats 1000000 in
theorem join_any (xs : List Int) (a : Option Addr) (l c : Nat) (w : World) (h : Ints w a l xs) (hn : Nums xs) (hl : l ≤ 1000) :
    Calls Tryd.prog 33 #[.slice a l c, .string ⟨#[32]⟩] w fun e w' => e = .returned (.string ⟨(jn xs).toArray⟩) ∧ Below w.heap.size w w' := by
  have HL := Lib.hid h.len
  have H := Lib.hid h
  have HN := Lib.hid hn
  clear h hn
  go_enter Tryd.func33, Tryd.ntmps33
  go_wp2_with fail
  go_loopw [5, 6] (fun s i wr => ∃ k : Nat, k ≤ l ∧ i = .int .i64 k ∧ s = .string ⟨(jn (xs.take k)).toArray⟩ ∧ Hid (Below w.heap.size w wr)) (fun _ i _ => l - (intOf i).toNat)
  case atStart => exact ⟨0, Nat.zero_le _, rfl, by simp [jn], Lib.hid (Below.refl _ _)⟩
  case round =>
    obtain ⟨k, hk, rfl, rfl, HB⟩ := hrel
    have hlen := jn_len (xs.take k) (HN.out.take k)
    have hlk : (xs.take k).length ≤ k := List.length_take_le _ _
    by_cases hlt : k < l
    · obtain ⟨b, off, rfl, hb, hc⟩ := H.out.at (by omega)
      have hx := (HB.out.cell (p := ⟨b, off + k, none⟩) hb).trans (hc k hlt)
      obtain ⟨n0, n1⟩ := HN.out.get k
      have HT := Lib.hid (jn_take_succ xs k (by rw [HL.out]; exact hlt))
      have HT1 : Hid (k = 0 → jn (xs.take (k + 1)) = Lib.itoa (xs.getD k 0)) := Lib.hid (fun e => by subst e; exact jn_take_one xs (by rw [HL.out]; omega))
      have HTE : Hid (k = 0 → jn (xs.take k) = []) := Lib.hid (fun e => by subst e; simp [jn])
      obtain ⟨n, hn0⟩ : ∃ n, xs.getD k 0 = n := ⟨_, rfl⟩
      rw [hn0] at hx n0 n1 HT HT1
      have hil := itoa_len n n0 (by omega)
      obtain ⟨J, hJ⟩ : ∃ J, jn (xs.take k) = J := ⟨_, rfl⟩
      rw [hJ] at hlen HT HTE ⊢
      have hx' : wr.cell? ⟨b, off + k, none⟩ = some (.int .i64 n) := hx
      clear hn0 hJ hc hx
      have hJ2 : J.length ≤ 22000 := by omega
      by_cases h0 : k = 0
      · have hk0 : ¬ (0 : Int) < (k : Int) := by omega
        have HE := Lib.hid (HTE.out h0)
        have HT2 := Lib.hid (HT1.out h0)
        clear h0
        go_wp2_with fail
        refine (number_any n _ n0 (by omega)).mono ?_
        rintro e w3 ⟨rfl, hb3⟩
        have HB3 := Lib.hid (HB.out.trans (hb3.mono HB.out.size))
        clear hb3
        go_wp2_with fail
        go_roundw
        case rel => exact ⟨k + 1, by omega, by go_num, by rw [HT2.out]; congr 1; apply ByteArray.ext; simp [HE.out], HB3⟩
        case measure => simp [intOf]; omega
      · have hk0 : (0 : Int) < (k : Int) := by omega
        have HT2 := Lib.hid (HT.out (by omega))
        clear h0
        go_wp2_with fail
        refine (number_any n _ n0 (by omega)).mono ?_
        rintro e w3 ⟨rfl, hb3⟩
        have HB3 := Lib.hid (HB.out.trans (hb3.mono HB.out.size))
        clear hb3
        go_wp2_with fail
        go_roundw
        case rel => exact ⟨k + 1, by omega, by go_num, by rw [HT2.out]; congr 1; apply ByteArray.ext; simp, HB3⟩
        case measure => simp [intOf]; omega
    · obtain rfl : k = l := by omega
      have HX : Hid (xs.take k = xs) := Lib.hid (List.take_of_length_le (by rw [HL.out]; exact Nat.le_refl _))
      go_wp2_with fail
      go_ret
      exact ⟨ret_str (by rw [HX.out]), HB.out⟩

end Go.Proofs.YtpphiekbhikadaaDoor

/- TableText of the model: what the calls return. -/
namespace Go.Proofs.YtpphiekbhikadaaDoor
open Go.ChangeShapes Go.WideShapes Go.ChangeAt Go.RowKit
set_option linter.unusedVariables false
set_option maxRecDepth 100000

theorem ownI_lit1 (w : World) (x : Int) : OwnI w.heap.size (w.alloc (.cells #[.int .i64 x] 2)) (.slice (some ⟨w.heap.size, 0, none⟩) 1 1) [x] :=
  World.ownsRow_lit w #[.int .i64 x] 1 (Nat.le_refl _) (by unfold maxLen; omega) rfl

/-- append of a whole list -/
theorem wpList_apps {w : World} {ops : Array Oper} {rest : List Oper} {o : Oper} {a : Act} {Q : Exit → Act → World → Prop} (hgd : o.guard = none) (s x : Operand)
    (ho : o.op = .call { callee := .builtin .append, args := #[s, x], argTypes := #[24, 24] })
    (base : Nat) (v : Value) (xs ys : List Int) (m cp : Nat) (hs : a.eval s = v) (hown : OwnI base w v xs) (ad : Addr) (hx : a.eval x = .slice (some ad) m cp) (hm : ys.length = m) (hc : ∀ j u, (ys.map (Value.int .i64))[j]? = some u → w.cell? (ad.add j) = some u)
    (hlen : xs.length + ys.length ≤ 4096) (hbase : base ≤ w.heap.size)
    (h : ∀ v' w', OwnI base w' v' (xs ++ ys) → w.grownBy w' v.ownBlock → wpList Tryd.prog ops Q rest (a.put o.dst v') w') : wpList Tryd.prog ops Q (o :: rest) a w := by
  obtain ⟨i0, hi, hz0, hz1, hz2⟩ := info_parts infoI
  have hmx : maxLen = maxLen := rfl
  unfold maxLen at hmx
  obtain ⟨v', w', hr, h2, h3, h4⟩ := run_append_own (P := Tryd.prog) w base 24 o.type 2 i0 (.int .i64 0) 1 8 Tryd.underlying24 hi hz0 hz1 hz2 rfl (by decide) v xs.length (xs.map (Value.int .i64)) hown ad m cp (ys.map (Value.int .i64)) (by simp [hm]) hc (by intro u hu; obtain ⟨q, _, rfl⟩ := List.mem_map.1 hu; rfl) (by unfold maxLen; omega) (by omega) hbase
  have h6 : OwnI base w' v' (xs ++ ys) := by
    unfold OwnI
    rw [List.length_append, List.map_append, hm]
    exact h2
  refine wpList_plain hgd fun _ hK => ?_
  unfold Oper.wp execOp
  simp only [ho, resolve, invoke, builtin, Sem.run_bind, Sem.run_pure, Result.andThen_ok, List.map_toArray, List.map_cons, List.map_nil, hs, hx, hr]
  exact hK _ _ (h v' w' h6 h3)

/-- the text of a table, and none of another value -/
def ttT (f : Int) (xs : List Int) : List UInt8 := if ltB f xs = true then jn (f :: xs) else []

theorem ttT_t {f : Int} {xs : List Int} (h : ltB f xs = true) : ttT f xs = jn (f :: xs) := by simp [ttT, h]

theorem ttT_f {f : Int} {xs : List Int} (h : ltB f xs = false) : ttT f xs = [] := by simp [ttT, h]

end Go.Proofs.YtpphiekbhikadaaDoor

/- strconv.AppendInt onto a slice of bytes of the call's own, also one that a conversion of a string made. -/
namespace Go.Proofs.YtpphiekbhikadaaDoor
open Go.ChangeShapes Go.WideShapes Go.ChangeAt Go.RowKit
set_option linter.unusedVariables false

/-- what an append of the text m onto l leaves -/
def AppM (base : Nat) (l m : List UInt8) (w : World) (e : Ending) (w' : World) : Prop := ∃ v', e = .returned v' ∧ OwnM base w' v' (l ++ m) ∧ Below base w w'

theorem dec_len100 (u : Nat) (h : u < 100) : (Lib.decDigits u).length ≤ 20 := by
  rw [Lib.decDigits_length]
  by_cases h10 : u < 10
  · rw [Lib.nDigits_small h10]; omega
  · rw [Lib.nDigits_big h10, Lib.nDigits_small (show u / 10 < 10 by omega)]; omega

set_option maxRecDepth 100000 in
set_option maxHeartbeats 4000000 in
theorem au_small (base u : Nat) (hu : u < 100) (v : Value) (l : List UInt8) (w : World) (hown : OwnM base w v l) (hb : base ≤ w.heap.size) (hl : l.length ≤ 140737488355000) :
    Calls Tryd.prog 78 #[v, .int .u64 u, .int .i64 10] w (AppM base l (Lib.decDigits u) w) := by
  have HO := Lib.hid hown
  have hd := dec_len100 u hu
  clear hown
  go_enter Tryd.func78, Tryd.ntmps78
  go_wp2_with (first
    | (go_at_call 74; refine (Tryd.internal_strconv_small u hu _).mono ?_; rintro e w' ⟨rfl, hw⟩; have hw := hw.symm; subst hw)
    | (at_builtin; refine wpM_string rfl _ _ rfl base _ _ (Lib.decDigits u) rfl HO.out rfl (by omega) hb ?_))
  intro v' w1 hown' hgrow
  have H1 := Lib.hid hown'
  have HB : Hid (Below base w w1) := Lib.hid ((Below.refl _ _).grown hgrow hb (fun k hk => (HO.out.lt k hk).1))
  clear hown' hgrow
  go_wp2_with fail
  go_ret
  exact ⟨v', rfl, H1.out, HB.out⟩

set_option maxRecDepth 100000 in
set_option maxHeartbeats 8000000 in
theorem au_big (base u : Nat) (hu : 100 ≤ u) (hu64 : u < 18446744073709551616) (v : Value) (l : List UInt8) (w : World) (hown : OwnM base w v l) (hb : base ≤ w.heap.size) (hl : l.length ≤ 140737488355000) (ht : Tab w) :
    Calls Tryd.prog 78 #[v, .int .u64 u, .int .i64 10] w (AppM base l (Lib.decDigits u) w) := by
  have hu1 : 1 ≤ u := by omega
  have hnd : Lib.nDigits u ≤ 20 := by have := Lib.numDigits_eq u hu1 hu64; split at this <;> omega
  have hdl := Lib.decDigits_length u
  have hsl : ∀ W, (Instr.sliceAt 99 (.pointer (some ⟨w.heap.size, 0, none⟩)) none (some (.int .i64 (Lib.nDigits u : Int))) none).run Tryd.prog W = .ok (.slice (some ⟨w.heap.size, 0, none⟩) (Lib.nDigits u) 24) W := fun W => by
    rw [run_sliceAt_array_h W 99 ⟨w.heap.size, 0, none⟩ (by kernel_rfl) .i64 (Lib.nDigits u : Int) (by omega) (by rw [show Tryd.prog.arrayLen 99 = 24 by kernel_rfl]; omega), show Tryd.prog.arrayLen 99 = 24 by kernel_rfl]
    go_simp
  have hH0 := Lib.holds_zero0 w 99 (Lib.nDigits u) (by omega)
  have hfmt := Tryd.internal_strconv_formatBase10 w.heap.size 0 24 u (Array.replicate (Lib.nDigits u) 0) (w.alloc (.cells Lib.zeros24 99)) hH0 (by rw [Array.size_replicate]; exact Lib.lt_pow_nDigits u) hu64 (by rw [Array.size_replicate]; omega)
  rw [Array.size_replicate] at hfmt
  have hnum := Tryd.internal_strconv_numDigits u hu1 hu64 _ (Lib.tabIs_alloc ht (.cells Lib.zeros24 99))
  have HO := Lib.hid hown
  have HF := Lib.hid hfmt
  have HN := Lib.hid hnum
  have HH := Lib.hid hH0
  have HD := Lib.hid hdl
  have iu : (100 : Int) ≤ (u : Int) := by omega
  clear hown hfmt hnum hH0 hdl ht
  go_enter Tryd.func78, Tryd.ntmps78
  go_wp2_with (go_at_call 75; refine HN.out.mono ?_; rintro e w' ⟨rfl, rfl⟩)
  refine HF.out.mono ?_
  rintro e w' ⟨rfl, k, v', dk, rfl, hF⟩
  have hcells : ∀ j u', (Lib.byteCells (Lib.decDigits u))[j]? = some u' → ((Go.Sort.putRow (fun (b : UInt8) => Value.int .u8 (b.toNat : Int)) (w.alloc (.cells Lib.zeros24 99)) w.heap.size 0 dk).drewN k).cell? ((⟨w.heap.size, 0, none⟩ : Addr).add j) = some u' := by
    intro j u' hj
    have hjl : j < (Lib.decDigits u).length := by
      have h5 := (List.getElem?_eq_some_iff.1 hj).1
      rwa [Lib.byteCells_length] at h5
    have e5 : (Lib.byteCells (Lib.decDigits u))[j]? = some (Value.int .u8 ((Lib.decDigits u)[j].toNat : Int)) := by simp [Lib.byteCells, hjl]
    rw [e5] at hj
    cases hj
    rw [Lib.row_is_numeral hF j hjl, Addr.add_lit, World.cell?_drewN]
    exact Go.Sort.cell?_putRow (fun (b : UInt8) => Value.int .u8 (b.toNat : Int)) _ w.heap.size 0 _ dk HH.out (by rw [hF.size, Array.size_replicate]) j (by rw [hF.size, ← HD.out]; exact hjl)
  obtain ⟨os, eo⟩ := Lib.fin_at w (.cells Lib.zeros24 99) dk k 0
  have hbW : Below w.heap.size w ((Go.Sort.putRow (fun (b : UInt8) => Value.int .u8 (b.toNat : Int)) (w.alloc (.cells Lib.zeros24 99)) w.heap.size 0 dk).drewN k) := by rw [eo]; exact Lib.below_grow w.heap.size w (Nat.le_refl _) k os
  have HO2 := Lib.hid (HO.out.step hbW)
  have HB2 := Lib.hid (hbW.mono hb)
  have HC := Lib.hid hcells
  have hsz : base ≤ ((Go.Sort.putRow (fun (b : UInt8) => Value.int .u8 (b.toNat : Int)) (w.alloc (.cells Lib.zeros24 99)) w.heap.size 0 dk).drewN k).heap.size := Nat.le_trans hb hbW.size
  generalize (Go.Sort.putRow (fun (b : UInt8) => Value.int .u8 (b.toNat : Int)) (w.alloc (.cells Lib.zeros24 99)) w.heap.size 0 dk).drewN k = W2 at HC HO2 HB2 hsz ⊢
  clear eo hF hcells hbW HF HN HH HO
  go_wp2_with (at_builtin; refine wpM_slice rfl _ _ rfl base _ _ (Lib.decDigits u) rfl HO2.out (Lib.nDigits u) 24 ⟨w.heap.size, 0, none⟩ rfl HD.out HC.out (by rw [HD.out]; omega) hsz ?_)
  intro v2 w3 hown' hgrow
  have H3 := Lib.hid hown'
  have HB3 : Hid (Below base w w3) := Lib.hid (HB2.out.grown hgrow hsz (fun k hk => (HO2.out.lt k hk).1))
  clear hown' hgrow
  go_wp2_with fail
  go_ret
  exact ⟨v2, rfl, H3.out, HB3.out⟩

theorem au_any (base u : Nat) (hu64 : u < 18446744073709551616) (v : Value) (l : List UInt8) (w : World) (hown : OwnM base w v l) (hb : base ≤ w.heap.size) (hl : l.length ≤ 140737488355000) (ht : Tab w) :
    Calls Tryd.prog 78 #[v, .int .u64 u, .int .i64 10] w (AppM base l (Lib.decDigits u) w) := by
  by_cases h : u < 100
  · exact au_small base u h v l w hown hb hl
  · exact au_big base u (by omega) hu64 v l w hown hb hl ht

theorem Tab.stepB {w w' : World} {B : Nat} (h : Tab w) (hg : 0 < B) (hb : Below B w w') : Tab w' := var?_below hb gTab hg h

set_option maxRecDepth 100000 in
set_option maxHeartbeats 4000000 in
theorem ai_in (base : Nat) (n : Int) (h0 : -9223372036854775808 ≤ n) (h1 : n ≤ 9223372036854775807) (v : Value) (l : List UInt8) (w : World) (hown : OwnM base w v l) (hb : base ≤ w.heap.size) (hg : 0 < base) (hl : l.length ≤ 140737488354000) (ht : Tab w) :
    Calls Tryd.prog 68 #[v, .int .i64 n, .int .i64 10] w (AppM base l (Lib.itoa n) w) := by
  have HT := Lib.hid ht
  have HO := Lib.hid hown
  clear ht hown
  by_cases hneg : n < 0
  · obtain ⟨u, rfl⟩ : ∃ u : Nat, n = -(u : Int) := ⟨n.natAbs, by omega⟩
    have hwr : IntKind.u64.wrap (-IntKind.u64.wrap (-(u : Int))) = (u : Int) := by rw [IntKind.wrap_u64, IntKind.wrap_u64]; omega
    have HI := Lib.hid (Lib.itoa_neg u (by omega))
    go_enter Tryd.func68, Tryd.ntmps68
    go_wp2_with (at_builtin; refine wpM_slice rfl _ _ rfl base _ _ [45] rfl (HO.out.step (box_b _ _)) 1 1 ⟨w.heap.size, 0, none⟩ rfl rfl (oneB (World.cell?_alloc_new _ _ _ _)) (by simp; omega) (by simp; omega) ?_)
    intro v1 w1 hown' hgrow
    have H1 := Lib.hid hown'
    have hB1 : Below base w w1 := ((Below.refl base w).alloc hb _).grown hgrow (by simp; omega) (fun k hk => (HO.out.lt k hk).1)
    have HB1 := Lib.hid hB1
    have HT1 := Lib.hid (HT.out.stepB hg hB1)
    have hsz := hB1.size
    clear hown' hgrow hB1
    go_wp2_with fail
    refine (au_any base u (by omega) v1 _ w1 H1.out (by omega) (by simp; omega) HT1.out).mono ?_
    rintro e w2 ⟨v2, rfl, hown2, hb2⟩
    have H2 := Lib.hid hown2
    have HB2 := Lib.hid (HB1.out.trans hb2)
    clear hown2 hb2
    go_wp2_with fail
    go_ret
    refine ⟨v2, rfl, ?_, HB2.out⟩
    have := H2.out
    rw [HI.out]
    simpa using this
  · obtain ⟨u, rfl⟩ := Int.eq_ofNat_of_zero_le (show 0 ≤ n by omega)
    have HI := Lib.hid (itoa_nat u)
    go_enter Tryd.func68, Tryd.ntmps68
    go_wp2_with fail
    refine (au_any base u (by omega) v _ w HO.out hb (by omega) HT.out).mono ?_
    rintro e w2 ⟨v2, rfl, hown2, hb2⟩
    have H2 := Lib.hid hown2
    have HB2 := Lib.hid hb2
    clear hown2 hb2
    go_wp2_with fail
    go_ret
    exact ⟨v2, rfl, by rw [HI.out]; exact H2.out, HB2.out⟩

theorem ai_any (base : Nat) (n : Int) (h0 : -9223372036854775808 ≤ n) (h1 : n ≤ 9223372036854775807) (v : Value) (l : List UInt8) (w : World) (hown : OwnM base w v l) (hb : base ≤ w.heap.size) (hg : 0 < base) (hl : l.length ≤ 140737488354000) (ht : Tab w) :
    Calls Tryd.prog 58 #[v, .int .i64 n, .int .i64 10] w (AppM base l (Lib.itoa n) w) := by
  have HT := Lib.hid ht
  have HO := Lib.hid hown
  clear ht hown
  go_enter Tryd.func58, Tryd.ntmps58
  go_wp2_with fail
  refine (ai_in base n h0 h1 v l w HO.out hb hg hl HT.out).mono ?_
  rintro e w2 ⟨v2, rfl, hown2, hb2⟩
  have H2 := Lib.hid hown2
  have HB2 := Lib.hid hb2
  clear hown2 hb2
  go_wp2_with fail
  go_ret
  exact ⟨v2, rfl, H2.out, HB2.out⟩

end Go.Proofs.YtpphiekbhikadaaDoor

/- TableText of the program: what the calls return. -/
namespace Go.Proofs.YtpphiekbhikadaaDoor
open Go.ChangeShapes Go.WideShapes Go.ChangeAt Go.RowKit
set_option linter.unusedVariables false
set_option maxRecDepth 100000

/-- numbers that an int64 holds -/
def Wide (xs : List Int) : Prop := ∀ x ∈ xs, -9223372036854775808 ≤ x ∧ x ≤ 9223372036854775807

theorem Wide.get {xs : List Int} (h : Wide xs) (i : Nat) : -9223372036854775808 ≤ xs.getD i 0 ∧ xs.getD i 0 ≤ 9223372036854775807 := by
  by_cases hi : i < xs.length
  · rw [List.getD_eq_getElem?_getD, List.getElem?_eq_getElem hi]; exact h _ (List.getElem_mem _)
  · rw [getD_far _ _ (by omega)]; omega

theorem Wide.take {xs : List Int} (h : Wide xs) (k : Nat) : Wide (xs.take k) := fun x hx => h x (List.mem_of_mem_take hx)

theorem Nums.wide {xs : List Int} (h : Nums xs) : Wide xs := fun x hx => (by have := h x hx; omega)

theorem itoa_len64 (n : Int) (h0 : -9223372036854775808 ≤ n) (h1 : n ≤ 9223372036854775807) : (Lib.itoa n).length ≤ 21 := Lib.itoa_length_le n h0 h1

theorem tailT_len64 (r : List Int) (h : Wide r) : (tailT r).length ≤ 22 * r.length := by
  induction r with
  | nil => simp [tailT]
  | cons x t ih =>
    rw [tailT_cons, List.length_cons, List.length_append, List.length_cons]
    have h1 := itoa_len64 x (h x List.mem_cons_self).1 (h x List.mem_cons_self).2
    have h2 := ih fun y hy => h y (List.mem_cons_of_mem _ hy)
    omega

theorem jn_len64 (f : Int) (r : List Int) (h0 : -9223372036854775808 ≤ f) (h1 : f ≤ 9223372036854775807) (h : Wide r) : (jn (f :: r)).length ≤ 22 * r.length + 21 := by
  rw [jn, List.length_append]
  have h1 := itoa_len64 f h0 h1
  have h2 := tailT_len64 r h
  omega

theorem jn_take (f : Int) (xs : List Int) (k : Nat) (hk : k < xs.length) : jn (f :: xs.take (k + 1)) = jn (f :: xs.take k) ++ [32] ++ Lib.itoa (xs.getD k 0) := by
  rw [List.take_add_one, List.getElem?_eq_getElem hk]
  show jn (f :: (xs.take k ++ [xs[k]])) = _
  rw [jn_snoc]
  simp [List.getD, hk]

theorem OwnM.mono {base b2 : Nat} {w : World} {v : Value} {l : List UInt8} (h : OwnM base w v l) (hb : b2 ≤ base) : OwnM b2 w v l := by
  obtain ⟨g, cap, hv, hg, hr⟩ := h
  exact ⟨g, cap, hv, by omega, hr⟩

theorem bw_below (w : World) (s : ByteArray) : Below w.heap.size w (Lib.bytesWorld w 5 s) := Joins.below_bytesWorld _ _ _ _ (Nat.le_refl _)

theorem Tab.lt {w : World} (h : Tab w) : (0 : Nat) < w.heap.size := by
  have := World.var?_cell gTab h 0
  exact block_lt (p := ⟨0, 0, none⟩) (v := .int .u64 1) (by simpa [Lib.pow10Tab] using this)

set_option maxHeartbeats 4000000 in
theorem nt_any (f : Int) (xs : List Int) (a : Option Addr) (l c : Nat) (w : World) (h : Ints w a l xs) (f0 : -9223372036854775808 ≤ f) (f1 : f ≤ 9223372036854775807) (hw : Wide xs) (hl : l ≤ 1100000) (ht : Tab w) :
    Calls Tryd.prog 30 #[.int .i64 f, .slice a l c] w fun e w' => e = .returned (.string ⟨(jn (f :: xs)).toArray⟩) ∧ Below w.heap.size w w' := by
  have HL := Lib.hid h.len
  have HG := Lib.hid ht.lt
  have H := Lib.hid h
  have HT := Lib.hid ht
  have HW := Lib.hid hw
  clear h ht hw
  go_enter Tryd.func30, Tryd.ntmps30
  go_wp2_with fail
  refine (fmt_any f _ f0 f1 HT.out).mono ?_
  rintro e w1 ⟨rfl, hb1, ht1⟩
  have HB1 := Lib.hid hb1
  clear hb1 ht1
  obtain ⟨s, hs⟩ : ∃ s : ByteArray, (⟨(Lib.itoa f).toArray⟩ : ByteArray) = s := ⟨_, rfl⟩
  have hsl : s.data.toList = Lib.itoa f := by rw [← hs]
  have hsz : s.size ≤ 21 := by rw [← hs]; show (Lib.itoa f).toArray.size ≤ 21; simp; exact itoa_len64 f f0 f1
  rw [hs]
  have hcv := Lib.run_convert_string_bytes (P := Tryd.prog) w1 9 22 5 s Tryd.underlying9 Tryd.underlying22 Tryd.underlying5
  have ho := conv_ownM w1 s (by omega)
  rw [hsl] at ho
  obtain ⟨v0, hv0⟩ : ∃ v, Value.slice (some ⟨w1.heap.size, 0, none⟩) s.size (grownCap w1 s.size 0 5) = v := ⟨_, rfl⟩
  obtain ⟨w2, hw2⟩ : ∃ W, Lib.bytesWorld w1 5 s = W := ⟨_, rfl⟩
  have hb2 := bw_below w1 s
  rw [hv0, hw2] at hcv ho
  rw [hw2] at hb2
  have HO := Lib.hid (ho.mono HB1.out.size)
  have HB2 := Lib.hid (HB1.out.trans (hb2.mono HB1.out.size))
  clear hs hsl hsz ho hb2 hv0 hw2
  go_wp2_with fail
  clear hcv
  go_loopw [5, 13] (fun v i wr => ∃ k : Nat, k ≤ l ∧ i = .int .i64 k ∧ Hid (OwnM w.heap.size wr v (jn (f :: xs.take k))) ∧ Hid (Below w.heap.size w wr)) (fun _ i _ => l - (intOf i).toNat)
  case atStart => exact ⟨0, Nat.zero_le _, rfl, Lib.hid (by have := HO.out; simpa [jn, tailT] using this), HB2⟩
  case round =>
    obtain ⟨k, hk, rfl, HV, HB⟩ := hrel
    have hlen := jn_len64 f (xs.take k) f0 f1 (HW.out.take k)
    have hlk : (xs.take k).length ≤ k := List.length_take_le _ _
    have hsz := HB.out.size
    by_cases hlt : k < l
    · obtain ⟨b, off, rfl, hb, hc⟩ := H.out.at (by omega)
      have hx := (HB.out.cell (p := ⟨b, off + k, none⟩) hb).trans (hc k hlt)
      obtain ⟨n0, n1⟩ := HW.out.get k
      have HJ := Lib.hid (jn_take f xs k (by rw [HL.out]; exact hlt))
      obtain ⟨n, hn⟩ : ∃ n, xs.getD k 0 = n := ⟨_, rfl⟩
      rw [hn] at hx n0 n1 HJ
      obtain ⟨J, hJ⟩ : ∃ J, jn (f :: xs.take k) = J := ⟨_, rfl⟩
      rw [hJ] at hlen HJ HV
      have hx' : wr.cell? ⟨b, off + k, none⟩ = some (.int .i64 n) := hx
      have hJ2 : J.length ≤ 140737488353000 := by omega
      clear hn hJ hc hx
      go_wp2_with (at_builtin; refine wpM_slice rfl _ _ rfl w.heap.size _ J [32] rfl (HV.out.step (box_b _ _)) 1 1 ⟨wr.heap.size, 0, none⟩ rfl rfl (oneB (World.cell?_alloc_new _ _ _ _)) (by simp; omega) (by simp; omega) ?_)
      intro v1 w1 hown' hgrow
      have H1 := Lib.hid hown'
      have hB1 : Below w.heap.size w w1 := (HB.out.alloc hsz _).grown hgrow (by simp; omega) (fun k hk => (HV.out.lt k hk).1)
      have HC1 := Lib.hid hB1
      have hsz1 := hB1.size
      clear hown' hgrow hB1
      go_wp2_with fail
      refine (ai_any w.heap.size n n0 n1 v1 _ w1 H1.out hsz1 HG.out (by simp; omega) (HT.out.stepB HG.out HC1.out)).mono ?_
      rintro e w2 ⟨v2, rfl, hown2, hb2⟩
      have H2 := Lib.hid hown2
      have HC2 := Lib.hid (HC1.out.trans hb2)
      clear hown2 hb2
      go_wp2_with fail
      go_roundw
      case rel => exact ⟨k + 1, by omega, by go_num, Lib.hid (by rw [HJ.out]; exact H2.out), HC2⟩
      case measure => simp [intOf]; omega
    · obtain rfl : k = l := by omega
      have HX : Hid (xs.take k = xs) := Lib.hid (List.take_of_length_le (by rw [HL.out]; exact Nat.le_refl _))
      obtain ⟨g, cap, rfl, hg, hr⟩ := HV.out
      obtain ⟨J, hJ⟩ : ∃ J, jn (f :: xs.take k) = J := ⟨_, rfl⟩
      rw [hJ] at hr hlen
      (try rw [hJ])
      have hcb := run_convert_bytes_back (P := Tryd.prog) wr 22 9 5 ⟨g, 0, none⟩ cap J Tryd.underlying22 Tryd.underlying5 Tryd.underlying9 (by
        intro j hj
        refine hr.cells j _ ?_
        simp [Lib.byteCells, hj])
      have HJ := Lib.hid hJ
      clear hJ hr HV
      go_wp2_with fail
      go_ret
      exact ⟨ret_str (by have := HJ.out; rw [HX.out] at this; simp [this]), HB.out⟩

end Go.Proofs.YtpphiekbhikadaaDoor

/- TableText of the program: what the calls return. -/
namespace Go.Proofs.YtpphiekbhikadaaDoor
open Go.ChangeShapes Go.WideShapes Go.ChangeAt Go.RowKit
set_option linter.unusedVariables false
set_option maxRecDepth 100000

end Go.Proofs.YtpphiekbhikadaaDoor

/- What the text of a life table reads as: plain facts; slices of words. -/
namespace Go.Proofs.YtpphiekbhikadaaDoor
open Go.ChangeShapes Go.WideShapes Go.ChangeAt Go.RowKit
set_option linter.unusedVariables false
set_option maxRecDepth 100000

/-- what strconv.ParseInt makes of a word -/
def pv (l : List UInt8) : Option Int := match Lib.parseIntB 64 l with | .ok v => some v | _ => none

theorem pv_ok {l : List UInt8} {v : Int} (h : Lib.parseIntB 64 l = .ok v) : pv l = some v := by unfold pv; rw [h]

theorem pv_no {l : List UInt8} (h : ∀ v, Lib.parseIntB 64 l ≠ .ok v) : pv l = none := by
  unfold pv; split
  · next v hv => exact absurd hv (h v)
  · rfl

def allP (ws : List (List UInt8)) : Bool := ws.all fun w => (pv w).isSome

def vals (ws : List (List UInt8)) : List Int := ws.map fun w => (pv w).getD 0

theorem pv_wide (l : List UInt8) : -9223372036854775808 ≤ (pv l).getD 0 ∧ (pv l).getD 0 ≤ 9223372036854775807 := by
  unfold pv; split
  · next v hv =>
    obtain ⟨a, b⟩ := Lib.parseIntB_bounds hv
    have e : (2 : Nat) ^ (64 - 1) = 9223372036854775808 := by decide
    rw [e] at a b
    simp; omega
  · simp

theorem vals_wide (ws : List (List UInt8)) : Wide (vals ws) := by
  intro x hx
  obtain ⟨w, _, rfl⟩ := List.mem_map.1 hx
  exact pv_wide w

/-- the numbers of a text -/
def rnF (l : List UInt8) : Int := (vals (sp l)).getD 0 0

def rnL (l : List UInt8) : List Int := (vals (sp l)).drop 1

theorem rn_cons (l : List UInt8) : rnF l :: rnL l = vals (sp l) := by
  unfold rnF rnL vals
  cases hs : sp l with
  | nil => exact absurd hs (sp_ne l)
  | cons w ws => simp

def rnO (l : List UInt8) : Bool := allP (sp l) && (jn (rnF l :: rnL l) == l)

/-- the life table of a text -/
def rtO (l : List UInt8) : Bool := rnO l && ltB (rnF l) (rnL l)

def sgs (l : List UInt8) : List Int := (sp l).map sgV

def stO (l : List UInt8) : Bool := (sp l).all sgO && (decide (2 ≤ (sp l).length) && ltB ((sgs l).getD 0 0) ((sgs l).drop 1))

theorem pv_itoa (n : Int) (h0 : 0 ≤ n) (h1 : n ≤ 1000000000000) : pv (Lib.itoa n) = some n := pv_ok (parse_itoa n h0 h1)

theorem rt_st {l : List UInt8} (h : rtO l = true) : stO l = true ∧ sgs l = rnF l :: rnL l := by
  unfold rtO rnO at h
  rw [Bool.and_eq_true, Bool.and_eq_true] at h
  obtain ⟨⟨h1, h2⟩, h3⟩ := h
  have h2 : jn (rnF l :: rnL l) = l := by simpa using h2
  have ht := (ltB_iff _ _).1 h3
  have hn := ht.nums
  have hs : sp l = (rnF l :: rnL l).map Lib.itoa := by
    rw [← sp_jn _ _ (fun x hx => (hn x hx).1), h2]
  have hg : sgs l = rnF l :: rnL l := by
    unfold sgs
    rw [hs, List.map_map]
    conv => rhs; rw [← List.map_id (rnF l :: rnL l)]
    refine List.map_congr_left fun x hx => ?_
    have := hn x hx
    exact (sg_itoa x this.1 (by omega)).2
  refine ⟨?_, hg⟩
  unfold stO
  rw [Bool.and_eq_true, Bool.and_eq_true]
  refine ⟨?_, ?_, ?_⟩
  · rw [hs, List.all_eq_true]
    intro w hw
    obtain ⟨x, hx, rfl⟩ := List.mem_map.1 hw
    have := hn x hx
    exact (sg_itoa x this.1 (by omega)).1
  · rw [hs]
    have := ht.2.1
    simp; omega
  · rw [hg]; exact h3

theorem st_rt {l : List UInt8} (h : stO l = true) : rtO l = true := by
  unfold stO at h
  rw [Bool.and_eq_true, Bool.and_eq_true] at h
  obtain ⟨h1, h2, h3⟩ := h
  have ht := (ltB_iff _ _).1 h3
  have hn := ht.nums
  have hc : (sgs l).getD 0 0 :: (sgs l).drop 1 = sgs l := by
    unfold sgs
    cases hs : sp l with
    | nil => exact absurd hs (sp_ne l)
    | cons w ws => simp
  rw [hc] at hn
  rw [List.all_eq_true] at h1
  have hw : ∀ w ∈ sp l, pv w = some (sgV w) := by
    intro w hw
    have e := sgO_itoa (h1 w hw)
    have b := hn (sgV w) (List.mem_map.2 ⟨w, hw, rfl⟩)
    conv => lhs; rw [e]
    exact pv_itoa _ b.1 (by omega)
  have hv : vals (sp l) = sgs l := by
    unfold vals sgs
    exact List.map_congr_left fun w hm => by rw [hw w hm]; rfl
  have e1 : rnF l = (sgs l).getD 0 0 := by unfold rnF; rw [hv]
  have e2 : rnL l = (sgs l).drop 1 := by unfold rnL; rw [hv]
  unfold rtO rnO
  rw [Bool.and_eq_true, Bool.and_eq_true]
  refine ⟨⟨?_, ?_⟩, by rw [e1, e2]; exact h3⟩
  · unfold allP
    rw [List.all_eq_true]
    intro w hm
    rw [hw w hm]; rfl
  · rw [e1, e2, hc, beq_iff_eq]
    have hs : sgs l ≠ [] := by unfold sgs; simp [sp_ne]
    cases hg : sgs l with
    | nil => exact absurd hg hs
    | cons x t =>
      rw [jn_jw, ← List.map_cons, ← hg]
      have : (sgs l).map Lib.itoa = sp l := by
        unfold sgs
        rw [List.map_map]
        conv => rhs; rw [← List.map_id (sp l)]
        exact List.map_congr_left fun w hm => (sgO_itoa (h1 w hm)).symm
      rw [this, jw_sp]

theorem st_eq (l : List UInt8) : stO l = rtO l := by
  cases h : rtO l with
  | true => exact (rt_st h).1
  | false =>
    cases h2 : stO l with
    | true => rw [st_rt h2] at h; cases h
    | false => rfl

theorem sp_short (l : List UInt8) : (sp l).length ≤ l.length + 1 ∧ ∀ w ∈ sp l, w.length ≤ l.length := by
  induction l with
  | nil => simp [sp]
  | cons c t ih =>
    unfold sp
    split
    · refine ⟨by simp; exact ih.1, fun w hw => ?_⟩
      rcases List.mem_cons.1 hw with rfl | hw
      · simp
      · have := ih.2 w hw; simp; omega
    · split
      · next w ws hs =>
        rw [hs] at ih
        refine ⟨by have := ih.1; simp at this ⊢; omega, fun x hx => ?_⟩
        rcases List.mem_cons.1 hx with rfl | hx
        · have := ih.2 w List.mem_cons_self; simp; exact this
        · have := ih.2 x (List.mem_cons_of_mem _ hx); simp; omega
      · simp

/-! ### slices of words -/

/-- block B holds just these strings -/
def StrB (w : World) (B : Nat) (ss : List ByteArray) : Prop := w.heap[B]? = some (.cells (ss.map Value.string).toArray 9 (0, 0))

theorem StrB.cell {w : World} {B : Nat} {ss : List ByteArray} (h : StrB w B ss) (i : Nat) (hi : i < ss.length) : w.cell? ⟨B, i, none⟩ = some (.string (ss.getD i ByteArray.empty)) := by
  unfold StrB at h
  simp [World.cell?, h, List.getD, hi]

theorem StrB.lt {w : World} {B : Nat} {ss : List ByteArray} (h : StrB w B ss) : B < w.heap.size := by
  unfold StrB at h
  exact (Array.getElem?_eq_some_iff.1 h).1

theorem StrB.below {w w' : World} {B C : Nat} {ss : List ByteArray} (h : StrB w B ss) (hb : Below C w w') (hC : B < C) : StrB w' B ss := by
  unfold StrB at h ⊢; rw [hb.block B hC]; exact h

theorem StrB.new (w : World) (ss : List ByteArray) : StrB (w.alloc (.cells (ss.map Value.string).toArray 9)) w.heap.size ss := by
  unfold StrB
  show (w.heap.push _)[w.heap.size]? = _
  simp

/-- the words as the library cuts them -/
def wds (s : ByteArray) : List ByteArray := Lib.splitB ⟨#[32]⟩ 0 (Lib.countB s ⟨#[32]⟩) s

theorem countB_one (s : ByteArray) : Lib.countB s ⟨#[32]⟩ = s.data.toList.count 32 := Lib.count_one 32 s.data.toList

theorem wds_sp (s : ByteArray) : (wds s).map (·.data.toList) = sp s.data.toList := by
  unfold wds
  rw [Lib.splitB_data, countB_one]
  exact splitK_one _

theorem wds_len (s : ByteArray) : (wds s).length = Lib.countB s ⟨#[32]⟩ + 1 := Lib.splitB_all ⟨#[32]⟩ (by decide) 0 _ s rfl

theorem wds_get (s : ByteArray) (i : Nat) (hi : i < (wds s).length) : ((wds s).getD i ByteArray.empty).data.toList = (sp s.data.toList).getD i [] := by
  rw [← wds_sp]
  simp [List.getD, hi]

end Go.Proofs.YtpphiekbhikadaaDoor
