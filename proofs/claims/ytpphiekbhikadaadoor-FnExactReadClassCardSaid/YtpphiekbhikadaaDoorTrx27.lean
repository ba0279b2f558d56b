/- Merged: Rpx. -/
import Derived.Test.YtpphiekbhikadaaDoorTrx25
import Derived.Test.YtpphiekbhikadaaDoorTrx26

/- Policies: words cut at commas; the policy of a text. (Written by wip/gen/rpx.py.) -/
namespace Go.Proofs.YtpphiekbhikadaaDoor
open Go.ChangeShapes Go.WideShapes Go.ChangeAt Go.RowKit
set_option linter.unusedVariables false
set_option maxRecDepth 100000

theorem spC_short (l : List UInt8) : (spC l).length ≤ l.length + 1 ∧ ∀ w ∈ spC l, w.length ≤ l.length := by
  induction l with
  | nil => simp [spC]
  | cons c t ih =>
    unfold spC
    split
    · refine ⟨by simp; exact ih.1, fun w hw => ?_⟩
      rcases List.mem_cons.1 hw with rfl | hw
      · simp
      · have := ih.2 w hw; simp; omega
    · split
      · next w ws hs =>
        rw [hs] at ih
        refine ⟨by have := ih.1; simp at this ⊢; omega, fun x hx => ?_⟩
        rcases List.mem_cons.1 hx with rfl | hx
        · have := ih.2 w List.mem_cons_self; simp; exact this
        · have := ih.2 x (List.mem_cons_of_mem _ hx); simp; omega
      · simp

/-- the words as the library cuts them -/
def wdsC (s : ByteArray) : List ByteArray := Lib.splitB ⟨#[44]⟩ 0 (Lib.countB s ⟨#[44]⟩) s

theorem countB_oneC (s : ByteArray) : Lib.countB s ⟨#[44]⟩ = s.data.toList.count 44 := Lib.count_one 44 s.data.toList

theorem wdsC_sp (s : ByteArray) : (wdsC s).map (·.data.toList) = spC s.data.toList := by
  unfold wdsC
  rw [Lib.splitB_data, countB_oneC]
  exact splitK_oneC _

theorem wdsC_len (s : ByteArray) : (wdsC s).length = Lib.countB s ⟨#[44]⟩ + 1 := Lib.splitB_all ⟨#[44]⟩ (by decide) 0 _ s rfl

theorem wdsC_get (s : ByteArray) (i : Nat) (hi : i < (wdsC s).length) : ((wdsC s).getD i ByteArray.empty).data.toList = (spC s.data.toList).getD i [] := by
  rw [← wdsC_sp]
  simp [List.getD, hi]

theorem spC_blank (l : List UInt8) : spC (l ++ [44]) = spC l ++ [[]] := by
  induction l with
  | nil => rfl
  | cons b t ih =>
    rw [List.cons_append]
    by_cases h : b = 44
    · subst h; rw [spC, if_pos rfl, spC, if_pos rfl, ih]; rfl
    · rw [spC, if_neg h, spC, if_neg h, ih]
      cases hs : spC t with
      | nil => exact absurd hs (spC_ne t)
      | cons w ws => simp

theorem spC_other (l : List UInt8) (c : UInt8) (h : c ≠ 44) (W : List (List UInt8)) (u : List UInt8) (hs : spC l = W ++ [u]) : spC (l ++ [c]) = W ++ [u ++ [c]] := by
  induction l generalizing W u with
  | nil =>
    have e : W = [] ∧ u = [] := by
      cases W with
      | nil => simp [spC] at hs; exact ⟨rfl, hs⟩
      | cons x t => simp [spC] at hs
    obtain ⟨rfl, rfl⟩ := e
    simp [spC, h]
  | cons b t ih =>
    rw [List.cons_append]
    by_cases hb : b = 44
    · subst hb
      rw [spC, if_pos rfl] at hs ⊢
      cases W with
      | nil => simp at hs; exact absurd hs.2 (spC_ne t)
      | cons x W' =>
        simp at hs
        obtain ⟨rfl, hs⟩ := hs
        rw [ih W' u hs]; rfl
    · rw [spC, if_neg hb] at hs ⊢
      cases hst : spC t with
      | nil => exact absurd hst (spC_ne t)
      | cons w ws =>
        rw [hst] at hs
        cases W with
        | nil =>
          simp at hs
          obtain ⟨rfl, rfl⟩ := hs
          rw [ih [] w (by rw [hst]; rfl)]
          simp
        | cons x W' =>
          simp at hs
          obtain ⟨rfl, hs⟩ := hs
          rw [ih (w :: W') u (by rw [hst, hs]; rfl)]
          simp

/-- how far the model's cutting has come: the words that are complete, and where the next one begins -/
def CutC (s : ByteArray) (W : List ByteArray) (f k : Nat) : Prop := f ≤ k ∧ k ≤ s.size ∧ W.map (·.data.toList) ++ [(s.data.toList.take k).drop f] = spC (s.data.toList.take k)

theorem cutC_zero (s : ByteArray) : CutC s [] 0 0 := ⟨by omega, by omega, by simp [spC]⟩

theorem CutC.blank {s : ByteArray} {W : List ByteArray} {f k : Nat} (h : CutC s W f k) (hk : k < s.size) (hb : s[k] = 44) : CutC s (W ++ [s.extract f k]) (k + 1) (k + 1) := by
  obtain ⟨h1, h2, h3⟩ := h
  have hl : s.data.toList.length = s.size := by simp
  refine ⟨by omega, by omega, ?_⟩
  rw [take_snoc8 s k hk, hb, spC_blank, ← h3, List.map_append, List.map_cons, List.map_nil, ext_list]
  have e : (s.data.toList.take k ++ [44]).drop (k + 1) = [] := List.drop_of_length_le (by simp; omega)
  rw [e]

theorem CutC.other {s : ByteArray} {W : List ByteArray} {f k : Nat} (h : CutC s W f k) (hk : k < s.size) (hb : s[k] ≠ 44) : CutC s W f (k + 1) := by
  obtain ⟨h1, h2, h3⟩ := h
  have hl : s.data.toList.length = s.size := by simp
  refine ⟨by omega, by omega, ?_⟩
  rw [take_snoc8 s k hk, spC_other _ _ hb _ _ h3.symm]
  rw [List.drop_append_of_le_length (by simp; omega)]

theorem CutC.done {s : ByteArray} {W : List ByteArray} {f : Nat} (h : CutC s W f s.size) : (W ++ [s.extract f s.size]).map (·.data.toList) = spC s.data.toList := by
  obtain ⟨h1, h2, h3⟩ := h
  rw [List.map_append, List.map_cons, List.map_nil, ext_list, h3]
  congr 1
  exact List.take_of_length_le (by simp)

theorem CutC.len {s : ByteArray} {W : List ByteArray} {f k : Nat} (h : CutC s W f k) : W.length ≤ k := by
  obtain ⟨h1, h2, h3⟩ := h
  have := congrArg List.length h3
  have h4 := (spC_short (s.data.toList.take k)).1
  simp at this h4
  omega

def SplitPostC (s : ByteArray) (w : World) (e : Ending) (w' : World) : Prop :=
  ∃ (g c : Nat) (W : List ByteArray), e = .returned (.slice (some ⟨g, 0, none⟩) W.length c) ∧ W.map (fun x : ByteArray => x.data.toList) = spC s.data.toList ∧ W.length ≤ s.size + 1 ∧ (∀ i, i < W.length → w'.cell? ⟨g, i, none⟩ = some (.string (W.getD i ByteArray.empty))) ∧ Below w.heap.size w w'

/-- the cutting goes on, or all words are there -/
def CutRC (s : ByteArray) (W : List ByteArray) (f k : Nat) : Prop := CutC s W f k ∨ (k = s.size + 1 ∧ f = k ∧ W.length ≤ k ∧ W.map (fun x : ByteArray => x.data.toList) = spC s.data.toList)

theorem CutRC.len {s : ByteArray} {W : List ByteArray} {f k : Nat} (h : CutRC s W f k) : W.length ≤ k ∧ k ≤ s.size + 1 ∧ f ≤ k := by
  rcases h with h | ⟨rfl, rfl, h, _⟩
  · exact ⟨h.len, by have := h.2.1; omega, h.1⟩
  · exact ⟨h, by omega, by omega⟩

set_option maxHeartbeats 1000000 in
theorem split_specC (s : ByteArray) (w : World) (hs : s.size ≤ 1048576) : Calls Tryd.prog 38 #[.string s, .int .u8 44] w (SplitPostC s w) := by
  go_enter Tryd.func38, Tryd.ntmps38
  go_wp2_with fail
  have HO0 := Lib.hid (ownS_new w)
  go_loopw [5, 6, 7] (fun v f i wr => ∃ (W : List ByteArray) (fk k : Nat), f = .int .i64 fk ∧ i = .int .i64 k ∧ Hid (CutRC s W fk k) ∧ Hid (OwnS w.heap.size wr v W) ∧ Hid (Below w.heap.size w wr)) (fun _ _ i _ => s.size + 1 - (intOf i).toNat)
  case atStart => exact ⟨[], 0, 0, rfl, rfl, Lib.hid (.inl (cutC_zero s)), HO0, Lib.hid (box_b _ _)⟩
  case round =>
    obtain ⟨W, fk, k, rfl, rfl, HC, HO, HB⟩ := hrel
    obtain ⟨l0, l1, l2⟩ := HC.out.len
    have hbs := HB.out.size
    have hown := HO.out
    by_cases hk : k ≤ s.size
    · have hcut : CutC s W fk k := by
        rcases HC.out with h | ⟨h, _⟩
        · exact h
        · omega
      clear HC
      by_cases hlt : k < s.size
      · have hkn : ((k : Int) == (s.size : Int)) = false := by simp; omega
        by_cases hc : s[k] = 44
        · have e1 : (((s[k]'hlt).toNat : Int) == 44) = true := by rw [hc]; rfl
          have HN := Lib.hid (hcut.blank hlt hc)
          clear hcut hc
          go_wp2_with (at_builtin; refine wpList_appS rfl _ _ rfl w.heap.size _ W (s.extract fk k) rfl (hown.alloc _) ⟨wr.heap.size, 0, none⟩ rfl (one_newS wr _) (by omega) (by simp; omega) ?_)
          intro v' w5 hown' hgrow
          have HO5 := Lib.hid hown'
          have HB5 := Lib.hid ((HB.out.alloc hbs _).grown hgrow (by simp; omega) (fun k hk => (hown.lt k hk).1))
          clear hown' hgrow hown HO
          go_wp2_with fail
          go_roundw
          case rel => exact ⟨_, k + 1, k + 1, by go_num, by go_num, Lib.hid (.inl HN.out), HO5, HB5⟩
          case measure => simp [intOf]; omega
        · have e1 : (((s[k]'hlt).toNat : Int) == 44) = false := by
            have : ¬ (s[k]'hlt).toNat = 44 := fun e => hc (UInt8.toNat_inj.1 e)
            simp; omega
          have HN := Lib.hid (hcut.other hlt hc)
          clear hcut hc
          go_wp2_with fail
          go_roundw
          case rel => exact ⟨_, fk, k + 1, rfl, by go_num, Lib.hid (.inl HN.out), HO, HB⟩
          case measure => simp [intOf]; omega
      · obtain rfl : k = s.size := by omega
        have hkn : ((s.size : Int) == (s.size : Int)) = true := by simp
        have HN : Hid (CutRC s (W ++ [s.extract fk s.size]) (s.size + 1) (s.size + 1)) := Lib.hid (.inr ⟨rfl, rfl, by rw [List.length_append, List.length_singleton]; omega, hcut.done⟩)
        clear hcut
        go_wp2_with (at_builtin; refine wpList_appS rfl _ _ rfl w.heap.size _ W (s.extract fk s.size) rfl (hown.alloc _) ⟨wr.heap.size, 0, none⟩ rfl (one_newS wr _) (by omega) (by simp; omega) ?_)
        intro v' w5 hown' hgrow
        have HO5 := Lib.hid hown'
        have HB5 := Lib.hid ((HB.out.alloc hbs _).grown hgrow (by simp; omega) (fun k hk => (hown.lt k hk).1))
        clear hown' hgrow hown HO
        go_wp2_with fail
        go_roundw
        case rel => exact ⟨_, s.size + 1, s.size + 1, by go_num, by go_num, HN, HO5, HB5⟩
        case measure => simp [intOf]
    · have hw : W.map (fun x : ByteArray => x.data.toList) = spC s.data.toList ∧ k = s.size + 1 := by
        rcases HC.out with h | ⟨h, _, _, g⟩
        · have := h.2.1; omega
        · exact ⟨g, h⟩
      obtain ⟨hw, rfl⟩ := hw
      have hp : 0 < W.length := by
        have h1 := congrArg List.length hw
        have h2 := List.length_pos_iff.2 (spC_ne s.data.toList)
        rw [List.length_map] at h1; omega
      obtain ⟨g, c, rfl, hg, hcs⟩ := hown.cells hp
      have HCS := Lib.hid hcs
      have HW := Lib.hid hw
      clear hcs hw hown HO HC
      go_wp2_with fail
      go_ret
      exact ⟨g, c, W, rfl, HW.out, by omega, HCS.out, HB.out⟩


/-! ### a number's word, with a sign -/

theorem sg_itoaC (n : Int) (h0 : -1000000000000 ≤ n) (h1 : n ≤ 1000000000000) : sgO (Lib.itoa n) = true ∧ sgV (Lib.itoa n) = n := by
  by_cases hn : 0 ≤ n
  · exact sg_itoa n hn h1
  · obtain ⟨m, rfl⟩ : ∃ m, n = -m := ⟨-n, by omega⟩
    obtain ⟨a, b⟩ := dgO_itoa m (by omega) (by omega)
    rw [itoa_minus _ (by omega)]
    constructor
    · unfold sgO; rw [if_pos (show (45 :: Lib.itoa m).head? = some 45 from rfl), List.drop_succ_cons, List.drop_zero, a, b]; simp; omega
    · unfold sgV; rw [if_pos (show (45 :: Lib.itoa m).head? = some 45 from rfl), List.drop_succ_cons, List.drop_zero, b]

theorem parse_itoaC (n : Int) (h0 : -1000000000000 ≤ n) (h1 : n ≤ 1000000000000) : Lib.parseIntB 64 (Lib.itoa n) = .ok n := by
  by_cases hn : 0 ≤ n
  · exact parse_itoa n hn h1
  · obtain ⟨u, hu⟩ := Int.eq_ofNat_of_zero_le (show 0 ≤ -n by omega)
    obtain rfl : n = -(u : Int) := by omega
    rw [itoa_minus _ (by omega), itoa_nat]
    have hp : Lib.parseUintB 64 (Lib.decDigits u) = .ok u := by
      unfold Lib.parseUintB
      have := parse_dig (2 ^ 64 - 1) (by decide) u [] (by omega)
      rw [List.append_nil] at this
      rw [if_neg (by simp [dig_ne_nil]), this, Lib.parseUintM]
    have h63 : (2 : Nat) ^ (64 - 1) = 9223372036854775808 := by decide
    rw [Lib.parseIntB]
    simp only [if_pos (show (45 : UInt8).toNat = 43 ∨ (45 : UInt8).toNat = 45 from .inr rfl), hp]
    rw [if_neg (fun h => h.1 rfl), if_neg (fun h => by have := h.2; rw [h63] at this; omega), if_pos (show (45 : UInt8).toNat = 45 from rfl)]

/-- the numbers that the model reads out of a text -/
def w5 (l : List UInt8) : List Int := (spC l).map sgV

/-- the model's answer: is there a policy with this text -/
def rpM (l : List UInt8) : Bool := (spC l).all sgO && (decide ((spC l).length = 5) && ptB ((w5 l).getD 0 0) ((w5 l).getD 1 0) ((w5 l).getD 2 0) ((w5 l).getD 3 0) ((w5 l).getD 4 0))

/-- the program's answer -/
def rpI (l : List UInt8) : Bool := decide ((spC l).length = 5) && (allP (spC l) && (ptT ((vals (spC l)).getD 0 0) ((vals (spC l)).getD 1 0) ((vals (spC l)).getD 2 0) ((vals (spC l)).getD 3 0) ((vals (spC l)).getD 4 0) == l))

theorem five (xs : List Int) (h : xs.length = 5) : [xs.getD 0 0, xs.getD 1 0, xs.getD 2 0, xs.getD 3 0, xs.getD 4 0] = xs := by
  match xs, h with
  | [a, b, c, d, e], _ => rfl

theorem ip_mp {l : List UInt8} (h : rpI l = true) : rpM l = true ∧ w5 l = vals (spC l) := by
  unfold rpI at h
  rw [Bool.and_eq_true, Bool.and_eq_true] at h
  obtain ⟨h1, h2, h3⟩ := h
  have h5 : (spC l).length = 5 := by simpa using h1
  have hT := beq_iff_eq.1 h3
  have hx5 : (vals (spC l)).length = 5 := by rw [vals_len]; exact h5
  have hf := five _ hx5
  have hp : ptB ((vals (spC l)).getD 0 0) ((vals (spC l)).getD 1 0) ((vals (spC l)).getD 2 0) ((vals (spC l)).getD 3 0) ((vals (spC l)).getD 4 0) = true := by
    by_cases hp : ptB ((vals (spC l)).getD 0 0) ((vals (spC l)).getD 1 0) ((vals (spC l)).getD 2 0) ((vals (spC l)).getD 3 0) ((vals (spC l)).getD 4 0) = true
    · exact hp
    · unfold ptT at hT
      rw [if_neg hp] at hT
      rw [← hT] at h5
      simp [spC] at h5
  have hm := ptB_mon hp
  rw [hf] at hm
  unfold ptT at hT
  rw [if_pos hp, hf] at hT
  have hs : spC l = (vals (spC l)).map Lib.itoa := by
    cases hv : vals (spC l) with
    | nil => rw [hv] at hx5; cases hx5
    | cons x t => rw [← sp_jc, ← hv, hT]
  have hg : w5 l = vals (spC l) := by
    unfold w5
    conv => lhs; rw [hs]
    rw [List.map_map]
    conv => rhs; rw [← List.map_id (vals (spC l))]
    exact List.map_congr_left fun x hx => (sg_itoaC x (hm x hx).1 (hm x hx).2).2
  refine ⟨?_, hg⟩
  unfold rpM
  rw [Bool.and_eq_true, Bool.and_eq_true]
  refine ⟨?_, by simpa using h5, by rw [hg]; exact hp⟩
  rw [hs, List.all_eq_true]
  intro w hw
  obtain ⟨x, hx, rfl⟩ := List.mem_map.1 hw
  exact (sg_itoaC x (hm x hx).1 (hm x hx).2).1

theorem mp_ip {l : List UInt8} (h : rpM l = true) : rpI l = true := by
  unfold rpM at h
  rw [Bool.and_eq_true, Bool.and_eq_true] at h
  obtain ⟨h1, h2, h3⟩ := h
  have h5 : (spC l).length = 5 := by simpa using h2
  have hx5 : (w5 l).length = 5 := by unfold w5; rw [List.length_map]; exact h5
  have hf := five _ hx5
  have hm := ptB_mon h3
  rw [hf] at hm
  rw [List.all_eq_true] at h1
  have hw : ∀ w ∈ spC l, pv w = some (sgV w) := by
    intro w hw
    have e := sgO_itoa (h1 w hw)
    have b := hm (sgV w) (List.mem_map.2 ⟨w, hw, rfl⟩)
    conv => lhs; rw [e]
    exact pv_ok (parse_itoaC _ b.1 b.2)
  have hv : vals (spC l) = w5 l := by
    unfold vals w5
    exact List.map_congr_left fun w hm => by rw [hw w hm]; rfl
  unfold rpI
  rw [Bool.and_eq_true, Bool.and_eq_true]
  refine ⟨by simpa using h5, ?_, ?_⟩
  · unfold allP
    rw [List.all_eq_true]
    intro w hm
    rw [hw w hm]; rfl
  · rw [hv, beq_iff_eq]
    unfold ptT
    rw [if_pos h3, hf]
    cases hg : w5 l with
    | nil => rw [hg] at hx5; cases hx5
    | cons x t =>
      rw [jc_jw, ← List.map_cons, ← hg]
      have : (w5 l).map Lib.itoa = spC l := by
        unfold w5
        rw [List.map_map]
        conv => rhs; rw [← List.map_id (spC l)]
        exact List.map_congr_left fun w hm => (sgO_itoa (h1 w hm)).symm
      rw [this, jwC_sp]

theorem rp_eq (l : List UInt8) : rpM l = rpI l := by
  cases h : rpI l with
  | true => exact (ip_mp h).1
  | false =>
    cases h2 : rpM l with
    | true => rw [mp_ip h2] at h; cases h
    | false => rfl

/-- what both readings of a policy return -/
def rpA (l : List UInt8) : Array Value := if rpM l = true then #[.int .i64 ((w5 l).getD 0 0), .int .i64 ((w5 l).getD 1 0), .int .i64 ((w5 l).getD 2 0), .int .i64 ((w5 l).getD 3 0), .int .i64 ((w5 l).getD 4 0)] else #[.int .i64 0, .int .i64 0, .int .i64 0, .int .i64 0, .int .i64 0]

def RpPost (l : List UInt8) (w : World) (e : Ending) (w' : World) : Prop := e = .returned (.tuple #[.agg (rpA l), .bool (rpM l)]) ∧ Below w.heap.size w w'

theorem rpA_f {l : List UInt8} (h : rpM l = false) : rpA l = #[.int .i64 0, .int .i64 0, .int .i64 0, .int .i64 0, .int .i64 0] := by unfold rpA; rw [if_neg (by rw [h]; decide)]

theorem rpA_t {l : List UInt8} (h : rpM l = true) : rpA l = #[.int .i64 ((w5 l).getD 0 0), .int .i64 ((w5 l).getD 1 0), .int .i64 ((w5 l).getD 2 0), .int .i64 ((w5 l).getD 3 0), .int .i64 ((w5 l).getD 4 0)] := by unfold rpA; rw [if_pos h]

end Go.Proofs.YtpphiekbhikadaaDoor
