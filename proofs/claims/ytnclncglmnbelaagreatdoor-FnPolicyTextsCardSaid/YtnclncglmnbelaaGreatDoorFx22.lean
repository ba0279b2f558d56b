/- Merged: Rpx, Rps, Rpi, Rpl. -/
import Derived.Test.YtnclncglmnbelaaGreatDoorFx19
import Derived.Test.YtnclncglmnbelaaGreatDoorFx21

/- Policies: words cut at commas; the policy of a text. (Written by wip/gen/rpx.py.) -/
namespace Go.Proofs.YtnclncglmnbelaaGreatDoor
open Go.ChangeShapes Go.WideShapes Go.ChangeAt Go.RowKit
set_option linter.unusedVariables false
set_option maxRecDepth 100000

theorem spC_short (l : List UInt8) : (spC l).length ≤ l.length + 1 ∧ ∀ w ∈ spC l, w.length ≤ l.length := by
  induction l with
  | nil => simp [spC]
  | cons c t ih =>
    unfold spC
    split
    · refine ⟨by simp; exact ih.1, fun w hw => ?_⟩
      rcases List.mem_cons.1 hw with rfl | hw
      · simp
      · have := ih.2 w hw; simp; omega
    · split
      · next w ws hs =>
        rw [hs] at ih
        refine ⟨by have := ih.1; simp at this ⊢; omega, fun x hx => ?_⟩
        rcases List.mem_cons.1 hx with rfl | hx
        · have := ih.2 w List.mem_cons_self; simp; exact this
        · have := ih.2 x (List.mem_cons_of_mem _ hx); simp; omega
      · simp

/-- the words as the library cuts them -/
def wdsC (s : ByteArray) : List ByteArray := Lib.splitB ⟨#[44]⟩ 0 (Lib.countB s ⟨#[44]⟩) s

theorem countB_oneC (s : ByteArray) : Lib.countB s ⟨#[44]⟩ = s.data.toList.count 44 := Lib.count_one 44 s.data.toList

theorem wdsC_sp (s : ByteArray) : (wdsC s).map (·.data.toList) = spC s.data.toList := by
  unfold wdsC
  rw [Lib.splitB_data, countB_oneC]
  exact splitK_oneC _

theorem wdsC_len (s : ByteArray) : (wdsC s).length = Lib.countB s ⟨#[44]⟩ + 1 := Lib.splitB_all ⟨#[44]⟩ (by decide) 0 _ s rfl

theorem wdsC_get (s : ByteArray) (i : Nat) (hi : i < (wdsC s).length) : ((wdsC s).getD i ByteArray.empty).data.toList = (spC s.data.toList).getD i [] := by
  rw [← wdsC_sp]
  simp [List.getD, hi]

theorem spC_blank (l : List UInt8) : spC (l ++ [44]) = spC l ++ [[]] := by
  induction l with
  | nil => rfl
  | cons b t ih =>
    rw [List.cons_append]
    by_cases h : b = 44
    · subst h; rw [spC, if_pos rfl, spC, if_pos rfl, ih]; rfl
    · rw [spC, if_neg h, spC, if_neg h, ih]
      cases hs : spC t with
      | nil => exact absurd hs (spC_ne t)
      | cons w ws => simp

theorem spC_other (l : List UInt8) (c : UInt8) (h : c ≠ 44) (W : List (List UInt8)) (u : List UInt8) (hs : spC l = W ++ [u]) : spC (l ++ [c]) = W ++ [u ++ [c]] := by
  induction l generalizing W u with
  | nil =>
    have e : W = [] ∧ u = [] := by
      cases W with
      | nil => simp [spC] at hs; exact ⟨rfl, hs⟩
      | cons x t => simp [spC] at hs
    obtain ⟨rfl, rfl⟩ := e
    simp [spC, h]
  | cons b t ih =>
    rw [List.cons_append]
    by_cases hb : b = 44
    · subst hb
      rw [spC, if_pos rfl] at hs ⊢
      cases W with
      | nil => simp at hs; exact absurd hs.2 (spC_ne t)
      | cons x W' =>
        simp at hs
        obtain ⟨rfl, hs⟩ := hs
        rw [ih W' u hs]; rfl
    · rw [spC, if_neg hb] at hs ⊢
      cases hst : spC t with
      | nil => exact absurd hst (spC_ne t)
      | cons w ws =>
        rw [hst] at hs
        cases W with
        | nil =>
          simp at hs
          obtain ⟨rfl, rfl⟩ := hs
          rw [ih [] w (by rw [hst]; rfl)]
          simp
        | cons x W' =>
          simp at hs
          obtain ⟨rfl, hs⟩ := hs
          rw [ih (w :: W') u (by rw [hst, hs]; rfl)]
          simp

/-- how far the model's cutting has come: the words that are complete, and where the next one begins -/
def CutC (s : ByteArray) (W : List ByteArray) (f k : Nat) : Prop := f ≤ k ∧ k ≤ s.size ∧ W.map (·.data.toList) ++ [(s.data.toList.take k).drop f] = spC (s.data.toList.take k)

theorem cutC_zero (s : ByteArray) : CutC s [] 0 0 := ⟨by omega, by omega, by simp [spC]⟩

theorem CutC.blank {s : ByteArray} {W : List ByteArray} {f k : Nat} (h : CutC s W f k) (hk : k < s.size) (hb : s[k] = 44) : CutC s (W ++ [s.extract f k]) (k + 1) (k + 1) := by
  obtain ⟨h1, h2, h3⟩ := h
  have hl : s.data.toList.length = s.size := by simp
  refine ⟨by omega, by omega, ?_⟩
  rw [take_snoc8 s k hk, hb, spC_blank, ← h3, List.map_append, List.map_cons, List.map_nil, ext_list]
  have e : (s.data.toList.take k ++ [44]).drop (k + 1) = [] := List.drop_of_length_le (by simp; omega)
  rw [e]

theorem CutC.other {s : ByteArray} {W : List ByteArray} {f k : Nat} (h : CutC s W f k) (hk : k < s.size) (hb : s[k] ≠ 44) : CutC s W f (k + 1) := by
  obtain ⟨h1, h2, h3⟩ := h
  have hl : s.data.toList.length = s.size := by simp
  refine ⟨by omega, by omega, ?_⟩
  rw [take_snoc8 s k hk, spC_other _ _ hb _ _ h3.symm]
  rw [List.drop_append_of_le_length (by simp; omega)]

theorem CutC.done {s : ByteArray} {W : List ByteArray} {f : Nat} (h : CutC s W f s.size) : (W ++ [s.extract f s.size]).map (·.data.toList) = spC s.data.toList := by
  obtain ⟨h1, h2, h3⟩ := h
  rw [List.map_append, List.map_cons, List.map_nil, ext_list, h3]
  congr 1
  exact List.take_of_length_le (by simp)

theorem CutC.len {s : ByteArray} {W : List ByteArray} {f k : Nat} (h : CutC s W f k) : W.length ≤ k := by
  obtain ⟨h1, h2, h3⟩ := h
  have := congrArg List.length h3
  have h4 := (spC_short (s.data.toList.take k)).1
  simp at this h4
  omega

def SplitPostC (s : ByteArray) (w : World) (e : Ending) (w' : World) : Prop :=
  ∃ (g c : Nat) (W : List ByteArray), e = .returned (.slice (some ⟨g, 0, none⟩) W.length c) ∧ W.map (fun x : ByteArray => x.data.toList) = spC s.data.toList ∧ W.length ≤ s.size + 1 ∧ (∀ i, i < W.length → w'.cell? ⟨g, i, none⟩ = some (.string (W.getD i ByteArray.empty))) ∧ Below w.heap.size w w'

/-- the cutting goes on, or all words are there -/
def CutRC (s : ByteArray) (W : List ByteArray) (f k : Nat) : Prop := CutC s W f k ∨ (k = s.size + 1 ∧ f = k ∧ W.length ≤ k ∧ W.map (fun x : ByteArray => x.data.toList) = spC s.data.toList)

theorem CutRC.len {s : ByteArray} {W : List ByteArray} {f k : Nat} (h : CutRC s W f k) : W.length ≤ k ∧ k ≤ s.size + 1 ∧ f ≤ k := by
  rcases h with h | ⟨rfl, rfl, h, _⟩
  · exact ⟨h.len, by have := h.2.1; omega, h.1⟩
  · exact ⟨h, by omega, by omega⟩

set_option maxHeartbeats 1000000 in
theorem split_specC (s : ByteArray) (w : World) (hs : s.size ≤ 1048576) : Calls Tryz.prog 33 #[.string s, .int .u8 44] w (SplitPostC s w) := by
  go_enter Tryz.func33, Tryz.ntmps33
  go_wp2_with fail
  have HO0 := Lib.hid (ownS_new w)
  go_loopw [5, 6, 7] (fun v f i wr => ∃ (W : List ByteArray) (fk k : Nat), f = .int .i64 fk ∧ i = .int .i64 k ∧ Hid (CutRC s W fk k) ∧ Hid (OwnS w.heap.size wr v W) ∧ Hid (Below w.heap.size w wr)) (fun _ _ i _ => s.size + 1 - (intOf i).toNat)
  case atStart => exact ⟨[], 0, 0, rfl, rfl, Lib.hid (.inl (cutC_zero s)), HO0, Lib.hid (box_b _ _)⟩
  case round =>
    obtain ⟨W, fk, k, rfl, rfl, HC, HO, HB⟩ := hrel
    obtain ⟨l0, l1, l2⟩ := HC.out.len
    have hbs := HB.out.size
    have hown := HO.out
    by_cases hk : k ≤ s.size
    · have hcut : CutC s W fk k := by
        rcases HC.out with h | ⟨h, _⟩
        · exact h
        · omega
      clear HC
      by_cases hlt : k < s.size
      · have hkn : ((k : Int) == (s.size : Int)) = false := by simp; omega
        by_cases hc : s[k] = 44
        · have e1 : (((s[k]'hlt).toNat : Int) == 44) = true := by rw [hc]; rfl
          have HN := Lib.hid (hcut.blank hlt hc)
          clear hcut hc
          go_wp2_with (at_builtin; refine wpList_appS rfl _ _ rfl w.heap.size _ W (s.extract fk k) rfl (hown.alloc _) ⟨wr.heap.size, 0, none⟩ rfl (one_newS wr _) (by omega) (by simp; omega) ?_)
          intro v' w5 hown' hgrow
          have HO5 := Lib.hid hown'
          have HB5 := Lib.hid ((HB.out.alloc hbs _).grown hgrow (by simp; omega) (fun k hk => (hown.lt k hk).1))
          clear hown' hgrow hown HO
          go_wp2_with fail
          go_roundw
          case rel => exact ⟨_, k + 1, k + 1, by go_num, by go_num, Lib.hid (.inl HN.out), HO5, HB5⟩
          case measure => simp [intOf]; omega
        · have e1 : (((s[k]'hlt).toNat : Int) == 44) = false := by
            have : ¬ (s[k]'hlt).toNat = 44 := fun e => hc (UInt8.toNat_inj.1 e)
            simp; omega
          have HN := Lib.hid (hcut.other hlt hc)
          clear hcut hc
          go_wp2_with fail
          go_roundw
          case rel => exact ⟨_, fk, k + 1, rfl, by go_num, Lib.hid (.inl HN.out), HO, HB⟩
          case measure => simp [intOf]; omega
      · obtain rfl : k = s.size := by omega
        have hkn : ((s.size : Int) == (s.size : Int)) = true := by simp
        have HN : Hid (CutRC s (W ++ [s.extract fk s.size]) (s.size + 1) (s.size + 1)) := Lib.hid (.inr ⟨rfl, rfl, by rw [List.length_append, List.length_singleton]; omega, hcut.done⟩)
        clear hcut
        go_wp2_with (at_builtin; refine wpList_appS rfl _ _ rfl w.heap.size _ W (s.extract fk s.size) rfl (hown.alloc _) ⟨wr.heap.size, 0, none⟩ rfl (one_newS wr _) (by omega) (by simp; omega) ?_)
        intro v' w5 hown' hgrow
        have HO5 := Lib.hid hown'
        have HB5 := Lib.hid ((HB.out.alloc hbs _).grown hgrow (by simp; omega) (fun k hk => (hown.lt k hk).1))
        clear hown' hgrow hown HO
        go_wp2_with fail
        go_roundw
        case rel => exact ⟨_, s.size + 1, s.size + 1, by go_num, by go_num, HN, HO5, HB5⟩
        case measure => simp [intOf]
    · have hw : W.map (fun x : ByteArray => x.data.toList) = spC s.data.toList ∧ k = s.size + 1 := by
        rcases HC.out with h | ⟨h, _, _, g⟩
        · have := h.2.1; omega
        · exact ⟨g, h⟩
      obtain ⟨hw, rfl⟩ := hw
      have hp : 0 < W.length := by
        have h1 := congrArg List.length hw
        have h2 := List.length_pos_iff.2 (spC_ne s.data.toList)
        rw [List.length_map] at h1; omega
      obtain ⟨g, c, rfl, hg, hcs⟩ := hown.cells hp
      have HCS := Lib.hid hcs
      have HW := Lib.hid hw
      clear hcs hw hown HO HC
      go_wp2_with fail
      go_ret
      exact ⟨g, c, W, rfl, HW.out, by omega, HCS.out, HB.out⟩


/-! ### a number's word, with a sign -/

theorem sg_itoaC (n : Int) (h0 : -1000000000000 ≤ n) (h1 : n ≤ 1000000000000) : sgO (Lib.itoa n) = true ∧ sgV (Lib.itoa n) = n := by
  by_cases hn : 0 ≤ n
  · exact sg_itoa n hn h1
  · obtain ⟨m, rfl⟩ : ∃ m, n = -m := ⟨-n, by omega⟩
    obtain ⟨a, b⟩ := dgO_itoa m (by omega) (by omega)
    rw [itoa_minus _ (by omega)]
    constructor
    · unfold sgO; rw [if_pos (show (45 :: Lib.itoa m).head? = some 45 from rfl), List.drop_succ_cons, List.drop_zero, a, b]; simp; omega
    · unfold sgV; rw [if_pos (show (45 :: Lib.itoa m).head? = some 45 from rfl), List.drop_succ_cons, List.drop_zero, b]

theorem parse_itoaC (n : Int) (h0 : -1000000000000 ≤ n) (h1 : n ≤ 1000000000000) : Lib.parseIntB 64 (Lib.itoa n) = .ok n := by
  by_cases hn : 0 ≤ n
  · exact parse_itoa n hn h1
  · obtain ⟨u, hu⟩ := Int.eq_ofNat_of_zero_le (show 0 ≤ -n by omega)
    obtain rfl : n = -(u : Int) := by omega
    rw [itoa_minus _ (by omega), itoa_nat]
    have hp : Lib.parseUintB 64 (Lib.decDigits u) = .ok u := by
      unfold Lib.parseUintB
      have := parse_dig (2 ^ 64 - 1) (by decide) u [] (by omega)
      rw [List.append_nil] at this
      rw [if_neg (by simp [dig_ne_nil]), this, Lib.parseUintM]
    have h63 : (2 : Nat) ^ (64 - 1) = 9223372036854775808 := by decide
    rw [Lib.parseIntB]
    simp only [if_pos (show (45 : UInt8).toNat = 43 ∨ (45 : UInt8).toNat = 45 from .inr rfl), hp]
    rw [if_neg (fun h => h.1 rfl), if_neg (fun h => by have := h.2; rw [h63] at this; omega), if_pos (show (45 : UInt8).toNat = 45 from rfl)]

/-- the numbers that the model reads out of a text -/
def w5 (l : List UInt8) : List Int := (spC l).map sgV

/-- the model's answer: is there a policy with this text -/
def rpM (l : List UInt8) : Bool := (spC l).all sgO && (decide ((spC l).length = 5) && ptB ((w5 l).getD 0 0) ((w5 l).getD 1 0) ((w5 l).getD 2 0) ((w5 l).getD 3 0) ((w5 l).getD 4 0))

/-- the program's answer -/
def rpI (l : List UInt8) : Bool := decide ((spC l).length = 5) && (allP (spC l) && (ptT ((vals (spC l)).getD 0 0) ((vals (spC l)).getD 1 0) ((vals (spC l)).getD 2 0) ((vals (spC l)).getD 3 0) ((vals (spC l)).getD 4 0) == l))

theorem five (xs : List Int) (h : xs.length = 5) : [xs.getD 0 0, xs.getD 1 0, xs.getD 2 0, xs.getD 3 0, xs.getD 4 0] = xs := by
  match xs, h with
  | [a, b, c, d, e], _ => rfl

theorem ip_mp {l : List UInt8} (h : rpI l = true) : rpM l = true ∧ w5 l = vals (spC l) := by
  unfold rpI at h
  rw [Bool.and_eq_true, Bool.and_eq_true] at h
  obtain ⟨h1, h2, h3⟩ := h
  have h5 : (spC l).length = 5 := by simpa using h1
  have hT := beq_iff_eq.1 h3
  have hx5 : (vals (spC l)).length = 5 := by rw [vals_len]; exact h5
  have hf := five _ hx5
  have hp : ptB ((vals (spC l)).getD 0 0) ((vals (spC l)).getD 1 0) ((vals (spC l)).getD 2 0) ((vals (spC l)).getD 3 0) ((vals (spC l)).getD 4 0) = true := by
    by_cases hp : ptB ((vals (spC l)).getD 0 0) ((vals (spC l)).getD 1 0) ((vals (spC l)).getD 2 0) ((vals (spC l)).getD 3 0) ((vals (spC l)).getD 4 0) = true
    · exact hp
    · unfold ptT at hT
      rw [if_neg hp] at hT
      rw [← hT] at h5
      simp [spC] at h5
  have hm := ptB_mon hp
  rw [hf] at hm
  unfold ptT at hT
  rw [if_pos hp, hf] at hT
  have hs : spC l = (vals (spC l)).map Lib.itoa := by
    cases hv : vals (spC l) with
    | nil => rw [hv] at hx5; cases hx5
    | cons x t => rw [← sp_jc, ← hv, hT]
  have hg : w5 l = vals (spC l) := by
    unfold w5
    conv => lhs; rw [hs]
    rw [List.map_map]
    conv => rhs; rw [← List.map_id (vals (spC l))]
    exact List.map_congr_left fun x hx => (sg_itoaC x (hm x hx).1 (hm x hx).2).2
  refine ⟨?_, hg⟩
  unfold rpM
  rw [Bool.and_eq_true, Bool.and_eq_true]
  refine ⟨?_, by simpa using h5, by rw [hg]; exact hp⟩
  rw [hs, List.all_eq_true]
  intro w hw
  obtain ⟨x, hx, rfl⟩ := List.mem_map.1 hw
  exact (sg_itoaC x (hm x hx).1 (hm x hx).2).1

theorem mp_ip {l : List UInt8} (h : rpM l = true) : rpI l = true := by
  unfold rpM at h
  rw [Bool.and_eq_true, Bool.and_eq_true] at h
  obtain ⟨h1, h2, h3⟩ := h
  have h5 : (spC l).length = 5 := by simpa using h2
  have hx5 : (w5 l).length = 5 := by unfold w5; rw [List.length_map]; exact h5
  have hf := five _ hx5
  have hm := ptB_mon h3
  rw [hf] at hm
  rw [List.all_eq_true] at h1
  have hw : ∀ w ∈ spC l, pv w = some (sgV w) := by
    intro w hw
    have e := sgO_itoa (h1 w hw)
    have b := hm (sgV w) (List.mem_map.2 ⟨w, hw, rfl⟩)
    conv => lhs; rw [e]
    exact pv_ok (parse_itoaC _ b.1 b.2)
  have hv : vals (spC l) = w5 l := by
    unfold vals w5
    exact List.map_congr_left fun w hm => by rw [hw w hm]; rfl
  unfold rpI
  rw [Bool.and_eq_true, Bool.and_eq_true]
  refine ⟨by simpa using h5, ?_, ?_⟩
  · unfold allP
    rw [List.all_eq_true]
    intro w hm
    rw [hw w hm]; rfl
  · rw [hv, beq_iff_eq]
    unfold ptT
    rw [if_pos h3, hf]
    cases hg : w5 l with
    | nil => rw [hg] at hx5; cases hx5
    | cons x t =>
      rw [jc_jw, ← List.map_cons, ← hg]
      have : (w5 l).map Lib.itoa = spC l := by
        unfold w5
        rw [List.map_map]
        conv => rhs; rw [← List.map_id (spC l)]
        exact List.map_congr_left fun w hm => (sgO_itoa (h1 w hm)).symm
      rw [this, jwC_sp]

theorem rp_eq (l : List UInt8) : rpM l = rpI l := by
  cases h : rpI l with
  | true => exact (ip_mp h).1
  | false =>
    cases h2 : rpM l with
    | true => rw [mp_ip h2] at h; cases h
    | false => rfl

/-- what both readings of a policy return -/
def rpA (l : List UInt8) : Array Value := if rpM l = true then #[.int .i64 ((w5 l).getD 0 0), .int .i64 ((w5 l).getD 1 0), .int .i64 ((w5 l).getD 2 0), .int .i64 ((w5 l).getD 3 0), .int .i64 ((w5 l).getD 4 0)] else #[.int .i64 0, .int .i64 0, .int .i64 0, .int .i64 0, .int .i64 0]

def RpPost (l : List UInt8) (w : World) (e : Ending) (w' : World) : Prop := e = .returned (.tuple #[.agg (rpA l), .bool (rpM l)]) ∧ Below w.heap.size w w'

theorem rpA_f {l : List UInt8} (h : rpM l = false) : rpA l = #[.int .i64 0, .int .i64 0, .int .i64 0, .int .i64 0, .int .i64 0] := by unfold rpA; rw [if_neg (by rw [h]; decide)]

theorem rpA_t {l : List UInt8} (h : rpM l = true) : rpA l = #[.int .i64 ((w5 l).getD 0 0), .int .i64 ((w5 l).getD 1 0), .int .i64 ((w5 l).getD 2 0), .int .i64 ((w5 l).getD 3 0), .int .i64 ((w5 l).getD 4 0)] := by unfold rpA; rw [if_pos h]

end Go.Proofs.YtnclncglmnbelaaGreatDoor

/- ReadPolicy of the model: what the calls return. (Written by wip/gen/rps.py.) -/
namespace Go.Proofs.YtnclncglmnbelaaGreatDoor
open Go.ChangeShapes Go.WideShapes Go.ChangeAt Go.RowKit
set_option linter.unusedVariables false
set_option maxRecDepth 100000

theorem below_put5 {w W : World} {X : Nat} (hX : w.heap.size = X) (hb : Below w.heap.size w W) (u0 u1 u2 u3 u4 : Value) : Below w.heap.size w (((((W.setCell ⟨X, 0, none⟩ u0).setCell ⟨X, 1, none⟩ u1).setCell ⟨X, 2, none⟩ u2).setCell ⟨X, 3, none⟩ u3).setCell ⟨X, 4, none⟩ u4) := by
  subst hX
  exact ((((hb.setCell (p := ⟨w.heap.size, 0, none⟩) (Nat.le_refl _) _).setCell (p := ⟨w.heap.size, 1, none⟩) (Nat.le_refl _) _).setCell (p := ⟨w.heap.size, 2, none⟩) (Nat.le_refl _) _).setCell (p := ⟨w.heap.size, 3, none⟩) (Nat.le_refl _) _).setCell (p := ⟨w.heap.size, 4, none⟩) (Nat.le_refl _) _

theorem RpPost.bad {l : List UInt8} {w W : World} {X : Nat} (hX : w.heap.size = X) (h : rpM l = false) (hb : Below w.heap.size w W) (u0 u1 u2 u3 u4 : Value) :
    RpPost l w (.returned (.tuple #[.agg #[.int .i64 0, .int .i64 0, .int .i64 0, .int .i64 0, .int .i64 0], .bool false])) (((((W.setCell ⟨X, 0, none⟩ u0).setCell ⟨X, 1, none⟩ u1).setCell ⟨X, 2, none⟩ u2).setCell ⟨X, 3, none⟩ u3).setCell ⟨X, 4, none⟩ u4) :=
  ⟨by rw [rpA_f h, h], below_put5 hX hb _ _ _ _ _⟩

theorem RpPost.good {l : List UInt8} {w W : World} {X : Nat} {a0 a1 a2 a3 a4 : Int} (hX : w.heap.size = X) (h : rpM l = true) (hA : rpA l = #[.int .i64 a0, .int .i64 a1, .int .i64 a2, .int .i64 a3, .int .i64 a4]) (hb : Below w.heap.size w W) (u0 u1 u2 u3 u4 : Value) :
    RpPost l w (.returned (.tuple #[.agg #[.int .i64 a0, .int .i64 a1, .int .i64 a2, .int .i64 a3, .int .i64 a4], .bool true])) (((((W.setCell ⟨X, 0, none⟩ u0).setCell ⟨X, 1, none⟩ u1).setCell ⟨X, 2, none⟩ u2).setCell ⟨X, 3, none⟩ u3).setCell ⟨X, 4, none⟩ u4) :=
  ⟨by rw [hA, h], below_put5 hX hb _ _ _ _ _⟩

theorem itoa_ne (n : Int) : Lib.itoa n ≠ [] := by
  by_cases h : 0 ≤ n
  · obtain ⟨u, rfl⟩ := Int.eq_ofNat_of_zero_le h
    rw [itoa_nat]; exact dig_ne_nil u
  · obtain ⟨m, rfl⟩ : ∃ m, n = -m := ⟨-n, by omega⟩
    rw [itoa_minus _ (by omega)]; simp

theorem ptT_ne {k x n s u : Int} (h : ptB k x n s u = true) : ∃ c t, ptT k x n s u = c :: t := by
  unfold ptT
  rw [if_pos h, jc]
  cases hc : Lib.itoa k with
  | nil => exact absurd hc (itoa_ne k)
  | cons c t => exact ⟨c, _, rfl⟩

theorem ptT_no {k x n s u : Int} (h : ptB k x n s u = false) : ptT k x n s u = [] := by unfold ptT; rw [if_neg (by rw [h]; decide)]

set_option maxHeartbeats 1000000 in
theorem rp_spec (s : ByteArray) (w : World) (hs : s.size ≤ 1048576) : Calls Tryz.prog 12 #[.string s] w (RpPost s.data.toList w) := by
  have HSP := Lib.hid (fun W => split_specC s W hs)
  have hsz : s.data.toList.length = s.size := by simp
  have hsh := spC_short s.data.toList
  obtain ⟨l, hl⟩ : ∃ l, s.data.toList = l := ⟨_, rfl⟩
  unfold SplitPostC at HSP
  rw [hl] at HSP hsz hsh
  (try rw [hl])
  have HSH := Lib.hid hsh
  clear hl hsh
  go_enter Tryz.func12, Tryz.ntmps12
  go_wp2_with fail
  refine (HSP.out _).mono ?_
  rintro e w1 ⟨g, c, W, rfl, hW, hWl, hcs, hb1⟩
  have HX1 := Lib.hid ((BxT.new w [.int .i64 0, .int .i64 0, .int .i64 0, .int .i64 0, .int .i64 0] 30).on hb1)
  have hB1 : Below w.heap.size w w1 := (box_b w _).trans (hb1.mono (by simp))
  have hwX : w.heap.size < w1.heap.size := HX1.out.lt
  have hp : 0 < W.length := by
    have h1 := congrArg List.length hW
    have h2 := List.length_pos_iff.2 (spC_ne l)
    rw [List.length_map] at h1; omega
  have hgl := block_lt (hcs 0 hp)
  have HN := Lib.hid (nums_spec W (spC l) hW g W.length c rfl (by omega) (fun x hx => by have := HSH.out.2 x hx; omega) w1 hgl hcs)
  have HB1 := Lib.hid hB1
  have hbs1 := hB1.size
  clear hcs hb1 hB1 hgl hW
  go_wp2_with fail
  refine HN.out.mono ?_
  rintro e w2 ⟨hres, hb2⟩
  have HX2 := Lib.hid (HX1.out.on hb2)
  have HB2 := Lib.hid (HB1.out.trans (hb2.mono hbs1))
  clear HN HSP HX1
  rcases hres with ⟨hall, v, rfl, hown⟩ | ⟨hall, rfl⟩
  · have hsg : w5 l = (spC l).map sgV := rfl
    rw [← hsg] at hown
    have hsl : (w5 l).length = (spC l).length := by simp [w5]
    have hsp0 := List.length_pos_iff.2 (spC_ne l)
    have HM := Lib.hid (hown.made hb2 (by omega))
    have hlen : (w5 l).length ≤ 1048577 := by have := HSH.out.1; omega
    clear hown hb2 HB1
    obtain ⟨g2, c2, rfl, hc2, hg2, hr2, _⟩ := HM.out
    by_cases h5 : (w5 l).length = 5
    · have HRM : Hid (rpM l = ptB ((w5 l).getD 0 0) ((w5 l).getD 1 0) ((w5 l).getD 2 0) ((w5 l).getD 3 0) ((w5 l).getD 4 0)) := Lib.hid (by unfold rpM; rw [hall]; simp [← hsl, h5])
      have HRA : Hid (rpM l = true → rpA l = #[.int .i64 ((w5 l).getD 0 0), .int .i64 ((w5 l).getD 1 0), .int .i64 ((w5 l).getD 2 0), .int .i64 ((w5 l).getD 3 0), .int .i64 ((w5 l).getD 4 0)]) := Lib.hid rpA_t
      have hx0 : w2.cell? ⟨g2, 0, none⟩ = some (.int .i64 ((w5 l).getD 0 0)) := hr2.cell 0 (by omega)
      have hx1 : w2.cell? ⟨g2, 1, none⟩ = some (.int .i64 ((w5 l).getD 1 0)) := hr2.cell 1 (by omega)
      have hx2 : w2.cell? ⟨g2, 2, none⟩ = some (.int .i64 ((w5 l).getD 2 0)) := hr2.cell 2 (by omega)
      have hx3 : w2.cell? ⟨g2, 3, none⟩ = some (.int .i64 ((w5 l).getD 3 0)) := hr2.cell 3 (by omega)
      have hx4 : w2.cell? ⟨g2, 4, none⟩ = some (.int .i64 ((w5 l).getD 4 0)) := hr2.cell 4 (by omega)
      (try rw [h5])
      rw [h5] at hc2
      obtain ⟨a0, q0⟩ : ∃ a, (w5 l).getD 0 0 = a := ⟨_, rfl⟩
      obtain ⟨a1, q1⟩ : ∃ a, (w5 l).getD 1 0 = a := ⟨_, rfl⟩
      obtain ⟨a2, q2⟩ : ∃ a, (w5 l).getD 2 0 = a := ⟨_, rfl⟩
      obtain ⟨a3, q3⟩ : ∃ a, (w5 l).getD 3 0 = a := ⟨_, rfl⟩
      obtain ⟨a4, q4⟩ : ∃ a, (w5 l).getD 4 0 = a := ⟨_, rfl⟩
      rw [q0, q1, q2, q3, q4] at HRM HRA
      rw [q0] at hx0
      rw [q1] at hx1
      rw [q2] at hx2
      rw [q3] at hx3
      rw [q4] at hx4
      have hgx : g2 < w2.heap.size := block_lt hx0
      have HPT := Lib.hid (pt_spec a0 a1 a2 a3 a4)
      clear HM hr2 q0 q1 q2 q3 q4 hall hsg hsl hsp0 hlen h5 hp
      go_wp2_with fail
      go_region
      all_goals
        go_wp2_with fail
        refine (HPT.out _).mono ?_
        rintro e w3 ⟨rfl, hb3⟩
        have hb4 : Below (w2.alloc (.cells #[.int .i64 a0, .int .i64 a1, .int .i64 a2, .int .i64 a3, .int .i64 a4] 30)).heap.size (w2.alloc (.cells #[.int .i64 a0, .int .i64 a1, .int .i64 a2, .int .i64 a3, .int .i64 a4] 30)) w3 := (below_drewN (Below.refl _ _) 1).trans hb3
        obtain ⟨hB3, k0, k1, k2, k3, k4⟩ := box5T hb4
        have HX3 := Lib.hid (HX2.out.on hB3)
        obtain ⟨d0, d1, d2, d3, d4⟩ := HX3.out.fiveT
        have p0 := HX3.out.free 0
        have p1 := HX3.out.free 1
        have p2 := HX3.out.free 2
        have p3 := HX3.out.free 3
        have p4 := HX3.out.free 4
        have HB3 := Lib.hid (HB2.out.trans (hB3.mono HB2.out.size))
        have hn2 : (w2.heap.size : Nat) ≠ w.heap.size := by have := HX2.out.lt; omega
        clear HPT hb3 hb4 hB3 hx0 hx1 hx2 hx3 hx4 HX2 HX3 HB2
        cases hlt : ptB a0 a1 a2 a3 a4 with
        | false =>
          rw [hlt] at HRM
          have HR := Lib.hid HRM.out
          rw [ptT_no hlt]
          clear hlt
          go_wp2_with fail
          exact bodyPost_ret (v := .tuple #[.agg #[.int .i64 0, .int .i64 0, .int .i64 0, .int .i64 0, .int .i64 0], .bool false]) (by simp [results, Tryz.results12, go_sem, d0, d1, d2, d3, d4]) rfl (RpPost.bad rfl HR.out HB3.out _ _ _ _ _)
        | true =>
          rw [hlt] at HRM
          have HR := Lib.hid HRM.out
          obtain ⟨ch, tl, hy⟩ := ptT_ne hlt
          rw [hy]
          clear hlt hy
          go_wp2_with fail
          exact bodyPost_ret (v := .tuple #[.agg #[.int .i64 a0, .int .i64 a1, .int .i64 a2, .int .i64 a3, .int .i64 a4], .bool true]) (by simp [results, Tryz.results12, go_sem, d0, d1, d2, d3, d4]) rfl (RpPost.good rfl HR.out (HRA.out HR.out) HB3.out _ _ _ _ _)
    · have HR : Hid (rpM l = false) := Lib.hid (by unfold rpM; rw [hall]; simp [← hsl, h5])
      obtain ⟨d0, d1, d2, d3, d4⟩ := HX2.out.fiveT
      have p0 := HX2.out.free 0
      have p1 := HX2.out.free 1
      have p2 := HX2.out.free 2
      have p3 := HX2.out.free 3
      have p4 := HX2.out.free 4
      obtain ⟨n, hn⟩ : ∃ n, (w5 l).length = n := ⟨_, rfl⟩
      have hn5 : ¬ (n : Int) = 5 := by omega
      rw [hn]
      clear hall hsg hsl hsp0 HM hr2 hn h5
      go_wp2_with fail
      exact bodyPost_ret (v := .tuple #[.agg #[.int .i64 0, .int .i64 0, .int .i64 0, .int .i64 0, .int .i64 0], .bool false]) (by simp [results, Tryz.results12, go_sem, d0, d1, d2, d3, d4]) rfl (RpPost.bad rfl HR.out HB2.out _ _ _ _ _)
  · have HR : Hid (rpM l = false) := Lib.hid (by unfold rpM; rw [hall]; rfl)
    obtain ⟨d0, d1, d2, d3, d4⟩ := HX2.out.fiveT
    have p0 := HX2.out.free 0
    have p1 := HX2.out.free 1
    have p2 := HX2.out.free 2
    have p3 := HX2.out.free 3
    have p4 := HX2.out.free 4
    clear hall
    go_wp2_with fail
    exact bodyPost_ret (v := .tuple #[.agg #[.int .i64 0, .int .i64 0, .int .i64 0, .int .i64 0, .int .i64 0], .bool false]) (by simp [results, Tryz.results12, go_sem, d0, d1, d2, d3, d4]) rfl (RpPost.bad rfl HR.out HB2.out _ _ _ _ _)

end Go.Proofs.YtnclncglmnbelaaGreatDoor

/- ReadPolicy of the program: what the calls return. (Written by wip/gen/rpi.py.) -/
namespace Go.Proofs.YtnclncglmnbelaaGreatDoor
open Go.ChangeShapes Go.WideShapes Go.ChangeAt Go.RowKit
set_option linter.unusedVariables false
set_option maxRecDepth 100000

/-- a block that is an array of five numbers -/
def Ar5 (w : World) (B : Nat) (ys : List Int) : Prop := w.heap[B]? = some (.cells (ys.map (Value.int .i64)).toArray 56 (0, 0))

theorem Ar5.cell {w : World} {B : Nat} {ys : List Int} (h : Ar5 w B ys) (i : Nat) (hi : i < ys.length) : w.cell? ⟨B, i, none⟩ = some (.int .i64 (ys.getD i 0)) := by
  unfold Ar5 at h
  simp [World.cell?, h, List.getD, hi]

theorem Ar5.free {w : World} {B : Nat} {ys : List Int} (h : Ar5 w B ys) (i : Nat) : w.frozen? ⟨B, i, none⟩ = false := by
  unfold Ar5 at h
  simp [World.frozen?, h]

theorem Ar5.lt {w : World} {B : Nat} {ys : List Int} (h : Ar5 w B ys) : B < w.heap.size := by
  unfold Ar5 at h
  by_cases hb : B < w.heap.size
  · exact hb
  · have : w.heap[B]? = none := by simp; omega
    rw [this] at h; cases h

theorem Ar5.same {w w' : World} {B : Nat} {ys : List Int} (h : Ar5 w B ys) (e : w'.heap[B]? = w.heap[B]?) : Ar5 w' B ys := by
  unfold Ar5 at h ⊢; rw [e]; exact h

theorem Ar5.below {w w' : World} {B C : Nat} {ys : List Int} (h : Ar5 w B ys) (hb : Below C w w') (hC : B < C) : Ar5 w' B ys := h.same (hb.block B hC)

theorem Ar5.drewN {w : World} {B : Nat} {ys : List Int} (h : Ar5 w B ys) (n : Nat) : Ar5 (w.drewN n) B ys := h

theorem Ar5.alloc {w : World} {B : Nat} {ys : List Int} (h : Ar5 w B ys) (o : Obj) : Ar5 (w.alloc o) B ys := h.same (Below.heap_alloc _ _ _ h.lt)

theorem Ar5.set {w : World} {B : Nat} {ys : List Int} (h : Ar5 w B ys) (i : Nat) (v : Int) : Ar5 (w.setCell ⟨B, i, none⟩ (.int .i64 v)) B (ys.set i v) := by
  have hl := h.lt
  unfold Ar5 at h ⊢
  rw [Array.getElem?_eq_getElem hl] at h
  have h' : w.heap[B] = .cells (ys.map (Value.int .i64)).toArray 56 (0, 0) := by simpa using h
  show (w.heap.modify B _)[B]? = _
  rw [Array.getElem?_modify, if_pos rfl, Array.getElem?_eq_getElem hl, h']
  simp

theorem Ar5.new (w : World) (ys : List Int) : Ar5 (w.alloc (.cells (ys.map (Value.int .i64)).toArray 56)) w.heap.size ys := by
  unfold Ar5
  show (w.heap.push _)[w.heap.size]? = _
  simp

theorem idxAddr5 (B i : Nat) (hi : i < 5) (W : World) : (Instr.indexAt 56 (.pointer (some ⟨B, 0, none⟩)) (.int .i64 i)).run Tryz.prog W = .ok (.pointer (some ⟨B, i, none⟩)) W := by
  have h0 : ∀ W : World, (Instr.indexAt 56 (.pointer (some ⟨B, 0, none⟩)) (.int .i64 0)).run Tryz.prog W = .ok (.pointer (some ⟨B, 0, none⟩)) W := fun _ => by kernel_rfl
  have h1 : ∀ W : World, (Instr.indexAt 56 (.pointer (some ⟨B, 0, none⟩)) (.int .i64 1)).run Tryz.prog W = .ok (.pointer (some ⟨B, 1, none⟩)) W := fun _ => by kernel_rfl
  have h2 : ∀ W : World, (Instr.indexAt 56 (.pointer (some ⟨B, 0, none⟩)) (.int .i64 2)).run Tryz.prog W = .ok (.pointer (some ⟨B, 2, none⟩)) W := fun _ => by kernel_rfl
  have h3 : ∀ W : World, (Instr.indexAt 56 (.pointer (some ⟨B, 0, none⟩)) (.int .i64 3)).run Tryz.prog W = .ok (.pointer (some ⟨B, 3, none⟩)) W := fun _ => by kernel_rfl
  have h4 : ∀ W : World, (Instr.indexAt 56 (.pointer (some ⟨B, 0, none⟩)) (.int .i64 4)).run Tryz.prog W = .ok (.pointer (some ⟨B, 4, none⟩)) W := fun _ => by kernel_rfl
  match i, hi with
  | 0, _ => exact h0 W
  | 1, _ => exact h1 W
  | 2, _ => exact h2 W
  | 3, _ => exact h3 W
  | 4, _ => exact h4 W

theorem po5_any (a0 a1 a2 a3 a4 : Int) (w : World) : Calls Tryz.prog 30 #[.agg #[.int .i64 a0, .int .i64 a1, .int .i64 a2, .int .i64 a3, .int .i64 a4]] w fun e w' => e = .returned (.agg #[.int .i64 a0, .int .i64 a1, .int .i64 a2, .int .i64 a3, .int .i64 a4]) ∧ Below w.heap.size w w' := by
  have hs : (w.alloc (.cells #[.int .i64 a0, .int .i64 a1, .int .i64 a2, .int .i64 a3, .int .i64 a4] 56)).heap.size = w.heap.size + 1 := by simp
  have i0 : ∀ W : World, (Instr.indexAt 56 (.pointer (some ⟨w.heap.size, 0, none⟩)) (.int .i64 0)).run Tryz.prog W = .ok (.pointer (some ⟨w.heap.size, 0, none⟩)) W := fun W => idxAddr5 w.heap.size 0 (by omega) W
  have i1 : ∀ W : World, (Instr.indexAt 56 (.pointer (some ⟨w.heap.size, 0, none⟩)) (.int .i64 1)).run Tryz.prog W = .ok (.pointer (some ⟨w.heap.size, 1, none⟩)) W := fun W => idxAddr5 w.heap.size 1 (by omega) W
  have i2 : ∀ W : World, (Instr.indexAt 56 (.pointer (some ⟨w.heap.size, 0, none⟩)) (.int .i64 2)).run Tryz.prog W = .ok (.pointer (some ⟨w.heap.size, 2, none⟩)) W := fun W => idxAddr5 w.heap.size 2 (by omega) W
  have i3 : ∀ W : World, (Instr.indexAt 56 (.pointer (some ⟨w.heap.size, 0, none⟩)) (.int .i64 3)).run Tryz.prog W = .ok (.pointer (some ⟨w.heap.size, 3, none⟩)) W := fun W => idxAddr5 w.heap.size 3 (by omega) W
  have i4 : ∀ W : World, (Instr.indexAt 56 (.pointer (some ⟨w.heap.size, 0, none⟩)) (.int .i64 4)).run Tryz.prog W = .ok (.pointer (some ⟨w.heap.size, 4, none⟩)) W := fun W => idxAddr5 w.heap.size 4 (by omega) W
  go_enter Tryz.func30, Tryz.ntmps30
  go_wp2_with fail
  exact bodyPost_ret (v := .agg #[.int .i64 a0, .int .i64 a1, .int .i64 a2, .int .i64 a3, .int .i64 a4]) (results_cell_row rfl _ _ (w.heap.size + 1) 30 #[.int .i64 a0, .int .i64 a1, .int .i64 a2, .int .i64 a3, .int .i64 a4] (0, 0) _ rfl (by rw [← hs]; exact heap_alloc_new _ _) Tryz.underlying30 rfl (by kernel_rfl)) rfl ⟨rfl, (box_b _ _).trans ((box_b _ _).mono (by simp))⟩

set_option maxHeartbeats 2000000 in
theorem rp_impl (s : ByteArray) (w : World) (hs : s.size ≤ 1048576) (ha : AskT w) : Calls Tryz.prog 10 #[.string s] w (RpPost s.data.toList w) := by
  have HA := Lib.hid ha
  have hsz : s.data.toList.length = s.size := by simp
  have hsh := spC_short s.data.toList
  have hwl := wdsC_len s
  have hb00 := box_b w (.cells #[.int .i64 0, .int .i64 0, .int .i64 0, .int .i64 0, .int .i64 0] 30)
  have hs00 : (w.alloc (.cells #[.int .i64 0, .int .i64 0, .int .i64 0, .int .i64 0, .int .i64 0] 30)).heap.size = w.heap.size + 1 := by simp
  have hX0 := BxT.new w [.int .i64 0, .int .i64 0, .int .i64 0, .int .i64 0, .int .i64 0] 30
  have HSP := Lib.hid (Tryz.strings_Split_shaped s ⟨#[44]⟩ (w.alloc (.cells #[.int .i64 0, .int .i64 0, .int .i64 0, .int .i64 0, .int .i64 0] 30)) (ha.ask.step hb00).shape (by omega) (by decide))
  have HW := Lib.hid (wdsC_get s)
  have hnew := StrB.new (w.alloc (.cells #[.int .i64 0, .int .i64 0, .int .i64 0, .int .i64 0, .int .i64 0] 30)) (wdsC s)
  have hww : wdsC s = Lib.splitB ⟨#[44]⟩ 0 (Lib.countB s ⟨#[44]⟩) s := rfl
  rw [← hww] at HSP
  have hmap := wdsC_sp s
  have hjs : Hid (∀ x, (x == s.toList) = (x == s.data.toList)) := Lib.hid (fun x => by rw [toList_eq])
  obtain ⟨l, hl⟩ : ∃ l, s.data.toList = l := ⟨_, rfl⟩
  obtain ⟨D, hD⟩ : ∃ D, wdsC s = D := ⟨_, rfl⟩
  obtain ⟨n, hn⟩ : ∃ n, Lib.countB s ⟨#[44]⟩ + 1 = n := ⟨_, rfl⟩
  rw [hl] at hsz hsh HW hmap hjs ⊢
  rw [hD] at hwl HW hnew HSP hmap
  rw [hn] at hwl HSP
  have hLn : (spC l).length = n := by rw [← hmap]; simpa using hwl
  have hvl : (vals (spC l)).length = n := by rw [vals_len]; exact hLn
  have hn1 : n ≤ 1100000 := by have := hsh.1; omega
  have HNO : Hid (n ≠ 5 → rpM l = false) := Lib.hid (fun h => by rw [rp_eq]; unfold rpI; rw [hLn]; simp [h])
  obtain ⟨xs, hxs⟩ : ∃ xs, vals (spC l) = xs := ⟨_, rfl⟩
  have HRO : Hid (n = 5 → rpM l = (allP (spC l) && (ptT (xs.getD 0 0) (xs.getD 1 0) (xs.getD 2 0) (xs.getD 3 0) (xs.getD 4 0) == l))) := Lib.hid (fun h => by rw [rp_eq]; unfold rpI; rw [hLn, hxs]; simp [h])
  have HRA : Hid (rpM l = true → rpA l = #[.int .i64 (xs.getD 0 0), .int .i64 (xs.getD 1 0), .int .i64 (xs.getD 2 0), .int .i64 (xs.getD 3 0), .int .i64 (xs.getD 4 0)]) := Lib.hid (fun h => by rw [rpA_t h, (ip_mp (by rw [← rp_eq]; exact h)).2, hxs])
  have HVG : Hid (∀ k, k < n → ∀ v, pv ((spC l).getD k []) = some v → xs.getD k 0 = v) := Lib.hid (fun k hk v hv => by rw [← hxs]; exact vals_get _ k (by omega) v hv)
  rw [hxs] at hvl
  have HPT : Hid ((∀ j, j < n → (pv ((spC l).getD j [])).isSome = true) → allP (spC l) = true) := Lib.hid (fun h => allP_t (fun j hj => h j (by omega)))
  have HPF : Hid (∀ k, k < n → pv ((spC l).getD k []) = none → allP (spC l) = false) := Lib.hid (fun k hk h => allP_f (by omega) h)
  have HXL := Lib.hid hvl
  have hsx : ∀ k, k < n → (D.getD k ByteArray.empty).size ≤ 281474976710656 := by
    intro k hk
    have e := HW.out k (by omega)
    have h1 : (D.getD k ByteArray.empty).data.toList.length = (D.getD k ByteArray.empty).size := by simp
    rw [← h1, e]
    have : (spC l).getD k [] ∈ spC l := by simp [List.getD, show k < (spC l).length by omega]
    have := hsh.2 _ this
    omega
  have HSX := Lib.hid hsx
  have hb1 := box_b (w.alloc (.cells #[.int .i64 0, .int .i64 0, .int .i64 0, .int .i64 0, .int .i64 0] 30)) (.cells (D.map Value.string).toArray 9)
  have hX1 := hX0.on hb1
  have hb0 := hb00.trans (hb1.mono (by omega))
  have hs1 : ((w.alloc (.cells #[.int .i64 0, .int .i64 0, .int .i64 0, .int .i64 0, .int .i64 0] 30)).alloc (.cells (D.map Value.string).toArray 9)).heap.size = w.heap.size + 1 + 1 := by simp
  rw [hs00] at HSP hnew
  generalize (w.alloc (.cells #[.int .i64 0, .int .i64 0, .int .i64 0, .int .i64 0, .int .i64 0] 30)).alloc (.cells (D.map Value.string).toArray 9) = w1 at HSP hnew hb0 hX1 hs1
  have HB0 := Lib.hid hb0
  have HNW := Lib.hid hnew
  have HS0 := Lib.hid hs1
  have HDL := Lib.hid hwl
  have HX1 := Lib.hid hX1
  clear hnew hb0 hb1 hb00 hs00 hs1 hX0 hX1 hsx hvl hxs hmap hww hn hD hwl ha hl hLn
  by_cases h5 : n = 5
  · subst h5
    go_enter Tryz.func10, Tryz.ntmps10
    go_wp2_with fail
    refine HSP.out.mono ?_
    rintro e w2 ⟨rfl, rfl⟩
    go_wp2_with fail
    have HZ : Hid (Ar5 (w2.alloc (.cells #[.int .i64 0, .int .i64 0, .int .i64 0, .int .i64 0, .int .i64 0] 56)) w2.heap.size [0, 0, 0, 0, 0]) := Lib.hid (Ar5.new w2 [0, 0, 0, 0, 0])
    clear HSP
    go_loopw [19] (fun i wr => ∃ k : Nat, k ≤ 5 ∧ i = .int .i64 k ∧ Hid (Ar5 wr w2.heap.size (xs.take k ++ List.replicate (xs.length - k) 0)) ∧ Hid (∀ j, j < k → (pv ((spC l).getD j [])).isSome = true) ∧ Hid (Below w2.heap.size w2 wr)) (fun i _ => 5 - (intOf i).toNat)
    case atStart => exact ⟨0, Nat.zero_le _, rfl, Lib.hid (by have := HZ.out; rw [HXL.out]; exact this), Lib.hid (fun j hj => by omega), Lib.hid (box_b _ _)⟩
    case round =>
      obtain ⟨k, hk, rfl, HK, HP, HB⟩ := hrel
      have hB : Below w.heap.size w wr := HB0.out.trans (HB.out.mono HB0.out.size)
      have HBW := Lib.hid hB
      have hs2 : w.heap.size + 1 < w2.heap.size := by have := HS0.out; omega
      have hsw : w2.heap.size ≤ wr.heap.size := HB.out.size
      by_cases hlt : k < 5
      · have hx := (HB.out.cell (p := ⟨w.heap.size + 1, k, none⟩) hs2).trans (HNW.out.cell k (by rw [HDL.out]; exact hlt))
        have hxl := HW.out k (by rw [HDL.out]; exact hlt)
        have hxs := HSX.out k hlt
        have HVK := Lib.hid (HVG.out k hlt)
        have HFK := Lib.hid (HPF.out k hlt)
        have hia := idxAddr5 w2.heap.size k hlt
        obtain ⟨x, hx0⟩ : ∃ x, D.getD k ByteArray.empty = x := ⟨_, rfl⟩
        rw [hx0] at hx hxl hxs
        have HPA := Lib.hid (parse_all x wr hxs (HA.out.ask.step hB))
        unfold ParsePost at HPA
        rw [hxl] at HPA
        clear hx0 hxl hxs hB
        go_wp2_with fail
        refine HPA.out.mono ?_
        rintro e w3 ⟨hres, hb3⟩
        have hbk := HK.out.below hb3 (by have := HK.out.lt; exact this)
        have hB3 := HB.out.trans (hb3.mono hsw)
        have HB3 := Lib.hid hB3
        have HBX := Lib.hid (HBW.out.trans (hb3.mono HBW.out.size))
        have hy := hbk.cell k (by simp; have := HXL.out; omega)
        have hf := hbk.free k
        obtain ⟨u, hu⟩ : ∃ u, (xs.take k ++ List.replicate (xs.length - k) 0).getD k 0 = u := ⟨_, rfl⟩
        rw [hu] at hy
        have HBK := Lib.hid hbk
        have HX3 := Lib.hid (HX1.out.on hB3)
        clear hu hbk hB3 hb3 HPA hx
        rcases hres with ⟨v, hv, rfl⟩ | ⟨hv, v, N, rfl⟩
        · have HV := Lib.hid (HVK.out v (pv_ok hv))
          have HVS := Lib.hid (pv_ok hv)
          clear hv HX3
          go_wp2_with fail
          go_roundw
          case rel => exact ⟨k + 1, by omega, by go_num, Lib.hid (by have := HBK.out.set k v; rw [← HV.out, set_step xs k (by rw [HXL.out]; exact hlt), HV.out] at this; exact this), Lib.hid (fun j hj => by
            by_cases e : j = k
            · subst e; rw [HVS.out]; rfl
            · exact HP.out j (by omega)), Lib.hid (HB3.out.setCell (p := ⟨w2.heap.size, k, none⟩) (Nat.le_refl _) _)⟩
          case measure => simp [intOf]; omega
        · have HR : Hid (rpM l = false) := Lib.hid (by rw [HRO.out (by first | rfl | trivial), HFK.out (pv_no hv)]; rfl)
          obtain ⟨d0, d1, d2, d3, d4⟩ := HX3.out.fiveT
          have p0 := HX3.out.free 0
          have p1 := HX3.out.free 1
          have p2 := HX3.out.free 2
          have p3 := HX3.out.free 3
          have p4 := HX3.out.free 4
          clear hv hy hf hia
          go_wp2_with fail
          exact bodyPost_ret (v := .tuple #[.agg #[.int .i64 0, .int .i64 0, .int .i64 0, .int .i64 0, .int .i64 0], .bool false]) (by simp [results, Tryz.results10, go_sem, d0, d1, d2, d3, d4]) rfl (RpPost.bad rfl HR.out HBX.out _ _ _ _ _)
      · obtain rfl : k = 5 := by omega
        have hbk := HK.out
        rw [HXL.out, Nat.sub_self, List.replicate_zero, List.append_nil, List.take_of_length_le (by rw [HXL.out]; exact Nat.le_refl _), ← five xs HXL.out] at hbk
        have hall := HPT.out HP.out
        have hro := HRO.out (by first | rfl | trivial)
        rw [hall, Bool.true_and] at hro
        have HRA2 := HRA.out
        obtain ⟨a0, q0⟩ : ∃ a, xs.getD 0 0 = a := ⟨_, rfl⟩
        obtain ⟨a1, q1⟩ : ∃ a, xs.getD 1 0 = a := ⟨_, rfl⟩
        obtain ⟨a2, q2⟩ : ∃ a, xs.getD 2 0 = a := ⟨_, rfl⟩
        obtain ⟨a3, q3⟩ : ∃ a, xs.getD 3 0 = a := ⟨_, rfl⟩
        obtain ⟨a4, q4⟩ : ∃ a, xs.getD 4 0 = a := ⟨_, rfl⟩
        rw [q0, q1, q2, q3, q4] at hbk hro HRA2
        have hrow : wr.heap[w2.heap.size]? = some (.cells #[.int .i64 a0, .int .i64 a1, .int .i64 a2, .int .i64 a3, .int .i64 a4] 56 (0, 0)) := hbk
        have HRW := Lib.hid hro
        have HRB := Lib.hid HRA2
        have HX4 := Lib.hid (HX1.out.on HB.out)
        have HTB := Lib.hid (HA.out.step hB).tab
        clear hbk hro HRA2 hall q0 q1 q2 q3 q4 HP HK HRO HRA HVG HPT HPF HSX HW hB hsh
        go_wp2_with (refine wpList_load_row rfl 56 (.tmp 5) rfl w2.heap.size rfl 56 #[.int .i64 a0, .int .i64 a1, .int .i64 a2, .int .i64 a3, .int .i64 a4] (0, 0) _ hrow und5 rfl (by kernel_rfl) ?_)
        refine (po5_any a0 a1 a2 a3 a4 _).mono ?_
        rintro e w4 ⟨rfl, hb4⟩
        have HB4 := Lib.hid (HBW.out.trans (hb4.mono HBW.out.size))
        have HX5 := Lib.hid (HX4.out.on hb4)
        have HT4 := Lib.hid (HTB.out.stepB HTB.out.lt hb4)
        clear hb4 hrow HX4 HTB
        go_wp2_with fail
        refine (pt_impl a0 a1 a2 a3 a4 _ (HT4.out.stepB HT4.out.lt (box_b _ _))).mono ?_
        rintro e w5 ⟨rfl, hb5⟩
        obtain ⟨hB5, k0, k1, k2, k3, k4⟩ := box5T hb5
        have HB5 := Lib.hid (HB4.out.trans (hB5.mono HB4.out.size))
        have HX6 := Lib.hid (HX5.out.on hB5)
        obtain ⟨d0, d1, d2, d3, d4⟩ := HX6.out.fiveT
        have p0 := HX6.out.free 0
        have p1 := HX6.out.free 1
        have p2 := HX6.out.free 2
        have p3 := HX6.out.free 3
        have p4 := HX6.out.free 4
        have hne : (w4.heap.size : Nat) ≠ w.heap.size := by have := HX5.out.lt; omega
        have hj := hjs.out (ptT a0 a1 a2 a3 a4)
        clear hb5 hB5 HX5 HT4 HB4
        obtain ⟨Y, hY⟩ : ∃ Y, ptT a0 a1 a2 a3 a4 = Y := ⟨_, rfl⟩
        rw [hY] at hj HRW ⊢
        clear hY
        cases hq : (Y == l) with
        | true =>
          rw [hq] at hj
          have HR : Hid (rpM l = true) := Lib.hid (by rw [HRW.out, hq])
          clear hq
          go_wp2_with fail
          exact bodyPost_ret (v := .tuple #[.agg #[.int .i64 a0, .int .i64 a1, .int .i64 a2, .int .i64 a3, .int .i64 a4], .bool true]) (by simp [results, Tryz.results10, go_sem, d0, d1, d2, d3, d4]) rfl (RpPost.good rfl HR.out (HRB.out HR.out) HB5.out _ _ _ _ _)
        | false =>
          rw [hq] at hj
          have HR : Hid (rpM l = false) := Lib.hid (by rw [HRW.out, hq])
          clear hq
          go_wp2_with fail
          exact bodyPost_ret (v := .tuple #[.agg #[.int .i64 0, .int .i64 0, .int .i64 0, .int .i64 0, .int .i64 0], .bool false]) (by simp [results, Tryz.results10, go_sem, d0, d1, d2, d3, d4]) rfl (RpPost.bad rfl HR.out HB5.out _ _ _ _ _)
  · have HR := Lib.hid (HNO.out h5)
    have hn5 : ¬ (n : Int) = 5 := by omega
    obtain ⟨d0, d1, d2, d3, d4⟩ := HX1.out.fiveT
    have p0 := HX1.out.free 0
    have p1 := HX1.out.free 1
    have p2 := HX1.out.free 2
    have p3 := HX1.out.free 3
    have p4 := HX1.out.free 4
    go_enter Tryz.func10, Tryz.ntmps10
    go_wp2_with fail
    refine HSP.out.mono ?_
    rintro e w2 ⟨rfl, rfl⟩
    go_wp2_with fail
    exact bodyPost_ret (v := .tuple #[.agg #[.int .i64 0, .int .i64 0, .int .i64 0, .int .i64 0, .int .i64 0], .bool false]) (by simp [results, Tryz.results10, go_sem, d0, d1, d2, d3, d4]) rfl (RpPost.bad rfl HR.out HB0.out _ _ _ _ _)

end Go.Proofs.YtnclncglmnbelaaGreatDoor

/- The exact law on ReadPolicy. -/
namespace Go.Proofs.YtnclncglmnbelaaGreatDoor
open Go.ChangeShapes Go.WideShapes Go.ChangeAt Go.RowKit
set_option linter.unusedVariables false
set_option maxRecDepth 100000

theorem rpA_five (l : List UInt8) : ∃ b0 b1 b2 b3 b4 : Int, rpA l = #[.int .i64 b0, .int .i64 b1, .int .i64 b2, .int .i64 b3, .int .i64 b4] := by
  cases h : rpM l with
  | true => exact ⟨_, _, _, _, _, rpA_t h⟩
  | false => exact ⟨_, _, _, _, _, rpA_f h⟩

end Go.Proofs.YtnclncglmnbelaaGreatDoor
