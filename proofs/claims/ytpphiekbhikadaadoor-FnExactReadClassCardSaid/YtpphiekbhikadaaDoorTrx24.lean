/- Merged: Spl. -/
import Derived.Test.YtpphiekbhikadaaDoorTrx9
import Derived.Test.YtpphiekbhikadaaDoorTrx22

/- The model's cutting of a text into words, and its reading of words as numbers: what the calls return. -/
namespace Go.Proofs.YtpphiekbhikadaaDoor
open Go.ChangeShapes Go.WideShapes Go.ChangeAt Go.RowKit
set_option linter.unusedVariables false
set_option maxRecDepth 100000

/-- the cutting goes on, or all words are there -/
def CutR (s : ByteArray) (W : List ByteArray) (f k : Nat) : Prop := CutAt s W f k ∨ (k = s.size + 1 ∧ f = k ∧ W.length ≤ k ∧ W.map (fun x : ByteArray => x.data.toList) = sp s.data.toList)

theorem CutR.len {s : ByteArray} {W : List ByteArray} {f k : Nat} (h : CutR s W f k) : W.length ≤ k ∧ k ≤ s.size + 1 ∧ f ≤ k := by
  rcases h with h | ⟨rfl, rfl, h, _⟩
  · exact ⟨h.len, by have := h.2.1; omega, h.1⟩
  · exact ⟨h, by omega, by omega⟩

set_option maxHeartbeats 1000000 in
theorem split_spec (s : ByteArray) (w : World) (hs : s.size ≤ 1048576) : Calls Tryd.prog 38 #[.string s, .int .u8 32] w (SplitPost s w) := by
  go_enter Tryd.func38, Tryd.ntmps38
  go_wp2_with fail
  have HO0 := Lib.hid (ownS_new w)
  go_loopw [5, 6, 7] (fun v f i wr => ∃ (W : List ByteArray) (fk k : Nat), f = .int .i64 fk ∧ i = .int .i64 k ∧ Hid (CutR s W fk k) ∧ Hid (OwnS w.heap.size wr v W) ∧ Hid (Below w.heap.size w wr)) (fun _ _ i _ => s.size + 1 - (intOf i).toNat)
  case atStart => exact ⟨[], 0, 0, rfl, rfl, Lib.hid (.inl (cut_zero s)), HO0, Lib.hid (box_b _ _)⟩
  case round =>
    obtain ⟨W, fk, k, rfl, rfl, HC, HO, HB⟩ := hrel
    obtain ⟨l0, l1, l2⟩ := HC.out.len
    have hbs := HB.out.size
    have hown := HO.out
    by_cases hk : k ≤ s.size
    · have hcut : CutAt s W fk k := by
        rcases HC.out with h | ⟨h, _⟩
        · exact h
        · omega
      clear HC
      by_cases hlt : k < s.size
      · have hkn : ((k : Int) == (s.size : Int)) = false := by simp; omega
        by_cases hc : s[k] = 32
        · have e1 : (((s[k]'hlt).toNat : Int) == 32) = true := by rw [hc]; rfl
          have HN := Lib.hid (hcut.blank hlt hc)
          clear hcut hc
          go_wp2_with (at_builtin; refine wpList_appS rfl _ _ rfl w.heap.size _ W (s.extract fk k) rfl (hown.alloc _) ⟨wr.heap.size, 0, none⟩ rfl (one_newS wr _) (by omega) (by simp; omega) ?_)
          intro v' w5 hown' hgrow
          have HO5 := Lib.hid hown'
          have HB5 := Lib.hid ((HB.out.alloc hbs _).grown hgrow (by simp; omega) (fun k hk => (hown.lt k hk).1))
          clear hown' hgrow hown HO
          go_wp2_with fail
          go_roundw
          case rel => exact ⟨_, k + 1, k + 1, by go_num, by go_num, Lib.hid (.inl HN.out), HO5, HB5⟩
          case measure => simp [intOf]; omega
        · have e1 : (((s[k]'hlt).toNat : Int) == 32) = false := by
            have : ¬ (s[k]'hlt).toNat = 32 := fun e => hc (UInt8.toNat_inj.1 e)
            simp; omega
          have HN := Lib.hid (hcut.other hlt hc)
          clear hcut hc
          go_wp2_with fail
          go_roundw
          case rel => exact ⟨_, fk, k + 1, rfl, by go_num, Lib.hid (.inl HN.out), HO, HB⟩
          case measure => simp [intOf]; omega
      · obtain rfl : k = s.size := by omega
        have hkn : ((s.size : Int) == (s.size : Int)) = true := by simp
        have HN : Hid (CutR s (W ++ [s.extract fk s.size]) (s.size + 1) (s.size + 1)) := Lib.hid (.inr ⟨rfl, rfl, by rw [List.length_append, List.length_singleton]; omega, hcut.done⟩)
        clear hcut
        go_wp2_with (at_builtin; refine wpList_appS rfl _ _ rfl w.heap.size _ W (s.extract fk s.size) rfl (hown.alloc _) ⟨wr.heap.size, 0, none⟩ rfl (one_newS wr _) (by omega) (by simp; omega) ?_)
        intro v' w5 hown' hgrow
        have HO5 := Lib.hid hown'
        have HB5 := Lib.hid ((HB.out.alloc hbs _).grown hgrow (by simp; omega) (fun k hk => (hown.lt k hk).1))
        clear hown' hgrow hown HO
        go_wp2_with fail
        go_roundw
        case rel => exact ⟨_, s.size + 1, s.size + 1, by go_num, by go_num, HN, HO5, HB5⟩
        case measure => simp [intOf]
    · have hw : W.map (fun x : ByteArray => x.data.toList) = sp s.data.toList ∧ k = s.size + 1 := by
        rcases HC.out with h | ⟨h, _, _, g⟩
        · have := h.2.1; omega
        · exact ⟨g, h⟩
      obtain ⟨hw, rfl⟩ := hw
      have hp : 0 < W.length := by
        have h1 := congrArg List.length hw
        have h2 := List.length_pos_iff.2 (sp_ne s.data.toList)
        rw [List.length_map] at h1; omega
      obtain ⟨g, c, rfl, hg, hcs⟩ := hown.cells hp
      have HCS := Lib.hid hcs
      have HW := Lib.hid hw
      clear hcs hw hown HO HC
      go_wp2_with fail
      go_ret
      exact ⟨g, c, W, rfl, HW.out, by omega, HCS.out, HB.out⟩

def NumsPost (L : List (List UInt8)) (w : World) (e : Ending) (w' : World) : Prop :=
  ((L.all sgO = true ∧ ∃ v, e = .returned (.tuple #[v, .bool true]) ∧ OwnI w.heap.size w' v (L.map sgV)) ∨ (L.all sgO = false ∧ e = .returned (.tuple #[.slice none 0 0, .bool false]))) ∧ Below w.heap.size w w'

theorem take_map_snoc {L : List (List UInt8)} {k : Nat} (h : k < L.length) : (L.take (k + 1)).map sgV = (L.take k).map sgV ++ [sgV (L.getD k [])] := by
  have e : L.getD k [] = L[k] := by simp [List.getD, h]
  rw [List.take_add_one, List.getElem?_eq_getElem h, e]
  show ((L.take k) ++ [L[k]]).map sgV = _
  rw [List.map_append]; rfl

theorem take_all_snoc {L : List (List UInt8)} {k : Nat} (h : k < L.length) (h1 : (L.take k).all sgO = true) (h2 : sgO (L.getD k []) = true) : (L.take (k + 1)).all sgO = true := by
  rw [List.take_add_one, List.getElem?_eq_getElem h, List.all_append, h1]
  simp [List.getD, h] at h2 ⊢
  exact h2

theorem all_bad {L : List (List UInt8)} {k : Nat} (h : k < L.length) (h2 : sgO (L.getD k []) = false) : L.all sgO = false := by
  rw [Bool.eq_false_iff]
  intro hh
  rw [List.all_eq_true] at hh
  have := hh (L.getD k []) (by simp [List.getD, h])
  rw [h2] at this; cases this

set_option maxHeartbeats 1000000 in
theorem nums_spec (W : List ByteArray) (L : List (List UInt8)) (hL : W.map (fun x : ByteArray => x.data.toList) = L) (g n c : Nat) (hn : W.length = n) (hn1 : n ≤ 1100000) (hz : ∀ l ∈ L, l.length ≤ 1048576) (w : World) (hgl : g < w.heap.size)
    (hc : ∀ i, i < n → w.cell? ⟨g, i, none⟩ = some (.string (W.getD i ByteArray.empty))) :
    Calls Tryd.prog 37 #[.slice (some ⟨g, 0, none⟩) n c] w (NumsPost L w) := by
  have hLn : L.length = n := by rw [← hL]; simpa using hn
  have hLg : ∀ i, i < n → (W.getD i ByteArray.empty).data.toList = L.getD i [] := by
    intro i hi
    rw [← hL]
    simp [List.getD, show i < W.length by omega]
  have HLN := Lib.hid hLn
  have HLG := Lib.hid hLg
  have HZ := Lib.hid hz
  have HC := Lib.hid hc
  clear hc hz hLg hLn hL hn
  go_enter Tryd.func37, Tryd.ntmps37
  go_wp2_with fail
  have HO0 := Lib.hid (ownI_new w)
  go_loopw [4, 5] (fun v i wr => ∃ k : Nat, k ≤ n ∧ i = .int .i64 k ∧ Hid (OwnI w.heap.size wr v ((L.take k).map sgV)) ∧ Hid ((L.take k).all sgO = true) ∧ Hid (Below w.heap.size w wr)) (fun _ i _ => n - (intOf i).toNat)
  case atStart => exact ⟨0, Nat.zero_le _, rfl, HO0, Lib.hid (by simp), Lib.hid (box_b _ _)⟩
  case round =>
    obtain ⟨k, hk, rfl, HO, HA, HB⟩ := hrel
    have hbs := HB.out.size
    by_cases hlt : k < n
    · have hx := (HB.out.cell (p := ⟨g, k, none⟩) hgl).trans (HC.out k hlt)
      have hxl := HLG.out k hlt
      have hmem : L.getD k [] ∈ L := by have := HLN.out; simp [List.getD, show k < L.length by omega]
      have hxz := HZ.out _ hmem
      have HTM := Lib.hid (take_map_snoc (L := L) (k := k) (by rw [HLN.out]; exact hlt))
      have HTA : Hid (sgO (L.getD k []) = true → (L.take (k + 1)).all sgO = true) := Lib.hid (fun h2 => take_all_snoc (by rw [HLN.out]; exact hlt) HA.out h2)
      have HTB : Hid (sgO (L.getD k []) = false → L.all sgO = false) := Lib.hid (fun h2 => all_bad (by rw [HLN.out]; exact hlt) h2)
      obtain ⟨x, hx0⟩ : ∃ x, W.getD k ByteArray.empty = x := ⟨_, rfl⟩
      rw [hx0] at hx hxl
      have hsz : x.size ≤ 1048576 := by
        have : x.data.toList.length = x.size := by simp
        rw [← this, hxl]; exact hxz
      have HSG := Lib.hid (fun W1 => sg_spec x W1 hsz)
      rw [hxl] at HSG
      obtain ⟨y, hy⟩ : ∃ y, L.getD k [] = y := ⟨_, rfl⟩
      rw [hy] at HSG HTM HTA HTB
      have hbd := sgV_bd y
      obtain ⟨u, hu⟩ : ∃ u, sgV y = u := ⟨_, rfl⟩
      obtain ⟨o, ho⟩ : ∃ o, sgO y = o := ⟨_, rfl⟩
      unfold SgPost at HSG
      rw [hu] at HSG HTM hbd
      rw [ho] at HSG HTA HTB
      obtain ⟨Z, hZ⟩ : ∃ Z, (L.take k).map sgV = Z := ⟨_, rfl⟩
      have hZl : Z.length ≤ k := by rw [← hZ]; simp; omega
      rw [hZ] at HO HTM
      clear hx0 hxl hmem hxz hy hu ho hZ
      cases o with
      | true =>
        go_wp2_with fail
        refine (HSG.out _).mono ?_
        rintro e w1 ⟨rfl, hb1⟩
        have hB1 := HB.out.trans (hb1.mono hbs)
        have hown := OwnI.same (w' := w1) HO.out fun j hj hl => hb1.block j hl
        have hbs1 := hB1.size
        have HB1 := Lib.hid hB1
        clear hb1 hB1
        go_wp2_with (at_builtin; refine wpList_appW rfl _ _ rfl w.heap.size _ Z u rfl (hown.same (fun k hk hl => Below.heap_alloc _ _ _ hl)) ⟨w1.heap.size, 0, none⟩ rfl (one_newT w1 u) (by omega) (by simp; omega) ?_)
        intro v' w5 hown' hgrow
        have HO5 := Lib.hid hown'
        have HB5 := Lib.hid ((HB1.out.alloc hbs1 _).grown hgrow (by simp; omega) (fun k hk => (hown.lt k hk).1))
        clear hown' hgrow hown
        go_wp2_with fail
        go_roundw
        case rel => exact ⟨k + 1, by omega, by go_num, Lib.hid (by rw [HTM.out]; exact HO5.out), Lib.hid (HTA.out trivial), HB5⟩
        case measure => simp [intOf]; omega
      | false =>
        go_wp2_with fail
        refine (HSG.out _).mono ?_
        rintro e w1 ⟨rfl, hb1⟩
        have HB1 := Lib.hid (HB.out.trans (hb1.mono hbs))
        clear hb1
        go_wp2_with fail
        go_ret2
        exact ⟨.inr ⟨HTB.out trivial, rfl⟩, HB1.out⟩
    · obtain rfl : k = n := by omega
      have HX : Hid (L.take k = L) := Lib.hid (List.take_of_length_le (by rw [HLN.out]; exact Nat.le_refl _))
      go_wp2_with fail
      go_ret2
      exact ⟨.inl ⟨by have := HA.out; rw [HX.out] at this; exact this, _, rfl, by have := HO.out; rw [HX.out] at this; exact this⟩, HB.out⟩

end Go.Proofs.YtpphiekbhikadaaDoor
