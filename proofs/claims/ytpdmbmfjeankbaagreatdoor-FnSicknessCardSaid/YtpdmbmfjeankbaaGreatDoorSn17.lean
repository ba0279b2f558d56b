/- Merged: SktT, Spl. -/
import Derived.Test.YtpdmbmfjeankbaaGreatDoorSn10
import Derived.Test.YtpdmbmfjeankbaaGreatDoorSn11
import Derived.Test.YtpdmbmfjeankbaaGreatDoorSn13

/- SickText of the model and of the program, and the exact law on it. (Written by wip/gen/sictx.py.) -/
namespace Go.Proofs.YtpdmbmfjeankbaaGreatDoor
open Go.ChangeShapes Go.WideShapes Go.ChangeAt Go.RowKit
set_option linter.unusedVariables false
set_option linter.unusedSimpArgs false
set_option maxRecDepth 100000

/-- the text of a table, and none of another value -/
def skT (f : Int) (xs : List Int) : List UInt8 := if skB f xs = true then jn (f :: xs) else []

theorem skT_t {f : Int} {xs : List Int} (h : skB f xs = true) : skT f xs = jn (f :: xs) := by simp [skT, h]

theorem skT_f {f : Int} {xs : List Int} (h : skB f xs = false) : skT f xs = [] := by simp [skT, h]

set_option maxRecDepth 100000 in
set_option maxHeartbeats 1000000 in
theorem sst_spec (f : Int) (xs : List Int) (a : Option Addr) (l c : Nat) (w : World) (h : Ints w a l xs) :
    Calls Tryz.prog 14 #[.agg #[.int .i64 f, .slice a l c]] w fun e w' => e = .returned (.string ⟨(skT f xs).toArray⟩) ∧ Below w.heap.size w w' := by
  have HC := Lib.hid (isS_spec f xs a l c (w.alloc (.cells #[.int .i64 f, .slice a l c] 28)) (h.on (box_b _ _)))
  have HL := Lib.hid h.len
  have H := Lib.hid h
  clear h
  by_cases h1 : skB f xs = true
  · have HT := Lib.hid (skT_t h1)
    have ht := (skB_iff _ _).1 h1
    have HN := Lib.hid ht.nums
    have hl := ht.2.1
    rw [HL.out] at hl
    obtain ⟨hl0, hl1⟩ := hl
    rw [h1] at HC
    obtain ⟨b, off, rfl, hb, hc⟩ := H.out.at (by omega)
    have HCC := Lib.hid hc
    clear h1 ht hc
    go_enter Tryz.func14, Tryz.ntmps14
    go_wp2_with fail
    refine HC.out.mono ?_
    rintro e w1 ⟨rfl, hb1⟩
    obtain ⟨hB, hc0, hc1⟩ := box2 hb1
    have HB := Lib.hid hB
    have HO := Lib.hid (ownI_lit1 w1 f)
    have HSC : Hid (∀ j u, (xs.map (Value.int .i64))[j]? = some u → (w1.alloc (.cells #[.int .i64 f] 2)).cell? ((⟨b, off, none⟩ : Addr).add j) = some u) := Lib.hid (by
      intro j u hj
      have hjl : j < l := by
        have := (List.getElem?_eq_some_iff.1 hj).1
        simpa [HL.out] using this
      rw [Go.WideShapes.add_plain, (HB.out.alloc HB.out.size _).cell (p := ⟨b, off + j, none⟩) hb, HCC.out j hjl]
      rw [List.getElem?_map, List.getElem?_eq_getElem (by rw [HL.out]; exact hjl)] at hj
      simp [List.getD, List.getElem?_eq_getElem (show j < xs.length by rw [HL.out]; exact hjl)] at hj ⊢
      exact hj)
    have hbs := HB.out.size
    have hlt0 : w.heap.size < w1.heap.size := block_lt hc0
    clear hB hb1
    go_wp2_with (at_builtin; refine wpList_apps rfl _ _ rfl w1.heap.size _ [f] xs l c rfl HO.out ⟨b, off, none⟩ rfl HL.out HSC.out (by simp; have := HL.out; omega) (by simp) ?_)
    intro v' w5 hown' hgrow
    have HO5 := Lib.hid hown'
    have HB5 := Lib.hid ((HB.out.alloc hbs _).grown hgrow (by simp; omega) (fun k hk => by have := (HO.out.lt k hk).1; omega))
    obtain ⟨a5, c5, rfl, h5⟩ := HO5.out.ints (by have := HL.out; simp; omega)
    have HI5 := Lib.hid h5
    have HLN : Hid ((f :: xs).length = l + 1) := Lib.hid (by have := HL.out; simp; omega)
    obtain ⟨n, hn⟩ : ∃ n, (f :: xs).length = n := ⟨_, rfl⟩
    rw [hn] at HI5 HLN
    (try rw [hn])
    have hn2 : n ≤ 1000 := by have := HLN.out; omega
    clear hown' hgrow h5 hn
    go_wp2_with fail
    refine (join_any (f :: xs) _ _ _ _ HI5.out HN.out hn2).mono ?_
    rintro e w6 ⟨rfl, hb6⟩
    have HB6 := Lib.hid (HB5.out.trans (hb6.mono HB5.out.size))
    clear hb6
    go_wp2_with fail
    go_ret
    exact ⟨ret_str (by rw [HT.out]), HB6.out⟩
  · have h1' : skB f xs = false := by simpa using h1
    have HT := Lib.hid (skT_f h1')
    rw [h1'] at HC
    clear h1 h1'
    go_enter Tryz.func14, Tryz.ntmps14
    go_wp2_with fail
    refine HC.out.mono ?_
    rintro e w1 ⟨rfl, hb1⟩
    obtain ⟨hB, hc0, hc1⟩ := box2 hb1
    have HB := Lib.hid hB
    clear hB hb1
    go_wp2_with fail
    go_ret
    exact ⟨ret_str (by rw [HT.out]), HB.out⟩

set_option maxHeartbeats 1000000 in
theorem ist_impl (f : Int) (xs : List Int) (a : Option Addr) (l c : Nat) (w : World) (h : Ints w a l xs) (hlc : l ≤ c) (ht : Tab w) :
    Calls Tryz.prog 10 #[.agg #[.int .i64 f, .slice a l c]] w fun e w' => e = .returned (.string ⟨(skT f xs).toArray⟩) ∧ Below w.heap.size w w' := by
  have HC := Lib.hid (isS_impl f xs a l c (w.alloc (.cells #[.int .i64 f, .slice a l c] 28)) (h.on (box_b _ _)) hlc)
  have HL := Lib.hid h.len
  have HG := Lib.hid ht.lt
  have H := Lib.hid h
  have HT := Lib.hid ht
  clear h ht
  by_cases h1 : skB f xs = true
  · have HX := Lib.hid (skT_t h1)
    have h2 := (skB_iff _ _).1 h1
    have HN := Lib.hid h2.nums
    have hl := h2.2.1
    rw [HL.out] at hl
    obtain ⟨hl0, hl1⟩ := hl
    rw [h1] at HC
    clear h1 h2
    go_enter Tryz.func10, Tryz.ntmps10
    go_wp2_with fail
    refine HC.out.mono ?_
    rintro e w1 ⟨rfl, hb1⟩
    obtain ⟨hB, hc0, hc1⟩ := box2 hb1
    have HB := Lib.hid hB
    clear hB hb1
    go_wp2_with fail
    refine (nt_any f xs _ l _ _ (H.out.on HB.out) (by have := HN.out f List.mem_cons_self; omega) (by have := HN.out f List.mem_cons_self; omega) (fun x hx => by have := HN.out x (List.mem_cons_of_mem _ hx); omega) (by omega) (HT.out.stepB HG.out HB.out)).mono ?_
    rintro e w2 ⟨rfl, hb2⟩
    have HB2 := Lib.hid (HB.out.trans (hb2.mono HB.out.size))
    clear hb2
    go_wp2_with fail
    go_ret
    exact ⟨ret_str (by rw [HX.out]), HB2.out⟩
  · have h1' : skB f xs = false := by simpa using h1
    have HX := Lib.hid (skT_f h1')
    rw [h1'] at HC
    clear h1 h1'
    go_enter Tryz.func10, Tryz.ntmps10
    go_wp2_with fail
    refine HC.out.mono ?_
    rintro e w1 ⟨rfl, hb1⟩
    obtain ⟨hB, hc0, hc1⟩ := box2 hb1
    have HB := Lib.hid hB
    clear hB hb1
    go_wp2_with fail
    go_ret
    exact ⟨ret_str (by rw [HX.out]), HB.out⟩

end Go.Proofs.YtpdmbmfjeankbaaGreatDoor

/- The model's cutting of a text into words, and its reading of words as numbers: what the calls return. -/
namespace Go.Proofs.YtpdmbmfjeankbaaGreatDoor
open Go.ChangeShapes Go.WideShapes Go.ChangeAt Go.RowKit
set_option linter.unusedVariables false
set_option maxRecDepth 100000

/-- the cutting goes on, or all words are there -/
def CutR (s : ByteArray) (W : List ByteArray) (f k : Nat) : Prop := CutAt s W f k ∨ (k = s.size + 1 ∧ f = k ∧ W.length ≤ k ∧ W.map (fun x : ByteArray => x.data.toList) = sp s.data.toList)

theorem CutR.len {s : ByteArray} {W : List ByteArray} {f k : Nat} (h : CutR s W f k) : W.length ≤ k ∧ k ≤ s.size + 1 ∧ f ≤ k := by
  rcases h with h | ⟨rfl, rfl, h, _⟩
  · exact ⟨h.len, by have := h.2.1; omega, h.1⟩
  · exact ⟨h, by omega, by omega⟩

set_option maxHeartbeats 1000000 in
theorem split_spec (s : ByteArray) (w : World) (hs : s.size ≤ 1048576) : Calls Tryz.prog 35 #[.string s, .int .u8 32] w (SplitPost s w) := by
  go_enter Tryz.func35, Tryz.ntmps35
  go_wp2_with fail
  have HO0 := Lib.hid (ownS_new w)
  go_loopw [5, 6, 7] (fun v f i wr => ∃ (W : List ByteArray) (fk k : Nat), f = .int .i64 fk ∧ i = .int .i64 k ∧ Hid (CutR s W fk k) ∧ Hid (OwnS w.heap.size wr v W) ∧ Hid (Below w.heap.size w wr)) (fun _ _ i _ => s.size + 1 - (intOf i).toNat)
  case atStart => exact ⟨[], 0, 0, rfl, rfl, Lib.hid (.inl (cut_zero s)), HO0, Lib.hid (box_b _ _)⟩
  case round =>
    obtain ⟨W, fk, k, rfl, rfl, HC, HO, HB⟩ := hrel
    obtain ⟨l0, l1, l2⟩ := HC.out.len
    have hbs := HB.out.size
    have hown := HO.out
    by_cases hk : k ≤ s.size
    · have hcut : CutAt s W fk k := by
        rcases HC.out with h | ⟨h, _⟩
        · exact h
        · omega
      clear HC
      by_cases hlt : k < s.size
      · have hkn : ((k : Int) == (s.size : Int)) = false := by simp; omega
        by_cases hc : s[k] = 32
        · have e1 : (((s[k]'hlt).toNat : Int) == 32) = true := by rw [hc]; rfl
          have HN := Lib.hid (hcut.blank hlt hc)
          clear hcut hc
          go_wp2_with (at_builtin; refine wpList_appS rfl _ _ rfl w.heap.size _ W (s.extract fk k) rfl (hown.alloc _) ⟨wr.heap.size, 0, none⟩ rfl (one_newS wr _) (by omega) (by simp; omega) ?_)
          intro v' w5 hown' hgrow
          have HO5 := Lib.hid hown'
          have HB5 := Lib.hid ((HB.out.alloc hbs _).grown hgrow (by simp; omega) (fun k hk => (hown.lt k hk).1))
          clear hown' hgrow hown HO
          go_wp2_with fail
          go_roundw
          case rel => exact ⟨_, k + 1, k + 1, by go_num, by go_num, Lib.hid (.inl HN.out), HO5, HB5⟩
          case measure => simp [intOf]; omega
        · have e1 : (((s[k]'hlt).toNat : Int) == 32) = false := by
            have : ¬ (s[k]'hlt).toNat = 32 := fun e => hc (UInt8.toNat_inj.1 e)
            simp; omega
          have HN := Lib.hid (hcut.other hlt hc)
          clear hcut hc
          go_wp2_with fail
          go_roundw
          case rel => exact ⟨_, fk, k + 1, rfl, by go_num, Lib.hid (.inl HN.out), HO, HB⟩
          case measure => simp [intOf]; omega
      · obtain rfl : k = s.size := by omega
        have hkn : ((s.size : Int) == (s.size : Int)) = true := by simp
        have HN : Hid (CutR s (W ++ [s.extract fk s.size]) (s.size + 1) (s.size + 1)) := Lib.hid (.inr ⟨rfl, rfl, by rw [List.length_append, List.length_singleton]; omega, hcut.done⟩)
        clear hcut
        go_wp2_with (at_builtin; refine wpList_appS rfl _ _ rfl w.heap.size _ W (s.extract fk s.size) rfl (hown.alloc _) ⟨wr.heap.size, 0, none⟩ rfl (one_newS wr _) (by omega) (by simp; omega) ?_)
        intro v' w5 hown' hgrow
        have HO5 := Lib.hid hown'
        have HB5 := Lib.hid ((HB.out.alloc hbs _).grown hgrow (by simp; omega) (fun k hk => (hown.lt k hk).1))
        clear hown' hgrow hown HO
        go_wp2_with fail
        go_roundw
        case rel => exact ⟨_, s.size + 1, s.size + 1, by go_num, by go_num, HN, HO5, HB5⟩
        case measure => simp [intOf]
    · have hw : W.map (fun x : ByteArray => x.data.toList) = sp s.data.toList ∧ k = s.size + 1 := by
        rcases HC.out with h | ⟨h, _, _, g⟩
        · have := h.2.1; omega
        · exact ⟨g, h⟩
      obtain ⟨hw, rfl⟩ := hw
      have hp : 0 < W.length := by
        have h1 := congrArg List.length hw
        have h2 := List.length_pos_iff.2 (sp_ne s.data.toList)
        rw [List.length_map] at h1; omega
      obtain ⟨g, c, rfl, hg, hcs⟩ := hown.cells hp
      have HCS := Lib.hid hcs
      have HW := Lib.hid hw
      clear hcs hw hown HO HC
      go_wp2_with fail
      go_ret
      exact ⟨g, c, W, rfl, HW.out, by omega, HCS.out, HB.out⟩

def NumsPost (L : List (List UInt8)) (w : World) (e : Ending) (w' : World) : Prop :=
  ((L.all sgO = true ∧ ∃ v, e = .returned (.tuple #[v, .bool true]) ∧ OwnI w.heap.size w' v (L.map sgV)) ∨ (L.all sgO = false ∧ e = .returned (.tuple #[.slice none 0 0, .bool false]))) ∧ Below w.heap.size w w'

theorem take_map_snoc {L : List (List UInt8)} {k : Nat} (h : k < L.length) : (L.take (k + 1)).map sgV = (L.take k).map sgV ++ [sgV (L.getD k [])] := by
  have e : L.getD k [] = L[k] := by simp [List.getD, h]
  rw [List.take_add_one, List.getElem?_eq_getElem h, e]
  show ((L.take k) ++ [L[k]]).map sgV = _
  rw [List.map_append]; rfl

theorem take_all_snoc {L : List (List UInt8)} {k : Nat} (h : k < L.length) (h1 : (L.take k).all sgO = true) (h2 : sgO (L.getD k []) = true) : (L.take (k + 1)).all sgO = true := by
  rw [List.take_add_one, List.getElem?_eq_getElem h, List.all_append, h1]
  simp [List.getD, h] at h2 ⊢
  exact h2

theorem all_bad {L : List (List UInt8)} {k : Nat} (h : k < L.length) (h2 : sgO (L.getD k []) = false) : L.all sgO = false := by
  rw [Bool.eq_false_iff]
  intro hh
  rw [List.all_eq_true] at hh
  have := hh (L.getD k []) (by simp [List.getD, h])
  rw [h2] at this; cases this

set_option maxHeartbeats 1000000 in
theorem nums_spec (W : List ByteArray) (L : List (List UInt8)) (hL : W.map (fun x : ByteArray => x.data.toList) = L) (g n c : Nat) (hn : W.length = n) (hn1 : n ≤ 1100000) (hz : ∀ l ∈ L, l.length ≤ 1048576) (w : World) (hgl : g < w.heap.size)
    (hc : ∀ i, i < n → w.cell? ⟨g, i, none⟩ = some (.string (W.getD i ByteArray.empty))) :
    Calls Tryz.prog 34 #[.slice (some ⟨g, 0, none⟩) n c] w (NumsPost L w) := by
  have hLn : L.length = n := by rw [← hL]; simpa using hn
  have hLg : ∀ i, i < n → (W.getD i ByteArray.empty).data.toList = L.getD i [] := by
    intro i hi
    rw [← hL]
    simp [List.getD, show i < W.length by omega]
  have HLN := Lib.hid hLn
  have HLG := Lib.hid hLg
  have HZ := Lib.hid hz
  have HC := Lib.hid hc
  clear hc hz hLg hLn hL hn
  go_enter Tryz.func34, Tryz.ntmps34
  go_wp2_with fail
  have HO0 := Lib.hid (ownI_new w)
  go_loopw [4, 5] (fun v i wr => ∃ k : Nat, k ≤ n ∧ i = .int .i64 k ∧ Hid (OwnI w.heap.size wr v ((L.take k).map sgV)) ∧ Hid ((L.take k).all sgO = true) ∧ Hid (Below w.heap.size w wr)) (fun _ i _ => n - (intOf i).toNat)
  case atStart => exact ⟨0, Nat.zero_le _, rfl, HO0, Lib.hid (by simp), Lib.hid (box_b _ _)⟩
  case round =>
    obtain ⟨k, hk, rfl, HO, HA, HB⟩ := hrel
    have hbs := HB.out.size
    by_cases hlt : k < n
    · have hx := (HB.out.cell (p := ⟨g, k, none⟩) hgl).trans (HC.out k hlt)
      have hxl := HLG.out k hlt
      have hmem : L.getD k [] ∈ L := by have := HLN.out; simp [List.getD, show k < L.length by omega]
      have hxz := HZ.out _ hmem
      have HTM := Lib.hid (take_map_snoc (L := L) (k := k) (by rw [HLN.out]; exact hlt))
      have HTA : Hid (sgO (L.getD k []) = true → (L.take (k + 1)).all sgO = true) := Lib.hid (fun h2 => take_all_snoc (by rw [HLN.out]; exact hlt) HA.out h2)
      have HTB : Hid (sgO (L.getD k []) = false → L.all sgO = false) := Lib.hid (fun h2 => all_bad (by rw [HLN.out]; exact hlt) h2)
      obtain ⟨x, hx0⟩ : ∃ x, W.getD k ByteArray.empty = x := ⟨_, rfl⟩
      rw [hx0] at hx hxl
      have hsz : x.size ≤ 1048576 := by
        have : x.data.toList.length = x.size := by simp
        rw [← this, hxl]; exact hxz
      have HSG := Lib.hid (fun W1 => sg_spec x W1 hsz)
      rw [hxl] at HSG
      obtain ⟨y, hy⟩ : ∃ y, L.getD k [] = y := ⟨_, rfl⟩
      rw [hy] at HSG HTM HTA HTB
      have hbd := sgV_bd y
      obtain ⟨u, hu⟩ : ∃ u, sgV y = u := ⟨_, rfl⟩
      obtain ⟨o, ho⟩ : ∃ o, sgO y = o := ⟨_, rfl⟩
      unfold SgPost at HSG
      rw [hu] at HSG HTM hbd
      rw [ho] at HSG HTA HTB
      obtain ⟨Z, hZ⟩ : ∃ Z, (L.take k).map sgV = Z := ⟨_, rfl⟩
      have hZl : Z.length ≤ k := by rw [← hZ]; simp; omega
      rw [hZ] at HO HTM
      clear hx0 hxl hmem hxz hy hu ho hZ
      cases o with
      | true =>
        go_wp2_with fail
        refine (HSG.out _).mono ?_
        rintro e w1 ⟨rfl, hb1⟩
        have hB1 := HB.out.trans (hb1.mono hbs)
        have hown := OwnI.same (w' := w1) HO.out fun j hj hl => hb1.block j hl
        have hbs1 := hB1.size
        have HB1 := Lib.hid hB1
        clear hb1 hB1
        go_wp2_with (at_builtin; refine wpList_appW rfl _ _ rfl w.heap.size _ Z u rfl (hown.same (fun k hk hl => Below.heap_alloc _ _ _ hl)) ⟨w1.heap.size, 0, none⟩ rfl (one_newT w1 u) (by omega) (by simp; omega) ?_)
        intro v' w5 hown' hgrow
        have HO5 := Lib.hid hown'
        have HB5 := Lib.hid ((HB1.out.alloc hbs1 _).grown hgrow (by simp; omega) (fun k hk => (hown.lt k hk).1))
        clear hown' hgrow hown
        go_wp2_with fail
        go_roundw
        case rel => exact ⟨k + 1, by omega, by go_num, Lib.hid (by rw [HTM.out]; exact HO5.out), Lib.hid (HTA.out trivial), HB5⟩
        case measure => simp [intOf]; omega
      | false =>
        go_wp2_with fail
        refine (HSG.out _).mono ?_
        rintro e w1 ⟨rfl, hb1⟩
        have HB1 := Lib.hid (HB.out.trans (hb1.mono hbs))
        clear hb1
        go_wp2_with fail
        go_ret2
        exact ⟨.inr ⟨HTB.out trivial, rfl⟩, HB1.out⟩
    · obtain rfl : k = n := by omega
      have HX : Hid (L.take k = L) := Lib.hid (List.take_of_length_le (by rw [HLN.out]; exact Nat.le_refl _))
      go_wp2_with fail
      go_ret2
      exact ⟨.inl ⟨by have := HA.out; rw [HX.out] at this; exact this, _, rfl, by have := HO.out; rw [HX.out] at this; exact this⟩, HB.out⟩

end Go.Proofs.YtpdmbmfjeankbaaGreatDoor
