/- MakeTable of the program: what the calls return. -/
import Derived.Test.YtonkaoacohocjaaApp
import Derived.Test.YtonkaoacohocjaaTabG
namespace Go.Proofs.Ytonkaoacohocjaa
open Go.ChangeShapes Go.WideShapes Go.ChangeAt Go.RowKit
set_option linter.unusedVariables false

theorem one_newT (w : World) (x : Int) : ∀ j u, [Value.int .i64 x][j]? = some u → (w.alloc (.cells #[.int .i64 x] 2)).cell? ((⟨w.heap.size, 0, none⟩ : Addr).add j) = some u := by
  intro j u hj
  match j, hj with
  | 0, hj => simp at hj; subst hj; simp [Addr.add]

theorem ownI_one (w : World) (x : Int) : OwnI w.heap.size (w.alloc (.cells #[.int .i64 x] 2)) (.slice (some ⟨w.heap.size, 0, none⟩) 1 1) [x] :=
  World.ownsRow_lit w #[.int .i64 x] 1 (Nat.le_refl _) (by unfold maxLen; omega) rfl

/-- cells of a block that may be written -/
structure RowI (w : World) (g off : Nat) (ys : List Int) : Prop where
  cell : ∀ i, i < ys.length → w.cell? ⟨g, off + i, none⟩ = some (.int .i64 (ys.getD i 0))
  free : ∀ i, i < ys.length → w.frozen? ⟨g, off + i, none⟩ = false

theorem RowI.below {w w1 : World} {g off B : Nat} {ys : List Int} (h : RowI w g off ys) (hb : Below B w w1) (hg : g < B) : RowI w1 g off ys :=
  ⟨fun i hi => (hb.cell (p := ⟨g, off + i, none⟩) hg).trans (h.cell i hi), fun i hi => (hb.frozen (p := ⟨g, off + i, none⟩) hg).trans (h.free i hi)⟩

theorem RowI.lt {w : World} {g off : Nat} {ys : List Int} (h : RowI w g off ys) (hl : 0 < ys.length) : g < w.heap.size := block_lt (h.cell 0 hl)

theorem RowI.on {w w1 : World} {g off : Nat} {ys : List Int} (h : RowI w g off ys) (hb : Below w.heap.size w w1) : RowI w1 g off ys := by
  by_cases hl : 0 < ys.length
  · exact h.below hb (h.lt hl)
  · exact ⟨fun i hi => by omega, fun i hi => by omega⟩

theorem RowI.only {w w1 : World} {g off B : Nat} {ys : List Int} (h : RowI w g off ys) (hb : Only B w w1) (hg : g ≠ B) : RowI w1 g off ys :=
  ⟨fun i hi => (hb.cell (p := ⟨g, off + i, none⟩) hg).trans (h.cell i hi), fun i hi => (hb.frozen (p := ⟨g, off + i, none⟩) hg).trans (h.free i hi)⟩

theorem RowI.ints {w : World} {g off l : Nat} {ys : List Int} (h : RowI w g off ys) (hl : ys.length = l) (hm : l ≤ 4611686018427387904) : Ints w (some ⟨g, off, none⟩) l ys :=
  ⟨hl, hm, .inr ⟨g, off, rfl, fun i hi => h.cell i (by omega)⟩⟩

theorem OwnI.row {base g c : Nat} {w : World} {xs : List Int} (h : OwnI base w (.slice (some ⟨g, 0, none⟩) xs.length c) xs) : RowI w g 0 xs := by
  have hh := h
  obtain ⟨_, h0 | ⟨g', cap, cur, hv, _, hb, _⟩⟩ := h
  · exact absurd h0.1 (by simp)
  · simp only [Value.slice.injEq, Option.some.injEq, Addr.mk.injEq] at hv
    obtain ⟨⟨rfl, _⟩, _⟩ := hv
    refine ⟨fun i hi => ?_, fun i _ => frozen_of_row w _ _ _ _ hb⟩
    rw [Nat.zero_add, hh.cellAt i (by omega)]
    simp [List.getD, hi]

/-- a list that a call has made: where it lies, what it holds -/
def Made (w : World) (xs : List Int) (v : Value) (w' : World) : Prop := ∃ g c, v = .slice (some ⟨g, 0, none⟩) xs.length c ∧ xs.length ≤ c ∧ w.heap.size ≤ g ∧ RowI w' g 0 xs ∧ Below w.heap.size w w'

theorem OwnI.made {w w' : World} {v : Value} {xs : List Int} (h : OwnI w.heap.size w' v xs) (hb : Below w.heap.size w w') (hl : 0 < xs.length) : Made w xs v w' := by
  have hh := h
  obtain ⟨_, ⟨rfl, h0⟩ | ⟨g, cap, cur, rfl, hg, hc, hn, hcap, _⟩⟩ := h
  · omega
  · exact ⟨g, cap, rfl, hn, hg, hh.row, hb⟩

/-- rates of a table -/
def rtB (rs : List Int) : Bool := rs.all fun r => inB r 0 1000

theorem rtB_iff (rs : List Int) : rtB rs = true ↔ ∀ r ∈ rs, 0 ≤ r ∧ r ≤ 1000 := by
  unfold rtB; rw [List.all_eq_true]
  exact ⟨fun h r hr => (inB_iff _ _ _).1 (h r hr), fun h r hr => (inB_iff _ _ _).2 (h r hr)⟩

theorem du_1000 (a : Int) (h0 : 0 ≤ a) (h1 : a ≤ 1000000000) : duV a 1000 = up1000 a := by
  have : ddB a 1000 = true := (ddB_iff _ _).2 (by omega)
  simp [duV, this, up1000]

set_option maxRecDepth 100000 in
set_option maxHeartbeats 1000000 in
theorem lr_impl (L : Int) (rs : List Int) (a : Option Addr) (l c : Nat) (w : World) (h : Ints w a l rs) (hl : l ≤ 118) (h0 : 1 ≤ L) (h1 : L ≤ 1000000) (hr : ∀ r ∈ rs, 0 ≤ r ∧ r ≤ 1000) :
    Calls Try.prog 56 #[.int .i64 L, .slice a l c] w fun e w' => ∃ v, e = .returned v ∧ Made w (mkL L rs) v w' := by
  have HL := Lib.hid h.len
  have H := Lib.hid h
  have HRR := Lib.hid hr
  have HLN := Lib.hid (mkL_len rs L)
  have HLT := Lib.hid h.lt
  obtain ⟨i0, hi, hz0, hz1, hz2⟩ := info_parts infoI
  clear h hr
  go_enter Try.func56, Try.ntmps56
  go_wp2_with fail
  have HO0 := Lib.hid (ownI_one w L)
  go_loopw [0, 5, 14] (fun s v i wr => ∃ (k : Nat) (cur : Int) (pre : List Int), k ≤ l ∧ i = .int .i64 k ∧ s = .int .i64 cur ∧ 1 ≤ cur ∧ cur ≤ 1000000 ∧ pre.length = k ∧ Hid (pre ++ mkL cur (rs.drop k) = mkL L rs) ∧ Hid (OwnI w.heap.size wr v (pre ++ [cur])) ∧ Hid (Below w.heap.size w wr)) (fun _ _ i _ => l - (intOf i).toNat)
  case atStart => exact ⟨0, L, [], Nat.zero_le _, rfl, rfl, h0, h1, rfl, Lib.hid (by simp), HO0, Lib.hid (box_b _ _)⟩
  case round =>
    obtain ⟨k, cur, pre, hk, rfl, rfl, hc0, hc1, hpl, HM, HO, HB⟩ := hrel
    have hown := HO.out
    have hbs := HB.out.size
    have hl1 : (pre ++ [cur]).length ≤ 4096 := by simp; omega
    by_cases hlt : k < l
    · obtain ⟨b, off, rfl, hb, hcell⟩ := H.out.at (by omega)
      have hx := (HB.out.cell (p := ⟨b, off + k, none⟩) hb).trans (hcell k hlt)
      have hrk := HRR.out (rs.getD k 0) (by have := HL.out; rw [List.getD_eq_getElem?_getD, List.getElem?_eq_getElem (by omega)]; exact List.getElem_mem _)
      have HSP := Lib.hid (fun hh => mkL_split rs L cur pre k HM.out (by rw [HL.out]; exact hlt) hh)
      obtain ⟨r, hr0⟩ : ∃ r, rs.getD k 0 = r := ⟨_, rfl⟩
      rw [hr0] at hx hrk HSP
      obtain ⟨r0, r1⟩ := hrk
      obtain ⟨m0, m1⟩ := mul_bd cur r (by omega) hc1 r0 r1
      obtain ⟨u0, u1⟩ := up_bd cur r (by omega) r0 r1
      have HDU := Lib.hid (fun w => du_impl (cur * r) 1000 w)
      have hdu := du_1000 (cur * r) m0 m1
      rw [hdu] at HDU
      obtain ⟨m, hm⟩ : ∃ m, cur * r = m := ⟨_, rfl⟩
      rw [hm] at HDU HSP m0 m1 u0 u1
      obtain ⟨u, hu⟩ : ∃ u, up1000 m = u := ⟨_, rfl⟩
      rw [hu] at HDU HSP u0 u1
      have q1 : IntKind.i64.wrap (cur * r) = m := by rw [hm]; exact IntWalk.i64_in _ (by omega)
      have HS2 := Lib.hid (HSP.out (by omega))
      have HST : Hid (cur - u = 0 → (pre ++ [cur]) ++ [0] = mkL L rs) := Lib.hid (fun e => by rw [← HS2.out, e, mkL_stop])
      have hx' : wr.cell? ⟨b, off + k, none⟩ = some (.int .i64 r) := hx
      clear hr0 hdu hu hcell HSP hx hm
      have hd0 : 0 ≤ cur - u := by omega
      have hd1 : cur - u ≤ 1000000 := by omega
      by_cases hz : cur - u = 0
      · obtain rfl : u = cur := by omega
        have hz' : ((u - u) == 0) = true := by simp
        have hss : u - u = 0 := by omega
        go_wp2_with fail
        refine (HDU.out _).mono ?_
        rintro e w' ⟨rfl, rfl⟩
        go_wp2_with (at_builtin; refine wpList_app rfl _ _ rfl w.heap.size _ (pre ++ [u]) 0 rfl (hown.same (fun k hk hl => Below.heap_alloc _ _ _ hl)) ⟨wr.heap.size, 0, none⟩ rfl (one_newT wr 0) hl1 (by simp; omega) ?_)
        intro v' w5 hown' hgrow _
        have HO5 := Lib.hid hown'
        have HB5 := Lib.hid ((HB.out.alloc hbs _).grown hgrow (by simp; omega) (fun k hk => (hown.lt k hk).1))
        have HE := Lib.hid (HST.out (by omega))
        clear hown' hgrow hown
        go_wp2_with fail
        go_ret
        have h5 := HO5.out
        have he := HE.out
        simp only [List.append_assoc, List.cons_append, List.nil_append] at h5 he
        rw [he] at h5
        exact ⟨_, rfl, h5.made HB5.out (by have := HLN.out.1; omega)⟩
      · have hz' : ((cur - u) == 0) = false := by simpa using hz
        have hzp : 1 ≤ cur - u := by omega
        clear hz
        go_wp2_with fail
        refine (HDU.out _).mono ?_
        rintro e w' ⟨rfl, rfl⟩
        go_wp2_with (at_builtin; refine wpList_app rfl _ _ rfl w.heap.size _ (pre ++ [cur]) (cur - u) rfl (hown.same (fun k hk hl => Below.heap_alloc _ _ _ hl)) ⟨wr.heap.size, 0, none⟩ rfl (one_newT wr (cur - u)) hl1 (by simp; omega) ?_)
        intro v' w5 hown' hgrow _
        have HO5 := Lib.hid hown'
        have HB5 := Lib.hid ((HB.out.alloc hbs _).grown hgrow (by simp; omega) (fun k hk => (hown.lt k hk).1))
        clear hown' hgrow hown
        go_wp2_with fail
        go_roundw
        case rel => exact ⟨k + 1, cur - u, pre ++ [cur], by omega, by go_num, rfl, hzp, hd1, by simp; omega, HS2, Lib.hid (by have := HO5.out; simpa using this), HB5⟩
        case measure => simp [intOf]; omega
    · obtain rfl : k = l := by omega
      have HE : Hid ((pre ++ [cur]) ++ [0] = mkL L rs) := Lib.hid (by
        rw [← HM.out, List.drop_of_length_le (by rw [HL.out]; exact Nat.le_refl _), mkL, if_pos (by omega)]; simp)
      go_wp2_with (at_builtin; refine wpList_app rfl _ _ rfl w.heap.size _ (pre ++ [cur]) 0 rfl (hown.same (fun k hk hl => Below.heap_alloc _ _ _ hl)) ⟨wr.heap.size, 0, none⟩ rfl (one_newT wr 0) hl1 (by simp; omega) ?_)
      intro v' w5 hown' hgrow _
      have HO5 := Lib.hid hown'
      have HB5 := Lib.hid ((HB.out.alloc hbs _).grown hgrow (by simp; omega) (fun k hk => (hown.lt k hk).1))
      clear hown' hgrow hown
      go_wp2_with fail
      go_ret
      have h5 := HO5.out
      have he := HE.out
      simp only [List.append_assoc, List.cons_append, List.nil_append] at h5 he
      rw [he] at h5
      exact ⟨_, rfl, h5.made HB5.out (by have := HLN.out.1; omega)⟩

end Go.Proofs.Ytonkaoacohocjaa
