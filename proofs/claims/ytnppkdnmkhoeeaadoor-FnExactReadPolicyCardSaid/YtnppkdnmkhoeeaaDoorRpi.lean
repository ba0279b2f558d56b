/- ReadPolicy of the program: what the calls return. (Written by wip/gen/rpi.py.) -/
import Derived.Test.YtnppkdnmkhoeeaaDoorRps
namespace Go.Proofs.YtnppkdnmkhoeeaaDoor
open Go.ChangeShapes Go.WideShapes Go.ChangeAt Go.RowKit
set_option linter.unusedVariables false
set_option maxRecDepth 100000

/-- a block that is an array of five numbers -/
def Ar5 (w : World) (B : Nat) (ys : List Int) : Prop := w.heap[B]? = some (.cells (ys.map (Value.int .i64)).toArray 36 (0, 0))

theorem Ar5.cell {w : World} {B : Nat} {ys : List Int} (h : Ar5 w B ys) (i : Nat) (hi : i < ys.length) : w.cell? ⟨B, i, none⟩ = some (.int .i64 (ys.getD i 0)) := by
  unfold Ar5 at h
  simp [World.cell?, h, List.getD, hi]

theorem Ar5.free {w : World} {B : Nat} {ys : List Int} (h : Ar5 w B ys) (i : Nat) : w.frozen? ⟨B, i, none⟩ = false := by
  unfold Ar5 at h
  simp [World.frozen?, h]

theorem Ar5.lt {w : World} {B : Nat} {ys : List Int} (h : Ar5 w B ys) : B < w.heap.size := by
  unfold Ar5 at h
  by_cases hb : B < w.heap.size
  · exact hb
  · have : w.heap[B]? = none := by simp; omega
    rw [this] at h; cases h

theorem Ar5.same {w w' : World} {B : Nat} {ys : List Int} (h : Ar5 w B ys) (e : w'.heap[B]? = w.heap[B]?) : Ar5 w' B ys := by
  unfold Ar5 at h ⊢; rw [e]; exact h

theorem Ar5.below {w w' : World} {B C : Nat} {ys : List Int} (h : Ar5 w B ys) (hb : Below C w w') (hC : B < C) : Ar5 w' B ys := h.same (hb.block B hC)

theorem Ar5.drewN {w : World} {B : Nat} {ys : List Int} (h : Ar5 w B ys) (n : Nat) : Ar5 (w.drewN n) B ys := h

theorem Ar5.alloc {w : World} {B : Nat} {ys : List Int} (h : Ar5 w B ys) (o : Obj) : Ar5 (w.alloc o) B ys := h.same (Below.heap_alloc _ _ _ h.lt)

theorem Ar5.set {w : World} {B : Nat} {ys : List Int} (h : Ar5 w B ys) (i : Nat) (v : Int) : Ar5 (w.setCell ⟨B, i, none⟩ (.int .i64 v)) B (ys.set i v) := by
  have hl := h.lt
  unfold Ar5 at h ⊢
  rw [Array.getElem?_eq_getElem hl] at h
  have h' : w.heap[B] = .cells (ys.map (Value.int .i64)).toArray 36 (0, 0) := by simpa using h
  show (w.heap.modify B _)[B]? = _
  rw [Array.getElem?_modify, if_pos rfl, Array.getElem?_eq_getElem hl, h']
  simp

theorem Ar5.new (w : World) (ys : List Int) : Ar5 (w.alloc (.cells (ys.map (Value.int .i64)).toArray 36)) w.heap.size ys := by
  unfold Ar5
  show (w.heap.push _)[w.heap.size]? = _
  simp

theorem idxAddr5 (B i : Nat) (hi : i < 5) (W : World) : (Instr.indexAt 36 (.pointer (some ⟨B, 0, none⟩)) (.int .i64 i)).run Tryd.prog W = .ok (.pointer (some ⟨B, i, none⟩)) W := by
  have h0 : ∀ W : World, (Instr.indexAt 36 (.pointer (some ⟨B, 0, none⟩)) (.int .i64 0)).run Tryd.prog W = .ok (.pointer (some ⟨B, 0, none⟩)) W := fun _ => by kernel_rfl
  have h1 : ∀ W : World, (Instr.indexAt 36 (.pointer (some ⟨B, 0, none⟩)) (.int .i64 1)).run Tryd.prog W = .ok (.pointer (some ⟨B, 1, none⟩)) W := fun _ => by kernel_rfl
  have h2 : ∀ W : World, (Instr.indexAt 36 (.pointer (some ⟨B, 0, none⟩)) (.int .i64 2)).run Tryd.prog W = .ok (.pointer (some ⟨B, 2, none⟩)) W := fun _ => by kernel_rfl
  have h3 : ∀ W : World, (Instr.indexAt 36 (.pointer (some ⟨B, 0, none⟩)) (.int .i64 3)).run Tryd.prog W = .ok (.pointer (some ⟨B, 3, none⟩)) W := fun _ => by kernel_rfl
  have h4 : ∀ W : World, (Instr.indexAt 36 (.pointer (some ⟨B, 0, none⟩)) (.int .i64 4)).run Tryd.prog W = .ok (.pointer (some ⟨B, 4, none⟩)) W := fun _ => by kernel_rfl
  match i, hi with
  | 0, _ => exact h0 W
  | 1, _ => exact h1 W
  | 2, _ => exact h2 W
  | 3, _ => exact h3 W
  | 4, _ => exact h4 W

theorem po5_any (a0 a1 a2 a3 a4 : Int) (w : World) : Calls Tryd.prog 21 #[.agg #[.int .i64 a0, .int .i64 a1, .int .i64 a2, .int .i64 a3, .int .i64 a4]] w fun e w' => e = .returned (.agg #[.int .i64 a0, .int .i64 a1, .int .i64 a2, .int .i64 a3, .int .i64 a4]) ∧ Below w.heap.size w w' := by
  have hs : (w.alloc (.cells #[.int .i64 a0, .int .i64 a1, .int .i64 a2, .int .i64 a3, .int .i64 a4] 36)).heap.size = w.heap.size + 1 := by simp
  have i0 : ∀ W : World, (Instr.indexAt 36 (.pointer (some ⟨w.heap.size, 0, none⟩)) (.int .i64 0)).run Tryd.prog W = .ok (.pointer (some ⟨w.heap.size, 0, none⟩)) W := fun W => idxAddr5 w.heap.size 0 (by omega) W
  have i1 : ∀ W : World, (Instr.indexAt 36 (.pointer (some ⟨w.heap.size, 0, none⟩)) (.int .i64 1)).run Tryd.prog W = .ok (.pointer (some ⟨w.heap.size, 1, none⟩)) W := fun W => idxAddr5 w.heap.size 1 (by omega) W
  have i2 : ∀ W : World, (Instr.indexAt 36 (.pointer (some ⟨w.heap.size, 0, none⟩)) (.int .i64 2)).run Tryd.prog W = .ok (.pointer (some ⟨w.heap.size, 2, none⟩)) W := fun W => idxAddr5 w.heap.size 2 (by omega) W
  have i3 : ∀ W : World, (Instr.indexAt 36 (.pointer (some ⟨w.heap.size, 0, none⟩)) (.int .i64 3)).run Tryd.prog W = .ok (.pointer (some ⟨w.heap.size, 3, none⟩)) W := fun W => idxAddr5 w.heap.size 3 (by omega) W
  have i4 : ∀ W : World, (Instr.indexAt 36 (.pointer (some ⟨w.heap.size, 0, none⟩)) (.int .i64 4)).run Tryd.prog W = .ok (.pointer (some ⟨w.heap.size, 4, none⟩)) W := fun W => idxAddr5 w.heap.size 4 (by omega) W
  go_enter Tryd.func21, Tryd.ntmps21
  go_wp2_with fail
  exact bodyPost_ret (v := .agg #[.int .i64 a0, .int .i64 a1, .int .i64 a2, .int .i64 a3, .int .i64 a4]) (results_cell_row rfl _ _ (w.heap.size + 1) 25 #[.int .i64 a0, .int .i64 a1, .int .i64 a2, .int .i64 a3, .int .i64 a4] (0, 0) _ rfl (by rw [← hs]; exact heap_alloc_new _ _) Tryd.underlying25 rfl (by kernel_rfl)) rfl ⟨rfl, (box_b _ _).trans ((box_b _ _).mono (by simp))⟩

set_option maxHeartbeats 2000000 in
theorem rp_impl (s : ByteArray) (w : World) (hs : s.size ≤ 1048576) (ha : AskT w) : Calls Tryd.prog 9 #[.string s] w (RpPost s.data.toList w) := by
  have HA := Lib.hid ha
  have hsz : s.data.toList.length = s.size := by simp
  have hsh := spC_short s.data.toList
  have hwl := wdsC_len s
  have hb00 := box_b w (.cells #[.int .i64 0, .int .i64 0, .int .i64 0, .int .i64 0, .int .i64 0] 25)
  have hs00 : (w.alloc (.cells #[.int .i64 0, .int .i64 0, .int .i64 0, .int .i64 0, .int .i64 0] 25)).heap.size = w.heap.size + 1 := by simp
  have hX0 := BxT.new w [.int .i64 0, .int .i64 0, .int .i64 0, .int .i64 0, .int .i64 0] 25
  have HSP := Lib.hid (Tryd.strings_Split_shaped s ⟨#[44]⟩ (w.alloc (.cells #[.int .i64 0, .int .i64 0, .int .i64 0, .int .i64 0, .int .i64 0] 25)) (ha.ask.step hb00).shape (by omega) (by decide))
  have HW := Lib.hid (wdsC_get s)
  have hnew := StrB.new (w.alloc (.cells #[.int .i64 0, .int .i64 0, .int .i64 0, .int .i64 0, .int .i64 0] 25)) (wdsC s)
  have hww : wdsC s = Lib.splitB ⟨#[44]⟩ 0 (Lib.countB s ⟨#[44]⟩) s := rfl
  rw [← hww] at HSP
  have hmap := wdsC_sp s
  have hjs : Hid (∀ x, (x == s.toList) = (x == s.data.toList)) := Lib.hid (fun x => by rw [toList_eq])
  obtain ⟨l, hl⟩ : ∃ l, s.data.toList = l := ⟨_, rfl⟩
  obtain ⟨D, hD⟩ : ∃ D, wdsC s = D := ⟨_, rfl⟩
  obtain ⟨n, hn⟩ : ∃ n, Lib.countB s ⟨#[44]⟩ + 1 = n := ⟨_, rfl⟩
  rw [hl] at hsz hsh HW hmap hjs ⊢
  rw [hD] at hwl HW hnew HSP hmap
  rw [hn] at hwl HSP
  have hLn : (spC l).length = n := by rw [← hmap]; simpa using hwl
  have hvl : (vals (spC l)).length = n := by rw [vals_len]; exact hLn
  have hn1 : n ≤ 1100000 := by have := hsh.1; omega
  have HNO : Hid (n ≠ 5 → rpM l = false) := Lib.hid (fun h => by rw [rp_eq]; unfold rpI; rw [hLn]; simp [h])
  obtain ⟨xs, hxs⟩ : ∃ xs, vals (spC l) = xs := ⟨_, rfl⟩
  have HRO : Hid (n = 5 → rpM l = (allP (spC l) && (ptT (xs.getD 0 0) (xs.getD 1 0) (xs.getD 2 0) (xs.getD 3 0) (xs.getD 4 0) == l))) := Lib.hid (fun h => by rw [rp_eq]; unfold rpI; rw [hLn, hxs]; simp [h])
  have HRA : Hid (rpM l = true → rpA l = #[.int .i64 (xs.getD 0 0), .int .i64 (xs.getD 1 0), .int .i64 (xs.getD 2 0), .int .i64 (xs.getD 3 0), .int .i64 (xs.getD 4 0)]) := Lib.hid (fun h => by rw [rpA_t h, (ip_mp (by rw [← rp_eq]; exact h)).2, hxs])
  have HVG : Hid (∀ k, k < n → ∀ v, pv ((spC l).getD k []) = some v → xs.getD k 0 = v) := Lib.hid (fun k hk v hv => by rw [← hxs]; exact vals_get _ k (by omega) v hv)
  rw [hxs] at hvl
  have HPT : Hid ((∀ j, j < n → (pv ((spC l).getD j [])).isSome = true) → allP (spC l) = true) := Lib.hid (fun h => allP_t (fun j hj => h j (by omega)))
  have HPF : Hid (∀ k, k < n → pv ((spC l).getD k []) = none → allP (spC l) = false) := Lib.hid (fun k hk h => allP_f (by omega) h)
  have HXL := Lib.hid hvl
  have hsx : ∀ k, k < n → (D.getD k ByteArray.empty).size ≤ 281474976710656 := by
    intro k hk
    have e := HW.out k (by omega)
    have h1 : (D.getD k ByteArray.empty).data.toList.length = (D.getD k ByteArray.empty).size := by simp
    rw [← h1, e]
    have : (spC l).getD k [] ∈ spC l := by simp [List.getD, show k < (spC l).length by omega]
    have := hsh.2 _ this
    omega
  have HSX := Lib.hid hsx
  have hb1 := box_b (w.alloc (.cells #[.int .i64 0, .int .i64 0, .int .i64 0, .int .i64 0, .int .i64 0] 25)) (.cells (D.map Value.string).toArray 9)
  have hX1 := hX0.on hb1
  have hb0 := hb00.trans (hb1.mono (by omega))
  have hs1 : ((w.alloc (.cells #[.int .i64 0, .int .i64 0, .int .i64 0, .int .i64 0, .int .i64 0] 25)).alloc (.cells (D.map Value.string).toArray 9)).heap.size = w.heap.size + 1 + 1 := by simp
  rw [hs00] at HSP hnew
  generalize (w.alloc (.cells #[.int .i64 0, .int .i64 0, .int .i64 0, .int .i64 0, .int .i64 0] 25)).alloc (.cells (D.map Value.string).toArray 9) = w1 at HSP hnew hb0 hX1 hs1
  have HB0 := Lib.hid hb0
  have HNW := Lib.hid hnew
  have HS0 := Lib.hid hs1
  have HDL := Lib.hid hwl
  have HX1 := Lib.hid hX1
  clear hnew hb0 hb1 hb00 hs00 hs1 hX0 hX1 hsx hvl hxs hmap hww hn hD hwl ha hl hLn
  by_cases h5 : n = 5
  · subst h5
    go_enter Tryd.func9, Tryd.ntmps9
    go_wp2_with fail
    refine HSP.out.mono ?_
    rintro e w2 ⟨rfl, rfl⟩
    go_wp2_with fail
    have HZ : Hid (Ar5 (w2.alloc (.cells #[.int .i64 0, .int .i64 0, .int .i64 0, .int .i64 0, .int .i64 0] 36)) w2.heap.size [0, 0, 0, 0, 0]) := Lib.hid (Ar5.new w2 [0, 0, 0, 0, 0])
    clear HSP
    go_loopw [19] (fun i wr => ∃ k : Nat, k ≤ 5 ∧ i = .int .i64 k ∧ Hid (Ar5 wr w2.heap.size (xs.take k ++ List.replicate (xs.length - k) 0)) ∧ Hid (∀ j, j < k → (pv ((spC l).getD j [])).isSome = true) ∧ Hid (Below w2.heap.size w2 wr)) (fun i _ => 5 - (intOf i).toNat)
    case atStart => exact ⟨0, Nat.zero_le _, rfl, Lib.hid (by have := HZ.out; rw [HXL.out]; exact this), Lib.hid (fun j hj => by omega), Lib.hid (box_b _ _)⟩
    case round =>
      obtain ⟨k, hk, rfl, HK, HP, HB⟩ := hrel
      have hB : Below w.heap.size w wr := HB0.out.trans (HB.out.mono HB0.out.size)
      have HBW := Lib.hid hB
      have hs2 : w.heap.size + 1 < w2.heap.size := by have := HS0.out; omega
      have hsw : w2.heap.size ≤ wr.heap.size := HB.out.size
      by_cases hlt : k < 5
      · have hx := (HB.out.cell (p := ⟨w.heap.size + 1, k, none⟩) hs2).trans (HNW.out.cell k (by rw [HDL.out]; exact hlt))
        have hxl := HW.out k (by rw [HDL.out]; exact hlt)
        have hxs := HSX.out k hlt
        have HVK := Lib.hid (HVG.out k hlt)
        have HFK := Lib.hid (HPF.out k hlt)
        have hia := idxAddr5 w2.heap.size k hlt
        obtain ⟨x, hx0⟩ : ∃ x, D.getD k ByteArray.empty = x := ⟨_, rfl⟩
        rw [hx0] at hx hxl hxs
        have HPA := Lib.hid (parse_all x wr hxs (HA.out.ask.step hB))
        unfold ParsePost at HPA
        rw [hxl] at HPA
        clear hx0 hxl hxs hB
        go_wp2_with fail
        refine HPA.out.mono ?_
        rintro e w3 ⟨hres, hb3⟩
        have hbk := HK.out.below hb3 (by have := HK.out.lt; exact this)
        have hB3 := HB.out.trans (hb3.mono hsw)
        have HB3 := Lib.hid hB3
        have HBX := Lib.hid (HBW.out.trans (hb3.mono HBW.out.size))
        have hy := hbk.cell k (by simp; have := HXL.out; omega)
        have hf := hbk.free k
        obtain ⟨u, hu⟩ : ∃ u, (xs.take k ++ List.replicate (xs.length - k) 0).getD k 0 = u := ⟨_, rfl⟩
        rw [hu] at hy
        have HBK := Lib.hid hbk
        have HX3 := Lib.hid (HX1.out.on hB3)
        clear hu hbk hB3 hb3 HPA hx
        rcases hres with ⟨v, hv, rfl⟩ | ⟨hv, v, N, rfl⟩
        · have HV := Lib.hid (HVK.out v (pv_ok hv))
          have HVS := Lib.hid (pv_ok hv)
          clear hv HX3
          go_wp2_with fail
          go_roundw
          case rel => exact ⟨k + 1, by omega, by go_num, Lib.hid (by have := HBK.out.set k v; rw [← HV.out, set_step xs k (by rw [HXL.out]; exact hlt), HV.out] at this; exact this), Lib.hid (fun j hj => by
            by_cases e : j = k
            · subst e; rw [HVS.out]; rfl
            · exact HP.out j (by omega)), Lib.hid (HB3.out.setCell (p := ⟨w2.heap.size, k, none⟩) (Nat.le_refl _) _)⟩
          case measure => simp [intOf]; omega
        · have HR : Hid (rpM l = false) := Lib.hid (by rw [HRO.out (by first | rfl | trivial), HFK.out (pv_no hv)]; rfl)
          obtain ⟨d0, d1, d2, d3, d4⟩ := HX3.out.fiveT
          have p0 := HX3.out.free 0
          have p1 := HX3.out.free 1
          have p2 := HX3.out.free 2
          have p3 := HX3.out.free 3
          have p4 := HX3.out.free 4
          clear hv hy hf hia
          go_wp2_with fail
          exact bodyPost_ret (v := .tuple #[.agg #[.int .i64 0, .int .i64 0, .int .i64 0, .int .i64 0, .int .i64 0], .bool false]) (by simp [results, Tryd.results9, go_sem, d0, d1, d2, d3, d4]) rfl (RpPost.bad rfl HR.out HBX.out _ _ _ _ _)
      · obtain rfl : k = 5 := by omega
        have hbk := HK.out
        rw [HXL.out, Nat.sub_self, List.replicate_zero, List.append_nil, List.take_of_length_le (by rw [HXL.out]; exact Nat.le_refl _), ← five xs HXL.out] at hbk
        have hall := HPT.out HP.out
        have hro := HRO.out (by first | rfl | trivial)
        rw [hall, Bool.true_and] at hro
        have HRA2 := HRA.out
        obtain ⟨a0, q0⟩ : ∃ a, xs.getD 0 0 = a := ⟨_, rfl⟩
        obtain ⟨a1, q1⟩ : ∃ a, xs.getD 1 0 = a := ⟨_, rfl⟩
        obtain ⟨a2, q2⟩ : ∃ a, xs.getD 2 0 = a := ⟨_, rfl⟩
        obtain ⟨a3, q3⟩ : ∃ a, xs.getD 3 0 = a := ⟨_, rfl⟩
        obtain ⟨a4, q4⟩ : ∃ a, xs.getD 4 0 = a := ⟨_, rfl⟩
        rw [q0, q1, q2, q3, q4] at hbk hro HRA2
        have hrow : wr.heap[w2.heap.size]? = some (.cells #[.int .i64 a0, .int .i64 a1, .int .i64 a2, .int .i64 a3, .int .i64 a4] 36 (0, 0)) := hbk
        have HRW := Lib.hid hro
        have HRB := Lib.hid HRA2
        have HX4 := Lib.hid (HX1.out.on HB.out)
        have HTB := Lib.hid (HA.out.step hB).tab
        clear hbk hro HRA2 hall q0 q1 q2 q3 q4 HP HK HRO HRA HVG HPT HPF HSX HW hB hsh
        go_wp2_with (refine wpList_load_row rfl 36 (.tmp 5) rfl w2.heap.size rfl 36 #[.int .i64 a0, .int .i64 a1, .int .i64 a2, .int .i64 a3, .int .i64 a4] (0, 0) _ hrow und5 rfl (by kernel_rfl) ?_)
        refine (po5_any a0 a1 a2 a3 a4 _).mono ?_
        rintro e w4 ⟨rfl, hb4⟩
        have HB4 := Lib.hid (HBW.out.trans (hb4.mono HBW.out.size))
        have HX5 := Lib.hid (HX4.out.on hb4)
        have HT4 := Lib.hid (HTB.out.stepB HTB.out.lt hb4)
        clear hb4 hrow HX4 HTB
        go_wp2_with fail
        refine (pt_impl a0 a1 a2 a3 a4 _ (HT4.out.stepB HT4.out.lt (box_b _ _))).mono ?_
        rintro e w5 ⟨rfl, hb5⟩
        obtain ⟨hB5, k0, k1, k2, k3, k4⟩ := box5T hb5
        have HB5 := Lib.hid (HB4.out.trans (hB5.mono HB4.out.size))
        have HX6 := Lib.hid (HX5.out.on hB5)
        obtain ⟨d0, d1, d2, d3, d4⟩ := HX6.out.fiveT
        have p0 := HX6.out.free 0
        have p1 := HX6.out.free 1
        have p2 := HX6.out.free 2
        have p3 := HX6.out.free 3
        have p4 := HX6.out.free 4
        have hne : (w4.heap.size : Nat) ≠ w.heap.size := by have := HX5.out.lt; omega
        have hj := hjs.out (ptT a0 a1 a2 a3 a4)
        clear hb5 hB5 HX5 HT4 HB4
        obtain ⟨Y, hY⟩ : ∃ Y, ptT a0 a1 a2 a3 a4 = Y := ⟨_, rfl⟩
        rw [hY] at hj HRW ⊢
        clear hY
        cases hq : (Y == l) with
        | true =>
          rw [hq] at hj
          have HR : Hid (rpM l = true) := Lib.hid (by rw [HRW.out, hq])
          clear hq
          go_wp2_with fail
          exact bodyPost_ret (v := .tuple #[.agg #[.int .i64 a0, .int .i64 a1, .int .i64 a2, .int .i64 a3, .int .i64 a4], .bool true]) (by simp [results, Tryd.results9, go_sem, d0, d1, d2, d3, d4]) rfl (RpPost.good rfl HR.out (HRB.out HR.out) HB5.out _ _ _ _ _)
        | false =>
          rw [hq] at hj
          have HR : Hid (rpM l = false) := Lib.hid (by rw [HRW.out, hq])
          clear hq
          go_wp2_with fail
          exact bodyPost_ret (v := .tuple #[.agg #[.int .i64 0, .int .i64 0, .int .i64 0, .int .i64 0, .int .i64 0], .bool false]) (by simp [results, Tryd.results9, go_sem, d0, d1, d2, d3, d4]) rfl (RpPost.bad rfl HR.out HB5.out _ _ _ _ _)
  · have HR := Lib.hid (HNO.out h5)
    have hn5 : ¬ (n : Int) = 5 := by omega
    obtain ⟨d0, d1, d2, d3, d4⟩ := HX1.out.fiveT
    have p0 := HX1.out.free 0
    have p1 := HX1.out.free 1
    have p2 := HX1.out.free 2
    have p3 := HX1.out.free 3
    have p4 := HX1.out.free 4
    go_enter Tryd.func9, Tryd.ntmps9
    go_wp2_with fail
    refine HSP.out.mono ?_
    rintro e w2 ⟨rfl, rfl⟩
    go_wp2_with fail
    exact bodyPost_ret (v := .tuple #[.agg #[.int .i64 0, .int .i64 0, .int .i64 0, .int .i64 0, .int .i64 0], .bool false]) (by simp [results, Tryd.results9, go_sem, d0, d1, d2, d3, d4]) rfl (RpPost.bad rfl HR.out HB0.out _ _ _ _ _)

end Go.Proofs.YtnppkdnmkhoeeaaDoor
