/- Merged: RtS, RnI, SktR, SnA, SnR. -/
import Derived.Test.YtpdmbmfjeankbaaGreatDoorSn9
import Derived.Test.YtpdmbmfjeankbaaGreatDoorSn10
import Derived.Test.YtpdmbmfjeankbaaGreatDoorSn14
import Derived.Test.YtpdmbmfjeankbaaGreatDoorSn15
import Derived.Test.YtpdmbmfjeankbaaGreatDoorSn17
import Derived.Test.YtpdmbmfjeankbaaGreatDoorSn18
import Derived.Test.YtpdmbmfjeankbaaGreatDoorSn20

/- ReadTable of the model: what the calls return. -/
namespace Go.Proofs.YtpdmbmfjeankbaaGreatDoor
open Go.ChangeShapes Go.WideShapes Go.ChangeAt Go.RowKit
set_option linter.unusedVariables false
set_option maxRecDepth 100000

/-- what ReadTable hands over: its first age, its lives -/
def trF (l : List UInt8) : Int := if rtO l = true then rnF l else 0

def trY (l : List UInt8) : List Int := if rtO l = true then rnL l else []

def TrPost (l : List UInt8) (w : World) (e : Ending) (w' : World) : Prop :=
  ∃ a n c, e = .returned (.tuple #[.agg #[.int .i64 (trF l), .slice a n c], .bool (rtO l)]) ∧ n ≤ c ∧ TbR w.heap.size w' a n (trY l) ∧ Below w.heap.size w w'

theorem TrPost.bad {l : List UInt8} {w w' : World} (h : rtO l = false) (hb : Below w.heap.size w w') : TrPost l w (.returned (.tuple #[.agg #[.int .i64 0, .slice none 0 0], .bool false])) w' :=
  ⟨none, 0, 0, by simp [trF, h], Nat.le_refl _, ⟨by simp [trY, h], by omega, .inl ⟨rfl, rfl⟩⟩, hb⟩

theorem TrPost.good {l : List UInt8} {w w' : World} {g off n c : Nat} {F : Int} {Y : List Int} (h : rtO l = true) (hF : rnF l = F) (hY : rnL l = Y) (hn : Y.length = n) (hnc : n ≤ c) (hm : n ≤ 4096) (hg : w.heap.size ≤ g) (hl : g < w'.heap.size) (hr : RowI w' g off Y) (hb : Below w.heap.size w w') :
    TrPost l w (.returned (.tuple #[.agg #[.int .i64 F, .slice (some ⟨g, off, none⟩) n c], .bool true])) w' :=
  ⟨some ⟨g, off, none⟩, n, c, by simp [trF, h, hF], hnc, ⟨by simp [trY, h, hY, hn], hm, .inr ⟨g, off, rfl, hg, hl, by simpa [trY, h, hY] using hr⟩⟩, hb⟩

theorem RowI.drop {w : World} {g off : Nat} {x : Int} {ys : List Int} (h : RowI w g off (x :: ys)) : RowI w g (off + 1) ys :=
  ⟨fun i hi => by have := h.cell (i + 1) (by simpa using hi); rw [show off + 1 + i = off + (i + 1) by omega, this, getD_cons_succ], fun i hi => by have := h.free (i + 1) (by simpa using hi); rw [show off + 1 + i = off + (i + 1) by omega]; exact this⟩

/-- a block of two cells that had just been laid when a call was made: not frozen behind it -/
theorem box2f {w w1 : World} {x y : Value} {T : TypeId} (hb : Below (w.alloc (.cells #[x, y] T)).heap.size (w.alloc (.cells #[x, y] T)) w1) (i : Nat) (hi : i < 2) : w1.frozen? ⟨w.heap.size, i, none⟩ = false := by
  refine (hb.frozen (p := ⟨w.heap.size, i, none⟩) (by simp)).trans ?_
  match i, hi with
  | 0, _ => go_simp
  | 1, _ => go_simp

theorem keepf {w1 w2 : World} {p : Addr} (hb : Below w1.heap.size w1 w2) (hl : p.block < w1.heap.size) (h : w1.frozen? p = false) : w2.frozen? p = false := (hb.frozen hl).trans h

/-- the result's two cells are written -/
theorem TrPost.put {l : List UInt8} {w w' : World} {X : Nat} {e : Ending} {u v : Value} (h : TrPost l w e w') (hX : w.heap.size = X) (hne : ∀ F a n c o, e = .returned (.tuple #[.agg #[F, .slice a n c], o]) → ∀ x, a = some x → x.block ≠ X) :
    TrPost l w e ((w'.setCell ⟨X, 0, none⟩ u).setCell ⟨X, 1, none⟩ v) := by
  subst hX
  obtain ⟨a, n, c, rfl, hnc, ⟨h1, h2, h3⟩, hb⟩ := h
  have hn := hne _ _ _ _ _ rfl
  refine ⟨a, n, c, rfl, hnc, ⟨h1, h2, ?_⟩, (hb.setCell (p := ⟨w.heap.size, 0, none⟩) (Nat.le_refl _) _).setCell (p := ⟨w.heap.size, 1, none⟩) (Nat.le_refl _) _⟩
  rcases h3 with h3 | ⟨g, off, rfl, hg, hl, hr⟩
  · exact .inl h3
  · exact .inr ⟨g, off, rfl, hg, by simpa [World.setCell] using hl, hr.only (((Only.refl w.heap.size w').setCell (p := ⟨w.heap.size, 0, none⟩) rfl _).setCell (p := ⟨w.heap.size, 1, none⟩) rfl _) (hn _ rfl)⟩

end Go.Proofs.YtpdmbmfjeankbaaGreatDoor

/- ReadTable of the program: what the calls return. -/
namespace Go.Proofs.YtpdmbmfjeankbaaGreatDoor
open Go.ChangeShapes Go.WideShapes Go.ChangeAt Go.RowKit
set_option linter.unusedVariables false
set_option maxRecDepth 100000

theorem make_wide (l : Nat) (hl : l ≤ 1100000) (w : World) :
    (Instr.makeSlice 24 (.int .i64 (l : Int)) (.int .i64 (l : Int))).run Tryz.prog w = .ok (.slice (some ⟨w.heap.size, 0, none⟩) l l) (w.alloc (.cells ((List.replicate l (0 : Int)).map (Value.int .i64)).toArray 2)) := by
  obtain ⟨i0, hi, hz0, hz1, hz2⟩ := info_parts info64
  have h := run_make (P := Tryz.prog) w 24 2 i0 (.int .i64 0) Tryz.underlying24 hi hz0 .i64 .i64 l l (by omega) (Int.le_refl _) (by rw [hz2]; omega) (by omega)
  rw [h, ← made_zero]
  simp [hz1, Value.cells]

theorem Blk.row {w : World} {g : Nat} {xs : List Int} (h : Blk w g xs) : RowI w g 0 xs := ⟨fun i hi => by rw [Nat.zero_add]; exact h.cell i hi, fun i _ => h.free _⟩

theorem vals_len (L : List (List UInt8)) : (vals L).length = L.length := by simp [vals]

theorem vals_get (L : List (List UInt8)) (k : Nat) (h : k < L.length) (v : Int) (hv : pv (L.getD k []) = some v) : (vals L).getD k 0 = v := by
  simp [List.getD, h] at hv
  simp [vals, List.getD, h, hv]

theorem allP_t {L : List (List UInt8)} (h : ∀ j, j < L.length → (pv (L.getD j [])).isSome = true) : allP L = true := by
  unfold allP
  rw [List.all_eq_true]
  intro x hx
  obtain ⟨i, hi, rfl⟩ := List.getElem_of_mem hx
  have := h i hi
  simpa [List.getD, hi] using this

theorem allP_f {L : List (List UInt8)} {k : Nat} (hk : k < L.length) (h : pv (L.getD k []) = none) : allP L = false := by
  unfold allP
  rw [Bool.eq_false_iff]
  intro hh
  rw [List.all_eq_true] at hh
  have := hh (L.getD k []) (by simp [List.getD, hk])
  rw [h] at this; cases this

def RnPost (l : List UInt8) (w : World) (e : Ending) (w' : World) : Prop :=
  ((rnO l = true ∧ ∃ g off n c, e = .returned (.tuple #[.int .i64 (rnF l), .slice (some ⟨g, off, none⟩) n c, .bool true]) ∧ n ≤ c ∧ n ≤ 1100000 ∧ (rnL l).length = n ∧ w.heap.size ≤ g ∧ g < w'.heap.size ∧ RowI w' g off (rnL l)) ∨
    (rnO l = false ∧ e = .returned (.tuple #[.int .i64 0, .slice none 0 0, .bool false]))) ∧ Below w.heap.size w w'

/-- what a reading of a life table asks of the world -/
structure AskT (w : World) : Prop where
  tab : Tab w
  ask : AskE w

theorem AskT.step {w w' : World} (h : AskT w) (hb : Below w.heap.size w w') : AskT w' := ⟨h.tab.stepB h.tab.lt hb, h.ask.step hb⟩

set_option maxHeartbeats 2000000 in
theorem rn_any (s : ByteArray) (w : World) (hs : s.size ≤ 1048576) (ha : AskT w) : Calls Tryz.prog 32 #[.string s] w (RnPost s.data.toList w) := by
  have HA := Lib.hid ha
  have hsz : s.data.toList.length = s.size := by simp
  have hsh := sp_short s.data.toList
  have hwl := wds_len s
  have HSP := Lib.hid (Tryz.strings_Split_shaped s ⟨#[32]⟩ w ha.ask.shape (by omega) (by decide))
  have HW := Lib.hid (wds_get s)
  have hnew := StrB.new w (wds s)
  have hww : wds s = Lib.splitB ⟨#[32]⟩ 0 (Lib.countB s ⟨#[32]⟩) s := rfl
  rw [← hww] at HSP
  have hmap := wds_sp s
  have hjs : Hid (∀ x, (x == s.toList) = (x == s.data.toList)) := Lib.hid (fun x => by rw [toList_eq])
  obtain ⟨l, hl⟩ : ∃ l, s.data.toList = l := ⟨_, rfl⟩
  obtain ⟨D, hD⟩ : ∃ D, wds s = D := ⟨_, rfl⟩
  obtain ⟨n, hn⟩ : ∃ n, Lib.countB s ⟨#[32]⟩ + 1 = n := ⟨_, rfl⟩
  rw [hl] at hsz hsh HW hmap hjs ⊢
  rw [hD] at hwl HW hnew HSP hmap
  rw [hn] at hwl HSP
  have hLn : (sp l).length = n := by rw [← hmap]; simpa using hwl
  have hvl : (vals (sp l)).length = n := by rw [vals_len]; exact hLn
  have hn1 : n ≤ 1100000 := by have := hsh.1; omega
  have hrc := rn_cons l
  have hvw := vals_wide (sp l)
  obtain ⟨xs, hxs⟩ : ∃ xs, vals (sp l) = xs := ⟨_, rfl⟩
  have HRO : Hid (rnO l = (allP (sp l) && (jn xs == l))) := Lib.hid (by unfold rnO; rw [hrc, hxs])
  have HVG : Hid (∀ k, k < n → ∀ v, pv ((sp l).getD k []) = some v → xs.getD k 0 = v) := Lib.hid (fun k hk v hv => by rw [← hxs]; exact vals_get _ k (by omega) v hv)
  rw [hxs] at hrc hvw hvl
  have HPT : Hid ((∀ j, j < n → (pv ((sp l).getD j [])).isSome = true) → allP (sp l) = true) := Lib.hid (fun h => allP_t (fun j hj => h j (by omega)))
  have HPF : Hid (∀ k, k < n → pv ((sp l).getD k []) = none → allP (sp l) = false) := Lib.hid (fun k hk h => allP_f (by omega) h)
  have HXL := Lib.hid hvl
  have HVW := Lib.hid hvw
  have HRC := Lib.hid hrc
  have hsx : ∀ k, k < n → (D.getD k ByteArray.empty).size ≤ 281474976710656 := by
    intro k hk
    have e := HW.out k (by omega)
    have h1 : (D.getD k ByteArray.empty).data.toList.length = (D.getD k ByteArray.empty).size := by simp
    rw [← h1, e]
    have : (sp l).getD k [] ∈ sp l := by simp [List.getD, show k < (sp l).length by omega]
    have := hsh.2 _ this
    omega
  have HSX := Lib.hid hsx
  have hmk := make_wide n hn1
  obtain ⟨X, hX⟩ : ∃ X, w.heap.size = X := ⟨_, rfl⟩
  rw [hX] at hnew HSP
  have hb0 := box_b w (.cells (D.map Value.string).toArray 9)
  have hs0 : (w.alloc (.cells (D.map Value.string).toArray 9)).heap.size = X + 1 := by rw [World.size_alloc, hX]
  generalize w.alloc (.cells (D.map Value.string).toArray 9) = w1 at HSP hnew hb0 hs0
  have HB0 := Lib.hid hb0
  have HNW := Lib.hid hnew
  have HS0 := Lib.hid hs0
  have HDL := Lib.hid hwl
  clear hnew hb0 hs0 hsx hvw hvl hrc hxs hmap hww hn hD hwl ha hl
  go_enter Tryz.func32, Tryz.ntmps32
  go_wp2_with fail
  refine HSP.out.mono ?_
  rintro e w2 ⟨rfl, rfl⟩
  go_wp2_with fail
  have HZ := Lib.hid (Blk.new w2 (List.replicate n (0 : Int)))
  clear hmk HSP
  go_loopw [20] (fun i wr => ∃ k : Nat, k ≤ n ∧ i = .int .i64 k ∧ Hid (Blk wr w2.heap.size (xs.take k ++ List.replicate (xs.length - k) 0)) ∧ Hid (∀ j, j < k → (pv ((sp l).getD j [])).isSome = true) ∧ Hid (Below w2.heap.size w2 wr)) (fun i _ => n - (intOf i).toNat)
  case atStart => exact ⟨0, Nat.zero_le _, rfl, Lib.hid (by have := HZ.out; rw [HXL.out]; simpa using this), Lib.hid (fun j hj => by omega), Lib.hid (box_b _ _)⟩
  case round =>
    obtain ⟨k, hk, rfl, HK, HP, HB⟩ := hrel
    have hB : Below w.heap.size w wr := HB0.out.trans (HB.out.mono HB0.out.size)
    have HBW := Lib.hid hB
    have hs2 : X < w2.heap.size := by have := HS0.out; omega
    have hsw : w2.heap.size ≤ wr.heap.size := HB.out.size
    by_cases hlt : k < n
    · have hx := (HB.out.cell (p := ⟨X, k, none⟩) hs2).trans (HNW.out.cell k (by rw [HDL.out]; exact hlt))
      have hxl := HW.out k (by rw [HDL.out]; exact hlt)
      have hxs := HSX.out k hlt
      have HVK := Lib.hid (HVG.out k hlt)
      have HFK := Lib.hid (HPF.out k hlt)
      obtain ⟨x, hx0⟩ : ∃ x, D.getD k ByteArray.empty = x := ⟨_, rfl⟩
      rw [hx0] at hx hxl hxs
      have HPA := Lib.hid (parse_all x wr hxs (HA.out.ask.step hB))
      unfold ParsePost at HPA
      rw [hxl] at HPA
      clear hx0 hxl hxs hB
      go_wp2_with fail
      refine HPA.out.mono ?_
      rintro e w3 ⟨hres, hb3⟩
      have hbk := HK.out.below hb3 (by have := HK.out.lt; exact this)
      have hB3 := HB.out.trans (hb3.mono hsw)
      have HB3 := Lib.hid hB3
      have HBX := Lib.hid (HBW.out.trans (hb3.mono HBW.out.size))
      have hy := hbk.cell k (by simp; have := HXL.out; omega)
      have hf := hbk.free k
      obtain ⟨u, hu⟩ : ∃ u, (xs.take k ++ List.replicate (xs.length - k) 0).getD k 0 = u := ⟨_, rfl⟩
      rw [hu] at hy
      have HBK := Lib.hid hbk
      clear hu hbk hB3 hb3 HPA hx
      rcases hres with ⟨v, hv, rfl⟩ | ⟨hv, v, N, rfl⟩
      · have HV := Lib.hid (HVK.out v (pv_ok hv))
        have HVS := Lib.hid (pv_ok hv)
        clear hv
        go_wp2_with fail
        go_roundw
        case rel => exact ⟨k + 1, by omega, by go_num, Lib.hid (by have := HBK.out.set k v; rw [← HV.out, set_step xs k (by rw [HXL.out]; exact hlt), HV.out] at this; exact this), Lib.hid (fun j hj => by
          by_cases e : j = k
          · subst e; rw [HVS.out]; rfl
          · exact HP.out j (by omega)), Lib.hid (HB3.out.setCell (p := ⟨w2.heap.size, k, none⟩) (Nat.le_refl _) _)⟩
        case measure => simp [intOf]; omega
      · have HR : Hid (rnO l = false) := Lib.hid (by rw [HRO.out, HFK.out (pv_no hv)]; rfl)
        clear hv
        go_wp2_with fail
        exact bodyPost_ret (v := .tuple #[.int .i64 0, .slice none 0 0, .bool false]) (by simp [results, Tryz.results32, go_sem]) rfl ⟨.inr ⟨HR.out, rfl⟩, HBX.out⟩
    · obtain rfl : k = n := by omega
      have hbk := HK.out
      rw [HXL.out, Nat.sub_self, List.replicate_zero, List.append_nil, List.take_of_length_le (by rw [HXL.out]; exact Nat.le_refl _)] at hbk
      have HAP := Lib.hid (HPT.out HP.out)
      obtain ⟨F, Y, hFY⟩ : ∃ F Y, xs = F :: Y := ⟨_, _, HRC.out.symm⟩
      have HFE : Hid (rnF l = F ∧ rnL l = Y) := Lib.hid (by have := HRC.out; rw [hFY] at this; injection this with h1 h2; exact ⟨h1, h2⟩)
      have hyl : Y.length = k - 1 ∧ 1 ≤ k := by have := HXL.out; rw [hFY] at this; simp at this; omega
      obtain ⟨hyl, hk1⟩ := hyl
      have hfw : -9223372036854775808 ≤ F ∧ F ≤ 9223372036854775807 := HVW.out F (by rw [hFY]; exact List.mem_cons_self)
      have hyw : Wide Y := fun x hx => HVW.out x (by rw [hFY]; exact List.mem_cons_of_mem _ hx)
      rw [hFY] at hbk HRO
      have hr0 := hbk.row
      have hx0 : wr.cell? ⟨w2.heap.size, 0, none⟩ = some (.int .i64 F) := hbk.cell 0 (by simp)
      have hgx := hbk.lt
      have hk0 : 0 < k := hk1
      have hoff : ∃ off, (if k = 1 then some (⟨w2.heap.size, 0, none⟩ : Addr) else some ⟨w2.heap.size, 1, none⟩) = some ⟨w2.heap.size, off, none⟩ ∧ RowI wr w2.heap.size off Y := by
        by_cases e : k = 1
        · have hy0 : Y = [] := List.length_eq_zero_iff.1 (by omega)
          exact ⟨0, by simp [e], ⟨fun i hi => by rw [hy0] at hi; simp at hi, fun i hi => by rw [hy0] at hi; simp at hi⟩⟩
        · exact ⟨1, by simp [e], hr0.drop⟩
      obtain ⟨off, hoff, hr1⟩ := hoff
      have HR1 := Lib.hid hr1
      have HYL := Lib.hid hyl
      have HFW := Lib.hid hfw
      have HYW := Lib.hid hyw
      have HTB := Lib.hid (HA.out.step hB).tab
      clear hbk hr0 hr1 hyl hfw hyw hFY hB
      have hgw : w.heap.size ≤ w2.heap.size := HB0.out.size
      go_wp2_with fail
      go_region
      all_goals
        go_wp2_with fail
        refine (nt_any F Y (some ⟨w2.heap.size, off, none⟩) (k - 1) (k - 1) _ ((HR1.out.ints HYL.out (by omega)).on (below_drewN (Below.refl _ _) 1)) HFW.out.1 HFW.out.2 HYW.out (by omega) (HTB.out.stepB HTB.out.lt (below_drewN (Below.refl _ _) 1))).mono ?_
        rintro e w3 ⟨rfl, hb3⟩
        have hb4 : Below wr.heap.size wr w3 := (below_drewN (Below.refl _ _) 1).trans hb3
        have HB4 := Lib.hid (HBW.out.trans (hb4.mono HBW.out.size))
        have HR4 := Lib.hid (HR1.out.on hb4)
        have hg4 : w2.heap.size < w3.heap.size := Nat.lt_of_lt_of_le hgx hb4.size
        clear hb3 hb4 HR1 HTB
        have hj := hjs.out (jn (F :: Y))
        cases hq : (jn (F :: Y) == l) with
        | true =>
          rw [hq] at hj
          have HR : Hid (rnO l = true) := Lib.hid (by rw [HRO.out, HAP.out, hq]; rfl)
          clear hq
          go_wp2_with fail
          exact bodyPost_ret (v := .tuple #[.int .i64 F, .slice (some ⟨w2.heap.size, off, none⟩) (k - 1) (k - 1), .bool true]) (by simp [results, Tryz.results32, go_sem]) rfl ⟨.inl ⟨HR.out, _, off, _, _, by rw [HFE.out.1], Nat.le_refl _, by omega, by rw [HFE.out.2]; exact HYL.out, hgw, hg4, by rw [HFE.out.2]; exact HR4.out⟩, HB4.out⟩
        | false =>
          rw [hq] at hj
          have HR : Hid (rnO l = false) := Lib.hid (by rw [HRO.out, HAP.out, hq]; rfl)
          clear hq
          go_wp2_with fail
          exact bodyPost_ret (v := .tuple #[.int .i64 0, .slice none 0 0, .bool false]) (by simp [results, Tryz.results32, go_sem]) rfl ⟨.inr ⟨HR.out, rfl⟩, HB4.out⟩

end Go.Proofs.YtpdmbmfjeankbaaGreatDoor

/- ReadSick of the model and of the program: what the calls return. (Written by wip/gen/sictx.py.) -/
namespace Go.Proofs.YtpdmbmfjeankbaaGreatDoor
open Go.ChangeShapes Go.WideShapes Go.ChangeAt Go.RowKit
set_option linter.unusedVariables false
set_option linter.unusedSimpArgs false
set_option maxRecDepth 100000

/-- the life table of a text -/
def rkO (l : List UInt8) : Bool := rnO l && skB (rnF l) (rnL l)

def skO (l : List UInt8) : Bool := (sp l).all sgO && (decide (2 ≤ (sp l).length) && skB ((sgs l).getD 0 0) ((sgs l).drop 1))

theorem rk_st {l : List UInt8} (h : rkO l = true) : skO l = true ∧ sgs l = rnF l :: rnL l := by
  unfold rkO rnO at h
  rw [Bool.and_eq_true, Bool.and_eq_true] at h
  obtain ⟨⟨h1, h2⟩, h3⟩ := h
  have h2 : jn (rnF l :: rnL l) = l := by simpa using h2
  have ht := (skB_iff _ _).1 h3
  have hn := ht.nums
  have hs : sp l = (rnF l :: rnL l).map Lib.itoa := by
    rw [← sp_jn _ _ (fun x hx => (hn x hx).1), h2]
  have hg : sgs l = rnF l :: rnL l := by
    unfold sgs
    rw [hs, List.map_map]
    conv => rhs; rw [← List.map_id (rnF l :: rnL l)]
    refine List.map_congr_left fun x hx => ?_
    have := hn x hx
    exact (sg_itoa x this.1 (by omega)).2
  refine ⟨?_, hg⟩
  unfold skO
  rw [Bool.and_eq_true, Bool.and_eq_true]
  refine ⟨?_, ?_, ?_⟩
  · rw [hs, List.all_eq_true]
    intro w hw
    obtain ⟨x, hx, rfl⟩ := List.mem_map.1 hw
    have := hn x hx
    exact (sg_itoa x this.1 (by omega)).1
  · rw [hs]
    have := ht.2.1
    simp; omega
  · rw [hg]; exact h3

theorem st_rk {l : List UInt8} (h : skO l = true) : rkO l = true := by
  unfold skO at h
  rw [Bool.and_eq_true, Bool.and_eq_true] at h
  obtain ⟨h1, h2, h3⟩ := h
  have ht := (skB_iff _ _).1 h3
  have hn := ht.nums
  have hc : (sgs l).getD 0 0 :: (sgs l).drop 1 = sgs l := by
    unfold sgs
    cases hs : sp l with
    | nil => exact absurd hs (sp_ne l)
    | cons w ws => simp
  rw [hc] at hn
  rw [List.all_eq_true] at h1
  have hw : ∀ w ∈ sp l, pv w = some (sgV w) := by
    intro w hw
    have e := sgO_itoa (h1 w hw)
    have b := hn (sgV w) (List.mem_map.2 ⟨w, hw, rfl⟩)
    conv => lhs; rw [e]
    exact pv_itoa _ b.1 (by omega)
  have hv : vals (sp l) = sgs l := by
    unfold vals sgs
    exact List.map_congr_left fun w hm => by rw [hw w hm]; rfl
  have e1 : rnF l = (sgs l).getD 0 0 := by unfold rnF; rw [hv]
  have e2 : rnL l = (sgs l).drop 1 := by unfold rnL; rw [hv]
  unfold rkO rnO
  rw [Bool.and_eq_true, Bool.and_eq_true]
  refine ⟨⟨?_, ?_⟩, by rw [e1, e2]; exact h3⟩
  · unfold allP
    rw [List.all_eq_true]
    intro w hm
    rw [hw w hm]; rfl
  · rw [e1, e2, hc, beq_iff_eq]
    have hs : sgs l ≠ [] := by unfold sgs; simp [sp_ne]
    cases hg : sgs l with
    | nil => exact absurd hg hs
    | cons x t =>
      rw [jn_jw, ← List.map_cons, ← hg]
      have : (sgs l).map Lib.itoa = sp l := by
        unfold sgs
        rw [List.map_map]
        conv => rhs; rw [← List.map_id (sp l)]
        exact List.map_congr_left fun w hm => (sgO_itoa (h1 w hm)).symm
      rw [this, jw_sp]

theorem sk_eq (l : List UInt8) : skO l = rkO l := by
  cases h : rkO l with
  | true => exact (rk_st h).1
  | false =>
    cases h2 : skO l with
    | true => rw [st_rk h2] at h; cases h
    | false => rfl

/-- what ReadSick hands over: its first age, its lives -/
def tkF (l : List UInt8) : Int := if rkO l = true then rnF l else 0

def tkY (l : List UInt8) : List Int := if rkO l = true then rnL l else []

def TkPost (l : List UInt8) (w : World) (e : Ending) (w' : World) : Prop :=
  ∃ a n c, e = .returned (.tuple #[.agg #[.int .i64 (tkF l), .slice a n c], .bool (rkO l)]) ∧ n ≤ c ∧ TbR w.heap.size w' a n (tkY l) ∧ Below w.heap.size w w'

theorem TkPost.bad {l : List UInt8} {w w' : World} (h : rkO l = false) (hb : Below w.heap.size w w') : TkPost l w (.returned (.tuple #[.agg #[.int .i64 0, .slice none 0 0], .bool false])) w' :=
  ⟨none, 0, 0, by simp [tkF, h], Nat.le_refl _, ⟨by simp [tkY, h], by omega, .inl ⟨rfl, rfl⟩⟩, hb⟩

theorem TkPost.good {l : List UInt8} {w w' : World} {g off n c : Nat} {F : Int} {Y : List Int} (h : rkO l = true) (hF : rnF l = F) (hY : rnL l = Y) (hn : Y.length = n) (hnc : n ≤ c) (hm : n ≤ 4096) (hg : w.heap.size ≤ g) (hl : g < w'.heap.size) (hr : RowI w' g off Y) (hb : Below w.heap.size w w') :
    TkPost l w (.returned (.tuple #[.agg #[.int .i64 F, .slice (some ⟨g, off, none⟩) n c], .bool true])) w' :=
  ⟨some ⟨g, off, none⟩, n, c, by simp [tkF, h, hF], hnc, ⟨by simp [tkY, h, hY, hn], hm, .inr ⟨g, off, rfl, hg, hl, by simpa [tkY, h, hY] using hr⟩⟩, hb⟩

/-- the result's two cells are written -/
theorem TkPost.put {l : List UInt8} {w w' : World} {X : Nat} {e : Ending} {u v : Value} (h : TkPost l w e w') (hX : w.heap.size = X) (hne : ∀ F a n c o, e = .returned (.tuple #[.agg #[F, .slice a n c], o]) → ∀ x, a = some x → x.block ≠ X) :
    TkPost l w e ((w'.setCell ⟨X, 0, none⟩ u).setCell ⟨X, 1, none⟩ v) := by
  subst hX
  obtain ⟨a, n, c, rfl, hnc, ⟨h1, h2, h3⟩, hb⟩ := h
  have hn := hne _ _ _ _ _ rfl
  refine ⟨a, n, c, rfl, hnc, ⟨h1, h2, ?_⟩, (hb.setCell (p := ⟨w.heap.size, 0, none⟩) (Nat.le_refl _) _).setCell (p := ⟨w.heap.size, 1, none⟩) (Nat.le_refl _) _⟩
  rcases h3 with h3 | ⟨g, off, rfl, hg, hl, hr⟩
  · exact .inl h3
  · exact .inr ⟨g, off, rfl, hg, by simpa [World.setCell] using hl, hr.only (((Only.refl w.heap.size w').setCell (p := ⟨w.heap.size, 0, none⟩) rfl _).setCell (p := ⟨w.heap.size, 1, none⟩) rfl _) (hn _ rfl)⟩

set_option maxHeartbeats 1000000 in
theorem rk_spec (s : ByteArray) (w : World) (hs : s.size ≤ 1048576) : Calls Tryz.prog 13 #[.string s] w (TkPost s.data.toList w) := by
  have HSP := Lib.hid (fun W => split_spec s W hs)
  have hsz : s.data.toList.length = s.size := by simp
  have hsh := sp_short s.data.toList
  have HST := Lib.hid (sk_eq s.data.toList)
  obtain ⟨l, hl⟩ : ∃ l, s.data.toList = l := ⟨_, rfl⟩
  unfold SplitPost at HSP
  rw [hl] at HSP hsz hsh HST
  (try rw [hl])
  have HSH := Lib.hid hsh
  clear hl hsh
  go_enter Tryz.func13, Tryz.ntmps13
  go_wp2_with fail
  refine (HSP.out _).mono ?_
  rintro e w1 ⟨g, c, W, rfl, hW, hWl, hcs, hb1⟩
  obtain ⟨hB1, hc0, hc1⟩ := box2 hb1
  have hf0 := box2f hb1 0 (by omega)
  have hf1 := box2f hb1 1 (by omega)
  have hp : 0 < W.length := by
    have h1 := congrArg List.length hW
    have h2 := List.length_pos_iff.2 (sp_ne l)
    rw [List.length_map] at h1; omega
  have hgl := block_lt (hcs 0 hp)
  have HN := Lib.hid (nums_spec W (sp l) hW g W.length c rfl (by omega) (fun x hx => by have := HSH.out.2 x hx; omega) w1 hgl hcs)
  have HB1 := Lib.hid hB1
  have hbs1 := hB1.size
  clear hcs hb1 hB1 hgl hW
  go_wp2_with fail
  refine HN.out.mono ?_
  rintro e w2 ⟨hres, hb2⟩
  have hd0 := keep2 hb2 hc0
  have hd1 := keep2 hb2 hc1
  have hf0 := keepf hb2 (block_lt hc0) hf0
  have hf1 := keepf hb2 (block_lt hc1) hf1
  have hwX : w.heap.size < w1.heap.size := block_lt hc0
  have HB2 := Lib.hid (HB1.out.trans (hb2.mono hbs1))
  clear HN HSP hc0 hc1
  rcases hres with ⟨hall, v, rfl, hown⟩ | ⟨hall, rfl⟩
  · have hsg : sgs l = (sp l).map sgV := rfl
    rw [← hsg] at hown
    have hsl : (sgs l).length = (sp l).length := by simp [sgs]
    have hsp0 := List.length_pos_iff.2 (sp_ne l)
    have HM := Lib.hid (hown.made hb2 (by omega))
    have hlen : (sgs l).length ≤ 1048577 := by have := HSH.out.1; omega
    clear hown hb2 HB1
    obtain ⟨g2, c2, rfl, hc2, hg2, hr2, _⟩ := HM.out
    by_cases h2 : (sgs l).length < 2
    · have HR : Hid (rkO l = false) := Lib.hid (by rw [← HST.out]; unfold skO; rw [hall]; simp; omega)
      clear hall hsg hsl hsp0 HM
      go_wp2_with fail
      exact bodyPost_ret (v := .tuple #[.agg #[.int .i64 0, .slice none 0 0], .bool false]) (by simp [results, Tryz.results13, go_sem, hd0, hd1]) rfl ((TkPost.bad HR.out HB2.out).put rfl (fun F a n c o h x hx => by cases h; cases hx))
    · obtain ⟨F, Y, hFY⟩ : ∃ F Y, sgs l = F :: Y := by
        cases h : sgs l with
        | nil => rw [h] at h2; simp at h2
        | cons a b => exact ⟨a, b, rfl⟩
      rw [hFY] at hr2 hc2 hlen h2
      obtain ⟨n, hn⟩ : ∃ n, (F :: Y).length = n := ⟨_, rfl⟩
      rw [hFY]
      rw [hn] at hc2 hlen h2
      (try rw [hn])
      have hx0 : w2.cell? ⟨g2, 0, none⟩ = some (.int .i64 F) := hr2.cell 0 (by simp)
      have hn1 : 1 ≤ n := by omega
      have hn0 : 0 < n := by omega
      have hgx : g2 < w2.heap.size := block_lt hx0
      have hne : g2 ≠ w.heap.size := by omega
      have HRW := Lib.hid hr2
      clear HM hr2
      go_wp2_with fail
      have HRO : Hid (rkO l = skB F Y) := Lib.hid (by
        rw [← HST.out]; unfold skO; rw [hall, hFY]
        have : 2 ≤ (sp l).length := by rw [← hsl, hFY, hn]; omega
        simp [this])
      have HRF : Hid (rkO l = true → rnF l = F ∧ rnL l = Y) := Lib.hid (fun h => by
        have := (rk_st h).2
        rw [hFY] at this
        injection this with h1 h2
        exact ⟨h1.symm, h2.symm⟩)
      have HYL : Hid (Y.length = n - 1) := Lib.hid (by rw [← hn]; simp)
      clear hall hsg hsl hsp0 hFY hn
      go_region
      all_goals
        have HX := Lib.hid (isS_spec F Y (some ⟨g2, 1, none⟩) (n - 1) (c2 - 1) (w2.alloc (.cells #[.int .i64 F, .slice (some ⟨g2, 1, none⟩) (n - 1) (c2 - 1)] 28)).drew (((HRW.out.drop).ints HYL.out (by omega)).on (below_drewN (box_b _ _) 1)))
        go_wp2_with fail
        refine HX.out.mono ?_
        rintro e w3 ⟨rfl, hb3⟩
        have hb4 : Below (w2.alloc (.cells #[.int .i64 F, .slice (some ⟨g2, 1, none⟩) (n - 1) (c2 - 1)] 28)).heap.size (w2.alloc (.cells #[.int .i64 F, .slice (some ⟨g2, 1, none⟩) (n - 1) (c2 - 1)] 28)) w3 := (below_drewN (Below.refl _ _) 1).trans hb3
        obtain ⟨hB3, hk0, hk1⟩ := box2 hb4
        have he0 := keep2 hB3 hd0
        have he1 := keep2 hB3 hd1
        have hq0 := keepf hB3 (block_lt hd0) hf0
        have hq1 := keepf hB3 (block_lt hd1) hf1
        have HB3 := Lib.hid (HB2.out.trans (hB3.mono HB2.out.size))
        have HR3 := Lib.hid (HRW.out.drop.on hB3)
        have hgy : g2 < w3.heap.size := Nat.lt_of_lt_of_le hgx hB3.size
        have hn2 : (w2.heap.size : Nat) ≠ w.heap.size := by omega
        clear HX hb3 hb4 hB3 hx0 hd0 hd1 hf0 hf1 HRW HB2
        cases hlt : skB F Y with
        | false =>
          rw [hlt] at HRO
          have HR := Lib.hid HRO.out
          clear hlt
          go_wp2_with fail
          exact bodyPost_ret (v := .tuple #[.agg #[.int .i64 0, .slice none 0 0], .bool false]) (by simp [results, Tryz.results13, go_sem, he0, he1]) rfl ((TkPost.bad HR.out HB3.out).put rfl (fun F a n c o h x hx => by cases h; cases hx))
        | true =>
          rw [hlt] at HRO
          have HR := Lib.hid HRO.out
          have hlen : n - 1 ≤ 4096 := by
            have := ((skB_iff _ _).1 hlt).2.1.2
            rw [HYL.out] at this; omega
          clear hlt
          go_wp2_with fail
          exact bodyPost_ret (v := .tuple #[.agg #[.int .i64 F, .slice (some ⟨g2, 1, none⟩) (n - 1) (c2 - 1)], .bool true]) (by simp [results, Tryz.results13, go_sem, he0, he1]) rfl ((TkPost.good HR.out (HRF.out HR.out).1 (HRF.out HR.out).2 HYL.out (by omega) hlen (by omega) hgy (by simpa using HR3.out) HB3.out).put rfl (fun F a n c o h x hx => by cases h; cases hx; exact hne))
  · have HR : Hid (rkO l = false) := Lib.hid (by rw [← HST.out]; unfold skO; rw [hall]; rfl)
    clear hall
    go_wp2_with fail
    exact bodyPost_ret (v := .tuple #[.agg #[.int .i64 0, .slice none 0 0], .bool false]) (by simp [results, Tryz.results13, go_sem, hd0, hd1]) rfl ((TkPost.bad HR.out HB2.out).put rfl (fun F a n c o h x hx => by cases h; cases hx))

set_option maxHeartbeats 1000000 in
theorem rk_impl (s : ByteArray) (w : World) (hs : s.size ≤ 1048576) (ha : AskT w) : Calls Tryz.prog 11 #[.string s] w (TkPost s.data.toList w) := by
  have HRN := Lib.hid (rn_any s (w.alloc (.cells #[.int .i64 0, .slice none 0 0] 28)) hs (ha.step (box_b _ _)))
  obtain ⟨l, hl⟩ : ∃ l, s.data.toList = l := ⟨_, rfl⟩
  have HRO : Hid (rkO l = (rnO l && skB (rnF l) (rnL l))) := Lib.hid rfl
  unfold RnPost at HRN
  rw [hl] at HRN ⊢
  clear hl ha
  go_enter Tryz.func11, Tryz.ntmps11
  go_wp2_with fail
  refine HRN.out.mono ?_
  rintro e w1 ⟨hres, hb1⟩
  obtain ⟨hB1, hd0, hd1⟩ := box2 hb1
  have hf0 := box2f hb1 0 (by omega)
  have hf1 := box2f hb1 1 (by omega)
  have HB1 := Lib.hid hB1
  have hlw : w.heap.size < w1.heap.size := block_lt hd0
  have hne1 : w1.heap.size ≠ w.heap.size := by omega
  clear HRN hb1 hB1
  rcases hres with ⟨hO, g, off, n, c, rfl, hnc, hn1, hyl, hg, hgl, hr⟩ | ⟨hO, rfl⟩
  · obtain ⟨F, hF⟩ : ∃ F, rnF l = F := ⟨_, rfl⟩
    obtain ⟨Y, hY⟩ : ∃ Y, rnL l = Y := ⟨_, rfl⟩
    rw [hO] at HRO
    rw [hF, hY] at HRO
    rw [hY] at hyl hr
    rw [hF]
    have HF := Lib.hid hF
    have HY := Lib.hid hY
    have HYL := Lib.hid hyl
    have HR := Lib.hid hr
    have HX := Lib.hid (isS_impl F Y (some ⟨g, off, none⟩) n c (w1.alloc (.cells #[.int .i64 F, .slice (some ⟨g, off, none⟩) n c] 28)) ((hr.ints hyl (by omega)).on (box_b _ _)) hnc)
    have hgw : w.heap.size < g := by
      have : w.heap.size + 1 ≤ g := by simpa using hg
      omega
    clear hF hY hyl hr hg hO
    go_wp2_with fail
    refine HX.out.mono ?_
    rintro e w2 ⟨rfl, hb2⟩
    obtain ⟨hB2, hk0, hk1⟩ := box2 hb2
    have he0 := keep2 hB2 hd0
    have he1 := keep2 hB2 hd1
    have hq0 := keepf hB2 (block_lt hd0) hf0
    have hq1 := keepf hB2 (block_lt hd1) hf1
    have HB2 := Lib.hid (HB1.out.trans (hB2.mono HB1.out.size))
    have HR2 := Lib.hid (HR.out.on hB2)
    have hgy : g < w2.heap.size := Nat.lt_of_lt_of_le hgl hB2.size
    clear HX hb2 hB2 hd0 hd1 hf0 hf1
    cases hlt : skB F Y with
    | false =>
      rw [hlt] at HRO
      have HRF : Hid (rkO l = false) := Lib.hid HRO.out
      clear hlt
      go_wp2_with fail
      exact bodyPost_ret (v := .tuple #[.agg #[.int .i64 0, .slice none 0 0], .bool false]) (by simp [results, Tryz.results11, go_sem, he0, he1]) rfl ((TkPost.bad HRF.out HB2.out).put rfl (fun F a n c o h x hx => by cases h; cases hx))
    | true =>
      rw [hlt] at HRO
      have HRT : Hid (rkO l = true) := Lib.hid HRO.out
      have hlen : n ≤ 4096 := by
        have := ((skB_iff _ _).1 hlt).2.1.2
        rw [HYL.out] at this; omega
      clear hlt
      go_wp2_with fail
      exact bodyPost_ret (v := .tuple #[.agg #[.int .i64 F, .slice (some ⟨g, off, none⟩) n c], .bool true]) (by simp [results, Tryz.results11, go_sem, he0, he1]) rfl ((TkPost.good HRT.out HF.out HY.out HYL.out hnc hlen (by omega) hgy HR2.out HB2.out).put rfl (fun F a n c o h x hx => by cases h; cases hx; show g ≠ w.heap.size; omega))
  · have HRF : Hid (rkO l = false) := Lib.hid (by rw [HRO.out, hO]; rfl)
    clear hO
    have hp0 : ((w1.setCell ⟨w.heap.size, 0, none⟩ (.int .i64 0)).setCell ⟨w.heap.size, 1, none⟩ (.slice none 0 0)).cell? ⟨w.heap.size, 0, none⟩ = some (.int .i64 0) := by
      rw [World.cell?_setCell_other _ _ _ _ (by first | (simp; done) | (simp; omega)), World.cell?_setCell_same' _ _ _ (by rw [hd0]; rfl)]
    have hp1 : ((w1.setCell ⟨w.heap.size, 0, none⟩ (.int .i64 0)).setCell ⟨w.heap.size, 1, none⟩ (.slice none 0 0)).cell? ⟨w.heap.size, 1, none⟩ = some (.slice none 0 0) := by
      rw [World.cell?_setCell_same' _ _ _ (by rw [World.cell?_setCell_other _ _ _ _ (by first | (simp; done) | (simp; omega)), hd1]; rfl)]
    have hr0 := keep2 (box_b _ (.cells #[.int .i64 0, .slice none 0 0] 28)) hp0
    have hr1 := keep2 (box_b _ (.cells #[.int .i64 0, .slice none 0 0] 28)) hp1
    go_wp2_with fail
    refine bodyPost_ret (v := .tuple #[.agg #[.int .i64 0, .slice none 0 0], .bool false]) (by simp [results, Tryz.results11, go_sem, hr0, hr1]) rfl ?_
    exact TkPost.bad HRF.out (((HB1.out.setCell (p := ⟨w.heap.size, 0, none⟩) (Nat.le_refl _) _).setCell (p := ⟨w.heap.size, 1, none⟩) (Nat.le_refl _) _).alloc (by have := HB1.out.size; simpa [World.setCell] using this) _)

end Go.Proofs.YtpdmbmfjeankbaaGreatDoor

/- FnSickness: plain facts, texts and likeness of sickness tables, a drawn text. -/
namespace Go.Proofs.YtpdmbmfjeankbaaGreatDoor
open Go.ChangeShapes Go.WideShapes Go.ChangeAt Go.RowKit
set_option linter.unusedVariables false
set_option linter.unusedSimpArgs false
set_option maxRecDepth 100000

theorem sgs_jnk (F : Int) (xs : List Int) (h : Nums (F :: xs)) : sgs (jn (F :: xs)) = F :: xs ∧ (sp (jn (F :: xs))).all sgO = true ∧ (sp (jn (F :: xs))).length = xs.length + 1 := by
  have hs : sp (jn (F :: xs)) = (F :: xs).map Lib.itoa := sp_jn F xs fun x hx => (h x hx).1
  refine ⟨?_, ?_, ?_⟩
  · unfold sgs
    rw [hs, List.map_map]
    conv => rhs; rw [← List.map_id (F :: xs)]
    refine List.map_congr_left fun x hx => ?_
    have := h x hx
    exact (sg_itoa x this.1 (by omega)).2
  · rw [hs, List.all_eq_true]
    intro w hw
    obtain ⟨x, hx, rfl⟩ := List.mem_map.1 hw
    have := h x hx
    exact (sg_itoa x this.1 (by omega)).1
  · rw [hs]; simp

/-- a sickness table is found from its text -/
theorem rk_text {F : Int} {xs : List Int} (h : skB F xs = true) : rkO (jn (F :: xs)) = true ∧ tkF (jn (F :: xs)) = F ∧ tkY (jn (F :: xs)) = xs := by
  have ht := (skB_iff _ _).1 h
  obtain ⟨h1, h2, h3⟩ := sgs_jnk F xs ht.nums
  have hr : rkO (jn (F :: xs)) = true := by
    rw [← sk_eq]
    unfold skO
    rw [h1, h2, h3]
    have := ht.2.1
    simp [h]
    omega
  have h4 := (rk_st hr).2
  rw [h1] at h4
  injection h4 with h5 h6
  exact ⟨hr, by simp [tkF, hr, ← h5], by simp [tkY, hr, ← h6]⟩

theorem rk_nil : rkO [] = false := by
  rw [← sk_eq]
  unfold skO
  simp [sp]

theorem itoa_nek (n : Int) (h : 0 ≤ n) : Lib.itoa n ≠ [] := by
  obtain ⟨u, rfl⟩ := Int.eq_ofNat_of_zero_le h
  rw [itoa_nat]; exact dig_ne_nil u

/-- the text of the table that was found is the text that was read -/
theorem text_rk {l : List UInt8} (h : rkO l = true) : skT (tkF l) (tkY l) = l ∧ skB (tkF l) (tkY l) = true := by
  have h' := h
  unfold rkO rnO at h'
  rw [Bool.and_eq_true, Bool.and_eq_true] at h'
  obtain ⟨⟨_, h2⟩, h3⟩ := h'
  have e1 : tkF l = rnF l := by simp [tkF, h]
  have e2 : tkY l = rnL l := by simp [tkY, h]
  rw [e1, e2]
  exact ⟨by rw [skT_t h3]; simpa using h2, h3⟩

theorem skT_len (F : Int) (xs : List Int) : (skT F xs).length ≤ 3000 := by
  cases h : skB F xs with
  | true =>
    rw [skT_t h]
    have h2 := (skB_iff _ _).1 h
    have h3 := jn_len (F :: xs) h2.nums
    have h4 := h2.2.1.2
    simp at h3; omega
  | false => rw [skT_f h]; simp

/-- what is read of the text of a value -/
theorem rk_skT (F : Int) (xs : List Int) : rkO (skT F xs) = skB F xs ∧ (skB F xs = true → tkF (skT F xs) = F ∧ tkY (skT F xs) = xs) ∧ (skT F xs = [] ↔ skB F xs = false) := by
  cases h : skB F xs with
  | true =>
    rw [skT_t h]
    refine ⟨(rk_text h).1, fun _ => (rk_text h).2, ?_⟩
    have := itoa_nek F ((skB_iff _ _).1 h).1.1
    simp [jn, this]
  | false => rw [skT_f h]; exact ⟨rk_nil, (fun h => by cases h), by simp⟩

theorem likeK_same (f : Int) (xs : List Int) (a b : Option Addr) (l m c d : Nat) (w : World) (h : Ints w a l xs) (k : Ints w b m xs) :
    Calls Tryz.prog 15 #[.agg #[.int .i64 f, .slice a l c], .agg #[.int .i64 f, .slice b m d]] w fun e w' => e = .returned (.bool true) ∧ Below w.heap.size w w' := by
  have HB : Hid (Below w.heap.size w ((w.alloc (.cells #[.int .i64 f, .slice a l c] 28)).alloc (.cells #[.int .i64 f, .slice b m d] 28))) := Lib.hid ((box_b _ _).alloc (by simp) _)
  have H := Lib.hid (h.on HB.out)
  have K := Lib.hid (k.on HB.out)
  clear h k
  go_enter Tryz.func15, Tryz.ntmps15
  go_wp2_with fail
  refine (like_any xs xs _ _ _ _ _ _ _ H.out K.out).mono ?_
  rintro e w4 ⟨rfl, n, rfl⟩
  have hd : decide (xs = xs) = true := by simp
  rw [hd]
  go_wp2_with fail
  go_ret
  exact ⟨rfl, below_drewN HB.out _⟩

/-! ### one year less -/

theorem SkIn.less {r f : Int} {xs : List Int} {g : Int} {ys : List Int} {x n b : Int} (h : SkIn r f xs g ys x n b) (hn : n ≠ 1) : skE r f xs g ys x (n - 1) b = 0 ∧ svV r f xs g ys x (n - 1) b ≤ svV r f xs g ys x n b ∧ spV r f xs g ys x n b ≤ svV r f xs g ys x n b := by
  have h0 := h.n0
  have h1 := h.n1
  have h2 := h.xn
  have e0 := skE_iff.2 h
  have e1 : skE r f xs g ys x (n - 1) b = 0 := skE_iff.2 ⟨h.st, h.lt, h.r0, h.r1, h.x0, by omega, by omega, by omega, h.b0, h.b1, h.hd⟩
  refine ⟨e1, ?_, ?_⟩
  · unfold svV
    rw [if_pos e0, if_pos e1]
    have e := svS_succ r f xs g ys x b (n - 1).toNat
    rw [show (n - 1).toNat + 1 = n.toNat by omega] at e
    obtain ⟨W, L, D, _, _, _, e2, _, _, _, _, _, _, _, _, _, u0, u1⟩ := h.year (n - 1).toNat
    omega
  · unfold svV spV
    rw [if_pos e0, if_pos e0]
    obtain ⟨S, D, N, M, hS, hD, hN, hM, s0, s1, d0, d1, n0, n1, m0, m1, p0, q⟩ := h.prem
    have hx0 := h.x0
    have c1 := h.lt.cN_step r (x - f).toNat
    have c2 := h.lt.cN_mono r h.r0 ((x - f).toNat + 1) (n.toNat - 1)
    rw [show (x - f).toNat + 1 + (n.toNat - 1) = (x + n - f).toNat by omega] at c2
    rw [hS, hD, hN, hM]
    rw [hD, hN] at c1
    rw [hM] at c2
    have hle : D ≤ N - M := by omega
    obtain ⟨q1, r1, e1, e2, r0, r2, g1, g2⟩ := upV_eq S D (N - M) p0
    have h3 := Int.mul_le_mul_of_nonneg_left hle s0
    have h4 := Int.mul_ediv_add_emod (S * D) (N - M)
    rw [e1, e2] at h4
    rw [Int.mul_comm] at h4
    by_cases hr : r1 = 0
    · rw [g1 hr]
      refine Int.not_lt.1 fun hlt => ?_
      have := Int.mul_le_mul_of_nonneg_right (show S + 1 ≤ q1 by omega) (show 0 ≤ N - M by omega)
      rw [Int.add_mul] at this; omega
    · rw [g2 (by omega)]
      refine Int.not_lt.1 fun hlt => ?_
      have := Int.mul_le_mul_of_nonneg_right (show S ≤ q1 by omega) (show 0 ≤ N - M by omega)
      omega

theorem spV_bd {r f : Int} {xs : List Int} {g : Int} {ys : List Int} {x n b : Int} (h : SkIn r f xs g ys x n b) : 0 ≤ svV r f xs g ys x n b := by
  unfold svV; rw [if_pos (skE_iff.2 h)]
  exact (h.sum_bd n.toNat (by have := h.n1; omega)).1

end Go.Proofs.YtpdmbmfjeankbaaGreatDoor

/- The model's draw of a sickness table's text. -/
namespace Go.Proofs.YtpdmbmfjeankbaaGreatDoor
open Go.ChangeShapes Go.WideShapes Go.ChangeAt Go.RowKit
set_option linter.unusedVariables false

/-- some text, not too long -/
def TxPostK (w : World) (e : Ending) (w' : World) : Prop := ∃ s : ByteArray, e = .returned (.string s) ∧ s.size ≤ 100000 ∧ Below w.heap.size w w'

set_option maxRecDepth 100000 in
set_option maxHeartbeats 1000000 in
theorem drawRK (a : Option Addr) (l c : Nat) (z : List Int) (w : World) (hr : IsRow .u8 w a l c z) : Calls Tryz.prog 12 #[.slice a l c] w (TxPostK w) := by
  have HR := Lib.hid hr
  clear hr
  go_enter Tryz.func12, Tryz.ntmps12
  go_wp2_with fail
  refine (from_any _ _ _ z _ HR.out).mono ?_
  rintro e w1 ⟨rfl, hs, hz, hb⟩
  have HS := Lib.hid (ready_of HR.out hs hb)
  have HB := Lib.hid hb
  have hsz : w1.heap.size = w.heap.size + 1 := hz
  clear hs hz hb
  go_wp2_with fail
  refine (dsick _ _ _ _ _ _ HS.out).mono ?_
  rintro e w2 ⟨F, ta, tn, tc, xs, rfl, hI, htc, htn, f0, f1, far, ho, hs⟩
  have HS2 := Lib.hid hs
  have HB2 := Lib.hid (HB.out.trans (ho.below (Nat.le_refl _) (by omega)))
  have HI := Lib.hid hI
  clear hs ho hI far HB
  go_wp2_with fail
  refine (sst_spec F xs _ _ _ _ HI.out).mono ?_
  rintro e w3 ⟨rfl, hb⟩
  have htl := skT_len F xs
  obtain ⟨t, ht⟩ : ∃ t : ByteArray, (⟨(skT F xs).toArray⟩ : ByteArray) = t := ⟨_, rfl⟩
  have hts : t.size ≤ 3000 := by rw [← ht]; show (skT F xs).toArray.size ≤ 3000; simpa using htl
  rw [ht]
  have HB3 := Lib.hid (HB2.out.trans (hb.mono HB2.out.size))
  have HS3 := Lib.hid (HS2.out.below hb HS2.out.here)
  clear ht htl hb HS2 HB2
  go_wp2_with fail
  refine (next_r _ _ _ _ _ _ _ HS3.out).mono ?_
  rintro e w4 ⟨r, rfl, hd, ho, hs⟩
  have HS4 := Lib.hid hs
  have HB4 := Lib.hid (HB3.out.trans (ho.below (Nat.le_refl _) (by have := HB3.out.size; have := HS3.out.here; omega)))
  clear hd ho hs HB3 HS3
  by_cases hr0 : r = 0
  · subst hr0
    go_wp2_with fail
    refine (damage_any _ _ _ _ _ t _ HS4.out (by omega)).mono ?_
    rintro e w5 ⟨u, rfl, hu, ho, hs⟩
    have HB5 := Lib.hid (HB4.out.trans (ho.below (Nat.le_refl _) (by have := HS4.out.here; omega)))
    clear ho hs
    go_wp2_with fail
    go_ret
    exact ⟨u, rfl, by omega, HB5.out⟩
  · have hrb : (r == 0) = false := by simpa using hr0
    go_wp2_with fail
    go_ret
    exact ⟨t, rfl, by omega, HB4.out⟩

end Go.Proofs.YtpdmbmfjeankbaaGreatDoor
