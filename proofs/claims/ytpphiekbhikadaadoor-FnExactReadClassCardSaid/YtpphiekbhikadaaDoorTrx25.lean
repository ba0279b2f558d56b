/- Merged: RtS, RnI. -/
import Derived.Test.YtpphiekbhikadaaDoorTrx11
import Derived.Test.YtpphiekbhikadaaDoorTrx20
import Derived.Test.YtpphiekbhikadaaDoorTrx24

/- ReadTable of the model: what the calls return. -/
namespace Go.Proofs.YtpphiekbhikadaaDoor
open Go.ChangeShapes Go.WideShapes Go.ChangeAt Go.RowKit
set_option linter.unusedVariables false
set_option maxRecDepth 100000

/-- what ReadTable hands over: its first age, its lives -/
def trF (l : List UInt8) : Int := if rtO l = true then rnF l else 0

def trY (l : List UInt8) : List Int := if rtO l = true then rnL l else []

def TrPost (l : List UInt8) (w : World) (e : Ending) (w' : World) : Prop :=
  ∃ a n c, e = .returned (.tuple #[.agg #[.int .i64 (trF l), .slice a n c], .bool (rtO l)]) ∧ n ≤ c ∧ TbR w.heap.size w' a n (trY l) ∧ Below w.heap.size w w'

theorem TrPost.bad {l : List UInt8} {w w' : World} (h : rtO l = false) (hb : Below w.heap.size w w') : TrPost l w (.returned (.tuple #[.agg #[.int .i64 0, .slice none 0 0], .bool false])) w' :=
  ⟨none, 0, 0, by simp [trF, h], Nat.le_refl _, ⟨by simp [trY, h], by omega, .inl ⟨rfl, rfl⟩⟩, hb⟩

theorem TrPost.good {l : List UInt8} {w w' : World} {g off n c : Nat} {F : Int} {Y : List Int} (h : rtO l = true) (hF : rnF l = F) (hY : rnL l = Y) (hn : Y.length = n) (hnc : n ≤ c) (hm : n ≤ 4096) (hg : w.heap.size ≤ g) (hl : g < w'.heap.size) (hr : RowI w' g off Y) (hb : Below w.heap.size w w') :
    TrPost l w (.returned (.tuple #[.agg #[.int .i64 F, .slice (some ⟨g, off, none⟩) n c], .bool true])) w' :=
  ⟨some ⟨g, off, none⟩, n, c, by simp [trF, h, hF], hnc, ⟨by simp [trY, h, hY, hn], hm, .inr ⟨g, off, rfl, hg, hl, by simpa [trY, h, hY] using hr⟩⟩, hb⟩

theorem RowI.drop {w : World} {g off : Nat} {x : Int} {ys : List Int} (h : RowI w g off (x :: ys)) : RowI w g (off + 1) ys :=
  ⟨fun i hi => by have := h.cell (i + 1) (by simpa using hi); rw [show off + 1 + i = off + (i + 1) by omega, this, getD_cons_succ], fun i hi => by have := h.free (i + 1) (by simpa using hi); rw [show off + 1 + i = off + (i + 1) by omega]; exact this⟩

/-- a block of two cells that had just been laid when a call was made: not frozen behind it -/
theorem box2f {w w1 : World} {x y : Value} {T : TypeId} (hb : Below (w.alloc (.cells #[x, y] T)).heap.size (w.alloc (.cells #[x, y] T)) w1) (i : Nat) (hi : i < 2) : w1.frozen? ⟨w.heap.size, i, none⟩ = false := by
  refine (hb.frozen (p := ⟨w.heap.size, i, none⟩) (by simp)).trans ?_
  match i, hi with
  | 0, _ => go_simp
  | 1, _ => go_simp

theorem keepf {w1 w2 : World} {p : Addr} (hb : Below w1.heap.size w1 w2) (hl : p.block < w1.heap.size) (h : w1.frozen? p = false) : w2.frozen? p = false := (hb.frozen hl).trans h

/-- the result's two cells are written -/
theorem TrPost.put {l : List UInt8} {w w' : World} {X : Nat} {e : Ending} {u v : Value} (h : TrPost l w e w') (hX : w.heap.size = X) (hne : ∀ F a n c o, e = .returned (.tuple #[.agg #[F, .slice a n c], o]) → ∀ x, a = some x → x.block ≠ X) :
    TrPost l w e ((w'.setCell ⟨X, 0, none⟩ u).setCell ⟨X, 1, none⟩ v) := by
  subst hX
  obtain ⟨a, n, c, rfl, hnc, ⟨h1, h2, h3⟩, hb⟩ := h
  have hn := hne _ _ _ _ _ rfl
  refine ⟨a, n, c, rfl, hnc, ⟨h1, h2, ?_⟩, (hb.setCell (p := ⟨w.heap.size, 0, none⟩) (Nat.le_refl _) _).setCell (p := ⟨w.heap.size, 1, none⟩) (Nat.le_refl _) _⟩
  rcases h3 with h3 | ⟨g, off, rfl, hg, hl, hr⟩
  · exact .inl h3
  · exact .inr ⟨g, off, rfl, hg, by simpa [World.setCell] using hl, hr.only (((Only.refl w.heap.size w').setCell (p := ⟨w.heap.size, 0, none⟩) rfl _).setCell (p := ⟨w.heap.size, 1, none⟩) rfl _) (hn _ rfl)⟩

end Go.Proofs.YtpphiekbhikadaaDoor

/- ReadTable of the program: what the calls return. -/
namespace Go.Proofs.YtpphiekbhikadaaDoor
open Go.ChangeShapes Go.WideShapes Go.ChangeAt Go.RowKit
set_option linter.unusedVariables false
set_option maxRecDepth 100000

theorem make_wide (l : Nat) (hl : l ≤ 1100000) (w : World) :
    (Instr.makeSlice 24 (.int .i64 (l : Int)) (.int .i64 (l : Int))).run Tryd.prog w = .ok (.slice (some ⟨w.heap.size, 0, none⟩) l l) (w.alloc (.cells ((List.replicate l (0 : Int)).map (Value.int .i64)).toArray 2)) := by
  obtain ⟨i0, hi, hz0, hz1, hz2⟩ := info_parts info64
  have h := run_make (P := Tryd.prog) w 24 2 i0 (.int .i64 0) Tryd.underlying24 hi hz0 .i64 .i64 l l (by omega) (Int.le_refl _) (by rw [hz2]; omega) (by omega)
  rw [h, ← made_zero]
  simp [hz1, Value.cells]

theorem Blk.row {w : World} {g : Nat} {xs : List Int} (h : Blk w g xs) : RowI w g 0 xs := ⟨fun i hi => by rw [Nat.zero_add]; exact h.cell i hi, fun i _ => h.free _⟩

theorem vals_len (L : List (List UInt8)) : (vals L).length = L.length := by simp [vals]

theorem vals_get (L : List (List UInt8)) (k : Nat) (h : k < L.length) (v : Int) (hv : pv (L.getD k []) = some v) : (vals L).getD k 0 = v := by
  simp [List.getD, h] at hv
  simp [vals, List.getD, h, hv]

theorem allP_t {L : List (List UInt8)} (h : ∀ j, j < L.length → (pv (L.getD j [])).isSome = true) : allP L = true := by
  unfold allP
  rw [List.all_eq_true]
  intro x hx
  obtain ⟨i, hi, rfl⟩ := List.getElem_of_mem hx
  have := h i hi
  simpa [List.getD, hi] using this

theorem allP_f {L : List (List UInt8)} {k : Nat} (hk : k < L.length) (h : pv (L.getD k []) = none) : allP L = false := by
  unfold allP
  rw [Bool.eq_false_iff]
  intro hh
  rw [List.all_eq_true] at hh
  have := hh (L.getD k []) (by simp [List.getD, hk])
  rw [h] at this; cases this

def RnPost (l : List UInt8) (w : World) (e : Ending) (w' : World) : Prop :=
  ((rnO l = true ∧ ∃ g off n c, e = .returned (.tuple #[.int .i64 (rnF l), .slice (some ⟨g, off, none⟩) n c, .bool true]) ∧ n ≤ c ∧ n ≤ 1100000 ∧ (rnL l).length = n ∧ w.heap.size ≤ g ∧ g < w'.heap.size ∧ RowI w' g off (rnL l)) ∨
    (rnO l = false ∧ e = .returned (.tuple #[.int .i64 0, .slice none 0 0, .bool false]))) ∧ Below w.heap.size w w'

/-- what a reading of a life table asks of the world -/
structure AskT (w : World) : Prop where
  tab : Tab w
  ask : AskE w

theorem AskT.step {w w' : World} (h : AskT w) (hb : Below w.heap.size w w') : AskT w' := ⟨h.tab.stepB h.tab.lt hb, h.ask.step hb⟩

set_option maxHeartbeats 2000000 in
theorem rn_any (s : ByteArray) (w : World) (hs : s.size ≤ 1048576) (ha : AskT w) : Calls Tryd.prog 36 #[.string s] w (RnPost s.data.toList w) := by
  have HA := Lib.hid ha
  have hsz : s.data.toList.length = s.size := by simp
  have hsh := sp_short s.data.toList
  have hwl := wds_len s
  have HSP := Lib.hid (Tryd.strings_Split_shaped s ⟨#[32]⟩ w ha.ask.shape (by omega) (by decide))
  have HW := Lib.hid (wds_get s)
  have hnew := StrB.new w (wds s)
  have hww : wds s = Lib.splitB ⟨#[32]⟩ 0 (Lib.countB s ⟨#[32]⟩) s := rfl
  rw [← hww] at HSP
  have hmap := wds_sp s
  have hjs : Hid (∀ x, (x == s.toList) = (x == s.data.toList)) := Lib.hid (fun x => by rw [toList_eq])
  obtain ⟨l, hl⟩ : ∃ l, s.data.toList = l := ⟨_, rfl⟩
  obtain ⟨D, hD⟩ : ∃ D, wds s = D := ⟨_, rfl⟩
  obtain ⟨n, hn⟩ : ∃ n, Lib.countB s ⟨#[32]⟩ + 1 = n := ⟨_, rfl⟩
  rw [hl] at hsz hsh HW hmap hjs ⊢
  rw [hD] at hwl HW hnew HSP hmap
  rw [hn] at hwl HSP
  have hLn : (sp l).length = n := by rw [← hmap]; simpa using hwl
  have hvl : (vals (sp l)).length = n := by rw [vals_len]; exact hLn
  have hn1 : n ≤ 1100000 := by have := hsh.1; omega
  have hrc := rn_cons l
  have hvw := vals_wide (sp l)
  obtain ⟨xs, hxs⟩ : ∃ xs, vals (sp l) = xs := ⟨_, rfl⟩
  have HRO : Hid (rnO l = (allP (sp l) && (jn xs == l))) := Lib.hid (by unfold rnO; rw [hrc, hxs])
  have HVG : Hid (∀ k, k < n → ∀ v, pv ((sp l).getD k []) = some v → xs.getD k 0 = v) := Lib.hid (fun k hk v hv => by rw [← hxs]; exact vals_get _ k (by omega) v hv)
  rw [hxs] at hrc hvw hvl
  have HPT : Hid ((∀ j, j < n → (pv ((sp l).getD j [])).isSome = true) → allP (sp l) = true) := Lib.hid (fun h => allP_t (fun j hj => h j (by omega)))
  have HPF : Hid (∀ k, k < n → pv ((sp l).getD k []) = none → allP (sp l) = false) := Lib.hid (fun k hk h => allP_f (by omega) h)
  have HXL := Lib.hid hvl
  have HVW := Lib.hid hvw
  have HRC := Lib.hid hrc
  have hsx : ∀ k, k < n → (D.getD k ByteArray.empty).size ≤ 281474976710656 := by
    intro k hk
    have e := HW.out k (by omega)
    have h1 : (D.getD k ByteArray.empty).data.toList.length = (D.getD k ByteArray.empty).size := by simp
    rw [← h1, e]
    have : (sp l).getD k [] ∈ sp l := by simp [List.getD, show k < (sp l).length by omega]
    have := hsh.2 _ this
    omega
  have HSX := Lib.hid hsx
  have hmk := make_wide n hn1
  obtain ⟨X, hX⟩ : ∃ X, w.heap.size = X := ⟨_, rfl⟩
  rw [hX] at hnew HSP
  have hb0 := box_b w (.cells (D.map Value.string).toArray 9)
  have hs0 : (w.alloc (.cells (D.map Value.string).toArray 9)).heap.size = X + 1 := by rw [World.size_alloc, hX]
  generalize w.alloc (.cells (D.map Value.string).toArray 9) = w1 at HSP hnew hb0 hs0
  have HB0 := Lib.hid hb0
  have HNW := Lib.hid hnew
  have HS0 := Lib.hid hs0
  have HDL := Lib.hid hwl
  clear hnew hb0 hs0 hsx hvw hvl hrc hxs hmap hww hn hD hwl ha hl
  go_enter Tryd.func36, Tryd.ntmps36
  go_wp2_with fail
  refine HSP.out.mono ?_
  rintro e w2 ⟨rfl, rfl⟩
  go_wp2_with fail
  have HZ := Lib.hid (Blk.new w2 (List.replicate n (0 : Int)))
  clear hmk HSP
  go_loopw [20] (fun i wr => ∃ k : Nat, k ≤ n ∧ i = .int .i64 k ∧ Hid (Blk wr w2.heap.size (xs.take k ++ List.replicate (xs.length - k) 0)) ∧ Hid (∀ j, j < k → (pv ((sp l).getD j [])).isSome = true) ∧ Hid (Below w2.heap.size w2 wr)) (fun i _ => n - (intOf i).toNat)
  case atStart => exact ⟨0, Nat.zero_le _, rfl, Lib.hid (by have := HZ.out; rw [HXL.out]; simpa using this), Lib.hid (fun j hj => by omega), Lib.hid (box_b _ _)⟩
  case round =>
    obtain ⟨k, hk, rfl, HK, HP, HB⟩ := hrel
    have hB : Below w.heap.size w wr := HB0.out.trans (HB.out.mono HB0.out.size)
    have HBW := Lib.hid hB
    have hs2 : X < w2.heap.size := by have := HS0.out; omega
    have hsw : w2.heap.size ≤ wr.heap.size := HB.out.size
    by_cases hlt : k < n
    · have hx := (HB.out.cell (p := ⟨X, k, none⟩) hs2).trans (HNW.out.cell k (by rw [HDL.out]; exact hlt))
      have hxl := HW.out k (by rw [HDL.out]; exact hlt)
      have hxs := HSX.out k hlt
      have HVK := Lib.hid (HVG.out k hlt)
      have HFK := Lib.hid (HPF.out k hlt)
      obtain ⟨x, hx0⟩ : ∃ x, D.getD k ByteArray.empty = x := ⟨_, rfl⟩
      rw [hx0] at hx hxl hxs
      have HPA := Lib.hid (parse_all x wr hxs (HA.out.ask.step hB))
      unfold ParsePost at HPA
      rw [hxl] at HPA
      clear hx0 hxl hxs hB
      go_wp2_with fail
      refine HPA.out.mono ?_
      rintro e w3 ⟨hres, hb3⟩
      have hbk := HK.out.below hb3 (by have := HK.out.lt; exact this)
      have hB3 := HB.out.trans (hb3.mono hsw)
      have HB3 := Lib.hid hB3
      have HBX := Lib.hid (HBW.out.trans (hb3.mono HBW.out.size))
      have hy := hbk.cell k (by simp; have := HXL.out; omega)
      have hf := hbk.free k
      obtain ⟨u, hu⟩ : ∃ u, (xs.take k ++ List.replicate (xs.length - k) 0).getD k 0 = u := ⟨_, rfl⟩
      rw [hu] at hy
      have HBK := Lib.hid hbk
      clear hu hbk hB3 hb3 HPA hx
      rcases hres with ⟨v, hv, rfl⟩ | ⟨hv, v, N, rfl⟩
      · have HV := Lib.hid (HVK.out v (pv_ok hv))
        have HVS := Lib.hid (pv_ok hv)
        clear hv
        go_wp2_with fail
        go_roundw
        case rel => exact ⟨k + 1, by omega, by go_num, Lib.hid (by have := HBK.out.set k v; rw [← HV.out, set_step xs k (by rw [HXL.out]; exact hlt), HV.out] at this; exact this), Lib.hid (fun j hj => by
          by_cases e : j = k
          · subst e; rw [HVS.out]; rfl
          · exact HP.out j (by omega)), Lib.hid (HB3.out.setCell (p := ⟨w2.heap.size, k, none⟩) (Nat.le_refl _) _)⟩
        case measure => simp [intOf]; omega
      · have HR : Hid (rnO l = false) := Lib.hid (by rw [HRO.out, HFK.out (pv_no hv)]; rfl)
        clear hv
        go_wp2_with fail
        exact bodyPost_ret (v := .tuple #[.int .i64 0, .slice none 0 0, .bool false]) (by simp [results, Tryd.results36, go_sem]) rfl ⟨.inr ⟨HR.out, rfl⟩, HBX.out⟩
    · obtain rfl : k = n := by omega
      have hbk := HK.out
      rw [HXL.out, Nat.sub_self, List.replicate_zero, List.append_nil, List.take_of_length_le (by rw [HXL.out]; exact Nat.le_refl _)] at hbk
      have HAP := Lib.hid (HPT.out HP.out)
      obtain ⟨F, Y, hFY⟩ : ∃ F Y, xs = F :: Y := ⟨_, _, HRC.out.symm⟩
      have HFE : Hid (rnF l = F ∧ rnL l = Y) := Lib.hid (by have := HRC.out; rw [hFY] at this; injection this with h1 h2; exact ⟨h1, h2⟩)
      have hyl : Y.length = k - 1 ∧ 1 ≤ k := by have := HXL.out; rw [hFY] at this; simp at this; omega
      obtain ⟨hyl, hk1⟩ := hyl
      have hfw : -9223372036854775808 ≤ F ∧ F ≤ 9223372036854775807 := HVW.out F (by rw [hFY]; exact List.mem_cons_self)
      have hyw : Wide Y := fun x hx => HVW.out x (by rw [hFY]; exact List.mem_cons_of_mem _ hx)
      rw [hFY] at hbk HRO
      have hr0 := hbk.row
      have hx0 : wr.cell? ⟨w2.heap.size, 0, none⟩ = some (.int .i64 F) := hbk.cell 0 (by simp)
      have hgx := hbk.lt
      have hk0 : 0 < k := hk1
      have hoff : ∃ off, (if k = 1 then some (⟨w2.heap.size, 0, none⟩ : Addr) else some ⟨w2.heap.size, 1, none⟩) = some ⟨w2.heap.size, off, none⟩ ∧ RowI wr w2.heap.size off Y := by
        by_cases e : k = 1
        · have hy0 : Y = [] := List.length_eq_zero_iff.1 (by omega)
          exact ⟨0, by simp [e], ⟨fun i hi => by rw [hy0] at hi; simp at hi, fun i hi => by rw [hy0] at hi; simp at hi⟩⟩
        · exact ⟨1, by simp [e], hr0.drop⟩
      obtain ⟨off, hoff, hr1⟩ := hoff
      have HR1 := Lib.hid hr1
      have HYL := Lib.hid hyl
      have HFW := Lib.hid hfw
      have HYW := Lib.hid hyw
      have HTB := Lib.hid (HA.out.step hB).tab
      clear hbk hr0 hr1 hyl hfw hyw hFY hB
      have hgw : w.heap.size ≤ w2.heap.size := HB0.out.size
      go_wp2_with fail
      go_region
      all_goals
        go_wp2_with fail
        refine (nt_any F Y (some ⟨w2.heap.size, off, none⟩) (k - 1) (k - 1) _ ((HR1.out.ints HYL.out (by omega)).on (below_drewN (Below.refl _ _) 1)) HFW.out.1 HFW.out.2 HYW.out (by omega) (HTB.out.stepB HTB.out.lt (below_drewN (Below.refl _ _) 1))).mono ?_
        rintro e w3 ⟨rfl, hb3⟩
        have hb4 : Below wr.heap.size wr w3 := (below_drewN (Below.refl _ _) 1).trans hb3
        have HB4 := Lib.hid (HBW.out.trans (hb4.mono HBW.out.size))
        have HR4 := Lib.hid (HR1.out.on hb4)
        have hg4 : w2.heap.size < w3.heap.size := Nat.lt_of_lt_of_le hgx hb4.size
        clear hb3 hb4 HR1 HTB
        have hj := hjs.out (jn (F :: Y))
        cases hq : (jn (F :: Y) == l) with
        | true =>
          rw [hq] at hj
          have HR : Hid (rnO l = true) := Lib.hid (by rw [HRO.out, HAP.out, hq]; rfl)
          clear hq
          go_wp2_with fail
          exact bodyPost_ret (v := .tuple #[.int .i64 F, .slice (some ⟨w2.heap.size, off, none⟩) (k - 1) (k - 1), .bool true]) (by simp [results, Tryd.results36, go_sem]) rfl ⟨.inl ⟨HR.out, _, off, _, _, by rw [HFE.out.1], Nat.le_refl _, by omega, by rw [HFE.out.2]; exact HYL.out, hgw, hg4, by rw [HFE.out.2]; exact HR4.out⟩, HB4.out⟩
        | false =>
          rw [hq] at hj
          have HR : Hid (rnO l = false) := Lib.hid (by rw [HRO.out, HAP.out, hq]; rfl)
          clear hq
          go_wp2_with fail
          exact bodyPost_ret (v := .tuple #[.int .i64 0, .slice none 0 0, .bool false]) (by simp [results, Tryd.results36, go_sem]) rfl ⟨.inr ⟨HR.out, rfl⟩, HB4.out⟩

end Go.Proofs.YtpphiekbhikadaaDoor
