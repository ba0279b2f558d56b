/- The joint table of the program: the parts that make it. -/
import Derived.Test.YtlcmgihaelgclaaGreatJmj
import Derived.Test.YtlcmgihaelgclaaGreatMakeL
import Derived.Lib.SliceRun
namespace Go.Proofs.YtlcmgihaelgclaaGreat
open Go.ChangeShapes Go.WideShapes Go.ChangeAt Go.RowKit
set_option linter.unusedVariables false
set_option maxRecDepth 100000

/-- append of a whole list -/
theorem wpList_apj {w : World} {ops : Array Oper} {rest : List Oper} {o : Oper} {a : Act} {Q : Exit → Act → World → Prop} (hgd : o.guard = none) (s x : Operand)
    (ho : o.op = .call { callee := .builtin .append, args := #[s, x], argTypes := #[24, 24] })
    (base : Nat) (v : Value) (xs ys : List Int) (m cp : Nat) (hs : a.eval s = v) (hown : OwnI base w v xs) (ad : Addr) (hx : a.eval x = .slice (some ad) m cp) (hm : ys.length = m) (hc : ∀ j u, (ys.map (Value.int .i64))[j]? = some u → w.cell? (ad.add j) = some u)
    (hlen : xs.length + ys.length ≤ 4096) (hbase : base ≤ w.heap.size)
    (h : ∀ v' w', OwnI base w' v' (xs ++ ys) → w.grownBy w' v.ownBlock → wpList Tryz.prog ops Q rest (a.put o.dst v') w') : wpList Tryz.prog ops Q (o :: rest) a w := by
  obtain ⟨i0, hi, hz0, hz1, hz2⟩ := info_parts infoI
  have hmx : maxLen = maxLen := rfl
  unfold maxLen at hmx
  obtain ⟨v', w', hr, h2, h3, h4⟩ := run_append_own (P := Tryz.prog) w base 24 o.type 2 i0 (.int .i64 0) 1 8 Tryz.underlying24 hi hz0 hz1 hz2 rfl (by decide) v xs.length (xs.map (Value.int .i64)) hown ad m cp (ys.map (Value.int .i64)) (by simp [hm]) hc (by intro u hu; obtain ⟨q, _, rfl⟩ := List.mem_map.1 hu; rfl) (by unfold maxLen; omega) (by omega) hbase
  have h6 : OwnI base w' v' (xs ++ ys) := by
    unfold OwnI
    rw [List.length_append, List.map_append, hm]
    exact h2
  refine wpList_plain hgd fun _ hK => ?_
  unfold Oper.wp execOp
  simp only [ho, resolve, invoke, builtin, Sem.run_bind, Sem.run_pure, Result.andThen_ok, List.map_toArray, List.map_cons, List.map_nil, hs, hx, hr]
  exact hK _ _ (h v' w' h6 h3)

/-- the lives from an age on -/
def lfL (f : Int) (xs : List Int) (x : Int) : List Int := if clE f xs x 0 = 0 then xs.drop (x - f).toNat else []

def LvPost (f : Int) (xs : List Int) (a0 : Option Addr) (l0 : Nat) (x : Int) (w : World) (e : Ending) (w' : World) : Prop := ∃ a n c, e = .returned (.tuple #[.slice a n c, .int .i64 (clE f xs x 0)]) ∧ Ints w' a n (lfL f xs x) ∧ (∀ z, a = some z → ∃ z0, a0 = some z0 ∧ z0.block = z.block ∧ 0 < l0) ∧ Below w.heap.size w w'

theorem Ints.drop {w : World} {b off l : Nat} {xs : List Int} (h : Ints w (some ⟨b, off, none⟩) l xs) (k : Nat) (hk : k ≤ l) : Ints w (some ⟨b, off + k, none⟩) (l - k) (xs.drop k) := by
  refine ⟨by rw [List.length_drop, h.len], by have := h.max; omega, .inr ⟨b, off + k, rfl, fun i hi => ?_⟩⟩
  rcases h.cells with h0 | ⟨b', off', he, hc⟩
  · exact absurd h0 (by omega)
  · cases he
    have := hc (k + i) (by omega)
    rw [← Nat.add_assoc] at this
    rw [this, List.getD_eq_getElem?_getD, List.getD_eq_getElem?_getD, List.getElem?_drop]

theorem lf_any (f : Int) (xs : List Int) (a : Option Addr) (l c : Nat) (x : Int) (w : World) (h : Ints w a l xs) (hlc : l ≤ c) :
    Calls Tryz.prog 44 #[.agg #[.int .i64 f, .slice a l c], .int .i64 x] w (LvPost f xs a l x w) := by
  have HC := Lib.hid (living_any f xs a l c x 0 (w.alloc (.cells #[.int .i64 f, .slice a l c] 26)) (h.on (box_b _ _)) hlc)
  have H := Lib.hid h
  have hm := h.max
  have HL := Lib.hid h.len
  clear h
  by_cases h0 : clE f xs x 0 = 0
  case neg =>
    have HV : Hid (lfL f xs x = []) := Lib.hid (by simp [lfL, h0])
    unfold LvPost
    obtain ⟨E, hE⟩ : ∃ E, clE f xs x 0 = E := ⟨_, rfl⟩
    rw [hE] at h0 HC ⊢
    have hne : (E != 0) = true := by simpa using h0
    clear h0 hE
    go_enter Tryz.func44, Tryz.ntmps44
    go_wp2_with fail
    refine HC.out.mono ?_
    rintro e w1 ⟨rfl, hb⟩
    obtain ⟨hB, hc0, hc1⟩ := box2 hb
    have HB := Lib.hid hB
    clear hB hb
    go_wp2_with fail
    go_ret2
    exact ⟨none, 0, 0, rfl, by rw [HV.out]; exact ⟨rfl, by omega, .inl rfl⟩, (fun z hz => by cases hz), HB.out⟩
  obtain ⟨ht, ⟨x0, x1⟩, _, hz⟩ := clE_iff.1 h0
  obtain ⟨f0, f1⟩ := ht.1
  have hd := ht.dead x x0
  have hl := ht.2.1
  rw [HL.out] at hd hl
  have hxl : x < f + l - 1 := by
    by_cases hh : f + l - 1 ≤ x
    · exact absurd (hd.2 hh) hz
    · omega
  have HV : Hid (lfL f xs x = xs.drop (x - f).toNat) := Lib.hid (by simp [lfL, h0])
  rw [h0] at HC
  have HE := Lib.hid h0
  obtain ⟨b, off, rfl, hb, hcc⟩ := H.out.at (by omega)
  obtain ⟨k, hk⟩ : ∃ k : Nat, x - f = (k : Int) := ⟨(x - f).toNat, by omega⟩
  have hk2 : (x - f).toNat = k := by omega
  rw [hk2] at HV
  have q1 : IntKind.i64.wrap (x - f) = (k : Int) := by rw [hk]; exact IntWalk.i64_in _ (by omega)
  have hkl : k < l := by omega
  have hkc : k < c := by omega
  have hkc2 : (k : Int) ≤ (l : Int) := by omega
  have hk0 : (0 : Int) ≤ (k : Int) := by omega
  clear ht hz hd hcc h0 hk2
  unfold LvPost
  go_enter Tryz.func44, Tryz.ntmps44
  go_wp2_with fail
  refine HC.out.mono ?_
  rintro e w1 ⟨rfl, hb⟩
  obtain ⟨hB, hc0, hc1⟩ := box2 hb
  have HB := Lib.hid hB
  clear hB hb
  go_wp2_with fail
  go_ret2
  exact ⟨some ⟨b, off + k, none⟩, l - k, c - k, by rw [HE.out]; rfl, by rw [HV.out]; exact (H.out.on HB.out).drop k (by omega), (fun z hz => by cases hz; exact ⟨_, rfl, rfl, by omega⟩), HB.out⟩

theorem K2.rbi {w : World} {f : Int} {sa : Value} {g : Int} {sb : Value} (T U V : TypeId) (vs : List Value) : K2 w f sa g sb (((w.alloc (.cells #[.int .i64 f, sa] T)).alloc (.cells #[.int .i64 g, sb] U)).alloc (.cells vs.toArray V)) ∧ Bx (((w.alloc (.cells #[.int .i64 f, sa] T)).alloc (.cells #[.int .i64 g, sb] U)).alloc (.cells vs.toArray V)) (w.heap.size + 2) vs := by
  have h1 := K2.new w f sa g sb T U
  have h2 := Bx.new ((w.alloc (.cells #[.int .i64 f, sa] T)).alloc (.cells #[.int .i64 g, sb] U)) vs V
  rw [World.size_alloc, World.size_alloc] at h2
  exact ⟨h1.on (box_b _ _), h2⟩

/-- what both lives' lists are -/
def AkPost (f : Int) (xs : List Int) (x g : Int) (ys : List Int) (y : Int) (w : World) (e : Ending) (w' : World) : Prop :=
  ∃ a1 n1 c1 a2 n2 c2, e = .returned (.tuple #[.agg #[.slice a1 n1 c1, .slice a2 n2 c2], .int .i64 (twE f xs x g ys y true)]) ∧ (twE f xs x g ys y true = 0 → Ints w' a1 n1 (lfL f xs x) ∧ Ints w' a2 n2 (lfL g ys y)) ∧ Below w.heap.size w w'

set_option maxHeartbeats 2000000 in
theorem ask_any (f : Int) (xs : List Int) (a : Option Addr) (l c : Nat) (x : Int) (g : Int) (ys : List Int) (b : Option Addr) (m d : Nat) (y : Int) (w : World) (h : Ints w a l xs) (k : Ints w b m ys) (hlc : l ≤ c) (hmd : m ≤ d) :
    Calls Tryz.prog 43 #[.agg #[.int .i64 f, .slice a l c], .int .i64 x, .agg #[.int .i64 g, .slice b m d], .int .i64 y, .func (.func 44) #[] #[]] w (AkPost f xs x g ys y w) := by
  have H := Lib.hid h
  have K := Lib.hid k
  have H0 := Lib.hid (K2.rbi (w := w) (f := f) (sa := .slice a l c) (g := g) (sb := .slice b m d) 26 26 67 [.slice none 0 0, .slice none 0 0])
  have HK := Lib.hid H0.out.1
  have HR := Lib.hid H0.out.2
  have HFE : Hid (feE x (clE f xs x 0) (clE g ys y 0) = twE f xs x g ys y true) := Lib.hid (fe_cl 0)
  have C1 : Hid (∀ W, Hid (K2 w f (.slice a l c) g (.slice b m d) W) → Calls Tryz.prog 44 #[.agg #[.int .i64 f, .slice a l c], .int .i64 x] W (LvPost f xs a l x W)) := Lib.hid (fun W hW => lf_any f xs a l c x W (H.out.on hW.out.low) hlc)
  have C2 : Hid (∀ W, Hid (K2 w f (.slice a l c) g (.slice b m d) W) → Calls Tryz.prog 44 #[.agg #[.int .i64 g, .slice b m d], .int .i64 y] W (LvPost g ys b m y W)) := Lib.hid (fun W hW => lf_any g ys b m d y W (K.out.on hW.out.low) hmd)
  have HT : Hid (twE f xs x g ys y true = 0 → clE f xs x 0 = 0 ∧ clE g ys y 0 = 0) := Lib.hid (fun e => by
    obtain ⟨hD, _⟩ := tw_iff.1 e
    exact ⟨clE_iff.2 ⟨hD.t, ⟨hD.x0, by have := hD.x1; omega⟩, by omega, by have := hD.tx; omega⟩, clE_iff.2 ⟨hD.u, ⟨hD.y0, hD.y1⟩, by omega, by have := hD.uy; omega⟩⟩)
  unfold AkPost
  unfold LvPost at C1 C2
  obtain ⟨E1, hE1⟩ : ∃ y_, clE f xs x 0 = y_ := ⟨_, rfl⟩
  obtain ⟨E2, hE2⟩ : ∃ y_, clE g ys y 0 = y_ := ⟨_, rfl⟩
  obtain ⟨E, hE⟩ : ∃ y_, twE f xs x g ys y true = y_ := ⟨_, rfl⟩
  rw [hE1] at C1 HFE HT
  rw [hE2] at C2 HFE HT
  rw [hE] at HFE HT ⊢
  have CF : Hid (∀ W, Calls Tryz.prog 64 #[.int .i64 x, .agg #[.int .i64 E1, .int .i64 E2]] W fun e w' => e = .returned (.int .i64 E) ∧ Below W.heap.size W w') := Lib.hid (fun W => by have := first_any x E1 E2 W; rw [HFE.out] at this; exact this)
  clear hE1 hE2 hE h k H0 HFE
  by_cases hz : E = 0
  · subst hz
    go_enter Tryz.func43, Tryz.ntmps43
    go_wp2_with fail
    with_reducible refine (C1.out _ HK).mono ?_
    rintro e w1 ⟨a1, n1, c1, rfl, hi1, ha1, hb⟩
    have HK := Lib.hid (HK.out.on hb)
    have HR := Lib.hid (HR.out.on hb)
    have HI1 := Lib.hid hi1
    have HA1 := Lib.hid ha1
    clear ha1
    obtain ⟨k0, k1, k2, k3, _⟩ := HK.out
    clear hb hi1
    go_wp2_with fail
    with_reducible refine (C2.out _ HK).mono ?_
    rintro e w2 ⟨a2, n2, c2, rfl, hi2, ha2, hb⟩
    have HK := Lib.hid (HK.out.on hb)
    have HR := Lib.hid (HR.out.on hb)
    have HI1 := Lib.hid (HI1.out.on hb)
    have HI2 := Lib.hid hi2
    have HA2 := Lib.hid ha2
    clear ha2
    clear hb hi2 k0 k1 k2 k3
    go_wp2_with fail
    with_reducible refine (CF.out _).mono ?_
    rintro e w3 ⟨rfl, hb⟩
    have HK := Lib.hid (HK.out.on hb)
    have HR := Lib.hid (HR.out.on hb)
    have HI1 := Lib.hid (HI1.out.on hb)
    have HI2 := Lib.hid (HI2.out.on hb)
    have hr0 := HR.out.two.1
    have hr1 := HR.out.two.2
    have hf0 := HR.out.free 0
    have hf1 := HR.out.free 1
    clear hb
    go_wp2_with fail
    have ho : Only (w.heap.size + 2) w3 ((w3.setCell ⟨w.heap.size + 2, 0, none⟩ (.slice a1 n1 c1)).setCell ⟨w.heap.size + 2, 1, none⟩ (.slice a2 n2 c2)) := ((Only.refl _ w3).setCell (p := ⟨w.heap.size + 2, 0, none⟩) rfl _).setCell (p := ⟨w.heap.size + 2, 1, none⟩) rfl _
    refine bodyPost_ret (v := .tuple #[.agg #[.slice a1 n1 c1, .slice a2 n2 c2], .int .i64 0]) (by simp [results, Tryz.results43, go_sem, hr0, hr1]) rfl ⟨a1, n1, c1, a2, n2, c2, rfl, fun _ => ⟨HI1.out.onlyT ho ?_, HI2.out.onlyT ho ?_⟩, HK.out.low.trans (ho.below (by omega))⟩
    · intro z hz
      obtain ⟨z0, h1, h2, h3⟩ := HA1.out z hz
      have := H.out.lt z0 h1 h3
      omega
    · intro z hz
      obtain ⟨z0, h1, h2, h3⟩ := HA2.out z hz
      have := K.out.lt z0 h1 h3
      omega
  · have hne : (E != 0) = true := by simpa using hz
    have hz2 : ∀ {α : Prop}, E = 0 → α := fun e => absurd e hz
    clear hz HT
    go_enter Tryz.func43, Tryz.ntmps43
    go_wp2_with fail
    with_reducible refine (C1.out _ HK).mono ?_
    rintro e w1 ⟨a1, n1, c1, rfl, -, -, hb⟩
    have HK := Lib.hid (HK.out.on hb)
    have HR := Lib.hid (HR.out.on hb)
    obtain ⟨k0, k1, k2, k3, _⟩ := HK.out
    clear hb
    go_wp2_with fail
    with_reducible refine (C2.out _ HK).mono ?_
    rintro e w2 ⟨a2, n2, c2, rfl, -, -, hb⟩
    have HK := Lib.hid (HK.out.on hb)
    have HR := Lib.hid (HR.out.on hb)
    clear hb k0 k1 k2 k3
    go_wp2_with fail
    with_reducible refine (CF.out _).mono ?_
    rintro e w3 ⟨rfl, hb⟩
    have HK := Lib.hid (HK.out.on hb)
    have HR := Lib.hid (HR.out.on hb)
    have hr0 := HR.out.two.1
    have hr1 := HR.out.two.2
    have hf0 := HR.out.free 0
    have hf1 := HR.out.free 1
    clear hb
    go_wp2_with fail
    have ho : Only (w.heap.size + 2) w3 ((w3.setCell ⟨w.heap.size + 2, 0, none⟩ (.slice none 0 0)).setCell ⟨w.heap.size + 2, 1, none⟩ (.slice none 0 0)) := ((Only.refl _ w3).setCell (p := ⟨w.heap.size + 2, 0, none⟩) rfl _).setCell (p := ⟨w.heap.size + 2, 1, none⟩) rfl _
    exact bodyPost_ret (v := .tuple #[.agg #[.slice none 0 0, .slice none 0 0], .int .i64 E]) (by simp [results, Tryz.results43, go_sem, hr0, hr1]) rfl ⟨none, 0, 0, none, 0, 0, rfl, hz2, HK.out.low.trans (ho.below (by omega))⟩

/-! ### the joined list -/

theorem join_any (PB : Nat) (p A B : Int) (w : World) (hc : w.cell? ⟨PB, 0, none⟩ = some (.int .i64 p)) (p1 : 1 ≤ p) (h0 : 0 ≤ A * B) (h1 : A * B ≤ 1000000000000) :
    Calls Tryz.prog 46 #[.int .i64 A, .int .i64 B, .pointer (some ⟨PB, 0, none⟩)] w fun e w' => e = .returned (.int .i64 (A * B / p)) ∧ w = w' := by
  have d0 := Int.ediv_nonneg h0 (show 0 ≤ p by omega)
  have d1 := Int.ediv_le_self p h0
  obtain ⟨M, hM⟩ : ∃ y_, A * B = y_ := ⟨_, rfl⟩
  rw [hM] at h0 h1 d0 d1 ⊢
  have q3 : IntKind.i64.wrap (A * B) = M := by rw [hM]; exact IntWalk.i64_in _ (by omega)
  have q4 : IntKind.i64.wrap (M.tdiv p) = M / p := by rw [Int.tdiv_eq_ediv_of_nonneg h0]; exact IntWalk.i64_in _ (by omega)
  have q5 : M.tdiv p = M / p := Int.tdiv_eq_ediv_of_nonneg h0
  have q6 : ¬ p = 0 := by omega
  clear hM
  go_enter Tryz.func46, Tryz.ntmps46
  go_wp2_with fail
  go_ret
  exact ⟨rfl, rfl⟩

/-- the first zero of a list -/
theorem index_any (ys : List Int) (a : Option Addr) (n c N : Nat) (w : World) (h : Ints w a n ys) (hN : N < n) (hz : ys.getD N 0 = 0) (hp : ∀ j, j < N → ys.getD j 0 ≠ 0) :
    Calls Tryz.prog 47 #[.slice a n c, .int .i64 0] w fun e w' => e = .returned (.int .i64 N) ∧ w = w' := by
  have hm := h.max
  obtain ⟨b, off, rfl, hb, hc⟩ := h.at (by omega)
  have HC := Lib.hid hc
  have HZ := Lib.hid hz
  have HP := Lib.hid hp
  clear hc hz hp h
  go_enter Tryz.func47, Tryz.ntmps47
  go_wp2_with fail
  go_loopw [5, 8] (fun _ i wr => ∃ k : Nat, k ≤ N ∧ i = .int .i64 k ∧ Hid (wr = w)) (fun _ i _ => N - (intOf i).toNat)
  case atStart => exact ⟨0, Nat.zero_le _, rfl, Lib.hid rfl⟩
  case round =>
    obtain ⟨k, hk, rfl, HW⟩ := hrel
    have hw := HW.out
    subst hw
    have hx := HC.out k (by omega)
    have hkn : k < n := by omega
    by_cases hlt : k < N
    · have hne := HP.out k hlt
      obtain ⟨u, hu⟩ : ∃ y_, ys.getD k 0 = y_ := ⟨_, rfl⟩
      rw [hu] at hx hne
      have hu2 : (0 == u) = false := by simp; omega
      clear hu hne
      go_wp2_with fail
      go_roundw
      case rel => exact ⟨k + 1, by omega, by go_num, by first | exact Lib.hid rfl | exact Lib.hid trivial⟩
      case measure => simp [intOf]; omega
    · obtain rfl : k = N := by omega
      rw [HZ.out] at hx
      go_wp2_with fail
      go_ret
      exact ⟨rfl, rfl⟩

/-- a copy of a list, in memory of the call's own -/
theorem own_sh4 {base : Nat} {w : World} {v : Value} {ys : List Int} (h : OwnI base w v ys) (hl : 0 < ys.length) : ∃ g n c, v = .slice (some ⟨g, 0, none⟩) n c ∧ base ≤ g ∧ n = ys.length ∧ n ≤ c := by
  obtain ⟨_, h0 | ⟨g, cap, cur, hv, hb, _, hn, _⟩⟩ := h
  · omega
  · exact ⟨g, _, cap, hv, hb, rfl, hn⟩

def ClPost (ys : List Int) (w : World) (e : Ending) (w' : World) : Prop := ∃ g n c, e = .returned (.slice (some ⟨g, 0, none⟩) n c) ∧ TbR w.heap.size w' (some ⟨g, 0, none⟩) n ys ∧ n ≤ c ∧ Below w.heap.size w w'

theorem clone_any (ys : List Int) (a : Option Addr) (n c : Nat) (w : World) (h : Ints w a n ys) (hn : 0 < n) (hn2 : n ≤ 4096) :
    Calls Tryz.prog 48 #[.slice a n c] w (ClPost ys w) := by
  have HL := Lib.hid h.len
  obtain ⟨b, off, rfl, hb, hc⟩ := h.at hn
  have HC : Hid (∀ j u, (ys.map (Value.int .i64))[j]? = some u → (w.alloc (.cells #[] 2)).cell? ((⟨b, off, none⟩ : Addr).add j) = some u) := Lib.hid (fun j u hj => by
    have hl := (List.getElem?_eq_some_iff.1 hj).1
    rw [List.length_map, h.len] at hl
    rw [Addr.add_lit]
    refine keep2 (box_b _ _) ?_
    rw [hc j hl]
    have : (ys.map (Value.int .i64))[j]? = some (.int .i64 (ys.getD j 0)) := by simp [List.getD, show j < ys.length by rw [h.len]; exact hl]
    rw [this] at hj
    exact hj)
  have HO := Lib.hid (ownI_new w)
  have q22 : ∀ (w : World) (a : Option Addr) (n c n' c' : Nat), (binOp .eql 24 (.slice a n c) (.slice none n' c')).run Tryz.prog w = .ok (.bool a.isNone) w := fun w a n c n' c' => Lib.run_eql_slice_nil w _ _ a n c n' c' Tryz.underlying24
  clear h hc
  go_enter Tryz.func48, Tryz.ntmps48
  go_wp2_with (at_builtin; refine wpList_apj rfl _ _ rfl w.heap.size _ [] ys n c rfl HO.out ⟨b, off, none⟩ rfl HL.out HC.out (by simp; have := HL.out; omega) (by simp) ?_)
  intro v' w1 hown hgrow
  obtain ⟨g, m, cc, rfl, hg, hm, hmc⟩ := own_sh4 hown (by have := HL.out; omega)
  have hrow : RowI w1 g 0 ys := by subst hm; exact hown.row
  have hB : Below w.heap.size w w1 := ((Below.refl _ w).alloc (Nat.le_refl _) _).grown hgrow (by simp) (fun k hk => by simp [Value.ownBlock] at hk; omega)
  have HR := Lib.hid hrow
  have HB := Lib.hid hB
  clear hown hgrow hrow hB
  go_wp2_with fail
  go_ret
  exact ⟨g, m, cc, rfl, ⟨hm.symm, by have := HL.out; omega, .inr ⟨g, 0, rfl, hg, HR.out.lt (by have := HL.out; omega), HR.out⟩⟩, hmc, HB.out⟩

end Go.Proofs.YtlcmgihaelgclaaGreat
