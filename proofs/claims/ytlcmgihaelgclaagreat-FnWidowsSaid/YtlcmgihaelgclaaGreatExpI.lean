/- ExpectedYears of the program: what the calls return. | MeanPayments: the model's and the program's answer alike; what the years still lived are made of. -/
import Derived.Test.YtlcmgihaelgclaaGreatIter
import Derived.Test.YtlcmgihaelgclaaGreatTabN
namespace Go.Proofs.YtlcmgihaelgclaaGreat
open Go.ChangeShapes Go.WideShapes Go.ChangeAt Go.RowKit Go.Shelf
set_option linter.unusedVariables false
attribute [local go_sem] Oper.semAt_some

theorem aftr_any (Zs : Array Value) (x : Int) (w : World) :
    Calls Tryz.prog 51 #[.agg Zs, .int .i64 x] w fun e w' => e = .returned (.func (.func 67) #[] #[.pointer (some ⟨w.heap.size + 1, 0, none⟩), .pointer (some ⟨w.heap.size, 0, none⟩)]) ∧ w' = (w.alloc (.cells Zs 75)).alloc (.cells #[.int .i64 x] 2) := by
  go_enter Tryz.func51, Tryz.ntmps51
  go_wp2_with fail
  go_ret
  exact ⟨rfl, rfl⟩

theorem byL_small {f : Int} {xs : List Int} (h : LTab f xs) : Small (byL f xs) := by
  intro i
  by_cases hi : f.toNat ≤ i
  · rw [byL_get _ _ _ hi]; exact ⟨h.nonneg _, h.le _⟩
  · unfold byL
    rw [List.getD_eq_getElem?_getD, List.getElem?_append_left (by simp; omega)]
    simp [show i < f.toNat by omega]

/-- the sum of what has come -/
def sumA (pre : List AL) : Int := (pre.map (fun p => p.1.2)).sum

theorem sumA_snoc (pre : List AL) (x : AL) : sumA (pre ++ [x]) = sumA pre + x.1.2 := by simp [sumA]

theorem sumA_bd (pre : List AL) : 0 ≤ sumA pre ∧ sumA pre ≤ pre.length * 1000000 := by
  induction pre with
  | nil => simp [sumA]
  | cons p r ih =>
    have := p.2
    simp only [sumA, List.map_cons, List.sum_cons, List.length_cons] at ih ⊢
    omega

theorem sumA_upto {f : Int} {xs : List Int} (h : LTab f xs) (hs : Small (byL f xs)) (n k : Nat) (hn : f ≤ n) : sumA (uptoA (byL f xs) hs n k) = partSum f xs n k := by
  induction k with
  | zero => simp [uptoA, sumA, partSum_zero]
  | succ k ih =>
    rw [uptoA_succ, sumA_snoc, ih, partSum_succ _ _ _ _ hn]
    congr 1
    show (byL f xs).getD (n + 1 + k) 0 = _
    have := h.by ((n : Int) + 1 + k) (by omega)
    rw [← this]
    congr 1

set_option maxRecDepth 100000 in
set_option maxHeartbeats 2000000 in
theorem ex_impl (f : Int) (xs : List Int) (a : Option Addr) (l c : Nat) (x : Int) (w : World) (h : Ints w a l xs) (hlc : l ≤ c) :
    Calls Tryz.prog 23 #[.agg #[.int .i64 f, .slice a l c], .int .i64 x] w fun e w' => e = .returned (.tuple #[.int .i64 (exN f xs x), .int .i64 (exD f xs x), .int .i64 (clE f xs x 0)]) ∧ Below w.heap.size w w' := by
  have HC := Lib.hid (living_any f xs a l c x 0 (w.alloc (.cells #[.int .i64 f, .slice a l c] 26)) (h.on (box_b _ _)) hlc)
  have H := Lib.hid h
  clear h
  by_cases h0 : clE f xs x 0 = 0
  case neg =>
    have HV := Lib.hid (ex_n h0)
    obtain ⟨E, hE⟩ : ∃ E, clE f xs x 0 = E := ⟨_, rfl⟩
    rw [hE] at h0 HC ⊢
    have hne : (E != 0) = true := by simpa using h0
    clear h0 hE
    go_enter Tryz.func23, Tryz.ntmps23
    go_wp2_with fail
    refine HC.out.mono ?_
    rintro e w1 ⟨rfl, hb⟩
    obtain ⟨hB, hc0, hc1⟩ := box2 hb
    have HB := Lib.hid hB
    clear hB hb
    go_wp2_with fail
    go_ret3
    exact ⟨ret_iii HV.out.1.symm HV.out.2.symm rfl, HB.out⟩
  obtain ⟨ht, ⟨x0, x1⟩, _, hz⟩ := clE_iff.1 h0
  obtain ⟨f0, f1⟩ := ht.1
  obtain ⟨n, rfl⟩ := Int.eq_ofNat_of_zero_le (show 0 ≤ x by omega)
  have hfit := ht.2.2.1
  obtain ⟨b11, b12⟩ := ht.later_bd n x0
  obtain ⟨b21, b22⟩ := ht.lvs_bd n
  obtain ⟨v, hv⟩ : ∃ v, lvs f xs (n : Int) = v := ⟨_, rfl⟩
  obtain ⟨u, hu⟩ : ∃ u, laterSum f xs (n : Int) = u := ⟨_, rfl⟩
  rw [hu] at b11 b12
  rw [hv] at b21 b22 hz
  rw [h0] at HC
  have hv1 : 1 ≤ v := by omega
  have HV := Lib.hid (ex_0 h0 hu hv)
  have HE := Lib.hid h0
  have HT := Lib.hid ht
  have HVV := Lib.hid hv
  have hsm := byL_small ht
  have HS : Hid (sumA (uptoA (byL f xs) hsm n (150 - n)) = u) := Lib.hid (by
    rw [sumA_upto ht hsm n _ x0, ← hu]
    exact ht.partSum_end _ _ (by have := ht.2.1; omega) x0)
  have C3 := Lib.hid (fun W => low_any u v W b11 (by omega) hv1 (by omega))
  obtain ⟨N, hN⟩ : ∃ N, u / gcdI u v = N := ⟨_, rfl⟩
  obtain ⟨D, hD⟩ : ∃ D, v / gcdI u v = D := ⟨_, rfl⟩
  rw [hN, hD] at HV
  rw [hN, hD] at C3
  have hn : n ≤ 150 := by omega
  clear h0 ht hu hv hz hN hD hfit
  refine calls_of_wp_marks Tryz.func23 rfl ?_
  simp only [Tryz.ntmps23, List.size_toArray, List.length_cons, List.length_nil, Nat.reduceAdd, Nat.reduceSub, Array.replicate_succ, Array.replicate_zero, List.push_toArray, List.append_toArray, List.nil_append, List.cons_append]
  go_wp2_with fail
  refine HC.out.mono ?_
  rintro e w1 ⟨rfl, hb⟩
  obtain ⟨hB, hc0, hc1⟩ := box2 hb
  have HB := Lib.hid hB
  clear hB hb
  go_wp2_with fail
  refine (byAge_r f xs _ _ _ _ (H.out.on HB.out) HT.out).mono ?_
  rintro e w2 ⟨Zs, rfl, hz, hb⟩
  have HB2 := Lib.hid (HB.out.trans (hb.mono HB.out.size))
  have hrow := heap_alloc_new w2 (.cells Zs 75)
  have hrow2 : ((w2.alloc (.cells Zs 75)).alloc (.cells #[.int .i64 0] 2)).heap[w2.heap.size]? = some (.cells Zs 75 (0, 0)) := (Below.heap_alloc _ _ _ (by simp)).trans hrow
  have HZ := Lib.hid hz
  have HR := Lib.hid hrow2
  clear hb hz hrow hrow2 hc0 hc1
  go_wp2_with (first | (refine HZ.out.laid rfl (.tmp 8) (.tmp 21) rfl rfl rfl ?_) | (refine wpList_load_row rfl 75 (.tmp 8) rfl w2.heap.size rfl 75 Zs (0, 0) _ HR.out und152 rfl HZ.out.info ?_) | (go_at_call 51; refine (aftr_any _ _ _).mono ?_; rintro e w3 ⟨rfl, rfl⟩))
  have hbd : Below w.heap.size w ((((w2.alloc (.cells Zs 75)).alloc (.cells #[.int .i64 0] 2)).alloc (.cells Zs 75)).alloc (.cells #[.int .i64 (n : Int)] 2)) :=
    (((HB2.out.alloc HB2.out.size _).alloc (by have := HB2.out.size; simp; omega) _).alloc (by have := HB2.out.size; simp; omega) _).alloc (by have := HB2.out.size; simp; omega) _
  have hsz := HB2.out.size
  have hcy : ∀ i, i < 152 → ((((w2.alloc (.cells Zs 75)).alloc (.cells #[.int .i64 0] 2)).alloc (.cells Zs 75)).alloc (.cells #[.int .i64 (n : Int)] 2)).cell? ⟨w2.heap.size + 1 + 1, i, none⟩ = some (.int .i64 ((byL f xs).getD i 0)) := by
    intro i hi
    rw [World.cell?_alloc_lt _ _ _ (by simp)]
    have := HZ.out.cell ((w2.alloc (.cells Zs 75)).alloc (.cells #[.int .i64 0] 2)) i hi
    rw [World.size_alloc, World.size_alloc] at this
    exact this
  have hca : ((((w2.alloc (.cells Zs 75)).alloc (.cells #[.int .i64 0] 2)).alloc (.cells Zs 75)).alloc (.cells #[.int .i64 (n : Int)] 2)).cell? ⟨w2.heap.size + 1 + 1 + 1, 0, none⟩ = some (.int .i64 (n : Int)) := by go_simp
  have hcs : ((((w2.alloc (.cells Zs 75)).alloc (.cells #[.int .i64 0] 2)).alloc (.cells Zs 75)).alloc (.cells #[.int .i64 (n : Int)] 2)).cell? ⟨w2.heap.size + 1, 0, none⟩ = some (.int .i64 0) := by go_simp
  have hfs : ((((w2.alloc (.cells Zs 75)).alloc (.cells #[.int .i64 0] 2)).alloc (.cells Zs 75)).alloc (.cells #[.int .i64 (n : Int)] 2)).frozen? ⟨w2.heap.size + 1, 0, none⟩ = false := by go_simp
  have hcv : ((((w2.alloc (.cells Zs 75)).alloc (.cells #[.int .i64 0] 2)).alloc (.cells Zs 75)).alloc (.cells #[.int .i64 (n : Int)] 2)).cell? ⟨w2.heap.size, n, none⟩ = some (.int .i64 v) := by
    rw [World.cell?_alloc_lt _ _ _ (by simp; omega), World.cell?_alloc_lt _ _ _ (by simp; omega), World.cell?_alloc_lt _ _ _ (by simp), HZ.out.cell w2 n (by omega)]
    have := HT.out.by (n : Int) x0
    rw [Int.toNat_natCast] at this
    rw [this, HVV.out]
  have hz4 : ((((w2.alloc (.cells Zs 75)).alloc (.cells #[.int .i64 0] 2)).alloc (.cells Zs 75)).alloc (.cells #[.int .i64 (n : Int)] 2)).heap.size = w2.heap.size + 1 + 1 + 1 + 1 := by simp
  generalize ((((w2.alloc (.cells Zs 75)).alloc (.cells #[.int .i64 0] 2)).alloc (.cells Zs 75)).alloc (.cells #[.int .i64 (n : Int)] 2)) = W0 at hbd hcy hca hcs hfs hcv hz4 ⊢
  generalize w2.heap.size = X at hsz hcy hca hcs hfs hcv hz4 ⊢
  refine (wpIn_wide (n := 9)).1 (wpIn_rangeFunc_ownF (F := Fence.wide) (n := 9) rfl (by omega) (gf := 67) (lb := #[.pointer (some ⟨X + 1 + 1 + 1, 0, none⟩), .pointer (some ⟨X + 1 + 1, 0, none⟩)]) rfl trivial (enters_of Tryz.func67 (by kernel_rfl) rfl)
    (after_stops (byL f xs) hsm n hn (X + 1 + 1 + 1) (X + 1 + 1) 8 (by omega) W0 (by omega) (by omega) hca hcy) (fun h k => h.trans k) (fun W l o o' hl _ _ _ => SameB.put _ _ _ (by omega)) (Below.refl _ _) (fun _ => rfl)
    (fun pre W => (W.cell? ⟨X + 1, 0, none⟩ = some (.int .i64 (sumA pre)) ∧ W.frozen? ⟨X + 1, 0, none⟩ = false ∧ W.cell? ⟨X, n, none⟩ = some (.int .i64 v)) ∧ Below w.heap.size w W)
    (fun _ _ _ => False)
    (OwnFrom.and (Own.from (fun s A B row hs hg hr => ⟨cell_kept hs.1 hg hr, (frozen_kept hs.1 hg hr).trans hs.2.1, cell_kept hs.2.2 hg hr⟩) _) (ownFrom_below (Nat.le_refl _) (by omega)))
    (fun _ _ _ _ _ hs _ _ => hs)
    ⟨⟨hcs, hfs, hcv⟩, hbd⟩
    (fun p => { tmps := #[.agg #[.int .i64 f, .slice a l c], .int .i64 n, .pointer (some ⟨w.heap.size, 0, none⟩), undef, .int .i64 0, .int .i64 0, .int .i64 0, .int .i64 0, .pointer (some ⟨X, 0, none⟩), .pointer (some ⟨X + 1, 0, none⟩), undef, .int .i64 p.1.2, undef, undef, .agg #[.int .i64 f, .slice a l c], .int .i64 n, .int .i64 0, .int .i64 0, .bool false, undef, .agg #[.int .i64 f, .slice a l c], .agg Zs, .agg Zs, .int .i64 n, .func (.func 67) #[] #[.pointer (some ⟨X + 1 + 1 + 1, 0, none⟩), .pointer (some ⟨X + 1 + 1, 0, none⟩)], .int .i64 p.1.1, .int .i64 p.1.2, undef, undef, undef, undef, undef, undef, undef, undef, undef, undef, undef, undef, undef], defers := [] }) ?assign ?body ?done ?stop)
  case assign =>
    intro l x W K hK
    gi_wp2
    exact hK
  case body =>
    rintro l pre x W ⟨⟨hc, hf, hcv⟩, hB⟩ hlen
    have hsb := sumA_bd pre
    have hxb := x.2
    obtain ⟨s, hs⟩ : ∃ s, sumA pre = s := ⟨_, rfl⟩
    have hsn := sumA_snoc pre x
    rw [hs] at hc hsb hsn
    obtain ⟨hs0, hs1⟩ := hsb
    obtain ⟨hx0, hx1⟩ := hxb
    have hs2 : s ≤ 150000000 := by omega
    have HSN := Lib.hid hsn
    clear hs hsn hs1
    gi_wp2
    exact ⟨KeepsOthers.setCell _ _ _, Below.heap_setCell _ _ _ _ (by simp), ⟨by rw [HSN.out]; exact World.cell?_setCell_same' _ _ _ (by rw [hc]; rfl), by rw [World.frozen?_setCell]; exact hf, by rw [World.cell?_setCell_other _ _ _ _ (by simp)]; exact hcv⟩, hB.setCell (p := ⟨X + 1, 0, none⟩) (by show w.heap.size ≤ X + 1; omega) _⟩
  case done =>
    rintro D ys W hD rfl ⟨⟨hc, hf, hcv⟩, hB⟩ hK
    rw [HS.out] at hc
    have hn152 : (n : Int) < 152 := by omega
    have HB5 := Lib.hid hB
    have HK := Lib.hid hK
    clear hB hK hf
    go_wp2_with fail
    go_quiet ((go_at_call 52; exact Calls.quiet_of (C3.out _)))
    go_wp2_with fail
    refine ⟨by simp, .inl ⟨_, _, rfl, run_takeDeferred (show (W.drewN nq).heap[D]? = _ from HK.out), ?_⟩⟩
    exact ⟨_, results_tmp3 rfl _ _ _, by simp [HV.out.1, HV.out.2, HE.out], (below_drewN HB5.out nq).trans (belowK_b (w := W0) (by omega) _ D _ _ hD (show (W.drewN nq).heap[D]? = _ from HK.out) rfl rfl)⟩
  case stop =>
    rintro D c pre W _ _ h _
    exact h.elim

open Go.ChangeShapes Go.WideShapes Go.ChangeAt Go.RowKit

theorem ex_bd (f : Int) (xs : List Int) (x : Int) : (0 ≤ exN f xs x ∧ exN f xs x ≤ 120000000) ∧ 0 ≤ exD f xs x ∧ exD f xs x ≤ 1000000 := by
  by_cases h : clE f xs x 0 = 0
  · obtain ⟨ht, ⟨x0, x1⟩, _, _⟩ := clE_iff.1 h
    obtain ⟨a0, a1⟩ := ht.later_bd x x0
    obtain ⟨b0, b1⟩ := ht.lvs_bd x
    obtain ⟨e1, e2⟩ := ex_0 h rfl rfl
    have g0 : 0 ≤ gcdI (laterSum f xs x) (lvs f xs x) := by unfold gcdI; omega
    rw [e1, e2]
    have h1 := Int.ediv_nonneg a0 g0
    have h2 := Int.ediv_nonneg b0 g0
    have h3 := Int.ediv_le_self (gcdI (laterSum f xs x) (lvs f xs x)) a0
    have h4 := Int.ediv_le_self (gcdI (laterSum f xs x) (lvs f xs x)) b0
    omega
  · obtain ⟨e1, e2⟩ := ex_n h
    rw [e1, e2]; omega

/-- the later lives are the next ones and what comes behind them -/
theorem later_next (f : Int) (xs : List Int) (x : Int) (hx : f ≤ x) : laterSum f xs x = lvs f xs (x + 1) + laterSum f xs (x + 1) := by
  unfold laterSum lvs
  rw [show (x + 1 - f).toNat = (x - f).toNat + 1 by omega]
  obtain ⟨k, hk⟩ : ∃ k, (x - f).toNat + 1 = k := ⟨_, rfl⟩
  rw [hk]
  by_cases hl : k < xs.length
  · rw [List.drop_eq_getElem_cons hl, List.sum_cons, List.getD_eq_getElem?_getD, List.getElem?_eq_getElem hl]; rfl
  · rw [List.drop_of_length_le (by omega), List.drop_of_length_le (by omega), List.getD_eq_getElem?_getD, List.getElem?_eq_none (by omega)]; rfl

/-- a fraction in lowest terms, found again -/
theorem gcd_parts (u p : Int) (u0 : 0 ≤ u) (p0 : 1 ≤ p) : ∃ a b g : Int, u / gcdI u p = a ∧ p / gcdI u p = b ∧ 0 ≤ a ∧ 1 ≤ b ∧ p % b = 0 ∧ p / b = g ∧ a * g = u ∧ 1 ≤ g ∧ g ≤ p ∧ a ≤ u := by
  obtain ⟨m, rfl⟩ := Int.eq_ofNat_of_zero_le u0
  obtain ⟨n, rfl⟩ := Int.eq_ofNat_of_zero_le (show 0 ≤ p by omega)
  have hg : 0 < Nat.gcd m n := Nat.gcd_pos_of_pos_right m (by omega)
  have e : gcdI (m : Int) (n : Int) = ((Nat.gcd m n : Nat) : Int) := by simp [gcdI]
  obtain ⟨m', hm⟩ := Nat.gcd_dvd_left m n
  obtain ⟨n', hn⟩ := Nat.gcd_dvd_right m n
  rw [e]
  obtain ⟨g, hgg⟩ : ∃ g, Nat.gcd m n = g := ⟨_, rfl⟩
  rw [hgg] at hg hm hn ⊢
  have em : m / g = m' := Nat.div_eq_of_eq_mul_right hg hm
  have en : n / g = n' := Nat.div_eq_of_eq_mul_right hg hn
  have hn0 : 0 < n' := by
    by_cases h : n' = 0
    · subst h; omega
    · omega
  have eg : n / n' = g := Nat.div_eq_of_eq_mul_left hn0 hn
  have er : n % n' = 0 := by rw [hn]; exact Nat.mul_mod_left g n'
  refine ⟨(m' : Int), (n' : Int), (g : Int), by rw [← em]; rfl, by rw [← en]; rfl, by omega, by omega, by exact_mod_cast er, by rw [← eg]; rfl, ?_, by omega, ?_, ?_⟩
  · rw [hm]; push_cast; rw [Int.mul_comm]
  · have := Nat.le_of_dvd (show 0 < n by omega) (show g ∣ n from ⟨n', hn⟩); omega
  · have : m' ≤ m := by rw [← em]; exact Nat.div_le_self _ _
    omega

end Go.Proofs.YtlcmgihaelgclaaGreat
