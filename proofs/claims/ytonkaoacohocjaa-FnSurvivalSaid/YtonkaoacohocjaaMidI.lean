/- MiddleAge of the program: what the calls return. -/
import Derived.Test.YtonkaoacohocjaaExpI
namespace Go.Proofs.Ytonkaoacohocjaa
open Go.ChangeShapes Go.WideShapes Go.ChangeAt Go.RowKit Go.Shelf
set_option linter.unusedVariables false
attribute [local go_sem] Oper.semAt_some

theorem upto_el {f : Int} {xs : List Int} (h : LTab f xs) (hs : Small (byL f xs)) (n j : Nat) (hn : f ≤ n) : (elA (byL f xs) hs n j).1.1 = (n : Int) + 1 + j ∧ (elA (byL f xs) hs n j).1.2 = lvs f xs ((n : Int) + 1 + j) := by
  refine ⟨by simp [elA], ?_⟩
  show (byL f xs).getD (n + 1 + j) 0 = _
  have := h.by ((n : Int) + 1 + j) (by omega)
  rw [← this]
  congr 1

/-- none so far has at most half of v -/
def NoneA (v : Int) (pre : List AL) : Prop := ∀ p ∈ pre, v < 2 * p.1.2

theorem NoneA.snoc {v : Int} {pre : List AL} {x : AL} (h : NoneA v pre) (hx : v < 2 * x.1.2) : NoneA v (pre ++ [x]) := by
  intro p hp
  rcases List.mem_append.1 hp with hp | hp
  · exact h p hp
  · simp at hp; subst hp; exact hx

theorem none_upto {f : Int} {xs : List Int} (h : LTab f xs) (hs : Small (byL f xs)) (n k : Nat) (hn : f ≤ n) (v : Int) (hh : NoneA v (uptoA (byL f xs) hs n k)) (j : Nat) (hj : j < k) : v < 2 * lvs f xs ((n : Int) + 1 + j) := by
  rw [← (upto_el h hs n j hn).2]
  exact hh _ (List.mem_map.2 ⟨j, by simpa using hj, rfl⟩)

/-- where a round left the loop: the age that came last is the middle age -/
theorem mid_stop {f : Int} {xs : List Int} (h : LTab f xs) (hs : Small (byL f xs)) (n k : Nat) (hn : f ≤ n) (hn2 : n ≤ 150) (v : Int) (hv : lvs f xs n = v) (hv1 : 1 ≤ v) (hk : k ≤ 150 - n) (p : List AL) (x : AL) (e : p ++ [x] = uptoA (byL f xs) hs n k) (hp : NoneA v p) (hx : 2 * x.1.2 ≤ v) : mdV f xs n = x.1.1 := by
  cases k with
  | zero => simp [uptoA] at e
  | succ k =>
    rw [uptoA_succ] at e
    obtain ⟨e1, e2⟩ := List.append_inj' e rfl
    simp only [List.cons.injEq, and_true] at e2
    subst e2
    rw [e1] at hp
    obtain ⟨a1, a2⟩ := upto_el h hs n k hn
    rw [a1]
    rw [a2] at hx
    refine h.mid n _ hn (by omega) (by omega) (by rw [hv]; exact hx) fun y hy0 hy1 => ?_
    rw [hv]
    by_cases hyn : y = n
    · subst hyn; rw [hv]; omega
    · obtain ⟨j, hj⟩ := Int.eq_ofNat_of_zero_le (show 0 ≤ y - n - 1 by omega)
      have := none_upto h hs n k hn v hp j (by omega)
      rw [show (n : Int) + 1 + j = y by omega] at this
      omega

/-- some round leaves the loop -/
theorem mid_done {f : Int} {xs : List Int} (h : LTab f xs) (hs : Small (byL f xs)) (n : Nat) (hn : f ≤ n) (hn2 : n ≤ 149) (v : Int) (hv1 : 1 ≤ v) (hp : NoneA v (uptoA (byL f xs) hs n (150 - n))) : False := by
  have := none_upto h hs n (150 - n) hn v hp (149 - n) (by omega)
  rw [h.lvs_zero _ (by have := h.2.2.1; omega)] at this
  omega

/-- the age that came last, or n -/
def lastA (n : Int) (pre : List AL) : Int := (pre.getLast?.map (fun p => p.1.1)).getD n

theorem lastA_snoc (n : Int) (pre : List AL) (x : AL) : lastA n (pre ++ [x]) = x.1.1 := by simp [lastA]

set_option maxRecDepth 100000 in
set_option maxHeartbeats 2000000 in
theorem mi_impl (f : Int) (xs : List Int) (a : Option Addr) (l c : Nat) (x : Int) (w : World) (h : Ints w a l xs) (hlc : l ≤ c) :
    Calls Try.prog 16 #[.agg #[.int .i64 f, .slice a l c], .int .i64 x] w fun e w' => e = .returned (.tuple #[.int .i64 (miV f xs x), .int .i64 (clE f xs x 0)]) ∧ Below w.heap.size w w' := by
  have HB0 : Hid (Below w.heap.size w ((w.alloc (.cells #[.int .i64 f, .slice a l c] 26)).alloc (.cells #[.int .i64 x] 2))) := Lib.hid ((box_b _ _).alloc (by simp) _)
  have HC := Lib.hid (living_any f xs a l c x 0 ((w.alloc (.cells #[.int .i64 f, .slice a l c] 26)).alloc (.cells #[.int .i64 x] 2)) (h.on HB0.out) hlc)
  have H := Lib.hid h
  clear h
  by_cases h0 : clE f xs x 0 = 0
  case neg =>
    have HV := Lib.hid (mi_n h0)
    obtain ⟨E, hE⟩ : ∃ E, clE f xs x 0 = E := ⟨_, rfl⟩
    rw [hE] at h0 HC ⊢
    have hne : (E != 0) = true := by simpa using h0
    clear h0 hE
    go_enter Try.func16, Try.ntmps16
    go_wp2_with fail
    refine HC.out.mono ?_
    rintro e w1 ⟨rfl, hb⟩
    have HB := Lib.hid (HB0.out.trans (hb.mono (by simp; omega)))
    clear hb
    go_wp2_with fail
    go_ret2
    exact ⟨ret_ii HV.out.symm rfl, HB.out⟩
  obtain ⟨ht, ⟨x0, x1⟩, _, hz⟩ := clE_iff.1 h0
  obtain ⟨f0, f1⟩ := ht.1
  obtain ⟨n, rfl⟩ := Int.eq_ofNat_of_zero_le (show 0 ≤ x by omega)
  have hfit := ht.2.2.1
  obtain ⟨b21, b22⟩ := ht.lvs_bd n
  have hn149 : n ≤ 149 := by
    by_cases hh : n = 150
    · exact absurd (ht.lvs_zero n (by omega)) hz
    · omega
  obtain ⟨v, hv⟩ : ∃ v, lvs f xs (n : Int) = v := ⟨_, rfl⟩
  rw [hv] at b21 b22 hz
  rw [h0] at HC
  have hv1 : 1 ≤ v := by omega
  have HV := Lib.hid (mi_0 h0)
  have HE := Lib.hid h0
  have HT := Lib.hid ht
  have HVV := Lib.hid hv
  have hsm := byL_small ht
  have hn : n ≤ 150 := by omega
  have hn152 : (n : Int) < 152 := by omega
  clear h0 ht hv hz hfit
  refine calls_of_wp_marks Try.func16 rfl ?_
  simp only [Try.ntmps16, List.size_toArray, List.length_cons, List.length_nil, Nat.reduceAdd, Nat.reduceSub, Array.replicate_succ, Array.replicate_zero, List.push_toArray, List.append_toArray, List.nil_append, List.cons_append]
  go_wp2_with fail
  refine HC.out.mono ?_
  rintro e w1 ⟨rfl, hb⟩
  have HB := Lib.hid (HB0.out.trans (hb.mono (by simp; omega)))
  have hc0 : w1.cell? ⟨w.heap.size, 0, none⟩ = some (.int .i64 f) := (hb.cell (p := ⟨w.heap.size, 0, none⟩) (by simp; omega)).trans (by go_simp)
  have hc1 : w1.cell? ⟨w.heap.size, 1, none⟩ = some (.slice a l c) := (hb.cell (p := ⟨w.heap.size, 1, none⟩) (by simp; omega)).trans (by go_simp)
  have ha1 : w1.cell? ⟨w.heap.size + 1, 0, none⟩ = some (.int .i64 n) := (hb.cell (p := ⟨w.heap.size + 1, 0, none⟩) (by simp)).trans (by go_simp)
  clear hb HB0
  go_wp2_with fail
  refine (byAge_r f xs _ _ _ _ (H.out.on HB.out) HT.out).mono ?_
  rintro e w2 ⟨Zs, rfl, hz, hb⟩
  have HB2 := Lib.hid (HB.out.trans (hb.mono HB.out.size))
  have ha2 := keep2 hb ha1
  have hlt2 := block_lt ha2
  have hlt2 : w.heap.size + 1 < w2.heap.size := hlt2
  have hrow := heap_alloc_new w2 (.cells Zs 60)
  have hrow2 : ((w2.alloc (.cells Zs 60)).alloc (.cells #[.int .i64 (n : Int)] 2)).heap[w2.heap.size]? = some (.cells Zs 60 (0, 0)) := (Below.heap_alloc _ _ _ (by simp)).trans hrow
  have HZ := Lib.hid hz
  have HR := Lib.hid hrow2
  have hlt3 : w.heap.size < w2.heap.size := by omega
  have ha4 : ((w2.alloc (.cells Zs 60)).alloc (.cells #[.int .i64 (n : Int)] 2)).cell? ⟨w.heap.size + 1, 0, none⟩ = some (.int .i64 (n : Int)) := by
    rw [World.cell?_alloc_lt _ _ _ (by simp; omega), World.cell?_alloc_lt _ _ _ (by simp; omega)]; exact ha2
  clear hb hz hrow hrow2 hc0 hc1 ha1
  go_wp2_with (first | (refine HZ.out.laid rfl (.tmp 7) (.tmp 18) rfl rfl rfl ?_) | (refine wpList_load_row rfl 60 (.tmp 7) rfl w2.heap.size rfl 60 Zs (0, 0) _ HR.out und152 rfl HZ.out.info ?_) | (go_at_call 52; refine (after_any _ _ _).mono ?_; rintro e w3 ⟨rfl, rfl⟩))
  have hbd : Below w.heap.size w ((((w2.alloc (.cells Zs 60)).alloc (.cells #[.int .i64 (n : Int)] 2)).alloc (.cells Zs 60)).alloc (.cells #[.int .i64 (n : Int)] 2)) :=
    (((HB2.out.alloc HB2.out.size _).alloc (by have := HB2.out.size; simp; omega) _).alloc (by have := HB2.out.size; simp; omega) _).alloc (by have := HB2.out.size; simp; omega) _
  have hsz := HB2.out.size
  have hcy : ∀ i, i < 152 → ((((w2.alloc (.cells Zs 60)).alloc (.cells #[.int .i64 (n : Int)] 2)).alloc (.cells Zs 60)).alloc (.cells #[.int .i64 (n : Int)] 2)).cell? ⟨w2.heap.size + 1 + 1, i, none⟩ = some (.int .i64 ((byL f xs).getD i 0)) := by
    intro i hi
    rw [World.cell?_alloc_lt _ _ _ (by simp)]
    have := HZ.out.cell ((w2.alloc (.cells Zs 60)).alloc (.cells #[.int .i64 (n : Int)] 2)) i hi
    rw [World.size_alloc, World.size_alloc] at this
    exact this
  have hca : ((((w2.alloc (.cells Zs 60)).alloc (.cells #[.int .i64 (n : Int)] 2)).alloc (.cells Zs 60)).alloc (.cells #[.int .i64 (n : Int)] 2)).cell? ⟨w2.heap.size + 1 + 1 + 1, 0, none⟩ = some (.int .i64 (n : Int)) := by go_simp
  have hcs : ((((w2.alloc (.cells Zs 60)).alloc (.cells #[.int .i64 (n : Int)] 2)).alloc (.cells Zs 60)).alloc (.cells #[.int .i64 (n : Int)] 2)).cell? ⟨w2.heap.size + 1, 0, none⟩ = some (.int .i64 (n : Int)) := by go_simp
  have hfs : ((((w2.alloc (.cells Zs 60)).alloc (.cells #[.int .i64 (n : Int)] 2)).alloc (.cells Zs 60)).alloc (.cells #[.int .i64 (n : Int)] 2)).frozen? ⟨w2.heap.size + 1, 0, none⟩ = false := by go_simp
  have hcb : ((((w2.alloc (.cells Zs 60)).alloc (.cells #[.int .i64 (n : Int)] 2)).alloc (.cells Zs 60)).alloc (.cells #[.int .i64 (n : Int)] 2)).cell? ⟨w.heap.size + 1, 0, none⟩ = some (.int .i64 (n : Int)) := by
    rw [World.cell?_alloc_lt _ _ _ (by simp; omega), World.cell?_alloc_lt _ _ _ (by simp; omega)]; exact ha4
  have hcv : ((((w2.alloc (.cells Zs 60)).alloc (.cells #[.int .i64 (n : Int)] 2)).alloc (.cells Zs 60)).alloc (.cells #[.int .i64 (n : Int)] 2)).cell? ⟨w2.heap.size, n, none⟩ = some (.int .i64 v) := by
    rw [World.cell?_alloc_lt _ _ _ (by simp; omega), World.cell?_alloc_lt _ _ _ (by simp; omega), World.cell?_alloc_lt _ _ _ (by simp), HZ.out.cell w2 n (by omega)]
    have := HT.out.by (n : Int) x0
    rw [Int.toNat_natCast] at this
    rw [this, HVV.out]
  have hz4 : ((((w2.alloc (.cells Zs 60)).alloc (.cells #[.int .i64 (n : Int)] 2)).alloc (.cells Zs 60)).alloc (.cells #[.int .i64 (n : Int)] 2)).heap.size = w2.heap.size + 1 + 1 + 1 + 1 := by simp
  clear ha2 ha4
  generalize ((((w2.alloc (.cells Zs 60)).alloc (.cells #[.int .i64 (n : Int)] 2)).alloc (.cells Zs 60)).alloc (.cells #[.int .i64 (n : Int)] 2)) = W0 at hbd hcy hca hcs hfs hcv hcb hz4 ⊢
  generalize w2.heap.size = X at hsz hlt2 hlt3 hcy hca hcs hfs hcv hz4 ⊢
  refine (wpIn_wide (n := 9)).1 (wpIn_rangeFunc_ownF (F := Fence.wide) (n := 9) rfl (by omega) (gf := 67) (lb := #[.pointer (some ⟨X + 1 + 1 + 1, 0, none⟩), .pointer (some ⟨X + 1 + 1, 0, none⟩)]) rfl trivial (enters_of Try.func67 (by kernel_rfl) rfl)
    (after_stops (byL f xs) hsm n hn (X + 1 + 1 + 1) (X + 1 + 1) 8 (by omega) W0 (by omega) (by omega) hca hcy) (fun h k => h.trans k) (fun W l o o' hl _ _ _ => SameB.put _ _ _ (by omega)) (Below.refl _ _) (fun _ => rfl)
    (fun pre W => (W.cell? ⟨X + 1, 0, none⟩ = some (.int .i64 (lastA n pre)) ∧ W.frozen? ⟨X + 1, 0, none⟩ = false ∧ W.cell? ⟨X, n, none⟩ = some (.int .i64 v) ∧ W.cell? ⟨w.heap.size + 1, 0, none⟩ = some (.int .i64 n) ∧ NoneA v pre) ∧ Below w.heap.size w W)
    (fun cc pre W => (W.cell? ⟨X + 1, 0, none⟩ = some (.int .i64 (lastA n pre)) ∧ cc = .exit 0 ∧ ∃ (p : List AL) (x : AL), pre = p ++ [x] ∧ NoneA v p ∧ 2 * x.1.2 ≤ v) ∧ Below w.heap.size w W)
    (OwnFrom.and (Own.from (fun s A B row hs hg hr => ⟨cell_kept hs.1 hg hr, (frozen_kept hs.1 hg hr).trans hs.2.1, cell_kept hs.2.2.1 hg hr, cell_kept hs.2.2.2.1 hg hr, hs.2.2.2.2⟩) _) (ownFrom_below (Nat.le_refl _) (by omega)))
    (fun cc => OwnFrom.and (Own.from (fun s A B row hs hg hr => ⟨cell_kept hs.1 hg hr, hs.2⟩) _) (ownFrom_below (Nat.le_refl _) (by omega)))
    ⟨⟨hcs, hfs, hcv, hcb, fun p hp => by cases hp⟩, hbd⟩
    (fun p => { tmps := #[.agg #[.int .i64 f, .slice a l c], .int .i64 n, .pointer (some ⟨w.heap.size, 0, none⟩), .pointer (some ⟨w.heap.size + 1, 0, none⟩), .int .i64 0, .int .i64 0, .int .i64 0, .pointer (some ⟨X, 0, none⟩), .pointer (some ⟨X + 1, 0, none⟩), .int .i64 p.1.1, .int .i64 p.1.2, .agg #[.int .i64 f, .slice a l c], .int .i64 n, .int .i64 0, .int .i64 0, .bool false, undef, .agg #[.int .i64 f, .slice a l c], .agg Zs, .int .i64 n, .agg Zs, .int .i64 n, .func (.func 67) #[] #[.pointer (some ⟨X + 1 + 1 + 1, 0, none⟩), .pointer (some ⟨X + 1 + 1, 0, none⟩)], .int .i64 p.1.1, .int .i64 p.1.2, undef, undef, undef, undef, undef, undef, undef, undef], defers := [] }) ?assign ?body ?done ?stop)
  case assign =>
    intro l x W K hK
    gi_wp2
    exact hK
  case body =>
    rintro l pre x W ⟨⟨hc, hf, hcv, hcb, hno⟩, hB⟩ hlen
    have hxb := x.2
    obtain ⟨hx0, hx1⟩ := hxb
    have HL := Lib.hid (lastA_snoc n pre x)
    have HN := Lib.hid hno
    have hXw : w.heap.size ≠ X := by omega
    have hXw2 : w.heap.size + 1 ≠ X := by omega
    have hXw3 : X ≠ X + 1 := by omega
    obtain ⟨q, hq⟩ : ∃ q, lastA n pre = q := ⟨_, rfl⟩
    rw [hq] at hc
    clear hno hq
    have hk1 : Hid (KeepsOthers W (W.setCell ⟨X + 1, 0, none⟩ (.int .i64 x.1.1))) := Lib.hid (KeepsOthers.setCell _ _ _)
    have hk2 : Hid (SameB (X + 1 + 1) W (W.setCell ⟨X + 1, 0, none⟩ (.int .i64 x.1.1))) := Lib.hid (Below.heap_setCell _ _ _ _ (by simp))
    have hk3 : Hid ((W.setCell ⟨X + 1, 0, none⟩ (.int .i64 x.1.1)).cell? ⟨X + 1, 0, none⟩ = some (.int .i64 (lastA n (pre ++ [x])))) := Lib.hid (by rw [HL.out]; exact World.cell?_setCell_same' _ _ _ (by rw [hc]; rfl))
    have hk4 : Hid ((W.setCell ⟨X + 1, 0, none⟩ (.int .i64 x.1.1)).frozen? ⟨X + 1, 0, none⟩ = false) := Lib.hid (by rw [World.frozen?_setCell]; exact hf)
    have hk5 : Hid ((W.setCell ⟨X + 1, 0, none⟩ (.int .i64 x.1.1)).cell? ⟨X, n, none⟩ = some (.int .i64 v)) := Lib.hid (by rw [World.cell?_setCell_other _ _ _ _ (by simp)]; exact hcv)
    have hk6 : Hid ((W.setCell ⟨X + 1, 0, none⟩ (.int .i64 x.1.1)).cell? ⟨w.heap.size + 1, 0, none⟩ = some (.int .i64 n)) := Lib.hid (by rw [World.cell?_setCell_other _ _ _ _ (by first | (simp; done) | (simp; omega))]; exact hcb)
    have hk7 : Hid (Below w.heap.size w (W.setCell ⟨X + 1, 0, none⟩ (.int .i64 x.1.1))) := Lib.hid (hB.setCell (p := ⟨X + 1, 0, none⟩) (by show w.heap.size ≤ X + 1; omega) _)
    have hg6 := hk6.out
    have hg5 := hk5.out
    by_cases hle : 2 * x.1.2 ≤ v
    · gi_wp2
      exact ⟨hk1.out, ⟨hk3.out, rfl, pre, x, rfl, HN.out, hle⟩, hk7.out⟩
    · gi_wp2
      exact ⟨hk1.out, hk2.out, ⟨hk3.out, hk4.out, hk5.out, hk6.out, NoneA.snoc HN.out (by omega)⟩, hk7.out⟩
  case done =>
    rintro D ys W hD rfl ⟨⟨hc, hf, hcv, hcb, hno⟩, hB⟩ hK
    exact (mid_done HT.out hsm n x0 hn149 v hv1 hno).elim
  case stop =>
    rintro D cc pre W hD ⟨k, hk, rfl⟩ ⟨⟨hc, rfl, p, y, he, hp, hy⟩, hB⟩ hK
    have HM := Lib.hid (mid_stop HT.out hsm n k x0 hn v HVV.out hv1 hk p y he.symm hp hy)
    rw [he, lastA_snoc] at hc
    have HB5 := Lib.hid hB
    have HK := Lib.hid hK
    obtain ⟨q, hq⟩ : ∃ q, y.1.1 = q := ⟨_, rfl⟩
    rw [hq] at hc HM
    clear hB hK hp hy he hq
    refine wpIn_wide.2 ?_
    go_wp2_with fail
    refine ⟨by simp, .inl ⟨_, _, rfl, run_takeDeferred HK.out, ?_⟩⟩
    exact ⟨_, results_tmp2 rfl _ _ _, by simp [HV.out, HM.out, HE.out], HB5.out.trans (belowK_b (w := W0) (by omega) _ D _ _ hD HK.out rfl rfl)⟩

end Go.Proofs.Ytonkaoacohocjaa
