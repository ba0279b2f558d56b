/- Assurances: the model's natural premiums. -/
import Derived.Test.YtnimmkbpcmgeaaaAsu
import Derived.Test.YtnimmkbpcmgeaaaAnnL
import Derived.Deep.RegionHeld3
namespace Go.Proofs.Ytnimmkbpcmgeaaa
open Go.ChangeShapes Go.WideShapes Go.ChangeAt Go.RowKit
set_option linter.unusedVariables false
set_option maxRecDepth 100000

/-- are n columns D from k on not 0? -/
def npB (r : Int) (xs : List Int) (k n : Nat) : Bool := (List.range n).all fun j => decide (cD r xs (k + j) ≠ 0)

def npE (r f : Int) (xs : List Int) (x n b : Int) : Int := if asE r f xs 1 x n b = 0 then (if npB r xs (x - f).toNat n.toNat = true then 0 else 5) else asE r f xs 1 x n b

def npF (r : Int) (xs : List Int) (b : Int) (k : Nat) (j : Nat) : Int := upV b (cC r xs (k + j)) (cD r xs (k + j))

def npY (r f : Int) (xs : List Int) (x n b : Int) : List Int := if npE r f xs x n b = 0 then colL (npF r xs b (x - f).toNat) n.toNat else []

theorem npB_no {r : Int} {xs : List Int} {k n j : Nat} (hj : j < n) (h : cD r xs (k + j) = 0) : npB r xs k n = false := by
  unfold npB
  rw [List.all_eq_false]
  exact ⟨j, by simpa using hj, by simp [h]⟩

theorem npB_yes {r : Int} {xs : List Int} {k n : Nat} (h : ∀ j, j < n → cD r xs (k + j) ≠ 0) : npB r xs k n = true := by
  unfold npB
  rw [List.all_eq_true]
  intro j hj
  simpa using h j (by simpa using hj)

theorem npB_iff {r : Int} {xs : List Int} {k n : Nat} : npB r xs k n = true ↔ ∀ j, j < n → cD r xs (k + j) ≠ 0 := by
  refine ⟨fun h j hj e => ?_, npB_yes⟩
  rw [npB_no hj e] at h; cases h

theorem LTab.cC_le {f : Int} {xs : List Int} (h : LTab f xs) (r : Int) (r0 : 0 ≤ r) (k : Nat) : 0 ≤ cC r xs k ∧ cC r xs k ≤ cD r xs k ∧ cD r xs k ≤ 1000000000000000 := by
  have e1 := h.cCD r r0 k
  have e2 := (h.cD_bd r r0 (k + 1)).1
  have e3 := (h.cC_bd r r0 k).1
  have e4 := (h.cD_bd r r0 k).2
  omega

set_option maxHeartbeats 8000000 in
theorem snat_any (r f : Int) (xs : List Int) (a : Option Addr) (l c : Nat) (x n b : Int) (w : World) (h : Ints w a l xs) :
    Calls Try.prog 16 #[.agg #[.int .i64 f, .slice a l c], .int .i64 r, .int .i64 x, .int .i64 n, .int .i64 b] w (LsPost (npY r f xs x n b) (npE r f xs x n b) w) := by
  have H := Lib.hid h
  have CA : Hid (∀ W, Hid (Below w.heap.size w W) → Calls Try.prog 36 #[.agg #[.int .i64 f, .slice a l c], .int .i64 r, .int .i64 1, .int .i64 x, .int .i64 n, .bool (inB b 1 100000000)] W fun e w' => e = .returned (.int .i64 (asE r f xs 1 x n b)) ∧ Below W.heap.size W w') :=
    Lib.hid (fun W hW => ascode_any r f xs a l c 1 x n _ W (H.out.on hW.out))
  clear h
  have HY : Hid (npY r f xs x n b = if npE r f xs x n b = 0 then colL (npF r xs b (x - f).toNat) n.toNat else []) := Lib.hid rfl
  have HEE : Hid (npE r f xs x n b = if asE r f xs 1 x n b = 0 then (if npB r xs (x - f).toNat n.toNat = true then 0 else 5) else asE r f xs 1 x n b) := Lib.hid rfl
  obtain ⟨Y, hY⟩ : ∃ y_, npY r f xs x n b = y_ := ⟨_, rfl⟩
  obtain ⟨EE, hEE⟩ : ∃ y_, npE r f xs x n b = y_ := ⟨_, rfl⟩
  obtain ⟨E, hE⟩ : ∃ E, asE r f xs 1 x n b = E := ⟨_, rfl⟩
  rw [hY, hEE] at HY
  rw [hEE, hE] at HEE
  rw [hE] at CA
  rw [hY, hEE]
  have HE := Lib.hid hE
  clear hE hY hEE
  by_cases hz : E = 0
  · subst hz
    obtain ⟨hb, ⟨-, hk⟩, ht, ⟨r0, r1⟩, ⟨x0, x1⟩, ⟨n0, n1⟩, xn, hd⟩ := as_in HE.out
    obtain ⟨f0, f1⟩ := ht.1
    obtain ⟨b0, b1⟩ := (inB_iff _ _ _).1 hb
    obtain ⟨K, hK⟩ : ∃ y_, (x - f).toNat = y_ := ⟨_, rfl⟩
    obtain ⟨m, rfl⟩ : ∃ m : Nat, n = m := ⟨n.toNat, by omega⟩
    have hKx : f + (K : Int) = x := by omega
    rw [hK, Int.toNat_natCast] at HY HEE
    have HT := Lib.hid ht
    have q9 : IntKind.i64.wrap (x + (m : Int)) = x + (m : Int) := IntWalk.i64_in _ (by omega)
    clear ht hb hd HE hk hK
    go_enter Try.func16, Try.ntmps16
    go_wp2_with fail
    go_region_held3 (fun w' => w'.cell? ⟨w.heap.size, 0, none⟩ = some (.int .i64 f) ∧ w'.cell? ⟨w.heap.size, 1, none⟩ = some (.slice a l c) ∧ Hid (Below w.heap.size w w'))
      (first
        | (go_split_ands; exact ⟨by with_reducible assumption, by with_reducible assumption, by with_reducible assumption⟩)
        | (go_split_ands; exact ⟨by go_simp, by go_simp, Lib.hid (Below.drew (box_b _ _))⟩)
        | (go_split_ands; exact ⟨by go_simp, by go_simp, Lib.hid (box_b _ _)⟩)
        | (go_split_ands; exact ⟨keep2 hb (by with_reducible assumption), keep2 hb (by with_reducible assumption), Lib.hid (Below.trans (Hid.out (by with_reducible assumption)) (Below.mono hb (Below.size (Hid.out (by with_reducible assumption)))))⟩)
        | fail)
      (first
        | (go_split_ands; go_at_call 37; ((with_reducible refine (ssum_any _ _).mono ?_); rintro e w' ⟨rfl, rfl⟩))
        | (go_split_ands; go_at_call 36; ((with_reducible refine (CA.out _ (by with_reducible assumption)).mono ?_); rintro e w1 ⟨rfl, hb⟩; have hsz : w.heap.size < w1.heap.size := by (have := hb.size; simp at this; omega)))
        | fail)
    go_split_ands
    have hc0 : w1.cell? ⟨w.heap.size, 0, none⟩ = some (.int .i64 f) := by with_reducible assumption
    have hc1 : w1.cell? ⟨w.heap.size, 1, none⟩ = some (.slice a l c) := by with_reducible assumption
    have HB : Hid (Below w.heap.size w w1) := by with_reducible assumption
    have hown := ownI_new w1
    have hd0 : (w1.alloc (.cells #[] 2)).cell? ⟨w.heap.size, 0, none⟩ = some (.int .i64 f) := keep2 (box_b w1 _) hc0
    have hd1 : (w1.alloc (.cells #[] 2)).cell? ⟨w.heap.size, 1, none⟩ = some (.slice a l c) := keep2 (box_b w1 _) hc1
    have HB1 : Hid (Below w.heap.size w (w1.alloc (.cells #[] 2))) := Lib.hid (HB.out.alloc (by omega) _)
    have hs1 : w1.heap.size ≤ (w1.alloc (.cells #[] 2)).heap.size := by simp
    clear hb CA
    go_wp2_with fail
    clear hc0 hc1 HB
    go_loopw [13, 14] (fun v i wr => ∃ j : Nat, j ≤ m ∧ i = .int .i64 (x + j) ∧ OwnI w1.heap.size wr v (colL (npF r xs b K) j) ∧ wr.cell? ⟨w.heap.size, 0, none⟩ = some (.int .i64 f) ∧ wr.cell? ⟨w.heap.size, 1, none⟩ = some (.slice a l c) ∧ Hid (Below w.heap.size w wr) ∧ w1.heap.size ≤ wr.heap.size ∧ Hid (∀ k, k < j → cD r xs (K + k) ≠ 0)) (fun _ i _ => (x + m - intOf i).toNat)
    case atStart => exact ⟨0, by omega, by go_num, hown, hd0, hd1, HB1, hs1, Lib.hid (fun k hk => by omega)⟩
    case round =>
      clear hown hd0 hd1 HB1 hs1
      obtain ⟨j, hj, rfl, hown, hc0, hc1, HB, hwr, HZ⟩ := hrel
      by_cases hlt : x + (j : Int) < x + m
      · have C2 : Hid (∀ W, Hid (Below w.heap.size w W) → Calls Try.prog 40 #[.agg #[.int .i64 f, .slice a l c], .int .i64 r, .int .i64 (x + j)] W fun e w' => e = .returned (.int .i64 (cD r xs (K + j))) ∧ Below W.heap.size W w') :=
          Lib.hid (fun W hW => by have := sD_any r f xs a l c (x + j) W (H.out.on hW.out) HT.out r0 r1 (by omega) (by omega); rw [show (x + (j : Int) - f).toNat = K + j by omega] at this; exact this)
        have C1 : Hid (∀ W, Hid (Below w.heap.size w W) → Calls Try.prog 46 #[.agg #[.int .i64 f, .slice a l c], .int .i64 r, .int .i64 (x + j)] W fun e w' => e = .returned (.int .i64 (cC r xs (K + j))) ∧ Below W.heap.size W w') :=
          Lib.hid (fun W hW => by have := sC_any r f xs a l c (x + j) W (H.out.on hW.out) HT.out r0 r1 (by omega) (by omega); rw [show (x + (j : Int) - f).toNat = K + j by omega] at this; exact this)
        obtain ⟨c0, c1, c2⟩ := HT.out.cC_le r r0 (K + j)
        have HF : Hid (npF r xs b K j = upV b (cC r xs (K + j)) (cD r xs (K + j))) := Lib.hid rfl
        have HLT : Hid (j < m) := Lib.hid (by omega)
        obtain ⟨D, hD⟩ : ∃ y_, cD r xs (K + j) = y_ := ⟨_, rfl⟩
        have HDD := Lib.hid hD
        obtain ⟨N, hN⟩ : ∃ y_, cC r xs (K + j) = y_ := ⟨_, rfl⟩
        rw [hD] at C2 HF c1 c2
        rw [hN] at C1 HF c0 c1
        clear hD hN
        by_cases hz : D = 0
        · subst hz
          have HE5 : Hid (EE = 5) := Lib.hid (by rw [HEE.out, npB_no HLT.out HDD.out]; simp)
          have HY5 : Hid (Y = []) := Lib.hid (by rw [HY.out, HE5.out]; rfl)
          clear C1 c0 c1 c2
          go_wp2_with fail
          with_reducible refine (C2.out _ HB).mono ?_
          rintro e w3 ⟨rfl, hb⟩
          have HB3 := Lib.hid (HB.out.trans (hb.mono HB.out.size))
          clear hb
          go_wp2_with fail
          go_ret2
          exact ls_nil HB3.out HE5.out HY5.out
        · have hz2 : (D == 0) = false := by simp [hz]
          have CU := Lib.hid (fun W => sup_any b N D W (by omega) (by omega) c0 (by omega) (by omega) (by omega) (by have := quot_le b N D (by omega) c1 (by omega); omega))
          have HZ2 : Hid (∀ k, k < j + 1 → cD r xs (K + k) ≠ 0) := Lib.hid (fun k hk => by
            by_cases e : k = j
            · subst e; rw [HDD.out]; exact hz
            · exact HZ.out k (by omega))
          obtain ⟨U, hU⟩ : ∃ y_, upV b N D = y_ := ⟨_, rfl⟩
          rw [hU] at CU HF
          have HYY : Hid (colL (npF r xs b K) (j + 1) = colL (npF r xs b K) j ++ [U]) := Lib.hid (by rw [colL_snoc, HF.out])
          have HL1 : Hid ((colL (npF r xs b K) j).length ≤ 4096) := Lib.hid (by rw [colL_len]; omega)
          obtain ⟨zs, hzs⟩ : ∃ zs, colL (npF r xs b K) j = zs := ⟨_, rfl⟩
          rw [hzs] at hown HYY HL1
          clear hzs hU hz c0 c1 c2 HZ
          go_wp2_with fail
          with_reducible refine (C2.out _ HB).mono ?_
          rintro e w3 ⟨rfl, hb⟩
          have hd0 := keep2 hb hc0
          have hd1 := keep2 hb hc1
          have HB3 := Lib.hid (HB.out.trans (hb.mono HB.out.size))
          replace hown := hown.on hb
          have hw3 : w1.heap.size ≤ w3.heap.size := Nat.le_trans hwr hb.size
          clear hb hc0 hc1 HB hwr
          go_wp2_with fail
          have hown : OwnI w1.heap.size w3.drew _ zs := hown
          go_region_held3 (fun w' => w'.cell? ⟨w.heap.size, 0, none⟩ = some (.int .i64 f) ∧ w'.cell? ⟨w.heap.size, 1, none⟩ = some (.slice a l c) ∧ Hid (Below w.heap.size w w') ∧ w1.heap.size ≤ w'.heap.size)
            (first
              | (go_split_ands; exact ⟨by with_reducible assumption, by with_reducible assumption, by with_reducible assumption, by with_reducible assumption⟩)
              | (go_split_ands; exact ⟨(hb9.cell (p := ⟨w.heap.size, 0, none⟩) hsz).trans (by with_reducible assumption), (hb9.cell (p := ⟨w.heap.size, 1, none⟩) hsz).trans (by with_reducible assumption), Lib.hid (Below.trans (Hid.out (by with_reducible assumption)) (Below.mono hb9 (by omega))), Nat.le_trans (by with_reducible assumption) hb9.size⟩)
              | (go_split_ands; exact ⟨keep2 hb (by with_reducible assumption), keep2 hb (by with_reducible assumption), Lib.hid (Below.trans (Hid.out (by with_reducible assumption)) (Below.mono hb (Below.size (Hid.out (by with_reducible assumption))))), Nat.le_trans (by with_reducible assumption) hb.size⟩)
              | (go_split_ands; exact ⟨cell_drew hd0, cell_drew hd1, Lib.hid (Below.drew HB3.out), hw3⟩)
              | (go_split_ands; exact ⟨keep2 (box_b _ _) (by with_reducible assumption), keep2 (box_b _ _) (by with_reducible assumption), Lib.hid (Below.alloc (Hid.out (by with_reducible assumption)) (Below.size (Hid.out (by with_reducible assumption))) _), (by (rw [World.size_alloc]; exact Nat.le_succ_of_le (by with_reducible assumption)))⟩)
              | fail)
            (first
              | (go_split_ands; go_at_call 46; ((with_reducible refine (C1.out _ (by with_reducible assumption)).mono ?_); rintro e w' ⟨rfl, hb⟩; replace hown := OwnI.on hown hb))
              | (go_split_ands; go_at_call 40; ((with_reducible refine (C2.out _ (by with_reducible assumption)).mono ?_); rintro e w' ⟨rfl, hb⟩; replace hown := OwnI.on hown hb))
              | (go_split_ands; go_at_call 38; ((with_reducible refine (CU.out _).mono ?_); rintro e w' ⟨rfl, rfl⟩))
              | (go_split_ands; ((refine step_app (by rfl) _ _ (by rfl) w1.heap.size _ zs U (by rfl) (hown.same (fun k hk hl => Below.heap_alloc _ _ _ hl)) _ (by rfl) (one_newC _ U) HL1.out (by with_reducible assumption) ?_); intro v' w5 hown' hgrow hw; have hb9 := app_below hown (by with_reducible assumption) hgrow))
              | fail)
          · go_split_ands
            rw [← HYY.out] at hown'
            have hc0 : w5.cell? ⟨w.heap.size, 0, none⟩ = some (.int .i64 f) := by with_reducible assumption
            have hc1 : w5.cell? ⟨w.heap.size, 1, none⟩ = some (.slice a l c) := by with_reducible assumption
            have HB5 : Hid (Below w.heap.size w w5) := by with_reducible assumption
            have hw5 : w1.heap.size ≤ w5.heap.size := by with_reducible assumption
            go_wp2_with fail
            go_roundw
            case rel => exact ⟨j + 1, by omega, by go_num, hown', hc0, hc1, HB5, hw5, HZ2⟩
            case measure => simp [intOf]; omega
      · go_wp2_with fail
        go_ret2
        have ej : j = m := by omega
        have HE0 : EE = 0 := by rw [HEE.out, npB_yes (by rw [← ej]; exact HZ.out)]; simp
        exact ls_cond hown (by rw [colL_len]; omega) HB.out (by omega) HE0 (by rw [HY.out, HE0, ej]; rfl)
  · have hne : (E != 0) = true := by simp [hz]
    have HEN : Hid (EE = E) := Lib.hid (by rw [HEE.out, if_neg hz])
    have HYN : Hid (Y = []) := Lib.hid (by rw [HY.out, HEN.out, if_neg hz])
    clear hz HY HE HEE
    go_enter Try.func16, Try.ntmps16
    go_wp2_with fail
    go_region_held3 (fun w' => w'.cell? ⟨w.heap.size, 0, none⟩ = some (.int .i64 f) ∧ w'.cell? ⟨w.heap.size, 1, none⟩ = some (.slice a l c) ∧ Hid (Below w.heap.size w w'))
      (first
        | (go_split_ands; exact ⟨by with_reducible assumption, by with_reducible assumption, by with_reducible assumption⟩)
        | (go_split_ands; exact ⟨by go_simp, by go_simp, Lib.hid (Below.drew (box_b _ _))⟩)
        | (go_split_ands; exact ⟨by go_simp, by go_simp, Lib.hid (box_b _ _)⟩)
        | (go_split_ands; exact ⟨keep2 hb (by with_reducible assumption), keep2 hb (by with_reducible assumption), Lib.hid (Below.trans (Hid.out (by with_reducible assumption)) (Below.mono hb (Below.size (Hid.out (by with_reducible assumption)))))⟩)
        | fail)
      (first
        | (go_split_ands; go_at_call 37; ((with_reducible refine (ssum_any _ _).mono ?_); rintro e w' ⟨rfl, rfl⟩))
        | (go_split_ands; go_at_call 36; ((with_reducible refine (CA.out _ (by with_reducible assumption)).mono ?_); rintro e w1 ⟨rfl, hb⟩))
        | fail)
    all_goals
      go_split_ands
      go_wp2_with fail
      go_ret2
      exact ls_nil (Hid.out (by with_reducible assumption)) HEN.out HYN.out

end Go.Proofs.Ytnimmkbpcmgeaaa
