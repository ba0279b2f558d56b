/- Assurances: the program's NaturalPremiums. (Written by wip/gen/aso.py.) -/
import Derived.Test.YtnimmkbpcmgeaaaAsi
import Derived.Test.YtnimmkbpcmgeaaaAsl
namespace Go.Proofs.Ytnimmkbpcmgeaaa
open Go.ChangeShapes Go.WideShapes Go.ChangeAt Go.RowKit
set_option linter.unusedVariables false
set_option maxRecDepth 100000

/-- the code but for the columns D -/
theorem np_ak (r f : Int) (xs : List Int) (x n b : Int) : npE r f xs x n b = if akE r f xs x (inB b 1 100000000 && fitB 1 n) n = 0 then (if npB r xs (x - f).toNat n.toNat = true then 0 else 5) else akE r f xs x (inB b 1 100000000 && fitB 1 n) n := by
  unfold npE asE
  have h := anE_ak r f xs x (inB b 1 100000000 && fitB 1 n) n
  by_cases h1 : akE r f xs x (inB b 1 100000000 && fitB 1 n) n = 0
  · rw [if_pos h1] at h
    rw [if_pos h1]
    by_cases h2 : cD r xs (x - f).toNat = 0
    · rw [if_pos h2] at h
      rw [h, if_neg (by omega)]
      obtain ⟨-, hb, ⟨n0, n1⟩, -⟩ := akE_iff.1 h1
      rw [Bool.and_eq_true] at hb
      have hn : n ≠ 0 := fun e => absurd ((fitB_iff.1 hb.2).2.2 e) (by omega)
      rw [npB_no (j := 0) (by omega) (by simpa using h2)]
      simp
    · rw [if_neg h2] at h
      rw [h, if_pos rfl]
  · rw [if_neg h1] at h
    rw [h, if_neg h1]

theorem numK_1 (r : Int) {f : Int} {xs : List Int} (h : LTab f xs) (m : Nat) : numK 1 (cD r xs m) (cN r xs m) (cC r xs m) (cM r xs m) (cD r xs (m + 1)) (cN r xs (m + 1)) (cC r xs (m + 1)) (cM r xs (m + 1)) = cC r xs m := by
  have e := h.cM_step r m
  show cM r xs m - cM r xs (m + 1) = cC r xs m
  omega

theorem npp_any {r f : Int} {xs : List Int} (ht : LTab f xs) (r0 : 0 ≤ r) (m : Nat) (b : Int) (b0 : 1 ≤ b) (b1 : b ≤ 100000000) (hd : cD r xs m ≠ 0) (W : World) : Calls Try.prog 45 #[cvr (.iface 55 (.agg #[])) (cD r xs m) (cN r xs m) (cC r xs m) (cM r xs m) (cD r xs (m + 1)) (cN r xs (m + 1)) (cC r xs (m + 1)) (cM r xs (m + 1)), .int .i64 b] W fun e w' => e = .returned (.int .i64 (upV b (cC r xs m) (cD r xs m))) ∧ Below W.heap.size W w' := by
  obtain ⟨c0, c1, c2⟩ := ht.cC_le r r0 m
  have hq := quot_le b (cC r xs m) (cD r xs m) (by omega) c1 (by omega)
  refine cpri_any 55 _ _ _ _ _ _ _ _ _ (cC r xs m) b W (fun W' => ?_) (by omega) (by omega) (by omega) (by omega) (by omega) (by omega) (by omega)
  have := cnum_any 1 (cD r xs m) (cN r xs m) (cC r xs m) (cM r xs m) (cD r xs (m + 1)) (cN r xs (m + 1)) (cC r xs (m + 1)) (cM r xs (m + 1)) (by omega) (ht.inC r r0 _) (ht.inC r r0 _) W'
  rw [numK_1 r ht] at this
  exact this

set_option maxHeartbeats 8000000 in
theorem inat_any (r f : Int) (xs : List Int) (a : Option Addr) (l c : Nat) (x n b : Int) (w : World) (h : Ints w a l xs) (hlc : l ≤ c) :
    Calls Try.prog 15 #[.agg #[.int .i64 f, .slice a l c], .int .i64 r, .int .i64 x, .int .i64 n, .int .i64 b] w (LsPost (npY r f xs x n b) (npE r f xs x n b) w) := by
  have H := Lib.hid h
  have CK : Hid (∀ W, Hid (Below w.heap.size w W) → Calls Try.prog 42 #[.agg #[.int .i64 f, .slice a l c], .int .i64 r, .iface 55 (.agg #[]), .int .i64 x, .int .i64 n, .int .i64 b] W fun e w' => e = .returned (.int .i64 (akE r f xs x (inB b 1 100000000 && fitB 1 n) n)) ∧ Below W.heap.size W w') :=
    Lib.hid (fun W hW => chka_any r f xs a l c 1 x n b W (H.out.on hW.out) hlc)
  clear h
  have HY : Hid (npY r f xs x n b = if npE r f xs x n b = 0 then colL (npF r xs b (x - f).toNat) n.toNat else []) := Lib.hid rfl
  have HEE := Lib.hid (np_ak r f xs x n b)
  obtain ⟨Y, hY⟩ : ∃ y_, npY r f xs x n b = y_ := ⟨_, rfl⟩
  obtain ⟨EE, hEE⟩ : ∃ y_, npE r f xs x n b = y_ := ⟨_, rfl⟩
  obtain ⟨E, hE⟩ : ∃ E, akE r f xs x (inB b 1 100000000 && fitB 1 n) n = E := ⟨_, rfl⟩
  rw [hY, hEE] at HY
  rw [hEE, hE] at HEE
  rw [hE] at CK
  rw [hY, hEE]
  have HE := Lib.hid hE
  clear hE hY hEE
  have HB0 : Hid (Below w.heap.size w ((w.alloc (.cells #[.int .i64 f, .slice a l c] 26)).alloc (.cells #[] 55))) := Lib.hid ((box_b _ _).alloc (by simp) _)
  have hc0 : ((w.alloc (.cells #[.int .i64 f, .slice a l c] 26)).alloc (.cells #[] 55)).cell? ⟨w.heap.size, 0, none⟩ = some (.int .i64 f) := by go_simp
  have hc1 : ((w.alloc (.cells #[.int .i64 f, .slice a l c] 26)).alloc (.cells #[] 55)).cell? ⟨w.heap.size, 1, none⟩ = some (.slice a l c) := by go_simp
  by_cases hz : E = 0
  · subst hz
    obtain ⟨hc, hb, ⟨n0, n1⟩, xn⟩ := akE_iff.1 HE.out
    obtain ⟨ht, ⟨r0, r1⟩, x0, x1⟩ := coE_iff.1 hc
    obtain ⟨f0, f1⟩ := ht.1
    rw [Bool.and_eq_true] at hb
    obtain ⟨b0, b1⟩ := (inB_iff _ _ _).1 hb.1
    obtain ⟨K, hK⟩ : ∃ y_, (x - f).toNat = y_ := ⟨_, rfl⟩
    obtain ⟨m, rfl⟩ : ∃ m : Nat, n = m := ⟨n.toNat, by omega⟩
    have hKx : f + (K : Int) = x := by omega
    rw [hK, Int.toNat_natCast] at HY HEE
    have HT := Lib.hid ht
    have q9 : IntKind.i64.wrap (x + (m : Int)) = x + (m : Int) := IntWalk.i64_in _ (by omega)
    clear ht hb hc HE hK
    go_enter Try.func15, Try.ntmps15
    go_wp2_with fail
    with_reducible refine (CK.out _ HB0).mono ?_
    rintro e w2 ⟨rfl, hb⟩
    have hd0 := keep2 hb hc0
    have hd1 := keep2 hb hc1
    have HB2 := Lib.hid (HB0.out.trans (hb.mono HB0.out.size))
    clear hb HB0 hc0 hc1
    go_wp2_with fail
    with_reducible refine (co_any r f xs a l c _ (H.out.on HB2.out) HT.out r0 r1).mono ?_
    rintro e w3 ⟨R, G, rfl, hR, hG, hGs, hb⟩
    have HB3 := Lib.hid (HB2.out.trans (hb.mono HB2.out.size))
    have HC3 : Hid (Cols w3 R r f xs (.slice a l c)) := Lib.hid ⟨G, hG, hGs⟩
    have HC0 := Lib.hid (keep2 hb hd0)
    have HC1 := Lib.hid (keep2 hb hd1)
    have hz2 : ∃ ks, w2.heap.size ≤ ks := ⟨_, Nat.le_refl _⟩
    clear hG hGs hb hd0 hd1 HB2 hR hz2
    have HCV : Hid (∀ j : Nat, j < m → ∀ W, Hid (Below w3.heap.size w3 W) → cD r xs (K + j) ≠ 0 → Calls Try.prog 44 #[.pointer (some ⟨R, 0, none⟩), .iface 55 (.agg #[]), .int .i64 (x + j), .int .i64 1] W (CvPost (.iface 55 (.agg #[])) (cD r xs (K + j)) (cN r xs (K + j)) (cC r xs (K + j)) (cM r xs (K + j)) (cD r xs (K + j + 1)) (cN r xs (K + j + 1)) (cC r xs (K + j + 1)) (cM r xs (K + j + 1)) 0 W)) := Lib.hid (by
      intro j hj W hW hd
      have := cva_any 55 (.agg #[]) r f xs _ R (x + j) 1 W (HC3.out.on hW.out) f0 (by omega) (by omega) (by omega) (by rw [show (x + (j : Int) - f).toNat = K + j by omega]; exact hd)
      rw [show (x + (j : Int) - f).toNat = K + j by omega, show (x + (j : Int) + 1 - f).toNat = K + j + 1 by omega] at this
      exact this)
    have HCZ : Hid (∀ j : Nat, j < m → ∀ W, Hid (Below w3.heap.size w3 W) → cD r xs (K + j) = 0 → Calls Try.prog 44 #[.pointer (some ⟨R, 0, none⟩), .iface 55 (.agg #[]), .int .i64 (x + j), .int .i64 1] W (CvPost .nilIface 0 0 0 0 0 0 0 0 5 W)) := Lib.hid (by
      intro j hj W hW hd
      exact cvz_any 55 (.agg #[]) r f xs _ R (x + j) 1 W (HC3.out.on hW.out) f0 (by omega) (by omega) (by rw [show (x + (j : Int) - f).toNat = K + j by omega]; exact hd))
    unfold CvPost cvr at HCV HCZ
    have hown := ownI_new w3
    have HW0 : Hid (Below w3.heap.size w3 (w3.alloc (.cells #[] 2))) := Lib.hid (box_b _ _)
    go_wp2_with fail
    go_loopw [15, 16] (fun v i wr => ∃ j : Nat, j ≤ m ∧ i = .int .i64 (x + j) ∧ OwnI w3.heap.size wr v (colL (npF r xs b K) j) ∧ Hid (Below w3.heap.size w3 wr) ∧ Hid (∀ k, k < j → cD r xs (K + k) ≠ 0)) (fun _ i _ => (x + m - intOf i).toNat)
    case atStart => exact ⟨0, by omega, by go_num, hown, HW0, Lib.hid (fun k hk => by omega)⟩
    case round =>
      clear hown HW0
      obtain ⟨j, hj, rfl, hown, HW, HZ⟩ := hrel
      have hwr := HW.out.size
      by_cases hlt : x + (j : Int) < x + m
      · have HF : Hid (npF r xs b K j = upV b (cC r xs (K + j)) (cD r xs (K + j))) := Lib.hid rfl
        have HLT : Hid (j < m) := Lib.hid (by omega)
        by_cases hz : cD r xs (K + j) = 0
        · have HE5 : Hid (EE = 5) := Lib.hid (by rw [HEE.out, npB_no HLT.out hz]; simp)
          have HY5 : Hid (Y = []) := Lib.hid (by rw [HY.out, HE5.out]; rfl)
          have CP := Lib.hid (HCZ.out j (by omega) _ HW hz)
          clear hz
          go_wp2_with fail
          with_reducible refine CP.out.mono ?_
          rintro e w6 ⟨rfl, hb⟩
          have HW6 := Lib.hid ((HW.out.trans (hb.mono HW.out.size)).alloc (by have := hb.size; omega) (.cells #[.nilIface, .int .i64 0, .int .i64 0, .int .i64 0, .int .i64 0, .int .i64 0, .int .i64 0, .int .i64 0, .int .i64 0] 64))
          clear hb
          go_wp2_with fail
          go_ret2
          exact ls_nil (HB3.out.trans (HW6.out.mono HB3.out.size)) HE5.out HY5.out
        · have CP := Lib.hid (HCV.out j (by omega) _ HW hz)
          have CU := Lib.hid (fun W => npp_any HT.out r0 (K + j) b b0 b1 hz W)
          unfold cvr at CU
          have HZ2 : Hid (∀ k, k < j + 1 → cD r xs (K + k) ≠ 0) := Lib.hid (fun k hk => by
            by_cases e : k = j
            · subst e; exact hz
            · exact HZ.out k (by omega))
          obtain ⟨A, h0⟩ : ∃ y_, cD r xs (K + j) = y_ := ⟨_, rfl⟩
          obtain ⟨B, h1⟩ : ∃ y_, cN r xs (K + j) = y_ := ⟨_, rfl⟩
          obtain ⟨C, h2⟩ : ∃ y_, cC r xs (K + j) = y_ := ⟨_, rfl⟩
          obtain ⟨D, h3⟩ : ∃ y_, cM r xs (K + j) = y_ := ⟨_, rfl⟩
          obtain ⟨A', h4⟩ : ∃ y_, cD r xs (K + j + 1) = y_ := ⟨_, rfl⟩
          obtain ⟨B', h5⟩ : ∃ y_, cN r xs (K + j + 1) = y_ := ⟨_, rfl⟩
          obtain ⟨C', h6⟩ : ∃ y_, cC r xs (K + j + 1) = y_ := ⟨_, rfl⟩
          obtain ⟨D', h7⟩ : ∃ y_, cM r xs (K + j + 1) = y_ := ⟨_, rfl⟩
          rw [h0, h1, h2, h3, h4, h5, h6, h7] at CP CU
          rw [h0, h2] at HF
          clear h0 h1 h2 h3 h4 h5 h6 h7 hz HZ
          obtain ⟨U, hU⟩ : ∃ y_, upV b C A = y_ := ⟨_, rfl⟩
          rw [hU] at CU HF
          have HYY : Hid (colL (npF r xs b K) (j + 1) = colL (npF r xs b K) j ++ [U]) := Lib.hid (by rw [colL_snoc, HF.out])
          have HL1 : Hid ((colL (npF r xs b K) j).length ≤ 4096) := Lib.hid (by rw [colL_len]; omega)
          obtain ⟨zs, hzs⟩ : ∃ zs, colL (npF r xs b K) j = zs := ⟨_, rfl⟩
          rw [hzs] at hown HYY HL1
          clear hzs hU
          go_wp2_with fail
          with_reducible refine CP.out.mono ?_
          rintro e w6 ⟨rfl, hb⟩
          obtain ⟨y0, y1, y2, y3, y4, y5, y6, y7, y8⟩ := (q9_new w6 (.iface 55 (.agg #[])) A B C D A' B' C' D').cell
          have HW6 := Lib.hid ((HW.out.trans (hb.mono HW.out.size)).alloc (by have := hb.size; omega) (.cells #[.iface 55 (.agg #[]), .int .i64 A, .int .i64 B, .int .i64 C, .int .i64 D, .int .i64 A', .int .i64 B', .int .i64 C', .int .i64 D'] 64))
          have hown6 := (hown.on hb).on (box_b w6 (.cells #[.iface 55 (.agg #[]), .int .i64 A, .int .i64 B, .int .i64 C, .int .i64 D, .int .i64 A', .int .i64 B', .int .i64 C', .int .i64 D'] 64))
          have hw6 : w3.heap.size ≤ (w6.alloc (.cells #[.iface 55 (.agg #[]), .int .i64 A, .int .i64 B, .int .i64 C, .int .i64 D, .int .i64 A', .int .i64 B', .int .i64 C', .int .i64 D'] 64)).heap.size := HW6.out.size
          clear hb HW hown CP hwr
          go_wp2_with fail
          with_reducible refine (CU.out _).mono ?_
          rintro e w7 ⟨rfl, hb⟩
          have HW7 := Lib.hid (HW6.out.trans (hb.mono HW6.out.size))
          have hown := hown6.on hb
          have hw7 := HW7.out.size
          clear hb HW6 hown6 CU hw6 y0 y1 y2 y3 y4 y5 y6 y7 y8
          go_wp2_with (at_builtin; refine wpList_app rfl _ _ rfl w3.heap.size _ zs U rfl (hown.same (fun k hk hl => Below.heap_alloc _ _ _ hl)) ⟨w7.heap.size, 0, none⟩ rfl (one_newC w7 U) HL1.out (by simp; omega) ?_)
          intro v' w8 hown' hgrow hw
          have hb := app_below hown hw7 hgrow
          have HW8 := Lib.hid (HW7.out.trans hb)
          rw [← HYY.out] at hown'
          clear hgrow hown hw hb HW7
          go_wp2_with fail
          go_roundw
          case rel => exact ⟨j + 1, by omega, by go_num, hown', HW8, HZ2⟩
          case measure => simp [intOf]; omega
      · go_wp2_with fail
        go_ret2
        have ej : j = m := by omega
        have HE0 : EE = 0 := by rw [HEE.out, npB_yes (by rw [← ej]; exact HZ.out)]; simp
        exact ls_cond hown (by rw [colL_len]; omega) (HB3.out.trans (HW.out.mono HB3.out.size)) HB3.out.size HE0 (by rw [HY.out, HE0, ej]; rfl)
  · have hne : (E != 0) = true := by simp [hz]
    have HEN : Hid (EE = E) := Lib.hid (by rw [HEE.out, if_neg hz])
    have HYN : Hid (Y = []) := Lib.hid (by rw [HY.out, HEN.out, if_neg hz])
    clear hz HY HE HEE
    go_enter Try.func15, Try.ntmps15
    go_wp2_with fail
    with_reducible refine (CK.out _ HB0).mono ?_
    rintro e w2 ⟨rfl, hb⟩
    have HB2 := Lib.hid (HB0.out.trans (hb.mono HB0.out.size))
    clear hb HB0 hc0 hc1
    go_wp2_with fail
    go_ret2
    exact ls_nil HB2.out HEN.out HYN.out

end Go.Proofs.Ytnimmkbpcmgeaaa
