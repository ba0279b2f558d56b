/- ReadMonth of the model: what each call returns; the exact law. -/
import Derived.Test.YtalfbhkgjfkneaaDoorRdMonI
namespace Go.Proofs.YtalfbhkgjfkneaaDoor
open Go.ChangeShapes Go.WideShapes Go.ChangeAt Go.RowKit
set_option linter.unusedVariables false

theorem RdPost.none {l : List UInt8} {w w' : World} (h : sdmB l = false) (hb : Below w.heap.size w w') : RdPost l w (.returned (.tuple #[.int .i64 0, .bool false])) w' := by
  have e := sdm_rdm l
  rw [if_neg (by simp [h])] at e
  exact ⟨ret_ib (by simp [rdmV, ← e]) (by simp [rdmO, ← e]), hb⟩

theorem RdPost.some {l : List UInt8} {w w' : World} (h : sdmB l = true) (hb : Below w.heap.size w w') : RdPost l w (.returned (.tuple #[.int .i64 (sdmN l), .bool true])) w' := by
  have e := sdm_rdm l
  rw [if_pos h] at e
  exact ⟨ret_ib (by simp [rdmV, ← e]) (by simp [rdmO, ← e]), hb⟩

theorem ext_list (s : ByteArray) (i j : Nat) : (s.extract i j).data.toList = (s.data.toList.drop i).take (j - i) := by
  simp [ByteArray.data_extract, List.extract_eq_take_drop]

set_option maxRecDepth 100000 in
set_option maxHeartbeats 1000000 in
theorem rd_spec (s : ByteArray) (w : World) (hs : s.size ≤ 1048576) : Calls Tryd.prog 15 #[.string s] w (RdPost s.data.toList w) := by
  have hsz : s.data.toList.length = s.size := by simp
  have HL := Lib.hid hsz
  clear hsz
  by_cases h7 : s.size = 7
  · have hE : (s.extract 0 4 ++ s.extract 5 7).data.toList = s.data.toList.take 4 ++ s.data.toList.drop 5 := by
      rw [ByteArray.data_append, Array.toList_append, ext_list, ext_list]
      congr 1
      exact List.take_of_length_le (by rw [List.length_drop, HL.out, h7]; exact Nat.le_refl _)
    have hD : (s.extract 0 4 ++ s.extract 5 7).size = 6 := by
      rw [ByteArray.size_append, ByteArray.size_extract, ByteArray.size_extract]; omega
    have HE := Lib.hid hE
    have HD := Lib.hid hD
    clear hE hD
    go_enter Tryd.func15, Tryd.ntmps15
    go_wp2_with fail
    go_quiet (fail)
    go_wp2_with fail
    have HB1 := Lib.hid (below_drewN (Below.refl w.heap.size w) nq)
    obtain ⟨w1, hw1⟩ : ∃ x, x = w.drewN nq := ⟨_, rfl⟩
    obtain ⟨d, hd⟩ : ∃ d, s.extract 0 4 ++ s.extract 5 7 = d := ⟨_, rfl⟩
    rw [hd] at HE HD ⊢
    rw [← hw1] at HB1 ⊢
    have H7 := Lib.hid h7
    have h6 := HD.out
    clear hw1 hd h7
    go_loop [5, 6] (fun n i => ∃ k : Nat, k ≤ d.size ∧ i = .int .i64 k ∧ n = .int .i64 (val (d.data.toList.take k) : Int) ∧ Hid ((d.data.toList.take k).all isDig = true)) (fun _ i => d.size - (intOf i).toNat)
    case atStart => exact ⟨0, Nat.zero_le _, rfl, by simp [val], Lib.hid (by simp)⟩
    case round =>
      obtain ⟨k, hk, rfl, rfl, HA⟩ := hrel
      have hv := val_le (d.data.toList.take k) HA.out (by simp; omega)
      by_cases hlt : k < d.size
      · have hts := take_snoc8 d k hlt
        by_cases hdg : isDig d[k] = true
        · have hc : 48 ≤ d[k].toNat ∧ d[k].toNat ≤ 57 := by simpa [isDig] using hdg
          obtain ⟨d1, d2⟩ := hc
          have HT := Lib.hid hts
          have HDG := Lib.hid hdg
          clear hts hdg
          go_wp2_with fail
          go_round
          case rel => exact ⟨k + 1, by omega, by go_num, by rw [HT.out, val_snoc]; congr 1; omega, Lib.hid (by rw [HT.out, List.all_append, HA.out]; simp [HDG.out])⟩
          case measure => simp [intOf]; omega
        · have HR : Hid (sdmB s.data.toList = false) := Lib.hid (by
            have := all_false8 d k hlt (by simpa using hdg)
            rw [HE.out] at this
            unfold sdmB; rw [this]; simp)
          have hcc : d[k].toNat < 48 ∨ 57 < d[k].toNat := by simp [isDig] at hdg; omega
          clear hdg hts
          rcases hcc with hc | hc
          all_goals
            go_wp2_with fail
            go_ret2
            exact RdPost.none HR.out HB1.out
      · obtain rfl : k = d.size := by omega
        have hdl : d.data.toList.length = d.size := by simp
        have e : d.data.toList.take d.size = d.data.toList := List.take_of_length_le (by rw [hdl]; exact Nat.le_refl _)
        have hA := HA.out
        rw [e] at hA hv ⊢
        rw [HE.out] at hA hv ⊢
        have HAA := Lib.hid hA
        have HN : Hid (sdmN s.data.toList = 12 * ((val (s.data.toList.take 4 ++ s.data.toList.drop 5) : Int) / 100) + (val (s.data.toList.take 4 ++ s.data.toList.drop 5) : Int) % 100 - 1) := Lib.hid rfl
        clear hA e hdl h6
        obtain ⟨u, hu⟩ : ∃ u, val (s.data.toList.take 4 ++ s.data.toList.drop 5) = u := ⟨_, rfl⟩
        rw [hu] at hv HN ⊢
        have HU := Lib.hid hu
        clear hu
        go_wp2_with fail
        refine (mt2_spec _ _).mono ?_
        rintro e w2 ⟨rfl, hb⟩
        rw [← HN.out]
        have HB2 := Lib.hid (HB1.out.trans (hb.mono HB1.out.size))
        clear hb
        obtain ⟨n, hn⟩ : ∃ n, sdmN s.data.toList = n := ⟨_, rfl⟩
        by_cases ht : mtT n = s.data.toList
        · have heq : (mtT n == s.toList) = true := by rw [toList_eq, ht]; simp
          have HR : Hid (sdmB s.data.toList = true) := Lib.hid (by unfold sdmB; rw [HAA.out, HL.out, H7.out, hn, ht]; simp)
          have HNN := Lib.hid hn
          rw [hn]
          clear ht hn
          go_wp2_with fail
          go_ret2
          rw [← HNN.out]
          exact RdPost.some HR.out HB2.out
        · have heq : (mtT n == s.toList) = false := by rw [toList_eq]; simpa using ht
          have HR : Hid (sdmB s.data.toList = false) := Lib.hid (by unfold sdmB; rw [hn]; simp [ht])
          rw [hn]
          clear ht hn
          go_wp2_with fail
          go_ret2
          exact RdPost.none HR.out HB2.out
  · have HR : Hid (sdmB s.data.toList = false) := Lib.hid (by unfold sdmB; rw [HL.out]; simp [h7])
    have hne : ((s.size : Int) != 7) = true := by simp; omega
    clear h7
    go_enter Tryd.func15, Tryd.ntmps15
    go_wp2_with fail
    go_ret2
    exact RdPost.none HR.out (Below.refl _ _)

theorem fnExactReadMonth_walk (s0 : ByteArray) (ws0 : s0.size ≤ maxLen) (w : World) (hsh : w.ShapedOpen Tryd.prog) (h1 : ErrIs w "strconv.ErrSyntax") (h2 : ErrIs w "strconv.ErrRange") :
    Calls Tryd.prog 4 #[.string s0] w fun e w' => e = .returned (.bool true) ∧ Below w.heap.size w w' := by
  have HA := Lib.hid (AskE.mk h1 h2 hsh)
  clear hsh h1 h2
  by_cases hbig : (1048576 : Int) < s0.size
  · unfold maxLen at ws0
    go_enter Tryd.func4, Tryd.ntmps4
    go_wp2_with fail
    go_ret
    exact ⟨rfl, Below.refl _ _⟩
  · go_enter Tryd.func4, Tryd.ntmps4
    go_wp2_with fail
    refine (rd_spec _ _ (by omega)).mono ?_
    rintro e w1 ⟨rfl, hb⟩
    have HB := Lib.hid hb
    have HA1 := Lib.hid (HA.out.step hb)
    clear hb
    go_wp2_with fail
    refine (rd_impl _ _ (by omega) HA1.out).mono ?_
    rintro e w2 ⟨rfl, hb⟩
    have HB2 := Lib.hid (HB.out.trans (hb.mono HB.out.size))
    clear hb
    go_wp2_with fail
    go_ret
    exact ⟨rfl, HB2.out⟩

end Go.Proofs.YtalfbhkgjfkneaaDoor
