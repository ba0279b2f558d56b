/- Families: the model: valid families, pensions of a month. (Written by wip/gen/fms.py.) -/
import Derived.Test.YtmnddplkmljeaaaFmn
import Derived.Test.YtmnddplkmljeaaaLwb
import Derived.BigQuiet
namespace Go.Proofs.Ytmnddplkmljeaaa
open Go.ChangeShapes Go.WideShapes Go.ChangeAt Go.RowKit
set_option linter.unusedVariables false
set_option linter.unusedSimpArgs false
set_option maxRecDepth 100000

theorem sop_any (n : Int) (w : World) : Calls Try.prog 91 #[.int .i64 n] w fun e w' => e = .returned (.bool (opB n)) ∧ w = w' := by
  by_cases h : n = -1
  · have h1 : (n == -1) = true := by simpa using h
    have HR : Hid (opB n = true) := Lib.hid (by unfold opB; simp [h])
    go_enter Try.func91, Try.ntmps91
    go_wp2_with (go_at_call 81; refine (l02m_any _ _).mono ?_; rintro e w' ⟨rfl, rfl⟩)
    go_ret
    exact ⟨ret_bool HR.out.symm, rfl⟩
  · have h1 : (n == -1) = false := by simpa using h
    have HR : Hid (opB n = mthB n) := Lib.hid (by unfold opB; simp [h])
    go_enter Try.func91, Try.ntmps91
    go_wp2_with (go_at_call 81; refine (l02m_any _ _).mono ?_; rintro e w' ⟨rfl, rfl⟩)
    go_ret
    exact ⟨ret_bool HR.out.symm, rfl⟩

/-- the births that a family may tell, so far -/
def ChOk (d : Int) (ch : List Int) : Prop := (∀ b ∈ ch, 0 ≤ b ∧ b ≤ 35999 ∧ b ≤ d + 9) ∧ ch.Pairwise (· ≤ ·)

theorem fq_sym {P : Program} {f : FuncId} {args : Array Value} {w : World} {n : Nat} {v : Value}
    (h : Calls P f args (w.drewN n) fun e w' => e = .returned v ∧ w.drewN n = w') : Calls P f args (w.drewN n) fun e w'' => e = .returned v ∧ ∃ m, w'' = w.drewN m :=
  Calls.quiet_of_same (h.mono fun _ _ h => ⟨h.1, h.2.symm⟩)

theorem chOk_no {d : Int} {ch : List Int} {j : Nat} (hj : j < ch.length) (h : ¬ (0 ≤ ch.getD j 0 ∧ ch.getD j 0 ≤ 35999 ∧ ch.getD j 0 ≤ d + 9)) : ¬ ChOk d ch := fun hc => h (by
  rw [List.getD_eq_getElem?_getD, List.getElem?_eq_getElem hj]
  exact hc.1 _ (List.getElem_mem _))

theorem chOk_fall {d : Int} {ch : List Int} {j : Nat} (hj : j + 1 < ch.length) (h : ch.getD (j + 1) 0 < ch.getD j 0) : ¬ ChOk d ch := fun hc => by
  have := List.pairwise_iff_getElem.1 hc.2 j (j + 1) (by omega) hj (by omega)
  rw [List.getD_eq_getElem?_getD, List.getD_eq_getElem?_getD, List.getElem?_eq_getElem hj, List.getElem?_eq_getElem (by omega : j < ch.length)] at h
  simp only [Option.getD_some] at h
  omega

theorem chOk_one {d : Int} {ch : List Int} (hj : 0 < ch.length) (h : 0 ≤ ch.getD 0 0 ∧ ch.getD 0 0 ≤ 35999 ∧ ch.getD 0 0 ≤ d + 9) : ChOk d (ch.take 1) := by
  cases ch with
  | nil => simp at hj
  | cons x r =>
    have h' : 0 ≤ x ∧ x ≤ 35999 ∧ x ≤ d + 9 := h
    exact ⟨fun b hb => by simp at hb; subst hb; exact h', by simp⟩

theorem chOk_step {d : Int} {ch : List Int} {j : Nat} (hj : j + 1 < ch.length) (hc : ChOk d (ch.take (j + 1))) (h : 0 ≤ ch.getD (j + 1) 0 ∧ ch.getD (j + 1) 0 ≤ 35999 ∧ ch.getD (j + 1) 0 ≤ d + 9) (hle : ch.getD j 0 ≤ ch.getD (j + 1) 0) : ChOk d (ch.take (j + 1 + 1)) := by
  rw [take_snoc' ch (j + 1) 0 hj]
  refine ⟨fun b hb => ?_, ?_⟩
  · rcases List.mem_append.1 hb with hb | hb
    · exact hc.1 b hb
    · simp at hb; subst hb; simpa using h
  · rw [List.pairwise_append]
    refine ⟨hc.2, List.pairwise_singleton _ _, fun a ha b hb => ?_⟩
    simp only [List.mem_singleton] at hb
    subst hb
    rw [take_snoc' ch j 0 (by omega)] at ha hc
    rcases List.mem_append.1 ha with h1 | h1
    · have := (List.pairwise_append.1 hc.2).2.2 a h1 (ch.getD j 0) (by simp)
      omega
    · simp at h1
      simp [List.getD] at hle ⊢
      omega

set_option maxHeartbeats 2000000 in
theorem sfm_any (d m v l : Int) (ch : List Int) (a : Option Addr) (n c : Nat) (w : World) (h : Ints w a n ch) :
    Calls Try.prog 27 #[.agg #[.int .i64 d, .int .i64 m, .int .i64 v, .int .i64 l, .slice a n c]] w fun e w' => e = .returned (.bool (fmB d m v l ch)) ∧ Below w.heap.size w w' := by
  have HL := Lib.hid h.len
  have hm := h.max
  by_cases c1 : mthB d = true
  case neg =>
    have HR : Hid (fmB d m v l ch = false) := Lib.hid (fm_no fun e => c1 ((mthB_iff _).2 e.1))
    clear h HL
    go_enter Try.func27, Try.ntmps27
    go_wp2_with (first | (go_at_call 81; refine (l02m_any _ _).mono ?_; rintro e w' ⟨rfl, rfl⟩) | (go_at_call 91; refine (sop_any _ _).mono ?_; rintro e w' ⟨rfl, rfl⟩))
    go_ret
    exact ⟨ret_bool HR.out.symm, box_b _ _⟩
  by_cases c2 : opB m = true
  case neg =>
    have HR : Hid (fmB d m v l ch = false) := Lib.hid (fm_no fun e => c2 ((opB_iff _).2 e.2.1))
    clear h HL
    go_enter Try.func27, Try.ntmps27
    go_wp2_with (first | (go_at_call 81; refine (l02m_any _ _).mono ?_; rintro e w' ⟨rfl, rfl⟩) | (go_at_call 91; refine (sop_any _ _).mono ?_; rintro e w' ⟨rfl, rfl⟩))
    go_ret
    exact ⟨ret_bool HR.out.symm, box_b _ _⟩
  by_cases c3 : opB v = true
  case neg =>
    have HR : Hid (fmB d m v l ch = false) := Lib.hid (fm_no fun e => c3 (FmOk.op e).1)
    clear h HL
    go_enter Try.func27, Try.ntmps27
    go_wp2_with (first | (go_at_call 81; refine (l02m_any _ _).mono ?_; rintro e w' ⟨rfl, rfl⟩) | (go_at_call 91; refine (sop_any _ _).mono ?_; rintro e w' ⟨rfl, rfl⟩))
    go_ret
    exact ⟨ret_bool HR.out.symm, box_b _ _⟩
  by_cases c4 : opB l = true
  case neg =>
    have HR : Hid (fmB d m v l ch = false) := Lib.hid (fm_no fun e => c4 (FmOk.op e).2)
    clear h HL
    go_enter Try.func27, Try.ntmps27
    go_wp2_with (first | (go_at_call 81; refine (l02m_any _ _).mono ?_; rintro e w' ⟨rfl, rfl⟩) | (go_at_call 91; refine (sop_any _ _).mono ?_; rintro e w' ⟨rfl, rfl⟩))
    go_ret
    exact ⟨ret_bool HR.out.symm, box_b _ _⟩
  by_cases c5 : (n : Int) ≤ 12
  case neg =>
    have HR : Hid (fmB d m v l ch = false) := Lib.hid (fm_no fun e => by have := e.2.2.2.2.1; have := HL.out; omega)
    clear h HL
    go_enter Try.func27, Try.ntmps27
    go_wp2_with (first | (go_at_call 81; refine (l02m_any _ _).mono ?_; rintro e w' ⟨rfl, rfl⟩) | (go_at_call 91; refine (sop_any _ _).mono ?_; rintro e w' ⟨rfl, rfl⟩))
    go_ret
    exact ⟨ret_bool HR.out.symm, box_b _ _⟩
  have M1 := (mthB_iff _).1 c1
  have M2 := (opB_iff _).1 c2
  have M3 := (opB_iff _).1 c3
  have M4 := (opB_iff _).1 c4
  have hd1 : IntKind.i64.wrap (d + 1) = d + 1 := IntWalk.i64_in _ (by omega)
  have hd9 : IntKind.i64.wrap (d + 9) = d + 9 := IntWalk.i64_in _ (by omega)
  have key : ∀ _ : (v = -1 ∨ (v = d + 1 ∧ m ≠ -1 ∧ m ≤ d)), ∀ _ : (l = -1 ∨ (v ≠ -1 ∧ v ≤ l)), Calls Try.prog 27 #[.agg #[.int .i64 d, .int .i64 m, .int .i64 v, .int .i64 l, .slice a n c]] w fun e w' => e = .returned (.bool (fmB d m v l ch)) ∧ Below w.heap.size w w' := by
    intro e6 e7
    have HFn : Hid (¬ ChOk d ch → fmB d m v l ch = false) := Lib.hid (fun hc => fm_no fun e => hc e.2.2.2.2.2)
    have HFy : Hid (ChOk d ch → fmB d m v l ch = true) := Lib.hid (fun hc => (fm_iff ..).2 ⟨M1, M2, by omega, by omega, by rw [HL.out]; omega, hc⟩)
    have H := Lib.hid (h.on (box_b w (.cells #[.int .i64 d, .int .i64 m, .int .i64 v, .int .i64 l, .slice a n c] 26)))
    have HI0 : Hid (ChOk d (ch.take 0)) := Lib.hid ⟨by simp, by simp⟩
    rcases Classical.em (v = -1) with e1 | e1
    · have e5 : l = -1 := by omega
      have b1 : (v != -1) = false := by simpa using e1
      have b1' : (v == -1) = true := by simpa using e1
      have b5 : (l != -1) = false := by simpa using e5
      have b5' : (l == -1) = true := by simpa using e5
      clear e6 e7 e1 e5 M2 M3 M4 h
      go_enter Try.func27, Try.ntmps27
      go_wp2_with (first | (go_at_call 81; refine (l02m_any _ _).mono ?_; rintro e w' ⟨rfl, rfl⟩) | (go_at_call 91; refine (sop_any _ _).mono ?_; rintro e w' ⟨rfl, rfl⟩))
      go_loopw [3] (fun i wr => ∃ j : Nat, j ≤ n ∧ i = .int .i64 j ∧ Hid (ChOk d (ch.take j)) ∧ Hid (∃ k, wr = (w.alloc (.cells #[.int .i64 d, .int .i64 m, .int .i64 v, .int .i64 l, .slice a n c] 26)).drewN k)) (fun i _ => n - (intOf i).toNat)
      case atStart => exact ⟨0, Nat.zero_le _, rfl, HI0, Lib.hid ⟨0, rfl⟩⟩
      case round =>
        obtain ⟨j, hj, rfl, HI, HW⟩ := hrel
        have hbel : Below (w.alloc (.cells #[.int .i64 d, .int .i64 m, .int .i64 v, .int .i64 l, .slice a n c] 26)).heap.size (w.alloc (.cells #[.int .i64 d, .int .i64 m, .int .i64 v, .int .i64 l, .slice a n c] 26)) wr := by
          obtain ⟨k, hk⟩ := HW.out
          rw [hk]; exact below_drewN (Below.refl _ _) k
        have hbx := (Bx.new w [.int .i64 d, .int .i64 m, .int .i64 v, .int .i64 l, .slice a n c] 26).on hbel
        obtain ⟨f0, f1, f2, f3, f4⟩ := hbx.five
        have HBL := Lib.hid hbel
        by_cases hlt : j < n
        · obtain ⟨b1, o1, rfl, hb1, hc⟩ := (H.out.on hbel).at (by omega)
          have hx := hc j hlt
          obtain ⟨b, hb⟩ : ∃ y_, ch.getD j 0 = y_ := ⟨_, rfl⟩
          rw [hb] at hx
          have hjn : j < ch.length := by rw [HL.out]; exact hlt
          by_cases k1 : mthB b = true
          case neg =>
            have k1' : mthB b = false := by simpa using k1
            have HR : Hid (fmB d m v l ch = false) := Lib.hid (HFn.out (chOk_no hjn (by rw [hb]; intro e; exact k1 ((mthB_iff _).2 ⟨e.1, e.2.1⟩))))
            clear hb hc hb1 hbx hbel k1
            go_wp2_with fail
            go_quiet ((go_at_call 81; exact fq_sym (l02m_any _ _)))
            go_wp2_with fail
            go_ret
            exact ⟨ret_bool HR.out.symm, (box_b w _).trans ((below_drewN HBL.out nq).mono (by simp))⟩
          by_cases k2 : b ≤ d + 9
          case neg =>
            have k2' : decide (d + 9 < b) = true := by simp; omega
            have HR : Hid (fmB d m v l ch = false) := Lib.hid (HFn.out (chOk_no hjn (by rw [hb]; omega)))
            clear hb hc hb1 hbx hbel k2
            go_wp2_with fail
            go_quiet ((go_at_call 81; exact fq_sym (l02m_any _ _)))
            go_wp2_with fail
            go_ret
            exact ⟨ret_bool HR.out.symm, (box_b w _).trans ((below_drewN HBL.out nq).mono (by simp))⟩
          have k2' : decide (d + 9 < b) = false := by simp; omega
          have K1 := (mthB_iff _).1 k1
          rcases Nat.eq_zero_or_pos j with k3 | k3
          · have k3' : decide (0 < j) = false := by simp; omega
            have HI2 : Hid (ChOk d (ch.take (j + 1))) := Lib.hid (by subst k3; exact chOk_one hjn (by rw [hb]; omega))
            clear hb hc hb1 hbx hbel k2 K1 k3 hjn
            go_wp2_with fail
            go_quiet ((go_at_call 81; exact fq_sym (l02m_any _ _)))
            go_wp2_with fail
            go_roundw
            case rel => exact ⟨j + 1, by omega, by go_num, HI2, Lib.hid (by obtain ⟨k, hk⟩ := HW.out; exact ⟨k + nq, by rw [hk, World.drewN_drewN]⟩)⟩
            case measure => simp [intOf]; omega
          · have k3' : decide (0 < j) = true := by simp; omega
            obtain ⟨p, hp⟩ : ∃ p, j = p + 1 := ⟨j - 1, by omega⟩
            have hy := hc p (by omega)
            obtain ⟨u, hu⟩ : ∃ y_, ch.getD p 0 = y_ := ⟨_, rfl⟩
            rw [hu] at hy
            have q2 : IntKind.i64.wrap ((j : Int) - 1) = (p : Int) := by rw [IntWalk.i64_in _ (by omega)]; omega
            have hpn : p < n := by omega
            rcases Classical.em (b < u) with k4 | k4
            · have k4' : decide (b < u) = true := by simpa using k4
              have HR : Hid (fmB d m v l ch = false) := Lib.hid (HFn.out (by subst hp; exact chOk_fall hjn (by rw [hb, hu]; exact k4)))
              clear hb hu hp hc hb1 hbx hbel k2 K1 k3 k4 hjn
              go_wp2_with fail
              go_quiet ((go_at_call 81; exact fq_sym (l02m_any _ _)))
              go_wp2_with fail
              go_ret
              exact ⟨ret_bool HR.out.symm, (box_b w _).trans ((below_drewN HBL.out nq).mono (by simp))⟩
            · have k4' : decide (b < u) = false := by simpa using k4
              have HI2 : Hid (ChOk d (ch.take (j + 1))) := Lib.hid (by
                have hi := HI.out
                subst hp
                exact chOk_step hjn hi (by rw [hb]; omega) (by rw [hb, hu]; omega))
              clear hb hu hp hc hb1 hbx hbel k2 K1 k3 k4 hjn
              go_wp2_with fail
              go_quiet ((go_at_call 81; exact fq_sym (l02m_any _ _)))
              go_wp2_with fail
              go_roundw
              case rel => exact ⟨j + 1, by omega, by go_num, HI2, Lib.hid (by obtain ⟨k, hk⟩ := HW.out; exact ⟨k + nq, by rw [hk, World.drewN_drewN]⟩)⟩
              case measure => simp [intOf]; omega
        · have HR : Hid (fmB d m v l ch = true) := Lib.hid (by
            have hi := HI.out
            rw [List.take_of_length_le (by rw [HL.out]; omega)] at hi
            exact HFy.out hi)
          clear hbx hbel
          go_wp2_with fail
          go_ret
          exact ⟨ret_bool HR.out.symm, (box_b w _).trans (HBL.out.mono (by simp))⟩
    · have e2 : v = d + 1 := by omega
      have e3 : m ≠ -1 := by omega
      have b4 : ¬ d < m := by omega
      have b1 : (v != -1) = true := by simpa using e1
      have b1' : (v == -1) = false := by simpa using e1
      have b2 : (v != d + 1) = false := by simpa using e2
      have b2' : (v == d + 1) = true := by simpa using e2
      have b3 : (m == -1) = false := by simpa using e3
      rcases Classical.em (l = -1) with e5 | e5
      · have b5 : (l != -1) = false := by simpa using e5
        have b5' : (l == -1) = true := by simpa using e5
        clear e6 e7 e1 e2 e3 e5 M2 M3 M4 h
        go_enter Try.func27, Try.ntmps27
        go_wp2_with (first | (go_at_call 81; refine (l02m_any _ _).mono ?_; rintro e w' ⟨rfl, rfl⟩) | (go_at_call 91; refine (sop_any _ _).mono ?_; rintro e w' ⟨rfl, rfl⟩))
        go_loopw [3] (fun i wr => ∃ j : Nat, j ≤ n ∧ i = .int .i64 j ∧ Hid (ChOk d (ch.take j)) ∧ Hid (∃ k, wr = (w.alloc (.cells #[.int .i64 d, .int .i64 m, .int .i64 v, .int .i64 l, .slice a n c] 26)).drewN k)) (fun i _ => n - (intOf i).toNat)
        case atStart => exact ⟨0, Nat.zero_le _, rfl, HI0, Lib.hid ⟨0, rfl⟩⟩
        case round =>
          obtain ⟨j, hj, rfl, HI, HW⟩ := hrel
          have hbel : Below (w.alloc (.cells #[.int .i64 d, .int .i64 m, .int .i64 v, .int .i64 l, .slice a n c] 26)).heap.size (w.alloc (.cells #[.int .i64 d, .int .i64 m, .int .i64 v, .int .i64 l, .slice a n c] 26)) wr := by
            obtain ⟨k, hk⟩ := HW.out
            rw [hk]; exact below_drewN (Below.refl _ _) k
          have hbx := (Bx.new w [.int .i64 d, .int .i64 m, .int .i64 v, .int .i64 l, .slice a n c] 26).on hbel
          obtain ⟨f0, f1, f2, f3, f4⟩ := hbx.five
          have HBL := Lib.hid hbel
          by_cases hlt : j < n
          · obtain ⟨b1, o1, rfl, hb1, hc⟩ := (H.out.on hbel).at (by omega)
            have hx := hc j hlt
            obtain ⟨b, hb⟩ : ∃ y_, ch.getD j 0 = y_ := ⟨_, rfl⟩
            rw [hb] at hx
            have hjn : j < ch.length := by rw [HL.out]; exact hlt
            by_cases k1 : mthB b = true
            case neg =>
              have k1' : mthB b = false := by simpa using k1
              have HR : Hid (fmB d m v l ch = false) := Lib.hid (HFn.out (chOk_no hjn (by rw [hb]; intro e; exact k1 ((mthB_iff _).2 ⟨e.1, e.2.1⟩))))
              clear hb hc hb1 hbx hbel k1
              go_wp2_with fail
              go_quiet ((go_at_call 81; exact fq_sym (l02m_any _ _)))
              go_wp2_with fail
              go_ret
              exact ⟨ret_bool HR.out.symm, (box_b w _).trans ((below_drewN HBL.out nq).mono (by simp))⟩
            by_cases k2 : b ≤ d + 9
            case neg =>
              have k2' : decide (d + 9 < b) = true := by simp; omega
              have HR : Hid (fmB d m v l ch = false) := Lib.hid (HFn.out (chOk_no hjn (by rw [hb]; omega)))
              clear hb hc hb1 hbx hbel k2
              go_wp2_with fail
              go_quiet ((go_at_call 81; exact fq_sym (l02m_any _ _)))
              go_wp2_with fail
              go_ret
              exact ⟨ret_bool HR.out.symm, (box_b w _).trans ((below_drewN HBL.out nq).mono (by simp))⟩
            have k2' : decide (d + 9 < b) = false := by simp; omega
            have K1 := (mthB_iff _).1 k1
            rcases Nat.eq_zero_or_pos j with k3 | k3
            · have k3' : decide (0 < j) = false := by simp; omega
              have HI2 : Hid (ChOk d (ch.take (j + 1))) := Lib.hid (by subst k3; exact chOk_one hjn (by rw [hb]; omega))
              clear hb hc hb1 hbx hbel k2 K1 k3 hjn
              go_wp2_with fail
              go_quiet ((go_at_call 81; exact fq_sym (l02m_any _ _)))
              go_wp2_with fail
              go_roundw
              case rel => exact ⟨j + 1, by omega, by go_num, HI2, Lib.hid (by obtain ⟨k, hk⟩ := HW.out; exact ⟨k + nq, by rw [hk, World.drewN_drewN]⟩)⟩
              case measure => simp [intOf]; omega
            · have k3' : decide (0 < j) = true := by simp; omega
              obtain ⟨p, hp⟩ : ∃ p, j = p + 1 := ⟨j - 1, by omega⟩
              have hy := hc p (by omega)
              obtain ⟨u, hu⟩ : ∃ y_, ch.getD p 0 = y_ := ⟨_, rfl⟩
              rw [hu] at hy
              have q2 : IntKind.i64.wrap ((j : Int) - 1) = (p : Int) := by rw [IntWalk.i64_in _ (by omega)]; omega
              have hpn : p < n := by omega
              rcases Classical.em (b < u) with k4 | k4
              · have k4' : decide (b < u) = true := by simpa using k4
                have HR : Hid (fmB d m v l ch = false) := Lib.hid (HFn.out (by subst hp; exact chOk_fall hjn (by rw [hb, hu]; exact k4)))
                clear hb hu hp hc hb1 hbx hbel k2 K1 k3 k4 hjn
                go_wp2_with fail
                go_quiet ((go_at_call 81; exact fq_sym (l02m_any _ _)))
                go_wp2_with fail
                go_ret
                exact ⟨ret_bool HR.out.symm, (box_b w _).trans ((below_drewN HBL.out nq).mono (by simp))⟩
              · have k4' : decide (b < u) = false := by simpa using k4
                have HI2 : Hid (ChOk d (ch.take (j + 1))) := Lib.hid (by
                  have hi := HI.out
                  subst hp
                  exact chOk_step hjn hi (by rw [hb]; omega) (by rw [hb, hu]; omega))
                clear hb hu hp hc hb1 hbx hbel k2 K1 k3 k4 hjn
                go_wp2_with fail
                go_quiet ((go_at_call 81; exact fq_sym (l02m_any _ _)))
                go_wp2_with fail
                go_roundw
                case rel => exact ⟨j + 1, by omega, by go_num, HI2, Lib.hid (by obtain ⟨k, hk⟩ := HW.out; exact ⟨k + nq, by rw [hk, World.drewN_drewN]⟩)⟩
                case measure => simp [intOf]; omega
          · have HR : Hid (fmB d m v l ch = true) := Lib.hid (by
              have hi := HI.out
              rw [List.take_of_length_le (by rw [HL.out]; omega)] at hi
              exact HFy.out hi)
            clear hbx hbel
            go_wp2_with fail
            go_ret
            exact ⟨ret_bool HR.out.symm, (box_b w _).trans (HBL.out.mono (by simp))⟩
      · have b6 : ¬ l < v := by omega
        have b5 : (l != -1) = true := by simpa using e5
        have b5' : (l == -1) = false := by simpa using e5
        clear e6 e7 e1 e2 e3 e5 M2 M3 M4 h
        go_enter Try.func27, Try.ntmps27
        go_wp2_with (first | (go_at_call 81; refine (l02m_any _ _).mono ?_; rintro e w' ⟨rfl, rfl⟩) | (go_at_call 91; refine (sop_any _ _).mono ?_; rintro e w' ⟨rfl, rfl⟩))
        go_loopw [3] (fun i wr => ∃ j : Nat, j ≤ n ∧ i = .int .i64 j ∧ Hid (ChOk d (ch.take j)) ∧ Hid (∃ k, wr = (w.alloc (.cells #[.int .i64 d, .int .i64 m, .int .i64 v, .int .i64 l, .slice a n c] 26)).drewN k)) (fun i _ => n - (intOf i).toNat)
        case atStart => exact ⟨0, Nat.zero_le _, rfl, HI0, Lib.hid ⟨0, rfl⟩⟩
        case round =>
          obtain ⟨j, hj, rfl, HI, HW⟩ := hrel
          have hbel : Below (w.alloc (.cells #[.int .i64 d, .int .i64 m, .int .i64 v, .int .i64 l, .slice a n c] 26)).heap.size (w.alloc (.cells #[.int .i64 d, .int .i64 m, .int .i64 v, .int .i64 l, .slice a n c] 26)) wr := by
            obtain ⟨k, hk⟩ := HW.out
            rw [hk]; exact below_drewN (Below.refl _ _) k
          have hbx := (Bx.new w [.int .i64 d, .int .i64 m, .int .i64 v, .int .i64 l, .slice a n c] 26).on hbel
          obtain ⟨f0, f1, f2, f3, f4⟩ := hbx.five
          have HBL := Lib.hid hbel
          by_cases hlt : j < n
          · obtain ⟨b1, o1, rfl, hb1, hc⟩ := (H.out.on hbel).at (by omega)
            have hx := hc j hlt
            obtain ⟨b, hb⟩ : ∃ y_, ch.getD j 0 = y_ := ⟨_, rfl⟩
            rw [hb] at hx
            have hjn : j < ch.length := by rw [HL.out]; exact hlt
            by_cases k1 : mthB b = true
            case neg =>
              have k1' : mthB b = false := by simpa using k1
              have HR : Hid (fmB d m v l ch = false) := Lib.hid (HFn.out (chOk_no hjn (by rw [hb]; intro e; exact k1 ((mthB_iff _).2 ⟨e.1, e.2.1⟩))))
              clear hb hc hb1 hbx hbel k1
              go_wp2_with fail
              go_quiet ((go_at_call 81; exact fq_sym (l02m_any _ _)))
              go_wp2_with fail
              go_ret
              exact ⟨ret_bool HR.out.symm, (box_b w _).trans ((below_drewN HBL.out nq).mono (by simp))⟩
            by_cases k2 : b ≤ d + 9
            case neg =>
              have k2' : decide (d + 9 < b) = true := by simp; omega
              have HR : Hid (fmB d m v l ch = false) := Lib.hid (HFn.out (chOk_no hjn (by rw [hb]; omega)))
              clear hb hc hb1 hbx hbel k2
              go_wp2_with fail
              go_quiet ((go_at_call 81; exact fq_sym (l02m_any _ _)))
              go_wp2_with fail
              go_ret
              exact ⟨ret_bool HR.out.symm, (box_b w _).trans ((below_drewN HBL.out nq).mono (by simp))⟩
            have k2' : decide (d + 9 < b) = false := by simp; omega
            have K1 := (mthB_iff _).1 k1
            rcases Nat.eq_zero_or_pos j with k3 | k3
            · have k3' : decide (0 < j) = false := by simp; omega
              have HI2 : Hid (ChOk d (ch.take (j + 1))) := Lib.hid (by subst k3; exact chOk_one hjn (by rw [hb]; omega))
              clear hb hc hb1 hbx hbel k2 K1 k3 hjn
              go_wp2_with fail
              go_quiet ((go_at_call 81; exact fq_sym (l02m_any _ _)))
              go_wp2_with fail
              go_roundw
              case rel => exact ⟨j + 1, by omega, by go_num, HI2, Lib.hid (by obtain ⟨k, hk⟩ := HW.out; exact ⟨k + nq, by rw [hk, World.drewN_drewN]⟩)⟩
              case measure => simp [intOf]; omega
            · have k3' : decide (0 < j) = true := by simp; omega
              obtain ⟨p, hp⟩ : ∃ p, j = p + 1 := ⟨j - 1, by omega⟩
              have hy := hc p (by omega)
              obtain ⟨u, hu⟩ : ∃ y_, ch.getD p 0 = y_ := ⟨_, rfl⟩
              rw [hu] at hy
              have q2 : IntKind.i64.wrap ((j : Int) - 1) = (p : Int) := by rw [IntWalk.i64_in _ (by omega)]; omega
              have hpn : p < n := by omega
              rcases Classical.em (b < u) with k4 | k4
              · have k4' : decide (b < u) = true := by simpa using k4
                have HR : Hid (fmB d m v l ch = false) := Lib.hid (HFn.out (by subst hp; exact chOk_fall hjn (by rw [hb, hu]; exact k4)))
                clear hb hu hp hc hb1 hbx hbel k2 K1 k3 k4 hjn
                go_wp2_with fail
                go_quiet ((go_at_call 81; exact fq_sym (l02m_any _ _)))
                go_wp2_with fail
                go_ret
                exact ⟨ret_bool HR.out.symm, (box_b w _).trans ((below_drewN HBL.out nq).mono (by simp))⟩
              · have k4' : decide (b < u) = false := by simpa using k4
                have HI2 : Hid (ChOk d (ch.take (j + 1))) := Lib.hid (by
                  have hi := HI.out
                  subst hp
                  exact chOk_step hjn hi (by rw [hb]; omega) (by rw [hb, hu]; omega))
                clear hb hu hp hc hb1 hbx hbel k2 K1 k3 k4 hjn
                go_wp2_with fail
                go_quiet ((go_at_call 81; exact fq_sym (l02m_any _ _)))
                go_wp2_with fail
                go_roundw
                case rel => exact ⟨j + 1, by omega, by go_num, HI2, Lib.hid (by obtain ⟨k, hk⟩ := HW.out; exact ⟨k + nq, by rw [hk, World.drewN_drewN]⟩)⟩
                case measure => simp [intOf]; omega
          · have HR : Hid (fmB d m v l ch = true) := Lib.hid (by
              have hi := HI.out
              rw [List.take_of_length_le (by rw [HL.out]; omega)] at hi
              exact HFy.out hi)
            clear hbx hbel
            go_wp2_with fail
            go_ret
            exact ⟨ret_bool HR.out.symm, (box_b w _).trans (HBL.out.mono (by simp))⟩
  rcases Classical.em (v = -1) with e1 | e1
  · have b1 : (v != -1) = false := by simpa using e1
    have b1' : (v == -1) = true := by simpa using e1
    rcases Classical.em (l = -1) with e5 | e5
    · exact key (.inl e1) (.inl e5)
    · have HR : Hid (fmB d m v l ch = false) := Lib.hid (fm_no fun e => by have := e.2.2.2.1; omega)
      have b5 : (l != -1) = true := by simpa using e5
      have b5' : (l == -1) = false := by simpa using e5
      clear e1 e5 M1 M2 M3 M4 h HL key
      go_enter Try.func27, Try.ntmps27
      go_wp2_with (first | (go_at_call 81; refine (l02m_any _ _).mono ?_; rintro e w' ⟨rfl, rfl⟩) | (go_at_call 91; refine (sop_any _ _).mono ?_; rintro e w' ⟨rfl, rfl⟩))
      go_ret
      exact ⟨ret_bool HR.out.symm, box_b _ _⟩
  · have b1 : (v != -1) = true := by simpa using e1
    have b1' : (v == -1) = false := by simpa using e1
    rcases Classical.em (v = d + 1) with e2 | e2
    · have b2 : (v != d + 1) = false := by simpa using e2
      have b2' : (v == d + 1) = true := by simpa using e2
      rcases Classical.em (m = -1) with e3 | e3
      · have HR : Hid (fmB d m v l ch = false) := Lib.hid (fm_no fun e => by have := e.2.2.1; omega)
        have b3 : (m == -1) = true := by simpa using e3
        clear e1 e2 e3 M1 M2 M3 M4 h HL key
        go_enter Try.func27, Try.ntmps27
        go_wp2_with (first | (go_at_call 81; refine (l02m_any _ _).mono ?_; rintro e w' ⟨rfl, rfl⟩) | (go_at_call 91; refine (sop_any _ _).mono ?_; rintro e w' ⟨rfl, rfl⟩))
        go_ret
        exact ⟨ret_bool HR.out.symm, box_b _ _⟩
      · have b3 : (m == -1) = false := by simpa using e3
        rcases Classical.em (m ≤ d) with e4 | e4
        · have b4 : ¬ d < m := by omega
          rcases Classical.em (l = -1) with e5 | e5
          · exact key (.inr ⟨e2, e3, e4⟩) (.inl e5)
          · have b5 : (l != -1) = true := by simpa using e5
            have b5' : (l == -1) = false := by simpa using e5
            rcases Classical.em (v ≤ l) with e6 | e6
            · exact key (.inr ⟨e2, e3, e4⟩) (.inr ⟨e1, e6⟩)
            · have HR : Hid (fmB d m v l ch = false) := Lib.hid (fm_no fun e => by have := e.2.2.2.1; omega)
              have b6 : l < v := by omega
              clear e1 e2 e3 e4 e5 e6 M1 M2 M3 M4 h HL key
              go_enter Try.func27, Try.ntmps27
              go_wp2_with (first | (go_at_call 81; refine (l02m_any _ _).mono ?_; rintro e w' ⟨rfl, rfl⟩) | (go_at_call 91; refine (sop_any _ _).mono ?_; rintro e w' ⟨rfl, rfl⟩))
              go_ret
              exact ⟨ret_bool HR.out.symm, box_b _ _⟩
        · have HR : Hid (fmB d m v l ch = false) := Lib.hid (fm_no fun e => by have := e.2.2.1; omega)
          have b4 : d < m := by omega
          clear e1 e2 e3 e4 M1 M2 M3 M4 h HL key
          go_enter Try.func27, Try.ntmps27
          go_wp2_with (first | (go_at_call 81; refine (l02m_any _ _).mono ?_; rintro e w' ⟨rfl, rfl⟩) | (go_at_call 91; refine (sop_any _ _).mono ?_; rintro e w' ⟨rfl, rfl⟩))
          go_ret
          exact ⟨ret_bool HR.out.symm, box_b _ _⟩
    · have HR : Hid (fmB d m v l ch = false) := Lib.hid (fm_no fun e => by have := e.2.2.1; omega)
      have b2 : (v != d + 1) = true := by simpa using e2
      have b2' : (v == d + 1) = false := by simpa using e2
      clear e1 e2 M1 M2 M3 M4 h HL key
      go_enter Try.func27, Try.ntmps27
      go_wp2_with (first | (go_at_call 81; refine (l02m_any _ _).mono ?_; rintro e w' ⟨rfl, rfl⟩) | (go_at_call 91; refine (sop_any _ _).mono ?_; rintro e w' ⟨rfl, rfl⟩))
      go_ret
      exact ⟨ret_bool HR.out.symm, box_b _ _⟩

end Go.Proofs.Ytmnddplkmljeaaa
