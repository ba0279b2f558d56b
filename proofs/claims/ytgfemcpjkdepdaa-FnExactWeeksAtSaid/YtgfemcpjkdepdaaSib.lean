/- Sickness tables as lists of numbers; whether a table is one: what both functions return. -/
import Derived.Test.YtgfemcpjkdepdaaTabC
import Derived.Test.YtgfemcpjkdepdaaNums
namespace Go.Proofs.Ytgfemcpjkdepdaa
open Go.ChangeShapes Go.WideShapes Go.ChangeAt Go.RowKit
set_option linter.unusedVariables false
set_option linter.unusedSimpArgs false
set_option maxRecDepth 100000

/-- (g, ys) is a sickness table -/
def STab (g : Int) (ys : List Int) : Prop := (0 ≤ g ∧ g ≤ 100) ∧ (1 ≤ ys.length ∧ ys.length ≤ 120) ∧ ∀ y ∈ ys, 0 ≤ y ∧ y ≤ 52000

def skB (g : Int) (ys : List Int) : Bool := inB g 0 100 && decide (1 ≤ ys.length ∧ ys.length ≤ 120) && ys.all (fun y => inB y 0 52000)

theorem skB_iff (g : Int) (ys : List Int) : skB g ys = true ↔ STab g ys := by
  unfold skB STab
  simp only [Bool.and_eq_true, inB_iff, decide_eq_true_iff, List.all_eq_true]
  constructor
  · rintro ⟨⟨a, b⟩, c⟩; exact ⟨a, b, c⟩
  · rintro ⟨a, b, c⟩; exact ⟨⟨a, b⟩, c⟩

theorem skB_no {g : Int} {ys : List Int} (h : skB g ys = true → False) : skB g ys = false := by
  rw [Bool.eq_false_iff]; exact h

theorem STab.get {g : Int} {ys : List Int} (h : STab g ys) (i : Nat) : 0 ≤ ys.getD i 0 ∧ ys.getD i 0 ≤ 52000 := by
  by_cases hi : i < ys.length
  · rw [List.getD_eq_getElem?_getD, List.getElem?_eq_getElem hi]; exact h.2.2 _ (List.getElem_mem _)
  · rw [getD_far _ _ (by omega)]; omega

theorem isS_spec (g : Int) (ys : List Int) (a : Option Addr) (l c : Nat) (w : World) (h : Ints w a l ys) :
    Calls Try.prog 20 #[.agg #[.int .i64 g, .slice a l c]] w fun e w' => e = .returned (.bool (skB g ys)) ∧ Below w.heap.size w w' := by
  have HL := Lib.hid h.len
  have hm := h.max
  have CW := Lib.hid (fun (W : World) (hW : Below w.heap.size w W) => inAll_any ys a l c 120 0 52000 W (h.on hW))
  have HA : Hid (inB g 0 100 = true → 1 ≤ l → skB g ys = (ys.all (fun x => inB x 0 52000) && decide ((l : Int) ≤ 120))) := Lib.hid (fun h1 h2 => by
    unfold skB
    rw [h1, HL.out]
    have e : decide (1 ≤ l ∧ l ≤ 120) = decide ((l : Int) ≤ 120) := by
      rw [decide_eq_decide]; omega
    rw [e, Bool.true_and, Bool.and_comm])
  clear h
  by_cases c1 : inB g 0 100 = true
  · by_cases c2 : (1 : Int) ≤ l
    · have HR := Lib.hid (HA.out c1 (by omega))
      obtain ⟨A, hA⟩ : ∃ y_, (ys.all (fun x => inB x 0 52000) && decide ((l : Int) ≤ 120)) = y_ := ⟨_, rfl⟩
      rw [hA] at CW HR
      clear hA HA
      go_enter Try.func20, Try.ntmps20
      go_wp2_with (first | (go_at_call 44; refine (in_any _ _ _ _).mono ?_; rintro e w' ⟨rfl, rfl⟩) | (go_at_call 41; refine (CW.out _ (box_b _ _)).mono ?_; rintro e w' ⟨rfl, rfl⟩))
      go_ret
      exact ⟨ret_bool HR.out.symm, box_b _ _⟩
    · have HR : Hid (skB g ys = false) := Lib.hid (skB_no fun e => by have := ((skB_iff _ _).1 e).2.1; have := HL.out; omega)
      clear HA CW
      go_enter Try.func20, Try.ntmps20
      go_wp2_with (go_at_call 44; refine (in_any _ _ _ _).mono ?_; rintro e w' ⟨rfl, rfl⟩)
      go_ret
      exact ⟨ret_bool HR.out.symm, box_b _ _⟩
  · have HR : Hid (skB g ys = false) := Lib.hid (skB_no fun e => c1 ((inB_iff _ _ _).2 ((skB_iff _ _).1 e).1))
    clear HA CW
    go_enter Try.func20, Try.ntmps20
    go_wp2_with (go_at_call 44; refine (in_any _ _ _ _).mono ?_; rintro e w' ⟨rfl, rfl⟩)
    go_ret
    exact ⟨ret_bool HR.out.symm, box_b _ _⟩

set_option maxHeartbeats 1000000 in
theorem isS_impl (g : Int) (ys : List Int) (a : Option Addr) (l c : Nat) (w : World) (h : Ints w a l ys) (hlc : l ≤ c) :
    Calls Try.prog 22 #[.agg #[.int .i64 g, .slice a l c]] w fun e w' => e = .returned (.bool (skB g ys)) ∧ Below w.heap.size w w' := by
  have hm := h.max
  have HL := Lib.hid h.len
  have HB := Lib.hid (box_b w (.cells #[.int .i64 g, .slice a l c] 26))
  by_cases c3 : inB g 0 100 = true
  case neg =>
    have HR : Hid (skB g ys = false) := Lib.hid (skB_no fun e => c3 ((inB_iff _ _ _).2 ((skB_iff _ _).1 e).1))
    go_enter Try.func22, Try.ntmps22
    go_wp2_with (go_at_call 37; refine (within_any _ _ _ _).mono ?_; rintro e w' ⟨rfl, rfl⟩)
    go_ret
    exact ⟨ret_bool HR.out.symm, HB.out⟩
  by_cases c1 : inB (l : Int) 1 120 = true
  case neg =>
    have HR : Hid (skB g ys = false) := Lib.hid (skB_no fun e => by have := ((skB_iff _ _).1 e).2.1; rw [inB_iff] at c1; have := HL.out; omega)
    go_enter Try.func22, Try.ntmps22
    go_wp2_with (go_at_call 37; refine (within_any _ _ _ _).mono ?_; rintro e w' ⟨rfl, rfl⟩)
    go_ret
    exact ⟨ret_bool HR.out.symm, HB.out⟩
  obtain ⟨l0, l1⟩ := (inB_iff _ _ _).1 c1
  have HG := Lib.hid ((inB_iff _ _ _).1 c3)
  obtain ⟨b, off, rfl, hb, hc⟩ := h.at (by omega)
  have HC : Hid (∀ i, i < l → (w.alloc (.cells #[.int .i64 g, .slice (some ⟨b, off, none⟩) l c] 26)).cell? ⟨b, off + i, none⟩ = some (.int .i64 (ys.getD i 0))) := Lib.hid (fun i hi => (HB.out.cell (p := ⟨b, off + i, none⟩) hb).trans (hc i hi))
  have HT : Hid ((∀ j, j < l → inB (ys.getD j 0) 0 52000 = true) → skB g ys = true) := Lib.hid (fun hh => (skB_iff _ _).2 ⟨HG.out, by rw [HL.out]; omega, fun y hy => by
    obtain ⟨i, hi, rfl⟩ := List.getElem_of_mem hy
    have := hh i (by rw [← HL.out]; exact hi)
    rw [List.getD_eq_getElem?_getD, List.getElem?_eq_getElem hi] at this
    exact (inB_iff _ _ _).1 this⟩)
  have HF : Hid (∀ j, ¬ inB (ys.getD j 0) 0 52000 = true → skB g ys = false) := Lib.hid (fun j hh => skB_no fun e => hh ((inB_iff _ _ _).2 (((skB_iff _ _).1 e).get j)))
  clear hc h
  go_enter Try.func22, Try.ntmps22
  go_wp2_with (go_at_call 37; refine (within_any _ _ _ _).mono ?_; rintro e w' ⟨rfl, rfl⟩)
  go_loop [19] (fun i => ∃ k : Nat, k ≤ l ∧ i = .int .i64 k ∧ Hid (∀ j, j < k → inB (ys.getD j 0) 0 52000 = true)) (fun i => l - (intOf i).toNat)
  case atStart => exact ⟨0, Nat.zero_le _, rfl, Lib.hid (fun j hj => by omega)⟩
  case round =>
    obtain ⟨k, hk, rfl, HK⟩ := hrel
    by_cases hlt : k < l
    · have hx := HC.out k hlt
      obtain ⟨r, hr0⟩ : ∃ r, ys.getD k 0 = r := ⟨_, rfl⟩
      rw [hr0] at hx
      have HX := Lib.hid hr0
      clear hr0
      by_cases hin : inB r 0 52000 = true
      · go_wp2_with (go_at_call 37; refine (within_any _ _ _ _).mono ?_; rintro e w' ⟨rfl, rfl⟩)
        go_round
        case rel => exact ⟨k + 1, by omega, by go_num, Lib.hid (fun j hj => by
          by_cases e : j = k
          · subst e; rw [HX.out]; exact hin
          · exact HK.out j (by omega))⟩
        case measure => simp [intOf]; omega
      · have HR := Lib.hid (HF.out k (by rw [HX.out]; exact hin))
        go_wp2_with (go_at_call 37; refine (within_any _ _ _ _).mono ?_; rintro e w' ⟨rfl, rfl⟩)
        go_ret
        exact ⟨ret_bool HR.out.symm, HB.out⟩
    · obtain rfl : k = l := by omega
      have HR := Lib.hid (HT.out HK.out)
      go_wp2_with fail
      go_ret
      exact ⟨ret_bool HR.out.symm, HB.out⟩

end Go.Proofs.Ytgfemcpjkdepdaa
