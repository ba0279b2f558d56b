/- spec.ShareOut: what a call does; the exact law on ShareOut. -/
import Derived.Test.YtalfbhkgjfkneaaSpecSh
import Derived.Test.YtalfbhkgjfkneaaShareG
import Derived.Test.YtalfbhkgjfkneaaSumLaw
namespace Go.Proofs.Ytalfbhkgjfkneaa
open Go.ChangeShapes Go.WideShapes Go.ChangeAt Go.RowKit
set_option linter.unusedVariables false

theorem sum_fit (xs : List Int) (h : ∀ x ∈ xs, 0 ≤ x ∧ x ≤ 1000000000) (hl : xs.length ≤ 130) : SumsFit xs := fun k => by
  have := sum_take_bd 1000000000 (by omega) xs k 130 hl fun x hx => by
    have := h x (List.mem_of_mem_take hx); omega
  omega

theorem shs_bad (A : Int) (xs : List Int) (a : Option Addr) (l c : Nat) (w : World) (h : Ints w a l xs) (hb : shB A xs = false) :
    Calls Try.prog 16 #[.int .i64 A, .slice a l c] w fun e w' => e = .returned (.tuple #[.slice none 0 0, .int .i64 2]) ∧ w = w' := by
  have H := Lib.hid h
  obtain rfl := h.len
  clear h
  by_cases hA : inB A 0 1000000000 = true
  · have hB : (xs.all (fun x => inB x 0 1000000000) && decide ((xs.length : Int) ≤ 130)) = false := by
      unfold shB at hb; rw [hA, Bool.true_and] at hb; exact hb
    clear hb
    go_enter Try.func16, Try.ntmps16
    go_wp2_with (first | (go_at_call 44; refine (in_any _ _ _ _).mono ?_; rintro e w' ⟨rfl, rfl⟩) | (go_at_call 45; refine (inAll_any xs _ _ _ _ _ _ _ H.out).mono ?_; rintro e w' ⟨rfl, rfl⟩; rw [hB]))
    go_ret2
    exact ⟨rfl, rfl⟩
  · clear hb
    go_enter Try.func16, Try.ntmps16
    go_wp2_with (first | (go_at_call 44; refine (in_any _ _ _ _).mono ?_; rintro e w' ⟨rfl, rfl⟩))
    go_ret2
    exact ⟨rfl, rfl⟩

theorem shs_zero (A : Int) (xs : List Int) (a : Option Addr) (l c : Nat) (w : World) (h : Ints w a l xs) (hb : shB A xs = true) (hz : xs.sum = 0) :
    Calls Try.prog 16 #[.int .i64 A, .slice a l c] w fun e w' => e = .returned (.tuple #[.slice none 0 0, .int .i64 5]) ∧ w = w' := by
  have H := Lib.hid h
  obtain rfl := h.len
  clear h
  obtain ⟨hA1, hA2, hX, h130⟩ := shB_of hb
  have HF := Lib.hid (sum_fit xs hX h130)
  have hA : inB A 0 1000000000 = true := inB_t hA1 hA2
  have hB : (xs.all (fun x => inB x 0 1000000000) && decide ((xs.length : Int) ≤ 130)) = true := by
    unfold shB at hb; rw [hA, Bool.true_and] at hb; exact hb
  clear hb hX hA1 hA2 h130
  go_enter Try.func16, Try.ntmps16
  go_wp2_with (first | (go_at_call 44; refine (in_any _ _ _ _).mono ?_; rintro e w' ⟨rfl, rfl⟩) | (go_at_call 45; refine (inAll_any xs _ _ _ _ _ _ _ H.out).mono ?_; rintro e w' ⟨rfl, rfl⟩; rw [hB]) | (go_at_call 46; refine (sumL_any xs _ _ _ _ H.out HF.out).mono ?_; rintro e w' ⟨rfl, rfl⟩))
  go_ret2
  exact ⟨rfl, rfl⟩

def ShsPost (A T : Int) (xs : List Int) (l : Nat) (w : World) (e : Ending) (w' : World) : Prop :=
  ∃ g cap ys, e = .returned (.tuple #[.slice (some ⟨g, 0, none⟩) l cap, .int .i64 0]) ∧ OwnI w.heap.size w' (.slice (some ⟨g, 0, none⟩) l cap) ys ∧ ys.length = l ∧ Below w.heap.size w w' ∧
    ∀ g, Prm 0 l id g → Srt (keyOf (reS A T xs)) 0 l g → ys = bump (shS A T xs) g (A - (shS A T xs).sum).toNat

theorem shs_good (A : Int) (xs : List Int) (a : Option Addr) (l c : Nat) (w : World) (h : Ints w a l xs) (hb : shB A xs = true) (hz : xs.sum ≠ 0) :
    Calls Try.prog 16 #[.int .i64 A, .slice a l c] w (ShsPost A xs.sum xs l w) := by
  have H := Lib.hid h
  obtain rfl := h.len
  clear h
  have HB := Lib.hid hb
  have HZ := Lib.hid hz
  obtain ⟨hA1, hA2, hX, h130⟩ := shB_of hb
  have HF := Lib.hid (sum_fit xs hX h130)
  have hA : inB A 0 1000000000 = true := inB_t hA1 hA2
  have hB : (xs.all (fun x => inB x 0 1000000000) && decide ((xs.length : Int) ≤ 130)) = true := by
    unfold shB at hb; rw [hA, Bool.true_and] at hb; exact hb
  have hzb : (xs.sum == 0) = false := by simpa using hz
  clear hb hX hA1 hA2 h130 hz
  go_enter Try.func16, Try.ntmps16
  go_wp2_with (first | (go_at_call 44; refine (in_any _ _ _ _).mono ?_; rintro e w' ⟨rfl, rfl⟩) | (go_at_call 45; refine (inAll_any xs _ _ _ _ _ _ _ H.out).mono ?_; rintro e w' ⟨rfl, rfl⟩; rw [hB]) | (go_at_call 46; refine (sumL_any xs _ _ _ _ H.out HF.out).mono ?_; rintro e w' ⟨rfl, rfl⟩))
  refine (share_any A xs _ _ _ _ H.out HB.out HZ.out).mono ?_
  rintro e w1 ⟨g, cap, ys, rfl, hown, hyl, hbel, hall⟩
  have H1 := Lib.hid hown
  have H2 := Lib.hid hyl
  have H3 := Lib.hid hbel
  have H4 := Lib.hid hall
  clear hown hyl hbel hall
  go_wp2_with fail
  go_ret2
  exact ⟨g, cap, ys, rfl, H1.out, H2.out, H3.out, H4.out⟩

theorem Ints.only {w w' : World} {a : Option Addr} {l B : Nat} {xs : List Int} (h : Ints w a l xs) (ho : Only B w w') (hne : ∀ x, a = some x → x.block ≠ B) : Ints w' a l xs := by
  obtain ⟨h1, h2, h3⟩ := h
  refine ⟨h1, h2, ?_⟩
  rcases h3 with h0 | ⟨b, off, rfl, hc⟩
  · exact .inl h0
  · exact .inr ⟨b, off, rfl, fun i hi => by rw [ho.cell (p := ⟨b, off + i, none⟩) (hne ⟨b, off, none⟩ rfl)]; exact hc i hi⟩

end Go.Proofs.Ytalfbhkgjfkneaa
