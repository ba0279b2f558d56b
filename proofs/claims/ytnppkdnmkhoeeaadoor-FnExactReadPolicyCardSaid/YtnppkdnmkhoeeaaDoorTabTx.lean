/- TableText of the model: what the calls return. -/
import Derived.Test.YtnppkdnmkhoeeaaDoorTabT
import Derived.Test.YtnppkdnmkhoeeaaDoorTabC
import Derived.Test.YtnppkdnmkhoeeaaDoorDrawS
namespace Go.Proofs.YtnppkdnmkhoeeaaDoor
open Go.ChangeShapes Go.WideShapes Go.ChangeAt Go.RowKit
set_option linter.unusedVariables false
set_option maxRecDepth 100000

theorem itoa_len (n : Int) (h0 : 0 ≤ n) (h1 : n ≤ 1000000000000) : (Lib.itoa n).length ≤ 21 := Lib.itoa_length_le n (by omega) (by omega)

theorem tailT_len (r : List Int) (h : ∀ x ∈ r, 0 ≤ x ∧ x ≤ 1000000) : (tailT r).length ≤ 22 * r.length := by
  induction r with
  | nil => simp [tailT]
  | cons x t ih =>
    rw [tailT_cons, List.length_cons, List.length_append, List.length_cons]
    have h1 := itoa_len x (h x List.mem_cons_self).1 (by have := (h x List.mem_cons_self).2; omega)
    have h2 := ih fun y hy => h y (List.mem_cons_of_mem _ hy)
    omega

theorem jn_len (xs : List Int) (h : ∀ x ∈ xs, 0 ≤ x ∧ x ≤ 1000000) : (jn xs).length ≤ 22 * xs.length := by
  cases xs with
  | nil => simp [jn]
  | cons x t =>
    rw [jn, List.length_append, List.length_cons]
    have h1 := itoa_len x (h x List.mem_cons_self).1 (by have := (h x List.mem_cons_self).2; omega)
    have h2 := tailT_len t fun y hy => h y (List.mem_cons_of_mem _ hy)
    omega

theorem jn_take_succ (xs : List Int) (k : Nat) (hk : k < xs.length) (h0 : 0 < k) : jn (xs.take (k + 1)) = jn (xs.take k) ++ (32 :: Lib.itoa (xs.getD k 0)) := by
  rw [List.take_add_one, List.getElem?_eq_getElem hk]
  cases xs with
  | nil => simp at hk
  | cons x t =>
    obtain ⟨j, rfl⟩ : ∃ j, k = j + 1 := ⟨k - 1, by omega⟩
    rw [List.take_succ_cons]
    show jn (x :: (t.take j ++ [(x :: t)[j + 1]])) = _
    rw [jn_snoc]
    simp [List.getD, show j < t.length by simpa using hk]

theorem jn_take_one (xs : List Int) (hk : 0 < xs.length) : jn (xs.take 1) = Lib.itoa (xs.getD 0 0) := by
  cases xs with
  | nil => simp at hk
  | cons x t => simp [jn_one]

/-- numbers of a table's text -/
def Nums (xs : List Int) : Prop := ∀ x ∈ xs, 0 ≤ x ∧ x ≤ 1000000

theorem Nums.get {xs : List Int} (h : Nums xs) (i : Nat) : 0 ≤ xs.getD i 0 ∧ xs.getD i 0 ≤ 1000000 := by
  by_cases hi : i < xs.length
  · rw [List.getD_eq_getElem?_getD, List.getElem?_eq_getElem hi]; exact h _ (List.getElem_mem _)
  · rw [getD_far _ _ (by omega)]; omega

theorem Nums.take {xs : List Int} (h : Nums xs) (k : Nat) : Nums (xs.take k) := fun x hx => h x (List.mem_of_mem_take hx)

theorem LTab.nums {f : Int} {xs : List Int} (h : LTab f xs) : Nums (f :: xs) := by
  intro x hx
  rcases List.mem_cons.1 hx with rfl | hx
  · have := h.1; omega
  · obtain ⟨i, hi, rfl⟩ := List.getElem_of_mem hx
    have h1 := h.nonneg i
    have h2 := h.le i
    rw [List.getD_eq_getElem?_getD, List.getElem?_eq_getElem hi] at h1 h2
    exact ⟨h1, h2⟩

theorem number_any (n : Int) (w : World) (h0 : 0 ≤ n) (h1 : n ≤ 1000000000000) :
    Calls Tryd.prog 23 #[.int .i64 n] w fun e w' => e = .returned (.string ⟨(Lib.itoa n).toArray⟩) ∧ Below w.heap.size w w' := by
  obtain ⟨u, rfl⟩ := Int.eq_ofNat_of_zero_le h0
  have hc := fun w => dec_any u (u : Int) w (by omega) (by omega) (by omega)
  have HI := Lib.hid (itoa_nat u)
  simp only [Int.toNat_natCast] at hc
  have HC := Lib.hid hc
  clear hc
  go_enter Tryd.func23, Tryd.ntmps23
  go_wp2_with fail
  refine (HC.out _).mono ?_
  rintro e w1 ⟨rfl, hb⟩
  have HB := Lib.hid hb
  clear hb
  go_wp2_with fail
  go_ret
  exact ⟨ret_str (by rw [HI.out]), HB.out⟩

set_option maxHeartbeats 1000000 in
theorem join_any (xs : List Int) (a : Option Addr) (l c : Nat) (w : World) (h : Ints w a l xs) (hn : Nums xs) (hl : l ≤ 1000) :
    Calls Tryd.prog 12 #[.slice a l c, .string ⟨#[32]⟩] w fun e w' => e = .returned (.string ⟨(jn xs).toArray⟩) ∧ Below w.heap.size w w' := by
  have HL := Lib.hid h.len
  have H := Lib.hid h
  have HN := Lib.hid hn
  clear h hn
  go_enter Tryd.func12, Tryd.ntmps12
  go_wp2_with fail
  go_loopw [5, 6] (fun s i wr => ∃ k : Nat, k ≤ l ∧ i = .int .i64 k ∧ s = .string ⟨(jn (xs.take k)).toArray⟩ ∧ Hid (Below w.heap.size w wr)) (fun _ i _ => l - (intOf i).toNat)
  case atStart => exact ⟨0, Nat.zero_le _, rfl, by simp [jn], Lib.hid (Below.refl _ _)⟩
  case round =>
    obtain ⟨k, hk, rfl, rfl, HB⟩ := hrel
    have hlen := jn_len (xs.take k) (HN.out.take k)
    have hlk : (xs.take k).length ≤ k := List.length_take_le _ _
    by_cases hlt : k < l
    · obtain ⟨b, off, rfl, hb, hc⟩ := H.out.at (by omega)
      have hx := (HB.out.cell (p := ⟨b, off + k, none⟩) hb).trans (hc k hlt)
      obtain ⟨n0, n1⟩ := HN.out.get k
      have HT := Lib.hid (jn_take_succ xs k (by rw [HL.out]; exact hlt))
      have HT1 : Hid (k = 0 → jn (xs.take (k + 1)) = Lib.itoa (xs.getD k 0)) := Lib.hid (fun e => by subst e; exact jn_take_one xs (by rw [HL.out]; omega))
      have HTE : Hid (k = 0 → jn (xs.take k) = []) := Lib.hid (fun e => by subst e; simp [jn])
      obtain ⟨n, hn0⟩ : ∃ n, xs.getD k 0 = n := ⟨_, rfl⟩
      rw [hn0] at hx n0 n1 HT HT1
      have hil := itoa_len n n0 (by omega)
      obtain ⟨J, hJ⟩ : ∃ J, jn (xs.take k) = J := ⟨_, rfl⟩
      rw [hJ] at hlen HT HTE ⊢
      have hx' : wr.cell? ⟨b, off + k, none⟩ = some (.int .i64 n) := hx
      clear hn0 hJ hc hx
      have hJ2 : J.length ≤ 22000 := by omega
      by_cases h0 : k = 0
      · have hk0 : ¬ (0 : Int) < (k : Int) := by omega
        have HE := Lib.hid (HTE.out h0)
        have HT2 := Lib.hid (HT1.out h0)
        clear h0
        go_wp2_with fail
        refine (number_any n _ n0 (by omega)).mono ?_
        rintro e w3 ⟨rfl, hb3⟩
        have HB3 := Lib.hid (HB.out.trans (hb3.mono HB.out.size))
        clear hb3
        go_wp2_with fail
        go_roundw
        case rel => exact ⟨k + 1, by omega, by go_num, by rw [HT2.out]; congr 1; apply ByteArray.ext; simp [HE.out], HB3⟩
        case measure => simp [intOf]; omega
      · have hk0 : (0 : Int) < (k : Int) := by omega
        have HT2 := Lib.hid (HT.out (by omega))
        clear h0
        go_wp2_with fail
        refine (number_any n _ n0 (by omega)).mono ?_
        rintro e w3 ⟨rfl, hb3⟩
        have HB3 := Lib.hid (HB.out.trans (hb3.mono HB.out.size))
        clear hb3
        go_wp2_with fail
        go_roundw
        case rel => exact ⟨k + 1, by omega, by go_num, by rw [HT2.out]; congr 1; apply ByteArray.ext; simp, HB3⟩
        case measure => simp [intOf]; omega
    · obtain rfl : k = l := by omega
      have HX : Hid (xs.take k = xs) := Lib.hid (List.take_of_length_le (by rw [HL.out]; exact Nat.le_refl _))
      go_wp2_with fail
      go_ret
      exact ⟨ret_str (by rw [HX.out]), HB.out⟩

end Go.Proofs.YtnppkdnmkhoeeaaDoor
