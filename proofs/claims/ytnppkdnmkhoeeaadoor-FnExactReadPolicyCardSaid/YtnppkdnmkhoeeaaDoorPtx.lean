/- Policies: numbers separated by commas; the model's text of a policy. (Written by wip/gen/ptx.py.) -/
import Derived.Test.YtnppkdnmkhoeeaaDoorTabTx
import Derived.Test.YtnppkdnmkhoeeaaDoorOpn
namespace Go.Proofs.YtnppkdnmkhoeeaaDoor
open Go.ChangeShapes Go.WideShapes Go.ChangeAt Go.RowKit
set_option linter.unusedVariables false
set_option maxRecDepth 100000

/-- a comma and a number, for each -/
def tailC (r : List Int) : List UInt8 := r.flatMap fun m => 44 :: Lib.itoa m

/-- numbers in decimal, separated by commas -/
def jc : List Int → List UInt8
  | [] => []
  | n :: r => Lib.itoa n ++ tailC r

theorem tailC_snoc (r : List Int) (m : Int) : tailC (r ++ [m]) = tailC r ++ 44 :: Lib.itoa m := by simp [tailC]

theorem tailC_nil : tailC [] = [] := rfl

theorem tailC_cons (m : Int) (r : List Int) : tailC (m :: r) = 44 :: (Lib.itoa m ++ tailC r) := by simp [tailC]

theorem jc_one (n : Int) : jc [n] = Lib.itoa n := by simp [jc, tailC]

theorem jc_snoc (n : Int) (r : List Int) (m : Int) : jc (n :: (r ++ [m])) = jc (n :: r) ++ 44 :: Lib.itoa m := by
  simp [jc, tailC_snoc]

/-- the words of a text, cut at every comma -/
def spC : List UInt8 → List (List UInt8)
  | [] => [[]]
  | c :: t => if c = 44 then [] :: spC t else
    match spC t with
    | w :: ws => (c :: w) :: ws
    | [] => [[c]]

theorem spC_ne (l : List UInt8) : spC l ≠ [] := by
  cases l with
  | nil => simp [spC]
  | cons c t =>
    unfold spC; split
    · simp
    · split <;> simp

/-- words joined by commas -/
def jwC : List (List UInt8) → List UInt8
  | [] => []
  | w :: ws => w ++ ws.flatMap fun x => 44 :: x

theorem jwC_sp (l : List UInt8) : jwC (spC l) = l := by
  induction l with
  | nil => simp [spC, jwC]
  | cons c t ih =>
    unfold spC
    split
    · next h =>
      subst h
      cases hs : spC t with
      | nil => exact absurd hs (spC_ne t)
      | cons w ws => rw [hs] at ih; simp [jwC] at ih ⊢; exact ih
    · split
      · next w ws hs => rw [hs] at ih; simp [jwC] at ih ⊢; exact ih
      · next hs => exact absurd hs (spC_ne t)

theorem spC_plain (w : List UInt8) (h : ∀ c ∈ w, c ≠ 44) : spC w = [w] := by
  induction w with
  | nil => rfl
  | cons c t ih =>
    unfold spC
    rw [if_neg (h c List.mem_cons_self), ih fun x hx => h x (List.mem_cons_of_mem _ hx)]

theorem spC_app (w l : List UInt8) (h : ∀ c ∈ w, c ≠ 44) : spC (w ++ 44 :: l) = w :: spC l := by
  induction w with
  | nil => simp [spC]
  | cons c t ih =>
    rw [List.cons_append, spC, if_neg (h c List.mem_cons_self), ih fun x hx => h x (List.mem_cons_of_mem _ hx)]

theorem spC_jw (w : List UInt8) (ws : List (List UInt8)) (h : ∀ x ∈ w :: ws, ∀ c ∈ x, c ≠ 44) : spC (jwC (w :: ws)) = w :: ws := by
  induction ws generalizing w with
  | nil => simp only [jwC, List.flatMap_nil, List.append_nil]; exact spC_plain _ (h w List.mem_cons_self)
  | cons x xs ih =>
    have e : jwC (w :: x :: xs) = w ++ 44 :: jwC (x :: xs) := by simp [jwC]
    rw [e, spC_app _ _ (h w List.mem_cons_self), ih x fun y hy => h y (List.mem_cons_of_mem _ hy)]

/-- a number's digits and its sign are no commas -/
theorem itoa_comma (n : Int) : ∀ c ∈ Lib.itoa n, c ≠ 44 := by
  have hnn : ∀ u : Nat, ∀ c ∈ Lib.itoa (u : Int), c ≠ 44 := by
    intro u c hc e
    rw [itoa_nat] at hc
    have := dig_all u c hc
    rw [e] at this
    simp at this
  by_cases h : 0 ≤ n
  · obtain ⟨u, rfl⟩ := Int.eq_ofNat_of_zero_le h
    exact hnn u
  · obtain ⟨u, hu⟩ := Int.eq_ofNat_of_zero_le (show 0 ≤ -n by omega)
    have e : n = -(u : Int) := by omega
    rw [e, itoa_minus _ (by omega)]
    intro c hc
    rcases List.mem_cons.1 hc with rfl | hc
    · decide
    · exact hnn u c hc

theorem jc_jw (n : Int) (r : List Int) : jc (n :: r) = jwC (Lib.itoa n :: r.map Lib.itoa) := by
  simp [jc, jwC, tailC, List.flatMap_map]

theorem sp_jc (n : Int) (r : List Int) : spC (jc (n :: r)) = (n :: r).map Lib.itoa := by
  rw [jc_jw, spC_jw, List.map_cons]
  intro x hx
  rw [← List.map_cons, List.mem_map] at hx
  obtain ⟨m, hm, rfl⟩ := hx
  exact itoa_comma m

theorem splitK_oneC (l : List UInt8) : Lib.splitK [44] 0 (l.count 44) l = spC l := by
  induction l with
  | nil => rfl
  | cons b t ih =>
    by_cases h : b = 44
    · subst h
      rw [List.count_cons_self, Lib.splitK, index_one, if_pos rfl, spC, if_pos rfl, ← ih]
      simp
    · rw [List.count_cons_of_ne (fun e => h e), spC, if_neg h]
      by_cases h0 : t.count 44 = 0
      · rw [h0] at ih ⊢
        rw [← ih]; rfl
      · obtain ⟨k, hk⟩ : ∃ k, t.count 44 = k + 1 := ⟨t.count 44 - 1, by omega⟩
        rw [hk] at ih ⊢
        have hi : ¬ Lib.index t [44] = -1 := fun e => h0 ((index_none _ _).1 e)
        have hge := Lib.index_ge t [44]
        rw [Lib.splitK] at ih ⊢
        rw [if_neg (by simpa using hi)] at ih
        rw [index_one, if_neg h, if_neg hi, if_neg (by simp; omega), ← ih]
        have e1 : (Lib.index t [44] + 1).toNat = (Lib.index t [44]).toNat + 1 := by omega
        rw [e1]
        simp [List.take_succ_cons]


theorem itoa_lenC (n : Int) (h0 : -1000000000000 ≤ n) (h1 : n ≤ 1000000000000) : (Lib.itoa n).length ≤ 21 := Lib.itoa_length_le n (by omega) (by omega)

theorem tailC_len (r : List Int) (h : ∀ x ∈ r, -1000000000000 ≤ x ∧ x ≤ 1000000000000) : (tailC r).length ≤ 22 * r.length := by
  induction r with
  | nil => simp [tailC]
  | cons x t ih =>
    rw [tailC_cons, List.length_cons, List.length_append, List.length_cons]
    have h1 := itoa_lenC x (h x List.mem_cons_self).1 (h x List.mem_cons_self).2
    have h2 := ih fun y hy => h y (List.mem_cons_of_mem _ hy)
    omega

theorem jc_len (xs : List Int) (h : ∀ x ∈ xs, -1000000000000 ≤ x ∧ x ≤ 1000000000000) : (jc xs).length ≤ 22 * xs.length := by
  cases xs with
  | nil => simp [jc]
  | cons x t =>
    rw [jc, List.length_append, List.length_cons]
    have h1 := itoa_lenC x (h x List.mem_cons_self).1 (h x List.mem_cons_self).2
    have h2 := tailC_len t fun y hy => h y (List.mem_cons_of_mem _ hy)
    omega

theorem jc_take_succ (xs : List Int) (k : Nat) (hk : k < xs.length) (h0 : 0 < k) : jc (xs.take (k + 1)) = jc (xs.take k) ++ (44 :: Lib.itoa (xs.getD k 0)) := by
  rw [List.take_add_one, List.getElem?_eq_getElem hk]
  cases xs with
  | nil => simp at hk
  | cons x t =>
    obtain ⟨j, rfl⟩ : ∃ j, k = j + 1 := ⟨k - 1, by omega⟩
    rw [List.take_succ_cons]
    show jc (x :: (t.take j ++ [(x :: t)[j + 1]])) = _
    rw [jc_snoc]
    simp [List.getD, show j < t.length by simpa using hk]

theorem jc_take_one (xs : List Int) (hk : 0 < xs.length) : jc (xs.take 1) = Lib.itoa (xs.getD 0 0) := by
  cases xs with
  | nil => simp at hk
  | cons x t => simp [jc_one]


/-- numbers of a policy's text -/
def Mon5 (xs : List Int) : Prop := ∀ x ∈ xs, -1000000000000 ≤ x ∧ x ≤ 1000000000000

theorem Mon5.get {xs : List Int} (h : Mon5 xs) (i : Nat) : -1000000000000 ≤ xs.getD i 0 ∧ xs.getD i 0 ≤ 1000000000000 := by
  by_cases hi : i < xs.length
  · rw [List.getD_eq_getElem?_getD, List.getElem?_eq_getElem hi]; exact h _ (List.getElem_mem _)
  · rw [getD_far _ _ (by omega)]; omega

theorem Mon5.take {xs : List Int} (h : Mon5 xs) (k : Nat) : Mon5 (xs.take k) := fun x hx => h x (List.mem_of_mem_take hx)

theorem numberC_any (n : Int) (w : World) (h0 : -1000000000000 ≤ n) (h1 : n ≤ 1000000000000) :
    Calls Tryd.prog 23 #[.int .i64 n] w fun e w' => e = .returned (.string ⟨(Lib.itoa n).toArray⟩) ∧ Below w.heap.size w w' := by
  by_cases hn : 0 ≤ n
  · exact number_any n w hn h1
  · have hneg : n < 0 := by omega
    obtain ⟨u, hu⟩ := Int.eq_ofNat_of_zero_le (show 0 ≤ -n by omega)
    have hc := fun w => dec_any u (u : Int) w (by omega) (by omega) (by omega)
    simp only [Int.toNat_natCast] at hc
    have HI : Hid (Lib.itoa n = 45 :: Lib.decDigits u) := Lib.hid (by
      have e : n = -(u : Int) := by omega
      rw [e, itoa_minus _ (by omega), itoa_nat])
    have q1 : IntKind.i64.wrap (-n) = -n := IntWalk.i64_in _ (by omega)
    have hl : (Lib.itoa n).length ≤ 21 := itoa_lenC n h0 h1
    rw [HI.out] at hl
    obtain ⟨L, hL⟩ : ∃ y_, Lib.decDigits u = y_ := ⟨_, rfl⟩
    rw [hL] at hc HI hl
    have hl2 : L.length ≤ 100 := by simp at hl; omega
    have HC := Lib.hid hc
    clear hc hn hL hl
    go_enter Tryd.func23, Tryd.ntmps23
    go_wp2_with fail
    refine (HC.out _).mono ?_
    rintro e w1 ⟨rfl, hb⟩
    have HB := Lib.hid hb
    clear hb
    go_wp2_with fail
    go_ret
    exact ⟨ret_str (by rw [HI.out]; simp), HB.out⟩

set_option maxHeartbeats 1000000 in
theorem joinC_any (xs : List Int) (a : Option Addr) (l c : Nat) (w : World) (h : Ints w a l xs) (hn : Mon5 xs) (hl : l ≤ 1000) :
    Calls Tryd.prog 12 #[.slice a l c, .string ⟨#[44]⟩] w fun e w' => e = .returned (.string ⟨(jc xs).toArray⟩) ∧ Below w.heap.size w w' := by
  have HL := Lib.hid h.len
  have H := Lib.hid h
  have HN := Lib.hid hn
  clear h hn
  go_enter Tryd.func12, Tryd.ntmps12
  go_wp2_with fail
  go_loopw [5, 6] (fun s i wr => ∃ k : Nat, k ≤ l ∧ i = .int .i64 k ∧ s = .string ⟨(jc (xs.take k)).toArray⟩ ∧ Hid (Below w.heap.size w wr)) (fun _ i _ => l - (intOf i).toNat)
  case atStart => exact ⟨0, Nat.zero_le _, rfl, by simp [jc], Lib.hid (Below.refl _ _)⟩
  case round =>
    obtain ⟨k, hk, rfl, rfl, HB⟩ := hrel
    have hlen := jc_len (xs.take k) (HN.out.take k)
    have hlk : (xs.take k).length ≤ k := List.length_take_le _ _
    by_cases hlt : k < l
    · obtain ⟨b, off, rfl, hb, hc⟩ := H.out.at (by omega)
      have hx := (HB.out.cell (p := ⟨b, off + k, none⟩) hb).trans (hc k hlt)
      obtain ⟨n0, n1⟩ := HN.out.get k
      have HT := Lib.hid (jc_take_succ xs k (by rw [HL.out]; exact hlt))
      have HT1 : Hid (k = 0 → jc (xs.take (k + 1)) = Lib.itoa (xs.getD k 0)) := Lib.hid (fun e => by subst e; exact jc_take_one xs (by rw [HL.out]; omega))
      have HTE : Hid (k = 0 → jc (xs.take k) = []) := Lib.hid (fun e => by subst e; simp [jc])
      obtain ⟨n, hn0⟩ : ∃ n, xs.getD k 0 = n := ⟨_, rfl⟩
      rw [hn0] at hx n0 n1 HT HT1
      have hil := itoa_lenC n n0 n1
      obtain ⟨J, hJ⟩ : ∃ J, jc (xs.take k) = J := ⟨_, rfl⟩
      rw [hJ] at hlen HT HTE ⊢
      have hx' : wr.cell? ⟨b, off + k, none⟩ = some (.int .i64 n) := hx
      clear hn0 hJ hc hx
      have hJ2 : J.length ≤ 22000 := by omega
      by_cases h0 : k = 0
      · have hk0 : ¬ (0 : Int) < (k : Int) := by omega
        have HE := Lib.hid (HTE.out h0)
        have HT2 := Lib.hid (HT1.out h0)
        clear h0
        go_wp2_with fail
        refine (numberC_any n _ n0 n1).mono ?_
        rintro e w3 ⟨rfl, hb3⟩
        have HB3 := Lib.hid (HB.out.trans (hb3.mono HB.out.size))
        clear hb3
        go_wp2_with fail
        go_roundw
        case rel => exact ⟨k + 1, by omega, by go_num, by rw [HT2.out]; congr 1; apply ByteArray.ext; simp [HE.out], HB3⟩
        case measure => simp [intOf]; omega
      · have hk0 : (0 : Int) < (k : Int) := by omega
        have HT2 := Lib.hid (HT.out (by omega))
        clear h0
        go_wp2_with fail
        refine (numberC_any n _ n0 n1).mono ?_
        rintro e w3 ⟨rfl, hb3⟩
        have HB3 := Lib.hid (HB.out.trans (hb3.mono HB.out.size))
        clear hb3
        go_wp2_with fail
        go_roundw
        case rel => exact ⟨k + 1, by omega, by go_num, by rw [HT2.out]; congr 1; apply ByteArray.ext; simp, HB3⟩
        case measure => simp [intOf]; omega
    · obtain rfl : k = l := by omega
      have HX : Hid (xs.take k = xs) := Lib.hid (List.take_of_length_le (by rw [HL.out]; exact Nat.le_refl _))
      go_wp2_with fail
      go_ret
      exact ⟨ret_str (by rw [HX.out]), HB.out⟩


/-- the text of a policy -/
def ptB (k x n s u : Int) : Bool := [k, x, n, s, u].all fun v => inB v (-1000000000000) 1000000000000

def ptT (k x n s u : Int) : List UInt8 := if ptB k x n s u = true then jc [k, x, n, s, u] else []

theorem ptB_mon {k x n s u : Int} (h : ptB k x n s u = true) : Mon5 [k, x, n, s, u] := by
  intro v hv
  unfold ptB at h
  rw [List.all_eq_true] at h
  exact (inB_iff _ _ _).1 (h v hv)

theorem ints5 (w : World) (k x n s u : Int) : Ints (w.alloc (.cells #[.int .i64 k, .int .i64 x, .int .i64 n, .int .i64 s, .int .i64 u] 2)) (some ⟨w.heap.size, 0, none⟩) 5 [k, x, n, s, u] := by
  refine ⟨rfl, by omega, .inr ⟨w.heap.size, 0, rfl, fun i hi => ?_⟩⟩
  match i, hi with
  | 0, _ => go_simp
  | 1, _ => go_simp
  | 2, _ => go_simp
  | 3, _ => go_simp
  | 4, _ => go_simp

end Go.Proofs.YtnppkdnmkhoeeaaDoor
