/- Merged: TabTx, Ptx, Pty, TabTs, AppI, NumT, TTI, Wds. -/
import Derived.Test.YtnclncglmnbelaaGreatDoorFx2
import Derived.Test.YtnclncglmnbelaaGreatDoorFx3
import Derived.Test.YtnclncglmnbelaaGreatDoorFx5
import Derived.Test.YtnclncglmnbelaaGreatDoorFx16
import Derived.Test.YtnclncglmnbelaaGreatDoorFx17
import Derived.Lib.ItoaMem
import Derived.Deep.RegionWith
import Derived.Lib.SplitLaws
import Derived.Lib.ParseIntBTie

/- TableText of the model: what the calls return. -/
namespace Go.Proofs.YtnclncglmnbelaaGreatDoor
open Go.ChangeShapes Go.WideShapes Go.ChangeAt Go.RowKit
set_option linter.unusedVariables false
set_option maxRecDepth 100000

theorem itoa_len (n : Int) (h0 : 0 ≤ n) (h1 : n ≤ 1000000000000) : (Lib.itoa n).length ≤ 21 := Lib.itoa_length_le n (by omega) (by omega)

theorem tailT_len (r : List Int) (h : ∀ x ∈ r, 0 ≤ x ∧ x ≤ 1000000) : (tailT r).length ≤ 22 * r.length := by
  induction r with
  | nil => simp [tailT]
  | cons x t ih =>
    rw [tailT_cons, List.length_cons, List.length_append, List.length_cons]
    have h1 := itoa_len x (h x List.mem_cons_self).1 (by have := (h x List.mem_cons_self).2; omega)
    have h2 := ih fun y hy => h y (List.mem_cons_of_mem _ hy)
    omega

theorem jn_len (xs : List Int) (h : ∀ x ∈ xs, 0 ≤ x ∧ x ≤ 1000000) : (jn xs).length ≤ 22 * xs.length := by
  cases xs with
  | nil => simp [jn]
  | cons x t =>
    rw [jn, List.length_append, List.length_cons]
    have h1 := itoa_len x (h x List.mem_cons_self).1 (by have := (h x List.mem_cons_self).2; omega)
    have h2 := tailT_len t fun y hy => h y (List.mem_cons_of_mem _ hy)
    omega

theorem jn_take_succ (xs : List Int) (k : Nat) (hk : k < xs.length) (h0 : 0 < k) : jn (xs.take (k + 1)) = jn (xs.take k) ++ (32 :: Lib.itoa (xs.getD k 0)) := by
  rw [List.take_add_one, List.getElem?_eq_getElem hk]
  cases xs with
  | nil => simp at hk
  | cons x t =>
    obtain ⟨j, rfl⟩ : ∃ j, k = j + 1 := ⟨k - 1, by omega⟩
    rw [List.take_succ_cons]
    show jn (x :: (t.take j ++ [(x :: t)[j + 1]])) = _
    rw [jn_snoc]
    simp [List.getD, show j < t.length by simpa using hk]

theorem jn_take_one (xs : List Int) (hk : 0 < xs.length) : jn (xs.take 1) = Lib.itoa (xs.getD 0 0) := by
  cases xs with
  | nil => simp at hk
  | cons x t => simp [jn_one]

/-- numbers of a table's text -/
def Nums (xs : List Int) : Prop := ∀ x ∈ xs, 0 ≤ x ∧ x ≤ 1000000

theorem Nums.get {xs : List Int} (h : Nums xs) (i : Nat) : 0 ≤ xs.getD i 0 ∧ xs.getD i 0 ≤ 1000000 := by
  by_cases hi : i < xs.length
  · rw [List.getD_eq_getElem?_getD, List.getElem?_eq_getElem hi]; exact h _ (List.getElem_mem _)
  · rw [getD_far _ _ (by omega)]; omega

theorem Nums.take {xs : List Int} (h : Nums xs) (k : Nat) : Nums (xs.take k) := fun x hx => h x (List.mem_of_mem_take hx)

theorem LTab.nums {f : Int} {xs : List Int} (h : LTab f xs) : Nums (f :: xs) := by
  intro x hx
  rcases List.mem_cons.1 hx with rfl | hx
  · have := h.1; omega
  · obtain ⟨i, hi, rfl⟩ := List.getElem_of_mem hx
    have h1 := h.nonneg i
    have h2 := h.le i
    rw [List.getD_eq_getElem?_getD, List.getElem?_eq_getElem hi] at h1 h2
    exact ⟨h1, h2⟩

theorem number_any (n : Int) (w : World) (h0 : 0 ≤ n) (h1 : n ≤ 1000000000000) :
    Calls Tryz.prog 59 #[.int .i64 n] w fun e w' => e = .returned (.string ⟨(Lib.itoa n).toArray⟩) ∧ Below w.heap.size w w' := by
  obtain ⟨u, rfl⟩ := Int.eq_ofNat_of_zero_le h0
  have hc := fun w => dec_any u (u : Int) w (by omega) (by omega) (by omega)
  have HI := Lib.hid (itoa_nat u)
  simp only [Int.toNat_natCast] at hc
  have HC := Lib.hid hc
  clear hc
  go_enter Tryz.func59, Tryz.ntmps59
  go_wp2_with fail
  refine (HC.out _).mono ?_
  rintro e w1 ⟨rfl, hb⟩
  have HB := Lib.hid hb
  clear hb
  go_wp2_with fail
  go_ret
  exact ⟨ret_str (by rw [HI.out]), HB.out⟩

set_option maxHeartbeats 1000000 in
theorem join_any (xs : List Int) (a : Option Addr) (l c : Nat) (w : World) (h : Ints w a l xs) (hn : Nums xs) (hl : l ≤ 1000) :
    Calls Tryz.prog 35 #[.slice a l c, .string ⟨#[32]⟩] w fun e w' => e = .returned (.string ⟨(jn xs).toArray⟩) ∧ Below w.heap.size w w' := by
  have HL := Lib.hid h.len
  have H := Lib.hid h
  have HN := Lib.hid hn
  clear h hn
  go_enter Tryz.func35, Tryz.ntmps35
  go_wp2_with fail
  go_loopw [5, 6] (fun s i wr => ∃ k : Nat, k ≤ l ∧ i = .int .i64 k ∧ s = .string ⟨(jn (xs.take k)).toArray⟩ ∧ Hid (Below w.heap.size w wr)) (fun _ i _ => l - (intOf i).toNat)
  case atStart => exact ⟨0, Nat.zero_le _, rfl, by simp [jn], Lib.hid (Below.refl _ _)⟩
  case round =>
    obtain ⟨k, hk, rfl, rfl, HB⟩ := hrel
    have hlen := jn_len (xs.take k) (HN.out.take k)
    have hlk : (xs.take k).length ≤ k := List.length_take_le _ _
    by_cases hlt : k < l
    · obtain ⟨b, off, rfl, hb, hc⟩ := H.out.at (by omega)
      have hx := (HB.out.cell (p := ⟨b, off + k, none⟩) hb).trans (hc k hlt)
      obtain ⟨n0, n1⟩ := HN.out.get k
      have HT := Lib.hid (jn_take_succ xs k (by rw [HL.out]; exact hlt))
      have HT1 : Hid (k = 0 → jn (xs.take (k + 1)) = Lib.itoa (xs.getD k 0)) := Lib.hid (fun e => by subst e; exact jn_take_one xs (by rw [HL.out]; omega))
      have HTE : Hid (k = 0 → jn (xs.take k) = []) := Lib.hid (fun e => by subst e; simp [jn])
      obtain ⟨n, hn0⟩ : ∃ n, xs.getD k 0 = n := ⟨_, rfl⟩
      rw [hn0] at hx n0 n1 HT HT1
      have hil := itoa_len n n0 (by omega)
      obtain ⟨J, hJ⟩ : ∃ J, jn (xs.take k) = J := ⟨_, rfl⟩
      rw [hJ] at hlen HT HTE ⊢
      have hx' : wr.cell? ⟨b, off + k, none⟩ = some (.int .i64 n) := hx
      clear hn0 hJ hc hx
      have hJ2 : J.length ≤ 22000 := by omega
      by_cases h0 : k = 0
      · have hk0 : ¬ (0 : Int) < (k : Int) := by omega
        have HE := Lib.hid (HTE.out h0)
        have HT2 := Lib.hid (HT1.out h0)
        clear h0
        go_wp2_with fail
        refine (number_any n _ n0 (by omega)).mono ?_
        rintro e w3 ⟨rfl, hb3⟩
        have HB3 := Lib.hid (HB.out.trans (hb3.mono HB.out.size))
        clear hb3
        go_wp2_with fail
        go_roundw
        case rel => exact ⟨k + 1, by omega, by go_num, by rw [HT2.out]; congr 1; apply ByteArray.ext; simp [HE.out], HB3⟩
        case measure => simp [intOf]; omega
      · have hk0 : (0 : Int) < (k : Int) := by omega
        have HT2 := Lib.hid (HT.out (by omega))
        clear h0
        go_wp2_with fail
        refine (number_any n _ n0 (by omega)).mono ?_
        rintro e w3 ⟨rfl, hb3⟩
        have HB3 := Lib.hid (HB.out.trans (hb3.mono HB.out.size))
        clear hb3
        go_wp2_with fail
        go_roundw
        case rel => exact ⟨k + 1, by omega, by go_num, by rw [HT2.out]; congr 1; apply ByteArray.ext; simp, HB3⟩
        case measure => simp [intOf]; omega
    · obtain rfl : k = l := by omega
      have HX : Hid (xs.take k = xs) := Lib.hid (List.take_of_length_le (by rw [HL.out]; exact Nat.le_refl _))
      go_wp2_with fail
      go_ret
      exact ⟨ret_str (by rw [HX.out]), HB.out⟩

end Go.Proofs.YtnclncglmnbelaaGreatDoor

/- Policies: numbers separated by commas; the model's text of a policy. (Written by wip/gen/ptx.py.) -/
namespace Go.Proofs.YtnclncglmnbelaaGreatDoor
open Go.ChangeShapes Go.WideShapes Go.ChangeAt Go.RowKit
set_option linter.unusedVariables false
set_option maxRecDepth 100000

/-- a comma and a number, for each -/
def tailC (r : List Int) : List UInt8 := r.flatMap fun m => 44 :: Lib.itoa m

/-- numbers in decimal, separated by commas -/
def jc : List Int → List UInt8
  | [] => []
  | n :: r => Lib.itoa n ++ tailC r

theorem tailC_snoc (r : List Int) (m : Int) : tailC (r ++ [m]) = tailC r ++ 44 :: Lib.itoa m := by simp [tailC]

theorem tailC_nil : tailC [] = [] := rfl

theorem tailC_cons (m : Int) (r : List Int) : tailC (m :: r) = 44 :: (Lib.itoa m ++ tailC r) := by simp [tailC]

theorem jc_one (n : Int) : jc [n] = Lib.itoa n := by simp [jc, tailC]

theorem jc_snoc (n : Int) (r : List Int) (m : Int) : jc (n :: (r ++ [m])) = jc (n :: r) ++ 44 :: Lib.itoa m := by
  simp [jc, tailC_snoc]

/-- the words of a text, cut at every comma -/
def spC : List UInt8 → List (List UInt8)
  | [] => [[]]
  | c :: t => if c = 44 then [] :: spC t else
    match spC t with
    | w :: ws => (c :: w) :: ws
    | [] => [[c]]

theorem spC_ne (l : List UInt8) : spC l ≠ [] := by
  cases l with
  | nil => simp [spC]
  | cons c t =>
    unfold spC; split
    · simp
    · split <;> simp

/-- words joined by commas -/
def jwC : List (List UInt8) → List UInt8
  | [] => []
  | w :: ws => w ++ ws.flatMap fun x => 44 :: x

theorem jwC_sp (l : List UInt8) : jwC (spC l) = l := by
  induction l with
  | nil => simp [spC, jwC]
  | cons c t ih =>
    unfold spC
    split
    · next h =>
      subst h
      cases hs : spC t with
      | nil => exact absurd hs (spC_ne t)
      | cons w ws => rw [hs] at ih; simp [jwC] at ih ⊢; exact ih
    · split
      · next w ws hs => rw [hs] at ih; simp [jwC] at ih ⊢; exact ih
      · next hs => exact absurd hs (spC_ne t)

theorem spC_plain (w : List UInt8) (h : ∀ c ∈ w, c ≠ 44) : spC w = [w] := by
  induction w with
  | nil => rfl
  | cons c t ih =>
    unfold spC
    rw [if_neg (h c List.mem_cons_self), ih fun x hx => h x (List.mem_cons_of_mem _ hx)]

theorem spC_app (w l : List UInt8) (h : ∀ c ∈ w, c ≠ 44) : spC (w ++ 44 :: l) = w :: spC l := by
  induction w with
  | nil => simp [spC]
  | cons c t ih =>
    rw [List.cons_append, spC, if_neg (h c List.mem_cons_self), ih fun x hx => h x (List.mem_cons_of_mem _ hx)]

theorem spC_jw (w : List UInt8) (ws : List (List UInt8)) (h : ∀ x ∈ w :: ws, ∀ c ∈ x, c ≠ 44) : spC (jwC (w :: ws)) = w :: ws := by
  induction ws generalizing w with
  | nil => simp only [jwC, List.flatMap_nil, List.append_nil]; exact spC_plain _ (h w List.mem_cons_self)
  | cons x xs ih =>
    have e : jwC (w :: x :: xs) = w ++ 44 :: jwC (x :: xs) := by simp [jwC]
    rw [e, spC_app _ _ (h w List.mem_cons_self), ih x fun y hy => h y (List.mem_cons_of_mem _ hy)]

/-- a number's digits and its sign are no commas -/
theorem itoa_comma (n : Int) : ∀ c ∈ Lib.itoa n, c ≠ 44 := by
  have hnn : ∀ u : Nat, ∀ c ∈ Lib.itoa (u : Int), c ≠ 44 := by
    intro u c hc e
    rw [itoa_nat] at hc
    have := dig_all u c hc
    rw [e] at this
    simp at this
  by_cases h : 0 ≤ n
  · obtain ⟨u, rfl⟩ := Int.eq_ofNat_of_zero_le h
    exact hnn u
  · obtain ⟨u, hu⟩ := Int.eq_ofNat_of_zero_le (show 0 ≤ -n by omega)
    have e : n = -(u : Int) := by omega
    rw [e, itoa_minus _ (by omega)]
    intro c hc
    rcases List.mem_cons.1 hc with rfl | hc
    · decide
    · exact hnn u c hc

theorem jc_jw (n : Int) (r : List Int) : jc (n :: r) = jwC (Lib.itoa n :: r.map Lib.itoa) := by
  simp [jc, jwC, tailC, List.flatMap_map]

theorem sp_jc (n : Int) (r : List Int) : spC (jc (n :: r)) = (n :: r).map Lib.itoa := by
  rw [jc_jw, spC_jw, List.map_cons]
  intro x hx
  rw [← List.map_cons, List.mem_map] at hx
  obtain ⟨m, hm, rfl⟩ := hx
  exact itoa_comma m

theorem splitK_oneC (l : List UInt8) : Lib.splitK [44] 0 (l.count 44) l = spC l := by
  induction l with
  | nil => rfl
  | cons b t ih =>
    by_cases h : b = 44
    · subst h
      rw [List.count_cons_self, Lib.splitK, index_one, if_pos rfl, spC, if_pos rfl, ← ih]
      simp
    · rw [List.count_cons_of_ne (fun e => h e), spC, if_neg h]
      by_cases h0 : t.count 44 = 0
      · rw [h0] at ih ⊢
        rw [← ih]; rfl
      · obtain ⟨k, hk⟩ : ∃ k, t.count 44 = k + 1 := ⟨t.count 44 - 1, by omega⟩
        rw [hk] at ih ⊢
        have hi : ¬ Lib.index t [44] = -1 := fun e => h0 ((index_none _ _).1 e)
        have hge := Lib.index_ge t [44]
        rw [Lib.splitK] at ih ⊢
        rw [if_neg (by simpa using hi)] at ih
        rw [index_one, if_neg h, if_neg hi, if_neg (by simp; omega), ← ih]
        have e1 : (Lib.index t [44] + 1).toNat = (Lib.index t [44]).toNat + 1 := by omega
        rw [e1]
        simp [List.take_succ_cons]


theorem itoa_lenC (n : Int) (h0 : -1000000000000 ≤ n) (h1 : n ≤ 1000000000000) : (Lib.itoa n).length ≤ 21 := Lib.itoa_length_le n (by omega) (by omega)

theorem tailC_len (r : List Int) (h : ∀ x ∈ r, -1000000000000 ≤ x ∧ x ≤ 1000000000000) : (tailC r).length ≤ 22 * r.length := by
  induction r with
  | nil => simp [tailC]
  | cons x t ih =>
    rw [tailC_cons, List.length_cons, List.length_append, List.length_cons]
    have h1 := itoa_lenC x (h x List.mem_cons_self).1 (h x List.mem_cons_self).2
    have h2 := ih fun y hy => h y (List.mem_cons_of_mem _ hy)
    omega

theorem jc_len (xs : List Int) (h : ∀ x ∈ xs, -1000000000000 ≤ x ∧ x ≤ 1000000000000) : (jc xs).length ≤ 22 * xs.length := by
  cases xs with
  | nil => simp [jc]
  | cons x t =>
    rw [jc, List.length_append, List.length_cons]
    have h1 := itoa_lenC x (h x List.mem_cons_self).1 (h x List.mem_cons_self).2
    have h2 := tailC_len t fun y hy => h y (List.mem_cons_of_mem _ hy)
    omega

theorem jc_take_succ (xs : List Int) (k : Nat) (hk : k < xs.length) (h0 : 0 < k) : jc (xs.take (k + 1)) = jc (xs.take k) ++ (44 :: Lib.itoa (xs.getD k 0)) := by
  rw [List.take_add_one, List.getElem?_eq_getElem hk]
  cases xs with
  | nil => simp at hk
  | cons x t =>
    obtain ⟨j, rfl⟩ : ∃ j, k = j + 1 := ⟨k - 1, by omega⟩
    rw [List.take_succ_cons]
    show jc (x :: (t.take j ++ [(x :: t)[j + 1]])) = _
    rw [jc_snoc]
    simp [List.getD, show j < t.length by simpa using hk]

theorem jc_take_one (xs : List Int) (hk : 0 < xs.length) : jc (xs.take 1) = Lib.itoa (xs.getD 0 0) := by
  cases xs with
  | nil => simp at hk
  | cons x t => simp [jc_one]


/-- numbers of a policy's text -/
def Mon5 (xs : List Int) : Prop := ∀ x ∈ xs, -1000000000000 ≤ x ∧ x ≤ 1000000000000

theorem Mon5.get {xs : List Int} (h : Mon5 xs) (i : Nat) : -1000000000000 ≤ xs.getD i 0 ∧ xs.getD i 0 ≤ 1000000000000 := by
  by_cases hi : i < xs.length
  · rw [List.getD_eq_getElem?_getD, List.getElem?_eq_getElem hi]; exact h _ (List.getElem_mem _)
  · rw [getD_far _ _ (by omega)]; omega

theorem Mon5.take {xs : List Int} (h : Mon5 xs) (k : Nat) : Mon5 (xs.take k) := fun x hx => h x (List.mem_of_mem_take hx)

theorem numberC_any (n : Int) (w : World) (h0 : -1000000000000 ≤ n) (h1 : n ≤ 1000000000000) :
    Calls Tryz.prog 59 #[.int .i64 n] w fun e w' => e = .returned (.string ⟨(Lib.itoa n).toArray⟩) ∧ Below w.heap.size w w' := by
  by_cases hn : 0 ≤ n
  · exact number_any n w hn h1
  · have hneg : n < 0 := by omega
    obtain ⟨u, hu⟩ := Int.eq_ofNat_of_zero_le (show 0 ≤ -n by omega)
    have hc := fun w => dec_any u (u : Int) w (by omega) (by omega) (by omega)
    simp only [Int.toNat_natCast] at hc
    have HI : Hid (Lib.itoa n = 45 :: Lib.decDigits u) := Lib.hid (by
      have e : n = -(u : Int) := by omega
      rw [e, itoa_minus _ (by omega), itoa_nat])
    have q1 : IntKind.i64.wrap (-n) = -n := IntWalk.i64_in _ (by omega)
    have hl : (Lib.itoa n).length ≤ 21 := itoa_lenC n h0 h1
    rw [HI.out] at hl
    obtain ⟨L, hL⟩ : ∃ y_, Lib.decDigits u = y_ := ⟨_, rfl⟩
    rw [hL] at hc HI hl
    have hl2 : L.length ≤ 100 := by simp at hl; omega
    have HC := Lib.hid hc
    clear hc hn hL hl
    go_enter Tryz.func59, Tryz.ntmps59
    go_wp2_with fail
    refine (HC.out _).mono ?_
    rintro e w1 ⟨rfl, hb⟩
    have HB := Lib.hid hb
    clear hb
    go_wp2_with fail
    go_ret
    exact ⟨ret_str (by rw [HI.out]; simp), HB.out⟩

set_option maxHeartbeats 1000000 in
theorem joinC_any (xs : List Int) (a : Option Addr) (l c : Nat) (w : World) (h : Ints w a l xs) (hn : Mon5 xs) (hl : l ≤ 1000) :
    Calls Tryz.prog 35 #[.slice a l c, .string ⟨#[44]⟩] w fun e w' => e = .returned (.string ⟨(jc xs).toArray⟩) ∧ Below w.heap.size w w' := by
  have HL := Lib.hid h.len
  have H := Lib.hid h
  have HN := Lib.hid hn
  clear h hn
  go_enter Tryz.func35, Tryz.ntmps35
  go_wp2_with fail
  go_loopw [5, 6] (fun s i wr => ∃ k : Nat, k ≤ l ∧ i = .int .i64 k ∧ s = .string ⟨(jc (xs.take k)).toArray⟩ ∧ Hid (Below w.heap.size w wr)) (fun _ i _ => l - (intOf i).toNat)
  case atStart => exact ⟨0, Nat.zero_le _, rfl, by simp [jc], Lib.hid (Below.refl _ _)⟩
  case round =>
    obtain ⟨k, hk, rfl, rfl, HB⟩ := hrel
    have hlen := jc_len (xs.take k) (HN.out.take k)
    have hlk : (xs.take k).length ≤ k := List.length_take_le _ _
    by_cases hlt : k < l
    · obtain ⟨b, off, rfl, hb, hc⟩ := H.out.at (by omega)
      have hx := (HB.out.cell (p := ⟨b, off + k, none⟩) hb).trans (hc k hlt)
      obtain ⟨n0, n1⟩ := HN.out.get k
      have HT := Lib.hid (jc_take_succ xs k (by rw [HL.out]; exact hlt))
      have HT1 : Hid (k = 0 → jc (xs.take (k + 1)) = Lib.itoa (xs.getD k 0)) := Lib.hid (fun e => by subst e; exact jc_take_one xs (by rw [HL.out]; omega))
      have HTE : Hid (k = 0 → jc (xs.take k) = []) := Lib.hid (fun e => by subst e; simp [jc])
      obtain ⟨n, hn0⟩ : ∃ n, xs.getD k 0 = n := ⟨_, rfl⟩
      rw [hn0] at hx n0 n1 HT HT1
      have hil := itoa_lenC n n0 n1
      obtain ⟨J, hJ⟩ : ∃ J, jc (xs.take k) = J := ⟨_, rfl⟩
      rw [hJ] at hlen HT HTE ⊢
      have hx' : wr.cell? ⟨b, off + k, none⟩ = some (.int .i64 n) := hx
      clear hn0 hJ hc hx
      have hJ2 : J.length ≤ 22000 := by omega
      by_cases h0 : k = 0
      · have hk0 : ¬ (0 : Int) < (k : Int) := by omega
        have HE := Lib.hid (HTE.out h0)
        have HT2 := Lib.hid (HT1.out h0)
        clear h0
        go_wp2_with fail
        refine (numberC_any n _ n0 n1).mono ?_
        rintro e w3 ⟨rfl, hb3⟩
        have HB3 := Lib.hid (HB.out.trans (hb3.mono HB.out.size))
        clear hb3
        go_wp2_with fail
        go_roundw
        case rel => exact ⟨k + 1, by omega, by go_num, by rw [HT2.out]; congr 1; apply ByteArray.ext; simp [HE.out], HB3⟩
        case measure => simp [intOf]; omega
      · have hk0 : (0 : Int) < (k : Int) := by omega
        have HT2 := Lib.hid (HT.out (by omega))
        clear h0
        go_wp2_with fail
        refine (numberC_any n _ n0 n1).mono ?_
        rintro e w3 ⟨rfl, hb3⟩
        have HB3 := Lib.hid (HB.out.trans (hb3.mono HB.out.size))
        clear hb3
        go_wp2_with fail
        go_roundw
        case rel => exact ⟨k + 1, by omega, by go_num, by rw [HT2.out]; congr 1; apply ByteArray.ext; simp, HB3⟩
        case measure => simp [intOf]; omega
    · obtain rfl : k = l := by omega
      have HX : Hid (xs.take k = xs) := Lib.hid (List.take_of_length_le (by rw [HL.out]; exact Nat.le_refl _))
      go_wp2_with fail
      go_ret
      exact ⟨ret_str (by rw [HX.out]), HB.out⟩


/-- the text of a policy -/
def ptB (k x n s u : Int) : Bool := [k, x, n, s, u].all fun v => inB v (-1000000000000) 1000000000000

def ptT (k x n s u : Int) : List UInt8 := if ptB k x n s u = true then jc [k, x, n, s, u] else []

theorem ptB_mon {k x n s u : Int} (h : ptB k x n s u = true) : Mon5 [k, x, n, s, u] := by
  intro v hv
  unfold ptB at h
  rw [List.all_eq_true] at h
  exact (inB_iff _ _ _).1 (h v hv)

theorem ints5 (w : World) (k x n s u : Int) : Ints (w.alloc (.cells #[.int .i64 k, .int .i64 x, .int .i64 n, .int .i64 s, .int .i64 u] 2)) (some ⟨w.heap.size, 0, none⟩) 5 [k, x, n, s, u] := by
  refine ⟨rfl, by omega, .inr ⟨w.heap.size, 0, rfl, fun i hi => ?_⟩⟩
  match i, hi with
  | 0, _ => go_simp
  | 1, _ => go_simp
  | 2, _ => go_simp
  | 3, _ => go_simp
  | 4, _ => go_simp

end Go.Proofs.YtnclncglmnbelaaGreatDoor

/- Policies: the model's text of a policy. -/
namespace Go.Proofs.YtnclncglmnbelaaGreatDoor
open Go.ChangeShapes Go.WideShapes Go.ChangeAt Go.RowKit
set_option linter.unusedVariables false
set_option maxRecDepth 100000

theorem ints5b (w : World) (b : Nat) (hb : b = w.heap.size) (k x n s u : Int) : Ints (w.alloc (.cells #[.int .i64 k, .int .i64 x, .int .i64 n, .int .i64 s, .int .i64 u] 2)) (some ⟨b, 0, none⟩) 5 [k, x, n, s, u] := by
  subst hb; exact ints5 w k x n s u

set_option maxHeartbeats 1000000 in
theorem pt_spec (k x n s u : Int) (w : World) :
    Calls Tryz.prog 13 #[.agg #[.int .i64 k, .int .i64 x, .int .i64 n, .int .i64 s, .int .i64 u]] w fun e w' => e = .returned (.string ⟨(ptT k x n s u).toArray⟩) ∧ Below w.heap.size w w' := by
  have hb1 := box_b w (.cells #[.int .i64 k, .int .i64 x, .int .i64 n, .int .i64 s, .int .i64 u] 30)
  have hb2 := box_b (w.alloc (.cells #[.int .i64 k, .int .i64 x, .int .i64 n, .int .i64 s, .int .i64 u] 30)) (.cells #[.int .i64 k, .int .i64 x, .int .i64 n, .int .i64 s, .int .i64 u] 2)
  have HB := Lib.hid (hb1.trans (hb2.mono (by simp)))
  have hi := ints5b (w.alloc (.cells #[.int .i64 k, .int .i64 x, .int .i64 n, .int .i64 s, .int .i64 u] 30)) (w.heap.size + 1) (by simp) k x n s u
  have hw := inAll_any [k, x, n, s, u] _ 5 5 5 (-1000000000000) 1000000000000 _ hi
  have e5 : ([k, x, n, s, u].all (fun v => inB v (-1000000000000) 1000000000000) && decide (((5 : Nat) : Int) ≤ 5)) = ptB k x n s u := by
    show (ptB k x n s u && true) = _
    simp
  rw [e5] at hw
  have HW := Lib.hid hw
  have HI := Lib.hid hi
  clear hb1 hb2 e5 hw hi
  by_cases hp : ptB k x n s u = true
  · have HT : Hid (ptT k x n s u = jc [k, x, n, s, u]) := Lib.hid (by unfold ptT; rw [if_pos hp])
    have HJ := Lib.hid (joinC_any [k, x, n, s, u] _ 5 5 _ HI.out (ptB_mon hp) (by omega))
    rw [hp] at HW
    clear hp HI
    go_enter Tryz.func13, Tryz.ntmps13
    go_wp2_with fail
    refine HW.out.mono ?_
    rintro e w' ⟨rfl, rfl⟩
    go_wp2_with fail
    refine HJ.out.mono ?_
    rintro e w' ⟨rfl, hb⟩
    have HB2 := Lib.hid (HB.out.trans (hb.mono HB.out.size))
    clear hb
    go_wp2_with fail
    go_ret
    exact ⟨ret_str (by rw [HT.out]), HB2.out⟩
  · have hp2 : ptB k x n s u = false := by simpa using hp
    have HT : Hid (ptT k x n s u = []) := Lib.hid (by unfold ptT; rw [if_neg hp])
    rw [hp2] at HW
    clear hp hp2 HI
    go_enter Tryz.func13, Tryz.ntmps13
    go_wp2_with fail
    refine HW.out.mono ?_
    rintro e w' ⟨rfl, rfl⟩
    go_wp2_with fail
    go_ret
    exact ⟨ret_str (by rw [HT.out]), HB.out⟩

end Go.Proofs.YtnclncglmnbelaaGreatDoor

/- TableText of the model: what the calls return. -/
namespace Go.Proofs.YtnclncglmnbelaaGreatDoor
open Go.ChangeShapes Go.WideShapes Go.ChangeAt Go.RowKit
set_option linter.unusedVariables false
set_option maxRecDepth 100000

theorem ownI_lit1 (w : World) (x : Int) : OwnI w.heap.size (w.alloc (.cells #[.int .i64 x] 2)) (.slice (some ⟨w.heap.size, 0, none⟩) 1 1) [x] :=
  World.ownsRow_lit w #[.int .i64 x] 1 (Nat.le_refl _) (by unfold maxLen; omega) rfl

/-- append of a whole list -/
theorem wpList_apps {w : World} {ops : Array Oper} {rest : List Oper} {o : Oper} {a : Act} {Q : Exit → Act → World → Prop} (hgd : o.guard = none) (s x : Operand)
    (ho : o.op = .call { callee := .builtin .append, args := #[s, x], argTypes := #[24, 24] })
    (base : Nat) (v : Value) (xs ys : List Int) (m cp : Nat) (hs : a.eval s = v) (hown : OwnI base w v xs) (ad : Addr) (hx : a.eval x = .slice (some ad) m cp) (hm : ys.length = m) (hc : ∀ j u, (ys.map (Value.int .i64))[j]? = some u → w.cell? (ad.add j) = some u)
    (hlen : xs.length + ys.length ≤ 4096) (hbase : base ≤ w.heap.size)
    (h : ∀ v' w', OwnI base w' v' (xs ++ ys) → w.grownBy w' v.ownBlock → wpList Tryz.prog ops Q rest (a.put o.dst v') w') : wpList Tryz.prog ops Q (o :: rest) a w := by
  obtain ⟨i0, hi, hz0, hz1, hz2⟩ := info_parts infoI
  have hmx : maxLen = maxLen := rfl
  unfold maxLen at hmx
  obtain ⟨v', w', hr, h2, h3, h4⟩ := run_append_own (P := Tryz.prog) w base 24 o.type 2 i0 (.int .i64 0) 1 8 Tryz.underlying24 hi hz0 hz1 hz2 rfl (by decide) v xs.length (xs.map (Value.int .i64)) hown ad m cp (ys.map (Value.int .i64)) (by simp [hm]) hc (by intro u hu; obtain ⟨q, _, rfl⟩ := List.mem_map.1 hu; rfl) (by unfold maxLen; omega) (by omega) hbase
  have h6 : OwnI base w' v' (xs ++ ys) := by
    unfold OwnI
    rw [List.length_append, List.map_append, hm]
    exact h2
  refine wpList_plain hgd fun _ hK => ?_
  unfold Oper.wp execOp
  simp only [ho, resolve, invoke, builtin, Sem.run_bind, Sem.run_pure, Result.andThen_ok, List.map_toArray, List.map_cons, List.map_nil, hs, hx, hr]
  exact hK _ _ (h v' w' h6 h3)

/-- the text of a table, and none of another value -/
def ttT (f : Int) (xs : List Int) : List UInt8 := if ltB f xs = true then jn (f :: xs) else []

theorem ttT_t {f : Int} {xs : List Int} (h : ltB f xs = true) : ttT f xs = jn (f :: xs) := by simp [ttT, h]

theorem ttT_f {f : Int} {xs : List Int} (h : ltB f xs = false) : ttT f xs = [] := by simp [ttT, h]

end Go.Proofs.YtnclncglmnbelaaGreatDoor

/- strconv.AppendInt onto a slice of bytes of the call's own, also one that a conversion of a string made. -/
namespace Go.Proofs.YtnclncglmnbelaaGreatDoor
open Go.ChangeShapes Go.WideShapes Go.ChangeAt Go.RowKit
set_option linter.unusedVariables false

/-- what an append of the text m onto l leaves -/
def AppM (base : Nat) (l m : List UInt8) (w : World) (e : Ending) (w' : World) : Prop := ∃ v', e = .returned v' ∧ OwnM base w' v' (l ++ m) ∧ Below base w w'

theorem dec_len100 (u : Nat) (h : u < 100) : (Lib.decDigits u).length ≤ 20 := by
  rw [Lib.decDigits_length]
  by_cases h10 : u < 10
  · rw [Lib.nDigits_small h10]; omega
  · rw [Lib.nDigits_big h10, Lib.nDigits_small (show u / 10 < 10 by omega)]; omega

theorem Tab.stepB {w w' : World} {B : Nat} (h : Tab w) (hg : 0 < B) (hb : Below B w w') : Tab w' := var?_below hb gTab hg h

end Go.Proofs.YtnclncglmnbelaaGreatDoor

/- TableText of the program: what the calls return. -/
namespace Go.Proofs.YtnclncglmnbelaaGreatDoor
open Go.ChangeShapes Go.WideShapes Go.ChangeAt Go.RowKit
set_option linter.unusedVariables false
set_option maxRecDepth 100000

/-- numbers that an int64 holds -/
def Wide (xs : List Int) : Prop := ∀ x ∈ xs, -9223372036854775808 ≤ x ∧ x ≤ 9223372036854775807

theorem Wide.get {xs : List Int} (h : Wide xs) (i : Nat) : -9223372036854775808 ≤ xs.getD i 0 ∧ xs.getD i 0 ≤ 9223372036854775807 := by
  by_cases hi : i < xs.length
  · rw [List.getD_eq_getElem?_getD, List.getElem?_eq_getElem hi]; exact h _ (List.getElem_mem _)
  · rw [getD_far _ _ (by omega)]; omega

theorem Wide.take {xs : List Int} (h : Wide xs) (k : Nat) : Wide (xs.take k) := fun x hx => h x (List.mem_of_mem_take hx)

theorem Nums.wide {xs : List Int} (h : Nums xs) : Wide xs := fun x hx => (by have := h x hx; omega)

theorem itoa_len64 (n : Int) (h0 : -9223372036854775808 ≤ n) (h1 : n ≤ 9223372036854775807) : (Lib.itoa n).length ≤ 21 := Lib.itoa_length_le n h0 h1

theorem tailT_len64 (r : List Int) (h : Wide r) : (tailT r).length ≤ 22 * r.length := by
  induction r with
  | nil => simp [tailT]
  | cons x t ih =>
    rw [tailT_cons, List.length_cons, List.length_append, List.length_cons]
    have h1 := itoa_len64 x (h x List.mem_cons_self).1 (h x List.mem_cons_self).2
    have h2 := ih fun y hy => h y (List.mem_cons_of_mem _ hy)
    omega

theorem jn_len64 (f : Int) (r : List Int) (h0 : -9223372036854775808 ≤ f) (h1 : f ≤ 9223372036854775807) (h : Wide r) : (jn (f :: r)).length ≤ 22 * r.length + 21 := by
  rw [jn, List.length_append]
  have h1 := itoa_len64 f h0 h1
  have h2 := tailT_len64 r h
  omega

theorem jn_take (f : Int) (xs : List Int) (k : Nat) (hk : k < xs.length) : jn (f :: xs.take (k + 1)) = jn (f :: xs.take k) ++ [32] ++ Lib.itoa (xs.getD k 0) := by
  rw [List.take_add_one, List.getElem?_eq_getElem hk]
  show jn (f :: (xs.take k ++ [xs[k]])) = _
  rw [jn_snoc]
  simp [List.getD, hk]

theorem OwnM.mono {base b2 : Nat} {w : World} {v : Value} {l : List UInt8} (h : OwnM base w v l) (hb : b2 ≤ base) : OwnM b2 w v l := by
  obtain ⟨g, cap, hv, hg, hr⟩ := h
  exact ⟨g, cap, hv, by omega, hr⟩

theorem bw_below (w : World) (s : ByteArray) : Below w.heap.size w (Lib.bytesWorld w 5 s) := Joins.below_bytesWorld _ _ _ _ (Nat.le_refl _)

theorem Tab.lt {w : World} (h : Tab w) : (0 : Nat) < w.heap.size := by
  have := World.var?_cell gTab h 0
  exact block_lt (p := ⟨0, 0, none⟩) (v := .int .u64 1) (by simpa [Lib.pow10Tab] using this)

end Go.Proofs.YtnclncglmnbelaaGreatDoor

/- TableText of the program: what the calls return. -/
namespace Go.Proofs.YtnclncglmnbelaaGreatDoor
open Go.ChangeShapes Go.WideShapes Go.ChangeAt Go.RowKit
set_option linter.unusedVariables false
set_option maxRecDepth 100000

end Go.Proofs.YtnclncglmnbelaaGreatDoor

/- What the text of a life table reads as: plain facts; slices of words. -/
namespace Go.Proofs.YtnclncglmnbelaaGreatDoor
open Go.ChangeShapes Go.WideShapes Go.ChangeAt Go.RowKit
set_option linter.unusedVariables false
set_option maxRecDepth 100000

/-- what strconv.ParseInt makes of a word -/
def pv (l : List UInt8) : Option Int := match Lib.parseIntB 64 l with | .ok v => some v | _ => none

theorem pv_ok {l : List UInt8} {v : Int} (h : Lib.parseIntB 64 l = .ok v) : pv l = some v := by unfold pv; rw [h]

theorem pv_no {l : List UInt8} (h : ∀ v, Lib.parseIntB 64 l ≠ .ok v) : pv l = none := by
  unfold pv; split
  · next v hv => exact absurd hv (h v)
  · rfl

def allP (ws : List (List UInt8)) : Bool := ws.all fun w => (pv w).isSome

def vals (ws : List (List UInt8)) : List Int := ws.map fun w => (pv w).getD 0

theorem pv_wide (l : List UInt8) : -9223372036854775808 ≤ (pv l).getD 0 ∧ (pv l).getD 0 ≤ 9223372036854775807 := by
  unfold pv; split
  · next v hv =>
    obtain ⟨a, b⟩ := Lib.parseIntB_bounds hv
    have e : (2 : Nat) ^ (64 - 1) = 9223372036854775808 := by decide
    rw [e] at a b
    simp; omega
  · simp

theorem vals_wide (ws : List (List UInt8)) : Wide (vals ws) := by
  intro x hx
  obtain ⟨w, _, rfl⟩ := List.mem_map.1 hx
  exact pv_wide w

/-- the numbers of a text -/
def rnF (l : List UInt8) : Int := (vals (sp l)).getD 0 0

def rnL (l : List UInt8) : List Int := (vals (sp l)).drop 1

theorem rn_cons (l : List UInt8) : rnF l :: rnL l = vals (sp l) := by
  unfold rnF rnL vals
  cases hs : sp l with
  | nil => exact absurd hs (sp_ne l)
  | cons w ws => simp

def rnO (l : List UInt8) : Bool := allP (sp l) && (jn (rnF l :: rnL l) == l)

/-- the life table of a text -/
def rtO (l : List UInt8) : Bool := rnO l && ltB (rnF l) (rnL l)

def sgs (l : List UInt8) : List Int := (sp l).map sgV

def stO (l : List UInt8) : Bool := (sp l).all sgO && (decide (2 ≤ (sp l).length) && ltB ((sgs l).getD 0 0) ((sgs l).drop 1))

theorem pv_itoa (n : Int) (h0 : 0 ≤ n) (h1 : n ≤ 1000000000000) : pv (Lib.itoa n) = some n := pv_ok (parse_itoa n h0 h1)

theorem rt_st {l : List UInt8} (h : rtO l = true) : stO l = true ∧ sgs l = rnF l :: rnL l := by
  unfold rtO rnO at h
  rw [Bool.and_eq_true, Bool.and_eq_true] at h
  obtain ⟨⟨h1, h2⟩, h3⟩ := h
  have h2 : jn (rnF l :: rnL l) = l := by simpa using h2
  have ht := (ltB_iff _ _).1 h3
  have hn := ht.nums
  have hs : sp l = (rnF l :: rnL l).map Lib.itoa := by
    rw [← sp_jn _ _ (fun x hx => (hn x hx).1), h2]
  have hg : sgs l = rnF l :: rnL l := by
    unfold sgs
    rw [hs, List.map_map]
    conv => rhs; rw [← List.map_id (rnF l :: rnL l)]
    refine List.map_congr_left fun x hx => ?_
    have := hn x hx
    exact (sg_itoa x this.1 (by omega)).2
  refine ⟨?_, hg⟩
  unfold stO
  rw [Bool.and_eq_true, Bool.and_eq_true]
  refine ⟨?_, ?_, ?_⟩
  · rw [hs, List.all_eq_true]
    intro w hw
    obtain ⟨x, hx, rfl⟩ := List.mem_map.1 hw
    have := hn x hx
    exact (sg_itoa x this.1 (by omega)).1
  · rw [hs]
    have := ht.2.1
    simp; omega
  · rw [hg]; exact h3

theorem st_rt {l : List UInt8} (h : stO l = true) : rtO l = true := by
  unfold stO at h
  rw [Bool.and_eq_true, Bool.and_eq_true] at h
  obtain ⟨h1, h2, h3⟩ := h
  have ht := (ltB_iff _ _).1 h3
  have hn := ht.nums
  have hc : (sgs l).getD 0 0 :: (sgs l).drop 1 = sgs l := by
    unfold sgs
    cases hs : sp l with
    | nil => exact absurd hs (sp_ne l)
    | cons w ws => simp
  rw [hc] at hn
  rw [List.all_eq_true] at h1
  have hw : ∀ w ∈ sp l, pv w = some (sgV w) := by
    intro w hw
    have e := sgO_itoa (h1 w hw)
    have b := hn (sgV w) (List.mem_map.2 ⟨w, hw, rfl⟩)
    conv => lhs; rw [e]
    exact pv_itoa _ b.1 (by omega)
  have hv : vals (sp l) = sgs l := by
    unfold vals sgs
    exact List.map_congr_left fun w hm => by rw [hw w hm]; rfl
  have e1 : rnF l = (sgs l).getD 0 0 := by unfold rnF; rw [hv]
  have e2 : rnL l = (sgs l).drop 1 := by unfold rnL; rw [hv]
  unfold rtO rnO
  rw [Bool.and_eq_true, Bool.and_eq_true]
  refine ⟨⟨?_, ?_⟩, by rw [e1, e2]; exact h3⟩
  · unfold allP
    rw [List.all_eq_true]
    intro w hm
    rw [hw w hm]; rfl
  · rw [e1, e2, hc, beq_iff_eq]
    have hs : sgs l ≠ [] := by unfold sgs; simp [sp_ne]
    cases hg : sgs l with
    | nil => exact absurd hg hs
    | cons x t =>
      rw [jn_jw, ← List.map_cons, ← hg]
      have : (sgs l).map Lib.itoa = sp l := by
        unfold sgs
        rw [List.map_map]
        conv => rhs; rw [← List.map_id (sp l)]
        exact List.map_congr_left fun w hm => (sgO_itoa (h1 w hm)).symm
      rw [this, jw_sp]

theorem st_eq (l : List UInt8) : stO l = rtO l := by
  cases h : rtO l with
  | true => exact (rt_st h).1
  | false =>
    cases h2 : stO l with
    | true => rw [st_rt h2] at h; cases h
    | false => rfl

theorem sp_short (l : List UInt8) : (sp l).length ≤ l.length + 1 ∧ ∀ w ∈ sp l, w.length ≤ l.length := by
  induction l with
  | nil => simp [sp]
  | cons c t ih =>
    unfold sp
    split
    · refine ⟨by simp; exact ih.1, fun w hw => ?_⟩
      rcases List.mem_cons.1 hw with rfl | hw
      · simp
      · have := ih.2 w hw; simp; omega
    · split
      · next w ws hs =>
        rw [hs] at ih
        refine ⟨by have := ih.1; simp at this ⊢; omega, fun x hx => ?_⟩
        rcases List.mem_cons.1 hx with rfl | hx
        · have := ih.2 w List.mem_cons_self; simp; exact this
        · have := ih.2 x (List.mem_cons_of_mem _ hx); simp; omega
      · simp

/-! ### slices of words -/

/-- block B holds just these strings -/
def StrB (w : World) (B : Nat) (ss : List ByteArray) : Prop := w.heap[B]? = some (.cells (ss.map Value.string).toArray 9 (0, 0))

theorem StrB.cell {w : World} {B : Nat} {ss : List ByteArray} (h : StrB w B ss) (i : Nat) (hi : i < ss.length) : w.cell? ⟨B, i, none⟩ = some (.string (ss.getD i ByteArray.empty)) := by
  unfold StrB at h
  simp [World.cell?, h, List.getD, hi]

theorem StrB.lt {w : World} {B : Nat} {ss : List ByteArray} (h : StrB w B ss) : B < w.heap.size := by
  unfold StrB at h
  exact (Array.getElem?_eq_some_iff.1 h).1

theorem StrB.below {w w' : World} {B C : Nat} {ss : List ByteArray} (h : StrB w B ss) (hb : Below C w w') (hC : B < C) : StrB w' B ss := by
  unfold StrB at h ⊢; rw [hb.block B hC]; exact h

theorem StrB.new (w : World) (ss : List ByteArray) : StrB (w.alloc (.cells (ss.map Value.string).toArray 9)) w.heap.size ss := by
  unfold StrB
  show (w.heap.push _)[w.heap.size]? = _
  simp

/-- the words as the library cuts them -/
def wds (s : ByteArray) : List ByteArray := Lib.splitB ⟨#[32]⟩ 0 (Lib.countB s ⟨#[32]⟩) s

theorem countB_one (s : ByteArray) : Lib.countB s ⟨#[32]⟩ = s.data.toList.count 32 := Lib.count_one 32 s.data.toList

theorem wds_sp (s : ByteArray) : (wds s).map (·.data.toList) = sp s.data.toList := by
  unfold wds
  rw [Lib.splitB_data, countB_one]
  exact splitK_one _

theorem wds_len (s : ByteArray) : (wds s).length = Lib.countB s ⟨#[32]⟩ + 1 := Lib.splitB_all ⟨#[32]⟩ (by decide) 0 _ s rfl

theorem wds_get (s : ByteArray) (i : Nat) (hi : i < (wds s).length) : ((wds s).getD i ByteArray.empty).data.toList = (sp s.data.toList).getD i [] := by
  rw [← wds_sp]
  simp [List.getD, hi]

end Go.Proofs.YtnclncglmnbelaaGreatDoor
