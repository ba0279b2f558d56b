/- The text of a month: what the program's and the model's functions return, one Lean function for both. -/
import Derived.Test.YtalfbhkgjfkneaaDoorMon
import Derived.Test.YtalfbhkgjfkneaaDoorDec
namespace Go.Proofs.YtalfbhkgjfkneaaDoor
open Go.ChangeShapes Go.WideShapes Go.ChangeAt Go.RowKit
set_option linter.unusedVariables false

/-- Block B holds just the bytes ys. -/
def Byt (w : World) (B : Nat) (ys : List Int) : Prop := ∃ T, w.heap[B]? = some (.cells (ys.map (Value.int .u8)).toArray T (0, 0))

theorem Byt.cell {w : World} {B : Nat} {ys : List Int} (h : Byt w B ys) (i : Nat) (hi : i < ys.length) : w.cell? ⟨B, i, none⟩ = some (.int .u8 (ys.getD i 0)) := by
  obtain ⟨T, h⟩ := h
  simp [World.cell?, h, List.getD, hi]

theorem Byt.free {w : World} {B : Nat} {ys : List Int} (h : Byt w B ys) (i : Nat) : w.frozen? ⟨B, i, none⟩ = false := by
  obtain ⟨T, h⟩ := h
  simp [World.frozen?, h]

theorem Byt.lt {w : World} {B : Nat} {ys : List Int} (h : Byt w B ys) : B < w.heap.size := by
  obtain ⟨T, h⟩ := h
  by_cases hb : B < w.heap.size
  · exact hb
  · have : w.heap[B]? = none := by simp; omega
    rw [this] at h; cases h

theorem Byt.set {w : World} {B : Nat} {ys : List Int} (h : Byt w B ys) (i : Nat) (v : Int) : Byt (w.setCell ⟨B, i, none⟩ (.int .u8 v)) B (ys.set i v) := by
  have hl := h.lt
  obtain ⟨T, h⟩ := h
  refine ⟨T, ?_⟩
  rw [Array.getElem?_eq_getElem hl] at h
  have h' : w.heap[B] = .cells (ys.map (Value.int .u8)).toArray T (0, 0) := by simpa using h
  show (w.heap.modify B _)[B]? = _
  rw [Array.getElem?_modify, if_pos rfl, Array.getElem?_eq_getElem hl, h']
  simp

theorem Byt.drewN {w : World} {B : Nat} {ys : List Int} (h : Byt w B ys) (n : Nat) : Byt (w.drewN n) B ys := h

theorem Byt.drew {w : World} {B : Nat} {ys : List Int} (h : Byt w B ys) : Byt w.drew B ys := h

/-- the last k digits of n, written from 'off' on -/
def put : List Int → Nat → Nat → Int → List Int
  | ys, _, 0, _ => ys
  | ys, off, k + 1, n => put (ys.set (off + k) (48 + n % 10)) off k (n / 10)

def PutPost (B : Nat) (zs : List Int) (w : World) (e : Ending) (w' : World) : Prop := e = .returned (.tuple #[]) ∧ Byt w' B zs ∧ Only B w w'

theorem put_any (ys : List Int) (B off L c : Nat) (n : Int) (w : World) (h : Byt w B ys) (hl : off + L ≤ ys.length) (hy : ys.length ≤ 1000) (h0 : 0 ≤ n) (h1 : n ≤ 36000) :
    Calls Tryd.prog 32 #[.slice (some ⟨B, off, none⟩) L c, .int .i64 n] w (PutPost B (put ys off L n) w) := by
  have H := Lib.hid h
  clear h
  have hL : L ≤ 1000 := by omega
  go_enter Tryd.func32, Tryd.ntmps32
  go_wp2_with fail
  go_loopw [1, 4] (fun v i wr => ∃ (k : Nat) (x : Int) (zs : List Int), k ≤ L ∧ i = .int .i64 ((k : Int) - 1) ∧ v = .int .i64 x ∧ 0 ≤ x ∧ x ≤ 36000 ∧ zs.length = ys.length ∧ Hid (put zs off k x = put ys off L n) ∧ Hid (Byt wr B zs) ∧ Hid (Only B w wr)) (fun _ i _ => (intOf i + 1).toNat)
  case atStart => exact ⟨L, n, ys, Nat.le_refl _, rfl, rfl, h0, h1, rfl, Lib.hid rfl, H, Lib.hid (Only.refl _ _)⟩
  case round =>
    obtain ⟨k, x, zs, hk, rfl, rfl, x0, x1, hz, HE, HB, HO⟩ := hrel
    cases k with
    | zero =>
      go_wp2_with fail
      go_end0
      exact ⟨rfl, by have := HB.out; rw [show zs = put ys off L n from HE.out] at this; exact this, HO.out⟩
    | succ k =>
      have hk1 : ((k + 1 : Nat) : Int) - 1 = (k : Int) := by omega
      rw [hk1]
      clear hk1
      have hx := HB.out.cell (off + k) (by omega)
      have hf := HB.out.free (off + k)
      obtain ⟨u, hu⟩ : ∃ u, zs.getD (off + k) 0 = u := ⟨_, rfl⟩
      rw [hu] at hx
      have HZ := Lib.hid hz
      clear hu hz
      go_wp2_with fail
      go_roundw
      case rel => exact ⟨k, x / 10, zs.set (off + k) (48 + x % 10), by omega, by first | rfl | go_num, rfl, by omega, by omega, by rw [List.length_set]; exact HZ.out, Lib.hid HE.out, Lib.hid (HB.out.set (off + k) (48 + x % 10)), Lib.hid (HO.out.setCell (p := ⟨B, off + k, none⟩) rfl _)⟩
      case measure => simp [intOf]

/-- the seven bytes of a month's text -/
def mtI (n : Int) : List Int := [48 + n / 12 / 1000 % 10, 48 + n / 12 / 100 % 10, 48 + n / 12 / 10 % 10, 48 + n / 12 % 10, 45, 48 + (n % 12 + 1) / 10 % 10, 48 + (n % 12 + 1) % 10]

theorem conv_byt (w : World) (B l : Nat) (ys : List Int) (h : Byt w B ys) (hl : ys.length = l) (hb : ∀ x ∈ ys, 0 ≤ x ∧ x ≤ 255) :
    (convert 22 9 (.slice (some ⟨B, 0, none⟩) l l)).run Tryd.prog w = .ok (.string ⟨(ys.map fun x => UInt8.ofNat x.toNat).toArray⟩) w := by
  have e := run_convert_bytes_back (P := Tryd.prog) w 22 9 5 ⟨B, 0, none⟩ l (ys.map fun x => UInt8.ofNat x.toNat) Tryd.underlying22 Tryd.underlying5 Tryd.underlying9 (by
    intro j hj
    simp at hj
    have hc := h.cell j hj
    have hm : ys.getD j 0 ∈ ys := by simp [List.getD, hj]
    have hr := hb _ hm
    have e1 : (ys.getD j 0) = ys[j] := by simp [List.getD, hj]
    rw [show (⟨B, 0, none⟩ : Addr).add j = ⟨B, j, none⟩ by simp [Addr.add]; omega, hc]
    rw [e1] at hr ⊢
    simp; omega)
  simpa [hl] using e

theorem put4 (y : Int) : put [0, 0, 0, 0, 45, 0, 0] 0 4 y = [48 + y / 10 / 10 / 10 % 10, 48 + y / 10 / 10 % 10, 48 + y / 10 % 10, 48 + y % 10, 45, 0, 0] := by
  simp [put]

theorem put2 (a b c d e : Int) (m : Int) : put [a, b, c, d, e, 0, 0] 5 2 m = [a, b, c, d, e, 48 + m / 10 % 10, 48 + m % 10] := by
  simp [put]

theorem mtI_eq (n : Int) : mtI n = [48 + n / 12 / 10 / 10 / 10 % 10, 48 + n / 12 / 10 / 10 % 10, 48 + n / 12 / 10 % 10, 48 + n / 12 % 10, 45, 48 + (n % 12 + 1) / 10 % 10, 48 + (n % 12 + 1) % 10] := by
  unfold mtI
  rw [show n / 12 / 1000 = n / 12 / 10 / 10 / 10 by omega, show n / 12 / 100 = n / 12 / 10 / 10 by omega]

theorem byt_new (w : World) (ys : List Int) (T : TypeId) : Byt (w.alloc (.cells (ys.map (Value.int .u8)).toArray T)) w.heap.size ys := by
  refine ⟨T, ?_⟩
  show (w.heap.push _)[w.heap.size]? = _
  simp

theorem mtext_any (n : Int) (w : World) (h0 : 0 ≤ n) (h1 : n ≤ 35999) : Calls Tryd.prog 26 #[.int .i64 n] w fun e w' => e = .returned (.string ⟨((mtI n).map fun x => UInt8.ofNat x.toNat).toArray⟩) ∧ Below w.heap.size w w' := by
  go_enter Tryd.func26, Tryd.ntmps26
  go_wp2_with (go_at_call 24; refine (inYear_any _ _ h0 (by omega)).mono ?_; rintro e w' ⟨rfl, rfl⟩)
  refine (put_any [0, 0, 0, 0, 45, 0, 0] _ 0 4 7 (n / 12) _ (byt_new w [0, 0, 0, 0, 45, 0, 0] _) (by simp) (by simp) (by omega) (by omega)).mono ?_
  rintro e w1 ⟨rfl, hb, ho⟩
  rw [put4] at hb
  have HB1 := Lib.hid hb
  have HO1 := Lib.hid ho
  clear hb ho
  go_wp2_with fail
  refine (put_any _ _ 5 2 2 (n % 12 + 1) _ HB1.out (by simp) (by simp) (by omega) (by omega)).mono ?_
  rintro e w2 ⟨rfl, hb, ho⟩
  rw [put2, ← mtI_eq] at hb
  have HO : Hid (Below w.heap.size w w2) := Lib.hid (((Below.refl w.heap.size w).alloc (Nat.le_refl _) _).trans ((HO1.out.trans ho).below (Nat.le_refl _)))
  have hcv := conv_byt w2 w.heap.size 7 (mtI n) hb rfl (by intro x hx; simp only [mtI, List.mem_cons, List.not_mem_nil, or_false] at hx; omega)
  clear hb ho
  go_wp2_with fail
  go_ret
  exact ⟨rfl, HO.out⟩

/-- what MonthText answers -/
def mtT (n : Int) : List UInt8 := if mthB n then (mtI n).map fun x => UInt8.ofNat x.toNat else []

theorem mt2_impl (n : Int) (w : World) : Calls Tryd.prog 12 #[.int .i64 n] w fun e w' => e = .returned (.string ⟨(mtT n).toArray⟩) ∧ Below w.heap.size w w' := by
  by_cases h : mthB n = true
  · obtain ⟨n1, n2⟩ := (mthB_iff _).1 h
    go_enter Tryd.func12, Tryd.ntmps12
    go_wp2_with (go_at_call 23; refine (mvalid_any _ _).mono ?_; rintro e w' ⟨rfl, rfl⟩)
    refine (mtext_any _ _ n1 n2).mono ?_
    rintro e w1 ⟨rfl, hb⟩
    have HB := Lib.hid hb
    clear hb
    go_wp2_with fail
    go_ret
    exact ⟨by simp [mtT, h], HB.out⟩
  · go_enter Tryd.func12, Tryd.ntmps12
    go_wp2_with (go_at_call 23; refine (mvalid_any _ _).mono ?_; rintro e w' ⟨rfl, rfl⟩)
    go_ret
    exact ⟨by simp [mtT, h], Below.refl _ _⟩

theorem dig1 (x : Int) (h0 : 0 ≤ x) (h1 : x < 10) : Lib.decDigits x.toNat = [UInt8.ofNat (48 + x).toNat] := by
  rw [dec_small _ (by omega), show (48 + x).toNat = 48 + x.toNat by omega]

/-- the byte of a digit -/
def dgt (x : Int) : UInt8 := UInt8.ofNat (48 + x).toNat

theorem dig_any (x : Int) (w : World) (h0 : 0 ≤ x) (h1 : x ≤ 9) : Calls Tryd.prog 36 #[.int .i64 x] w fun e w' => e = .returned (.string ⟨#[dgt x]⟩) ∧ Below w.heap.size w w' := by
  refine (dec_any x.toNat x w h0 (by omega) (by omega)).mono ?_
  rintro e w1 ⟨rfl, hb⟩
  rw [dig1 x h0 (by omega)]
  exact ⟨rfl, hb⟩

theorem mtI_dgt (n : Int) (h0 : 0 ≤ n) (h1 : n ≤ 35999) : (mtI n).map (fun x => UInt8.ofNat x.toNat) = [dgt (n / 12 / 1000), dgt (n / 12 / 100 % 10), dgt (n / 12 / 10 % 10), dgt (n / 12 % 10), 45, dgt ((n % 12 + 1) / 10), dgt ((n % 12 + 1) % 10)] := by
  simp only [mtI, List.map_cons, List.map_nil]
  rw [show n / 12 / 1000 % 10 = n / 12 / 1000 by omega, show (n % 12 + 1) / 10 % 10 = (n % 12 + 1) / 10 by omega]
  rfl

theorem stext2_any (n : Int) (w : World) (h0 : 0 ≤ n) (h1 : n ≤ 35999) : Calls Tryd.prog 30 #[.int .i64 n] w fun e w' => e = .returned (.string ⟨((mtI n).map fun x => UInt8.ofNat x.toNat).toArray⟩) ∧ Below w.heap.size w w' := by
  rw [mtI_dgt n h0 h1]
  go_enter Tryd.func30, Tryd.ntmps30
  go_wp2_with fail
  refine (dig_any _ _ (by omega) (by omega)).mono ?_
  rintro e w1 ⟨rfl, hb⟩
  have HB := Lib.hid hb
  clear hb
  go_wp2_with fail
  refine (dig_any _ _ (by omega) (by omega)).mono ?_
  rintro e w2 ⟨rfl, hb⟩
  have HB := Lib.hid (HB.out.trans (hb.mono HB.out.size))
  clear hb
  go_wp2_with fail
  refine (dig_any _ _ (by omega) (by omega)).mono ?_
  rintro e w3 ⟨rfl, hb⟩
  have HB := Lib.hid (HB.out.trans (hb.mono HB.out.size))
  clear hb
  go_wp2_with fail
  refine (dig_any _ _ (by omega) (by omega)).mono ?_
  rintro e w4 ⟨rfl, hb⟩
  have HB := Lib.hid (HB.out.trans (hb.mono HB.out.size))
  clear hb
  go_wp2_with fail
  refine (dig_any _ _ (by omega) (by omega)).mono ?_
  rintro e w5 ⟨rfl, hb⟩
  have HB := Lib.hid (HB.out.trans (hb.mono HB.out.size))
  clear hb
  go_wp2_with fail
  refine (dig_any _ _ (by omega) (by omega)).mono ?_
  rintro e w6 ⟨rfl, hb⟩
  have HB := Lib.hid (HB.out.trans (hb.mono HB.out.size))
  clear hb
  go_wp2_with fail
  go_ret
  exact ⟨ret_str (by simp), HB.out⟩

theorem mt2_spec (n : Int) (w : World) : Calls Tryd.prog 16 #[.int .i64 n] w fun e w' => e = .returned (.string ⟨(mtT n).toArray⟩) ∧ Below w.heap.size w w' := by
  by_cases h : mthB n = true
  · obtain ⟨n1, n2⟩ := (mthB_iff _).1 h
    go_enter Tryd.func16, Tryd.ntmps16
    go_wp2_with (go_at_call 25; refine (l02m_any _ _).mono ?_; rintro e w' ⟨rfl, rfl⟩)
    refine (stext2_any _ _ n1 n2).mono ?_
    rintro e w1 ⟨rfl, hb⟩
    have HB := Lib.hid hb
    clear hb
    go_wp2_with fail
    go_ret
    exact ⟨by simp [mtT, h], HB.out⟩
  · go_enter Tryd.func16, Tryd.ntmps16
    go_wp2_with (go_at_call 25; refine (l02m_any _ _).mono ?_; rintro e w' ⟨rfl, rfl⟩)
    go_ret
    exact ⟨by simp [mtT, h], Below.refl _ _⟩

end Go.Proofs.YtalfbhkgjfkneaaDoor
