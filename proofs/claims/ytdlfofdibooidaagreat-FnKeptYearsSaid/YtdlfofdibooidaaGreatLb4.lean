/- Merged: Once, MdS, Pom. -/
import Derived.Test.YtdlfofdibooidaaGreatLb1
import Derived.Defers
import Derived.Laws.Pointers
import Derived.Laws.NewBlocks
import Derived.ChangeAlike

/- sync.Once, one goroutine: the two calls that its slow road defers, and the lock, each a contract of its own. | Discounts: their plain facts, and the value of the program that holds all discounts of a rate, computed once. -/
namespace Go.Proofs.YtdlfofdibooidaaGreat
open Go.ChangeShapes Go.WideShapes Go.ChangeAt Go.RowKit
set_option linter.unusedVariables false
set_option maxRecDepth 100000

theorem on_disable (w : World) : (callFunc 153 #[]).run Tryz.prog w = .ok (.value (.tuple #[])) w := run_call_mark0 Tryz.func153 (by kernel_rfl) (by kernel_rfl) (by kernel_rfl) .disable (by kernel_rfl) w

theorem on_enable (w : World) : (callFunc 155 #[]).run Tryz.prog w = .ok (.value (.tuple #[])) w := run_call_mark0 Tryz.func155 (by kernel_rfl) (by kernel_rfl) (by kernel_rfl) .enable (by kernel_rfl) w

theorem on_acquire (a : Addr) (w : World) : (callFunc 156 #[.pointer (some a)]).run Tryz.prog w = .ok (.value (.tuple #[])) w := run_call_marked Tryz.func156 (by kernel_rfl) (by kernel_rfl) (by kernel_rfl) .acquire (by kernel_rfl) a w

theorem on_merge (a : Addr) (w : World) : (callFunc 158 #[.pointer (some a)]).run Tryz.prog w = .ok (.value (.tuple #[])) w := run_call_marked Tryz.func158 (by kernel_rfl) (by kernel_rfl) (by kernel_rfl) .releaseMerge (by kernel_rfl) a w

/-- (*sync/atomic.Bool).Store(true), entered as a deferred call -/
theorem store_deferred (a : Addr) (x : Value) (u : FrameMode) (w : World) (hc : w.cell? a = some x) (hz : w.frozen? a = false) :
    CallsD Tryz.prog 148 #[.pointer (some a), .bool true] u w fun e u' w' => u' = u ∧ (e = .returned (.tuple #[]) ∧ w' = w.drew.setCell a (.int .u32 1)) := by
  have hc' : w.drew.cell? a = some x := by go_simp
  have hz' : w.drew.frozen? a = false := by go_simp
  have hst := run_call_store (P := Tryz.prog) Tryz.func151 (by kernel_rfl) (by kernel_rfl) (by kernel_rfl) (by kernel_rfl) (k := .u32) (y := 1) hc' hz'
  go_enter_d Tryz.func148, Tryz.ntmps148
  go_wp2
  go_region_calls
  all_goals (go_end0; exact ⟨rfl, rfl⟩)

/-- (*sync.Mutex).Unlock, entered as a deferred call, the lock held and nobody waiting -/
theorem unlock_deferred (a : Addr) (u : FrameMode) (w : World) (hc : w.cell? a = some (.int .i32 1)) (hz : w.frozen? a = false) :
    CallsD Tryz.prog 147 #[.pointer (some a)] u w fun e u' w' => u' = u ∧ (e = .returned (.tuple #[]) ∧ w' = w.setCell a (.int .i32 0)) := by
  have hd := on_disable
  have he := on_enable
  have hr := on_merge
  have hadd := run_call_add (P := Tryz.prog) Tryz.func159 (by kernel_rfl) (by kernel_rfl) (by kernel_rfl) .i32 (by kernel_rfl) (y := -1) (s := 0) hc hz (by simp [go_sem]; rfl)
  have hcv := run_convert_to_unsafe (P := Tryz.prog) (src := 196) (dst := 200) Tryz.underlying196 Tryz.underlying200 (by kernel_rfl) hc
  go_enter_d Tryz.func147, Tryz.ntmps147
  go_wp2
  go_end0
  go_wp2
  go_end0
  exact ⟨rfl, rfl⟩

/-- (*sync.Mutex).Lock, the lock free -/
theorem lock_free (a : Addr) (w : World) (hc : w.cell? a = some (.int .i32 0)) (hz : w.frozen? a = false) :
    Calls Tryz.prog 146 #[.pointer (some a)] w fun e w' => e = .returned (.tuple #[]) ∧ w' = w.setCell a (.int .i32 1) := by
  have hd := on_disable
  have he := on_enable
  have ha := on_acquire
  have hcas := run_call_cas_hit (P := Tryz.prog) Tryz.func154 (by kernel_rfl) (by kernel_rfl) (by kernel_rfl) .i32 (by kernel_rfl) (y := 1) hc hz
  have hc' : (w.setCell a (.int .i32 1)).cell? a = some (.int .i32 1) := World.cell?_setCell_same w a _ hc
  have hcv := run_convert_to_unsafe (P := Tryz.prog) (src := 196) (dst := 200) Tryz.underlying196 Tryz.underlying200 (by kernel_rfl) hc'
  go_enter Tryz.func146, Tryz.ntmps146
  go_wp2
  first | go_end0 | (simp only [Exit.inBlock, Exit.then]; refine bodyPost_ret (results_none rfl _ _ _) rfl ?_) | refine bodyPost_ret (results_none rfl _ _ _) rfl ?_
  go_wp2
  go_end0
  exact ⟨rfl, rfl⟩

/-- the discount of rate r after k years -/
def disc (r : Int) : Nat → Int
  | 0 => 1000000000
  | k + 1 => disc r k * 1000 / (1000 + r)

/-- the first n discounts -/
def discs (r : Int) (n : Nat) : List Int := (List.range n).map (disc r)

theorem disc_bd (r : Int) (h : 0 ≤ r) (k : Nat) : 0 ≤ disc r k ∧ disc r k ≤ 1000000000 := by
  induction k with
  | zero => simp [disc]
  | succ k ih =>
    obtain ⟨h1, h2⟩ := ih
    rw [disc]
    refine ⟨Int.ediv_nonneg (by omega) (by omega), ?_⟩
    have h4 : disc r k * 1000 / (1000 + r) ≤ disc r k := by
      rw [← Int.mul_ediv_cancel (disc r k) (show (1000 + r) ≠ 0 by omega)]
      refine Int.ediv_le_ediv (by omega) ?_
      rw [Int.mul_ediv_cancel _ (by omega)]
      exact Int.mul_le_mul_of_nonneg_left (by omega) h1
    omega

theorem disc_le (r : Int) (h : 0 ≤ r) (k : Nat) : disc r (k + 1) ≤ disc r k := by
  obtain ⟨h1, h2⟩ := disc_bd r h k
  rw [disc, ← Int.mul_ediv_cancel (disc r k) (show (1000 + r) ≠ 0 by omega)]
  refine Int.ediv_le_ediv (by omega) ?_
  rw [Int.mul_ediv_cancel _ (by omega)]
  exact Int.mul_le_mul_of_nonneg_left (by omega) h1

theorem disc_q (r : Int) (h : 0 ≤ r) (k : Nat) : IntKind.i64.wrap ((disc r k * 1000).tdiv (1000 + r)) = disc r (k + 1) := by
  obtain ⟨h1, h2⟩ := disc_bd r h k
  obtain ⟨h3, h4⟩ := disc_bd r h (k + 1)
  rw [Int.tdiv_eq_ediv_of_nonneg (by omega)]
  exact IntWalk.i64_in _ (by rw [disc] at h3 h4; omega)

theorem discs_len (r : Int) (n : Nat) : (discs r n).length = n := by simp [discs]

theorem discs_get (r : Int) (n k : Nat) (h : k < n) : (discs r n).getD k 0 = disc r k := by
  simp [discs, List.getD, h]

theorem discs_set (r : Int) (k : Nat) (xs : List Int) (h : k < xs.length) : (discs r k ++ xs.drop k).set k (disc r k) = discs r (k + 1) ++ xs.drop (k + 1) := by
  rw [List.set_append_right _ _ (by rw [discs_len]; omega), discs_len, Nat.sub_self, List.drop_eq_getElem_cons h, List.set_cons_zero]
  simp [discs, List.range_succ]

/-- the cells of the program's discounts: the rate, whether they are computed, the lock, the discounts -/
def dcells (r d m : Int) (xs : List Int) : Array Value := (([Value.int .i64 r, Value.int .u32 d, Value.int .i32 m, Value.int .u32 0] : List Value) ++ xs.map (Value.int .i64)).toArray

def DBX (w : World) (B : Nat) (r d m : Int) (xs : List Int) : Prop := w.heap[B]? = some (.cells (dcells r d m xs) 157 (0, 0))

theorem DBX.lt {w : World} {B : Nat} {r d m : Int} {xs : List Int} (h : DBX w B r d m xs) : B < w.heap.size := by
  unfold DBX at h
  by_cases hb : B < w.heap.size
  · exact hb
  · have : w.heap[B]? = none := by simp; omega
    rw [this] at h; cases h

theorem DBX.rate {w : World} {B : Nat} {r d m : Int} {xs : List Int} (h : DBX w B r d m xs) : w.cell? ⟨B, 0, none⟩ = some (.int .i64 r) := by
  unfold DBX at h
  simp [World.cell?, h, dcells]

theorem DBX.done {w : World} {B : Nat} {r d m : Int} {xs : List Int} (h : DBX w B r d m xs) : w.cell? ⟨B, 1, none⟩ = some (.int .u32 d) := by
  unfold DBX at h
  simp [World.cell?, h, dcells]

theorem DBX.lock {w : World} {B : Nat} {r d m : Int} {xs : List Int} (h : DBX w B r d m xs) : w.cell? ⟨B, 2, none⟩ = some (.int .i32 m) := by
  unfold DBX at h
  simp [World.cell?, h, dcells]

theorem DBX.at {w : World} {B : Nat} {r d m : Int} {xs : List Int} (h : DBX w B r d m xs) (k : Nat) (hk : k < xs.length) : w.cell? ⟨B, 4 + k, none⟩ = some (.int .i64 (xs.getD k 0)) := by
  unfold DBX at h
  rw [Nat.add_comm]
  simp [World.cell?, h, dcells, List.getD, hk]

theorem DBX.free {w : World} {B : Nat} {r d m : Int} {xs : List Int} (h : DBX w B r d m xs) (i : Nat) : w.frozen? ⟨B, i, none⟩ = false := by
  unfold DBX at h
  simp [World.frozen?, h]

theorem DBX.setDone {w : World} {B : Nat} {r d m : Int} {xs : List Int} (h : DBX w B r d m xs) (v : Int) : DBX (w.setCell ⟨B, 1, none⟩ (.int .u32 v)) B r v m xs := by
  have hl := h.lt
  unfold DBX at h ⊢
  rw [Array.getElem?_eq_getElem hl] at h
  have h' : w.heap[B] = .cells (dcells r d m xs) 157 (0, 0) := by simpa using h
  show (w.heap.modify B _)[B]? = _
  rw [Array.getElem?_modify, if_pos rfl, Array.getElem?_eq_getElem hl, h']
  simp [dcells]

theorem DBX.setLock {w : World} {B : Nat} {r d m : Int} {xs : List Int} (h : DBX w B r d m xs) (v : Int) : DBX (w.setCell ⟨B, 2, none⟩ (.int .i32 v)) B r d v xs := by
  have hl := h.lt
  unfold DBX at h ⊢
  rw [Array.getElem?_eq_getElem hl] at h
  have h' : w.heap[B] = .cells (dcells r d m xs) 157 (0, 0) := by simpa using h
  show (w.heap.modify B _)[B]? = _
  rw [Array.getElem?_modify, if_pos rfl, Array.getElem?_eq_getElem hl, h']
  simp [dcells]

theorem DBX.setAt {w : World} {B : Nat} {r d m : Int} {xs : List Int} (h : DBX w B r d m xs) (k : Nat) (v : Int) : DBX (w.setCell ⟨B, 4 + k, none⟩ (.int .i64 v)) B r d m (xs.set k v) := by
  have hl := h.lt
  unfold DBX at h ⊢
  rw [Array.getElem?_eq_getElem hl] at h
  have h' : w.heap[B] = .cells (dcells r d m xs) 157 (0, 0) := by simpa using h
  show (w.heap.modify B _)[B]? = _
  rw [Array.getElem?_modify, if_pos rfl, Array.getElem?_eq_getElem hl, h', Nat.add_comm]
  simp [dcells]

theorem DBX.drew {w : World} {B : Nat} {r d m : Int} {xs : List Int} (h : DBX w B r d m xs) : DBX w.drew B r d m xs := h

theorem DBX.drewN {w : World} {B : Nat} {r d m : Int} {xs : List Int} (h : DBX w B r d m xs) (n : Nat) : DBX (w.drewN n) B r d m xs := h

def CompPost (B : Nat) (r d m : Int) (w : World) (e : Ending) (w' : World) : Prop := e = .returned (.tuple #[]) ∧ DBX w' B r d m (discs r 121) ∧ Only B w w'

theorem compute_any (B : Nat) (r d m : Int) (xs : List Int) (w : World) (hx : xs.length = 121) (h : DBX w B r d m xs) (h0 : 0 ≤ r) (h1 : r ≤ 200) :
    Calls Tryz.prog 136 #[.pointer (some ⟨B, 0, none⟩)] w (CompPost B r d m w) := by
  have H := Lib.hid h
  have HX := Lib.hid hx
  clear h hx
  go_enter Tryz.func136, Tryz.ntmps136
  go_wp2_with fail
  go_loopw [2, 4] (fun v i wr => ∃ k : Nat, k ≤ 121 ∧ i = .int .i64 k ∧ v = .int .i64 (disc r k) ∧ Hid (DBX wr B r d m (discs r k ++ xs.drop k)) ∧ Hid (Only B w wr)) (fun _ i _ => 121 - (intOf i).toNat)
  case atStart => exact ⟨0, by omega, rfl, rfl, Lib.hid (by simpa [discs] using H.out), Lib.hid (Only.refl _ _)⟩
  case round =>
    obtain ⟨k, hk, rfl, rfl, HB, HO⟩ := hrel
    by_cases hlt : k < 121
    · have hr := HB.out.rate
      have hy := HB.out.at k (by rw [List.length_append, discs_len, List.length_drop, HX.out]; omega)
      have hf := HB.out.free (4 + k)
      obtain ⟨u, hu⟩ : ∃ u, (discs r k ++ xs.drop k).getD k 0 = u := ⟨_, rfl⟩
      rw [hu] at hy
      clear hu
      obtain ⟨b1, b2⟩ := disc_bd r h0 k
      have hq := disc_q r h0 k
      obtain ⟨D, hD⟩ : ∃ D, disc r k = D := ⟨_, rfl⟩
      rw [hD] at b1 b2 hq ⊢
      have HD := Lib.hid hD
      clear hD
      have hB := HB.out.setAt k D
      have hr2 := hB.rate
      have HB2 := Lib.hid hB
      clear hB
      go_wp2_with fail
      go_roundw
      case rel => exact ⟨k + 1, by omega, by go_num, by first | rfl | go_num, Lib.hid (by have := HB2.out; rw [← HD.out, discs_set r k xs (by rw [HX.out]; exact hlt), HD.out] at this; exact this), Lib.hid (HO.out.setCell (p := ⟨B, 4 + k, none⟩) rfl _)⟩
      case measure => simp [intOf]; omega
    · go_wp2_with fail
      go_end0
      obtain rfl : k = 121 := by omega
      have hb := HB.out
      rw [List.drop_of_length_le (by rw [HX.out]; omega), List.append_nil] at hb
      exact ⟨rfl, hb, HO.out⟩

/-- what is left behind: the discounts of the block are computed; nothing else has turned -/
def OncePost (B : Nat) (r : Int) (w : World) (e : Ending) (w' : World) : Prop := e = .returned (.tuple #[]) ∧ DBX w' B r 1 0 (discs r 121) ∧ Only B w w'

theorem slow_any (B : Nat) (r : Int) (xs : List Int) (w : World) (hx : xs.length = 121) (h : DBX w B r 0 0 xs) (h0 : 0 ≤ r) (h1 : r ≤ 200) :
    Calls Tryz.prog 142 #[.pointer (some ⟨B, 1, none⟩), .func (.func 136) #[.pointer (some ⟨B, 0, none⟩)] #[]] w (OncePost B r w) := by
  have H := Lib.hid h
  have H1 := Lib.hid (h.setLock 1)
  have hl := run_call_load (P := Tryz.prog) Tryz.func145 (by kernel_rfl) (by kernel_rfl) (by kernel_rfl) .u32 (by kernel_rfl) (h.setLock 1).done
  have hnot : ∀ (x : Bool) (w : World), (Op.unary .not (.bool x)).run Tryz.prog w = .ok (.bool (!x)) w := fun _ _ => rfl
  have hk := h.lock
  have hz := h.free 2
  clear h
  go_enter_defers Tryz.func142, Tryz.ntmps142
  go_wp2_with (first | (go_at_call 146; refine (lock_free ⟨B, 2, none⟩ _ hk hz).mono ?_; rintro e w' ⟨rfl, rfl⟩) | (go_at_call 141; go_in) | (go_at_call 136; refine (compute_any B r 0 1 xs _ hx H1.out h0 h1).mono ?_; rintro e w2 ⟨rfl, hb, ho⟩))
  have HB := Lib.hid hb
  have HO := Lib.hid (((Only.refl B w).setCell (p := ⟨B, 2, none⟩) rfl (.int .i32 1)).trans ho)
  clear hb ho
  refine leaves_cons (f := 148) (args := #[.pointer (some ⟨B, 1, none⟩), .bool true]) (by simp) (by simp [go_sem]) ?_
  refine (store_deferred ⟨B, 1, none⟩ (.int .u32 0) .returning _ HB.out.done (HB.out.free 1)).mono ?_
  rintro e u' w'' ⟨rfl, rfl, rfl⟩
  refine leaves_cons (f := 147) (args := #[.pointer (some ⟨B, 2, none⟩)]) (by simp [settle]) (by simp [go_sem]) ?_
  refine (unlock_deferred ⟨B, 2, none⟩ _ _ (HB.out.drew.setDone 1).lock ((HB.out.drew.setDone 1).free 2)).mono ?_
  rintro e u' w'' ⟨rfl, rfl, rfl⟩
  have HF := Lib.hid ((HB.out.drew.setDone 1).setLock 0)
  have HG := Lib.hid ((HO.out.drew.setCell (p := ⟨B, 1, none⟩) rfl (.int .u32 1)).setCell (p := ⟨B, 2, none⟩) rfl (.int .i32 0))
  simp only [Leaves, settle, results, Tryz.results142]
  exact ⟨_, by simp, rfl, HF.out, HG.out⟩

theorem do_any (B : Nat) (r d : Int) (xs : List Int) (w : World) (hx : xs.length = 121) (h : DBX w B r d 0 xs) (hd : d = 0 ∨ d = 1 ∧ xs = discs r 121) (h0 : 0 ≤ r) (h1 : r ≤ 200) :
    Calls Tryz.prog 135 #[.pointer (some ⟨B, 1, none⟩), .func (.func 136) #[.pointer (some ⟨B, 0, none⟩)] #[]] w (OncePost B r w) := by
  have hl := run_call_load (P := Tryz.prog) Tryz.func145 (by kernel_rfl) (by kernel_rfl) (by kernel_rfl) .u32 (by kernel_rfl) h.done
  have hnot : ∀ (x : Bool) (w : World), (Op.unary .not (.bool x)).run Tryz.prog w = .ok (.bool (!x)) w := fun _ _ => rfl
  have H := Lib.hid h
  clear h
  rcases hd with rfl | ⟨rfl, hd⟩
  · go_enter Tryz.func135, Tryz.ntmps135
    go_wp2_with (first | (go_at_call 142; refine (slow_any B r xs _ hx H.out h0 h1).mono ?_; rintro e w2 ⟨rfl, hb, ho⟩) | (go_at_call 141; go_in))
    go_end0
    exact ⟨rfl, hb, ho⟩
  · have HD := Lib.hid hd
    clear hd
    have hn : ((1 : Int) != 0) = true := rfl
    go_enter Tryz.func135, Tryz.ntmps135
    go_wp2
    go_end0
    exact ⟨rfl, HD.out ▸ H.out, Only.refl _ _⟩

/-- block B holds the discounts of rate r, computed or not yet -/
def DB (w : World) (B : Nat) (r : Int) : Prop := ∃ (d : Int) (xs : List Int), xs.length = 121 ∧ DBX w B r d 0 xs ∧ (d = 0 ∨ d = 1 ∧ xs = discs r 121)

def AfterPost (B : Nat) (r v : Int) (w : World) (e : Ending) (w' : World) : Prop := e = .returned (.int .i64 v) ∧ DB w' B r ∧ Only B w w'

theorem after_any (B : Nat) (r : Int) (k : Nat) (w : World) (h : DB w B r) (h0 : 0 ≤ r) (h1 : r ≤ 200) (hk : k ≤ 120) :
    Calls Tryz.prog 124 #[.pointer (some ⟨B, 0, none⟩), .int .i64 k] w (AfterPost B r (disc r k) w) := by
  obtain ⟨d, xs, hx, hb, hd⟩ := h
  have H := Lib.hid hb
  clear hb
  have hmf : ∀ (fn : Fn) (first cap : Array Value) (w : World), (Instr.makeFunc fn first cap).run Tryz.prog w = .ok (.func fn first cap) w := fun _ _ _ _ => rfl
  go_enter Tryz.func124, Tryz.ntmps124
  go_wp2_with fail
  refine (do_any B r d xs _ hx H.out hd h0 h1).mono ?_
  rintro e w2 ⟨rfl, hb, ho⟩
  have hy := hb.at k (by rw [discs_len]; omega)
  rw [discs_get r 121 k (by omega)] at hy
  have HB := Lib.hid hb
  have HO := Lib.hid ho
  clear hb ho
  obtain ⟨D, hD⟩ : ∃ D, disc r k = D := ⟨_, rfl⟩
  rw [hD] at hy
  have HD := Lib.hid hD
  clear hD
  go_wp2
  go_ret
  exact ⟨ret_int HD.out.symm, ⟨1, discs r 121, discs_len r 121, HB.out, .inr ⟨rfl, rfl⟩⟩, HO.out⟩

end Go.Proofs.YtdlfofdibooidaaGreat

/- A product divided exactly: the model's way, bit by bit. -/
namespace Go.Proofs.YtdlfofdibooidaaGreat
open Go.ChangeShapes Go.WideShapes Go.ChangeAt Go.RowKit
set_option linter.unusedVariables false
set_option maxRecDepth 100000

def mdQ (a b c : Int) : Int := if a * b / c ≤ 1000000000000000000 then a * b / c else 2000000000000000000
def mdR (a b c : Int) : Int := if a * b / c ≤ 1000000000000000000 then a * b % c else 0

/-- one more bit of the first factor -/
theorem md_step (A D d b c q r B1 B2 U1 U2 : Int) (hI : A * b = q * c + r) (hD : D = 2 * A + d) (hB : c * B1 + B2 = b) (hU : c * U1 + U2 = 2 * r + d * B2) :
    D * b = (2 * q + d * B1 + U1) * c + U2 := by
  have e1 : D * b = 2 * (A * b) + d * b := by rw [hD, Int.add_mul, Int.mul_assoc]
  have e2 : d * b = d * (c * B1) + d * B2 := by rw [← Int.mul_add, hB]
  have e3 : (2 * q + d * B1 + U1) * c = 2 * (q * c) + d * (c * B1) + c * U1 := by
    rw [Int.add_mul, Int.add_mul, Int.mul_assoc, Int.mul_assoc, Int.mul_comm B1 c, Int.mul_comm U1 c]
  rw [e1, e2, e3, hI]
  omega

theorem md_uniq (p c q r : Int) (h : p = q * c + r) (r0 : 0 ≤ r) (r1 : r < c) : p / c = q ∧ p % c = r := by
  subst h
  constructor
  · rw [Int.add_comm, Int.add_mul_ediv_right _ _ (by omega), Int.ediv_eq_zero_of_lt r0 r1]; omega
  · rw [Int.add_comm, Int.add_mul_emod_self_right, Int.emod_eq_of_lt r0 r1]

theorem md_small (a b c : Int) (h : a * b / c ≤ 1000000000000000000) : mdQ a b c = a * b / c ∧ mdR a b c = a * b % c := by simp [mdQ, mdR, h]

theorem md_large (a b c : Int) (h : 1000000000000000000 < a * b / c) : mdQ a b c = 2000000000000000000 ∧ mdR a b c = 0 := by
  have h' : ¬ a * b / c ≤ 1000000000000000000 := by omega
  simp only [mdQ, mdR, if_neg h', and_self]

/-- a quotient that is too great already stays so -/
theorem md_over (a b c D q r : Int) (h : D * b = q * c + r) (hD : D ≤ a) (b0 : 0 ≤ b) (c0 : 1 ≤ c) (r0 : 0 ≤ r) (hq : 1000000000000000000 < q) : 1000000000000000000 < a * b / c := by
  have h1 : D * b ≤ a * b := Int.mul_le_mul_of_nonneg_right hD b0
  have h2 : q ≤ a * b / c := Int.le_ediv_of_mul_le (by omega) (by omega)
  omega

theorem div_bit (a : Int) (t : Nat) (a0 : 0 ≤ a) : a / 2 ^ t = 2 * (a / 2 ^ (t + 1)) + a / 2 ^ t % 2 := by
  have h : a / 2 ^ (t + 1) = a / 2 ^ t / 2 := by
    rw [Int.pow_succ, Int.ediv_ediv_of_nonneg]
    exact Int.pow_nonneg (by omega)
  rw [h]; omega

theorem div_le_self' (a : Int) (t : Nat) (a0 : 0 ≤ a) : 0 ≤ a / 2 ^ t ∧ a / 2 ^ t ≤ a :=
  ⟨Int.ediv_nonneg a0 (Int.pow_nonneg (by omega)), Int.ediv_le_self _ a0⟩

set_option maxHeartbeats 1000000 in
theorem sdiv_any (a b c : Int) (w : World) (a0 : 0 ≤ a) (a1 : a ≤ 1000000000000) (b0 : 0 ≤ b) (b1 : b ≤ 1000000000000000000) (c0 : 1 ≤ c) (c1 : c ≤ 1000000000000000000) :
    Calls Tryz.prog 38 #[.int .i64 a, .int .i64 b, .int .i64 c] w fun e w' => e = .returned (.tuple #[.int .i64 (mdQ a b c), .int .i64 (mdR a b c)]) ∧ w = w' := by
  have H0 : Hid (a / 2 ^ 42 * b = 0 * c + 0) := Lib.hid (by rw [Int.ediv_eq_zero_of_lt a0 (by omega)]; simp)
  go_enter Tryz.func38, Tryz.ntmps38
  go_wp2_with fail
  go_loop [8, 9, 10] (fun x y i => ∃ (s : Nat) (q r : Int), s ≤ 42 ∧ i = .int .i64 ((s : Int) - 1) ∧ x = .int .i64 q ∧ y = .int .i64 r ∧ 0 ≤ q ∧ q ≤ 1000000000000000000 ∧ 0 ≤ r ∧ r < c ∧ Hid (a / 2 ^ s * b = q * c + r)) (fun _ _ i => (intOf i + 1).toNat)
  case atStart => exact ⟨42, 0, 0, by omega, rfl, rfl, rfl, by omega, by omega, by omega, by omega, H0⟩
  case round =>
    clear H0
    obtain ⟨s, q, r, s1, rfl, rfl, rfl, q0, q1, r0, r1, HI⟩ := hrel
    by_cases hs : 0 < s
    · obtain ⟨t, rfl⟩ : ∃ t, s = t + 1 := ⟨s - 1, by omega⟩
      rw [show ((t + 1 : Nat) : Int) - 1 = (t : Int) by omega]
      have hcz : c ≠ 0 := by omega
      have hbit := div_bit a t a0
      obtain ⟨d0, d1⟩ := div_le_self' a t a0
      obtain ⟨A, hA⟩ : ∃ A, a / 2 ^ (t + 1) = A := ⟨_, rfl⟩
      obtain ⟨D, hD⟩ : ∃ A, a / 2 ^ t = A := ⟨_, rfl⟩
      rw [hA, hD] at hbit
      rw [hA] at HI
      rw [hD] at d0 d1
      obtain ⟨B1, hB1⟩ : ∃ B, b / c = B := ⟨_, rfl⟩
      obtain ⟨B2, hB2⟩ : ∃ B, b % c = B := ⟨_, rfl⟩
      have hB := Int.mul_ediv_add_emod b c
      have hB0 : 0 ≤ B1 := by rw [← hB1]; exact Int.ediv_nonneg b0 (by omega)
      have hB3 : B1 ≤ 1000000000000000000 := by rw [← hB1]; exact Int.le_trans (Int.ediv_le_self _ b0) b1
      have hB4 : 0 ≤ B2 := by rw [← hB2]; exact Int.emod_nonneg _ hcz
      have hB5 : B2 < c := by rw [← hB2]; exact Int.emod_lt_of_pos _ (by omega)
      rw [hB1, hB2] at hB
      have HBB := Lib.hid hB
      have HDD := Lib.hid hbit
      clear hB hbit hA
      have htm : D.tmod 2 = D % 2 := Int.tmod_eq_emod_of_nonneg d0
      by_cases hd : D % 2 = 1
      · obtain ⟨U1, hU1⟩ : ∃ B, (2 * r + B2) / c = B := ⟨_, rfl⟩
        obtain ⟨U2, hU2⟩ : ∃ B, (2 * r + B2) % c = B := ⟨_, rfl⟩
        have hU := Int.mul_ediv_add_emod (2 * r + B2) c
        have hU0 : 0 ≤ U1 := by rw [← hU1]; exact Int.ediv_nonneg (by omega) (by omega)
        have hU3 : U1 ≤ 2 := Int.lt_add_one_iff.1 (by rw [← hU1]; exact Int.ediv_lt_of_lt_mul (by omega) (by omega))
        have hU4 : 0 ≤ U2 := by rw [← hU2]; exact Int.emod_nonneg _ hcz
        have hU5 : U2 < c := by rw [← hU2]; exact Int.emod_lt_of_pos _ (by omega)
        rw [hU1, hU2] at hU
        have HS := Lib.hid (md_step A D 1 b c q r B1 B2 U1 U2 HI.out (by have := HDD.out; omega) HBB.out (by omega))
        clear hU
        by_cases hov : 1000000000000000000 < 2 * q + B1 + U1
        · have HO := Lib.hid (md_over a b c D (2 * q + B1 + U1) U2 (by have := HS.out; rw [Int.one_mul] at this; exact this) d1 b0 c0 hU4 hov)
          go_wp2_with fail
          go_ret2
          obtain ⟨e1, e2⟩ := md_large a b c HO.out
          rw [e1, e2]
          exact ⟨rfl, rfl⟩
        · have HS := Lib.hid (show D * b = (2 * q + B1 + U1) * c + U2 by have := HS.out; rw [Int.one_mul] at this; exact this)
          have HDt := Lib.hid hD
          go_wp2_with fail
          go_round
          case rel => exact ⟨t, _, _, by omega, rfl, rfl, rfl, by omega, by omega, by omega, by omega, Lib.hid (by rw [HDt.out, hU2]; exact HS.out)⟩
          case measure => simp [intOf]
      · have hd2 : D % 2 = 0 := by omega
        obtain ⟨U1, hU1⟩ : ∃ B, (2 * r) / c = B := ⟨_, rfl⟩
        obtain ⟨U2, hU2⟩ : ∃ B, (2 * r) % c = B := ⟨_, rfl⟩
        have hU := Int.mul_ediv_add_emod (2 * r) c
        have hU0 : 0 ≤ U1 := by rw [← hU1]; exact Int.ediv_nonneg (by omega) (by omega)
        have hU3 : U1 ≤ 2 := Int.lt_add_one_iff.1 (by rw [← hU1]; exact Int.ediv_lt_of_lt_mul (by omega) (by omega))
        have hU4 : 0 ≤ U2 := by rw [← hU2]; exact Int.emod_nonneg _ hcz
        have hU5 : U2 < c := by rw [← hU2]; exact Int.emod_lt_of_pos _ (by omega)
        rw [hU1, hU2] at hU
        have HS := Lib.hid (md_step A D 0 b c q r B1 B2 U1 U2 HI.out (by have := HDD.out; omega) HBB.out (by omega))
        clear hU
        have HS := Lib.hid (show D * b = (2 * q + U1) * c + U2 by have := HS.out; rw [Int.zero_mul, Int.add_zero] at this; exact this)
        by_cases hov : 1000000000000000000 < 2 * q + U1
        · have HO := Lib.hid (md_over a b c D (2 * q + U1) U2 HS.out d1 b0 c0 hU4 hov)
          go_wp2_with fail
          go_ret2
          obtain ⟨e1, e2⟩ := md_large a b c HO.out
          rw [e1, e2]
          exact ⟨rfl, rfl⟩
        · have HDt := Lib.hid hD
          go_wp2_with fail
          go_round
          case rel => exact ⟨t, _, _, by omega, rfl, rfl, rfl, by omega, by omega, by omega, by omega, Lib.hid (by rw [HDt.out, hU2]; exact HS.out)⟩
          case measure => simp [intOf]
    · obtain rfl : s = 0 := by omega
      have HE := Lib.hid (md_uniq (a * b) c q r (by have := HI.out; rw [Int.pow_zero, Int.ediv_one] at this; exact this) r0 r1)
      go_wp2_with fail
      go_ret2
      obtain ⟨e1, e2⟩ := HE.out
      obtain ⟨e3, e4⟩ := md_small a b c (by omega)
      rw [e3, e4, e1, e2]
      exact ⟨rfl, rfl⟩

end Go.Proofs.YtdlfofdibooidaaGreat

/- Policies: the difference of two products divided, bit by bit (the model's way). (Written by wip/gen/pom.py.) -/
namespace Go.Proofs.YtdlfofdibooidaaGreat
open Go.ChangeShapes Go.WideShapes Go.ChangeAt Go.RowKit
set_option linter.unusedVariables false
set_option maxRecDepth 100000

/-- what is reckoned of the first bits stays small -/
theorem mi_bd (a b s c d Q q r : Int) (t : Nat) (b0 : 0 ≤ b) (c0 : 0 ≤ c) (d0 : 1 ≤ d) (Q0 : 0 ≤ Q) (h1 : -(Q * d) ≤ a * b - s * c) (h2 : a * b - s * c ≤ Q * d)
    (hI : a / 2 ^ t * b - s / 2 ^ t * c = q * d + r) (r0 : 0 ≤ r) (r1 : r < d) : -(Q + b) ≤ q ∧ q ≤ Q + c := by
  have hp : (0 : Int) < 2 ^ t := Int.pow_pos (by omega)
  obtain ⟨p, hpp⟩ : ∃ p : Int, (2 : Int) ^ t = p := ⟨_, rfl⟩
  rw [hpp] at hp hI
  have ea := Int.mul_ediv_add_emod a p
  have es := Int.mul_ediv_add_emod s p
  have a1 := Int.emod_nonneg a (show p ≠ 0 by omega)
  have s1 := Int.emod_nonneg s (show p ≠ 0 by omega)
  have a2 := Int.emod_lt_of_pos a hp
  have s2 := Int.emod_lt_of_pos s hp
  obtain ⟨A, hA⟩ : ∃ y, a / p = y := ⟨_, rfl⟩
  obtain ⟨S, hS⟩ : ∃ y, s / p = y := ⟨_, rfl⟩
  obtain ⟨α, hα⟩ : ∃ y, a % p = y := ⟨_, rfl⟩
  obtain ⟨σ, hσ⟩ : ∃ y, s % p = y := ⟨_, rfl⟩
  rw [hA, hα] at ea
  rw [hS, hσ] at es
  rw [hA, hS] at hI
  rw [hα] at a1 a2
  rw [hσ] at s1 s2
  obtain ⟨V, hV⟩ : ∃ y, A * b - S * c = y := ⟨_, rfl⟩
  have e1 : a * b = p * (A * b) + α * b := by rw [← ea, Int.add_mul, Int.mul_assoc]
  have e2 : s * c = p * (S * c) + σ * c := by rw [← es, Int.add_mul, Int.mul_assoc]
  have e3 : p * V = p * (A * b) - p * (S * c) := by rw [← hV, Int.mul_sub]
  have m1 : α * b ≤ p * b := Int.mul_le_mul_of_nonneg_right (by omega) b0
  have m2 : σ * c ≤ p * c := Int.mul_le_mul_of_nonneg_right (by omega) c0
  have m3 : 0 ≤ α * b := Int.mul_nonneg a1 b0
  have m4 : 0 ≤ σ * c := Int.mul_nonneg s1 c0
  have m5 : Q * d ≤ p * (Q * d) := by
    have := Int.mul_le_mul_of_nonneg_right (show (1 : Int) ≤ p by omega) (Int.mul_nonneg Q0 (show 0 ≤ d by omega))
    rwa [Int.one_mul] at this
  have u1 : V ≤ Q * d + c := by
    refine Int.le_of_mul_le_mul_left (a := p) ?_ hp
    rw [Int.mul_add]; omega
  have u2 : -(Q * d) - b ≤ V := by
    refine Int.le_of_mul_le_mul_left (a := p) ?_ hp
    rw [Int.mul_sub, Int.mul_neg]; omega
  have c1 : c ≤ c * d := by
    have := Int.mul_le_mul_of_nonneg_left d0 c0
    rwa [Int.mul_one] at this
  have b1 : b ≤ b * d := by
    have := Int.mul_le_mul_of_nonneg_left d0 b0
    rwa [Int.mul_one] at this
  constructor
  · have : -(Q + b) * d < (q + 1) * d := by rw [Int.neg_mul, Int.add_mul, Int.add_mul]; omega
    have := Int.lt_of_mul_lt_mul_right this (by omega)
    omega
  · refine Int.le_of_mul_le_mul_right (a := d) ?_ (by omega)
    rw [Int.add_mul]; omega

/-- one more bit of both factors -/
theorem mi_step (A D S E da ds b c d q r B1 B2 C1 C2 : Int) (hI : A * b - S * c = q * d + r) (hD : D = 2 * A + da) (hE : E = 2 * S + ds) (hB : d * B1 + B2 = b) (hC : d * C1 + C2 = c) :
    D * b - E * c = (2 * q + da * B1 - ds * C1) * d + (2 * r + da * B2 - ds * C2) := by
  subst hD hE
  have e1 : (2 * A + da) * b = 2 * (A * b) + da * b := by rw [Int.add_mul, Int.mul_assoc]
  have e2 : (2 * S + ds) * c = 2 * (S * c) + ds * c := by rw [Int.add_mul, Int.mul_assoc]
  have e3 : da * b = d * (da * B1) + da * B2 := by rw [← hB, Int.mul_add, Int.mul_left_comm]
  have e4 : ds * c = d * (ds * C1) + ds * C2 := by rw [← hC, Int.mul_add, Int.mul_left_comm]
  have e5 : (2 * q + da * B1 - ds * C1) * d = 2 * (q * d) + d * (da * B1) - d * (ds * C1) := by
    rw [Int.sub_mul, Int.add_mul, Int.mul_assoc, Int.mul_comm (da * B1) d, Int.mul_comm (ds * C1) d]
  rw [e1, e2, e3, e4, e5]
  omega

/-! ### the walk -/

set_option maxHeartbeats 4000000 in
theorem sminus_any (a b s c d Q : Int) (w : World) (a0 : 0 ≤ a) (a1 : a ≤ 1000000000000) (s0 : 0 ≤ s) (s1 : s ≤ 1000000000000) (b0 : 0 ≤ b) (b1 : b ≤ 200000000000000000) (c0 : 0 ≤ c) (c1 : c ≤ 200000000000000000) (d0 : 1 ≤ d) (d1 : d ≤ 1000000000000000) (Q0 : 0 ≤ Q) (Q1 : Q ≤ 1000000000000000000)
    (h1 : -(Q * d) ≤ a * b - s * c) (h2 : a * b - s * c ≤ Q * d) :
    Calls Tryz.prog 103 #[.int .i64 a, .int .i64 b, .int .i64 s, .int .i64 c, .int .i64 d] w fun e w' => e = .returned (.tuple #[.int .i64 ((a * b - s * c) / d), .int .i64 ((a * b - s * c) % d)]) ∧ w = w' := by
  have H0 : Hid (a / 2 ^ 42 * b - s / 2 ^ 42 * c = 0 * d + 0) := Lib.hid (by rw [Int.ediv_eq_zero_of_lt a0 (by omega), Int.ediv_eq_zero_of_lt s0 (by omega)]; simp)
  have HB := Lib.hid (fun (q r : Int) (t : Nat) => mi_bd a b s c d Q q r t b0 c0 d0 Q0 h1 h2)
  have HQ := Lib.hid (md_uniq (a * b - s * c) d)
  obtain ⟨X, hX⟩ : ∃ y, (a * b - s * c) / d = y := ⟨_, rfl⟩
  obtain ⟨Y, hY⟩ : ∃ y, (a * b - s * c) % d = y := ⟨_, rfl⟩
  rw [hX, hY] at HQ ⊢
  have HW : Hid (a / 2 ^ 0 * b - s / 2 ^ 0 * c = a * b - s * c) := Lib.hid (by simp)
  clear h1 h2 hX hY
  go_enter Tryz.func103, Tryz.ntmps103
  go_wp2_with fail
  go_loop [12, 13, 14] (fun x y i => ∃ (t : Nat) (q r : Int), t ≤ 42 ∧ i = .int .i64 ((t : Int) - 1) ∧ x = .int .i64 q ∧ y = .int .i64 r ∧ 0 ≤ r ∧ r < d ∧ Hid (a / 2 ^ t * b - s / 2 ^ t * c = q * d + r)) (fun _ _ i => (intOf i + 1).toNat)
  case atStart => exact ⟨42, 0, 0, by omega, rfl, rfl, rfl, by omega, by omega, H0⟩
  case round =>
    clear H0
    obtain ⟨t, q, r, t1, rfl, rfl, rfl, r0, r1, HI⟩ := hrel
    obtain ⟨q0, q1⟩ := HB.out q r t HI.out r0 r1
    by_cases hs : 0 < t
    · obtain ⟨t, rfl⟩ : ∃ u, t = u + 1 := ⟨t - 1, by omega⟩
      rw [show ((t + 1 : Nat) : Int) - 1 = (t : Int) by omega]
      have hcz : d ≠ 0 := by omega
      have hbit := div_bit a t a0
      have hbis := div_bit s t s0
      obtain ⟨u0, u1⟩ := div_le_self' a t a0
      obtain ⟨v0, v1⟩ := div_le_self' s t s0
      obtain ⟨A, hA⟩ : ∃ A, a / 2 ^ (t + 1) = A := ⟨_, rfl⟩
      obtain ⟨D, hD⟩ : ∃ A, a / 2 ^ t = A := ⟨_, rfl⟩
      obtain ⟨S, hS⟩ : ∃ A, s / 2 ^ (t + 1) = A := ⟨_, rfl⟩
      obtain ⟨E, hE⟩ : ∃ A, s / 2 ^ t = A := ⟨_, rfl⟩
      rw [hA, hD] at hbit
      rw [hS, hE] at hbis
      rw [hA, hS] at HI
      rw [hD] at u0 u1
      rw [hE] at v0 v1
      obtain ⟨B1, hB1⟩ : ∃ B, b / d = B := ⟨_, rfl⟩
      obtain ⟨B2, hB2⟩ : ∃ B, b % d = B := ⟨_, rfl⟩
      obtain ⟨C1, hC1⟩ : ∃ B, c / d = B := ⟨_, rfl⟩
      obtain ⟨C2, hC2⟩ : ∃ B, c % d = B := ⟨_, rfl⟩
      have hB := Int.mul_ediv_add_emod b d
      have hC := Int.mul_ediv_add_emod c d
      have hB0 : 0 ≤ B1 := by rw [← hB1]; exact Int.ediv_nonneg b0 (by omega)
      have hB3 : B1 ≤ 200000000000000000 := by rw [← hB1]; exact Int.le_trans (Int.ediv_le_self _ b0) b1
      have hB4 : 0 ≤ B2 := by rw [← hB2]; exact Int.emod_nonneg _ hcz
      have hB5 : B2 < d := by rw [← hB2]; exact Int.emod_lt_of_pos _ (by omega)
      have hC0 : 0 ≤ C1 := by rw [← hC1]; exact Int.ediv_nonneg c0 (by omega)
      have hC3 : C1 ≤ 200000000000000000 := by rw [← hC1]; exact Int.le_trans (Int.ediv_le_self _ c0) c1
      have hC4 : 0 ≤ C2 := by rw [← hC2]; exact Int.emod_nonneg _ hcz
      have hC5 : C2 < d := by rw [← hC2]; exact Int.emod_lt_of_pos _ (by omega)
      rw [hB1, hB2] at hB
      rw [hC1, hC2] at hC
      have HBB := Lib.hid hB
      have HCC := Lib.hid hC
      have HDD := Lib.hid hbit
      have HEE := Lib.hid hbis
      clear hB hC hbit hbis hA hS
      have htm : D.tmod 2 = D % 2 := Int.tmod_eq_emod_of_nonneg u0
      have hts : E.tmod 2 = E % 2 := Int.tmod_eq_emod_of_nonneg v0
      have HDt := Lib.hid (show D * b - E * c = a / 2 ^ t * b - s / 2 ^ t * c by rw [hD, hE])
      by_cases hd : D % 2 = 1
      · by_cases he : E % 2 = 1
        · have HS := Lib.hid (show D * b - E * c = (2 * q + B1 - C1) * d + (2 * r + B2 - C2) by have := mi_step A D S E 1 1 b c d q r B1 B2 C1 C2 HI.out (by have := HDD.out; omega) (by have := HEE.out; omega) HBB.out HCC.out; simpa using this)
          go_wp2_with fail
          go_loop [12, 13] (fun x y => ∃ (g h : Int), x = .int .i64 g ∧ y = .int .i64 h ∧ -4000000000000000000 ≤ g + h ∧ -4000000000000000000 ≤ g ∧ g ≤ 3000000000000000000 ∧ -d < h ∧ h < 3 * d ∧ Hid (D * b - E * c = g * d + h)) (fun _ y => (d - intOf y).toNat)
          case atStart => exact ⟨_, _, rfl, rfl, by omega, by omega, by omega, by omega, by omega, HS⟩
          case round =>
            clear HS
            obtain ⟨g, h, rfl, rfl, g2, g0, g1, h0, h1, HS⟩ := hrel
            by_cases hneg : h < 0
            · have HS := Lib.hid (show D * b - E * c = (g - 1) * d + (h + d) by have := HS.out; rw [this, Int.sub_mul]; omega)
              go_wp2_with fail
              go_round
              case rel => exact ⟨_, _, rfl, rfl, by omega, by omega, by omega, by omega, by omega, HS⟩
              case measure => simp [intOf]; omega
            · go_wp2_with fail
              go_loop [12, 13] (fun x y => ∃ (g h : Int), x = .int .i64 g ∧ y = .int .i64 h ∧ -4000000000000000000 ≤ g + h ∧ -4000000000000000000 ≤ g ∧ g ≤ 3000000000000000000 + (3 * d - h) ∧ 0 ≤ h ∧ h < 3 * d ∧ Hid (D * b - E * c = g * d + h)) (fun _ y => (intOf y).toNat)
              case atStart => exact ⟨_, _, rfl, rfl, by omega, by omega, by omega, by omega, by omega, HS⟩
              case round =>
                clear HS
                obtain ⟨g, h, rfl, rfl, g2, g0, g1, h0, h1, HS⟩ := hrel
                by_cases hge : d ≤ h
                · have HS := Lib.hid (show D * b - E * c = (g + 1) * d + (h - d) by have := HS.out; rw [this, Int.add_mul]; omega)
                  go_wp2_with fail
                  go_round
                  case rel => exact ⟨_, _, rfl, rfl, by omega, by omega, by omega, by omega, by omega, HS⟩
                  case measure => simp [intOf]; omega
                · go_wp2_with fail
                  go_round
                  case rel => exact ⟨t, _, _, by omega, rfl, rfl, rfl, by omega, by omega, Lib.hid (HDt.out.symm.trans HS.out)⟩
                  case measure => simp [intOf]
        · have he2 : E % 2 = 0 := by omega
          have HS := Lib.hid (show D * b - E * c = (2 * q + B1) * d + (2 * r + B2) by have := mi_step A D S E 1 0 b c d q r B1 B2 C1 C2 HI.out (by have := HDD.out; omega) (by have := HEE.out; omega) HBB.out HCC.out; simpa using this)
          go_wp2_with fail
          go_loop [12, 13] (fun x y => ∃ (g h : Int), x = .int .i64 g ∧ y = .int .i64 h ∧ -4000000000000000000 ≤ g + h ∧ -4000000000000000000 ≤ g ∧ g ≤ 3000000000000000000 ∧ -d < h ∧ h < 3 * d ∧ Hid (D * b - E * c = g * d + h)) (fun _ y => (d - intOf y).toNat)
          case atStart => exact ⟨_, _, rfl, rfl, by omega, by omega, by omega, by omega, by omega, HS⟩
          case round =>
            clear HS
            obtain ⟨g, h, rfl, rfl, g2, g0, g1, h0, h1, HS⟩ := hrel
            by_cases hneg : h < 0
            · have HS := Lib.hid (show D * b - E * c = (g - 1) * d + (h + d) by have := HS.out; rw [this, Int.sub_mul]; omega)
              go_wp2_with fail
              go_round
              case rel => exact ⟨_, _, rfl, rfl, by omega, by omega, by omega, by omega, by omega, HS⟩
              case measure => simp [intOf]; omega
            · go_wp2_with fail
              go_loop [12, 13] (fun x y => ∃ (g h : Int), x = .int .i64 g ∧ y = .int .i64 h ∧ -4000000000000000000 ≤ g + h ∧ -4000000000000000000 ≤ g ∧ g ≤ 3000000000000000000 + (3 * d - h) ∧ 0 ≤ h ∧ h < 3 * d ∧ Hid (D * b - E * c = g * d + h)) (fun _ y => (intOf y).toNat)
              case atStart => exact ⟨_, _, rfl, rfl, by omega, by omega, by omega, by omega, by omega, HS⟩
              case round =>
                clear HS
                obtain ⟨g, h, rfl, rfl, g2, g0, g1, h0, h1, HS⟩ := hrel
                by_cases hge : d ≤ h
                · have HS := Lib.hid (show D * b - E * c = (g + 1) * d + (h - d) by have := HS.out; rw [this, Int.add_mul]; omega)
                  go_wp2_with fail
                  go_round
                  case rel => exact ⟨_, _, rfl, rfl, by omega, by omega, by omega, by omega, by omega, HS⟩
                  case measure => simp [intOf]; omega
                · go_wp2_with fail
                  go_round
                  case rel => exact ⟨t, _, _, by omega, rfl, rfl, rfl, by omega, by omega, Lib.hid (HDt.out.symm.trans HS.out)⟩
                  case measure => simp [intOf]
      · have hd2 : D % 2 = 0 := by omega
        by_cases he : E % 2 = 1
        · have HS := Lib.hid (show D * b - E * c = (2 * q - C1) * d + (2 * r - C2) by have := mi_step A D S E 0 1 b c d q r B1 B2 C1 C2 HI.out (by have := HDD.out; omega) (by have := HEE.out; omega) HBB.out HCC.out; simpa using this)
          go_wp2_with fail
          go_loop [12, 13] (fun x y => ∃ (g h : Int), x = .int .i64 g ∧ y = .int .i64 h ∧ -4000000000000000000 ≤ g + h ∧ -4000000000000000000 ≤ g ∧ g ≤ 3000000000000000000 ∧ -d < h ∧ h < 3 * d ∧ Hid (D * b - E * c = g * d + h)) (fun _ y => (d - intOf y).toNat)
          case atStart => exact ⟨_, _, rfl, rfl, by omega, by omega, by omega, by omega, by omega, HS⟩
          case round =>
            clear HS
            obtain ⟨g, h, rfl, rfl, g2, g0, g1, h0, h1, HS⟩ := hrel
            by_cases hneg : h < 0
            · have HS := Lib.hid (show D * b - E * c = (g - 1) * d + (h + d) by have := HS.out; rw [this, Int.sub_mul]; omega)
              go_wp2_with fail
              go_round
              case rel => exact ⟨_, _, rfl, rfl, by omega, by omega, by omega, by omega, by omega, HS⟩
              case measure => simp [intOf]; omega
            · go_wp2_with fail
              go_loop [12, 13] (fun x y => ∃ (g h : Int), x = .int .i64 g ∧ y = .int .i64 h ∧ -4000000000000000000 ≤ g + h ∧ -4000000000000000000 ≤ g ∧ g ≤ 3000000000000000000 + (3 * d - h) ∧ 0 ≤ h ∧ h < 3 * d ∧ Hid (D * b - E * c = g * d + h)) (fun _ y => (intOf y).toNat)
              case atStart => exact ⟨_, _, rfl, rfl, by omega, by omega, by omega, by omega, by omega, HS⟩
              case round =>
                clear HS
                obtain ⟨g, h, rfl, rfl, g2, g0, g1, h0, h1, HS⟩ := hrel
                by_cases hge : d ≤ h
                · have HS := Lib.hid (show D * b - E * c = (g + 1) * d + (h - d) by have := HS.out; rw [this, Int.add_mul]; omega)
                  go_wp2_with fail
                  go_round
                  case rel => exact ⟨_, _, rfl, rfl, by omega, by omega, by omega, by omega, by omega, HS⟩
                  case measure => simp [intOf]; omega
                · go_wp2_with fail
                  go_round
                  case rel => exact ⟨t, _, _, by omega, rfl, rfl, rfl, by omega, by omega, Lib.hid (HDt.out.symm.trans HS.out)⟩
                  case measure => simp [intOf]
        · have he2 : E % 2 = 0 := by omega
          have HS := Lib.hid (show D * b - E * c = (2 * q) * d + (2 * r) by have := mi_step A D S E 0 0 b c d q r B1 B2 C1 C2 HI.out (by have := HDD.out; omega) (by have := HEE.out; omega) HBB.out HCC.out; simpa using this)
          go_wp2_with fail
          go_loop [12, 13] (fun x y => ∃ (g h : Int), x = .int .i64 g ∧ y = .int .i64 h ∧ -4000000000000000000 ≤ g + h ∧ -4000000000000000000 ≤ g ∧ g ≤ 3000000000000000000 ∧ -d < h ∧ h < 3 * d ∧ Hid (D * b - E * c = g * d + h)) (fun _ y => (d - intOf y).toNat)
          case atStart => exact ⟨_, _, rfl, rfl, by omega, by omega, by omega, by omega, by omega, HS⟩
          case round =>
            clear HS
            obtain ⟨g, h, rfl, rfl, g2, g0, g1, h0, h1, HS⟩ := hrel
            by_cases hneg : h < 0
            · have HS := Lib.hid (show D * b - E * c = (g - 1) * d + (h + d) by have := HS.out; rw [this, Int.sub_mul]; omega)
              go_wp2_with fail
              go_round
              case rel => exact ⟨_, _, rfl, rfl, by omega, by omega, by omega, by omega, by omega, HS⟩
              case measure => simp [intOf]; omega
            · go_wp2_with fail
              go_loop [12, 13] (fun x y => ∃ (g h : Int), x = .int .i64 g ∧ y = .int .i64 h ∧ -4000000000000000000 ≤ g + h ∧ -4000000000000000000 ≤ g ∧ g ≤ 3000000000000000000 + (3 * d - h) ∧ 0 ≤ h ∧ h < 3 * d ∧ Hid (D * b - E * c = g * d + h)) (fun _ y => (intOf y).toNat)
              case atStart => exact ⟨_, _, rfl, rfl, by omega, by omega, by omega, by omega, by omega, HS⟩
              case round =>
                clear HS
                obtain ⟨g, h, rfl, rfl, g2, g0, g1, h0, h1, HS⟩ := hrel
                by_cases hge : d ≤ h
                · have HS := Lib.hid (show D * b - E * c = (g + 1) * d + (h - d) by have := HS.out; rw [this, Int.add_mul]; omega)
                  go_wp2_with fail
                  go_round
                  case rel => exact ⟨_, _, rfl, rfl, by omega, by omega, by omega, by omega, by omega, HS⟩
                  case measure => simp [intOf]; omega
                · go_wp2_with fail
                  go_round
                  case rel => exact ⟨t, _, _, by omega, rfl, rfl, rfl, by omega, by omega, Lib.hid (HDt.out.symm.trans HS.out)⟩
                  case measure => simp [intOf]
    · obtain rfl : t = 0 := by omega
      have HE := Lib.hid (HQ.out q r (by rw [← HW.out]; exact HI.out) r0 r1)
      go_wp2_with fail
      go_ret2
      obtain ⟨rfl, rfl⟩ := HE.out
      exact ⟨rfl, rfl⟩

end Go.Proofs.YtdlfofdibooidaaGreat
