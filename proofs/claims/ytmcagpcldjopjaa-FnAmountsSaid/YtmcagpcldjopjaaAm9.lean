/- Merged: Once, Disc, Dsum, Col, ColS. -/
import Derived.Test.YtmcagpcldjopjaaAm1
import Derived.Test.YtmcagpcldjopjaaAm4
import Derived.Defers
import Derived.Laws.Pointers
import Derived.Laws.NewBlocks
import Derived.ChangeAlike
import Derived.Deep.WholeRow
import Derived.Deep.RegionHeld3

/- sync.Once, one goroutine: the two calls that its slow road defers, and the lock, each a contract of its own. -/
namespace Go.Proofs.Ytmcagpcldjopjaa
open Go.ChangeShapes Go.WideShapes Go.ChangeAt Go.RowKit
set_option linter.unusedVariables false
set_option maxRecDepth 100000

theorem on_disable (w : World) : (callFunc 122 #[]).run Try.prog w = .ok (.value (.tuple #[])) w := run_call_mark0 Try.func122 (by kernel_rfl) (by kernel_rfl) (by kernel_rfl) .disable (by kernel_rfl) w

theorem on_enable (w : World) : (callFunc 124 #[]).run Try.prog w = .ok (.value (.tuple #[])) w := run_call_mark0 Try.func124 (by kernel_rfl) (by kernel_rfl) (by kernel_rfl) .enable (by kernel_rfl) w

theorem on_acquire (a : Addr) (w : World) : (callFunc 125 #[.pointer (some a)]).run Try.prog w = .ok (.value (.tuple #[])) w := run_call_marked Try.func125 (by kernel_rfl) (by kernel_rfl) (by kernel_rfl) .acquire (by kernel_rfl) a w

theorem on_merge (a : Addr) (w : World) : (callFunc 127 #[.pointer (some a)]).run Try.prog w = .ok (.value (.tuple #[])) w := run_call_marked Try.func127 (by kernel_rfl) (by kernel_rfl) (by kernel_rfl) .releaseMerge (by kernel_rfl) a w

/-- (*sync/atomic.Bool).Store(true), entered as a deferred call -/
theorem store_deferred (a : Addr) (x : Value) (u : FrameMode) (w : World) (hc : w.cell? a = some x) (hz : w.frozen? a = false) :
    CallsD Try.prog 117 #[.pointer (some a), .bool true] u w fun e u' w' => u' = u ∧ (e = .returned (.tuple #[]) ∧ w' = w.drew.setCell a (.int .u32 1)) := by
  have hc' : w.drew.cell? a = some x := by go_simp
  have hz' : w.drew.frozen? a = false := by go_simp
  have hst := run_call_store (P := Try.prog) Try.func120 (by kernel_rfl) (by kernel_rfl) (by kernel_rfl) (by kernel_rfl) (k := .u32) (y := 1) hc' hz'
  go_enter_d Try.func117, Try.ntmps117
  go_wp2
  go_region_calls
  all_goals (go_end0; exact ⟨rfl, rfl⟩)

/-- (*sync.Mutex).Unlock, entered as a deferred call, the lock held and nobody waiting -/
theorem unlock_deferred (a : Addr) (u : FrameMode) (w : World) (hc : w.cell? a = some (.int .i32 1)) (hz : w.frozen? a = false) :
    CallsD Try.prog 116 #[.pointer (some a)] u w fun e u' w' => u' = u ∧ (e = .returned (.tuple #[]) ∧ w' = w.setCell a (.int .i32 0)) := by
  have hd := on_disable
  have he := on_enable
  have hr := on_merge
  have hadd := run_call_add (P := Try.prog) Try.func128 (by kernel_rfl) (by kernel_rfl) (by kernel_rfl) .i32 (by kernel_rfl) (y := -1) (s := 0) hc hz (by simp [go_sem]; rfl)
  have hcv := run_convert_to_unsafe (P := Try.prog) (src := 138) (dst := 142) Try.underlying138 Try.underlying142 (by kernel_rfl) hc
  go_enter_d Try.func116, Try.ntmps116
  go_wp2
  go_end0
  go_wp2
  go_end0
  exact ⟨rfl, rfl⟩

/-- (*sync.Mutex).Lock, the lock free -/
theorem lock_free (a : Addr) (w : World) (hc : w.cell? a = some (.int .i32 0)) (hz : w.frozen? a = false) :
    Calls Try.prog 115 #[.pointer (some a)] w fun e w' => e = .returned (.tuple #[]) ∧ w' = w.setCell a (.int .i32 1) := by
  have hd := on_disable
  have he := on_enable
  have ha := on_acquire
  have hcas := run_call_cas_hit (P := Try.prog) Try.func123 (by kernel_rfl) (by kernel_rfl) (by kernel_rfl) .i32 (by kernel_rfl) (y := 1) hc hz
  have hc' : (w.setCell a (.int .i32 1)).cell? a = some (.int .i32 1) := World.cell?_setCell_same w a _ hc
  have hcv := run_convert_to_unsafe (P := Try.prog) (src := 138) (dst := 142) Try.underlying138 Try.underlying142 (by kernel_rfl) hc'
  go_enter Try.func115, Try.ntmps115
  go_wp2
  first | go_end0 | (simp only [Exit.inBlock, Exit.then]; refine bodyPost_ret (results_none rfl _ _ _) rfl ?_) | refine bodyPost_ret (results_none rfl _ _ _) rfl ?_
  go_wp2
  go_end0
  exact ⟨rfl, rfl⟩

end Go.Proofs.Ytmcagpcldjopjaa

/- Discounts: their plain facts, and the value of the program that holds all discounts of a rate, computed once. -/
namespace Go.Proofs.Ytmcagpcldjopjaa
open Go.ChangeShapes Go.WideShapes Go.ChangeAt Go.RowKit
set_option linter.unusedVariables false
set_option maxRecDepth 100000

/-- the discount of rate r after k years -/
def disc (r : Int) : Nat → Int
  | 0 => 1000000000
  | k + 1 => disc r k * 1000 / (1000 + r)

/-- the first n discounts -/
def discs (r : Int) (n : Nat) : List Int := (List.range n).map (disc r)

theorem disc_bd (r : Int) (h : 0 ≤ r) (k : Nat) : 0 ≤ disc r k ∧ disc r k ≤ 1000000000 := by
  induction k with
  | zero => simp [disc]
  | succ k ih =>
    obtain ⟨h1, h2⟩ := ih
    rw [disc]
    refine ⟨Int.ediv_nonneg (by omega) (by omega), ?_⟩
    have h4 : disc r k * 1000 / (1000 + r) ≤ disc r k := by
      rw [← Int.mul_ediv_cancel (disc r k) (show (1000 + r) ≠ 0 by omega)]
      refine Int.ediv_le_ediv (by omega) ?_
      rw [Int.mul_ediv_cancel _ (by omega)]
      exact Int.mul_le_mul_of_nonneg_left (by omega) h1
    omega

theorem disc_le (r : Int) (h : 0 ≤ r) (k : Nat) : disc r (k + 1) ≤ disc r k := by
  obtain ⟨h1, h2⟩ := disc_bd r h k
  rw [disc, ← Int.mul_ediv_cancel (disc r k) (show (1000 + r) ≠ 0 by omega)]
  refine Int.ediv_le_ediv (by omega) ?_
  rw [Int.mul_ediv_cancel _ (by omega)]
  exact Int.mul_le_mul_of_nonneg_left (by omega) h1

theorem disc_q (r : Int) (h : 0 ≤ r) (k : Nat) : IntKind.i64.wrap ((disc r k * 1000).tdiv (1000 + r)) = disc r (k + 1) := by
  obtain ⟨h1, h2⟩ := disc_bd r h k
  obtain ⟨h3, h4⟩ := disc_bd r h (k + 1)
  rw [Int.tdiv_eq_ediv_of_nonneg (by omega)]
  exact IntWalk.i64_in _ (by rw [disc] at h3 h4; omega)

theorem discs_len (r : Int) (n : Nat) : (discs r n).length = n := by simp [discs]

theorem discs_get (r : Int) (n k : Nat) (h : k < n) : (discs r n).getD k 0 = disc r k := by
  simp [discs, List.getD, h]

theorem discs_set (r : Int) (k : Nat) (xs : List Int) (h : k < xs.length) : (discs r k ++ xs.drop k).set k (disc r k) = discs r (k + 1) ++ xs.drop (k + 1) := by
  rw [List.set_append_right _ _ (by rw [discs_len]; omega), discs_len, Nat.sub_self, List.drop_eq_getElem_cons h, List.set_cons_zero]
  simp [discs, List.range_succ]

/-- the cells of the program's discounts: the rate, whether they are computed, the lock, the discounts -/
def dcells (r d m : Int) (xs : List Int) : Array Value := (([Value.int .i64 r, Value.int .u32 d, Value.int .i32 m, Value.int .u32 0] : List Value) ++ xs.map (Value.int .i64)).toArray

def DBX (w : World) (B : Nat) (r d m : Int) (xs : List Int) : Prop := w.heap[B]? = some (.cells (dcells r d m xs) 112 (0, 0))

theorem DBX.lt {w : World} {B : Nat} {r d m : Int} {xs : List Int} (h : DBX w B r d m xs) : B < w.heap.size := by
  unfold DBX at h
  by_cases hb : B < w.heap.size
  · exact hb
  · have : w.heap[B]? = none := by simp; omega
    rw [this] at h; cases h

theorem DBX.rate {w : World} {B : Nat} {r d m : Int} {xs : List Int} (h : DBX w B r d m xs) : w.cell? ⟨B, 0, none⟩ = some (.int .i64 r) := by
  unfold DBX at h
  simp [World.cell?, h, dcells]

theorem DBX.done {w : World} {B : Nat} {r d m : Int} {xs : List Int} (h : DBX w B r d m xs) : w.cell? ⟨B, 1, none⟩ = some (.int .u32 d) := by
  unfold DBX at h
  simp [World.cell?, h, dcells]

theorem DBX.lock {w : World} {B : Nat} {r d m : Int} {xs : List Int} (h : DBX w B r d m xs) : w.cell? ⟨B, 2, none⟩ = some (.int .i32 m) := by
  unfold DBX at h
  simp [World.cell?, h, dcells]

theorem DBX.at {w : World} {B : Nat} {r d m : Int} {xs : List Int} (h : DBX w B r d m xs) (k : Nat) (hk : k < xs.length) : w.cell? ⟨B, 4 + k, none⟩ = some (.int .i64 (xs.getD k 0)) := by
  unfold DBX at h
  rw [Nat.add_comm]
  simp [World.cell?, h, dcells, List.getD, hk]

theorem DBX.free {w : World} {B : Nat} {r d m : Int} {xs : List Int} (h : DBX w B r d m xs) (i : Nat) : w.frozen? ⟨B, i, none⟩ = false := by
  unfold DBX at h
  simp [World.frozen?, h]

theorem DBX.setDone {w : World} {B : Nat} {r d m : Int} {xs : List Int} (h : DBX w B r d m xs) (v : Int) : DBX (w.setCell ⟨B, 1, none⟩ (.int .u32 v)) B r v m xs := by
  have hl := h.lt
  unfold DBX at h ⊢
  rw [Array.getElem?_eq_getElem hl] at h
  have h' : w.heap[B] = .cells (dcells r d m xs) 112 (0, 0) := by simpa using h
  show (w.heap.modify B _)[B]? = _
  rw [Array.getElem?_modify, if_pos rfl, Array.getElem?_eq_getElem hl, h']
  simp [dcells]

theorem DBX.setLock {w : World} {B : Nat} {r d m : Int} {xs : List Int} (h : DBX w B r d m xs) (v : Int) : DBX (w.setCell ⟨B, 2, none⟩ (.int .i32 v)) B r d v xs := by
  have hl := h.lt
  unfold DBX at h ⊢
  rw [Array.getElem?_eq_getElem hl] at h
  have h' : w.heap[B] = .cells (dcells r d m xs) 112 (0, 0) := by simpa using h
  show (w.heap.modify B _)[B]? = _
  rw [Array.getElem?_modify, if_pos rfl, Array.getElem?_eq_getElem hl, h']
  simp [dcells]

theorem DBX.setAt {w : World} {B : Nat} {r d m : Int} {xs : List Int} (h : DBX w B r d m xs) (k : Nat) (v : Int) : DBX (w.setCell ⟨B, 4 + k, none⟩ (.int .i64 v)) B r d m (xs.set k v) := by
  have hl := h.lt
  unfold DBX at h ⊢
  rw [Array.getElem?_eq_getElem hl] at h
  have h' : w.heap[B] = .cells (dcells r d m xs) 112 (0, 0) := by simpa using h
  show (w.heap.modify B _)[B]? = _
  rw [Array.getElem?_modify, if_pos rfl, Array.getElem?_eq_getElem hl, h', Nat.add_comm]
  simp [dcells]

theorem DBX.drew {w : World} {B : Nat} {r d m : Int} {xs : List Int} (h : DBX w B r d m xs) : DBX w.drew B r d m xs := h

theorem DBX.drewN {w : World} {B : Nat} {r d m : Int} {xs : List Int} (h : DBX w B r d m xs) (n : Nat) : DBX (w.drewN n) B r d m xs := h

def CompPost (B : Nat) (r d m : Int) (w : World) (e : Ending) (w' : World) : Prop := e = .returned (.tuple #[]) ∧ DBX w' B r d m (discs r 121) ∧ Only B w w'

theorem compute_any (B : Nat) (r d m : Int) (xs : List Int) (w : World) (hx : xs.length = 121) (h : DBX w B r d m xs) (h0 : 0 ≤ r) (h1 : r ≤ 200) :
    Calls Try.prog 109 #[.pointer (some ⟨B, 0, none⟩)] w (CompPost B r d m w) := by
  have H := Lib.hid h
  have HX := Lib.hid hx
  clear h hx
  go_enter Try.func109, Try.ntmps109
  go_wp2_with fail
  go_loopw [2, 4] (fun v i wr => ∃ k : Nat, k ≤ 121 ∧ i = .int .i64 k ∧ v = .int .i64 (disc r k) ∧ Hid (DBX wr B r d m (discs r k ++ xs.drop k)) ∧ Hid (Only B w wr)) (fun _ i _ => 121 - (intOf i).toNat)
  case atStart => exact ⟨0, by omega, rfl, rfl, Lib.hid (by simpa [discs] using H.out), Lib.hid (Only.refl _ _)⟩
  case round =>
    obtain ⟨k, hk, rfl, rfl, HB, HO⟩ := hrel
    by_cases hlt : k < 121
    · have hr := HB.out.rate
      have hy := HB.out.at k (by rw [List.length_append, discs_len, List.length_drop, HX.out]; omega)
      have hf := HB.out.free (4 + k)
      obtain ⟨u, hu⟩ : ∃ u, (discs r k ++ xs.drop k).getD k 0 = u := ⟨_, rfl⟩
      rw [hu] at hy
      clear hu
      obtain ⟨b1, b2⟩ := disc_bd r h0 k
      have hq := disc_q r h0 k
      obtain ⟨D, hD⟩ : ∃ D, disc r k = D := ⟨_, rfl⟩
      rw [hD] at b1 b2 hq ⊢
      have HD := Lib.hid hD
      clear hD
      have hB := HB.out.setAt k D
      have hr2 := hB.rate
      have HB2 := Lib.hid hB
      clear hB
      go_wp2_with fail
      go_roundw
      case rel => exact ⟨k + 1, by omega, by go_num, by first | rfl | go_num, Lib.hid (by have := HB2.out; rw [← HD.out, discs_set r k xs (by rw [HX.out]; exact hlt), HD.out] at this; exact this), Lib.hid (HO.out.setCell (p := ⟨B, 4 + k, none⟩) rfl _)⟩
      case measure => simp [intOf]; omega
    · go_wp2_with fail
      go_end0
      obtain rfl : k = 121 := by omega
      have hb := HB.out
      rw [List.drop_of_length_le (by rw [HX.out]; omega), List.append_nil] at hb
      exact ⟨rfl, hb, HO.out⟩

/-- what is left behind: the discounts of the block are computed; nothing else has turned -/
def OncePost (B : Nat) (r : Int) (w : World) (e : Ending) (w' : World) : Prop := e = .returned (.tuple #[]) ∧ DBX w' B r 1 0 (discs r 121) ∧ Only B w w'

theorem slow_any (B : Nat) (r : Int) (xs : List Int) (w : World) (hx : xs.length = 121) (h : DBX w B r 0 0 xs) (h0 : 0 ≤ r) (h1 : r ≤ 200) :
    Calls Try.prog 113 #[.pointer (some ⟨B, 1, none⟩), .func (.func 109) #[.pointer (some ⟨B, 0, none⟩)] #[]] w (OncePost B r w) := by
  have H := Lib.hid h
  have H1 := Lib.hid (h.setLock 1)
  have hl := run_call_load (P := Try.prog) Try.func114 (by kernel_rfl) (by kernel_rfl) (by kernel_rfl) .u32 (by kernel_rfl) (h.setLock 1).done
  have hnot : ∀ (x : Bool) (w : World), (Op.unary .not (.bool x)).run Try.prog w = .ok (.bool (!x)) w := fun _ _ => rfl
  have hk := h.lock
  have hz := h.free 2
  clear h
  go_enter_defers Try.func113, Try.ntmps113
  go_wp2_with (first | (go_at_call 115; refine (lock_free ⟨B, 2, none⟩ _ hk hz).mono ?_; rintro e w' ⟨rfl, rfl⟩) | (go_at_call 112; go_in) | (go_at_call 109; refine (compute_any B r 0 1 xs _ hx H1.out h0 h1).mono ?_; rintro e w2 ⟨rfl, hb, ho⟩))
  have HB := Lib.hid hb
  have HO := Lib.hid (((Only.refl B w).setCell (p := ⟨B, 2, none⟩) rfl (.int .i32 1)).trans ho)
  clear hb ho
  refine leaves_cons (f := 117) (args := #[.pointer (some ⟨B, 1, none⟩), .bool true]) (by simp) (by simp [go_sem]) ?_
  refine (store_deferred ⟨B, 1, none⟩ (.int .u32 0) .returning _ HB.out.done (HB.out.free 1)).mono ?_
  rintro e u' w'' ⟨rfl, rfl, rfl⟩
  refine leaves_cons (f := 116) (args := #[.pointer (some ⟨B, 2, none⟩)]) (by simp [settle]) (by simp [go_sem]) ?_
  refine (unlock_deferred ⟨B, 2, none⟩ _ _ (HB.out.drew.setDone 1).lock ((HB.out.drew.setDone 1).free 2)).mono ?_
  rintro e u' w'' ⟨rfl, rfl, rfl⟩
  have HF := Lib.hid ((HB.out.drew.setDone 1).setLock 0)
  have HG := Lib.hid ((HO.out.drew.setCell (p := ⟨B, 1, none⟩) rfl (.int .u32 1)).setCell (p := ⟨B, 2, none⟩) rfl (.int .i32 0))
  simp only [Leaves, settle, results, Try.results113]
  exact ⟨_, by simp, rfl, HF.out, HG.out⟩

theorem do_any (B : Nat) (r d : Int) (xs : List Int) (w : World) (hx : xs.length = 121) (h : DBX w B r d 0 xs) (hd : d = 0 ∨ d = 1 ∧ xs = discs r 121) (h0 : 0 ≤ r) (h1 : r ≤ 200) :
    Calls Try.prog 108 #[.pointer (some ⟨B, 1, none⟩), .func (.func 109) #[.pointer (some ⟨B, 0, none⟩)] #[]] w (OncePost B r w) := by
  have hl := run_call_load (P := Try.prog) Try.func114 (by kernel_rfl) (by kernel_rfl) (by kernel_rfl) .u32 (by kernel_rfl) h.done
  have hnot : ∀ (x : Bool) (w : World), (Op.unary .not (.bool x)).run Try.prog w = .ok (.bool (!x)) w := fun _ _ => rfl
  have H := Lib.hid h
  clear h
  rcases hd with rfl | ⟨rfl, hd⟩
  · go_enter Try.func108, Try.ntmps108
    go_wp2_with (first | (go_at_call 113; refine (slow_any B r xs _ hx H.out h0 h1).mono ?_; rintro e w2 ⟨rfl, hb, ho⟩) | (go_at_call 112; go_in))
    go_end0
    exact ⟨rfl, hb, ho⟩
  · have HD := Lib.hid hd
    clear hd
    have hn : ((1 : Int) != 0) = true := rfl
    go_enter Try.func108, Try.ntmps108
    go_wp2
    go_end0
    exact ⟨rfl, HD.out ▸ H.out, Only.refl _ _⟩

/-- block B holds the discounts of rate r, computed or not yet -/
def DB (w : World) (B : Nat) (r : Int) : Prop := ∃ (d : Int) (xs : List Int), xs.length = 121 ∧ DBX w B r d 0 xs ∧ (d = 0 ∨ d = 1 ∧ xs = discs r 121)

def AfterPost (B : Nat) (r v : Int) (w : World) (e : Ending) (w' : World) : Prop := e = .returned (.int .i64 v) ∧ DB w' B r ∧ Only B w w'

theorem after_any (B : Nat) (r : Int) (k : Nat) (w : World) (h : DB w B r) (h0 : 0 ≤ r) (h1 : r ≤ 200) (hk : k ≤ 120) :
    Calls Try.prog 104 #[.pointer (some ⟨B, 0, none⟩), .int .i64 k] w (AfterPost B r (disc r k) w) := by
  obtain ⟨d, xs, hx, hb, hd⟩ := h
  have H := Lib.hid hb
  clear hb
  have hmf : ∀ (fn : Fn) (first cap : Array Value) (w : World), (Instr.makeFunc fn first cap).run Try.prog w = .ok (.func fn first cap) w := fun _ _ _ _ => rfl
  go_enter Try.func104, Try.ntmps104
  go_wp2_with fail
  refine (do_any B r d xs _ hx H.out hd h0 h1).mono ?_
  rintro e w2 ⟨rfl, hb, ho⟩
  have hy := hb.at k (by rw [discs_len]; omega)
  rw [discs_get r 121 k (by omega)] at hy
  have HB := Lib.hid hb
  have HO := Lib.hid ho
  clear hb ho
  obtain ⟨D, hD⟩ : ∃ D, disc r k = D := ⟨_, rfl⟩
  rw [hD] at hy
  have HD := Lib.hid hD
  clear hD
  go_wp2
  go_ret
  exact ⟨ret_int HD.out.symm, ⟨1, discs r 121, discs_len r 121, HB.out, .inr ⟨rfl, rfl⟩⟩, HO.out⟩

end Go.Proofs.Ytmcagpcldjopjaa

/- Sums of discounts; DiscountOf and CertainAnnuity of the program and of its model: one Lean function for both. -/
namespace Go.Proofs.Ytmcagpcldjopjaa
open Go.ChangeShapes Go.WideShapes Go.ChangeAt Go.RowKit
set_option linter.unusedVariables false
set_option maxRecDepth 100000

/-- the sum of the discounts after m to m + n - 1 years -/
def dsum (r : Int) (m : Nat) : Nat → Int
  | 0 => 0
  | n + 1 => dsum r m n + disc r (m + n)

theorem dsum_bd (r : Int) (h : 0 ≤ r) (m n : Nat) : 0 ≤ dsum r m n ∧ dsum r m n ≤ n * 1000000000 := by
  induction n with
  | zero => simp [dsum]
  | succ n ih =>
    obtain ⟨h1, h2⟩ := disc_bd r h (m + n)
    rw [dsum]
    omega

/-- the walks' form of a step of a sum: both terms told -/
theorem dsum_step (r : Int) (h : 0 ≤ r) (m n : Nat) (hn : n ≤ 1000) : ∃ s d : Int, dsum r m n = s ∧ disc r (m + n) = d ∧ dsum r m (n + 1) = s + d ∧ 0 ≤ s ∧ s ≤ 1000000000000 ∧ 0 ≤ d ∧ d ≤ 1000000000 := by
  obtain ⟨h1, h2⟩ := disc_bd r h (m + n)
  obtain ⟨h3, h4⟩ := dsum_bd r h m n
  exact ⟨_, _, rfl, rfl, rfl, h3, by omega, h1, h2⟩

theorem sdisc_any (r : Int) (k : Nat) (w : World) (h0 : 0 ≤ r) (h1 : r ≤ 200) (hk : k ≤ 1000) :
    Calls Try.prog 89 #[.int .i64 r, .int .i64 k] w fun e w' => e = .returned (.int .i64 (disc r k)) ∧ w = w' := by
  go_enter Try.func89, Try.ntmps89
  go_wp2_with fail
  go_loopw [5, 6] (fun v i wr => ∃ j : Nat, j ≤ k ∧ i = .int .i64 j ∧ v = .int .i64 (disc r j) ∧ wr = w) (fun _ i _ => k - (intOf i).toNat)
  case atStart => exact ⟨0, by omega, rfl, rfl, rfl⟩
  case round =>
    obtain ⟨j, hj, rfl, rfl, rfl⟩ := hrel
    by_cases hlt : j < k
    · obtain ⟨b1, b2⟩ := disc_bd r h0 j
      have hq := disc_q r h0 j
      obtain ⟨D, hD⟩ : ∃ D, disc r j = D := ⟨_, rfl⟩
      rw [hD] at b1 b2 hq ⊢
      clear hD
      go_wp2_with fail
      go_roundw
      case rel => exact ⟨j + 1, by omega, by go_num, by first | rfl | go_num, by first | rfl | trivial⟩
      case measure => simp [intOf]; omega
    · go_wp2_with fail
      go_ret
      obtain rfl : j = k := by omega
      exact ⟨rfl, rfl⟩

theorem sann_any (r : Int) (m n : Nat) (w : World) (h0 : 0 ≤ r) (h1 : r ≤ 200) (hm : m + n ≤ 1000) :
    Calls Try.prog 68 #[.int .i64 r, .int .i64 m, .int .i64 n] w fun e w' => e = .returned (.int .i64 (dsum r m n)) ∧ w = w' := by
  go_enter Try.func68, Try.ntmps68
  go_wp2_with fail
  go_loopw [7, 8] (fun v i wr => ∃ j : Nat, j ≤ n ∧ i = .int .i64 ((m + j : Nat) : Int) ∧ v = .int .i64 (dsum r m j) ∧ wr = w) (fun _ i _ => m + n - (intOf i).toNat)
  case atStart => exact ⟨0, by omega, rfl, rfl, rfl⟩
  case round =>
    obtain ⟨j, hj, rfl, rfl, rfl⟩ := hrel
    by_cases hlt : j < n
    · obtain ⟨s, d, hs, hd, he, b1, b2, b3, b4⟩ := dsum_step r h0 m j (by omega)
      rw [hs]
      have HE := Lib.hid he
      have HD := Lib.hid hd
      clear hs he hd
      go_wp2_with fail
      refine (sdisc_any r (m + j) _ h0 h1 (by omega)).mono ?_
      rintro e w' ⟨rfl, rfl⟩
      rw [HD.out]
      go_wp2_with fail
      go_roundw
      case rel => exact ⟨j + 1, by omega, by go_num, by first | (rw [HE.out]; go_num) | (rw [HE.out]), by first | rfl | trivial⟩
      case measure => simp [intOf]; omega
    · go_wp2_with fail
      go_ret
      obtain rfl : j = n := by omega
      exact ⟨rfl, rfl⟩

def SumPost (B : Nat) (r v : Int) (w : World) (e : Ending) (w' : World) : Prop := e = .returned (.int .i64 v) ∧ DB w' B r ∧ Only B w w'

theorem isum_any (B : Nat) (r : Int) (m n : Nat) (la : Int) (w : World) (h : DB w B r) (h0 : 0 ≤ r) (h1 : r ≤ 200) (hm : m + n ≤ 121) (hla : la = (m : Int) + n - 1) :
    Calls Try.prog 92 #[.pointer (some ⟨B, 0, none⟩), .int .i64 m, .int .i64 la] w (SumPost B r (dsum r m n) w) := by
  have H := Lib.hid h
  clear h
  subst hla
  go_enter Try.func92, Try.ntmps92
  go_wp2_with fail
  go_loopw [7, 8] (fun v i wr => ∃ j : Nat, j ≤ n ∧ i = .int .i64 ((m + j : Nat) : Int) ∧ v = .int .i64 (dsum r m j) ∧ Hid (DB wr B r) ∧ Hid (Only B w wr)) (fun _ i _ => m + n - (intOf i).toNat)
  case atStart => exact ⟨0, by omega, rfl, rfl, H, Lib.hid (Only.refl _ _)⟩
  case round =>
    obtain ⟨j, hj, rfl, rfl, HB, HO⟩ := hrel
    by_cases hlt : j < n
    · obtain ⟨s, d, hs, hd, he, b1, b2, b3, b4⟩ := dsum_step r h0 m j (by omega)
      rw [hs]
      have HE := Lib.hid he
      have HD := Lib.hid hd
      clear hs he hd
      go_wp2_with fail
      refine (after_any B r (m + j) _ HB.out h0 h1 (by omega)).mono ?_
      rintro e w' ⟨rfl, hb, ho⟩
      have HB2 := Lib.hid hb
      have HO2 := Lib.hid (HO.out.trans ho)
      clear hb ho
      rw [HD.out]
      go_wp2_with fail
      go_roundw
      case rel =>
        exact ⟨j + 1, by omega, by go_num, by first | (rw [HE.out]; go_num) | (rw [HE.out]), HB2, HO2⟩
      case measure => simp [intOf]; omega
    · go_wp2_with fail
      go_ret
      obtain rfl : j = n := by omega
      exact ⟨rfl, HB.out, HO.out⟩

/-! ### the tests of the arguments -/

def rateB (r : Int) : Bool := inB r 0 200

def termB (n : Int) : Bool := inB n 0 120

theorem isRate_any (r : Int) (w : World) : Calls Try.prog 90 #[.int .i64 r] w fun e w' => e = .returned (.bool (rateB r)) ∧ w = w' := by
  go_enter Try.func90, Try.ntmps90
  go_wp2_with (go_at_call 70; refine (within_any _ _ _ _).mono ?_; rintro e w' ⟨rfl, rfl⟩)
  go_ret
  exact ⟨rfl, rfl⟩

theorem isTerm_any (n : Int) (w : World) : Calls Try.prog 91 #[.int .i64 n] w fun e w' => e = .returned (.bool (termB n)) ∧ w = w' := by
  go_enter Try.func91, Try.ntmps91
  go_wp2_with (go_at_call 70; refine (within_any _ _ _ _).mono ?_; rintro e w' ⟨rfl, rfl⟩)
  go_ret
  exact ⟨rfl, rfl⟩

theorem sRate_any (r : Int) (w : World) : Calls Try.prog 103 #[.int .i64 r] w fun e w' => e = .returned (.bool (rateB r)) ∧ w = w' := by
  go_enter Try.func103, Try.ntmps103
  go_wp2_with (go_at_call 74; refine (in_any _ _ _ _).mono ?_; rintro e w' ⟨rfl, rfl⟩)
  go_ret
  exact ⟨rfl, rfl⟩

def amtB (n : Int) : Bool := inB n 0 1000000000

/-! ### new discounts -/

/-- no discounts yet -/
def z121 : List Int := List.replicate 121 0

theorem zero_dsc : Try.zeroCells112 = dcells 0 0 0 z121 := by kernel_rfl

theorem zero_set (r : Int) : Try.zeroCells112.toList.set 0 (.int .i64 r) = (dcells r 0 0 z121).toList := by
  rw [zero_dsc]; rfl

theorem dcells_one (r d m : Int) (xs : List Int) : (dcells r d m xs).all (·.oneCell') = true := by
  simp [dcells, Value.oneCell']

theorem store_dsc (r : Int) (w : World) : (storeCells ⟨w.heap.size, 0, none⟩ (Try.zeroCells112.toList.set 0 (.int .i64 r))).run Try.prog (w.alloc (.cells Try.zeroCells112 112)) = .ok () (w.alloc (.cells (dcells r 0 0 z121) 112)) := by
  rw [zero_set]
  exact run_storeCells_new w 112 _ _ (by rw [show (dcells r 0 0 z121).size = 125 by simp [dcells, z121]]; kernel_rfl) (by rw [zero_dsc]; simp [dcells, z121]) (dcells_one _ _ _ _)

theorem db_new (r : Int) (w : World) : DB (w.alloc (.cells (dcells r 0 0 z121) 112)) w.heap.size r := by
  refine ⟨0, z121, by simp [z121], ?_, .inl rfl⟩
  unfold DBX
  show (w.heap.push _)[w.heap.size]? = _
  simp

theorem new_below {w w' : World} {o : Obj} (h : Only w.heap.size (w.alloc o) w') : Below w.heap.size w w' :=
  ((Below.refl w.heap.size w).alloc (Nat.le_refl _) _).trans (h.below (Nat.le_refl _))

/-! ### DiscountOf and CertainAnnuity -/

def rtB (r n : Int) : Bool := rateB r && termB n

def rtE (r n : Int) : Int := if rtB r n then 0 else 2

def doV (r n : Int) : Int := if rtB r n then disc r n.toNat else 0

def caV (r n : Int) : Int := if rtB r n then dsum r 0 n.toNat else 0

theorem rtB_iff (r n : Int) : rtB r n = true ↔ (0 ≤ r ∧ r ≤ 200) ∧ (0 ≤ n ∧ n ≤ 120) := by
  unfold rtB rateB termB; rw [Bool.and_eq_true, inB_iff, inB_iff]

theorem ca_impl (r n : Int) (w : World) : Calls Try.prog 66 #[.int .i64 r, .int .i64 n] w fun e w' => e = .returned (.tuple #[.int .i64 (caV r n), .int .i64 (rtE r n)]) ∧ Below w.heap.size w w' := by
  by_cases h1 : rateB r = true
  · by_cases h2 : termB n = true
    · obtain ⟨r0, r1⟩ := (inB_iff _ _ _).1 h1
      obtain ⟨n0, n1⟩ := (inB_iff _ _ _).1 h2
      obtain ⟨k, rfl⟩ : ∃ k : Nat, n = k := ⟨n.toNat, by omega⟩
      have hst := store_dsc r w
      go_enter Try.func66, Try.ntmps66
      go_wp2_with (first | (go_at_call 90; refine (isRate_any _ _).mono ?_; rintro e w' ⟨rfl, rfl⟩) | (go_at_call 91; refine (isTerm_any _ _).mono ?_; rintro e w' ⟨rfl, rfl⟩) | (go_at_call 92; refine (isum_any w.heap.size r 0 k _ _ (db_new r w) r0 r1 (by omega) (by omega)).mono ?_; rintro e w2 ⟨rfl, hb, ho⟩))
      go_ret2
      exact ⟨ret_ii (by simp [caV, rtB, h1, h2]) (by simp [rtE, rtB, h1, h2]), new_below ho⟩
    · go_enter Try.func66, Try.ntmps66
      go_wp2_with (first | (go_at_call 90; refine (isRate_any _ _).mono ?_; rintro e w' ⟨rfl, rfl⟩) | (go_at_call 91; refine (isTerm_any _ _).mono ?_; rintro e w' ⟨rfl, rfl⟩))
      go_ret2
      exact ⟨ret_ii (by simp [caV, rtB, h1, h2]) (by simp [rtE, rtB, h1, h2]), Below.refl _ _⟩
  · go_enter Try.func66, Try.ntmps66
    go_wp2_with (first | (go_at_call 90; refine (isRate_any _ _).mono ?_; rintro e w' ⟨rfl, rfl⟩) | (go_at_call 91; refine (isTerm_any _ _).mono ?_; rintro e w' ⟨rfl, rfl⟩))
    go_ret2
    exact ⟨ret_ii (by simp [caV, rtB, h1]) (by simp [rtE, rtB, h1]), Below.refl _ _⟩

end Go.Proofs.Ytmcagpcldjopjaa

/- Columns: their plain facts, and the model's functions. -/
namespace Go.Proofs.Ytmcagpcldjopjaa
open Go.ChangeShapes Go.WideShapes Go.ChangeAt Go.RowKit
set_option linter.unusedVariables false
set_option maxRecDepth 100000

/-- the sum of n values of F, from k on -/
def fsum (F : Nat → Int) (k : Nat) : Nat → Int
  | 0 => 0
  | n + 1 => fsum F k n + F (k + n)

theorem fsum_head (F : Nat → Int) (k n : Nat) : fsum F k (n + 1) = F k + fsum F (k + 1) n := by
  induction n with
  | zero => simp [fsum]
  | succ n ih => rw [fsum, ih, fsum, show k + 1 + n = k + (n + 1) by omega]; omega

theorem fsum_bd (F : Nat → Int) (h : ∀ j, 0 ≤ F j ∧ F j ≤ 1000000000000000) (k n : Nat) : 0 ≤ fsum F k n ∧ fsum F k n ≤ n * 1000000000000000 := by
  induction n with
  | zero => simp [fsum]
  | succ n ih =>
    have := h (k + n)
    rw [fsum]
    omega

theorem fsum_more (F : Nat → Int) (L k n : Nat) (h : ∀ j, L ≤ j → F j = 0) (hn : L ≤ k + n) (d : Nat) : fsum F k (n + d) = fsum F k n := by
  induction d with
  | zero => rfl
  | succ d ih => rw [show n + (d + 1) = (n + d) + 1 by omega, fsum, ih, h _ (by omega)]; omega

theorem fsum_far (F : Nat → Int) (L k n m : Nat) (h : ∀ j, L ≤ j → F j = 0) (hn : L ≤ k + n) (hm : L ≤ k + m) : fsum F k n = fsum F k m := by
  by_cases hl : n ≤ m
  · obtain ⟨d, rfl⟩ : ∃ d, m = n + d := ⟨m - n, by omega⟩
    exact (fsum_more F L k n h hn d).symm
  · obtain ⟨d, rfl⟩ : ∃ d, n = m + d := ⟨n - m, by omega⟩
    exact fsum_more F L k m h hm d

/-- the columns, k years after the first age -/
def cD (r : Int) (xs : List Int) (k : Nat) : Int := xs.getD k 0 * disc r k
def cC (r : Int) (xs : List Int) (k : Nat) : Int := (xs.getD k 0 - xs.getD (k + 1) 0) * disc r (k + 1)
def cN (r : Int) (xs : List Int) (k : Nat) : Int := fsum (cD r xs) k 152
def cM (r : Int) (xs : List Int) (k : Nat) : Int := fsum (cC r xs) k 152

theorem prod_bd (u d : Int) (u0 : 0 ≤ u) (u1 : u ≤ 1000000) (d0 : 0 ≤ d) (d1 : d ≤ 1000000000) : 0 ≤ u * d ∧ u * d ≤ 1000000000000000 := by
  have a := Int.mul_le_mul u1 d1 d0 (by omega)
  have b := Int.mul_nonneg u0 d0
  omega

theorem LTab.cD_bd {f : Int} {xs : List Int} (h : LTab f xs) (r : Int) (r0 : 0 ≤ r) (k : Nat) : 0 ≤ cD r xs k ∧ cD r xs k ≤ 1000000000000000 := by
  obtain ⟨d0, d1⟩ := disc_bd r r0 k
  exact prod_bd _ _ (h.nonneg k) (h.le k) d0 d1

theorem LTab.cC_bd {f : Int} {xs : List Int} (h : LTab f xs) (r : Int) (r0 : 0 ≤ r) (k : Nat) : 0 ≤ cC r xs k ∧ cC r xs k ≤ 1000000000000000 := by
  obtain ⟨d0, d1⟩ := disc_bd r r0 (k + 1)
  have a := h.step k
  have b := h.le k
  have c := h.nonneg (k + 1)
  exact prod_bd _ _ (by omega) (by omega) d0 d1

theorem LTab.cD_far {f : Int} {xs : List Int} (h : LTab f xs) (r : Int) (k : Nat) (hk : xs.length - 1 ≤ k) : cD r xs k = 0 := by
  unfold cD; rw [h.last k (by omega)]; simp

theorem LTab.cC_far {f : Int} {xs : List Int} (h : LTab f xs) (r : Int) (k : Nat) (hk : xs.length - 1 ≤ k) : cC r xs k = 0 := by
  unfold cC; rw [h.last k (by omega), h.last (k + 1) (by omega)]; simp

theorem LTab.short {f : Int} {xs : List Int} (h : LTab f xs) : xs.length - 1 ≤ 119 := by have := h.2.1; omega

theorem LTab.cN_step {f : Int} {xs : List Int} (h : LTab f xs) (r : Int) (k : Nat) : cN r xs k = cN r xs (k + 1) + cD r xs k := by
  have hs := h.short
  unfold cN
  rw [fsum_far (cD r xs) (xs.length - 1) k 152 153 (h.cD_far r) (by omega) (by omega), fsum_head]
  omega

theorem LTab.cM_step {f : Int} {xs : List Int} (h : LTab f xs) (r : Int) (k : Nat) : cM r xs k = cM r xs (k + 1) + cC r xs k := by
  have hs := h.short
  unfold cM
  rw [fsum_far (cC r xs) (xs.length - 1) k 152 153 (h.cC_far r) (by omega) (by omega), fsum_head]
  omega

theorem LTab.cN_bd {f : Int} {xs : List Int} (h : LTab f xs) (r : Int) (r0 : 0 ≤ r) (k : Nat) : 0 ≤ cN r xs k ∧ cN r xs k ≤ 152000000000000000 := by
  have := fsum_bd (cD r xs) (h.cD_bd r r0) k 152
  unfold cN; omega

theorem LTab.cM_bd {f : Int} {xs : List Int} (h : LTab f xs) (r : Int) (r0 : 0 ≤ r) (k : Nat) : 0 ≤ cM r xs k ∧ cM r xs k ≤ 152000000000000000 := by
  have := fsum_bd (cC r xs) (h.cC_bd r r0) k 152
  unfold cM; omega

theorem LTab.cN_far {f : Int} {xs : List Int} (h : LTab f xs) (r : Int) (k : Nat) (hk : xs.length - 1 ≤ k) : cN r xs k = 0 := by
  unfold cN; rw [fsum_far (cD r xs) (xs.length - 1) k 152 0 (h.cD_far r) (by omega) (by omega)]; rfl

theorem LTab.cM_far {f : Int} {xs : List Int} (h : LTab f xs) (r : Int) (k : Nat) (hk : xs.length - 1 ≤ k) : cM r xs k = 0 := by
  unfold cM; rw [fsum_far (cC r xs) (xs.length - 1) k 152 0 (h.cC_far r) (by omega) (by omega)]; rfl

/-- a sum that ends with the table -/
theorem LTab.cN_end {f : Int} {xs : List Int} (h : LTab f xs) (r : Int) (k n : Nat) (hn : xs.length - 1 ≤ k + n) : cN r xs k = fsum (cD r xs) k n :=
  fsum_far _ (xs.length - 1) _ _ _ (h.cD_far r) (by have := h.short; omega) hn

theorem LTab.cM_end {f : Int} {xs : List Int} (h : LTab f xs) (r : Int) (k n : Nat) (hn : xs.length - 1 ≤ k + n) : cM r xs k = fsum (cC r xs) k n :=
  fsum_far _ (xs.length - 1) _ _ _ (h.cC_far r) (by have := h.short; omega) hn

theorem sdisc_at (r n : Int) (k : Nat) (w : World) (hn : n = (k : Int)) (h0 : 0 ≤ r) (h1 : r ≤ 200) (hk : k ≤ 1000) :
    Calls Try.prog 89 #[.int .i64 r, .int .i64 n] w fun e w' => e = .returned (.int .i64 (disc r k)) ∧ w = w' := by
  subst hn; exact sdisc_any r k w h0 h1 hk

/-- the code of a table, a rate and an age -/
def coE (r f : Int) (xs : List Int) (x : Int) : Int := if ltB f xs = true then (if (rateB r && inB x f 150) = true then 0 else 2) else 1

theorem coE_iff {r f : Int} {xs : List Int} {x : Int} : coE r f xs x = 0 ↔ LTab f xs ∧ (0 ≤ r ∧ r ≤ 200) ∧ f ≤ x ∧ x ≤ 150 := by
  unfold coE rateB; rw [← ltB_iff, ← inB_iff, ← inB_iff]
  cases ltB f xs <;> cases inB r 0 200 <;> cases inB x f 150 <;> simp

set_option maxHeartbeats 400000 in
theorem scode_any (r f : Int) (xs : List Int) (a : Option Addr) (l c : Nat) (x : Int) (w : World) (h : Ints w a l xs) :
    Calls Try.prog 88 #[.agg #[.int .i64 f, .slice a l c], .int .i64 r, .int .i64 x] w fun e w' => e = .returned (.int .i64 (coE r f xs x)) ∧ Below w.heap.size w w' := by
  have H := Lib.hid h
  clear h
  by_cases h1 : ltB f xs = true
  · by_cases h2 : rateB r = true
    · by_cases h3 : inB x f 150 = true
      · have HR : Hid (coE r f xs x = 0) := Lib.hid (by simp [coE, h1, h2, h3])
        go_enter Try.func88, Try.ntmps88
        go_wp2_with (first | (go_at_call 74; refine (in_any _ _ _ _).mono ?_; rintro e w' ⟨rfl, rfl⟩) | (go_at_call 103; refine (sRate_any _ _).mono ?_; rintro e w' ⟨rfl, rfl⟩) | (go_at_call 84; refine (isL_spec f xs _ _ _ _ (H.out.on (box_b _ _))).mono ?_; rintro e w1 ⟨rfl, hb⟩; obtain ⟨hB, hc0, hc1⟩ := box2 hb; have HB := Lib.hid hB; clear hB hb))
        go_ret
        exact ⟨ret_int HR.out.symm, HB.out⟩
      · have HR : Hid (coE r f xs x = 2) := Lib.hid (by simp [coE, h1, h2, h3])
        go_enter Try.func88, Try.ntmps88
        go_wp2_with (first | (go_at_call 74; refine (in_any _ _ _ _).mono ?_; rintro e w' ⟨rfl, rfl⟩) | (go_at_call 103; refine (sRate_any _ _).mono ?_; rintro e w' ⟨rfl, rfl⟩) | (go_at_call 84; refine (isL_spec f xs _ _ _ _ (H.out.on (box_b _ _))).mono ?_; rintro e w1 ⟨rfl, hb⟩; obtain ⟨hB, hc0, hc1⟩ := box2 hb; have HB := Lib.hid hB; clear hB hb))
        go_ret
        exact ⟨ret_int HR.out.symm, HB.out⟩
    · have HR : Hid (coE r f xs x = 2) := Lib.hid (by simp [coE, h1, h2])
      go_enter Try.func88, Try.ntmps88
      go_wp2_with (first | (go_at_call 74; refine (in_any _ _ _ _).mono ?_; rintro e w' ⟨rfl, rfl⟩) | (go_at_call 103; refine (sRate_any _ _).mono ?_; rintro e w' ⟨rfl, rfl⟩) | (go_at_call 84; refine (isL_spec f xs _ _ _ _ (H.out.on (box_b _ _))).mono ?_; rintro e w1 ⟨rfl, hb⟩; obtain ⟨hB, hc0, hc1⟩ := box2 hb; have HB := Lib.hid hB; clear hB hb))
      go_ret
      exact ⟨ret_int HR.out.symm, HB.out⟩
  · have h1' : ltB f xs = false := by simpa using h1
    have HR : Hid (coE r f xs x = 1) := Lib.hid (by simp [coE, h1'])
    clear h1
    go_enter Try.func88, Try.ntmps88
    go_wp2_with (go_at_call 84; refine (isL_spec f xs _ _ _ _ (H.out.on (box_b _ _))).mono ?_; rintro e w1 ⟨rfl, hb⟩; obtain ⟨hB, hc0, hc1⟩ := box2 hb; have HB := Lib.hid hB; clear hB hb)
    go_ret
    exact ⟨ret_int HR.out.symm, HB.out⟩

set_option maxHeartbeats 400000 in
theorem sD_any (r f : Int) (xs : List Int) (a : Option Addr) (l c : Nat) (x : Int) (w : World) (h : Ints w a l xs) (ht : LTab f xs) (r0 : 0 ≤ r) (r1 : r ≤ 200) (x0 : f ≤ x) (x1 : x ≤ 151) :
    Calls Try.prog 64 #[.agg #[.int .i64 f, .slice a l c], .int .i64 r, .int .i64 x] w fun e w' => e = .returned (.int .i64 (cD r xs (x - f).toNat)) ∧ Below w.heap.size w w' := by
  have H := Lib.hid h
  have HT := Lib.hid ht
  obtain ⟨f0, f1⟩ := ht.1
  obtain ⟨u, hu⟩ : ∃ u, lvs f xs x = u := ⟨_, rfl⟩
  have hub := ht.lvs_bd x
  rw [hu] at hub
  obtain ⟨u0, u1⟩ := hub
  obtain ⟨k, hk⟩ : ∃ k, (x - f).toNat = k := ⟨_, rfl⟩
  have hkx : f + (k : Int) = x := by omega
  obtain ⟨d0, d1⟩ := disc_bd r r0 k
  have HU := Lib.hid hu
  have HD : Hid (cD r xs k = u * disc r k) := Lib.hid (by rw [← hu, ← hk]; rfl)
  rw [hk]
  clear h ht hu
  by_cases hk2 : (120 : Int) < x - f
  · have HZ : Hid (cD r xs k = 0) := Lib.hid (HT.out.cD_far r k (by have := HT.out.short; omega))
    go_enter Try.func64, Try.ntmps64
    go_wp2_with fail
    go_ret
    exact ⟨ret_int HZ.out.symm, box_b _ _⟩
  · have C1 : Hid (∀ W, Hid (Below w.heap.size w W) → Calls Try.prog 49 #[.agg #[.int .i64 f, .slice a l c], .int .i64 x] W fun e w' => e = .returned (.int .i64 u) ∧ Below W.heap.size W w') :=
      Lib.hid (fun W hW => by have := lives_any f xs a l c x W (H.out.on hW.out) f0 f1 x0 (by omega); rw [HU.out] at this; exact this)
    by_cases hz : u = 0
    · have HZ : Hid (cD r xs k = 0) := Lib.hid (by rw [HD.out, hz]; simp)
      have hz2 : (u == 0) = true := by simp [hz]
      clear hz
      go_enter Try.func64, Try.ntmps64
      go_wp2_with fail
      with_reducible refine (C1.out _ (Lib.hid (box_b _ _))).mono ?_
      rintro e w1 ⟨rfl, hb⟩
      obtain ⟨hB, hc0, hc1⟩ := box2 hb
      have HB := Lib.hid hB
      clear hb hB
      go_wp2_with fail
      go_ret
      exact ⟨ret_int HZ.out.symm, HB.out⟩
    · have hz2 : (u == 0) = false := by simp [hz]
      have hp := prod_bd u (disc r k) u0 u1 d0 d1
      obtain ⟨d, hd⟩ : ∃ d, disc r k = d := ⟨_, rfl⟩
      rw [hd] at d0 d1 hp
      obtain ⟨p0, p1⟩ := hp
      have HDD := Lib.hid hd
      clear hz hd
      go_enter Try.func64, Try.ntmps64
      go_wp2_with fail
      with_reducible refine (C1.out _ (Lib.hid (box_b _ _))).mono ?_
      rintro e w1 ⟨rfl, hb⟩
      obtain ⟨hB, hc0, hc1⟩ := box2 hb
      have HB := Lib.hid hB
      clear hb hB
      go_wp2_with fail
      with_reducible refine (C1.out _ HB).mono ?_
      rintro e w2 ⟨rfl, hb⟩
      have hd0 := keep2 hb hc0
      have hd1 := keep2 hb hc1
      have HB2 := Lib.hid (HB.out.trans (hb.mono HB.out.size))
      clear hb hc0 hc1 HB
      go_wp2_with fail
      with_reducible refine (sdisc_at r _ k _ (by omega) r0 r1 (by omega)).mono ?_
      rintro e w3 ⟨rfl, rfl⟩
      rw [HDD.out]
      go_wp2_with fail
      go_ret
      exact ⟨ret_int (by rw [HD.out, HDD.out]), HB2.out⟩

end Go.Proofs.Ytmcagpcldjopjaa

/- Columns: the model's C, N and M. -/
namespace Go.Proofs.Ytmcagpcldjopjaa
open Go.ChangeShapes Go.WideShapes Go.ChangeAt Go.RowKit
set_option linter.unusedVariables false
set_option maxRecDepth 100000

theorem fsum_step (F : Nat → Int) (h : ∀ j, 0 ≤ F j ∧ F j ≤ 1000000000000000) (k n : Nat) (hn : n ≤ 1000) : ∃ s d : Int, fsum F k n = s ∧ F (k + n) = d ∧ fsum F k (n + 1) = s + d ∧ 0 ≤ s ∧ s ≤ 1000000000000000000 ∧ 0 ≤ d ∧ d ≤ 1000000000000000 := by
  obtain ⟨h1, h2⟩ := h (k + n)
  obtain ⟨h3, h4⟩ := fsum_bd F h k n
  exact ⟨_, _, rfl, rfl, rfl, h3, by omega, h1, h2⟩

set_option maxHeartbeats 400000 in
theorem sN_any (r f : Int) (xs : List Int) (a : Option Addr) (l c : Nat) (x : Int) (w : World) (h : Ints w a l xs) (ht : LTab f xs) (r0 : 0 ≤ r) (r1 : r ≤ 200) (x0 : f ≤ x) (x1 : x ≤ 151) :
    Calls Try.prog 63 #[.agg #[.int .i64 f, .slice a l c], .int .i64 r, .int .i64 x] w fun e w' => e = .returned (.int .i64 (cN r xs (x - f).toNat)) ∧ Below w.heap.size w w' := by
  have hl := h.len
  have H := Lib.hid h
  have HT := Lib.hid ht
  obtain ⟨f0, f1⟩ := ht.1
  obtain ⟨l0, l1⟩ := ht.2.1
  have hlf := ht.2.2.1
  rw [hl] at l0 l1 hlf
  obtain ⟨k, hk⟩ : ∃ k, (x - f).toNat = k := ⟨_, rfl⟩
  have hkx : f + (k : Int) = x := by omega
  have HL := Lib.hid hl
  rw [hk]
  clear h ht hl
  go_enter Try.func63, Try.ntmps63
  go_wp2_with fail
  go_loopw [7, 8] (fun v i wr => ∃ j : Nat, j ≤ l ∧ (j = 0 ∨ (k : Int) + j ≤ l - 1) ∧ i = .int .i64 (x + j) ∧ v = .int .i64 (fsum (cD r xs) k j) ∧ wr.cell? ⟨w.heap.size, 0, none⟩ = some (.int .i64 f) ∧ wr.cell? ⟨w.heap.size, 1, none⟩ = some (.slice a l c) ∧ Hid (Below w.heap.size w wr)) (fun _ i _ => (f + l - intOf i).toNat)
  case atStart => exact ⟨0, by omega, .inl rfl, by go_num, rfl, by go_simp, by go_simp, Lib.hid (box_b _ _)⟩
  case round =>
    obtain ⟨j, hj, hjl, rfl, rfl, hc0, hc1, HB⟩ := hrel
    by_cases hlt : x + (j : Int) < f + l - 1
    · go_wp2_with fail
      with_reducible refine (end_spec f xs _ _ _ _ (by omega) f0 (by omega)).mono ?_
      rintro e w1 ⟨rfl, hb⟩
      have hd0 := keep2 hb hc0
      have hd1 := keep2 hb hc1
      have HB1 := Lib.hid (HB.out.trans (hb.mono HB.out.size))
      clear hb hc0 hc1 HB
      go_wp2_with fail
      with_reducible refine (sD_any r f xs _ _ _ _ _ (H.out.on HB1.out) HT.out r0 r1 (by omega) (by omega)).mono ?_
      rintro e w2 ⟨rfl, hb⟩
      have hc0 := keep2 hb hd0
      have hc1 := keep2 hb hd1
      have HB2 := Lib.hid (HB1.out.trans (hb.mono HB1.out.size))
      clear hb hd0 hd1 HB1
      have e1 : (x + (j : Int) - f).toNat = k + j := by omega
      rw [e1]
      obtain ⟨s, d, hs, hd, he, b1, b2, b3, b4⟩ := fsum_step (cD r xs) (HT.out.cD_bd r r0) k j (by omega)
      rw [hs, hd]
      have HE := Lib.hid he
      clear hs he hd e1
      go_wp2_with fail
      go_roundw
      case rel => exact ⟨j + 1, by omega, .inr (by omega), by go_num, by first | (rw [HE.out]; go_num) | (rw [HE.out]), hc0, hc1, HB2⟩
      case measure => simp [intOf]; omega
    · go_wp2_with fail
      with_reducible refine (end_spec f xs _ _ _ _ (by omega) f0 (by omega)).mono ?_
      rintro e w1 ⟨rfl, hb⟩
      have HB1 := Lib.hid (HB.out.trans (hb.mono HB.out.size))
      clear hb hc0 hc1 HB
      have HE : Hid (cN r xs k = fsum (cD r xs) k j) := Lib.hid (HT.out.cN_end r k j (by rw [HL.out]; omega))
      obtain ⟨s, hs⟩ : ∃ s, fsum (cD r xs) k j = s := ⟨_, rfl⟩
      rw [hs]
      have HS := Lib.hid hs
      clear hs
      go_wp2_with fail
      go_ret
      exact ⟨ret_int (by rw [HE.out, HS.out]), HB1.out⟩

end Go.Proofs.Ytmcagpcldjopjaa
