/- sync.Once, one goroutine: the two calls that its slow road defers, and the lock, each a contract of its own. | Discounts: their plain facts, and the value of the program that holds all discounts of a rate, computed once. -/
import Derived.Test.YtnclncglmnbelaaGreatBase
import Derived.Defers
import Derived.Laws.Pointers
import Derived.Laws.NewBlocks
import Derived.ChangeAlike
import Derived.Test.YtnclncglmnbelaaGreatNums
namespace Go.Proofs.YtnclncglmnbelaaGreat
open Go.ChangeShapes Go.WideShapes Go.ChangeAt Go.RowKit
set_option linter.unusedVariables false
set_option maxRecDepth 100000

theorem on_disable (w : World) : (callFunc 146 #[]).run Tryz.prog w = .ok (.value (.tuple #[])) w := run_call_mark0 Tryz.func146 (by kernel_rfl) (by kernel_rfl) (by kernel_rfl) .disable (by kernel_rfl) w

theorem on_enable (w : World) : (callFunc 148 #[]).run Tryz.prog w = .ok (.value (.tuple #[])) w := run_call_mark0 Tryz.func148 (by kernel_rfl) (by kernel_rfl) (by kernel_rfl) .enable (by kernel_rfl) w

theorem on_acquire (a : Addr) (w : World) : (callFunc 149 #[.pointer (some a)]).run Tryz.prog w = .ok (.value (.tuple #[])) w := run_call_marked Tryz.func149 (by kernel_rfl) (by kernel_rfl) (by kernel_rfl) .acquire (by kernel_rfl) a w

theorem on_merge (a : Addr) (w : World) : (callFunc 151 #[.pointer (some a)]).run Tryz.prog w = .ok (.value (.tuple #[])) w := run_call_marked Tryz.func151 (by kernel_rfl) (by kernel_rfl) (by kernel_rfl) .releaseMerge (by kernel_rfl) a w

/-- (*sync/atomic.Bool).Store(true), entered as a deferred call -/
theorem store_deferred (a : Addr) (x : Value) (u : FrameMode) (w : World) (hc : w.cell? a = some x) (hz : w.frozen? a = false) :
    CallsD Tryz.prog 141 #[.pointer (some a), .bool true] u w fun e u' w' => u' = u ∧ (e = .returned (.tuple #[]) ∧ w' = w.drew.setCell a (.int .u32 1)) := by
  have hc' : w.drew.cell? a = some x := by go_simp
  have hz' : w.drew.frozen? a = false := by go_simp
  have hst := run_call_store (P := Tryz.prog) Tryz.func144 (by kernel_rfl) (by kernel_rfl) (by kernel_rfl) (by kernel_rfl) (k := .u32) (y := 1) hc' hz'
  go_enter_d Tryz.func141, Tryz.ntmps141
  go_wp2
  go_region_calls
  all_goals (go_end0; exact ⟨rfl, rfl⟩)

/-- (*sync.Mutex).Unlock, entered as a deferred call, the lock held and nobody waiting -/
theorem unlock_deferred (a : Addr) (u : FrameMode) (w : World) (hc : w.cell? a = some (.int .i32 1)) (hz : w.frozen? a = false) :
    CallsD Tryz.prog 140 #[.pointer (some a)] u w fun e u' w' => u' = u ∧ (e = .returned (.tuple #[]) ∧ w' = w.setCell a (.int .i32 0)) := by
  have hd := on_disable
  have he := on_enable
  have hr := on_merge
  have hadd := run_call_add (P := Tryz.prog) Tryz.func152 (by kernel_rfl) (by kernel_rfl) (by kernel_rfl) .i32 (by kernel_rfl) (y := -1) (s := 0) hc hz (by simp [go_sem]; rfl)
  have hcv := run_convert_to_unsafe (P := Tryz.prog) (src := 188) (dst := 192) Tryz.underlying188 Tryz.underlying192 (by kernel_rfl) hc
  go_enter_d Tryz.func140, Tryz.ntmps140
  go_wp2
  go_end0
  go_wp2
  go_end0
  exact ⟨rfl, rfl⟩

/-- (*sync.Mutex).Lock, the lock free -/
theorem lock_free (a : Addr) (w : World) (hc : w.cell? a = some (.int .i32 0)) (hz : w.frozen? a = false) :
    Calls Tryz.prog 139 #[.pointer (some a)] w fun e w' => e = .returned (.tuple #[]) ∧ w' = w.setCell a (.int .i32 1) := by
  have hd := on_disable
  have he := on_enable
  have ha := on_acquire
  have hcas := run_call_cas_hit (P := Tryz.prog) Tryz.func147 (by kernel_rfl) (by kernel_rfl) (by kernel_rfl) .i32 (by kernel_rfl) (y := 1) hc hz
  have hc' : (w.setCell a (.int .i32 1)).cell? a = some (.int .i32 1) := World.cell?_setCell_same w a _ hc
  have hcv := run_convert_to_unsafe (P := Tryz.prog) (src := 188) (dst := 192) Tryz.underlying188 Tryz.underlying192 (by kernel_rfl) hc'
  go_enter Tryz.func139, Tryz.ntmps139
  go_wp2
  first | go_end0 | (simp only [Exit.inBlock, Exit.then]; refine bodyPost_ret (results_none rfl _ _ _) rfl ?_) | refine bodyPost_ret (results_none rfl _ _ _) rfl ?_
  go_wp2
  go_end0
  exact ⟨rfl, rfl⟩

/-- the discount of rate r after k years -/
def disc (r : Int) : Nat → Int
  | 0 => 1000000000
  | k + 1 => disc r k * 1000 / (1000 + r)

/-- the first n discounts -/
def discs (r : Int) (n : Nat) : List Int := (List.range n).map (disc r)

theorem disc_bd (r : Int) (h : 0 ≤ r) (k : Nat) : 0 ≤ disc r k ∧ disc r k ≤ 1000000000 := by
  induction k with
  | zero => simp [disc]
  | succ k ih =>
    obtain ⟨h1, h2⟩ := ih
    rw [disc]
    refine ⟨Int.ediv_nonneg (by omega) (by omega), ?_⟩
    have h4 : disc r k * 1000 / (1000 + r) ≤ disc r k := by
      rw [← Int.mul_ediv_cancel (disc r k) (show (1000 + r) ≠ 0 by omega)]
      refine Int.ediv_le_ediv (by omega) ?_
      rw [Int.mul_ediv_cancel _ (by omega)]
      exact Int.mul_le_mul_of_nonneg_left (by omega) h1
    omega

theorem disc_le (r : Int) (h : 0 ≤ r) (k : Nat) : disc r (k + 1) ≤ disc r k := by
  obtain ⟨h1, h2⟩ := disc_bd r h k
  rw [disc, ← Int.mul_ediv_cancel (disc r k) (show (1000 + r) ≠ 0 by omega)]
  refine Int.ediv_le_ediv (by omega) ?_
  rw [Int.mul_ediv_cancel _ (by omega)]
  exact Int.mul_le_mul_of_nonneg_left (by omega) h1

theorem disc_q (r : Int) (h : 0 ≤ r) (k : Nat) : IntKind.i64.wrap ((disc r k * 1000).tdiv (1000 + r)) = disc r (k + 1) := by
  obtain ⟨h1, h2⟩ := disc_bd r h k
  obtain ⟨h3, h4⟩ := disc_bd r h (k + 1)
  rw [Int.tdiv_eq_ediv_of_nonneg (by omega)]
  exact IntWalk.i64_in _ (by rw [disc] at h3 h4; omega)

theorem discs_len (r : Int) (n : Nat) : (discs r n).length = n := by simp [discs]

theorem discs_get (r : Int) (n k : Nat) (h : k < n) : (discs r n).getD k 0 = disc r k := by
  simp [discs, List.getD, h]

theorem discs_set (r : Int) (k : Nat) (xs : List Int) (h : k < xs.length) : (discs r k ++ xs.drop k).set k (disc r k) = discs r (k + 1) ++ xs.drop (k + 1) := by
  rw [List.set_append_right _ _ (by rw [discs_len]; omega), discs_len, Nat.sub_self, List.drop_eq_getElem_cons h, List.set_cons_zero]
  simp [discs, List.range_succ]

/-- the cells of the program's discounts: the rate, whether they are computed, the lock, the discounts -/
def dcells (r d m : Int) (xs : List Int) : Array Value := (([Value.int .i64 r, Value.int .u32 d, Value.int .i32 m, Value.int .u32 0] : List Value) ++ xs.map (Value.int .i64)).toArray

def DBX (w : World) (B : Nat) (r d m : Int) (xs : List Int) : Prop := w.heap[B]? = some (.cells (dcells r d m xs) 167 (0, 0))

theorem DBX.lt {w : World} {B : Nat} {r d m : Int} {xs : List Int} (h : DBX w B r d m xs) : B < w.heap.size := by
  unfold DBX at h
  by_cases hb : B < w.heap.size
  · exact hb
  · have : w.heap[B]? = none := by simp; omega
    rw [this] at h; cases h

theorem DBX.rate {w : World} {B : Nat} {r d m : Int} {xs : List Int} (h : DBX w B r d m xs) : w.cell? ⟨B, 0, none⟩ = some (.int .i64 r) := by
  unfold DBX at h
  simp [World.cell?, h, dcells]

theorem DBX.done {w : World} {B : Nat} {r d m : Int} {xs : List Int} (h : DBX w B r d m xs) : w.cell? ⟨B, 1, none⟩ = some (.int .u32 d) := by
  unfold DBX at h
  simp [World.cell?, h, dcells]

theorem DBX.lock {w : World} {B : Nat} {r d m : Int} {xs : List Int} (h : DBX w B r d m xs) : w.cell? ⟨B, 2, none⟩ = some (.int .i32 m) := by
  unfold DBX at h
  simp [World.cell?, h, dcells]

theorem DBX.at {w : World} {B : Nat} {r d m : Int} {xs : List Int} (h : DBX w B r d m xs) (k : Nat) (hk : k < xs.length) : w.cell? ⟨B, 4 + k, none⟩ = some (.int .i64 (xs.getD k 0)) := by
  unfold DBX at h
  rw [Nat.add_comm]
  simp [World.cell?, h, dcells, List.getD, hk]

theorem DBX.free {w : World} {B : Nat} {r d m : Int} {xs : List Int} (h : DBX w B r d m xs) (i : Nat) : w.frozen? ⟨B, i, none⟩ = false := by
  unfold DBX at h
  simp [World.frozen?, h]

theorem DBX.setDone {w : World} {B : Nat} {r d m : Int} {xs : List Int} (h : DBX w B r d m xs) (v : Int) : DBX (w.setCell ⟨B, 1, none⟩ (.int .u32 v)) B r v m xs := by
  have hl := h.lt
  unfold DBX at h ⊢
  rw [Array.getElem?_eq_getElem hl] at h
  have h' : w.heap[B] = .cells (dcells r d m xs) 167 (0, 0) := by simpa using h
  show (w.heap.modify B _)[B]? = _
  rw [Array.getElem?_modify, if_pos rfl, Array.getElem?_eq_getElem hl, h']
  simp [dcells]

theorem DBX.setLock {w : World} {B : Nat} {r d m : Int} {xs : List Int} (h : DBX w B r d m xs) (v : Int) : DBX (w.setCell ⟨B, 2, none⟩ (.int .i32 v)) B r d v xs := by
  have hl := h.lt
  unfold DBX at h ⊢
  rw [Array.getElem?_eq_getElem hl] at h
  have h' : w.heap[B] = .cells (dcells r d m xs) 167 (0, 0) := by simpa using h
  show (w.heap.modify B _)[B]? = _
  rw [Array.getElem?_modify, if_pos rfl, Array.getElem?_eq_getElem hl, h']
  simp [dcells]

theorem DBX.setAt {w : World} {B : Nat} {r d m : Int} {xs : List Int} (h : DBX w B r d m xs) (k : Nat) (v : Int) : DBX (w.setCell ⟨B, 4 + k, none⟩ (.int .i64 v)) B r d m (xs.set k v) := by
  have hl := h.lt
  unfold DBX at h ⊢
  rw [Array.getElem?_eq_getElem hl] at h
  have h' : w.heap[B] = .cells (dcells r d m xs) 167 (0, 0) := by simpa using h
  show (w.heap.modify B _)[B]? = _
  rw [Array.getElem?_modify, if_pos rfl, Array.getElem?_eq_getElem hl, h', Nat.add_comm]
  simp [dcells]

theorem DBX.drew {w : World} {B : Nat} {r d m : Int} {xs : List Int} (h : DBX w B r d m xs) : DBX w.drew B r d m xs := h

theorem DBX.drewN {w : World} {B : Nat} {r d m : Int} {xs : List Int} (h : DBX w B r d m xs) (n : Nat) : DBX (w.drewN n) B r d m xs := h

def CompPost (B : Nat) (r d m : Int) (w : World) (e : Ending) (w' : World) : Prop := e = .returned (.tuple #[]) ∧ DBX w' B r d m (discs r 121) ∧ Only B w w'

theorem compute_any (B : Nat) (r d m : Int) (xs : List Int) (w : World) (hx : xs.length = 121) (h : DBX w B r d m xs) (h0 : 0 ≤ r) (h1 : r ≤ 200) :
    Calls Tryz.prog 134 #[.pointer (some ⟨B, 0, none⟩)] w (CompPost B r d m w) := by
  have H := Lib.hid h
  have HX := Lib.hid hx
  clear h hx
  go_enter Tryz.func134, Tryz.ntmps134
  go_wp2_with fail
  go_loopw [2, 4] (fun v i wr => ∃ k : Nat, k ≤ 121 ∧ i = .int .i64 k ∧ v = .int .i64 (disc r k) ∧ Hid (DBX wr B r d m (discs r k ++ xs.drop k)) ∧ Hid (Only B w wr)) (fun _ i _ => 121 - (intOf i).toNat)
  case atStart => exact ⟨0, by omega, rfl, rfl, Lib.hid (by simpa [discs] using H.out), Lib.hid (Only.refl _ _)⟩
  case round =>
    obtain ⟨k, hk, rfl, rfl, HB, HO⟩ := hrel
    by_cases hlt : k < 121
    · have hr := HB.out.rate
      have hy := HB.out.at k (by rw [List.length_append, discs_len, List.length_drop, HX.out]; omega)
      have hf := HB.out.free (4 + k)
      obtain ⟨u, hu⟩ : ∃ u, (discs r k ++ xs.drop k).getD k 0 = u := ⟨_, rfl⟩
      rw [hu] at hy
      clear hu
      obtain ⟨b1, b2⟩ := disc_bd r h0 k
      have hq := disc_q r h0 k
      obtain ⟨D, hD⟩ : ∃ D, disc r k = D := ⟨_, rfl⟩
      rw [hD] at b1 b2 hq ⊢
      have HD := Lib.hid hD
      clear hD
      have hB := HB.out.setAt k D
      have hr2 := hB.rate
      have HB2 := Lib.hid hB
      clear hB
      go_wp2_with fail
      go_roundw
      case rel => exact ⟨k + 1, by omega, by go_num, by first | rfl | go_num, Lib.hid (by have := HB2.out; rw [← HD.out, discs_set r k xs (by rw [HX.out]; exact hlt), HD.out] at this; exact this), Lib.hid (HO.out.setCell (p := ⟨B, 4 + k, none⟩) rfl _)⟩
      case measure => simp [intOf]; omega
    · go_wp2_with fail
      go_end0
      obtain rfl : k = 121 := by omega
      have hb := HB.out
      rw [List.drop_of_length_le (by rw [HX.out]; omega), List.append_nil] at hb
      exact ⟨rfl, hb, HO.out⟩

/-- what is left behind: the discounts of the block are computed; nothing else has turned -/
def OncePost (B : Nat) (r : Int) (w : World) (e : Ending) (w' : World) : Prop := e = .returned (.tuple #[]) ∧ DBX w' B r 1 0 (discs r 121) ∧ Only B w w'

theorem slow_any (B : Nat) (r : Int) (xs : List Int) (w : World) (hx : xs.length = 121) (h : DBX w B r 0 0 xs) (h0 : 0 ≤ r) (h1 : r ≤ 200) :
    Calls Tryz.prog 137 #[.pointer (some ⟨B, 1, none⟩), .func (.func 134) #[.pointer (some ⟨B, 0, none⟩)] #[]] w (OncePost B r w) := by
  have H := Lib.hid h
  have H1 := Lib.hid (h.setLock 1)
  have hl := run_call_load (P := Tryz.prog) Tryz.func138 (by kernel_rfl) (by kernel_rfl) (by kernel_rfl) .u32 (by kernel_rfl) (h.setLock 1).done
  have hnot : ∀ (x : Bool) (w : World), (Op.unary .not (.bool x)).run Tryz.prog w = .ok (.bool (!x)) w := fun _ _ => rfl
  have hk := h.lock
  have hz := h.free 2
  clear h
  go_enter_defers Tryz.func137, Tryz.ntmps137
  go_wp2_with (first | (go_at_call 139; refine (lock_free ⟨B, 2, none⟩ _ hk hz).mono ?_; rintro e w' ⟨rfl, rfl⟩) | (go_at_call 136; go_in) | (go_at_call 134; refine (compute_any B r 0 1 xs _ hx H1.out h0 h1).mono ?_; rintro e w2 ⟨rfl, hb, ho⟩))
  have HB := Lib.hid hb
  have HO := Lib.hid (((Only.refl B w).setCell (p := ⟨B, 2, none⟩) rfl (.int .i32 1)).trans ho)
  clear hb ho
  refine leaves_cons (f := 141) (args := #[.pointer (some ⟨B, 1, none⟩), .bool true]) (by simp) (by simp [go_sem]) ?_
  refine (store_deferred ⟨B, 1, none⟩ (.int .u32 0) .returning _ HB.out.done (HB.out.free 1)).mono ?_
  rintro e u' w'' ⟨rfl, rfl, rfl⟩
  refine leaves_cons (f := 140) (args := #[.pointer (some ⟨B, 2, none⟩)]) (by simp [settle]) (by simp [go_sem]) ?_
  refine (unlock_deferred ⟨B, 2, none⟩ _ _ (HB.out.drew.setDone 1).lock ((HB.out.drew.setDone 1).free 2)).mono ?_
  rintro e u' w'' ⟨rfl, rfl, rfl⟩
  have HF := Lib.hid ((HB.out.drew.setDone 1).setLock 0)
  have HG := Lib.hid ((HO.out.drew.setCell (p := ⟨B, 1, none⟩) rfl (.int .u32 1)).setCell (p := ⟨B, 2, none⟩) rfl (.int .i32 0))
  simp only [Leaves, settle, results, Tryz.results137]
  exact ⟨_, by simp, rfl, HF.out, HG.out⟩

theorem do_any (B : Nat) (r d : Int) (xs : List Int) (w : World) (hx : xs.length = 121) (h : DBX w B r d 0 xs) (hd : d = 0 ∨ d = 1 ∧ xs = discs r 121) (h0 : 0 ≤ r) (h1 : r ≤ 200) :
    Calls Tryz.prog 133 #[.pointer (some ⟨B, 1, none⟩), .func (.func 134) #[.pointer (some ⟨B, 0, none⟩)] #[]] w (OncePost B r w) := by
  have hl := run_call_load (P := Tryz.prog) Tryz.func138 (by kernel_rfl) (by kernel_rfl) (by kernel_rfl) .u32 (by kernel_rfl) h.done
  have hnot : ∀ (x : Bool) (w : World), (Op.unary .not (.bool x)).run Tryz.prog w = .ok (.bool (!x)) w := fun _ _ => rfl
  have H := Lib.hid h
  clear h
  rcases hd with rfl | ⟨rfl, hd⟩
  · go_enter Tryz.func133, Tryz.ntmps133
    go_wp2_with (first | (go_at_call 137; refine (slow_any B r xs _ hx H.out h0 h1).mono ?_; rintro e w2 ⟨rfl, hb, ho⟩) | (go_at_call 136; go_in))
    go_end0
    exact ⟨rfl, hb, ho⟩
  · have HD := Lib.hid hd
    clear hd
    have hn : ((1 : Int) != 0) = true := rfl
    go_enter Tryz.func133, Tryz.ntmps133
    go_wp2
    go_end0
    exact ⟨rfl, HD.out ▸ H.out, Only.refl _ _⟩

/-- block B holds the discounts of rate r, computed or not yet -/
def DB (w : World) (B : Nat) (r : Int) : Prop := ∃ (d : Int) (xs : List Int), xs.length = 121 ∧ DBX w B r d 0 xs ∧ (d = 0 ∨ d = 1 ∧ xs = discs r 121)

def AfterPost (B : Nat) (r v : Int) (w : World) (e : Ending) (w' : World) : Prop := e = .returned (.int .i64 v) ∧ DB w' B r ∧ Only B w w'

theorem after_any (B : Nat) (r : Int) (k : Nat) (w : World) (h : DB w B r) (h0 : 0 ≤ r) (h1 : r ≤ 200) (hk : k ≤ 120) :
    Calls Tryz.prog 127 #[.pointer (some ⟨B, 0, none⟩), .int .i64 k] w (AfterPost B r (disc r k) w) := by
  obtain ⟨d, xs, hx, hb, hd⟩ := h
  have H := Lib.hid hb
  clear hb
  have hmf : ∀ (fn : Fn) (first cap : Array Value) (w : World), (Instr.makeFunc fn first cap).run Tryz.prog w = .ok (.func fn first cap) w := fun _ _ _ _ => rfl
  go_enter Tryz.func127, Tryz.ntmps127
  go_wp2_with fail
  refine (do_any B r d xs _ hx H.out hd h0 h1).mono ?_
  rintro e w2 ⟨rfl, hb, ho⟩
  have hy := hb.at k (by rw [discs_len]; omega)
  rw [discs_get r 121 k (by omega)] at hy
  have HB := Lib.hid hb
  have HO := Lib.hid ho
  clear hb ho
  obtain ⟨D, hD⟩ : ∃ D, disc r k = D := ⟨_, rfl⟩
  rw [hD] at hy
  have HD := Lib.hid hD
  clear hD
  go_wp2
  go_ret
  exact ⟨ret_int HD.out.symm, ⟨1, discs r 121, discs_len r 121, HB.out, .inr ⟨rfl, rfl⟩⟩, HO.out⟩

end Go.Proofs.YtnclncglmnbelaaGreat
