/- Merged: Till, Pot, Comm, ColA. -/
import Derived.Test.YtnclncglmnbelaaGreatDoorFx2
import Derived.Test.YtnclncglmnbelaaGreatDoorFx7
import Derived.Test.YtnclncglmnbelaaGreatDoorFx9
import Derived.Deep.RegionHeld3

/- A region that draws its order, whose last operation L stores into a cell that the region has loaded: a condition that holds till then; append at a step of such a region; boxes behind stores. -/
namespace Go.Proofs.YtnclncglmnbelaaGreatDoor
open Go.ChangeShapes Go.WideShapes Go.ChangeAt Go.RowKit
set_option linter.unusedVariables false
set_option maxRecDepth 100000

/-- append at a step of a region that draws its order -/
theorem step_apj {w : World} {ops : Array Oper} {o : Oper} {a : Act} {K : Act → World → Prop} {Q : Exit → Act → World → Prop} {E : Prop} (hgd : o.guard = none) (s x : Operand)
    (ho : o.op = .call { callee := .builtin .append, args := #[s, x], argTypes := #[24, 24] })
    (base : Nat) (v : Value) (xs : List Int) (y : Int) (hs : a.eval s = v) (hown : OwnI base w v xs) (ad : Addr) (hx : a.eval x = .slice (some ad) 1 1) (hc : ∀ j u, [Value.int .i64 y][j]? = some u → w.cell? (ad.add j) = some u)
    (hlen : xs.length ≤ 4096) (hbase : base ≤ w.heap.size)
    (h : ∀ v' w', OwnI base w' v' (xs ++ [y]) → w.grownBy w' v.ownBlock → (v'.ownBlock = v.ownBlock ∨ v'.ownBlock = some w.heap.size) → K (a.put o.dst v') w') :
    if Region.wanted o (yielded ops a.tmps) = true then Oper.wp Tryz.prog o a w K Q else E := by
  obtain ⟨i0, hi, hz0, hz1, hz2⟩ := info_parts infoI
  have hm : maxLen = maxLen := rfl
  unfold maxLen at hm
  obtain ⟨v', w', hr, h2, h3, h4⟩ := run_append_own (P := Tryz.prog) w base 24 o.type 2 i0 (.int .i64 0) 1 8 Tryz.underlying24 hi hz0 hz1 hz2 rfl (by decide) v xs.length (xs.map (Value.int .i64)) hown ad 1 1 [.int .i64 y] rfl hc (by intro u hu; simp at hu; subst hu; rfl) (by unfold maxLen; omega) (by omega) hbase
  have h5 := append_where ad y hown hc hlen hbase v' w' o.type hr
  have h6 : OwnI base w' v' (xs ++ [y]) := by
    unfold OwnI
    rw [List.length_append, List.length_singleton, List.map_append]
    exact h2
  have hw : Region.wanted o (yielded ops a.tmps) = true := by simp [Region.wanted, hgd]
  rw [if_pos hw]
  unfold Oper.wp execOp
  simp only [ho, resolve, invoke, builtin, Sem.run_bind, Sem.run_pure, Result.andThen_ok, List.map_toArray, List.map_cons, List.map_nil, hs, hx, hr]
  exact h v' w' h6 h3 h5

theorem far_setCell (w : World) (p : Addr) (v : Value) (k : Nat) (h : k ≠ p.block) : (w.setCell p v).heap[k]? = w.heap[k]? := by
  show (w.heap.modify p.block _)[k]? = _
  rw [Array.getElem?_modify, if_neg (fun e => h e.symm)]

theorem Bx.set1 {w : World} {B : Nat} {x y : Value} (h : Bx w B [x, y]) (z : Value) : Bx (w.setCell ⟨B, 1, none⟩ z) B [x, z] := by
  have hl := h.lt
  obtain ⟨T, h⟩ := h
  rw [Array.getElem?_eq_getElem hl] at h
  have h' : w.heap[B] = .cells #[x, y] T (0, 0) := by simpa using h
  refine ⟨T, ?_⟩
  show (w.heap.modify B _)[B]? = _
  rw [Array.getElem?_modify, if_pos rfl, Array.getElem?_eq_getElem hl, h']
  simp

/-- behind an append: the boxes of the joint table are as they were -/
theorem Bx.grown {w w5 : World} {o : Obj} {B : Nat} {vs : List Value} {row : Option Nat} (h : Bx w B vs) (hg : (w.alloc o).grownBy w5 row) (hn : some B ≠ row) : Bx w5 B vs :=
  (h.on (box_b w o)).same (hg.block B (by have := h.lt; simp; omega) hn)

/-- in whatever order, and S behind each operation but L -/
def wpTill (Pg : Program) (md : Region.Mode) (ops : Array Oper) (Q : Exit → Act → World → Prop) (S : World → Prop) (L : Nat) : Nat → Array Bool → Act → World → Prop
  | 0, listed, a, w => Region.ready md ops listed = [] ∧ Q .normal a w
  | n + 1, listed, a, w => (Region.ready md ops listed = [] → Q .normal a w) ∧ ∀ i ∈ Region.ready md ops listed, wpOp Pg ops Q i (fun a' w' => (i ≠ L → S w') ∧ wpTill Pg md ops Q S L n (listed.setIfInBounds i true) a' w') a w

section
variable {Pg : Program} {ops : Array Oper} {Q : Exit → Act → World → Prop} {md : Region.Mode} {S : World → Prop} {L : Nat}

theorem wpTill_any : ∀ (n : Nat) (listed : Array Bool) (a : Act) (w : World), wpTill Pg md ops Q S L n listed a w → wpAny Pg md ops Q n listed a w
  | 0, _, _, _, h => h
  | n + 1, _, _, _, h => ⟨h.1, fun i hi => wpOp_mono (fun a' w' h' => wpTill_any n _ a' w' h'.2) (h.2 i hi)⟩

theorem wpTill_done {listed : Array Bool} {a : Act} {w : World} (hr : Region.ready md ops listed = []) (h : Q .normal a w) : ∀ n, wpTill Pg md ops Q S L n listed a w
  | 0 => ⟨hr, h⟩
  | _ + 1 => ⟨fun _ => h, by rw [hr]; simp⟩

theorem wpTill_start {id : Nat} {a : Act} {w : World} (hm : Pg.follows .mixedOrders = true) (hS : S w.drew)
    (h : S w.drew → wpTill Pg .any ops Q S L ops.size (Array.replicate ops.size false) a w.drew) : (Code.region id ops true).wp Pg Q a w :=
  wp_region_any hm (wpTill_any _ _ _ _ (h hS))

/-- does j wait for i, at n removes? -/
def reaches (md : Region.Mode) (ops : Array Oper) : Nat → Nat → Nat → Bool
  | 0, _, _ => false
  | n + 1, j, i => match ops[j]? with
    | some o => o.after.any fun e => Region.binds md e && (e.on == i || reaches md ops n e.on i)
    | none => false

/-- what has come up has all that it waits for behind it -/
def Closed (md : Region.Mode) (ops : Array Oper) (listed : Array Bool) : Prop := ∀ j o, ops[j]? = some o → listed.getD j false = true → ∀ e ∈ o.after, Region.binds md e = true → listed.getD e.on false = true

def closedB (md : Region.Mode) (ops : Array Oper) (listed : Array Bool) : Bool := (List.range ops.size).all fun j => !listed.getD j false || match ops[j]? with
  | some o => o.after.all fun e => !Region.binds md e || listed.getD e.on false
  | none => true

theorem closed_of {listed : Array Bool} (h : closedB md ops listed = true) : Closed md ops listed := by
  intro j o ho hj e he hb
  unfold closedB at h
  rw [List.all_eq_true] at h
  have h1 := h j (List.mem_range.2 (Array.getElem?_eq_some_iff.1 ho).1)
  rw [ho, hj] at h1
  simp only [Bool.not_true, Bool.false_or, Array.all_eq_true_iff_forall_mem] at h1
  have h2 := h1 e he
  rw [hb] at h2
  simpa using h2

theorem Closed.set {listed : Array Bool} (h : Closed md ops listed) {i : Nat} (hi : i ∈ Region.ready md ops listed) : Closed md ops (listed.setIfInBounds i true) := by
  intro j o ho hj e he hb
  by_cases hji : i = j
  · subst hji
    obtain ⟨_, o', ho', hall⟩ := mem_ready.1 hi
    rw [ho] at ho'
    cases ho'
    exact getD_set_true (hall e he hb)
  · rw [getD_set_ne false hji] at hj
    exact getD_set_true (h j o ho hj e he hb)

theorem Closed.reach {listed : Array Bool} (h : Closed md ops listed) : ∀ (n j i : Nat), (∀ o, ops[j]? = some o → ∀ e ∈ o.after, Region.binds md e = true → listed.getD e.on false = true) → reaches md ops n j i = true → listed.getD i false = true
  | 0, _, _, _, hr => by simp [reaches] at hr
  | n + 1, j, i, hd, hr => by
    unfold reaches at hr
    split at hr
    · rename_i o ho
      simp only [Array.any_eq_true, Bool.and_eq_true, Bool.or_eq_true, beq_iff_eq] at hr
      obtain ⟨k, hk, hb, he⟩ := hr
      have h1 := hd o ho _ (Array.getElem_mem hk) hb
      rcases he with he | he
      · rw [← he]; exact h1
      · exact h.reach n _ i (fun o' ho' e' he' hb' => h _ o' ho' h1 e' he' hb') he
    · cases hr

theorem waits {n i : Nat} {listed : Array Bool} (hc : Closed md ops listed) (hw : reaches md ops n L i = true) (hi : listed.getD i true = false) (hL : L ∈ Region.ready md ops listed) : False := by
  obtain ⟨_, o, ho, hall⟩ := mem_ready.1 hL
  have h1 := hc.reach n L i (fun o' ho' e he hb => by rw [ho] at ho'; cases ho'; exact hall e he hb) hw
  rcases Nat.lt_or_ge i listed.size with h' | h'
  · simp [h'] at hi h1; rw [hi] at h1; cases h1
  · simp [Array.getElem?_eq_none h'] at h1

theorem wpTill_first {i : Nat} {oi : Oper} {v : Value} (hi : ops[i]? = some oi) (hsel : ∀ (j : Nat) (o : Oper) cs b, ops[j]? = some o → o.op ≠ .select cs b)
    (hQ : ∀ c a w, Q (.panic c) (a.put oi.dst v) w → Q (.panic c) a w) {m : Nat} (hw : reaches md ops m L i = true) :
    ∀ (n : Nat) (listed : Array Bool) (a : Act) (w : World), Closed md ops listed →
      (∀ j oj, ops[j]? = some oj → j ≠ i → listed.getD j true = false → (∀ e ∈ oj.after, Region.binds md e = true → e.on ≠ i) → oi.apart ops oj = true) →
      i ∈ Region.ready md ops listed → YieldsIf Pg ops S oi v a → S w →
      wpTill Pg md ops Q S L n (listed.setIfInBounds i true) (a.put oi.dst v) w → wpTill Pg md ops Q S L (n + 1) listed a w := by
  intro n
  induction n with
  | zero =>
    intro listed a w _ _ hr hy hS H
    refine ⟨fun h => (by rw [h] at hr; cases hr), fun j hj => ?_⟩
    by_cases hji : j = i
    · subst hji; exact hy.wpOp hi hS ⟨fun _ => hS, H⟩
    · have := ready_mono hj hji
      rw [H.1] at this
      cases this
  | succ n ih =>
    intro listed a w hcl hfree hr hy hS H
    refine ⟨fun h => (by rw [h] at hr; cases hr), fun j hj => ?_⟩
    by_cases hji : j = i
    · subst hji; exact hy.wpOp hi hS ⟨fun _ => hS, H⟩
    · have hi0 := (mem_ready.1 hr).1
      have hjL : j ≠ L := fun e => by subst e; exact waits hcl hw hi0 hj
      obtain ⟨hjun, oj, hoj, hall⟩ := mem_ready.1 hj
      have hnot : ∀ e ∈ oj.after, Region.binds md e = true → e.on ≠ i := fun e he hb heq => by
        have h1 := hall e he hb
        rw [heq] at h1
        rcases Nat.lt_or_ge i listed.size with h' | h'
        · simp [h'] at hi0 h1; rw [hi0] at h1; cases h1
        · simp [Array.getElem?_eq_none h'] at h1
      have h2 := wpOp_putIf hoj (hfree j oj hoj hji hjun hnot) (fun cs b => hsel i oi cs b hi) (fun cs b => hsel j oj cs b hoj) hQ hy (H.2 j (ready_mono hj hji))
      refine wpOp_mono (fun a' w' h3 => ⟨h3.2.1, ih (listed.setIfInBounds j true) a' w' (hcl.set hj) (fun k ok hk hki hun hno => ?_) (ready_mono hr (Ne.symm hji)) h3.1 (h3.2.1 hjL) ?_⟩) h2
      · refine hfree k ok hk hki ?_ hno
        by_cases hjk : j = k
        · subst hjk; exact hjun
        · rw [getD_set_ne true hjk] at hun; exact hun
      · rw [Array.setIfInBounds_comm _ _ hji]
        exact h3.2.2

theorem wpTill_take {i : Nat} {oi : Oper} {v : Value} {n : Nat} {listed : Array Bool} {a : Act} {w : World} (hi : ops[i]? = some oi)
    (hs : Region.noSelect ops = true) (hf : Region.free md ops listed i = true) (hr : (Region.ready md ops listed).contains i = true) (hc : closedB md ops listed = true) (hw : reaches md ops 12 L i = true)
    (hQ : ∀ c a w, Q (.panic c) (a.put oi.dst v) w → Q (.panic c) a w) (hy : YieldsIf Pg ops S oi v a) (hS : S w)
    (h : wpTill Pg md ops Q S L n (listed.setIfInBounds i true) (a.put oi.dst v) w) : wpTill Pg md ops Q S L (n + 1) listed a w :=
  wpTill_first hi (Region.noSelect_spec hs) hQ hw n listed a w (closed_of hc) (Region.free_spec hi hf) (by simpa using hr) hy hS h

/-- those that may come up next -/
def AllTill (Pg : Program) (md : Region.Mode) (ops : Array Oper) (Q : Exit → Act → World → Prop) (S : World → Prop) (L n : Nat) (listed : Array Bool) (a : Act) (w : World) (rs : List Nat) : Prop :=
  ∀ i ∈ rs, wpOp Pg ops Q i (fun a' w' => (i ≠ L → S w') ∧ wpTill Pg md ops Q S L n (listed.setIfInBounds i true) a' w') a w

theorem AllTill.nil {n : Nat} {listed : Array Bool} {a : Act} {w : World} : AllTill Pg md ops Q S L n listed a w [] := fun _ h => by cases h

theorem AllTill.cons {n : Nat} {listed : Array Bool} {a : Act} {w : World} {i : Nat} {o : Oper} {rs : List Nat} (ho : ops[i]? = some o)
    (h : ∀ K' : Act → World → Prop, Shut (∀ a w, (i ≠ L → S w) → ((i ≠ L → S w) → wpTill Pg md ops Q S L n (listed.setIfInBounds i true) a w) → K' a w) → if Region.wanted o (yielded ops a.tmps) = true then Oper.wp Pg o a w K' Q else K' (a.put o.dst undef) w)
    (hs : AllTill Pg md ops Q S L n listed a w rs) : AllTill Pg md ops Q S L n listed a w (i :: rs) := fun j hj => by
  rcases List.mem_cons.1 hj with rfl | hj
  · exact wpOp_step ho (fun K' hK => h K' (fun a w hS hW => hK a w ⟨hS, hW hS⟩))
  · exact hs j hj

theorem wpTill_ready {rs : List Nat} {n : Nat} {listed : Array Bool} {a : Act} {w : World} (hr : Region.ready md ops listed = rs) (hne : rs ≠ [])
    (h : AllTill Pg md ops Q S L n listed a w rs) : wpTill Pg md ops Q S L (n + 1) listed a w :=
  ⟨fun h0 => absurd (hr ▸ h0) hne, hr ▸ h⟩

end

end Go.Proofs.YtnclncglmnbelaaGreatDoor

/- Policies: the model: net premiums, durations, gains. (Written by wip/gen/pot.py.) -/
namespace Go.Proofs.YtnclncglmnbelaaGreatDoor
open Go.ChangeShapes Go.WideShapes Go.ChangeAt Go.RowKit
set_option linter.unusedVariables false
set_option maxRecDepth 100000

theorem ret_3p {a b c d e f : Int} (h : a = b) (g : c = d) (k : e = f) : Ending.returned (.tuple #[.int .i64 a, .int .i64 c, .int .i64 e]) = .returned (.tuple #[.int .i64 b, .int .i64 d, .int .i64 f]) := by rw [h, g, k]

theorem snet_any (r f : Int) (xs : List Int) (a : Option Addr) (l c : Nat) (k x n s u : Int) (w : World) (h : Ints w a l xs) (hp : poB r f xs k x n s u = true) :
    Calls Tryz.prog 49 #[.agg #[.int .i64 f, .slice a l c, .int .i64 r], .agg #[.int .i64 k, .int .i64 x, .int .i64 n, .int .i64 s, .int .i64 u]] w fun e w' => e = .returned (.int .i64 (netN r f xs k x n s)) ∧ Below w.heap.size w w' := by
  have H := Lib.hid h
  clear h
  have HP := Lib.hid (BP.new w f (.slice a l c) r k x n s u 28 30)
  have hz := (poB_iff.1 hp).1
  unfold asE at hz
  have CL : Hid (∀ W, Hid (BP w f (.slice a l c) r k x n s u W) → Calls Tryz.prog 73 #[.agg #[.int .i64 f, .slice a l c], .int .i64 r, .int .i64 k, .int .i64 x, .int .i64 n, .int .i64 s] W fun e w' => e = .returned (.int .i64 (netN r f xs k x n s)) ∧ Below W.heap.size W w') :=
    Lib.hid (fun W hW => slevel_any r f xs a l c k x n s W (H.out.on hW.out.low) hz)
  obtain ⟨Z, hZ⟩ : ∃ y_, netN r f xs k x n s = y_ := ⟨_, rfl⟩
  rw [hZ] at CL ⊢
  clear hZ hz hp
  go_enter Tryz.func49, Tryz.ntmps49
  go_wp2_with fail
  obtain ⟨W1, hW1⟩ : ∃ W1, ((w.alloc (.cells #[.int .i64 f, .slice a l c, .int .i64 r] 28)).alloc (.cells #[.int .i64 k, .int .i64 x, .int .i64 n, .int .i64 s, .int .i64 u] 30)) = W1 := ⟨_, rfl⟩
  rw [hW1] at HP ⊢
  clear hW1
  with_reducible refine (CL.out _ HP).mono ?_
  rintro e w1 ⟨rfl, hb⟩
  have HP := Lib.hid (HP.out.on hb)
  clear hb
  obtain ⟨b0, b1, b2, p0, p1, p2, p3, p4, -⟩ := bpS HP.out
  go_wp2_with fail
  go_ret
  exact ⟨rfl, HP.out.low⟩

def netV (r f : Int) (xs : List Int) (k x n s u : Int) : Int := if poB r f xs k x n s u = true then netN r f xs k x n s else 0

def durV (r f : Int) (xs : List Int) (k x n s u : Int) : Int := if poB r f xs k x n s u = true then durN f xs k x n else 0

def gnQV (r f : Int) (xs : List Int) (k x n s u : Int) : Int := if poB r f xs k x n s u = true then gnQ r f xs k x n s else 0

def gnRV (r f : Int) (xs : List Int) (k x n s u : Int) : Int := if poB r f xs k x n s u = true then gnR r f xs k x n s else 0

end Go.Proofs.YtnclncglmnbelaaGreatDoor

/- The program's columns: a number times a discount, the block of a table with its columns, its columns at an age, the check of the arguments. -/
namespace Go.Proofs.YtnclncglmnbelaaGreatDoor
open Go.ChangeShapes Go.WideShapes Go.ChangeAt Go.RowKit
set_option linter.unusedVariables false
set_option maxRecDepth 100000

theorem termB_iff (n : Int) : termB n = true ↔ 0 ≤ n ∧ n ≤ 120 := by unfold termB; rw [inB_iff]

theorem times_any (B : Nat) (r n : Int) (k : Nat) (w : World) (h : DB w B r) (h0 : 0 ≤ r) (h1 : r ≤ 200) (n0 : 0 ≤ n) (n1 : n ≤ 1000000) :
    Calls Tryz.prog 69 #[.pointer (some ⟨B, 0, none⟩), .int .i64 n, .int .i64 k] w (AfterPost B r (if k ≤ 120 then n * disc r k else 0) w) := by
  have H := Lib.hid h
  clear h
  by_cases hk : k ≤ 120
  · have ht : termB (k : Int) = true := (termB_iff _).2 (by omega)
    rw [if_pos hk]
    obtain ⟨d0, d1⟩ := disc_bd r h0 k
    obtain ⟨p0, p1⟩ := prod_bd n (disc r k) n0 n1 d0 d1
    have HA := Lib.hid (after_any B r k w H.out h0 h1 hk)
    obtain ⟨D, hD⟩ : ∃ D, disc r k = D := ⟨_, rfl⟩
    rw [hD] at d0 d1 p0 p1 HA ⊢
    clear hD
    go_enter Tryz.func69, Tryz.ntmps69
    go_wp2_with (first | (go_at_call 98; refine (isTerm_any _ _).mono ?_; rintro e w' ⟨rfl, rfl⟩) | (go_at_call 99; refine (HA.out).mono ?_; rintro e w2 ⟨rfl, hb, ho⟩))
    go_ret
    exact ⟨rfl, hb, ho⟩
  · have ht : termB (k : Int) = false := by
      cases hc : termB (k : Int)
      · rfl
      · have := (termB_iff _).1 hc; omega
    rw [if_neg hk]
    go_enter Tryz.func69, Tryz.ntmps69
    go_wp2_with (go_at_call 98; refine (isTerm_any _ _).mono ?_; rintro e w' ⟨rfl, rfl⟩)
    go_ret
    exact ⟨rfl, H.out, Only.refl _ _⟩

/-! ### the block of a table and its columns -/

/-- its cells: the first age, the lives, the columns -/
def ccells (f : Int) (v : Value) (G : Nat → Int) : Array Value := (([Value.int .i64 f, v] : List Value) ++ (List.range 604).map fun k => Value.int .i64 (G k)).toArray

def CBX (w : World) (R : Nat) (f : Int) (v : Value) (G : Nat → Int) : Prop := w.heap[R]? = some (.cells (ccells f v G) 95 (0, 0))

theorem CBX.lt {w : World} {R : Nat} {f : Int} {v : Value} {G : Nat → Int} (h : CBX w R f v G) : R < w.heap.size := by
  unfold CBX at h
  by_cases hb : R < w.heap.size
  · exact hb
  · have : w.heap[R]? = none := by simp; omega
    rw [this] at h; cases h

theorem CBX.first {w : World} {R : Nat} {f : Int} {v : Value} {G : Nat → Int} (h : CBX w R f v G) : w.cell? ⟨R, 0, none⟩ = some (.int .i64 f) := by
  unfold CBX at h
  simp [World.cell?, h, ccells]

theorem CBX.row {w : World} {R : Nat} {f : Int} {v : Value} {G : Nat → Int} (h : CBX w R f v G) : w.cell? ⟨R, 1, none⟩ = some v := by
  unfold CBX at h
  simp [World.cell?, h, ccells]

theorem CBX.at {w : World} {R : Nat} {f : Int} {v : Value} {G : Nat → Int} (h : CBX w R f v G) (k : Nat) (hk : k < 604) (u : Int) (hu : G k = u) (i : Nat) (hi : i = k + 2) : w.cell? ⟨R, i, none⟩ = some (.int .i64 u) := by
  subst hi
  unfold CBX at h
  simp [World.cell?, h, ccells, hk, hu]

theorem CBX.free {w : World} {R : Nat} {f : Int} {v : Value} {G : Nat → Int} (h : CBX w R f v G) (i : Nat) : w.frozen? ⟨R, i, none⟩ = false := by
  unfold CBX at h
  simp [World.frozen?, h]

theorem CBX.same {w w' : World} {R : Nat} {f : Int} {v : Value} {G : Nat → Int} (h : CBX w R f v G) (hb : w'.heap[R]? = w.heap[R]?) : CBX w' R f v G := by
  unfold CBX at h ⊢; rw [hb, h]

theorem CBX.set {w : World} {R : Nat} {f : Int} {v : Value} {G : Nat → Int} (h : CBX w R f v G) (k : Nat) (u : Int) (i : Nat) (hi : i = k + 2) : CBX (w.setCell ⟨R, i, none⟩ (.int .i64 u)) R f v (fun j => if j = k then u else G j) := by
  subst hi
  have hl := h.lt
  unfold CBX at h ⊢
  rw [Array.getElem?_eq_getElem hl] at h
  have h' : w.heap[R] = .cells (ccells f v G) 95 (0, 0) := by simpa using h
  show (w.heap.modify R _)[R]? = _
  rw [Array.getElem?_modify, if_pos rfl, Array.getElem?_eq_getElem hl, h']
  have e : (ccells f v G).setIfInBounds (k + 2) (.int .i64 u) = ccells f v (fun j => if j = k then u else G j) := by
    unfold ccells
    apply Array.ext'
    simp only [Array.toList_setIfInBounds, List.cons_append, List.nil_append, List.set_cons_succ, List.cons.injEq, true_and]
    apply List.ext_getElem
    · simp
    · intro n h1 h2
      simp only [List.getElem_set, List.getElem_map, List.getElem_range]
      by_cases hn : k = n
      · subst hn; simp
      · rw [if_neg hn, if_neg (fun e => hn e.symm)]
  simp [e]

/-- the columns of four functions at an age -/
def AtG (G : Nat → Int) (m : Nat) : Value := .agg #[.int .i64 (G (m * 4)), .int .i64 (G (m * 4 + 1)), .int .i64 (G (m * 4 + 2)), .int .i64 (G (m * 4 + 3))]

theorem colat_any (R : Nat) (f : Int) (v : Value) (G : Nat → Int) (m : Nat) (w : World) (h : CBX w R f v G) (hm : m ≤ 150) :
    Calls Tryz.prog 44 #[.pointer (some ⟨R, 2, none⟩), .int .i64 m] w fun e w' => e = .returned (AtG G m) ∧ Below w.heap.size w w' := by
  have H := Lib.hid h
  have hl := h.lt
  unfold AtG
  obtain ⟨a, ha⟩ : ∃ a, G (m * 4) = a := ⟨_, rfl⟩
  obtain ⟨b, hb⟩ : ∃ a, G (m * 4 + 1) = a := ⟨_, rfl⟩
  obtain ⟨c, hc⟩ : ∃ a, G (m * 4 + 2) = a := ⟨_, rfl⟩
  obtain ⟨d, hd⟩ : ∃ a, G (m * 4 + 3) = a := ⟨_, rfl⟩
  rw [ha, hb, hc, hd]
  have y0 := h.at _ (by omega) a ha (2 + m * 4) (by omega)
  have y1 := h.at _ (by omega) b hb (2 + m * 4 + 1) (by omega)
  have y2 := h.at _ (by omega) c hc (2 + m * 4 + 2) (by omega)
  have y3 := h.at _ (by omega) d hd (2 + m * 4 + 3) (by omega)
  clear h ha hb hc hd
  go_enter Tryz.func44, Tryz.ntmps44
  go_wp2_with fail
  refine bodyPost_ret (v := .agg #[.int .i64 a, .int .i64 b, .int .i64 c, .int .i64 d]) ?_ rfl ⟨rfl, box_b _ _⟩
  simp [results, Tryz.results44, go_sem]

end Go.Proofs.YtnclncglmnbelaaGreatDoor

/- ColumnsAt of the model. -/
namespace Go.Proofs.YtnclncglmnbelaaGreatDoor
open Go.ChangeShapes Go.WideShapes Go.ChangeAt Go.RowKit
set_option linter.unusedVariables false
set_option maxRecDepth 100000

/-- what ColumnsAt answers -/
def atV (r f : Int) (xs : List Int) (x : Int) (F : Nat → Int) : Int := if coE r f xs x = 0 then F (x - f).toNat else 0

theorem ret_at {a b c d e a' b' c' d' e' : Int} (h1 : a = a') (h2 : b = b') (h3 : c = c') (h4 : d = d') (h5 : e = e') :
    Ending.returned (.tuple #[.agg #[.int .i64 a, .int .i64 b, .int .i64 c, .int .i64 d], .int .i64 e]) = .returned (.tuple #[.agg #[.int .i64 a', .int .i64 b', .int .i64 c', .int .i64 d'], .int .i64 e']) := by
  rw [h1, h2, h3, h4, h5]

/-- a block of four cells -/
def Q4 (w : World) (B : Nat) (a b c d : Int) : Prop := w.heap[B]? = some (.cells #[.int .i64 a, .int .i64 b, .int .i64 c, .int .i64 d] 90 (0, 0))

def atPost (r f : Int) (xs : List Int) (x : Int) (w : World) (e : Ending) (w' : World) : Prop :=
  e = .returned (.tuple #[.agg #[.int .i64 (atV r f xs x (cD r xs)), .int .i64 (atV r f xs x (cN r xs)), .int .i64 (atV r f xs x (cC r xs)), .int .i64 (atV r f xs x (cM r xs))], .int .i64 (coE r f xs x)]) ∧ Below w.heap.size w w'

end Go.Proofs.YtnclncglmnbelaaGreatDoor
