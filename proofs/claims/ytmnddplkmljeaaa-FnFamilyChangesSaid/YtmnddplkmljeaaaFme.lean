/- Families: the program: events. (Written by wip/gen/fme.py.) -/
import Derived.Test.YtmnddplkmljeaaaFmc
namespace Go.Proofs.Ytmnddplkmljeaaa
open Go.ChangeShapes Go.WideShapes Go.ChangeAt Go.RowKit
set_option linter.unusedVariables false
set_option linter.unusedSimpArgs false
set_option maxRecDepth 100000

/-- a block told by its values and its type -/
def Bt (w : World) (B : Nat) (vs : List Value) (T : TypeId) : Prop := w.heap[B]? = some (.cells vs.toArray T (0, 0))

theorem Bt.bx {w : World} {B : Nat} {vs : List Value} {T : TypeId} (h : Bt w B vs T) : Bx w B vs := ⟨T, h⟩

theorem Bt.lt {w : World} {B : Nat} {vs : List Value} {T : TypeId} (h : Bt w B vs T) : B < w.heap.size := h.bx.lt

theorem Bt.on {w w' : World} {B : Nat} {vs : List Value} {T : TypeId} (h : Bt w B vs T) (hb : Below w.heap.size w w') : Bt w' B vs T := by
  unfold Bt; rw [hb.block _ h.lt]; exact h

theorem Bt.new (w : World) (vs : List Value) (T : TypeId) : Bt (w.alloc (.cells vs.toArray T)) w.heap.size vs T := heap_alloc_new _ _

theorem Bt.cell {w : World} {B : Nat} {vs : List Value} {T : TypeId} (h : Bt w B vs T) (i : Nat) {x : Value} (hx : vs[i]? = some x) : w.cell? ⟨B, i, none⟩ = some x := by
  unfold Bt at h
  simp [World.cell?, h, hx]

/-- an event's cells -/
def evC (e : Ev) : List Value := [.int .i64 e.1, .int .i64 e.2.1, .int .i64 e.2.2]

/-- a list of events of the call's own -/
def OwnE (base : Nat) (w : World) (v : Value) (es : List Ev) : Prop := w.ownsRow base 109 3 v es.length (es.flatMap evC)

theorem infoE : (Try.prog.info? 109).map (fun i => (i.zero, i.size, i.bytes)) = some (some (.agg #[.int .i64 0, .int .i64 0, .int .i64 0]), 3, 24) := by kernel_rfl

theorem ownE_new (w : World) : OwnE w.heap.size (w.alloc (.cells #[] 109)) (.slice (some ⟨w.heap.size, 0, none⟩) 0 0) [] :=
  World.ownsRow_lit w #[] 0 (Nat.le_refl _) (Nat.zero_le _) rfl

theorem OwnE.tag {base : Nat} {w : World} {v : Value} {es : List Ev} (h : OwnE base w v es) : ∀ k, v.ownBlock = some k → ∃ cur, w.heap[k]? = some (.cells cur 109 (0, 0)) := by
  intro k hk
  rcases h.2 with ⟨rfl, _⟩ | ⟨g, cap, cur, rfl, _, hg, _⟩
  · simp [Value.ownBlock] at hk
  · simp only [Value.ownBlock, Option.some.injEq] at hk
    subst hk
    exact ⟨cur, hg⟩

theorem OwnE.on {base : Nat} {w w' : World} {v : Value} {es : List Ev} (h : OwnE base w v es) (hb : Below w.heap.size w w') : OwnE base w' v es := by
  obtain ⟨h0, h1 | ⟨g, cap, cur, hv, hg, hh, r⟩⟩ := h
  · exact ⟨h0, .inl h1⟩
  · have hlt : g < w.heap.size := by
      by_cases hl : g < w.heap.size
      · exact hl
      · have : w.heap[g]? = none := by simp; omega
        rw [this] at hh; cases hh
    exact ⟨h0, .inr ⟨g, cap, cur, hv, hg, by rw [hb.block g hlt]; exact hh, r⟩⟩

/-- a block of another type is as it was behind an append -/
theorem Bt.grown {base B : Nat} {wr w1 : World} {v : Value} {es : List Ev} {o : Obj} {vs : List Value} {T : TypeId} (h : Bt wr B vs T) (ho : OwnE base wr v es) (hg : (wr.alloc o).grownBy w1 v.ownBlock) (hT : T ≠ 109) : Bt w1 B vs T := by
  have hl := h.lt
  have h1 : Bt (wr.alloc o) B vs T := h.on (box_b _ _)
  unfold Bt
  rw [hg.block B (by simp; omega) (fun e => by
    obtain ⟨cur, hc⟩ := ho.tag B e.symm
    unfold Bt at h
    rw [h] at hc
    simp only [Option.some.injEq, Obj.cells.injEq] at hc
    exact hT hc.2.1)]
  exact h1

theorem evC_len (es : List Ev) : (es.flatMap evC).length = es.length * 3 := by
  induction es with
  | nil => rfl
  | cons e r ih => rw [List.flatMap_cons, List.length_append, ih, List.length_cons]; simp [evC]; omega

/-- where an event's cells lie -/
theorem evC_get (es : List Ev) (k i : Nat) (hk : k < es.length) (hi : i < 3) : (es.flatMap evC)[k * 3 + i]? = (evC (es.getD k (0, 0, 0)))[i]? := by
  induction es generalizing k with
  | nil => simp at hk
  | cons e r ih =>
    rw [List.flatMap_cons]
    cases k with
    | zero =>
      rw [List.getElem?_append_left (by simp [evC]; omega)]
      simp
    | succ k =>
      rw [List.getElem?_append_right (by simp [evC]; omega)]
      have e1 : (k + 1) * 3 + i - (evC e).length = k * 3 + i := by simp [evC]; omega
      rw [e1, ih k (by simpa using hk)]
      simp

/-- a list of events in memory -/
structure EvL (w : World) (a : Option Addr) (n : Nat) (es : List Ev) : Prop where
  len : es.length = n
  cells : n = 0 ∨ ∃ b, a = some ⟨b, 0, none⟩ ∧ b < w.heap.size ∧ ∀ k, k < n → w.cell? ⟨b, k * 3, none⟩ = some (.int .i64 (es.getD k (0, 0, 0)).1) ∧ w.cell? ⟨b, k * 3 + 1, none⟩ = some (.int .i64 (es.getD k (0, 0, 0)).2.1) ∧ w.cell? ⟨b, k * 3 + 2, none⟩ = some (.int .i64 (es.getD k (0, 0, 0)).2.2)

theorem EvL.on {w w' : World} {a : Option Addr} {n : Nat} {es : List Ev} (h : EvL w a n es) (hb : Below w.heap.size w w') : EvL w' a n es := by
  refine ⟨h.len, ?_⟩
  rcases h.cells with h0 | ⟨b, ha, hl, hc⟩
  · exact .inl h0
  · exact .inr ⟨b, ha, Nat.lt_of_lt_of_le hl hb.size, fun k hk => ⟨keep2 hb (hc k hk).1, keep2 hb (hc k hk).2.1, keep2 hb (hc k hk).2.2⟩⟩

theorem OwnE.evl {base : Nat} {w : World} {v : Value} {es : List Ev} (h : OwnE base w v es) : ∃ a c, v = .slice a es.length c ∧ EvL w a es.length es := by
  have hh := h
  obtain ⟨h0, ⟨rfl, hn⟩ | ⟨g, cap, cur, rfl, hg, hb, r⟩⟩ := h
  · rw [hn]
    exact ⟨none, 0, rfl, by simpa using hn, .inl rfl⟩
  · have hlt : g < w.heap.size := (World.ownsRow.lt hh g rfl).2
    have hcell : ∀ k i, k < es.length → i < 3 → ∀ x, (evC (es.getD k (0, 0, 0)))[i]? = some x → w.cell? ⟨g, k * 3 + i, none⟩ = some x := fun k i hk hi x hx => by
      have := World.ownsRow.cells hh (g := g) rfl (k * 3 + i) x (by rw [evC_get es k i hk hi]; exact hx)
      rw [Addr.add_lit, Nat.zero_add] at this
      exact this
    refine ⟨_, cap, rfl, rfl, .inr ⟨g, rfl, hlt, fun k hk => ⟨hcell k 0 hk (by omega) _ rfl, hcell k 1 hk (by omega) _ rfl, hcell k 2 hk (by omega) _ rfl⟩⟩⟩

theorem cents_any (x y p o : Int) (w : World) (hx : 0 ≤ x ∧ x ≤ 1) (hy : 0 ≤ y ∧ y ≤ 12) (hp : 0 ≤ p ∧ p ≤ 1000000) (ho : 0 ≤ o ∧ o ≤ 1000000) :
    Calls Try.prog 79 #[.agg #[.int .i64 x, .int .i64 y], .int .i64 p, .int .i64 o] w fun e w' => e = .returned (.int .i64 (x * p + y * o)) ∧ Below w.heap.size w w' := by
  have a1 : 0 ≤ x * p := Int.mul_nonneg hx.1 hp.1
  have a2 : x * p ≤ 1 * 1000000 := Int.mul_le_mul hx.2 hp.2 hp.1 (by omega)
  have b1 : 0 ≤ y * o := Int.mul_nonneg hy.1 ho.1
  have b2 : y * o ≤ 12 * 1000000 := Int.mul_le_mul hy.2 ho.2 ho.1 (by omega)
  have q1 : IntKind.i64.wrap (x * p) = x * p := IntWalk.i64_in _ (by omega)
  have q2 : IntKind.i64.wrap (y * o) = y * o := IntWalk.i64_in _ (by omega)
  have q3 : IntKind.i64.wrap (x * p + y * o) = x * p + y * o := IntWalk.i64_in _ (by omega)
  go_enter Try.func79, Try.ntmps79
  go_wp2_with fail
  go_ret
  exact ⟨rfl, box_b _ _⟩

/-- the boxes of a call that counts pensions -/
structure PC (w : World) (a : Option Addr) (n : Nat) (es : List Ev) (x y : Int) (W : World) : Prop where
  r : Bx W w.heap.size [.int .i64 0, .int .i64 0]
  s : Bx W (w.heap.size + 1) [.int .i64 x, .int .i64 y]
  e : EvL w a n es
  low : Below w.heap.size w W
  sz : w.heap.size + 2 ≤ W.heap.size

theorem Bx.setI {w : World} {B : Nat} {vs : List Value} (h : Bx w B vs) (i : Nat) (v : Value) : Bx (w.setCell ⟨B, i, none⟩ v) B (vs.set i v) := by
  have hl := h.lt
  obtain ⟨T, h⟩ := h
  rw [Array.getElem?_eq_getElem hl] at h
  have h' : w.heap[B] = .cells vs.toArray T (0, 0) := by simpa using h
  refine ⟨T, ?_⟩
  show (w.heap.modify B _)[B]? = _
  rw [Array.getElem?_modify, if_pos rfl, Array.getElem?_eq_getElem hl, h']
  simp

section
variable {w : World} {a : Option Addr} {n : Nat} {es : List Ev} {x y : Int} {W W' : World}

theorem PC.on (h : PC w a n es x y W) (hb : Below W.heap.size W W') : PC w a n es x y W' := ⟨h.r.on hb, h.s.on hb, h.e, h.low.trans (hb.mono h.low.size), Nat.le_trans h.sz hb.size⟩

theorem PC.put (h : PC w a n es x y W) (x' y' : Int) : PC w a n es x' y' ((W.setCell ⟨w.heap.size + 1, 0, none⟩ (.int .i64 x')).setCell ⟨w.heap.size + 1, 1, none⟩ (.int .i64 y')) :=
  ⟨(h.r.same (far_setCell _ _ _ _ (by show w.heap.size ≠ w.heap.size + 1; omega))).same (far_setCell _ _ _ _ (by show w.heap.size ≠ w.heap.size + 1; omega)), (h.s.setI 0 (.int .i64 x')).setI 1 (.int .i64 y'), h.e, (h.low.setCell (p := ⟨w.heap.size + 1, 0, none⟩) (by show w.heap.size ≤ w.heap.size + 1; omega) _).setCell (p := ⟨w.heap.size + 1, 1, none⟩) (by show w.heap.size ≤ w.heap.size + 1; omega) _, by have := h.sz; simp [World.setCell]; omega⟩

theorem PC.new (h : EvL w a n es) (A B : TypeId) : PC w a n es 0 0 ((w.alloc (.cells #[.int .i64 0, .int .i64 0] A)).alloc (.cells #[.int .i64 0, .int .i64 0] B)) := by
  have x2 := Bx.new (w.alloc (.cells #[.int .i64 0, .int .i64 0] A)) [.int .i64 0, .int .i64 0] B
  rw [World.size_alloc] at x2
  exact ⟨(Bx.new w [.int .i64 0, .int .i64 0] A).on (box_b _ _), x2, h, (box_b _ _).alloc (by simp) _, by simp⟩
end

set_option maxHeartbeats 2000000 in
theorem ipn_any (es : List Ev) (a : Option Addr) (n c : Nat) (k : Int) (w : World) (h : EvL w a n es) (hs : SmE es) :
    Calls Try.prog 78 #[.slice a n c, .int .i64 k] w fun e w' => e = .returned (.agg #[.int .i64 (psW es k), .int .i64 (psO es k)]) ∧ Below w.heap.size w w' := by
  have HL := Lib.hid h.len
  have HS := Lib.hid hs
  have hn : n ≤ 64 := by rw [← h.len]; exact hs.1
  have HP0 := Lib.hid (PC.new h 95 95)
  have H0 : Hid (psW (es.take 0) k = 0 ∧ psO (es.take 0) k = 0) := Lib.hid ⟨rfl, rfl⟩
  have HN : Hid (psW (es.take n) k = psW es k ∧ psO (es.take n) k = psO es k) := Lib.hid (by rw [List.take_of_length_le (by rw [HL.out]; exact Nat.le_refl _)]; exact ⟨rfl, rfl⟩)
  clear h hs
  go_enter Try.func78, Try.ntmps78
  go_wp2_with fail
  go_loopw [11] (fun i wr => ∃ j : Nat, j ≤ n ∧ i = .int .i64 j ∧ Hid (PC w a n es (psW (es.take j) k) (psO (es.take j) k) wr)) (fun i _ => n - (intOf i).toNat)
  case atStart => exact ⟨0, Nat.zero_le _, rfl, Lib.hid (by rw [H0.out.1, H0.out.2]; exact HP0.out)⟩
  case round =>
    obtain ⟨j, hj, rfl, HP⟩ := hrel
    clear HP0
    by_cases hlt : j < n
    · have hje : j < es.length := by rw [HL.out]; exact hlt
      rcases (HP.out.e.on HP.out.low).cells with h0 | ⟨b, rfl, hb, hc⟩
      · omega
      obtain ⟨c0, c1, c2⟩ := hc j hlt
      have hg := HS.out.get j hje
      have hW := psW_step es k j hje
      have hO := psO_step es k j hje
      have hbd := ps_take es k j HS.out
      have hbd1 := ps_take es k (j + 1) HS.out
      obtain ⟨⟨e0, e1, e2⟩, he⟩ : ∃ y_, es.getD j (0, 0, 0) = y_ := ⟨_, rfl⟩
      rw [he] at c0 c1 c2 hg hW hO
      simp only [] at c0 c1 c2 hg hW hO
      obtain ⟨x, hx⟩ : ∃ y_, psW (es.take j) k = y_ := ⟨_, rfl⟩
      obtain ⟨y, hy⟩ : ∃ y_, psO (es.take j) k = y_ := ⟨_, rfl⟩
      rw [hx] at hW hbd HP
      rw [hy] at hO hbd HP
      have hB1 := HP.out.on (box_b wr (.cells #[.int .i64 e0, .int .i64 e1, .int .i64 e2] 109))
      have HP1 := Lib.hid hB1
      obtain ⟨s0, s1⟩ := HP1.out.s.two
      have z0 := HP1.out.s.free 0
      have z1 := HP1.out.s.free 1
      have z2 := HP.out.sz
      clear hc hb he hx hy hB1
      rcases Classical.em (e0 ≤ k) with g | g
      · rw [if_pos g] at hW hO
        have q1 : IntKind.i64.wrap (x + e1) = x + e1 := IntWalk.i64_in _ (by omega)
        have q2 : IntKind.i64.wrap (y + e2) = y + e2 := IntWalk.i64_in _ (by omega)
        have HN1 : Hid (PC w (some ⟨b, 0, none⟩) n es (psW (es.take (j + 1)) k) (psO (es.take (j + 1)) k) (((wr.alloc (.cells #[.int .i64 e0, .int .i64 e1, .int .i64 e2] 109)).setCell ⟨w.heap.size + 1, 0, none⟩ (.int .i64 (x + e1))).setCell ⟨w.heap.size + 1, 1, none⟩ (.int .i64 (y + e2)))) := Lib.hid (by rw [hW, hO]; exact HP1.out.put _ _)
        clear hW hO hbd hbd1
        go_wp2_with fail
        go_roundw
        case rel => exact ⟨j + 1, by omega, by go_num, HN1⟩
        case measure => simp [intOf]; omega
      · rw [if_neg g, Int.add_zero] at hW hO
        have g' : k < e0 := by omega
        have HN1 : Hid (PC w (some ⟨b, 0, none⟩) n es (psW (es.take (j + 1)) k) (psO (es.take (j + 1)) k) (wr.alloc (.cells #[.int .i64 e0, .int .i64 e1, .int .i64 e2] 109))) := Lib.hid (by rw [hW, hO]; exact HP1.out)
        clear hW hO hbd hbd1
        go_wp2_with fail
        go_roundw
        case rel => exact ⟨j + 1, by omega, by go_num, HN1⟩
        case measure => simp [intOf]; omega
    · obtain rfl : j = n := by omega
      rw [HN.out.1, HN.out.2] at HP
      obtain ⟨s0, s1⟩ := HP.out.s.two
      obtain ⟨r0, r1⟩ := HP.out.r.two
      have z0 := HP.out.r.free 0
      have z1 := HP.out.r.free 1
      go_wp2_with fail
      refine bodyPost_ret (v := .agg #[.int .i64 (psW es k), .int .i64 (psO es k)]) ?_ rfl ⟨rfl, ?_⟩
      · simp [results, Try.results78, go_sem, r0, r1]
      · exact (HP.out.low.setCell (by simp) _).setCell (by simp) _

end Go.Proofs.Ytmnddplkmljeaaa
