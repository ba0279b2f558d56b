/- Families: the program: all events of a family; changes. (Written by wip/gen/fmf.py.) -/
import Derived.Test.YtmnddplkmljeaaaFme
import Derived.Laws.EntriesVeiled
import Derived.Shelf.Abstract
namespace Go.Proofs.Ytmnddplkmljeaaa
open Go.ChangeShapes Go.WideShapes Go.ChangeAt Go.RowKit
set_option linter.unusedVariables false
set_option linter.unusedSimpArgs false
set_option maxRecDepth 100000

/-- the events of the first kinds -/
def evP (d v l : Int) (ch : List Int) : Nat → List Ev
  | 0 => []
  | k + 1 => evP d v l ch k ++ kdE (kmL d v l ch k) (kmA k) (kmB k)

theorem evP_all (d v l : Int) (ch : List Int) : evP d v l ch 4 = evs d v l ch := by
  simp [evP, evs, kmL, kmA, kmB]

theorem kmL_len {d v l : Int} {ch : List Int} (h : ch.length ≤ 12) (k : Nat) : (kmL d v l ch k).length ≤ 12 := by
  match k with
  | 0 => have := tell_len v; show (tellL v).length ≤ 12; omega
  | 1 => have := tell_len l; show (tellL l).length ≤ 12; omega
  | 2 => show (chA d 0 ch).length ≤ 12; simp [chA, h]
  | k + 3 => show (chA d 192 ch).length ≤ 12; simp [chA, h]

theorem evP_len {d v l : Int} {ch : List Int} (h : ch.length ≤ 12) (k : Nat) : (evP d v l ch k).length ≤ 12 * k := by
  induction k with
  | zero => simp [evP]
  | succ k ih =>
    have := kmL_len (d := d) (v := v) (l := l) h k
    rw [evP, List.length_append]
    simp only [kdE, List.length_map]
    omega

theorem kd_get (k : Nat) (hk : k < 4) : ([.func (.func (kmI 0)) #[] #[], .int .i64 1, .int .i64 0, .func (.func (kmI 1)) #[] #[], .int .i64 (-1), .int .i64 0, .func (.func (kmI 2)) #[] #[], .int .i64 0, .int .i64 1, .func (.func (kmI 3)) #[] #[], .int .i64 0, .int .i64 (-1)] : List Value)[k * 3]? = some (.func (.func (kmI k)) #[] #[]) ∧ ([.func (.func (kmI 0)) #[] #[], .int .i64 1, .int .i64 0, .func (.func (kmI 1)) #[] #[], .int .i64 (-1), .int .i64 0, .func (.func (kmI 2)) #[] #[], .int .i64 0, .int .i64 1, .func (.func (kmI 3)) #[] #[], .int .i64 0, .int .i64 (-1)] : List Value)[k * 3 + 1]? = some (.int .i64 (kmA k)) ∧ ([.func (.func (kmI 0)) #[] #[], .int .i64 1, .int .i64 0, .func (.func (kmI 1)) #[] #[], .int .i64 (-1), .int .i64 0, .func (.func (kmI 2)) #[] #[], .int .i64 0, .int .i64 1, .func (.func (kmI 3)) #[] #[], .int .i64 0, .int .i64 (-1)] : List Value)[k * 3 + 2]? = some (.int .i64 (kmB k)) := by
  match k, hk with
  | 0, _ => exact ⟨rfl, rfl, rfl⟩
  | 1, _ => exact ⟨rfl, rfl, rfl⟩
  | 2, _ => exact ⟨rfl, rfl, rfl⟩
  | 3, _ => exact ⟨rfl, rfl, rfl⟩

theorem km_enter (k : Nat) (args : Array Value) (w : World) : (callFunc (kmI k) args).run Try.prog w = .ok (.enter (kmI k) args) w := by
  match k with
  | 0 => exact enters_of Try.func121 (by kernel_rfl) rfl args w
  | 1 => exact enters_of Try.func122 (by kernel_rfl) rfl args w
  | 2 => exact enters_of Try.func123 (by kernel_rfl) rfl args w
  | k + 3 => exact enters_of Try.func124 (by kernel_rfl) rfl args w

/-- while events are gathered: the family, the kinds, the events so far -/
structure EG (w : World) (d m v l : Int) (a : Option Addr) (n c : Nat) (ch : List Int) (B : Nat) (z : Value) (es : List Ev) (W : World) : Prop where
  fb : FB w d m v l a n c ch W
  i0 : Ints w a n ch
  kd : Bt W B [.func (.func (kmI 0)) #[] #[], .int .i64 1, .int .i64 0, .func (.func (kmI 1)) #[] #[], .int .i64 (-1), .int .i64 0, .func (.func (kmI 2)) #[] #[], .int .i64 0, .int .i64 1, .func (.func (kmI 3)) #[] #[], .int .i64 0, .int .i64 (-1)] 129
  own : OwnE (w.heap.size + 1) W z es
  sz : (w.heap.size + 1) ≤ W.heap.size

section
variable {w : World} {d m v l : Int} {a : Option Addr} {n c : Nat} {ch : List Int} {B : Nat} {z : Value} {es : List Ev} {W W' : World}

theorem EG.on (h : EG w d m v l a n c ch B z es W) (hb : Below W.heap.size W W') : EG w d m v l a n c ch B z es W' := ⟨h.fb.on hb, h.i0, h.kd.on hb, h.own.on hb, Nat.le_trans h.sz hb.size⟩

theorem EG.below (h : EG w d m v l a n c ch B z es W) {o : Obj} {w1 : World} (hg : (W.alloc o).grownBy w1 z.ownBlock) : Below (w.heap.size + 1) W w1 :=
  ((Below.refl _ _).alloc h.sz o).grown hg (by have := h.sz; simp; omega) fun k hk => (World.ownsRow.lt h.own k hk).1

/-- one more event -/
theorem EG.add (h : EG w d m v l a n c ch B z es W) {o : Obj} {w1 : World} {z' : Value} {e : Ev} (hg : (W.alloc o).grownBy w1 z.ownBlock) (ho : w1.ownsRow (w.heap.size + 1) 109 3 z' (es.length + 1) (es.flatMap evC ++ [.int .i64 e.1, .int .i64 e.2.1, .int .i64 e.2.2])) : EG w d m v l a n c ch B z' (es ++ [e]) w1 := by
  have hb := h.below hg
  refine ⟨h.fb.cut h.i0 hb, h.i0, h.kd.grown h.own hg (by decide), ?_, Nat.le_trans h.sz hb.size⟩
  unfold OwnE
  rw [List.length_append, List.length_singleton, List.flatMap_append]
  simpa [evC] using ho
end

set_option maxHeartbeats 8000000 in
theorem iev_any (d m v l : Int) (ch : List Int) (a : Option Addr) (n c : Nat) (w : World) (h : Ints w a n ch) (hf : FmOk d m v l ch) :
    Calls Try.prog 77 #[.agg #[.int .i64 d, .int .i64 m, .int .i64 v, .int .i64 l, .slice a n c]] w fun e w' => ∃ x q, e = .returned (.slice x (evs d v l ch).length q) ∧ EvL w' x (evs d v l ch).length (evs d v l ch) ∧ Below w.heap.size w w' := by
  obtain ⟨i0, hi, hz0, hz1, hz2⟩ := info_parts infoE
  have HL := Lib.hid h.len
  have HI := Lib.hid h
  have HLEN := Lib.hid (fun k => evP_len (d := d) (v := v) (l := l) hf.2.2.2.2.1 k)
  have HLM := Lib.hid (fun k => kmL_len (d := d) (v := v) (l := l) hf.2.2.2.2.1 k)
  have HALL := Lib.hid (evP_all d v l ch)
  have CK : Hid (∀ k W, Hid (FB w d m v l a n c ch W) → Calls Try.prog (kmI k) #[.agg #[.int .i64 d, .int .i64 m, .int .i64 v, .int .i64 l, .slice a n c]] W (LsP (kmL d v l ch k) W)) := Lib.hid (fun k W hW => ikm_any d m v l ch a n c k W hW.out.i hf)
  have HB0 := Lib.hid ((FB.new w d m v l (c := c) h).box (.cells #[] 109))
  have HO0 : Hid (OwnE (w.heap.size + 1) ((w.alloc (.cells #[.int .i64 d, .int .i64 m, .int .i64 v, .int .i64 l, .slice a n c] 26)).alloc (.cells #[] 109)) (.slice (some ⟨(w.heap.size + 1), 0, none⟩) 0 0) []) := Lib.hid (by
    have := ownE_new (w.alloc (.cells #[.int .i64 d, .int .i64 m, .int .i64 v, .int .i64 l, .slice a n c] 26))
    rw [World.size_alloc] at this
    exact this)
  have HZ0 : Hid (((w.alloc (.cells #[.int .i64 d, .int .i64 m, .int .i64 v, .int .i64 l, .slice a n c] 26)).alloc (.cells #[] 109)).heap.size = w.heap.size + 2) := Lib.hid (by simp)
  clear h hf
  go_enter Try.func77, Try.ntmps77
  go_wp2_with fail
  obtain ⟨W0, hW0⟩ : ∃ y_, (w.alloc (.cells #[.int .i64 d, .int .i64 m, .int .i64 v, .int .i64 l, .slice a n c] 26)).alloc (.cells #[] 109) = y_ := ⟨_, rfl⟩
  rw [hW0] at HB0 HO0 HZ0 ⊢
  clear hW0
  refine (iek_any _).mono ?_
  rintro e w1 ⟨B, rfl, hkd, hb⟩
  have HE0 : Hid (EG w d m v l a n c ch B (.slice (some ⟨(w.heap.size + 1), 0, none⟩) 0 0) (evP d v l ch 0) w1) := Lib.hid ⟨HB0.out.on hb, HI.out, hkd, HO0.out.on hb, by have := hb.size; have := HZ0.out; omega⟩
  clear hkd hb HB0 HO0 HZ0
  go_wp2_with fail
  go_loopw [3, 11] (fun z i wr => ∃ k : Nat, k ≤ 4 ∧ i = .int .i64 k ∧ Hid (EG w d m v l a n c ch B z (evP d v l ch k) wr)) (fun _ i _ => 4 - (intOf i).toNat)
  case atStart => exact ⟨0, by omega, rfl, HE0⟩
  case round =>
    obtain ⟨k, hk, rfl, HE⟩ := hrel
    clear HE0
    by_cases hlt : k < 4
    · obtain ⟨g0, g1, g2⟩ := kd_get k hlt
      have c0 := HE.out.kd.cell (k * 3) g0
      have c1 := HE.out.kd.cell (k * 3 + 1) g1
      have c2 := HE.out.kd.cell (k * 3 + 2) g2
      have CK1 := Lib.hid (CK.out k)
      have hen := km_enter k
      have HSTEP : Hid (evP d v l ch (k + 1) = evP d v l ch k ++ kdE (kmL d v l ch k) (kmA k) (kmB k)) := Lib.hid rfl
      have HLE := HLEN.out k
      have HLK := HLM.out k
      obtain ⟨FN, hFN⟩ : ∃ y_, kmI k = y_ := ⟨_, rfl⟩
      obtain ⟨p, hp⟩ : ∃ y_, kmA k = y_ := ⟨_, rfl⟩
      obtain ⟨q, hq⟩ : ∃ y_, kmB k = y_ := ⟨_, rfl⟩
      obtain ⟨ms, hms⟩ : ∃ y_, kmL d v l ch k = y_ := ⟨_, rfl⟩
      obtain ⟨pre, hpre⟩ : ∃ y_, evP d v l ch k = y_ := ⟨_, rfl⟩
      rw [hFN] at c0 CK1 hen
      rw [hp] at c1 HSTEP
      rw [hq] at c2 HSTEP
      rw [hms] at CK1 HSTEP HLK
      rw [hpre] at HE HSTEP HLE
      have HE1 := Lib.hid (HE.out.on (box_b wr (.cells #[.func (.func FN) #[] #[], .int .i64 p, .int .i64 q] 129)))
      have HX1 := Lib.hid (Bt.new wr [.func (.func FN) #[] #[], .int .i64 p, .int .i64 q] 129)
      obtain ⟨f0, f1, f2, f3, f4, HF1⟩ := fbS HE1.out.fb
      clear g0 g1 g2 hFN hp hq hms hpre
      go_wp2_with fail
      (with_reducible refine (CK1.out _ HF1).mono ?_)
      rintro e w2 ⟨x, len, cq, rfl, ⟨hlen, hms⟩, hb⟩
      have HE2 := Lib.hid (HE1.out.on hb)
      have HX2 := Lib.hid (HX1.out.on hb)
      have HM2 := Lib.hid hms
      have HLM2 := Lib.hid hlen
      have hl12 : len ≤ 12 := by omega
      obtain ⟨X, hX⟩ : ∃ y_, wr.heap.size = y_ := ⟨_, rfl⟩
      rw [hX] at HX2
      have HI0 : Hid (pre ++ kdE (ms.take 0) p q = pre) := Lib.hid (by simp [kdE])
      have HIN : Hid (pre ++ kdE (ms.take len) p q = evP d v l ch (k + 1)) := Lib.hid (by rw [HSTEP.out, List.take_of_length_le (by omega)])
      have HIS : Hid (∀ j, j < len → pre ++ kdE (ms.take (j + 1)) p q = (pre ++ kdE (ms.take j) p q) ++ [(ms.getD j 0, p, q)]) := Lib.hid (fun j hj => by
        rw [take_snoc' ms j 0 (by omega)]
        simp [kdE])
      have HPL : Hid (pre.length ≤ 48) := Lib.hid (by omega)
      obtain ⟨x1, x2, x3⟩ : w2.cell? ⟨X, 0, none⟩ = some (.func (.func FN) #[] #[]) ∧ w2.cell? ⟨X, 1, none⟩ = some (.int .i64 p) ∧ w2.cell? ⟨X, 2, none⟩ = some (.int .i64 q) := ⟨HX2.out.cell 0 rfl, HX2.out.cell 1 rfl, HX2.out.cell 2 rfl⟩
      clear hb hms hlen hen CK1 HX1 HE1 HF1 f0 f1 f2 f3 f4 c0 c1 c2
      go_wp2_with fail
      (try rw [hX])
      clear hX x1 x2 x3
      go_loopw [3, 20] (fun z i wr2 => ∃ j : Nat, j ≤ len ∧ i = .int .i64 j ∧ Hid (EG w d m v l a n c ch B z (pre ++ kdE (ms.take j) p q) wr2) ∧ Hid (Bt wr2 X [.func (.func FN) #[] #[], .int .i64 p, .int .i64 q] 129) ∧ Hid (len = 0 ∨ ∃ Bm, x = some ⟨Bm, 0, none⟩ ∧ Blk wr2 Bm ms)) (fun _ i _ => len - (intOf i).toNat)
      case atStart => exact ⟨0, Nat.zero_le _, rfl, Lib.hid (by rw [HI0.out]; exact HE2.out), HX2, HM2⟩
      case round =>
        obtain ⟨j, hj, rfl, HEr, HXr, HMr⟩ := hrel
        clear HE2 HX2 HM2
        by_cases hlt2 : j < len
        · rcases HMr.out with h0 | ⟨Bm, rfl, hbm⟩
          · omega
          have HBM := Lib.hid hbm
          have hy := hbm.cell j (by have := HLM2.out; omega)
          have HSn := Lib.hid (HIS.out j hlt2)
          obtain ⟨y, hyy⟩ : ∃ y_, ms.getD j 0 = y_ := ⟨_, rfl⟩
          rw [hyy] at hy HSn
          have x1 := HXr.out.cell 1 rfl
          have x2 := HXr.out.cell 2 rfl
          have hel : (pre ++ kdE (ms.take j) p q).length ≤ 60 := by
            have := HPL.out
            have hh : (ms.take j).length ≤ 12 := Nat.le_trans (by rw [List.length_take]; exact Nat.min_le_left _ _) (by omega : j ≤ 12)
            rw [List.length_append]
            simp only [kdE, List.length_map]
            omega
          obtain ⟨es, hes⟩ : ∃ y_, pre ++ kdE (ms.take j) p q = y_ := ⟨_, rfl⟩
          rw [hes] at HEr HSn hel
          have hown := HEr.out.own
          unfold OwnE at hown
          have hsz := HEr.out.sz
          clear hbm hyy hes
          go_wp2_with (at_builtin; go_must (refine wpList_append_own _ rfl _ _ 92 rfl (w.heap.size + 1) 109 i0 (.agg #[.int .i64 0, .int .i64 0, .int .i64 0]) 3 24 Try.underlying92 hi hz0 hz1 hz2 rfl (by decide) _ _ _ rfl (World.ownsRow.alloc hown _) ⟨wr.heap.size, 0, none⟩ 1 1 [.int .i64 y, .int .i64 p, .int .i64 q] rfl rfl ?c1_1 ?c1_2 ?c1_3 ?c1_4 ?c1_5 ?_))
          case c1_1 =>
            intro j u hj
            match j, hj with
            | 0, hj => simp at hj; subst hj; simp [Addr.add]
            | 1, hj => simp at hj; subst hj; simp [Addr.add]
            | 2, hj => simp at hj; subst hj; simp [Addr.add]
          case c1_2 =>
            intro u hu
            simp at hu
            rcases hu with rfl | rfl | rfl <;> rfl
          case c1_3 => unfold maxLen; omega
          case c1_4 => omega
          case c1_5 => simp; omega
          intro v' w5 hown' hgrow _
          have HE5 : Hid (EG w d m v l a n c ch B v' (pre ++ kdE (ms.take (j + 1)) p q) w5) := Lib.hid (by rw [HSn.out]; exact HEr.out.add hgrow hown')
          have HX5 := Lib.hid (HXr.out.grown HEr.out.own hgrow (by decide))
          have HM5 : Hid (len = 0 ∨ ∃ Bm_, (some ⟨Bm, 0, none⟩ : Option Addr) = some ⟨Bm_, 0, none⟩ ∧ Blk w5 Bm_ ms) := Lib.hid (.inr ⟨Bm, rfl, Bt.grown (vs := ms.map (Value.int .i64)) (T := 2) HBM.out HEr.out.own hgrow (by decide)⟩)
          clear hown hown' hgrow x1 x2 hy
          go_wp2_with fail
          go_roundw
          case rel => exact ⟨j + 1, by omega, by go_num, HE5, HX5, HM5⟩
          case measure => simp [intOf]; omega
        · obtain rfl : j = len := by omega
          have HE5 := HEr
          rw [HIN.out] at HE5
          go_wp2_with fail
          go_roundw
          case rel => exact ⟨k + 1, by omega, by go_num, HE5⟩
          case measure => simp [intOf]; omega
    · obtain rfl : k = 4 := by omega
      rw [HALL.out] at HE
      obtain ⟨x, y, rfl, hx⟩ := HE.out.own.evl
      have HX := Lib.hid hx
      clear hx
      go_wp2_with fail
      go_ret
      exact ⟨_, _, rfl, HX.out, HE.out.fb.low⟩

set_option maxHeartbeats 1000000 in
theorem icg_any (es : List Ev) (a : Option Addr) (n c : Nat) (k : Int) (w : World) (h : EvL w a n es) (hs : SmE es) (k0 : 0 ≤ k) (k1 : k ≤ 40000) :
    Calls Try.prog 92 #[.slice a n c, .int .i64 k] w fun e w' => e = .returned (.bool (evB es k)) ∧ Below w.heap.size w w' := by
  have H := Lib.hid h
  have q1 : IntKind.i64.wrap (k - 1) = k - 1 := IntWalk.i64_in _ (by omega)
  have C0 : Hid (∀ W, Hid (Below w.heap.size w W) → Calls Try.prog 78 #[.slice a n c, .int .i64 k] W fun e w' => e = .returned (.agg #[.int .i64 (psW es k), .int .i64 (psO es k)]) ∧ Below W.heap.size W w') := Lib.hid (fun W hW => ipn_any es a n c k W (H.out.on hW.out) hs)
  have C1 : Hid (∀ W, Hid (Below w.heap.size w W) → Calls Try.prog 78 #[.slice a n c, .int .i64 (k - 1)] W fun e w' => e = .returned (.agg #[.int .i64 (psW es (k - 1)), .int .i64 (psO es (k - 1))]) ∧ Below W.heap.size W w') := Lib.hid (fun W hW => ipn_any es a n c (k - 1) W (H.out.on hW.out) hs)
  have HV : Hid (evB es k = decide (¬ (psW es k = psW es (k - 1) ∧ psO es k = psO es (k - 1)))) := Lib.hid rfl
  obtain ⟨x, hx⟩ : ∃ y_, psW es k = y_ := ⟨_, rfl⟩
  obtain ⟨y, hy⟩ : ∃ y_, psO es k = y_ := ⟨_, rfl⟩
  obtain ⟨x1, hx1⟩ : ∃ y_, psW es (k - 1) = y_ := ⟨_, rfl⟩
  obtain ⟨y1, hy1⟩ : ∃ y_, psO es (k - 1) = y_ := ⟨_, rfl⟩
  rw [hx, hy] at C0
  rw [hx1, hy1] at C1
  rw [hx, hy, hx1, hy1] at HV
  have HW0 : Hid (Below w.heap.size w w) := Lib.hid (Below.refl _ _)
  clear h hs hx hy hx1 hy1
  have key : ∀ R : Bool, decide (¬ (x = x1 ∧ y = y1)) = R → Calls Try.prog 92 #[.slice a n c, .int .i64 k] w fun e w' => e = .returned (.bool R) ∧ Below w.heap.size w w' := by
    intro R hR
    rcases Classical.em (x = x1) with e1 | e1
    · rcases Classical.em (y = y1) with e2 | e2
      · have HR : Hid (R = false) := Lib.hid (by rw [← hR]; simp [e1, e2])
        subst e1 e2
        clear hR HV k0 k1
        go_enter Try.func92, Try.ntmps92
        go_wp2_with fail
        (with_reducible refine (C0.out _ HW0).mono ?_)
        rintro e w1 ⟨rfl, hb⟩
        have HW1 := Lib.hid (HW0.out.trans hb)
        clear hb
        go_wp2_with fail
        (with_reducible refine (C1.out _ HW1).mono ?_)
        rintro e w2 ⟨rfl, hb⟩
        have HW2 := Lib.hid (HW1.out.trans (hb.mono HW1.out.size))
        clear hb
        go_wp2_with fail
        go_ret
        exact ⟨ret_bool (by first | (rw [HR.out]; done) | (rw [HR.out]; simp)), HW2.out⟩
      · have HR : Hid (R = true) := Lib.hid (by rw [← hR]; simp [e2])
        subst e1
        clear hR HV k0 k1
        go_enter Try.func92, Try.ntmps92
        go_wp2_with fail
        (with_reducible refine (C0.out _ HW0).mono ?_)
        rintro e w1 ⟨rfl, hb⟩
        have HW1 := Lib.hid (HW0.out.trans hb)
        clear hb
        go_wp2_with fail
        (with_reducible refine (C1.out _ HW1).mono ?_)
        rintro e w2 ⟨rfl, hb⟩
        have HW2 := Lib.hid (HW1.out.trans (hb.mono HW1.out.size))
        clear hb
        go_wp2_with fail
        go_ret
        exact ⟨ret_bool (by first | (rw [HR.out]; done) | (rw [HR.out]; simp [e2])), HW2.out⟩
    · have HR : Hid (R = true) := Lib.hid (by rw [← hR]; simp [e1])
      clear hR HV k0 k1
      go_enter Try.func92, Try.ntmps92
      go_wp2_with fail
      (with_reducible refine (C0.out _ HW0).mono ?_)
      rintro e w1 ⟨rfl, hb⟩
      have HW1 := Lib.hid (HW0.out.trans hb)
      clear hb
      go_wp2_with fail
      (with_reducible refine (C1.out _ HW1).mono ?_)
      rintro e w2 ⟨rfl, hb⟩
      have HW2 := Lib.hid (HW1.out.trans (hb.mono HW1.out.size))
      clear hb
      go_wp2_with fail
      go_ret
      exact ⟨ret_bool (by first | (rw [HR.out]; done) | (rw [HR.out]; simp [e1])), HW2.out⟩
  exact key _ HV.out.symm

end Go.Proofs.Ytmnddplkmljeaaa
