/- Merged: Tsc. -/
import Derived.Test.YtpphiekbhikadaaTa14

/- Tontines: the model: members are buried. (Written by wip/gen/tsc.py.) -/
namespace Go.Proofs.Ytpphiekbhikadaa
open Go.ChangeShapes Go.WideShapes Go.ChangeAt Go.RowKit
set_option linter.unusedVariables false
set_option linter.unusedSimpArgs false
set_option maxRecDepth 100000

/-- while members are buried: the result's box, the class that is built in block X, its lists -/
structure BUr (w : World) (X g n q : Nat) (sh : List Int) (h m d : Nat) (Z : List Int) (ch : Int) (W : World) : Prop where
  r : Bx W (w.heap.size + 1) [.slice none 0 0, .slice none 0 0, .int .i64 0]
  o : Bx W X [.slice (some ⟨g, 0, none⟩) n q, .slice (some ⟨h, 0, none⟩) m d, .int .i64 ch]
  f : Fin2 (w.heap.size + 2) W g n q sh h m d Z
  low : Below w.heap.size w W
  x0 : w.heap.size + 2 ≤ X
  gx : g ≠ X
  hx : h ≠ X

theorem own_at {base g n q : Nat} {w w' : World} {xs : List Int} (h : OwnI base w (.slice (some ⟨g, 0, none⟩) n q) xs) (hg : w'.heap[g]? = w.heap[g]?) : OwnI base w' (.slice (some ⟨g, 0, none⟩) n q) xs := by
  obtain ⟨h0, h1 | ⟨g', cap, cur, hv, hb, hh, r⟩⟩ := h
  · exact ⟨h0, .inl h1⟩
  · have hgg : g = g' := by simp only [Value.slice.injEq, Option.some.injEq, Addr.mk.injEq] at hv; exact hv.1.1
    subst hgg
    exact ⟨h0, .inr ⟨g, cap, cur, hv, hb, by rw [hg]; exact hh, r⟩⟩

theorem BUr.up {w : World} {X g n q : Nat} {sh : List Int} {h m d : Nat} {Z : List Int} {ch : Int} {W W' : World} {B : Nat} (b : BUr w X g n q sh h m d Z ch W) (hb : Below B W W') (hB : X < B ∧ g < B ∧ h < B := by exact ⟨by omega, by omega, by omega⟩) (hB2 : w.heap.size + 2 ≤ B := by omega) : BUr w X g n q sh h m d Z ch W' :=
  ⟨b.r.same (hb.block _ (by omega)), b.o.same (hb.block _ hB.1), ⟨⟨own_at b.f.1.1 (hb.block _ hB.2.1), b.f.1.2⟩, ⟨own_at b.f.2.1.1 (hb.block _ hB.2.2), b.f.2.1.2⟩, b.f.2.2⟩, b.low.trans (hb.mono (by omega)), b.x0, b.gx, b.hx⟩

theorem BUr.lt {w : World} {X g n q : Nat} {sh : List Int} {h m d : Nat} {Z : List Int} {ch : Int} {W : World} (b : BUr w X g n q sh h m d Z ch W) : X < W.heap.size ∧ g < W.heap.size ∧ h < W.heap.size := ⟨b.o.lt, (World.ownsRow.lt b.f.1.1 g rfl).2, (World.ownsRow.lt b.f.2.1.1 h rfl).2⟩

theorem BUr.on {w : World} {X g n q : Nat} {sh : List Int} {h m d : Nat} {Z : List Int} {ch : Int} {W W' : World} (b : BUr w X g n q sh h m d Z ch W) (hb : Below W.heap.size W W') : BUr w X g n q sh h m d Z ch W' := b.up hb b.lt (by have := b.lt; have := b.x0; omega)

theorem BUr.drew {w : World} {X g n q : Nat} {sh : List Int} {h m d : Nat} {Z : List Int} {ch : Int} {W : World} (b : BUr w X g n q sh h m d Z ch W) : BUr w X g n q sh h m d Z ch W.drew := b.on (Below.drew (Below.refl _ _))

theorem BUr.row {w : World} {X g n q : Nat} {sh : List Int} {h m d : Nat} {Z : List Int} {ch : Int} {W : World} (b : BUr w X g n q sh h m d Z ch W) : RowI W h 0 Z := by
  obtain ⟨g', c', hv, -, -, -, -, hr⟩ := own_some b.f.2.1.1 (by simp)
  have : h = g' := by simp only [Value.slice.injEq, Option.some.injEq, Addr.mk.injEq] at hv; exact hv.1.1
  subst this
  exact hr

theorem BUr.cap {w : World} {X g n q : Nat} {sh : List Int} {h m d : Nat} {Z : List Int} {ch : Int} {W : World} (b : BUr w X g n q sh h m d Z ch W) : Z.length = m ∧ m ≤ d := by
  obtain ⟨g', c', hv, -, -, hc, -, -⟩ := own_some b.f.2.1.1 (by simp)
  simp only [Value.slice.injEq] at hv
  have := b.f.2.1.2
  omega

theorem buS {w : World} {X g n q : Nat} {sh : List Int} {h m d : Nat} {Z : List Int} {ch : Int} {W : World} {p : Addr} {i : Int} (b : BUr w X g n q sh h m d Z ch W) (hc : W.cell? p = some (.int .i64 i)) : W.cell? ⟨X, 1, none⟩ = some (.slice (some ⟨h, 0, none⟩) m d) ∧ W.cell? p = some (.int .i64 i) ∧ Hid (BUr w X g n q sh h m d Z ch W) := ⟨b.o.threeT.2.1, hc, Lib.hid b⟩

/-- the same, in a world not smaller than size -/
structure BUx (w : World) (X g n q : Nat) (sh : List Int) (h m d : Nat) (Z : List Int) (ch : Int) (size : Nat) (W : World) : Prop where
  bu : BUr w X g n q sh h m d Z ch W
  low2 : size ≤ W.heap.size

/-- the new list is stored -/
theorem BUr.put {w : World} {X g n q : Nat} {sh : List Int} {h m d : Nat} {Z : List Int} {ch : Int} {W : World} {size g6 n6 c6 : Nat} {Y : List Int} (b : BUr w X g n q sh h m d Z ch W) (ho : OwnI size W (.slice (some ⟨g6, 0, none⟩) n6 c6) Y) (hs : X < size ∧ g < size) (hn : Y.length = n6 := by rfl) : BUr w X g n q sh g6 n6 c6 Y ch (W.setCell ⟨X, 1, none⟩ (.slice (some ⟨g6, 0, none⟩) n6 c6)) := by
  have hl := World.ownsRow.lt ho g6 rfl
  have hx0 := b.x0
  refine ⟨b.r.same (far_setCell _ _ _ _ (by show _ ≠ X; omega)), b.o.setAt 1 _, ⟨⟨own_at b.f.1.1 (far_setCell _ _ _ _ b.gx), b.f.1.2⟩, ⟨own_at (OwnI.mono ho (by omega)) (far_setCell _ _ _ _ (by show g6 ≠ X; omega)), hn⟩, by omega⟩, b.low.setCell (p := ⟨X, 1, none⟩) (by show _ ≤ X; omega) _, b.x0, b.gx, by omega⟩

theorem one_ints (W : World) (x : Int) : Ints (W.alloc (.cells #[.int .i64 x] 2)) (some ⟨W.heap.size, 0, none⟩) 1 [x] :=
  ⟨rfl, by omega, .inr ⟨_, 0, rfl, fun i hi => by
    obtain rfl : i = 0 := by omega
    rw [Nat.zero_add]
    exact (Bx.new W [.int .i64 x] 2).oneT⟩⟩

theorem own_tbr {base : Nat} {W : World} {a : Option Addr} {n q : Nat} {xs : List Int} (h : OwnI base W (.slice a n q) xs) (hl : xs.length = n) (hm : n ≤ 4096) : TbR base W a n xs := by
  obtain ⟨a', c', hv, ht⟩ := own_tb h (by omega)
  cases hv
  rw [← hl]
  exact ht

theorem Fin2.ce {base c : Nat} {W : World} {g n q h m d : Nat} {xs ys : List Int} (f : Fin2 base W g n q xs h m d ys) (hc : c ≤ base) (hx : xs.length ≤ 4096) (hy : ys.length ≤ 4096) : TbR c W (some ⟨g, 0, none⟩) n xs ∧ TbR c W (some ⟨h, 0, none⟩) m ys ∧ Aprt (some ⟨g, 0, none⟩) (some ⟨h, 0, none⟩) := by
  refine ⟨tb_mono (own_tbr f.1.1 f.1.2 (by rw [← f.1.2]; exact hx)) hc, tb_mono (own_tbr f.2.1.1 f.2.1.2 (by rw [← f.2.1.2]; exact hy)) hc, fun x y h1 h2 => ?_⟩
  cases h1; cases h2
  exact f.2.2

/-- a class with own lists, and a code -/
def CxPost (sh de : List Int) (ch : Int) (w : World) (e : Ending) (w' : World) : Prop :=
  ∃ g n q h m d, e = .returned (.tuple #[.agg #[.slice (some ⟨g, 0, none⟩) n q, .slice (some ⟨h, 0, none⟩) m d, .int .i64 ch], .int .i64 0]) ∧ Fin2 (w.heap.size + 2) w' g n q sh h m d de ∧ Below w.heap.size w w'

def BvPost (sh D ms : List Int) (ch : Int) (w : World) (e : Ending) (w' : World) : Prop :=
  (buB D ms = true → CxPost sh (canD (D ++ ms) sh.length) ch w e w') ∧ (buB D ms = false → e = .returned (.tuple #[.agg #[.slice none 0 0, .slice none 0 0, .int .i64 0], .int .i64 5]) ∧ Below w.heap.size w w')

theorem BUr.stored {w : World} {X g n q : Nat} {sh : List Int} {h m d : Nat} {Z : List Int} {ch : Int} {W : World} {p r t : Value} (b : BUr w X g n q sh h m d Z ch W) :
    (((W.setCell ⟨w.heap.size + 1, 0, none⟩ p).setCell ⟨w.heap.size + 1, 1, none⟩ r).setCell ⟨w.heap.size + 1, 2, none⟩ t).cell? ⟨w.heap.size + 1, 0, none⟩ = some p ∧
    (((W.setCell ⟨w.heap.size + 1, 0, none⟩ p).setCell ⟨w.heap.size + 1, 1, none⟩ r).setCell ⟨w.heap.size + 1, 2, none⟩ t).cell? ⟨w.heap.size + 1, 1, none⟩ = some r ∧
    (((W.setCell ⟨w.heap.size + 1, 0, none⟩ p).setCell ⟨w.heap.size + 1, 1, none⟩ r).setCell ⟨w.heap.size + 1, 2, none⟩ t).cell? ⟨w.heap.size + 1, 2, none⟩ = some t ∧
    Below w.heap.size w (((W.setCell ⟨w.heap.size + 1, 0, none⟩ p).setCell ⟨w.heap.size + 1, 1, none⟩ r).setCell ⟨w.heap.size + 1, 2, none⟩ t) ∧
    Fin2 (w.heap.size + 2) (((W.setCell ⟨w.heap.size + 1, 0, none⟩ p).setCell ⟨w.heap.size + 1, 1, none⟩ r).setCell ⟨w.heap.size + 1, 2, none⟩ t) g n q sh h m d Z := by
  obtain ⟨e0, e1, e2⟩ := (sets3_box (p := p) (q := r) (r := t) b.r).threeT
  exact ⟨e0, e1, e2, ((b.low.setCell (p := ⟨w.heap.size + 1, 0, none⟩) (by show w.heap.size ≤ w.heap.size + 1; omega) _).setCell (p := ⟨w.heap.size + 1, 1, none⟩) (by show w.heap.size ≤ w.heap.size + 1; omega) _).setCell (p := ⟨w.heap.size + 1, 2, none⟩) (by show w.heap.size ≤ w.heap.size + 1; omega) _, b.f.up (c := 0) (fun k hk _ => sets3_far _ _ _ _ _ k (by omega))⟩

set_option maxHeartbeats 16000000 in
theorem sbu_any (sh de D Z0 ms : List Int) (a x y : Option Addr) (l c n0 d0 mm kk : Nat) (ch c0 : Int) (w : World) (ha : Ints w a l sh) (hz : Ints w x n0 (canD D sh.length)) (hms : Ints w y mm ms) (hok : TcOk sh de c0) (hin : ∀ m ∈ ms, 0 ≤ m ∧ m < sh.length) :
    Calls Try.prog 53 #[.agg #[.slice a l c, .slice x n0 d0, .int .i64 ch], .slice y mm kk] w (BvPost sh D ms ch w) := by
  have H := Lib.hid ha
  have F := Lib.hid hms
  have HL := Lib.hid ha.len
  have FL := Lib.hid hms.len
  have hmm := hms.max
  have HO := Lib.hid hok
  have HIN := Lib.hid hin
  have HX0 := Lib.hid (XB.new w (.slice a l c) (.slice x n0 d0) ch 26 26)
  have CW : Hid (∀ W, Hid (XB w (.slice a l c) (.slice x n0 d0) ch W) → Calls Try.prog 52 #[.agg #[.slice a l c, .slice x n0 d0, .int .i64 ch]] W (CwPost sh (canD D sh.length) ch W)) := Lib.hid (fun W hW => soC_any sh (canD D sh.length) a x l c n0 d0 ch W (ha.on hW.out.low) (hz.on hW.out.low) (by have := ha.len; have := hok.n1; omega) (by have := hz.len; have := liv_can D sh.length; have := hok.n1; omega))
  have hl60 : sh.length ≤ 60 := hok.n1
  have hml : mm ≤ 1000000 ∨ True := .inr trivial
  obtain ⟨c0', c1', c2', -⟩ := xbS HX0.out
  clear ha hz hms hok hin hml
  go_enter Try.func53, Try.ntmps53
  go_wp2_with (go_at_call 52; refine (CW.out _ HX0).mono ?_; rintro e w1 ⟨g, n, q, h, m, d, rfl, hf, hb⟩; have HX1 := Lib.hid (HX0.out.on hb); have HF := Lib.hid hf; clear hf hb)
  have hB1 := box_b w1 (.cells #[.slice (some ⟨g, 0, none⟩) n q, .slice (some ⟨h, 0, none⟩) m d, .int .i64 ch] 26)
  have hlt1 := (World.ownsRow.lt HF.out.1.1 g rfl).2
  have hlt2 := (World.ownsRow.lt HF.out.2.1.1 h rfl).2
  have hsz1 := HX1.out.sz
  have HB0 : Hid (BUr w w1.heap.size g n q sh h m d (canD D sh.length) ch (w1.alloc (.cells #[.slice (some ⟨g, 0, none⟩) n q, .slice (some ⟨h, 0, none⟩) m d, .int .i64 ch] 26))) := Lib.hid
    ⟨HX1.out.r.on hB1, Bx.new w1 [.slice (some ⟨g, 0, none⟩) n q, .slice (some ⟨h, 0, none⟩) m d, .int .i64 ch] 26, ⟨⟨own_at (OwnI.mono HF.out.1.1 (by have := HX0.out.low.size; omega)) (hB1.block _ hlt1), HF.out.1.2⟩, ⟨own_at (OwnI.mono HF.out.2.1.1 (by have := HX0.out.low.size; omega)) (hB1.block _ hlt2), HF.out.2.1.2⟩, HF.out.2.2⟩, HX1.out.low.trans (hB1.mono HX1.out.low.size), hsz1, by omega, by omega⟩
  obtain ⟨X, hX⟩ : ∃ y_, w1.heap.size = y_ := ⟨_, rfl⟩
  obtain ⟨W1, hW1⟩ : ∃ y_, w1.alloc (.cells #[.slice (some ⟨g, 0, none⟩) n q, .slice (some ⟨h, 0, none⟩) m d, .int .i64 ch] 26) = y_ := ⟨_, rfl⟩
  rw [hX, hW1] at HB0
  rw [hW1]
  (try rw [hX])
  clear hX hW1 hB1 hlt1 hlt2 hsz1 HF HX1
  go_loopw [7] (fun p wr => ∃ k h m d : Nat, ∃ Z : List Int, k ≤ mm ∧ p = .int .i64 k ∧ Hid (buB D (ms.take k) = true) ∧ Hid (BUr w X g n q sh h m d Z ch wr) ∧ Hid (Z = canD (D ++ ms.take k) sh.length)) (fun p _ => mm - (intOf p).toNat)
  case atStart => exact ⟨0, h, m, d, _, Nat.zero_le _, rfl, Lib.hid (by simp [buB]), HB0, Lib.hid (by simp)⟩
  case round =>
    obtain ⟨k, h, m, d, Z, hk, rfl, HBU, HB, HZ⟩ := hrel
    clear HB0 c0' c1' c2' HX0 CW
    obtain ⟨x0, x1, x2⟩ := HB.out.o.threeT
    obtain ⟨r0, r1, r2⟩ := HB.out.r.threeT
    have z0 := HB.out.r.free 0
    have z1 := HB.out.r.free 1
    have z2 := HB.out.r.free 2
    by_cases hlt : k < mm
    · obtain ⟨b1, o1, rfl, hb1, hc⟩ := (F.out.on HB.out.low).at (by omega)
      have hx := hc k hlt
      obtain ⟨v, hv⟩ : ∃ y_, ms.getD k 0 = y_ := ⟨_, rfl⟩
      rw [hv] at hx
      have hkl : k < ms.length := by rw [FL.out]; exact hlt
      have hvm : v ∈ ms := by
        rw [← hv, List.getD_eq_getElem?_getD, List.getElem?_eq_getElem hkl]
        exact List.getElem_mem hkl
      obtain ⟨v0, v1⟩ := HIN.out v hvm
      obtain ⟨i, rfl⟩ : ∃ i : Nat, v = (i : Int) := ⟨v.toNat, by omega⟩
      have HBUS : Hid (buB D (ms.take (k + 1)) = (true && !decide ((i : Int) ∈ D ++ ms.take k))) := Lib.hid (by rw [bu_step _ _ _ hkl, HBU.out, hv])
      have HTK : Hid (D ++ ms.take (k + 1) = D ++ ms.take k ++ [(i : Int)]) := Lib.hid (by rw [List.take_add_one, List.getElem?_eq_getElem hkl, List.append_assoc, ← hv, List.getD_eq_getElem?_getD, List.getElem?_eq_getElem hkl]; rfl)
      obtain ⟨hZm, hmd⟩ := HB.out.cap
      have hZl : Z.length ≤ 60 := by
        rw [HZ.out]
        have := liv_can (D ++ ms.take k) sh.length
        omega
      have HMEM : Hid ((i : Int) ∈ Z ↔ (i : Int) ∈ D ++ ms.take k) := Lib.hid (by rw [HZ.out, can_mem]; exact ⟨fun h => h.2, fun h => ⟨⟨v0, v1⟩, h⟩⟩)
      have CH : Hid (∀ W', Hid (BUr w X g n q sh h m d Z ch W') → Calls Try.prog 63 #[.slice (some ⟨h, 0, none⟩) m d, .int .i64 (i : Int)] W' fun e w' => e = .returned (.bool (decide ((i : Int) ∈ Z))) ∧ w' = W') := Lib.hid (fun W' hW' => shas_any Z _ m d (i : Int) W' (hW'.out.row.ints (off := 0) hZm (by omega)))
      have hHIN := HIN.out
      clear hc hb1 hv hvm hkl hHIN
      by_cases hmz : (i : Int) ∈ Z
      · have hdd : decide ((i : Int) ∈ Z) = true := by simpa using hmz
        rw [hdd] at CH
        have HBF : Hid (buB D ms = false) := Lib.hid (bu_bad (k := k + 1) (by rw [HBUS.out, decide_eq_true (HMEM.out.1 hmz)]; rfl))
        clear hmz hdd
        go_wp2_with fail
        go_quiet ((go_at_call 63; exact Calls.quiet_of_same (CH.out _ (Lib.hid (HB.out.on (below_drewN (Below.refl _ _) _))))))
        have hB9 := HB.out.on (below_drewN (Below.refl _ _) nq)
        obtain ⟨r0', r1', r2'⟩ := hB9.r.threeT
        obtain ⟨e0, e1, e2, e3, -⟩ := hB9.stored (p := .slice none 0 0) (r := .slice none 0 0) (t := .int .i64 0)
        have HEB := Lib.hid e3
        clear e3 hB9
        go_wp2_with fail
        refine bodyPost_ret (v := .tuple #[.agg #[.slice none 0 0, .slice none 0 0, .int .i64 0], .int .i64 5]) (by simp [results, Try.results53, go_sem, e0, e1, e2]) rfl ?_
        exact ⟨(fun h => by rw [HBF.out] at h; cases h), fun _ => ⟨rfl, HEB.out⟩⟩
      · have hdd : decide ((i : Int) ∈ Z) = false := by simpa using hmz
        rw [hdd] at CH
        have HND : Hid ((i : Int) ∉ D ++ ms.take k) := Lib.hid (fun h => hmz (HMEM.out.2 h))
        have HBUS : Hid (buB D (ms.take (k + 1)) = true) := Lib.hid (by rw [HBUS.out, decide_eq_false HND.out]; rfl)
        have HNEW : Hid (∀ at_ : Nat, at_ ≤ Z.length → (∀ j, j < at_ → Z.getD j 0 < (i : Int)) → (at_ < Z.length → ¬ Z.getD at_ 0 < (i : Int)) → Z.take at_ ++ [(i : Int)] ++ Z.drop at_ = canD (D ++ ms.take (k + 1)) sh.length) := Lib.hid (fun at_ h1 h2 h3 => by
          rw [HTK.out, List.append_assoc, List.singleton_append]
          have hZ := HZ.out
          subst hZ
          exact can_ins HND.out v0 v1 h1 h2 h3)
        have hmx := hx
        clear hmz hdd
        go_wp2_with fail
        go_quiet ((go_at_call 63; exact Calls.quiet_of_same (CH.out _ (Lib.hid (HB.out.on (below_drewN (Below.refl _ _) _))))))
        have HB := Lib.hid (HB.out.on (below_drewN (Below.refl _ _) nq))
        have hmx : (wr.drewN nq).cell? ⟨b1, o1 + k, none⟩ = some (.int .i64 (i : Int)) := hmx
        obtain ⟨V, hV⟩ : ∃ y_, wr.drewN nq = y_ := ⟨_, rfl⟩
        rw [hV] at HB hmx ⊢
        clear hV x0 x1 x2 r0 r1 r2 z0 z1 z2 hx
        go_wp2_with fail
        go_loopw [8] (fun p wq => ∃ at_ : Nat, at_ ≤ m ∧ p = .int .i64 at_ ∧ Hid (BUr w X g n q sh h m d Z ch wq) ∧ wq.cell? ⟨b1, o1 + k, none⟩ = some (.int .i64 (i : Int)) ∧ Hid (∀ j, j < at_ → Z.getD j 0 < (i : Int))) (fun p _ => m - (intOf p).toNat)
        case atStart => exact ⟨0, Nat.zero_le _, rfl, HB, hmx, Lib.hid (fun j hj => by omega)⟩
        case round =>
          obtain ⟨at_, hat, rfl, HB, hmx, HLT⟩ := hrel
          have HLE : Hid (at_ ≤ Z.length) := Lib.hid (by omega)
          obtain ⟨x0, x1, x2⟩ := HB.out.o.threeT
          by_cases hm1 : at_ < m
          · have hrow := HB.out.row.cell at_ (by omega)
            rw [Nat.zero_add] at hrow
            obtain ⟨u, hu⟩ : ∃ y_, Z.getD at_ 0 = y_ := ⟨_, rfl⟩
            rw [hu] at hrow
            have HU := Lib.hid hu
            clear hu
            have hd1 : decide ((at_ : Int) < (m : Int)) = true := by simp; omega
            by_cases hui : u < (i : Int)
            · have hd2 : decide (u < (i : Int)) = true := by simpa using hui
              go_wp2_with fail
              go_quiet (fail)
              go_wp2_with fail
              go_roundw
              case rel => exact ⟨at_ + 1, by omega, by go_num, Lib.hid (HB.out.on (below_drewN (Below.refl _ _) nq)), hmx, Lib.hid (fun j hj => by
                by_cases e : j = at_
                · subst e; rw [HU.out]; exact hui
                · exact HLT.out j (by omega))⟩
              case measure => simp [intOf]; omega
            · have hd2 : decide (u < (i : Int)) = false := by simpa using hui
              have HGE : Hid (at_ < Z.length → ¬ Z.getD at_ 0 < (i : Int)) := Lib.hid (fun _ => by rw [HU.out]; exact hui)
              clear hui
              go_wp2_with fail
              go_quiet (fail)
              go_wp2_with fail
              have HB := Lib.hid (HB.out.on (below_drewN (Below.refl _ _) nq))
              clear x0 x1 x2 hrow hd1 hd2
              obtain ⟨W, hW⟩ : ∃ y_, (wr.drewN nq) = y_ := ⟨_, rfl⟩
              rw [hW] at HB ⊢
              have hcm : W.cell? ⟨b1, o1 + k, none⟩ = some (.int .i64 (i : Int)) := by rw [← hW]; exact hmx
              have hHI := cut_hi h m d at_ (by omega)
              obtain ⟨A, hLO, hA⟩ := cut_lo h m d at_ (by omega)
              have HAI : Hid (∀ W', BUr w X g n q sh h m d Z ch W' → Ints W' A (m - at_) (Z.drop at_)) := Lib.hid (fun W' hW' => by rw [hA]; exact cut_ints hW'.row hW'.f.2.1.2 (by omega) (by omega) (by omega))
              have CO : Hid (∀ W', Hid (BUr w X g n q sh h m d Z ch W') → Calls Try.prog 43 #[.slice (some ⟨h, 0, none⟩) at_ d] W' (OwPost (Z.take at_) W')) := Lib.hid (fun W' hW' => sow_any (Z.take at_) _ at_ d W' (front_ints hW'.out.row hW'.out.f.2.1.2 (by omega) (by omega)) (by omega))
              unfold OwPost at CO
              have HBL : Hid (b1 < W.heap.size) := Lib.hid (block_lt hcm)
              have HAL : Hid (X < W.heap.size ∧ g < W.heap.size) := Lib.hid ⟨HB.out.o.lt, (World.ownsRow.lt HB.out.f.1.1 g rfl).2⟩
              have HWL : Hid (X < W.heap.size ∧ g < W.heap.size ∧ h < W.heap.size ∧ w.heap.size + 2 ≤ W.heap.size) := Lib.hid ⟨HB.out.lt.1, HB.out.lt.2.1, HB.out.lt.2.2, by have := HB.out.lt; have := HB.out.x0; omega⟩
              clear hW hmx hA
              refine wpTill_start (S := (fun w' => w'.cell? ⟨X, 1, none⟩ = some (.slice (some ⟨h, 0, none⟩) m d) ∧ w'.cell? ⟨b1, o1 + k, none⟩ = some (.int .i64 (i : Int)) ∧ Hid (BUr w X g n q sh h m d Z ch w'))) (L := 17) (by kernel_rfl) (buS HB.out.drew (cell_drew hcm)) (fun hHeld => ?_)
              refine wpTill_take (i := 0) (v := ?_) rfl (by kernel_rfl) (by kernel_rfl) (by kernel_rfl) (by kernel_rfl) (by kernel_rfl) (fun _ _ _ h => h) (Or.inl ⟨by rfl, ?_⟩) (by assumption) ?_
              rotate_left
              · (intro w hSw; (try dsimp only at hSw); go_simp; try with_reducible rfl)
              try simp only [Act.put, List.setIfInBounds_toArray, List.set_cons_zero, List.set_cons_succ]
              refine wpTill_take (i := 1) (v := ?_) rfl (by kernel_rfl) (by kernel_rfl) (by kernel_rfl) (by kernel_rfl) (by kernel_rfl) (fun _ _ _ h => h) (Or.inl ⟨by rfl, ?_⟩) (by assumption) ?_
              rotate_left
              · (intro w hSw; (try dsimp only at hSw); go_simp; try with_reducible rfl)
              try simp only [Act.put, List.setIfInBounds_toArray, List.set_cons_zero, List.set_cons_succ]
              refine wpTill_take (i := 2) (v := ?_) rfl (by kernel_rfl) (by kernel_rfl) (by kernel_rfl) (by kernel_rfl) (by kernel_rfl) (fun _ _ _ h => h) (Or.inl ⟨by rfl, ?_⟩) (by assumption) ?_
              rotate_left
              · (intro w hSw; (try dsimp only at hSw); go_simp; try with_reducible rfl)
              try simp only [Act.put, List.setIfInBounds_toArray, List.set_cons_zero, List.set_cons_succ]
              refine wpTill_take (i := 3) (v := ?_) rfl (by kernel_rfl) (by kernel_rfl) (by kernel_rfl) (by kernel_rfl) (by kernel_rfl) (fun _ _ _ h => h) (Or.inl ⟨by rfl, ?_⟩) (by assumption) ?_
              rotate_left
              · (intro w hSw; (try dsimp only at hSw); go_simp; try with_reducible rfl)
              try simp only [Act.put, List.setIfInBounds_toArray, List.set_cons_zero, List.set_cons_succ]
              refine wpTill_take (i := 5) (v := ?_) rfl (by kernel_rfl) (by kernel_rfl) (by kernel_rfl) (by kernel_rfl) (by kernel_rfl) (fun _ _ _ h => h) (Or.inl ⟨by rfl, ?_⟩) (by assumption) ?_
              rotate_left
              · (intro w hSw; (try dsimp only at hSw); go_simp; try with_reducible rfl)
              try simp only [Act.put, List.setIfInBounds_toArray, List.set_cons_zero, List.set_cons_succ]
              refine wpTill_take (i := 6) (v := ?_) rfl (by kernel_rfl) (by kernel_rfl) (by kernel_rfl) (by kernel_rfl) (by kernel_rfl) (fun _ _ _ h => h) (Or.inl ⟨by rfl, ?_⟩) (by assumption) ?_
              rotate_left
              · (intro w hSw; (try dsimp only at hSw); go_simp; try with_reducible rfl)
              try simp only [Act.put, List.setIfInBounds_toArray, List.set_cons_zero, List.set_cons_succ]
              refine wpTill_take (i := 7) (v := ?_) rfl (by kernel_rfl) (by kernel_rfl) (by kernel_rfl) (by kernel_rfl) (by kernel_rfl) (fun _ _ _ h => h) (Or.inl ⟨by rfl, ?_⟩) (by assumption) ?_
              rotate_left
              · (intro w hSw; (try dsimp only at hSw); go_simp; try with_reducible rfl)
              try simp only [Act.put, List.setIfInBounds_toArray, List.set_cons_zero, List.set_cons_succ]
              refine wpTill_take (i := 8) (v := ?_) rfl (by kernel_rfl) (by kernel_rfl) (by kernel_rfl) (by kernel_rfl) (by kernel_rfl) (fun _ _ _ h => h) (Or.inl ⟨by rfl, ?_⟩) (by assumption) ?_
              rotate_left
              · (intro w hSw; (try dsimp only at hSw); go_simp; try with_reducible rfl)
              try simp only [Act.put, List.setIfInBounds_toArray, List.set_cons_zero, List.set_cons_succ]
              refine wpTill_take (i := 11) (v := ?_) rfl (by kernel_rfl) (by kernel_rfl) (by kernel_rfl) (by kernel_rfl) (by kernel_rfl) (fun _ _ _ h => h) (Or.inl ⟨by rfl, ?_⟩) (by assumption) ?_
              rotate_left
              · (intro w hSw; (try dsimp only at hSw); go_simp; try with_reducible rfl)
              try simp only [Act.put, List.setIfInBounds_toArray, List.set_cons_zero, List.set_cons_succ]
              refine wpTill_take (i := 12) (v := ?_) rfl (by kernel_rfl) (by kernel_rfl) (by kernel_rfl) (by kernel_rfl) (by kernel_rfl) (fun _ _ _ h => h) (Or.inl ⟨by rfl, ?_⟩) (by assumption) ?_
              rotate_left
              · (intro w hSw; (try dsimp only at hSw); go_simp; try with_reducible rfl)
              try simp only [Act.put, List.setIfInBounds_toArray, List.set_cons_zero, List.set_cons_succ]
              refine wpTill_take (i := 13) (v := ?_) rfl (by kernel_rfl) (by kernel_rfl) (by kernel_rfl) (by kernel_rfl) (by kernel_rfl) (fun _ _ _ h => h) (Or.inl ⟨by rfl, ?_⟩) (by assumption) ?_
              rotate_left
              · (intro w hSw; (try dsimp only at hSw); go_simp; try with_reducible rfl)
              try simp only [Act.put, List.setIfInBounds_toArray, List.set_cons_zero, List.set_cons_succ]
              refine wpTill_take (i := 14) (v := ?_) rfl (by kernel_rfl) (by kernel_rfl) (by kernel_rfl) (by kernel_rfl) (by kernel_rfl) (fun _ _ _ h => h) (Or.inl ⟨by rfl, ?_⟩) (by assumption) ?_
              rotate_left
              · (intro w hSw; (try dsimp only at hSw); go_simp; try with_reducible rfl)
              try simp only [Act.put, List.setIfInBounds_toArray, List.set_cons_zero, List.set_cons_succ]
              refine wpTill_ready (rs := [4, 9]) (by kernel_rfl) (by simp) ?_
              refine AllTill.cons (o := _) rfl (fun K hK => ?_) (AllTill.cons (o := _) rfl (fun K hK => ?_) AllTill.nil)
              · go_simp
                go_split_ands
                with_reducible refine (CO.out _ (by with_reducible assumption)).mono ?_
                rintro e w' ⟨g2, n2, q2, rfl, ho, hn2, hb⟩
                have HB2 := Lib.hid (HB.out.drew.on hb)
                have hcm2 := keep2 hb (cell_drew hcm)
                refine hK.out _ _ (fun _ => ?_) (fun hHeld => ?_)
                · exact buS HB2.out hcm2
                have hHeld := hHeld (by decide)
                clear hK K
                try simp only [Act.put, List.setIfInBounds_toArray, List.set_cons_zero, List.set_cons_succ]
                refine wpTill_ready (rs := [9]) (by kernel_rfl) (by simp) ?_
                refine AllTill.cons (o := _) rfl (fun K hK => ?_) AllTill.nil
                go_simp
                have HB3 := Lib.hid (HB2.out.on (box_b w' (.cells #[.int .i64 (i : Int)] 2)))
                have hcm3 := keep2 (box_b w' (.cells #[.int .i64 (i : Int)] 2)) hcm2
                have HI3 := Lib.hid (one_ints w' (i : Int))
                have HO3 := Lib.hid (OwnI.on (OwnI.mono ho (Nat.le_refl W.heap.size)) (box_b w' (.cells #[.int .i64 (i : Int)] 2)))
                have HX3 := Lib.hid (BUx.mk HB3.out (show W.heap.size ≤ _ by have := hb.size; simp at this ⊢; omega))
                refine hK.out _ _ (fun _ => ?_) (fun hHeld => ?_)
                · exact buS HB3.out hcm3
                have hHeld := hHeld (by decide)
                clear hK K ho hb
                subst hn2
                try simp only [Act.put, List.setIfInBounds_toArray, List.set_cons_zero, List.set_cons_succ]
                refine wpTill_ready (rs := [10]) (by kernel_rfl) (by simp) ?_
                refine AllTill.cons (o := _) rfl (fun K hK => ?_) AllTill.nil
                refine step_apI (by rfl) _ _ (by rfl) W.heap.size _ (Z.take at_) [(i : Int)] _ 1 1 (by rfl) HO3.out (by rfl) HI3.out (by simp; omega) HX3.out.low2 ?_
                intro v' w5 hown5 hb5 hnn5
                obtain ⟨g5, c5, rfl, hg5, -⟩ := own_some hown5 (by first | exact hnn5 | exact hnn5 (by simp))
                have HB5 := Lib.hid (HX3.out.bu.up hb5 ⟨HWL.out.1, HWL.out.2.1, HWL.out.2.2.1⟩ HWL.out.2.2.2)
                have HO5 := Lib.hid hown5
                have hcm := ((buS HB3.out hcm3).2.1)
                have hcm5 := (hb5.cell (p := ⟨b1, o1 + k, none⟩) HBL.out).trans hcm
                have hz5 : W.heap.size ≤ w5.heap.size := Nat.le_trans HX3.out.low2 hb5.size
                refine hK.out _ _ (fun _ => ?_) (fun hHeld => ?_)
                · exact buS HB5.out hcm5
                have hHeld := hHeld (by decide)
                clear hK K hcm hb5 hnn5 hown5
                try simp only [Act.put, List.setIfInBounds_toArray, List.set_cons_zero, List.set_cons_succ]
                refine wpTill_ready (rs := [15]) (by kernel_rfl) (by simp) ?_
                refine AllTill.cons (o := _) rfl (fun K hK => ?_) AllTill.nil
                refine step_apI (by rfl) _ _ (by rfl) W.heap.size _ (Z.take at_ ++ [(i : Int)]) (Z.drop at_) _ (m - at_) (d - at_) (by rfl) HO5.out (by rfl) (HAI.out _ HB5.out) (by simp; omega) hz5 ?_
                intro v' w6 hown6 hb6 hnn6
                obtain ⟨g6, c6, rfl, hg6, hgl6, -⟩ := own_some hown6 (by first | exact hnn6 | exact hnn6 (by simp))
                obtain ⟨n6, hn6⟩ : ∃ y_, (Z.take at_ ++ [(i : Int)] ++ Z.drop at_).length = y_ := ⟨_, rfl⟩
                rw [hn6] at hown6 hnn6 ⊢
                have HN6 := Lib.hid hn6
                clear hn6
                have HB6 := Lib.hid (HB5.out.up hb6 ⟨HWL.out.1, HWL.out.2.1, HWL.out.2.2.1⟩ HWL.out.2.2.2)
                have HO6 := Lib.hid hown6
                have hcm6 := (hb6.cell (p := ⟨b1, o1 + k, none⟩) HBL.out).trans hcm5
                refine hK.out _ _ (fun _ => ?_) (fun hHeld => ?_)
                · exact buS HB6.out hcm6
                have hHeld := hHeld (by decide)
                clear hK K hb6 hnn6 hown6
                try simp only [Act.put, List.setIfInBounds_toArray, List.set_cons_zero, List.set_cons_succ]
                refine wpTill_take (i := 16) (v := ?_) rfl (by kernel_rfl) (by kernel_rfl) (by kernel_rfl) (by kernel_rfl) (by kernel_rfl) (fun _ _ _ h => h) (Or.inl ⟨by rfl, ?_⟩) (by assumption) ?_
                rotate_left
                · (intro w hSw; (try dsimp only at hSw); go_simp; try with_reducible rfl)
                try simp only [Act.put, List.setIfInBounds_toArray, List.set_cons_zero, List.set_cons_succ]
                obtain ⟨x0, x1, x2⟩ := HB6.out.o.threeT
                have hfz := HB6.out.o.free 1
                have HEND := Lib.hid (HB6.out.put HO6.out HAL.out HN6.out)
                refine wpTill_ready (rs := [17]) (by kernel_rfl) (by simp) ?_
                refine AllTill.cons (o := _) rfl (fun K hK => ?_) AllTill.nil
                go_simp
                refine hK.out _ _ (fun h => absurd rfl h) (fun _ => ?_)
                clear hK K hHeld
                try simp only [Act.put, List.setIfInBounds_toArray, List.set_cons_zero, List.set_cons_succ]
                refine wpTill_done (by kernel_rfl) ?_ _
                obtain ⟨W7, hW7⟩ : ∃ y_, w6.setCell ⟨X, 1, none⟩ (.slice (some ⟨g6, 0, none⟩) n6 c6) = y_ := ⟨_, rfl⟩
                rw [hW7] at HEND ⊢
                clear hW7 x0 x1 x2 hfz hcm6 hcm5
                go_wp2_with fail
                go_roundw
                case rel => exact ⟨k + 1, _, _, _, _, by omega, by go_num, HBUS, HEND, Lib.hid (HNEW.out at_ HLE.out HLT.out HGE.out)⟩
                case measure => simp [intOf]; omega
              · go_simp
                have HB3 := Lib.hid (HB.out.on (box_b W (.cells #[.int .i64 (i : Int)] 2))).drew
                have hcm3 := cell_drew (keep2 (box_b W (.cells #[.int .i64 (i : Int)] 2)) hcm)
                have HI3 := Lib.hid ((one_ints W (i : Int)).on (Below.drew (Below.refl _ _)))
                refine hK.out _ _ (fun _ => ?_) (fun hHeld => ?_)
                · exact buS HB3.out hcm3
                have hHeld := hHeld (by decide)
                clear hK K
                try simp only [Act.put, List.setIfInBounds_toArray, List.set_cons_zero, List.set_cons_succ]
                refine wpTill_ready (rs := [4]) (by kernel_rfl) (by simp) ?_
                refine AllTill.cons (o := _) rfl (fun K hK => ?_) AllTill.nil
                go_simp
                go_split_ands
                with_reducible refine (CO.out _ HB3).mono ?_
                rintro e w' ⟨g2, n2, q2, rfl, ho, hn2, hb⟩
                have HB4 := Lib.hid (HB3.out.on hb)
                have hcm4 := keep2 hb hcm3
                have HI4 := Lib.hid (HI3.out.on hb)
                have hsz4 : W.heap.size ≤ (W.alloc (.cells #[.int .i64 (i : Int)] 2)).drew.heap.size := by simp
                have HO4 := Lib.hid (OwnI.mono ho hsz4)
                have HX4 := Lib.hid (BUx.mk HB4.out (Nat.le_trans hsz4 hb.size))
                refine hK.out _ _ (fun _ => ?_) (fun hHeld => ?_)
                · exact buS HB4.out hcm4
                have hHeld := hHeld (by decide)
                clear hK K ho hb
                subst hn2
                try simp only [Act.put, List.setIfInBounds_toArray, List.set_cons_zero, List.set_cons_succ]
                refine wpTill_ready (rs := [10]) (by kernel_rfl) (by simp) ?_
                refine AllTill.cons (o := _) rfl (fun K hK => ?_) AllTill.nil
                refine step_apI (by rfl) _ _ (by rfl) W.heap.size _ (Z.take at_) [(i : Int)] _ 1 1 (by rfl) HO4.out (by rfl) HI4.out (by simp; omega) HX4.out.low2 ?_
                intro v' w5 hown5 hb5 hnn5
                obtain ⟨g5, c5, rfl, hg5, -⟩ := own_some hown5 (by first | exact hnn5 | exact hnn5 (by simp))
                have HB5 := Lib.hid (HX4.out.bu.up hb5 ⟨HWL.out.1, HWL.out.2.1, HWL.out.2.2.1⟩ HWL.out.2.2.2)
                have HO5 := Lib.hid hown5
                have hcm := ((buS HB4.out hcm4).2.1)
                have hcm5 := (hb5.cell (p := ⟨b1, o1 + k, none⟩) HBL.out).trans hcm
                have hz5 : W.heap.size ≤ w5.heap.size := Nat.le_trans HX4.out.low2 hb5.size
                refine hK.out _ _ (fun _ => ?_) (fun hHeld => ?_)
                · exact buS HB5.out hcm5
                have hHeld := hHeld (by decide)
                clear hK K hcm hb5 hnn5 hown5
                try simp only [Act.put, List.setIfInBounds_toArray, List.set_cons_zero, List.set_cons_succ]
                refine wpTill_ready (rs := [15]) (by kernel_rfl) (by simp) ?_
                refine AllTill.cons (o := _) rfl (fun K hK => ?_) AllTill.nil
                refine step_apI (by rfl) _ _ (by rfl) W.heap.size _ (Z.take at_ ++ [(i : Int)]) (Z.drop at_) _ (m - at_) (d - at_) (by rfl) HO5.out (by rfl) (HAI.out _ HB5.out) (by simp; omega) hz5 ?_
                intro v' w6 hown6 hb6 hnn6
                obtain ⟨g6, c6, rfl, hg6, hgl6, -⟩ := own_some hown6 (by first | exact hnn6 | exact hnn6 (by simp))
                obtain ⟨n6, hn6⟩ : ∃ y_, (Z.take at_ ++ [(i : Int)] ++ Z.drop at_).length = y_ := ⟨_, rfl⟩
                rw [hn6] at hown6 hnn6 ⊢
                have HN6 := Lib.hid hn6
                clear hn6
                have HB6 := Lib.hid (HB5.out.up hb6 ⟨HWL.out.1, HWL.out.2.1, HWL.out.2.2.1⟩ HWL.out.2.2.2)
                have HO6 := Lib.hid hown6
                have hcm6 := (hb6.cell (p := ⟨b1, o1 + k, none⟩) HBL.out).trans hcm5
                refine hK.out _ _ (fun _ => ?_) (fun hHeld => ?_)
                · exact buS HB6.out hcm6
                have hHeld := hHeld (by decide)
                clear hK K hb6 hnn6 hown6
                try simp only [Act.put, List.setIfInBounds_toArray, List.set_cons_zero, List.set_cons_succ]
                refine wpTill_take (i := 16) (v := ?_) rfl (by kernel_rfl) (by kernel_rfl) (by kernel_rfl) (by kernel_rfl) (by kernel_rfl) (fun _ _ _ h => h) (Or.inl ⟨by rfl, ?_⟩) (by assumption) ?_
                rotate_left
                · (intro w hSw; (try dsimp only at hSw); go_simp; try with_reducible rfl)
                try simp only [Act.put, List.setIfInBounds_toArray, List.set_cons_zero, List.set_cons_succ]
                obtain ⟨x0, x1, x2⟩ := HB6.out.o.threeT
                have hfz := HB6.out.o.free 1
                have HEND := Lib.hid (HB6.out.put HO6.out HAL.out HN6.out)
                refine wpTill_ready (rs := [17]) (by kernel_rfl) (by simp) ?_
                refine AllTill.cons (o := _) rfl (fun K hK => ?_) AllTill.nil
                go_simp
                refine hK.out _ _ (fun h => absurd rfl h) (fun _ => ?_)
                clear hK K hHeld
                try simp only [Act.put, List.setIfInBounds_toArray, List.set_cons_zero, List.set_cons_succ]
                refine wpTill_done (by kernel_rfl) ?_ _
                obtain ⟨W7, hW7⟩ : ∃ y_, w6.setCell ⟨X, 1, none⟩ (.slice (some ⟨g6, 0, none⟩) n6 c6) = y_ := ⟨_, rfl⟩
                rw [hW7] at HEND ⊢
                clear hW7 x0 x1 x2 hfz hcm6 hcm5
                go_wp2_with fail
                go_roundw
                case rel => exact ⟨k + 1, _, _, _, _, by omega, by go_num, HBUS, HEND, Lib.hid (HNEW.out at_ HLE.out HLT.out HGE.out)⟩
                case measure => simp [intOf]; omega
          · have hd1 : decide ((at_ : Int) < (m : Int)) = false := by simp; omega
            have HGE : Hid (at_ < Z.length → ¬ Z.getD at_ 0 < (i : Int)) := Lib.hid (fun h => by omega)
            go_wp2_with fail
            go_quiet (fail)
            go_wp2_with fail
            have HB := Lib.hid (HB.out.on (below_drewN (Below.refl _ _) nq))
            clear x0 x1 x2 hd1
            obtain ⟨W, hW⟩ : ∃ y_, (wr.drewN nq) = y_ := ⟨_, rfl⟩
            rw [hW] at HB ⊢
            have hcm : W.cell? ⟨b1, o1 + k, none⟩ = some (.int .i64 (i : Int)) := by rw [← hW]; exact hmx
            have hHI := cut_hi h m d at_ (by omega)
            obtain ⟨A, hLO, hA⟩ := cut_lo h m d at_ (by omega)
            have HAI : Hid (∀ W', BUr w X g n q sh h m d Z ch W' → Ints W' A (m - at_) (Z.drop at_)) := Lib.hid (fun W' hW' => by rw [hA]; exact cut_ints hW'.row hW'.f.2.1.2 (by omega) (by omega) (by omega))
            have CO : Hid (∀ W', Hid (BUr w X g n q sh h m d Z ch W') → Calls Try.prog 43 #[.slice (some ⟨h, 0, none⟩) at_ d] W' (OwPost (Z.take at_) W')) := Lib.hid (fun W' hW' => sow_any (Z.take at_) _ at_ d W' (front_ints hW'.out.row hW'.out.f.2.1.2 (by omega) (by omega)) (by omega))
            unfold OwPost at CO
            have HBL : Hid (b1 < W.heap.size) := Lib.hid (block_lt hcm)
            have HAL : Hid (X < W.heap.size ∧ g < W.heap.size) := Lib.hid ⟨HB.out.o.lt, (World.ownsRow.lt HB.out.f.1.1 g rfl).2⟩
            have HWL : Hid (X < W.heap.size ∧ g < W.heap.size ∧ h < W.heap.size ∧ w.heap.size + 2 ≤ W.heap.size) := Lib.hid ⟨HB.out.lt.1, HB.out.lt.2.1, HB.out.lt.2.2, by have := HB.out.lt; have := HB.out.x0; omega⟩
            clear hW hmx hA
            refine wpTill_start (S := (fun w' => w'.cell? ⟨X, 1, none⟩ = some (.slice (some ⟨h, 0, none⟩) m d) ∧ w'.cell? ⟨b1, o1 + k, none⟩ = some (.int .i64 (i : Int)) ∧ Hid (BUr w X g n q sh h m d Z ch w'))) (L := 17) (by kernel_rfl) (buS HB.out.drew (cell_drew hcm)) (fun hHeld => ?_)
            refine wpTill_take (i := 0) (v := ?_) rfl (by kernel_rfl) (by kernel_rfl) (by kernel_rfl) (by kernel_rfl) (by kernel_rfl) (fun _ _ _ h => h) (Or.inl ⟨by rfl, ?_⟩) (by assumption) ?_
            rotate_left
            · (intro w hSw; (try dsimp only at hSw); go_simp; try with_reducible rfl)
            try simp only [Act.put, List.setIfInBounds_toArray, List.set_cons_zero, List.set_cons_succ]
            refine wpTill_take (i := 1) (v := ?_) rfl (by kernel_rfl) (by kernel_rfl) (by kernel_rfl) (by kernel_rfl) (by kernel_rfl) (fun _ _ _ h => h) (Or.inl ⟨by rfl, ?_⟩) (by assumption) ?_
            rotate_left
            · (intro w hSw; (try dsimp only at hSw); go_simp; try with_reducible rfl)
            try simp only [Act.put, List.setIfInBounds_toArray, List.set_cons_zero, List.set_cons_succ]
            refine wpTill_take (i := 2) (v := ?_) rfl (by kernel_rfl) (by kernel_rfl) (by kernel_rfl) (by kernel_rfl) (by kernel_rfl) (fun _ _ _ h => h) (Or.inl ⟨by rfl, ?_⟩) (by assumption) ?_
            rotate_left
            · (intro w hSw; (try dsimp only at hSw); go_simp; try with_reducible rfl)
            try simp only [Act.put, List.setIfInBounds_toArray, List.set_cons_zero, List.set_cons_succ]
            refine wpTill_take (i := 3) (v := ?_) rfl (by kernel_rfl) (by kernel_rfl) (by kernel_rfl) (by kernel_rfl) (by kernel_rfl) (fun _ _ _ h => h) (Or.inl ⟨by rfl, ?_⟩) (by assumption) ?_
            rotate_left
            · (intro w hSw; (try dsimp only at hSw); go_simp; try with_reducible rfl)
            try simp only [Act.put, List.setIfInBounds_toArray, List.set_cons_zero, List.set_cons_succ]
            refine wpTill_take (i := 5) (v := ?_) rfl (by kernel_rfl) (by kernel_rfl) (by kernel_rfl) (by kernel_rfl) (by kernel_rfl) (fun _ _ _ h => h) (Or.inl ⟨by rfl, ?_⟩) (by assumption) ?_
            rotate_left
            · (intro w hSw; (try dsimp only at hSw); go_simp; try with_reducible rfl)
            try simp only [Act.put, List.setIfInBounds_toArray, List.set_cons_zero, List.set_cons_succ]
            refine wpTill_take (i := 6) (v := ?_) rfl (by kernel_rfl) (by kernel_rfl) (by kernel_rfl) (by kernel_rfl) (by kernel_rfl) (fun _ _ _ h => h) (Or.inl ⟨by rfl, ?_⟩) (by assumption) ?_
            rotate_left
            · (intro w hSw; (try dsimp only at hSw); go_simp; try with_reducible rfl)
            try simp only [Act.put, List.setIfInBounds_toArray, List.set_cons_zero, List.set_cons_succ]
            refine wpTill_take (i := 7) (v := ?_) rfl (by kernel_rfl) (by kernel_rfl) (by kernel_rfl) (by kernel_rfl) (by kernel_rfl) (fun _ _ _ h => h) (Or.inl ⟨by rfl, ?_⟩) (by assumption) ?_
            rotate_left
            · (intro w hSw; (try dsimp only at hSw); go_simp; try with_reducible rfl)
            try simp only [Act.put, List.setIfInBounds_toArray, List.set_cons_zero, List.set_cons_succ]
            refine wpTill_take (i := 8) (v := ?_) rfl (by kernel_rfl) (by kernel_rfl) (by kernel_rfl) (by kernel_rfl) (by kernel_rfl) (fun _ _ _ h => h) (Or.inl ⟨by rfl, ?_⟩) (by assumption) ?_
            rotate_left
            · (intro w hSw; (try dsimp only at hSw); go_simp; try with_reducible rfl)
            try simp only [Act.put, List.setIfInBounds_toArray, List.set_cons_zero, List.set_cons_succ]
            refine wpTill_take (i := 11) (v := ?_) rfl (by kernel_rfl) (by kernel_rfl) (by kernel_rfl) (by kernel_rfl) (by kernel_rfl) (fun _ _ _ h => h) (Or.inl ⟨by rfl, ?_⟩) (by assumption) ?_
            rotate_left
            · (intro w hSw; (try dsimp only at hSw); go_simp; try with_reducible rfl)
            try simp only [Act.put, List.setIfInBounds_toArray, List.set_cons_zero, List.set_cons_succ]
            refine wpTill_take (i := 12) (v := ?_) rfl (by kernel_rfl) (by kernel_rfl) (by kernel_rfl) (by kernel_rfl) (by kernel_rfl) (fun _ _ _ h => h) (Or.inl ⟨by rfl, ?_⟩) (by assumption) ?_
            rotate_left
            · (intro w hSw; (try dsimp only at hSw); go_simp; try with_reducible rfl)
            try simp only [Act.put, List.setIfInBounds_toArray, List.set_cons_zero, List.set_cons_succ]
            refine wpTill_take (i := 13) (v := ?_) rfl (by kernel_rfl) (by kernel_rfl) (by kernel_rfl) (by kernel_rfl) (by kernel_rfl) (fun _ _ _ h => h) (Or.inl ⟨by rfl, ?_⟩) (by assumption) ?_
            rotate_left
            · (intro w hSw; (try dsimp only at hSw); go_simp; try with_reducible rfl)
            try simp only [Act.put, List.setIfInBounds_toArray, List.set_cons_zero, List.set_cons_succ]
            refine wpTill_take (i := 14) (v := ?_) rfl (by kernel_rfl) (by kernel_rfl) (by kernel_rfl) (by kernel_rfl) (by kernel_rfl) (fun _ _ _ h => h) (Or.inl ⟨by rfl, ?_⟩) (by assumption) ?_
            rotate_left
            · (intro w hSw; (try dsimp only at hSw); go_simp; try with_reducible rfl)
            try simp only [Act.put, List.setIfInBounds_toArray, List.set_cons_zero, List.set_cons_succ]
            refine wpTill_ready (rs := [4, 9]) (by kernel_rfl) (by simp) ?_
            refine AllTill.cons (o := _) rfl (fun K hK => ?_) (AllTill.cons (o := _) rfl (fun K hK => ?_) AllTill.nil)
            · go_simp
              go_split_ands
              with_reducible refine (CO.out _ (by with_reducible assumption)).mono ?_
              rintro e w' ⟨g2, n2, q2, rfl, ho, hn2, hb⟩
              have HB2 := Lib.hid (HB.out.drew.on hb)
              have hcm2 := keep2 hb (cell_drew hcm)
              refine hK.out _ _ (fun _ => ?_) (fun hHeld => ?_)
              · exact buS HB2.out hcm2
              have hHeld := hHeld (by decide)
              clear hK K
              try simp only [Act.put, List.setIfInBounds_toArray, List.set_cons_zero, List.set_cons_succ]
              refine wpTill_ready (rs := [9]) (by kernel_rfl) (by simp) ?_
              refine AllTill.cons (o := _) rfl (fun K hK => ?_) AllTill.nil
              go_simp
              have HB3 := Lib.hid (HB2.out.on (box_b w' (.cells #[.int .i64 (i : Int)] 2)))
              have hcm3 := keep2 (box_b w' (.cells #[.int .i64 (i : Int)] 2)) hcm2
              have HI3 := Lib.hid (one_ints w' (i : Int))
              have HO3 := Lib.hid (OwnI.on (OwnI.mono ho (Nat.le_refl W.heap.size)) (box_b w' (.cells #[.int .i64 (i : Int)] 2)))
              have HX3 := Lib.hid (BUx.mk HB3.out (show W.heap.size ≤ _ by have := hb.size; simp at this ⊢; omega))
              refine hK.out _ _ (fun _ => ?_) (fun hHeld => ?_)
              · exact buS HB3.out hcm3
              have hHeld := hHeld (by decide)
              clear hK K ho hb
              subst hn2
              try simp only [Act.put, List.setIfInBounds_toArray, List.set_cons_zero, List.set_cons_succ]
              refine wpTill_ready (rs := [10]) (by kernel_rfl) (by simp) ?_
              refine AllTill.cons (o := _) rfl (fun K hK => ?_) AllTill.nil
              refine step_apI (by rfl) _ _ (by rfl) W.heap.size _ (Z.take at_) [(i : Int)] _ 1 1 (by rfl) HO3.out (by rfl) HI3.out (by simp; omega) HX3.out.low2 ?_
              intro v' w5 hown5 hb5 hnn5
              obtain ⟨g5, c5, rfl, hg5, -⟩ := own_some hown5 (by first | exact hnn5 | exact hnn5 (by simp))
              have HB5 := Lib.hid (HX3.out.bu.up hb5 ⟨HWL.out.1, HWL.out.2.1, HWL.out.2.2.1⟩ HWL.out.2.2.2)
              have HO5 := Lib.hid hown5
              have hcm := ((buS HB3.out hcm3).2.1)
              have hcm5 := (hb5.cell (p := ⟨b1, o1 + k, none⟩) HBL.out).trans hcm
              have hz5 : W.heap.size ≤ w5.heap.size := Nat.le_trans HX3.out.low2 hb5.size
              refine hK.out _ _ (fun _ => ?_) (fun hHeld => ?_)
              · exact buS HB5.out hcm5
              have hHeld := hHeld (by decide)
              clear hK K hcm hb5 hnn5 hown5
              try simp only [Act.put, List.setIfInBounds_toArray, List.set_cons_zero, List.set_cons_succ]
              refine wpTill_ready (rs := [15]) (by kernel_rfl) (by simp) ?_
              refine AllTill.cons (o := _) rfl (fun K hK => ?_) AllTill.nil
              refine step_apI (by rfl) _ _ (by rfl) W.heap.size _ (Z.take at_ ++ [(i : Int)]) (Z.drop at_) _ (m - at_) (d - at_) (by rfl) HO5.out (by rfl) (HAI.out _ HB5.out) (by simp; omega) hz5 ?_
              intro v' w6 hown6 hb6 hnn6
              obtain ⟨g6, c6, rfl, hg6, hgl6, -⟩ := own_some hown6 (by first | exact hnn6 | exact hnn6 (by simp))
              obtain ⟨n6, hn6⟩ : ∃ y_, (Z.take at_ ++ [(i : Int)] ++ Z.drop at_).length = y_ := ⟨_, rfl⟩
              rw [hn6] at hown6 hnn6 ⊢
              have HN6 := Lib.hid hn6
              clear hn6
              have HB6 := Lib.hid (HB5.out.up hb6 ⟨HWL.out.1, HWL.out.2.1, HWL.out.2.2.1⟩ HWL.out.2.2.2)
              have HO6 := Lib.hid hown6
              have hcm6 := (hb6.cell (p := ⟨b1, o1 + k, none⟩) HBL.out).trans hcm5
              refine hK.out _ _ (fun _ => ?_) (fun hHeld => ?_)
              · exact buS HB6.out hcm6
              have hHeld := hHeld (by decide)
              clear hK K hb6 hnn6 hown6
              try simp only [Act.put, List.setIfInBounds_toArray, List.set_cons_zero, List.set_cons_succ]
              refine wpTill_take (i := 16) (v := ?_) rfl (by kernel_rfl) (by kernel_rfl) (by kernel_rfl) (by kernel_rfl) (by kernel_rfl) (fun _ _ _ h => h) (Or.inl ⟨by rfl, ?_⟩) (by assumption) ?_
              rotate_left
              · (intro w hSw; (try dsimp only at hSw); go_simp; try with_reducible rfl)
              try simp only [Act.put, List.setIfInBounds_toArray, List.set_cons_zero, List.set_cons_succ]
              obtain ⟨x0, x1, x2⟩ := HB6.out.o.threeT
              have hfz := HB6.out.o.free 1
              have HEND := Lib.hid (HB6.out.put HO6.out HAL.out HN6.out)
              refine wpTill_ready (rs := [17]) (by kernel_rfl) (by simp) ?_
              refine AllTill.cons (o := _) rfl (fun K hK => ?_) AllTill.nil
              go_simp
              refine hK.out _ _ (fun h => absurd rfl h) (fun _ => ?_)
              clear hK K hHeld
              try simp only [Act.put, List.setIfInBounds_toArray, List.set_cons_zero, List.set_cons_succ]
              refine wpTill_done (by kernel_rfl) ?_ _
              obtain ⟨W7, hW7⟩ : ∃ y_, w6.setCell ⟨X, 1, none⟩ (.slice (some ⟨g6, 0, none⟩) n6 c6) = y_ := ⟨_, rfl⟩
              rw [hW7] at HEND ⊢
              clear hW7 x0 x1 x2 hfz hcm6 hcm5
              go_wp2_with fail
              go_roundw
              case rel => exact ⟨k + 1, _, _, _, _, by omega, by go_num, HBUS, HEND, Lib.hid (HNEW.out at_ HLE.out HLT.out HGE.out)⟩
              case measure => simp [intOf]; omega
            · go_simp
              have HB3 := Lib.hid (HB.out.on (box_b W (.cells #[.int .i64 (i : Int)] 2))).drew
              have hcm3 := cell_drew (keep2 (box_b W (.cells #[.int .i64 (i : Int)] 2)) hcm)
              have HI3 := Lib.hid ((one_ints W (i : Int)).on (Below.drew (Below.refl _ _)))
              refine hK.out _ _ (fun _ => ?_) (fun hHeld => ?_)
              · exact buS HB3.out hcm3
              have hHeld := hHeld (by decide)
              clear hK K
              try simp only [Act.put, List.setIfInBounds_toArray, List.set_cons_zero, List.set_cons_succ]
              refine wpTill_ready (rs := [4]) (by kernel_rfl) (by simp) ?_
              refine AllTill.cons (o := _) rfl (fun K hK => ?_) AllTill.nil
              go_simp
              go_split_ands
              with_reducible refine (CO.out _ HB3).mono ?_
              rintro e w' ⟨g2, n2, q2, rfl, ho, hn2, hb⟩
              have HB4 := Lib.hid (HB3.out.on hb)
              have hcm4 := keep2 hb hcm3
              have HI4 := Lib.hid (HI3.out.on hb)
              have hsz4 : W.heap.size ≤ (W.alloc (.cells #[.int .i64 (i : Int)] 2)).drew.heap.size := by simp
              have HO4 := Lib.hid (OwnI.mono ho hsz4)
              have HX4 := Lib.hid (BUx.mk HB4.out (Nat.le_trans hsz4 hb.size))
              refine hK.out _ _ (fun _ => ?_) (fun hHeld => ?_)
              · exact buS HB4.out hcm4
              have hHeld := hHeld (by decide)
              clear hK K ho hb
              subst hn2
              try simp only [Act.put, List.setIfInBounds_toArray, List.set_cons_zero, List.set_cons_succ]
              refine wpTill_ready (rs := [10]) (by kernel_rfl) (by simp) ?_
              refine AllTill.cons (o := _) rfl (fun K hK => ?_) AllTill.nil
              refine step_apI (by rfl) _ _ (by rfl) W.heap.size _ (Z.take at_) [(i : Int)] _ 1 1 (by rfl) HO4.out (by rfl) HI4.out (by simp; omega) HX4.out.low2 ?_
              intro v' w5 hown5 hb5 hnn5
              obtain ⟨g5, c5, rfl, hg5, -⟩ := own_some hown5 (by first | exact hnn5 | exact hnn5 (by simp))
              have HB5 := Lib.hid (HX4.out.bu.up hb5 ⟨HWL.out.1, HWL.out.2.1, HWL.out.2.2.1⟩ HWL.out.2.2.2)
              have HO5 := Lib.hid hown5
              have hcm := ((buS HB4.out hcm4).2.1)
              have hcm5 := (hb5.cell (p := ⟨b1, o1 + k, none⟩) HBL.out).trans hcm
              have hz5 : W.heap.size ≤ w5.heap.size := Nat.le_trans HX4.out.low2 hb5.size
              refine hK.out _ _ (fun _ => ?_) (fun hHeld => ?_)
              · exact buS HB5.out hcm5
              have hHeld := hHeld (by decide)
              clear hK K hcm hb5 hnn5 hown5
              try simp only [Act.put, List.setIfInBounds_toArray, List.set_cons_zero, List.set_cons_succ]
              refine wpTill_ready (rs := [15]) (by kernel_rfl) (by simp) ?_
              refine AllTill.cons (o := _) rfl (fun K hK => ?_) AllTill.nil
              refine step_apI (by rfl) _ _ (by rfl) W.heap.size _ (Z.take at_ ++ [(i : Int)]) (Z.drop at_) _ (m - at_) (d - at_) (by rfl) HO5.out (by rfl) (HAI.out _ HB5.out) (by simp; omega) hz5 ?_
              intro v' w6 hown6 hb6 hnn6
              obtain ⟨g6, c6, rfl, hg6, hgl6, -⟩ := own_some hown6 (by first | exact hnn6 | exact hnn6 (by simp))
              obtain ⟨n6, hn6⟩ : ∃ y_, (Z.take at_ ++ [(i : Int)] ++ Z.drop at_).length = y_ := ⟨_, rfl⟩
              rw [hn6] at hown6 hnn6 ⊢
              have HN6 := Lib.hid hn6
              clear hn6
              have HB6 := Lib.hid (HB5.out.up hb6 ⟨HWL.out.1, HWL.out.2.1, HWL.out.2.2.1⟩ HWL.out.2.2.2)
              have HO6 := Lib.hid hown6
              have hcm6 := (hb6.cell (p := ⟨b1, o1 + k, none⟩) HBL.out).trans hcm5
              refine hK.out _ _ (fun _ => ?_) (fun hHeld => ?_)
              · exact buS HB6.out hcm6
              have hHeld := hHeld (by decide)
              clear hK K hb6 hnn6 hown6
              try simp only [Act.put, List.setIfInBounds_toArray, List.set_cons_zero, List.set_cons_succ]
              refine wpTill_take (i := 16) (v := ?_) rfl (by kernel_rfl) (by kernel_rfl) (by kernel_rfl) (by kernel_rfl) (by kernel_rfl) (fun _ _ _ h => h) (Or.inl ⟨by rfl, ?_⟩) (by assumption) ?_
              rotate_left
              · (intro w hSw; (try dsimp only at hSw); go_simp; try with_reducible rfl)
              try simp only [Act.put, List.setIfInBounds_toArray, List.set_cons_zero, List.set_cons_succ]
              obtain ⟨x0, x1, x2⟩ := HB6.out.o.threeT
              have hfz := HB6.out.o.free 1
              have HEND := Lib.hid (HB6.out.put HO6.out HAL.out HN6.out)
              refine wpTill_ready (rs := [17]) (by kernel_rfl) (by simp) ?_
              refine AllTill.cons (o := _) rfl (fun K hK => ?_) AllTill.nil
              go_simp
              refine hK.out _ _ (fun h => absurd rfl h) (fun _ => ?_)
              clear hK K hHeld
              try simp only [Act.put, List.setIfInBounds_toArray, List.set_cons_zero, List.set_cons_succ]
              refine wpTill_done (by kernel_rfl) ?_ _
              obtain ⟨W7, hW7⟩ : ∃ y_, w6.setCell ⟨X, 1, none⟩ (.slice (some ⟨g6, 0, none⟩) n6 c6) = y_ := ⟨_, rfl⟩
              rw [hW7] at HEND ⊢
              clear hW7 x0 x1 x2 hfz hcm6 hcm5
              go_wp2_with fail
              go_roundw
              case rel => exact ⟨k + 1, _, _, _, _, by omega, by go_num, HBUS, HEND, Lib.hid (HNEW.out at_ HLE.out HLT.out HGE.out)⟩
              case measure => simp [intOf]; omega
    · have hkm : k = mm := by omega
      obtain ⟨e0, e1, e2, e3, e4⟩ := HB.out.stored (p := .slice (some ⟨g, 0, none⟩) n q) (r := .slice (some ⟨h, 0, none⟩) m d) (t := .int .i64 ch)
      have HEB := Lib.hid e3
      have HEF := Lib.hid e4
      have HKM := Lib.hid hkm
      clear e3 e4 hkm
      go_wp2_with fail
      refine bodyPost_ret (v := .tuple #[.agg #[.slice (some ⟨g, 0, none⟩) n q, .slice (some ⟨h, 0, none⟩) m d, .int .i64 ch], .int .i64 0]) (by simp [results, Try.results53, go_sem, e0, e1, e2]) rfl ?_
      have hz := HZ.out
      have hbu := HBU.out
      rw [List.take_of_length_le (by rw [FL.out, HKM.out]; exact Nat.le_refl _)] at hz hbu
      refine ⟨fun _ => ⟨_, _, _, _, _, _, rfl, by rw [← hz]; exact HEF.out, HEB.out⟩, fun h => by rw [hbu] at h; cases h⟩

end Go.Proofs.Ytpphiekbhikadaa
