/- Merged: Tsd, Tse. -/
import Derived.Test.YtpphiekbhikadaaTa15
import Derived.Deep.CutRange
import Derived.Deep.CutBlock

/- Tontines: the model: members buried; an income divided. -/
namespace Go.Proofs.Ytpphiekbhikadaa
open Go.ChangeShapes Go.WideShapes Go.ChangeAt Go.RowKit
set_option linter.unusedVariables false
set_option linter.unusedSimpArgs false
set_option maxRecDepth 100000

theorem to_eq {l m : Nat} {ms : List Int} (hm : ms.length = m) : (ms.all (fun x => inB x 0 ((l : Int) - 1)) && decide ((m : Int) ≤ 120)) = toB l ms := by
  unfold toB
  rw [hm, Bool.and_comm]
  congr 1
  exact decide_eq_decide.2 (by omega)

theorem CxPost.ce {sh de : List Int} {ch : Int} {w : World} {e : Ending} {w' : World} (h : CxPost sh de ch w e w') (h1 : sh.length ≤ 4096) (h2 : de.length ≤ 4096) : CEPost sh de ch 0 w e w' := by
  obtain ⟨g, n, q, k, m, d, rfl, hf, hb⟩ := h
  obtain ⟨f1, f2, f3⟩ := hf.ce (c := w.heap.size) (by omega) h1 h2
  exact ⟨_, _, _, _, _, _, rfl, f1, f2, f3, hb⟩

set_option maxHeartbeats 4000000 in
theorem tbS_any (sh de ms : List Int) (a x y : Option Addr) (l c n d m k : Nat) (ch : Int) (w : World) (h : Ints w a l sh) (g : Ints w x n de) (f : Ints w y m ms) :
    Calls Try.prog 27 #[.agg #[.slice a l c, .slice x n d, .int .i64 ch], .slice y m k] w (CEPost (bmS sh de ch ms) (bmD sh de ch ms) (bmC sh de ch ms) (bmE sh de ch ms) w) := by
  have H := Lib.hid h
  have G := Lib.hid g
  have F := Lib.hid f
  have HL := Lib.hid h.len
  have FL := Lib.hid f.len
  have hlm := h.max
  have hmm := f.max
  clear h g f
  have q1 : IntKind.i64.wrap ((l : Int) - 1) = (l : Int) - 1 := IntWalk.i64_in _ (by omega)
  have HX0 := Lib.hid (XB.new w (.slice a l c) (.slice x n d) ch 26 26)
  have CI : Hid (∀ W, Hid (XB w (.slice a l c) (.slice x n d) ch W) → Calls Try.prog 23 #[.agg #[.slice a l c, .slice x n d, .int .i64 ch]] W fun e w' => e = .returned (.bool (tcB sh de ch)) ∧ Below W.heap.size W w') := Lib.hid (fun W hW => tcS_any sh de a x l c n d ch W (H.out.on hW.out.low) (G.out.on hW.out.low))
  have CO : Hid (∀ W, Hid (XB w (.slice a l c) (.slice x n d) ch W) → Calls Try.prog 51 #[.slice y m k, .int .i64 120, .int .i64 0, .int .i64 ((l : Int) - 1)] W fun e w' => e = .returned (.bool (toB l ms)) ∧ W = w') := Lib.hid (fun W hW => by have := inAll_any ms y m k 120 0 ((l : Int) - 1) W (F.out.on hW.out.low); rw [to_eq FL.out] at this; exact this)
  obtain ⟨c0, c1, c2, r0, r1, r2, z0, z1, z2⟩ := xbS HX0.out
  by_cases ht : tcB sh de ch = true
  · have hok := tc_iff.1 ht
    have HO := Lib.hid hok
    rw [ht] at CI
    by_cases hto : toB l ms = true
    · rw [hto] at CO
      have hms : ∀ m ∈ ms, 0 ≤ m ∧ m < sh.length := to_mem (by rw [HL.out]; exact hto)
      have hbe : bmE sh de ch ms = if buB de ms then 0 else 5 := by unfold bmE; rw [if_pos ht, HL.out, if_pos hto]
      have CB : Hid (∀ W, Hid (XB w (.slice a l c) (.slice x n d) ch W) → Calls Try.prog 53 #[.agg #[.slice a l c, .slice x n d, .int .i64 ch], .slice y m k] W (BvPost sh de ms ch W)) := Lib.hid (fun W hW => sbu_any sh de de [] ms a x y l c n d m k ch ch W (H.out.on hW.out.low) (by rw [inc_can HO.out.d]; exact G.out.on hW.out.low) (F.out.on hW.out.low) HO.out hms)
      have hcl : (canD (de ++ ms) sh.length).length ≤ 4096 := by have := liv_can (de ++ ms) sh.length; have := hok.n1; omega
      have hsl : sh.length ≤ 4096 := by have := hok.n1; omega
      by_cases hbu : buB de ms = true
      · rw [if_pos hbu] at hbe
        obtain ⟨v1, v2, v3⟩ := bm_yes hbe
        rw [v1, v2, v3, hbe]
        have HBU := Lib.hid hbu
        clear ht hok hto hms hbe hbu v1 v2 v3
        go_enter Try.func27, Try.ntmps27
        go_wp2_with (first
          | (go_at_call 23; refine (CI.out _ HX0).mono ?_; rintro e w1 ⟨rfl, hb⟩; have HX1 := Lib.hid (HX0.out.on hb); obtain ⟨c0, c1, c2, r0, r1, r2, z0, z1, z2⟩ := xbS HX1.out; clear hb)
          | (go_at_call 51; refine (CO.out _ HX1).mono ?_; rintro e w2 ⟨rfl, rfl⟩)
          | (go_at_call 53; refine (CB.out _ HX1).mono ?_; rintro e w3 ⟨h1, h2⟩; obtain ⟨a1, n1, q1', b1, m1, d1, rfl, hf, hb⟩ := h1 HBU.out; have HX3 := Lib.hid (HX1.out.on hb); have HF := Lib.hid hf; obtain ⟨c0, c1, c2, r0, r1, r2, z0, z1, z2⟩ := xbS HX3.out; obtain ⟨e0, e1, e2, e3⟩ := xbE HX3.out (.slice (some ⟨a1, 0, none⟩) n1 q1') (.slice (some ⟨b1, 0, none⟩) m1 d1) (.int .i64 ch); have HEB := Lib.hid e3; clear h1 h2 hf hb e3))
        refine bodyPost_ret (v := .tuple #[.agg #[.slice (some ⟨a1, 0, none⟩) n1 q1', .slice (some ⟨b1, 0, none⟩) m1 d1, .int .i64 ch], .int .i64 0]) (by simp [results, Try.results27, go_sem, e0, e1, e2]) rfl ?_
        have hsz := HX1.out.sz
        obtain ⟨f1, f2, f3⟩ := HF.out.ce (c := w1.heap.size) (by omega) hsl hcl
        exact ⟨_, _, _, _, _, _, rfl, tb_mono (tb_far f1 (by omega)) (by omega), tb_mono (tb_far f2 (by omega)) (by omega), f3, HEB.out⟩
      · have hbf : buB de ms = false := by simpa using hbu
        rw [hbf, if_neg (by decide)] at hbe
        obtain ⟨v1, v2, v3⟩ := bm_no (by rw [hbe]; decide)
        rw [v1, v2, v3, hbe]
        have HBF := Lib.hid hbf
        clear ht hok hto hms hbe hbu hbf v1 v2 v3
        go_enter Try.func27, Try.ntmps27
        go_wp2_with (first
          | (go_at_call 23; refine (CI.out _ HX0).mono ?_; rintro e w1 ⟨rfl, hb⟩; have HX1 := Lib.hid (HX0.out.on hb); obtain ⟨c0, c1, c2, r0, r1, r2, z0, z1, z2⟩ := xbS HX1.out; clear hb)
          | (go_at_call 51; refine (CO.out _ HX1).mono ?_; rintro e w2 ⟨rfl, rfl⟩)
          | (go_at_call 53; refine (CB.out _ HX1).mono ?_; rintro e w3 ⟨h1, h2⟩; obtain ⟨rfl, hb⟩ := h2 HBF.out; have HX3 := Lib.hid (HX1.out.on hb); obtain ⟨c0, c1, c2, r0, r1, r2, z0, z1, z2⟩ := xbS HX3.out; obtain ⟨e0, e1, e2, e3⟩ := xbE HX3.out (.slice none 0 0) (.slice none 0 0) (.int .i64 0); have HEB := Lib.hid e3; clear h1 h2 hb e3))
        refine bodyPost_ret (v := .tuple #[.agg #[.slice none 0 0, .slice none 0 0, .int .i64 0], .int .i64 5]) (by simp [results, Try.results27, go_sem, e0, e1, e2]) rfl ?_
        exact CEPost.zero HEB.out
    · have hto' : toB l ms = false := by simpa using hto
      rw [hto'] at CO
      have hbe : bmE sh de ch ms = 2 := by unfold bmE; rw [if_pos ht, HL.out, if_neg hto]
      obtain ⟨v1, v2, v3⟩ := bm_no (by rw [hbe]; decide)
      rw [v1, v2, v3, hbe]
      clear ht hok hto hto' hbe v1 v2 v3
      go_enter Try.func27, Try.ntmps27
      go_wp2_with (first
          | (go_at_call 23; refine (CI.out _ HX0).mono ?_; rintro e w1 ⟨rfl, hb⟩; have HX1 := Lib.hid (HX0.out.on hb); obtain ⟨c0, c1, c2, r0, r1, r2, z0, z1, z2⟩ := xbS HX1.out; obtain ⟨e0, e1, e2, e3⟩ := xbE HX1.out (.slice none 0 0) (.slice none 0 0) (.int .i64 0); have HEB := Lib.hid e3; clear hb e3)
          | (go_at_call 51; refine (CO.out _ HX1).mono ?_; rintro e w2 ⟨rfl, rfl⟩))
      refine bodyPost_ret (v := .tuple #[.agg #[.slice none 0 0, .slice none 0 0, .int .i64 0], .int .i64 2]) (by simp [results, Try.results27, go_sem, e0, e1, e2]) rfl ?_
      exact CEPost.zero HEB.out
  · have ht' : tcB sh de ch = false := by simpa using ht
    rw [ht'] at CI
    have hbe : bmE sh de ch ms = 1 := by unfold bmE; rw [if_neg ht]
    obtain ⟨v1, v2, v3⟩ := bm_no (by rw [hbe]; decide)
    rw [v1, v2, v3, hbe]
    clear ht ht' hbe v1 v2 v3
    go_enter Try.func27, Try.ntmps27
    go_wp2_with (go_at_call 23; refine (CI.out _ HX0).mono ?_; rintro e w1 ⟨rfl, hb⟩; have HX1 := Lib.hid (HX0.out.on hb); obtain ⟨c0, c1, c2, r0, r1, r2, z0, z1, z2⟩ := xbS HX1.out; obtain ⟨e0, e1, e2, e3⟩ := xbE HX1.out (.slice none 0 0) (.slice none 0 0) (.int .i64 0); have HEB := Lib.hid e3; clear hb e3)
    refine bodyPost_ret (v := .tuple #[.agg #[.slice none 0 0, .slice none 0 0, .int .i64 0], .int .i64 1]) (by simp [results, Try.results27, go_sem, e0, e1, e2]) rfl ?_
    exact CEPost.zero HEB.out

/-- while an income is divided: the class, the class that is built, what is paid -/
structure PU (w : World) (u v : Value) (ch : Int) (X g n q : Nat) (sh : List Int) (h m d : Nat) (Z : List Int) (t : Int) (PB : Nat) (Pd : List Int) (W : World) : Prop where
  c : Bx W w.heap.size [u, v, .int .i64 ch]
  b : BUr w X g n q sh h m d Z t W
  p : Blk W PB Pd
  xp : X < PB ∧ g < PB ∧ h < PB

section
variable {w : World} {u v : Value} {ch : Int} {X g n q : Nat} {sh : List Int} {h m d : Nat} {Z : List Int} {t : Int} {PB : Nat} {Pd : List Int} {W W' : World}

theorem BUr.setT (b : BUr w X g n q sh h m d Z t W) (t' : Int) : BUr w X g n q sh h m d Z t' (W.setCell ⟨X, 2, none⟩ (.int .i64 t')) := by
  have hx0 := b.x0
  exact ⟨b.r.same (far_setCell _ _ _ _ (by show _ ≠ X; omega)), b.o.setAt 2 _, ⟨⟨own_at b.f.1.1 (far_setCell _ _ _ _ b.gx), b.f.1.2⟩, ⟨own_at b.f.2.1.1 (far_setCell _ _ _ _ b.hx), b.f.2.1.2⟩, b.f.2.2⟩, b.low.setCell (p := ⟨X, 2, none⟩) (by show _ ≤ X; omega) _, b.x0, b.gx, b.hx⟩

theorem PU.on (k : PU w u v ch X g n q sh h m d Z t PB Pd W) (hb : Below W.heap.size W W') : PU w u v ch X g n q sh h m d Z t PB Pd W' := ⟨k.c.on hb, k.b.on hb, k.p.below hb k.p.lt, k.xp⟩

theorem PU.setT (k : PU w u v ch X g n q sh h m d Z t PB Pd W) (t' : Int) : PU w u v ch X g n q sh h m d Z t' PB Pd (W.setCell ⟨X, 2, none⟩ (.int .i64 t')) := by
  have hx0 := k.b.x0
  have := k.xp
  exact ⟨k.c.same (far_setCell _ _ _ _ (by show _ ≠ X; omega)), k.b.setT t', k.p.same (far_setCell _ _ _ _ (by show _ ≠ X; omega)), k.xp⟩

theorem PU.setP (k : PU w u v ch X g n q sh h m d Z t PB Pd W) (i : Nat) (y : Int) : PU w u v ch X g n q sh h m d Z t PB (Pd.set i y) (W.setCell ⟨PB, i, none⟩ (.int .i64 y)) := by
  have hx0 := k.b.x0
  have := k.xp
  exact ⟨k.c.same (far_setCell _ _ _ _ (by show _ ≠ PB; omega)), k.b.up ((Below.refl PB W).setCell (p := ⟨PB, i, none⟩) (Nat.le_refl _) _) k.xp (by omega), k.p.set i y, k.xp⟩
end

def PvPost (sh Z : List Int) (t : Int) (l : Nat) (w : World) (e : Ending) (w' : World) : Prop :=
  (chV sh Z t ≤ 1000000000000 → ∃ g n q h m d y, e = .returned (.tuple #[.agg #[.slice (some ⟨g, 0, none⟩) n q, .slice (some ⟨h, 0, none⟩) m d, .int .i64 (chV sh Z t)], .slice (some ⟨y, 0, none⟩) l l, .int .i64 0]) ∧
    Fin2 (w.heap.size + 2) w' g n q sh h m d Z ∧ Blk w' y (padL sh (livL Z sh.length) (eaV sh Z t) (List.replicate l 0)) ∧ (w.heap.size + 2 ≤ y ∧ g ≠ y ∧ h ≠ y) ∧ Below w.heap.size w w') ∧
  (¬ chV sh Z t ≤ 1000000000000 → e = .returned (.tuple #[.agg #[.slice none 0 0, .slice none 0 0, .int .i64 0], .slice none 0 0, .int .i64 3]) ∧ Below w.heap.size w w')

set_option maxHeartbeats 16000000 in
theorem spa_any (sh de Z : List Int) (a x : Option Addr) (l c n0 d0 : Nat) (ch c0 inc : Int) (w : World) (ha : Ints w a l sh) (hz : Ints w x n0 Z) (hok : TcOk sh de c0) (hZl : Z.length ≤ 60) (h0 : 0 ≤ ch) (h1 : ch ≤ 1000000000000) (i0 : 0 ≤ inc) (i1 : inc ≤ 100000000) :
    Calls Try.prog 54 #[.agg #[.slice a l c, .slice x n0 d0, .int .i64 ch], .int .i64 inc] w (PvPost sh Z (ch + inc) l w) := by
  have H := Lib.hid ha
  have F := Lib.hid hz
  have HL := Lib.hid ha.len
  have HO := Lib.hid hok
  have hn60 : l ≤ 60 := by have := ha.len; have := hok.n1; omega
  have q0 : IntKind.i64.wrap (ch + inc) = ch + inc := IntWalk.i64_in _ (by omega)
  have t0 : 0 ≤ ch + inc := by omega
  have t1 : ch + inc ≤ 1000100000000 := by omega
  have HX0 := Lib.hid (XB.new w (.slice a l c) (.slice x n0 d0) ch 26 26)
  have CW : Hid (∀ W, Hid (XB w (.slice a l c) (.slice x n0 d0) ch W) → Calls Try.prog 52 #[.agg #[.slice a l c, .slice x n0 d0, .int .i64 ch]] W (CwPost sh Z ch W)) := Lib.hid (fun W hW => soC_any sh Z a x l c n0 d0 ch W (ha.on hW.out.low) (hz.on hW.out.low) (by omega) (by have := hz.len; omega))
  have CL : Hid (∀ W, Below w.heap.size w W → Calls Try.prog 60 #[.agg #[.slice a l c, .slice x n0 d0, .int .i64 ch]] W fun e w' => e = .returned (.int .i64 (lsV sh Z)) ∧ Below W.heap.size W w') := Lib.hid (fun W hW => sliv_any sh Z de a x l c n0 d0 ch c0 W (ha.on hW) (hz.on hW) hok)
  have CH : Hid (∀ (k : Int) W, Below w.heap.size w W → Calls Try.prog 63 #[.slice x n0 d0, .int .i64 k] W fun e w' => e = .returned (.bool (decide (k ∈ Z))) ∧ w' = W) := Lib.hid (fun k W hW => shas_any Z x n0 d0 k W (hz.on hW))
  obtain ⟨c1', c2', c3', c4'⟩ := ch_nums hok Z t0
  obtain ⟨e1', e2', e3'⟩ := ea_nums hok Z t0
  obtain ⟨l1', l2'⟩ := hok.ls Z
  have hnone := hok.none Z
  have hmk := make_ints l (by omega)
  obtain ⟨k0, k1, k2, -⟩ := xbS HX0.out
  obtain ⟨t, ht⟩ : ∃ y_, ch + inc = y_ := ⟨_, rfl⟩
  rw [ht] at q0 t0 t1 c1' c2' c3' c4' e1' e2' e3' ⊢
  have hE : eaV sh Z t = t / lsV sh Z := rfl
  have HE3 := Lib.hid e3'
  have HLV : Hid (livL Z l = livL Z sh.length) := Lib.hid (by rw [HL.out])
  clear ha hz hok e3'
  have e0 : ((List.replicate l (0 : Int)).map (Value.int .i64)).toArray = Array.replicate l (.int .i64 0) := by simp
  go_enter Try.func54, Try.ntmps54
  go_upto_region 2 with (go_at_call 52; refine (CW.out _ HX0).mono ?_; rintro e w1 ⟨g, n, q, h, m, d, rfl, hf, hb⟩; have HX1 := Lib.hid (HX0.out.on hb); have HF := Lib.hid hf; clear hf hb)
  have hB1 := box_b w1 (.cells #[.slice (some ⟨g, 0, none⟩) n q, .slice (some ⟨h, 0, none⟩) m d, .int .i64 ch] 26)
  have hlt1 := (World.ownsRow.lt HF.out.1.1 g rfl).2
  have hlt2 := (World.ownsRow.lt HF.out.2.1.1 h rfl).2
  have hsz1 := HX1.out.sz
  have HB0 : Hid (BUr w w1.heap.size g n q sh h m d Z ch (w1.alloc (.cells #[.slice (some ⟨g, 0, none⟩) n q, .slice (some ⟨h, 0, none⟩) m d, .int .i64 ch] 26))) := Lib.hid
    ⟨HX1.out.r.on hB1, Bx.new w1 [.slice (some ⟨g, 0, none⟩) n q, .slice (some ⟨h, 0, none⟩) m d, .int .i64 ch] 26, ⟨⟨own_at (OwnI.mono HF.out.1.1 (by have := HX0.out.low.size; omega)) (hB1.block _ hlt1), HF.out.1.2⟩, ⟨own_at (OwnI.mono HF.out.2.1.1 (by have := HX0.out.low.size; omega)) (hB1.block _ hlt2), HF.out.2.1.2⟩, HF.out.2.2⟩, HX1.out.low.trans (hB1.mono HX1.out.low.size), hsz1, by omega, by omega⟩
  have HC0 := Lib.hid (HX1.out.c.on hB1)
  obtain ⟨X, hX⟩ : ∃ y_, w1.heap.size = y_ := ⟨_, rfl⟩
  obtain ⟨W1, hW1⟩ : ∃ y_, w1.alloc (.cells #[.slice (some ⟨g, 0, none⟩) n q, .slice (some ⟨h, 0, none⟩) m d, .int .i64 ch] 26) = y_ := ⟨_, rfl⟩
  rw [hX, hW1] at HB0
  rw [hW1] at HC0 ⊢
  (try rw [hX])
  clear hX hW1 hB1 hlt1 hlt2 hsz1 HF HX1 k0 k1 k2 HX0 CW
  obtain ⟨c0, c1, c2⟩ := HC0.out.threeT
  obtain ⟨o0, o1, o2⟩ := HB0.out.o.threeT
  have of2 := HB0.out.o.free 2
  have hx0 := HB0.out.x0
  have hXl := HB0.out.lt
  have hne : w.heap.size ≠ X := by omega
  have hsz : (W1.setCell ⟨X, 2, none⟩ (.int .i64 t)).heap.size = W1.heap.size := by simp [World.setCell]
  have hcc : (W1.setCell ⟨X, 2, none⟩ (.int .i64 t)).cell? ⟨w.heap.size, 0, none⟩ = some (.slice a l c) := (HC0.out.same (far_setCell W1 ⟨X, 2, none⟩ (.int .i64 t) w.heap.size hne)).threeT.1
  have HP0 : Hid (PU w (.slice a l c) (.slice x n0 d0) ch X g n q sh h m d Z t W1.heap.size (List.replicate l 0) ((W1.setCell ⟨X, 2, none⟩ (.int .i64 t)).alloc (.cells (Array.replicate l (.int .i64 0)) 2))) := Lib.hid (by
    have hb := box_b (W1.setCell ⟨X, 2, none⟩ (.int .i64 t)) (.cells (Array.replicate l (.int .i64 0)) 2)
    have hp := Blk.new (W1.setCell ⟨X, 2, none⟩ (.int .i64 t)) (List.replicate l 0)
    rw [e0, hsz] at hp
    exact ⟨(HC0.out.same (far_setCell _ _ _ _ hne)).on hb, (HB0.out.setT t).on hb, hp, hXl⟩)
  clear hx0 hXl
  go_upto_region 4 with fail
  obtain ⟨W2, hW2⟩ : ∃ y_, ((W1.setCell ⟨X, 2, none⟩ (.int .i64 t)).alloc (.cells (Array.replicate l (.int .i64 0)) 2)) = y_ := ⟨_, rfl⟩
  obtain ⟨PB, hPB⟩ : ∃ y_, W1.heap.size = y_ := ⟨_, rfl⟩
  rw [hW2, hPB] at HP0
  rw [hW2]
  (try rw [hPB])
  clear hW2 hPB hsz hcc of2 o0 o1 o2 c0 c1 c2 HC0 HB0 hmk e0 hne
  obtain ⟨c0, c1, c2⟩ := HP0.out.c.threeT
  by_cases hz : livL Z sh.length = []
  · have hls : lsV sh Z = 0 := hnone.1 hz
    have hct := c4' hz
    have HPd : Hid (padL sh (livL Z sh.length) (eaV sh Z t) (List.replicate l 0) = List.replicate l 0) := Lib.hid (by rw [hz, padL_nil])
    have HCT := Lib.hid hct
    rw [hls] at CL
    clear c1' c2' c3' c4' e1' e2' l1' l2' hnone hls hct hz hE
    by_cases hg : t ≤ 1000000000000
    · have HG := Lib.hid hg
      have hgd : decide (t > 1000000000000) = false := by simp; omega
      go_upto_region 13 with (go_at_call 60; refine (CL.out _ HP0.out.b.low).mono ?_; rintro e w3 ⟨rfl, hb⟩; have HU := Lib.hid (HP0.out.on hb); clear hb)
      obtain ⟨x0, x1, x2⟩ := HU.out.b.o.threeT
      obtain ⟨r0, r1, r2⟩ := HU.out.b.r.threeT
      have z0 := HU.out.b.r.free 0
      have z1 := HU.out.b.r.free 1
      have z2 := HU.out.b.r.free 2
      obtain ⟨e0, e1, e2, e3, e4⟩ := HU.out.b.stored (p := .slice (some ⟨g, 0, none⟩) n q) (r := .slice (some ⟨h, 0, none⟩) m d) (t := .int .i64 t)
      have HEB := Lib.hid e3
      have HEF := Lib.hid e4
      have hpr : PB ≠ w.heap.size + 1 := by have := HU.out.xp; have := HU.out.b.x0; omega
      have HPP := Lib.hid (HU.out.p.same (sets3_far _ _ (.slice (some ⟨g, 0, none⟩) n q) (.slice (some ⟨h, 0, none⟩) m d) (.int .i64 t) PB hpr))
      have HPX := Lib.hid (And.intro HU.out.xp HU.out.b.x0)
      clear e3 e4 hpr
      go_wp2_with fail
      refine bodyPost_ret (v := .tuple #[.agg #[.slice (some ⟨g, 0, none⟩) n q, .slice (some ⟨h, 0, none⟩) m d, .int .i64 t], .slice (some ⟨PB, 0, none⟩) l l, .int .i64 0]) (by simp [results, Try.results54, go_sem, e0, e1, e2]) rfl ?_
      unfold PvPost
      rw [HCT.out, HPd.out]
      exact ⟨fun _ => ⟨_, _, _, _, _, _, _, rfl, HEF.out, HPP.out, ⟨by have := HPX.out; omega, by have := HPX.out; omega, by have := HPX.out; omega⟩, HEB.out⟩, fun hn => absurd HG.out hn⟩
    · have HG := Lib.hid hg
      have hgd : decide (t > 1000000000000) = true := by simp; omega
      go_upto_region 13 with (go_at_call 60; refine (CL.out _ HP0.out.b.low).mono ?_; rintro e w3 ⟨rfl, hb⟩; have HU := Lib.hid (HP0.out.on hb); clear hb)
      obtain ⟨x0, x1, x2⟩ := HU.out.b.o.threeT
      obtain ⟨r0, r1, r2⟩ := HU.out.b.r.threeT
      have z0 := HU.out.b.r.free 0
      have z1 := HU.out.b.r.free 1
      have z2 := HU.out.b.r.free 2
      obtain ⟨e0, e1, e2, e3, -⟩ := HU.out.b.stored (p := .slice none 0 0) (r := .slice none 0 0) (t := .int .i64 0)
      have HEB := Lib.hid e3
      clear e3
      go_wp2_with fail
      refine bodyPost_ret (v := .tuple #[.agg #[.slice none 0 0, .slice none 0 0, .int .i64 0], .slice none 0 0, .int .i64 3]) (by simp [results, Try.results54, go_sem, e0, e1, e2]) rfl ?_
      unfold PvPost
      rw [HCT.out]
      exact ⟨fun hp => absurd hp (by have := HG.out; omega), fun _ => ⟨rfl, HEB.out⟩⟩
  · have hpos := HO.out.pos Z hz
    obtain ⟨hc1, hc2⟩ := c3' hz
    have hg : chV sh Z t ≤ 1000000000000 := by omega
    have HG := Lib.hid hg
    obtain ⟨E, hE2⟩ : ∃ y_, eaV sh Z t = y_ := ⟨_, rfl⟩
    obtain ⟨R, hR⟩ : ∃ y_, chV sh Z t = y_ := ⟨_, rfl⟩
    rw [hE2] at hE e1' e2' HE3
    rw [hR] at hc1 hc2 c1' c2' HG
    have HER := Lib.hid (And.intro hE2 hR)
    obtain ⟨lv, hlv⟩ : ∃ y_, lsV sh Z = y_ := ⟨_, rfl⟩
    rw [hlv] at hE hc1 hpos CL l2'
    have qE : t.tdiv lv = E := by rw [Int.tdiv_eq_ediv_of_nonneg t0, hE]
    have qR : t.tmod lv = R := by rw [Int.tmod_eq_emod_of_nonneg t0, hc1]
    have qE2 : IntKind.i64.wrap E = E := IntWalk.i64_in _ (by omega)
    have qR2 : IntKind.i64.wrap R = R := IntWalk.i64_in _ (by omega)
    have lv0 : lv ≠ 0 := by omega
    have hld : decide (lv > 0) = true := by simp; omega
    rw [← HLV.out] at HE3
    clear c1' c2' c3' c4' hnone hz hE hc1 hg hE2 hR hlv l1'
    go_upto_region 6 with (go_at_call 60; refine (CL.out _ HP0.out.b.low).mono ?_; rintro e w3 ⟨rfl, hb⟩; have HU := Lib.hid (HP0.out.on hb); clear hb)
    obtain ⟨x0, x1, x2⟩ := HU.out.b.o.threeT
    clear c0 c1 c2 HP0
    go_wp2_with fail
    clear x0 x1 x2
    go_loopw [11] (fun p wr => ∃ i : Nat, i ≤ l ∧ p = .int .i64 i ∧ Hid (PU w (.slice a l c) (.slice x n0 d0) ch X g n q sh h m d Z t PB (padL sh (livL Z i) E (List.replicate l 0)) wr)) (fun p _ => l - (intOf p).toNat)
    case atStart => exact ⟨0, Nat.zero_le _, rfl, Lib.hid (by rw [show livL Z 0 = [] from rfl, padL_nil]; exact HU.out)⟩
    case round =>
      obtain ⟨i, hi, rfl, HU⟩ := hrel
      obtain ⟨c0, c1, c2⟩ := HU.out.c.threeT
      by_cases hlt : i < l
      · have C1 := Lib.hid (CH.out (i : Int) wr HU.out.b.low)
        have hst := liv_step Z i
        by_cases hd : (i : Int) ∈ Z
        · have hdd : decide ((i : Int) ∈ Z) = true := by simpa using hd
          rw [hdd] at C1
          rw [if_pos (by simp [hasD, hd]), List.append_nil] at hst
          have HST := Lib.hid hst
          clear hst hd hdd
          go_wp2_with (go_at_call 63; refine C1.out.mono ?_; rintro e w4 ⟨rfl, rfl⟩)
          go_roundw
          case rel => exact ⟨i + 1, by omega, by go_num, Lib.hid (by rw [HST.out]; exact HU.out)⟩
          case measure => simp [intOf]; omega
        · have hdd : decide ((i : Int) ∈ Z) = false := by simpa using hd
          rw [hdd] at C1
          rw [if_neg (by simp [hasD, hd])] at hst
          obtain ⟨b1, o1, rfl, hb1, hc⟩ := (H.out.on HU.out.b.low).at (by omega)
          have hx := hc i hlt
          obtain ⟨s, hs⟩ : ∃ y_, sh.getD i 0 = y_ := ⟨_, rfl⟩
          rw [hs] at hx
          have him : i ∈ livL Z l := liv_mem.2 ⟨hlt, hd⟩
          obtain ⟨g0, g1⟩ := HE3.out i him
          rw [hs] at g0 g1
          have hil : i ∉ livL Z i := fun hm => by have := (liv_mem.1 hm).1; omega
          have hrl : i < (List.replicate l (0 : Int)).length := by simp; exact hlt
          have hr0 : (List.replicate l (0 : Int)).getD i 0 = 0 := by rw [List.getD_eq_getElem?_getD, List.getElem?_replicate]; split <;> rfl
          have hS := padL_snoc sh (livL Z i) E (List.replicate l 0) i hil hrl
          rw [hr0, Int.zero_add, hs, ← hst] at hS
          have hpx := HU.out.p.cell i (by rw [padL_len]; exact hrl)
          have hpf := HU.out.p.free i
          rw [padL_get _ _ _ _ _ hrl, if_neg hil, hr0] at hpx
          have hpx' : wr.cell? ⟨PB, i, none⟩ = some (.int .i64 0) := hpx
          obtain ⟨zz, hzz⟩ : ∃ y_, E * s = y_ := ⟨_, rfl⟩
          rw [hzz] at g0 g1 hS
          have q3 : IntKind.i64.wrap (E * s) = zz := by rw [hzz]; exact IntWalk.i64_in _ (by omega)
          have q4 : wrap64 (E * s) = zz := by rw [hzz]; exact IntWalk.wrap64_in _ (by omega)
          have HNX := Lib.hid (HU.out.setP i zz)
          rw [hS] at HNX
          clear hst hd hdd hc hb1 hs him hil hrl hr0 hS hzz hpx
          go_wp2_with (go_at_call 63; refine C1.out.mono ?_; rintro e w4 ⟨rfl, rfl⟩)
          go_roundw
          case rel => exact ⟨i + 1, by omega, by go_num, HNX⟩
          case measure => simp [intOf]; omega
      · obtain rfl : i = l := by omega
        obtain ⟨x0, x1, x2⟩ := HU.out.b.o.threeT
        have xf := HU.out.b.o.free 2
        have hgd : decide (R > 1000000000000) = false := by simp; omega
        go_upto_region 13 with fail
        have HU := Lib.hid (HU.out.setT R)
        obtain ⟨W5, hW5⟩ : ∃ y_, wr.setCell ⟨X, 2, none⟩ (.int .i64 R) = y_ := ⟨_, rfl⟩
        rw [hW5] at HU ⊢
        clear hW5 x0 x1 x2 xf
        obtain ⟨x0, x1, x2⟩ := HU.out.b.o.threeT
        obtain ⟨r0, r1, r2⟩ := HU.out.b.r.threeT
        have z0 := HU.out.b.r.free 0
        have z1 := HU.out.b.r.free 1
        have z2 := HU.out.b.r.free 2
        obtain ⟨e0, e1, e2, e3, e4⟩ := HU.out.b.stored (p := .slice (some ⟨g, 0, none⟩) n q) (r := .slice (some ⟨h, 0, none⟩) m d) (t := .int .i64 R)
        have HEB := Lib.hid e3
        have HEF := Lib.hid e4
        have hpr : PB ≠ w.heap.size + 1 := by have := HU.out.xp; have := HU.out.b.x0; omega
        have HPP := Lib.hid (HU.out.p.same (sets3_far _ _ (.slice (some ⟨g, 0, none⟩) n q) (.slice (some ⟨h, 0, none⟩) m d) (.int .i64 R) PB hpr))
        have HPX := Lib.hid (And.intro HU.out.xp HU.out.b.x0)
        clear e3 e4 hpr
        go_wp2_with fail
        refine bodyPost_ret (v := .tuple #[.agg #[.slice (some ⟨g, 0, none⟩) n q, .slice (some ⟨h, 0, none⟩) m d, .int .i64 R], .slice (some ⟨PB, 0, none⟩) i i, .int .i64 0]) (by simp [results, Try.results54, go_sem, e0, e1, e2]) rfl ?_
        unfold PvPost
        rw [HER.out.1, HER.out.2, ← HLV.out]
        exact ⟨fun _ => ⟨_, _, _, _, _, _, _, rfl, HEF.out, HPP.out, ⟨by have := HPX.out; omega, by have := HPX.out; omega, by have := HPX.out; omega⟩, HEB.out⟩, fun hn => absurd HG.out hn⟩

end Go.Proofs.Ytpphiekbhikadaa

/- Tontines: the model: an income. -/
namespace Go.Proofs.Ytpphiekbhikadaa
open Go.ChangeShapes Go.WideShapes Go.ChangeAt Go.RowKit
set_option linter.unusedVariables false
set_option linter.unusedSimpArgs false
set_option maxRecDepth 100000

theorem hy_one (n : Nat) (inc : Int) : hyB n [inc] [[]] = inB inc 0 100000000 := by
  unfold hyB toB
  simp

theorem pi_E {sh de : List Int} {ch : Int} (inc : Int) : rcE sh de ch [inc] [[]] = if tcB sh de ch then (if inB inc 0 100000000 then (if chV sh de (ch + inc) ≤ 1000000000000 then 0 else 3) else 2) else 1 := by
  unfold rcE
  rw [hy_one]
  have h1 : (rnV sh (st0 sh de ch) [inc] [[]] [inc].length).2 = if chV sh de (ch + inc) ≤ 1000000000000 then 0 else 3 := by
    show (rnV sh (st0 sh de ch) [inc] [[]] (0 + 1)).2 = _
    rw [rn_good rfl]
    show yrC sh (st0 sh de ch) inc [] = _
    unfold yrC
    rw [if_pos (show buB (st0 sh de ch).D [] = true from rfl)]
    simp only [st0, List.append_nil]
  rw [h1]

theorem pi_V {sh de : List Int} {ch inc : Int} (h : rcE sh de ch [inc] [[]] = 0) (hd : incB (-1) sh.length de = true) : rcS sh de ch [inc] [[]] = sh ∧ rcD sh de ch [inc] [[]] = de ∧ (rcT sh de ch [inc] [[]]).ch = chV sh de (ch + inc) ∧ (rcT sh de ch [inc] [[]]).Pd = padL sh (livL de sh.length) (eaV sh de (ch + inc)) (List.replicate sh.length 0) := by
  obtain ⟨v1, v2, v3⟩ := rc_yes h
  have h1 : (rnV sh (st0 sh de ch) [inc] [[]] [inc].length).1 = tyV sh (st0 sh de ch) inc [] := by
    show (rnV sh (st0 sh de ch) [inc] [[]] (0 + 1)).1 = _
    rw [rn_good rfl]
    rfl
  rw [v1, v2, v3, h1]
  simp only [tyV, st0, List.append_nil]
  exact ⟨trivial, inc_can hd, trivial, trivial⟩

set_option maxHeartbeats 4000000 in
theorem tpS_any (sh de : List Int) (a x : Option Addr) (l c n d : Nat) (ch inc : Int) (w : World) (h : Ints w a l sh) (g : Ints w x n de) :
    Calls Try.prog 16 #[.agg #[.slice a l c, .slice x n d, .int .i64 ch], .int .i64 inc] w (CPPost (rcS sh de ch [inc] [[]]) (rcD sh de ch [inc] [[]]) (rcT sh de ch [inc] [[]]).ch (rcT sh de ch [inc] [[]]).Pd (rcE sh de ch [inc] [[]]) w) := by
  have H := Lib.hid h
  have G := Lib.hid g
  have HL := Lib.hid h.len
  have GL := Lib.hid g.len
  have HX0 := Lib.hid (XB.new w (.slice a l c) (.slice x n d) ch 26 26)
  have CI : Hid (∀ W, Hid (XB w (.slice a l c) (.slice x n d) ch W) → Calls Try.prog 23 #[.agg #[.slice a l c, .slice x n d, .int .i64 ch]] W fun e w' => e = .returned (.bool (tcB sh de ch)) ∧ Below W.heap.size W w') := Lib.hid (fun W hW => tcS_any sh de a x l c n d ch W (H.out.on hW.out.low) (G.out.on hW.out.low))
  obtain ⟨c0, c1, c2, r0, r1, r2, z0, z1, z2⟩ := xbS HX0.out
  have hE := pi_E (sh := sh) (de := de) (ch := ch) inc
  clear h g
  by_cases ht : tcB sh de ch = true
  · have hok := tc_iff.1 ht
    have HO := Lib.hid hok
    rw [ht] at CI
    rw [if_pos ht] at hE
    by_cases hin : inB inc 0 100000000 = true
    · rw [if_pos hin] at hE
      obtain ⟨i0, i1⟩ := (inB_iff _ _ _).1 hin
      have CB : Hid (∀ W, Hid (XB w (.slice a l c) (.slice x n d) ch W) → Calls Try.prog 54 #[.agg #[.slice a l c, .slice x n d, .int .i64 ch], .int .i64 inc] W (PvPost sh de (ch + inc) l W)) := Lib.hid (fun W hW => spa_any sh de de a x l c n d ch ch inc W (H.out.on hW.out.low) (G.out.on hW.out.low) HO.out (by have := HO.out.dl; have := HO.out.n1; omega) HO.out.c0 HO.out.c1 i0 i1)
      by_cases hc : chV sh de (ch + inc) ≤ 1000000000000
      · rw [if_pos hc] at hE
        obtain ⟨v1, v2, v3, v4⟩ := pi_V hE hok.d
        rw [v1, v2, v3, v4, hE]
        have HC := Lib.hid hc
        have hsl : sh.length ≤ 60 := hok.n1
        have hdl : de.length ≤ 60 := by have := hok.dl; omega
        obtain ⟨R, hR⟩ : ∃ y_, chV sh de (ch + inc) = y_ := ⟨_, rfl⟩
        have HR := Lib.hid hR
        rw [hR]
        clear ht hok hc i0 i1 hE v1 v2 v3 v4 hR
        go_enter Try.func16, Try.ntmps16
        go_wp2_with (first
          | (go_at_call 23; refine (CI.out _ HX0).mono ?_; rintro e w1 ⟨rfl, hb⟩; have HX1 := Lib.hid (HX0.out.on hb); obtain ⟨c0, c1, c2, r0, r1, r2, z0, z1, z2⟩ := xbS HX1.out; clear hb)
          | (go_at_call 55; refine (in_any _ _ _ _).mono ?_; rintro e w' ⟨rfl, rfl⟩)
          | (go_at_call 54; refine (CB.out _ HX1).mono ?_; rintro e w3 ⟨h1, h2⟩; obtain ⟨a1, n1, q1', b1, m1, d1, y1, h3, hf, hp, hy, hb⟩ := h1 HC.out; rw [HR.out] at h3; subst h3; have HX3 := Lib.hid (HX1.out.on hb); have HF := Lib.hid hf; have HP := Lib.hid hp; have HY := Lib.hid hy; obtain ⟨c0, c1, c2, r0, r1, r2, z0, z1, z2⟩ := xbS HX3.out; obtain ⟨e0, e1, e2, e3⟩ := xbE HX3.out (.slice (some ⟨a1, 0, none⟩) n1 q1') (.slice (some ⟨b1, 0, none⟩) m1 d1) (.int .i64 R); have HEB := Lib.hid e3; clear h1 h2 hf hp hy hb e3))
        refine bodyPost_ret (v := .tuple #[.agg #[.slice (some ⟨a1, 0, none⟩) n1 q1', .slice (some ⟨b1, 0, none⟩) m1 d1, .int .i64 R], .slice (some ⟨y1, 0, none⟩) l l, .int .i64 0]) (by simp [results, Try.results16, go_sem, e0, e1, e2]) rfl ?_
        have hsz := HX1.out.sz
        have hy := HY.out
        obtain ⟨f1, f2, f3⟩ := HF.out.ce (c := w1.heap.size) (by omega) (by omega) (by omega)
        have e4 : List.replicate sh.length (0 : Int) = List.replicate l 0 := by rw [HL.out]
        have f4 : TbR w1.heap.size w3 (some ⟨y1, 0, none⟩) l (padL sh (livL de sh.length) (eaV sh de (ch + inc)) (List.replicate sh.length 0)) := by
          rw [e4]
          exact blk_tb HP.out (by rw [padL_len, List.length_replicate]) (by rw [← HL.out]; omega) (by omega)
        exact ⟨_, _, _, _, _, _, _, _, _, rfl, tb_mono (tb_far f1 (by omega)) (by omega), tb_mono (tb_far f2 (by omega)) (by omega), tb_mono (tb_far f4 (by omega)) (by omega), ⟨f3, (fun p r h1 h2 => by cases h1; cases h2; exact hy.2.1), (fun p r h1 h2 => by cases h1; cases h2; exact hy.2.2)⟩, HEB.out⟩
      · rw [if_neg hc] at hE
        obtain ⟨v1, v2, v3, v4⟩ := rc_no (by rw [hE]; decide)
        rw [v1, v2, v3, v4, hE]
        have HC := Lib.hid hc
        clear ht hok hc i0 i1 hE v1 v2 v3 v4
        go_enter Try.func16, Try.ntmps16
        go_wp2_with (first
          | (go_at_call 23; refine (CI.out _ HX0).mono ?_; rintro e w1 ⟨rfl, hb⟩; have HX1 := Lib.hid (HX0.out.on hb); obtain ⟨c0, c1, c2, r0, r1, r2, z0, z1, z2⟩ := xbS HX1.out; clear hb)
          | (go_at_call 55; refine (in_any _ _ _ _).mono ?_; rintro e w' ⟨rfl, rfl⟩)
          | (go_at_call 54; refine (CB.out _ HX1).mono ?_; rintro e w3 ⟨h1, h2⟩; obtain ⟨rfl, hb⟩ := h2 (by have := HC.out; omega); have HX3 := Lib.hid (HX1.out.on hb); obtain ⟨c0, c1, c2, r0, r1, r2, z0, z1, z2⟩ := xbS HX3.out; obtain ⟨e0, e1, e2, e3⟩ := xbE HX3.out (.slice none 0 0) (.slice none 0 0) (.int .i64 0); have HEB := Lib.hid e3; clear h1 h2 hb e3))
        refine bodyPost_ret (v := .tuple #[.agg #[.slice none 0 0, .slice none 0 0, .int .i64 0], .slice none 0 0, .int .i64 3]) (by simp [results, Try.results16, go_sem, e0, e1, e2]) rfl ?_
        exact CPPost.zero HEB.out
    · have hin' : inB inc 0 100000000 = false := by simpa using hin
      rw [if_neg hin] at hE
      obtain ⟨v1, v2, v3, v4⟩ := rc_no (by rw [hE]; decide)
      rw [v1, v2, v3, v4, hE]
      clear ht hok hin hE v1 v2 v3 v4
      go_enter Try.func16, Try.ntmps16
      go_wp2_with (first
          | (go_at_call 23; refine (CI.out _ HX0).mono ?_; rintro e w1 ⟨rfl, hb⟩; have HX1 := Lib.hid (HX0.out.on hb); obtain ⟨c0, c1, c2, r0, r1, r2, z0, z1, z2⟩ := xbS HX1.out; obtain ⟨e0, e1, e2, e3⟩ := xbE HX1.out (.slice none 0 0) (.slice none 0 0) (.int .i64 0); have HEB := Lib.hid e3; clear hb e3)
          | (go_at_call 55; refine (in_any _ _ _ _).mono ?_; rintro e w' ⟨rfl, rfl⟩))
      refine bodyPost_ret (v := .tuple #[.agg #[.slice none 0 0, .slice none 0 0, .int .i64 0], .slice none 0 0, .int .i64 2]) (by simp [results, Try.results16, go_sem, e0, e1, e2]) rfl ?_
      exact CPPost.zero HEB.out
  · have ht' : tcB sh de ch = false := by simpa using ht
    rw [ht'] at CI
    rw [if_neg ht] at hE
    obtain ⟨v1, v2, v3, v4⟩ := rc_no (by rw [hE]; decide)
    rw [v1, v2, v3, v4, hE]
    clear ht ht' hE v1 v2 v3 v4
    go_enter Try.func16, Try.ntmps16
    go_wp2_with (go_at_call 23; refine (CI.out _ HX0).mono ?_; rintro e w1 ⟨rfl, hb⟩; have HX1 := Lib.hid (HX0.out.on hb); obtain ⟨c0, c1, c2, r0, r1, r2, z0, z1, z2⟩ := xbS HX1.out; obtain ⟨e0, e1, e2, e3⟩ := xbE HX1.out (.slice none 0 0) (.slice none 0 0) (.int .i64 0); have HEB := Lib.hid e3; clear hb e3)
    refine bodyPost_ret (v := .tuple #[.agg #[.slice none 0 0, .slice none 0 0, .int .i64 0], .slice none 0 0, .int .i64 1]) (by simp [results, Try.results16, go_sem, e0, e1, e2]) rfl ?_
    exact CPPost.zero HEB.out

end Go.Proofs.Ytpphiekbhikadaa
