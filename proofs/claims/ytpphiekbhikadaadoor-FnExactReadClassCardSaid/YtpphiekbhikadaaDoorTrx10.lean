/- Merged: Tob, Toc, Tod. -/
import Derived.Test.YtpphiekbhikadaaDoorTrx8
import Derived.Deep.LoopGhost

/- Tontines: the program: who dies is unlinked; a class in memory. -/
namespace Go.Proofs.YtpphiekbhikadaaDoor
open Go.ChangeShapes Go.WideShapes Go.ChangeAt Go.RowKit
set_option linter.unusedVariables false
set_option maxRecDepth 100000

theorem pO_ptr (N : Nat) (o : Option Nat) : ∃ u, pO N o = .pointer u := by cases o <;> exact ⟨_, rfl⟩

theorem tfi_any {b T H N : Nat} {v : Value} {sh D : List Int} {ch : Int} {u : Option Addr} (w : World) (h : Tn b v sh T H N D ch w) (hu : pO N (livL D sh.length)[0]? = .pointer u) :
    Calls Tryd.prog 46 #[.pointer (some ⟨T, 0, none⟩)] w fun e w' => e = .returned (.pointer u) ∧ w = w' := by
  obtain ⟨t0, t1, t2⟩ := h.t.threeT
  obtain ⟨g0, g1, g2⟩ := h.k.h.threeT
  rw [hu] at g2
  clear h hu
  go_enter Tryd.func46, Tryd.ntmps46
  go_wp2_with fail
  go_ret
  exact ⟨rfl, rfl⟩

/-- behind a death -/
def BuPost (b : Nat) (v : Value) (sh : List Int) (T H N : Nat) (D : List Int) (ch m : Int) (w : World) (e : Ending) (w' : World) : Prop :=
  ∃ r, e = .returned (.bool r) ∧ (r = true → m ∉ D ∧ Tn b v sh T H N (D ++ [m]) ch w') ∧ (r = false → m ∈ D) ∧ Zon b (N + sh.length) w w'

theorem eql_shA (x y z s : Int) (r : Bool) (hr : decide (x = z ∧ y = s) = r) (W : World) : (binOp .eql 72 (.agg #[.int .i64 x, .int .i64 y]) (.agg #[.int .i64 z, .int .i64 s])).run Tryd.prog W = .ok (.bool r) W := by
  rw [run_eql_struct]
  have h1 : (Op.equalIn 10000 72 (.agg #[.int .i64 x, .int .i64 y]) (.agg #[.int .i64 z, .int .i64 s])).run Tryd.prog W = .ok r W := by
    rw [run_equalIn_agg W 9999 72 _ _ (by kernel_rfl) (by kernel_rfl)]
    subst hr
    by_cases h1 : x = z
    · by_cases h2 : y = s
      · simp [go_sem, Tryd.underlying72, Tryd.underlying2, h1, h2]
      · simp [go_sem, Tryd.underlying72, Tryd.underlying2, h1, h2]
    · simp [go_sem, Tryd.underlying72, Tryd.underlying2, h1]
  rw [h1]; rfl

set_option maxHeartbeats 1000000 in
theorem tbu_any (b T H N : Nat) (a : Option Addr) (l c : Nat) (sh D : List Int) (ch : Int) (i : Nat) (w : World) (h : Tn b (.slice a l c) sh T H N D ch w) (g : Ints w a l sh) (hi : i < l) :
    Calls Tryd.prog 64 #[.pointer (some ⟨T, 0, none⟩), .int .i64 (i : Int)] w (BuPost b (.slice a l c) sh T H N D ch i w) := by
  have hm := g.max
  have hgl := Lib.hid g.len
  obtain ⟨b1, o1, rfl, hb1, hc⟩ := g.at (by omega)
  have hx := hc i hi
  obtain ⟨s, hs⟩ : ∃ y_, sh.getD i 0 = y_ := ⟨_, rfl⟩
  rw [hs] at hx
  have HS := Lib.hid hs
  obtain ⟨t0, t1, t2⟩ := h.t.threeT
  have HT := Lib.hid (h.on (box_b w (.cells #[.int .i64 (i : Int), .int .i64 s] 72)))
  have HB := Lib.hid (Bx.new w [.int .i64 (i : Int), .int .i64 s] 72)
  have HZ : Hid (Zon b (N + sh.length) w (w.alloc (.cells #[.int .i64 (i : Int), .int .i64 s] 72))) := Lib.hid (Zon.of (box_b _ _))
  obtain ⟨t0', t1', t2'⟩ := HT.out.t.threeT
  clear h g hc hs
  obtain ⟨L, hL⟩ : ∃ y_, livL D sh.length = y_ := ⟨_, rfl⟩
  have HLL := Lib.hid hL
  clear hL
  go_enter Tryd.func64, Tryd.ntmps64
  go_wp2_with fail
  go_loopg [6] L.length (fun k p wr => ∃ j, j ≤ L.length ∧ k = L.length - j ∧ p = .pointer (some ⟨bfN H N L j, 0, none⟩) ∧ Hid (Tn b (.slice (some ⟨b1, o1, none⟩) l c) sh T H N D ch wr) ∧ Hid (Bx wr w.heap.size [.int .i64 (i : Int), .int .i64 s]) ∧ Hid (Zon b (N + sh.length) w wr) ∧ Hid (∀ q, q < j → L[q]? ≠ some i))
  case atStart => exact ⟨0, Nat.zero_le _, rfl, rfl, HT, HB, HZ, Lib.hid (fun q hq => by omega)⟩
  case round =>
    obtain ⟨j, hj, hk, rfl, RT, RB, RZ, RN⟩ := hrel
    have HK := Lib.hid hk
    clear hk HT HB HZ t0' t1' t2'
    obtain ⟨d0, d1⟩ := RB.out.two
    have hTo := RT.out.k.to (j := j) (by rw [HLL.out]; exact hj)
    rw [HLL.out] at hTo
    obtain ⟨x0, x1, hbf⟩ := hTo
    have hfz := hbf.free 2
    obtain ⟨e0, e1, e2⟩ := hbf.threeT
    obtain ⟨B, hB⟩ : ∃ y_, bfN H N L j = y_ := ⟨_, rfl⟩
    rw [hB] at hfz e0 e1 e2 ⊢
    have HBB := Lib.hid hB
    clear hB hbf
    by_cases hlt : j < L.length
    · obtain ⟨y, hy⟩ : ∃ y, L[j]? = some y := ⟨L[j], List.getElem?_eq_getElem hlt⟩
      have hn := RT.out.k.n j y (by rw [HLL.out]; exact hy)
      rw [HLL.out] at hn
      obtain ⟨f0, f1, f2⟩ := hn.threeT
      rw [hy] at e2
      have HY := Lib.hid hy
      clear hn hy
      obtain ⟨u, hu⟩ := pO_ptr N L[j + 1]?
      rw [hu] at f2
      have HU := Lib.hid hu
      clear hu
      have e2' : wr.cell? ⟨B, 2, none⟩ = some (.pointer (some ⟨N + y, 0, none⟩)) := e2
      clear e2
      by_cases hyi : y = i
      · have hcut := (RT.out.cut (j := j) (m := (i : Int)) (by rw [HLL.out]; exact hlt) (by rw [HLL.out]; simp [List.getD, HY.out, hyi]))
        have hmem : (i : Int) ∉ D := by
          have h1 : y ∈ livL D sh.length := by rw [HLL.out]; exact List.mem_of_getElem? HY.out
          rw [hyi] at h1
          exact (liv_mem.1 h1).2
        rw [HLL.out, HU.out, HBB.out] at hcut
        have HC := Lib.hid hcut
        have HM := Lib.hid hmem
        have f0' : wr.cell? ⟨N + y, 0, none⟩ = some (.int .i64 (i : Int)) := by rw [f0, hyi]
        have f1' : wr.cell? ⟨N + y, 1, none⟩ = some (.int .i64 s) := by rw [f1, hyi, HS.out]
        have hq := eql_shA (i : Int) s (i : Int) s true (by simp)
        clear hcut hmem f0 f1
        have HYI := Lib.hid hyi
        clear hyi
        go_wp2_with fail
        go_quiet (fail)
        go_wp2_with fail
        go_ret
        refine ⟨true, rfl, fun _ => ⟨HM.out, ?_⟩, (fun h => by cases h), ?_⟩
        · exact HC.out.1.same (Nat.le_refl _) fun _ _ _ => rfl
        · exact (RZ.out.trans (Zon.of (below_drewN (Below.refl _ _) nq))).setCell (p := ⟨B, 2, none⟩) HC.out.2.1 HC.out.2.2 _
      · have hyI : (y : Int) ≠ (i : Int) := by omega
        obtain ⟨s2, hs2⟩ : ∃ y_, sh.getD y 0 = y_ := ⟨_, rfl⟩
        rw [hs2] at f1
        have hq := eql_shA (y : Int) s2 (i : Int) s false (by simp [hyI])
        clear hs2
        have HYI := Lib.hid hyi
        clear hyi hyI
        go_wp2_with fail
        go_quiet (fail)
        go_wp2_with fail
        go_roundg (L.length - (j + 1))
        case measure => have := HK.out; omega
        case rel =>
          refine ⟨j + 1, by omega, rfl, ?_, Lib.hid (RT.out.on (below_drewN (Below.refl _ _) nq)), Lib.hid (RB.out.on (below_drewN (Below.refl _ _) nq)), Lib.hid (RZ.out.trans (Zon.of (below_drewN (Below.refl _ _) nq))), Lib.hid (fun q hq => ?_)⟩
          · simp [bfN, List.getD, HY.out]
          · by_cases hqj : q = j
            · subst hqj; rw [HY.out]; intro h; cases h; exact HYI.out rfl
            · exact RN.out q (by omega)
    · obtain rfl : j = L.length := by omega
      rw [List.getElem?_eq_none (Nat.le_refl _)] at e2
      have e2' : wr.cell? ⟨B, 2, none⟩ = some (.pointer none) := e2
      clear e2
      go_wp2_with fail
      go_ret
      refine ⟨false, rfl, (fun h => by cases h), fun _ => ?_, RZ.out⟩
      have h1 : i ∉ livL D sh.length := by
        rw [HLL.out]
        intro hmm
        obtain ⟨q, hq1, hq2⟩ := List.getElem_of_mem hmm
        exact RN.out q hq1 (by rw [List.getElem?_eq_getElem hq1, hq2])
      rw [liv_mem] at h1
      by_cases hd : (i : Int) ∈ D
      · exact hd
      · exact absurd ⟨by rw [hgl.out]; exact hi, hd⟩ h1

/-- behind some deaths -/
def BuaPost (b : Nat) (v : Value) (sh : List Int) (T H N : Nat) (D : List Int) (ch : Int) (ms : List Int) (w : World) (e : Ending) (w' : World) : Prop :=
  ∃ E, e = .returned (.int .i64 E) ∧ E = (if buB D ms then 0 else 5) ∧ (buB D ms = true → Tn b v sh T H N (D ++ ms) ch w') ∧ Zon b (N + sh.length) w w'

set_option maxHeartbeats 1000000 in
theorem tba_any (b T H N : Nat) (a x : Option Addr) (l c n d : Nat) (sh D ms : List Int) (ch : Int) (w : World) (h : Tn b (.slice a l c) sh T H N D ch w) (hg : ∀ W, Zon b (N + sh.length) w W → Ints W a l sh ∧ Ints W x n ms) (hms : ∀ m ∈ ms, 0 ≤ m ∧ m < sh.length) :
    Calls Tryd.prog 42 #[.pointer (some ⟨T, 0, none⟩), .slice x n d] w (BuaPost b (.slice a l c) sh T H N D ch ms w) := by
  have HT := Lib.hid h
  have HG := Lib.hid hg
  have HM := Lib.hid hms
  have hg0 := hg w (Zon.refl _ _ _)
  have HL := Lib.hid hg0.1.len
  have ML := Lib.hid hg0.2.len
  have nm := hg0.2.max
  have lm := hg0.1.max
  clear h hg hms hg0
  go_enter Tryd.func42, Tryd.ntmps42
  go_wp2_with fail
  go_loopw [9] (fun p wr => ∃ k : Nat, k ≤ n ∧ p = .int .i64 k ∧ Hid (buB D (ms.take k) = true) ∧ Hid (Tn b (.slice a l c) sh T H N (D ++ ms.take k) ch wr) ∧ Hid (Zon b (N + sh.length) w wr)) (fun p _ => n - (intOf p).toNat)
  case atStart => exact ⟨0, Nat.zero_le _, rfl, Lib.hid (by simp [buB]), Lib.hid (by simpa using HT.out), Lib.hid (Zon.refl _ _ _)⟩
  case round =>
    obtain ⟨k, hk, rfl, RB, RT, RZ⟩ := hrel
    by_cases hlt : k < n
    · obtain ⟨b1, o1, rfl, hb1, hc⟩ := (HG.out wr RZ.out).2.at (by omega)
      have hx := hc k hlt
      obtain ⟨m, hm⟩ : ∃ y_, ms.getD k 0 = y_ := ⟨_, rfl⟩
      rw [hm] at hx
      have hkl : k < ms.length := by rw [ML.out]; exact hlt
      have hmm : m ∈ ms := by
        rw [← hm, List.getD_eq_getElem?_getD, List.getElem?_eq_getElem hkl]
        exact List.getElem_mem hkl
      obtain ⟨m0, m1⟩ := HM.out m hmm
      obtain ⟨i, rfl⟩ : ∃ i : Nat, m = (i : Int) := ⟨m.toNat, by omega⟩
      have hS : Hid (buB D (ms.take (k + 1)) = !decide ((i : Int) ∈ D ++ ms.take k)) := Lib.hid (by rw [bu_step _ _ _ hkl, RB.out, hm]; rfl)
      have hT : Hid (D ++ ms.take (k + 1) = D ++ ms.take k ++ [(i : Int)]) := Lib.hid (by rw [List.take_add_one, List.getElem?_eq_getElem hkl, List.append_assoc, ← hm, List.getD_eq_getElem?_getD, List.getElem?_eq_getElem hkl]; rfl)
      have CB := Lib.hid (tbu_any b T H N a l c sh (D ++ ms.take k) ch i wr RT.out (HG.out wr RZ.out).1 (by have := HL.out; omega))
      clear hc hb1 hm hmm m0 m1 hkl
      go_wp2_with (go_at_call 64; refine (CB.out).mono ?_; rintro e w1 ⟨r, rfl, h1, h2, h3⟩; have H1 := Lib.hid h1; have H2 := Lib.hid h2; have RZ := Lib.hid (RZ.out.trans h3); clear h1 h2 h3)
      · have hr : r = false := by
          cases r with
          | false => rfl
          | true => exact absurd ‹(!true) = true› (by decide)
        have hmD : (i : Int) ∈ D ++ ms.take k := H2.out hr
        have hb := bu_bad (D := D) (ms := ms) (k := k + 1) (by rw [hS.out, decide_eq_true hmD]; rfl)
        go_ret
        exact ⟨5, rfl, by rw [hb]; rfl, (fun h => by rw [hb] at h; cases h), RZ.out⟩
      · have hr : r = true := by
          cases r with
          | true => rfl
          | false => exact absurd ‹(!false) = false› (by decide)
        have hmD := H1.out hr
        go_roundw
        case rel => exact ⟨k + 1, by omega, by go_num, Lib.hid (by rw [hS.out, decide_eq_false hmD.1]; rfl), Lib.hid (by rw [hT.out]; exact hmD.2), RZ⟩
        case measure => simp [intOf]; omega
    · go_wp2_with fail
      go_ret
      obtain rfl : k = n := by omega
      have hb := RB.out
      have ht := RT.out
      rw [List.take_of_length_le (by rw [ML.out]; exact Nat.le_refl _)] at hb ht
      exact ⟨0, rfl, by rw [hb]; rfl, fun _ => ht, RZ.out⟩

end Go.Proofs.YtpphiekbhikadaaDoor

/- Tontines: the program: a class is laid into memory; the shares of the living. -/
namespace Go.Proofs.YtpphiekbhikadaaDoor
open Go.ChangeShapes Go.WideShapes Go.ChangeAt Go.RowKit
set_option linter.unusedVariables false
set_option maxRecDepth 100000

/-- while the living ones are linked -/
structure TG (w : World) (u v : Value) (sh : List Int) (ch : Int) (k : Nat) (W : World) : Prop where
  c : Bx W w.heap.size [u, v, .int .i64 ch]
  t : Bx W (w.heap.size + 2) [u, .pointer (some ⟨w.heap.size + 1, 0, none⟩), .int .i64 ch]
  r : Lnk W (w.heap.size + 1) (w.heap.size + 3) sh (List.range k)
  sz : W.heap.size = w.heap.size + 3 + k
  low : Below w.heap.size w W

theorem TG.new (w : World) (u v : Value) (sh : List Int) (ch : Int) (A B C : TypeId) : TG w u v sh ch 0 (((w.alloc (.cells #[u, v, .int .i64 ch] A)).alloc (.cells #[.int .i64 0, .int .i64 0, .pointer none] B)).alloc (.cells #[u, .pointer (some ⟨w.heap.size + 1, 0, none⟩), .int .i64 ch] C)) := by
  have b1 := box_b w (.cells #[u, v, .int .i64 ch] A)
  have b2 := box_b (w.alloc (.cells #[u, v, .int .i64 ch] A)) (.cells #[.int .i64 0, .int .i64 0, .pointer none] B)
  have b3 := box_b ((w.alloc (.cells #[u, v, .int .i64 ch] A)).alloc (.cells #[.int .i64 0, .int .i64 0, .pointer none] B)) (.cells #[u, .pointer (some ⟨w.heap.size + 1, 0, none⟩), .int .i64 ch] C)
  have x1 := Bx.new w [u, v, .int .i64 ch] A
  have x2 := Bx.new (w.alloc (.cells #[u, v, .int .i64 ch] A)) [.int .i64 0, .int .i64 0, .pointer none] B
  have x3 := Bx.new ((w.alloc (.cells #[u, v, .int .i64 ch] A)).alloc (.cells #[.int .i64 0, .int .i64 0, .pointer none] B)) [u, .pointer (some ⟨w.heap.size + 1, 0, none⟩), .int .i64 ch] C
  rw [World.size_alloc] at x2
  rw [World.size_alloc, World.size_alloc] at x3
  exact ⟨(x1.on b2).on b3, x3, Lnk.zero (x2.on b3) (by omega), by simp, b1.trans ((b2.mono (by simp)).trans (b3.mono (by simp; omega)))⟩

theorem TG.next {w : World} {u v : Value} {sh : List Int} {ch : Int} {k : Nat} {W : World} (h : TG w u v sh ch k W) (hk : k < sh.length) (T : TypeId) :
    TG w u v sh ch (k + 1) ((W.alloc (.cells #[.int .i64 (k : Int), .int .i64 (sh.getD k 0), .pointer none] T)).setCell ⟨bfN (w.heap.size + 1) (w.heap.size + 3) (List.range k) k, 2, none⟩ (.pointer (some ⟨W.heap.size, 0, none⟩))) := by
  have h1 := h.r.add (m := k) (fun i hi => List.mem_range.1 hi) hk (by rw [h.sz]) T
  rw [List.length_range, ← List.range_succ] at h1
  have hb := h.r.bf (j := k) (by simp)
  have hb1 := box_b W (.cells #[.int .i64 (k : Int), .int .i64 (sh.getD k 0), .pointer none] T)
  have hne : ∀ X, X < w.heap.size + 1 ∨ X = w.heap.size + 2 → X ≠ bfN (w.heap.size + 1) (w.heap.size + 3) (List.range k) k := fun X hX => by omega
  refine ⟨(h.c.on hb1).same (far_setCell _ _ _ _ (hne _ (by omega))), (h.t.on hb1).same (far_setCell _ _ _ _ (hne _ (by omega))), h1, by have := h.sz; simp [World.setCell]; omega, ?_⟩
  exact (h.low.trans (hb1.mono h.low.size)).setCell (p := ⟨bfN (w.heap.size + 1) (w.heap.size + 3) (List.range k) k, 2, none⟩) (by show w.heap.size ≤ bfN _ _ _ _; omega) _

theorem TG.tn {w : World} {a : Option Addr} {l c : Nat} {v : Value} {sh : List Int} {ch : Int} {W : World} (h : TG w (.slice a l c) v sh ch sh.length W) : Tn w.heap.size (.slice a l c) sh (w.heap.size + 2) (w.heap.size + 1) (w.heap.size + 3) [] ch W :=
  ⟨h.t, by rw [liv_nil]; exact h.r, by omega, by omega, by omega, by omega, by rw [h.sz]; omega⟩

def TofPost (v : Value) (sh de : List Int) (ch : Int) (w : World) (e : Ending) (w' : World) : Prop :=
  e = .returned (.pointer (some ⟨w.heap.size + 2, 0, none⟩)) ∧ Tn w.heap.size v sh (w.heap.size + 2) (w.heap.size + 1) (w.heap.size + 3) de ch w' ∧ Below w.heap.size w w'

theorem bf_range (H N k : Nat) : bfN H N (List.range (k + 1)) (k + 1) = N + k := by simp [bfN, List.getD]

set_option maxHeartbeats 1000000 in
theorem tof_any (sh de : List Int) (a x : Option Addr) (l c n d : Nat) (ch : Int) (w : World) (h : Ints w a l sh) (g : Ints w x n de) (hok : TcOk sh de ch) :
    Calls Tryd.prog 41 #[.agg #[.slice a l c, .slice x n d, .int .i64 ch]] w (TofPost (.slice a l c) sh de ch w) := by
  have HL := Lib.hid h.len
  have hlm := h.max
  have H := Lib.hid h
  have G := Lib.hid g
  have HO := Lib.hid hok
  clear h g hok
  have HT := Lib.hid (TG.new w (.slice a l c) (.slice x n d) sh ch 26 74 94)
  go_enter Tryd.func41, Tryd.ntmps41
  go_wp2_with fail
  go_loopw [4, 22] (fun q p wr => ∃ k : Nat, k ≤ l ∧ p = .int .i64 k ∧ q = .pointer (some ⟨bfN (w.heap.size + 1) (w.heap.size + 3) (List.range k) k, 0, none⟩) ∧ Hid (TG w (.slice a l c) (.slice x n d) sh ch k wr)) (fun _ p _ => l - (intOf p).toNat)
  case atStart => exact ⟨0, Nat.zero_le _, rfl, rfl, HT⟩
  case round =>
    obtain ⟨k, hk, rfl, rfl, RT⟩ := hrel
    clear HT
    obtain ⟨c0, c1, c2⟩ := RT.out.c.threeT
    by_cases hlt : k < l
    · obtain ⟨b1, o1, rfl, hb1, hc⟩ := (H.out.on RT.out.low).at (by omega)
      have hx := hc k hlt
      obtain ⟨s, hs⟩ : ∃ y_, sh.getD k 0 = y_ := ⟨_, rfl⟩
      rw [hs] at hx
      have HS := Lib.hid hs
      have hTo := RT.out.r.to (j := k) (by simp)
      obtain ⟨x0, x1, hbf⟩ := hTo
      rw [List.getElem?_eq_none (by simp)] at hbf
      have hfa : ∀ o, (wr.alloc o).frozen? ⟨bfN (w.heap.size + 1) (w.heap.size + 3) (List.range k) k, 2, none⟩ = false := fun o => (hbf.on (box_b _ _)).free 2
      have hca : ∀ o, (wr.alloc o).cell? ⟨bfN (w.heap.size + 1) (w.heap.size + 3) (List.range k) k, 2, none⟩ = some (.pointer none) := fun o => (hbf.on (box_b _ _)).threeT.2.2
      have HN := Lib.hid (RT.out.next (by rw [HL.out]; exact hlt) 74)
      rw [hs] at HN
      obtain ⟨B, hB⟩ : ∃ y_, bfN (w.heap.size + 1) (w.heap.size + 3) (List.range k) k = y_ := ⟨_, rfl⟩
      rw [hB] at hfa hca HN ⊢
      have hsz := Lib.hid RT.out.sz
      clear hs hc hb1 hB hbf
      go_wp2_with fail
      go_roundw
      case rel => exact ⟨k + 1, by omega, by go_num, by rw [bf_range, hsz.out], HN⟩
      case measure => simp [intOf]; omega
    · obtain rfl : k = l := by omega
      have hk := HL.out
      have HTn : Hid (Tn w.heap.size (.slice a k c) sh (w.heap.size + 2) (w.heap.size + 1) (w.heap.size + 3) [] ch wr) := Lib.hid (TG.tn (v := .slice x n d) (by rw [hk]; exact RT.out))
      have hbu := bu_inc sh.length de (-1) [] (by simp) HO.out.d
      have CA := Lib.hid (tba_any w.heap.size (w.heap.size + 2) (w.heap.size + 1) (w.heap.size + 3) a x k c n d sh [] de ch wr HTn.out (fun W hW => by
        have hl := RT.out.low.trans (hW.below (Nat.le_refl _) RT.out.low.size)
        exact ⟨H.out.on hl, G.out.on hl⟩) HO.out.mem)
      have HB := Lib.hid hbu
      clear hk hbu HTn
      go_wp2_with (go_at_call 42; refine CA.out.mono ?_; rintro e w1 ⟨E, rfl, h1, h2, h3⟩; have H1 := Lib.hid h1; have H2 := Lib.hid h2; have H3 := Lib.hid h3; clear h1 h2 h3)
      go_ret
      exact ⟨rfl, H2.out HB.out, RT.out.low.trans (H3.out.below (Nat.le_refl _) RT.out.low.size)⟩

set_option maxHeartbeats 1000000 in
theorem tls_any {b T H N : Nat} {v : Value} {sh de D : List Int} {ch c0 : Int} (w : World) (h : Tn b v sh T H N D ch w) (hok : TcOk sh de c0) :
    Calls Tryd.prog 50 #[.pointer (some ⟨T, 0, none⟩)] w fun e w' => e = .returned (.int .i64 (lsV sh D)) ∧ w = w' := by
  have HT := Lib.hid h
  have HO := Lib.hid hok
  clear h hok
  obtain ⟨u0, hu0⟩ := pO_ptr N (livL D sh.length)[0]?
  have HU0 := Lib.hid hu0
  have CF := Lib.hid (tfi_any w HT.out hu0)
  have HLn := Lib.hid (Nat.le_trans (liv_len D sh.length) HO.out.n1)
  have HV : Hid (lsV sh D = ((livL D sh.length).map fun i => sh.getD i 0).sum) := Lib.hid rfl
  obtain ⟨L, hL⟩ : ∃ y_, livL D sh.length = y_ := ⟨_, rfl⟩
  have HLL := Lib.hid hL
  rw [hL] at HV HLn HU0
  clear hL hu0
  go_enter Tryd.func50, Tryd.ntmps50
  go_wp2_with (go_at_call 46; refine CF.out.mono ?_; rintro e w1 ⟨rfl, rfl⟩)
  go_loopg [3, 4] L.length (fun k p q wr => ∃ j u, j ≤ L.length ∧ k = L.length - j ∧ p = .int .i64 (((L.take j).map fun i => sh.getD i 0).sum) ∧ q = .pointer u ∧ Hid (pO N L[j]? = .pointer u) ∧ w = wr) 
  case atStart => exact ⟨0, u0, Nat.zero_le _, rfl, by simp, rfl, HU0, rfl⟩
  case round =>
    obtain ⟨j, u, hj, hk, rfl, rfl, HU, rfl⟩ := hrel
    have HK := Lib.hid hk
    clear hk
    by_cases hlt : j < L.length
    · obtain ⟨y, hy⟩ : ∃ y, L[j]? = some y := ⟨L[j], List.getElem?_eq_getElem hlt⟩
      have hn := HT.out.k.n j y (by rw [HLL.out]; exact hy)
      rw [HLL.out] at hn
      obtain ⟨f0, f1, f2⟩ := hn.threeT
      obtain ⟨s, hs⟩ : ∃ y_, sh.getD y 0 = y_ := ⟨_, rfl⟩
      rw [hs] at f1
      obtain ⟨u2, hu2⟩ := pO_ptr N L[j + 1]?
      rw [hu2] at f2
      obtain rfl : u = some ⟨N + y, 0, none⟩ := by
        have := HU.out
        rw [hy] at this
        simpa [pO] using this.symm
      obtain ⟨z, hz⟩ : ∃ y_, ((L.take j).map fun i => sh.getD i 0).sum = y_ := ⟨_, rfl⟩
      have hz1 : ((L.take (j + 1)).map fun i => sh.getD i 0).sum = z + s := by
        rw [List.take_add_one, hy, Option.toList_some, List.map_append, List.sum_append, hz]
        simp only [List.map_cons, List.map_nil, List.sum_cons, List.sum_nil]
        rw [hs]; omega
      have p1 := HO.out.part (L.take j) (by simp; have := HLn.out; omega)
      have p2 := HO.out.part (L.take (j + 1)) (by simp; have := HLn.out; omega)
      rw [hz] at p1
      rw [hz1] at p2
      have q1 : IntKind.i64.wrap (z + s) = z + s := IntWalk.i64_in _ (by omega)
      have HU2 := Lib.hid hu2
      have HZ1 := Lib.hid hz1
      rw [hz]
      clear hn hy hs hu2 hz hz1
      go_wp2_with fail
      go_roundg (L.length - (j + 1))
      case measure => have := HK.out; omega
      case rel => exact ⟨j + 1, u2, by omega, rfl, by rw [HZ1.out], rfl, HU2, rfl⟩
    · obtain rfl : j = L.length := by omega
      have hu := HU.out
      rw [List.getElem?_eq_none (Nat.le_refl _)] at hu
      obtain rfl : u = none := by simpa [pO] using hu.symm
      rw [List.take_of_length_le (Nat.le_refl _)]
      clear hu
      go_wp2_with fail
      go_ret
      exact ⟨ret_int HV.out.symm, rfl⟩

end Go.Proofs.YtpphiekbhikadaaDoor

/- Tontines: the program: an income is divided. -/
namespace Go.Proofs.YtpphiekbhikadaaDoor
open Go.ChangeShapes Go.WideShapes Go.ChangeAt Go.RowKit
set_option linter.unusedVariables false
set_option maxRecDepth 100000

def PaPost (b : Nat) (v : Value) (sh : List Int) (T H N PB : Nat) (D : List Int) (t : Int) (Pd : List Int) (w : World) (e : Ending) (w' : World) : Prop :=
  ∃ E, e = .returned (.int .i64 E) ∧ E = (if chV sh D t ≤ 1000000000000 then 0 else 3) ∧ Tn b v sh T H N D (chV sh D t) w' ∧ Blk w' PB (padL sh (livL D sh.length) (eaV sh D t) Pd) ∧ Zon b (PB + 1) w w'

end Go.Proofs.YtpphiekbhikadaaDoor
