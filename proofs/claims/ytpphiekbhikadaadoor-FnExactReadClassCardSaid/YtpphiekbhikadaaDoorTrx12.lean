/- Merged: Toe, Tof, Tog, Toh, Toi. -/
import Derived.Test.YtpphiekbhikadaaDoorTrx10
import Derived.Test.YtpphiekbhikadaaDoorTrx11

/- Tontines: the program: the class as it is now. -/
namespace Go.Proofs.YtpphiekbhikadaaDoor
open Go.ChangeShapes Go.WideShapes Go.ChangeAt Go.RowKit
set_option linter.unusedVariables false
set_option maxRecDepth 100000

/-- no block in common -/
def Aprt (a b : Option Addr) : Prop := ∀ x y, a = some x → b = some y → x.block ≠ y.block

/-- a class that a call hands over: both lists are its own -/
def CrPost (sh de : List Int) (ch : Int) (w : World) (e : Ending) (w' : World) : Prop :=
  ∃ a n c b m d, e = .returned (.agg #[.slice a n c, .slice b m d, .int .i64 ch]) ∧ TbR w.heap.size w' a n sh ∧ TbR w.heap.size w' b m de ∧ Aprt a b ∧ Below w.heap.size w w'

/-- while a class is read off -/
structure CK (w : World) (b : Nat) (v : Value) (sh : List Int) (T H N : Nat) (D : List Int) (ch : Int) (W : World) : Prop where
  box : ∃ p q r, Bx W w.heap.size [p, q, r]
  tn : Tn b v sh T H N D ch W
  low : Below w.heap.size w W
  sz : w.heap.size + 1 ≤ W.heap.size
  ns : N + sh.length ≤ w.heap.size

theorem CK.new {w : World} {b : Nat} {v : Value} {sh : List Int} {T H N : Nat} {D : List Int} {ch : Int} (h : Tn b v sh T H N D ch w) (A : TypeId) : CK w b v sh T H N D ch (w.alloc (.cells #[.slice none 0 0, .slice none 0 0, .int .i64 0] A)) :=
  ⟨⟨_, _, _, Bx.new w [.slice none 0 0, .slice none 0 0, .int .i64 0] A⟩, h.on (box_b _ _), box_b _ _, by simp, h.sz⟩

theorem CK.up {w : World} {b : Nat} {v : Value} {sh : List Int} {T H N : Nat} {D : List Int} {ch : Int} {W W' : World} (h : CK w b v sh T H N D ch W) (hb : Below (w.heap.size + 1) W W') : CK w b v sh T H N D ch W' :=
  ⟨(by obtain ⟨p, q, r, hx⟩ := h.box; exact ⟨p, q, r, hx.same (hb.block _ (Nat.lt_succ_self _))⟩), h.tn.same hb.size (fun k _ hk => hb.block k (by have := h.ns; omega)), h.low.trans (hb.mono (by omega)), Nat.le_trans h.sz hb.size, h.ns⟩

theorem CK.on {w : World} {b : Nat} {v : Value} {sh : List Int} {T H N : Nat} {D : List Int} {ch : Int} {W W' : World} (h : CK w b v sh T H N D ch W) (hb : Below W.heap.size W W') : CK w b v sh T H N D ch W' := h.up (hb.mono h.sz)

/-- the same, and the list of the dead -/
structure CL (w : World) (b : Nat) (v : Value) (sh : List Int) (T H N : Nat) (D : List Int) (ch : Int) (x : Option Addr) (m : Nat) (de : List Int) (W : World) : Prop where
  k : CK w b v sh T H N D ch W
  d : TbR (w.heap.size + 1) W x m de

theorem tb_on {base : Nat} {w w' : World} {a : Option Addr} {n : Nat} {ys : List Int} (h : TbR base w a n ys) (hb : Below w.heap.size w w') : TbR base w' a n ys := by
  obtain ⟨h1, h2, h3 | ⟨g, off, h4, h5, h6, h7⟩⟩ := h
  · exact ⟨h1, h2, .inl h3⟩
  · exact ⟨h1, h2, .inr ⟨g, off, h4, h5, Nat.lt_of_lt_of_le h6 hb.size, h7.on hb⟩⟩

theorem CL.on {w : World} {b : Nat} {v : Value} {sh : List Int} {T H N : Nat} {D : List Int} {ch : Int} {x : Option Addr} {m : Nat} {de : List Int} {W W' : World} (h : CL w b v sh T H N D ch x m de W) (hb : Below W.heap.size W W') : CL w b v sh T H N D ch x m de W' := ⟨h.k.on hb, tb_on h.d hb⟩

/-- three cells of a box are stored -/
theorem sets3_box {w : World} {B : Nat} {x y z p q r : Value} (h : Bx w B [x, y, z]) : Bx (((w.setCell ⟨B, 0, none⟩ p).setCell ⟨B, 1, none⟩ q).setCell ⟨B, 2, none⟩ r) B [p, q, r] :=
  ((h.setAt 0 p).setAt 1 q).setAt 2 r

theorem sets3_far (w : World) (B : Nat) (p q r : Value) (k : Nat) (h : k ≠ B) : (((w.setCell ⟨B, 0, none⟩ p).setCell ⟨B, 1, none⟩ q).setCell ⟨B, 2, none⟩ r).heap[k]? = w.heap[k]? := by
  rw [far_setCell _ _ _ _ h, far_setCell _ _ _ _ h, far_setCell _ _ _ _ h]

theorem sets3_below {B : Nat} {u w : World} (h : Below B u w) (p q r : Value) : Below B u (((w.setCell ⟨B, 0, none⟩ p).setCell ⟨B, 1, none⟩ q).setCell ⟨B, 2, none⟩ r) :=
  ((h.setCell (p := ⟨B, 0, none⟩) (Nat.le_refl _) _).setCell (p := ⟨B, 1, none⟩) (Nat.le_refl _) _).setCell (p := ⟨B, 2, none⟩) (Nat.le_refl _) _

theorem tb_same {base : Nat} {w w' : World} {a : Option Addr} {n : Nat} {ys : List Int} (h : TbR base w a n ys) (hs : w'.heap.size = w.heap.size) (hb : ∀ k, base ≤ k → w'.heap[k]? = w.heap[k]?) : TbR base w' a n ys := by
  obtain ⟨h1, h2, h3 | ⟨g, off, h4, h5, h6, h7⟩⟩ := h
  · exact ⟨h1, h2, .inl h3⟩
  · refine ⟨h1, h2, .inr ⟨g, off, h4, h5, by rw [hs]; exact h6, ⟨fun i hi => ?_, fun i hi => ?_⟩⟩⟩
    · rw [← h7.cell i hi]; exact World.cell?_of_block (hb g h5)
    · rw [← h7.free i hi]; exact World.frozen?_of_block (hb g h5)

theorem tb_mono {base c : Nat} {w : World} {a : Option Addr} {n : Nat} {ys : List Int} (h : TbR base w a n ys) (hb : c ≤ base) : TbR c w a n ys := by
  obtain ⟨h1, h2, h3 | ⟨g, off, h4, h5, h6, h7⟩⟩ := h
  · exact ⟨h1, h2, .inl h3⟩
  · exact ⟨h1, h2, .inr ⟨g, off, h4, by omega, h6, h7⟩⟩

theorem clS {w : World} {b : Nat} {v : Value} {sh : List Int} {T H N : Nat} {D : List Int} {ch : Int} {x : Option Addr} {m : Nat} {de : List Int} {W : World} (h : CL w b v sh T H N D ch x m de W) :
    W.cell? ⟨T, 0, none⟩ = some v ∧ W.cell? ⟨T, 2, none⟩ = some (.int .i64 ch) ∧ Hid (CL w b v sh T H N D ch x m de W) := by
  obtain ⟨t0, -, t2⟩ := h.k.tn.t.threeT
  exact ⟨t0, t2, Lib.hid h⟩

theorem CL.put {w : World} {b : Nat} {v : Value} {sh : List Int} {T H N : Nat} {D : List Int} {ch : Int} {x : Option Addr} {m : Nat} {de : List Int} {W : World} (h : CL w b v sh T H N D ch x m de W) (p q r : Value) :
    CL w b v sh T H N D ch x m de (((W.setCell ⟨w.heap.size, 0, none⟩ p).setCell ⟨w.heap.size, 1, none⟩ q).setCell ⟨w.heap.size, 2, none⟩ r) := by
  have far := sets3_far W w.heap.size p q r
  have hs : (((W.setCell ⟨w.heap.size, 0, none⟩ p).setCell ⟨w.heap.size, 1, none⟩ q).setCell ⟨w.heap.size, 2, none⟩ r).heap.size = W.heap.size := by simp [World.setCell]
  obtain ⟨a0, b0, c0, hx⟩ := h.k.box
  exact ⟨⟨⟨_, _, _, sets3_box hx⟩, h.k.tn.same (by rw [hs]; exact Nat.le_refl _) (fun k _ hk => far k (by have := h.k.ns; omega)), sets3_below h.k.low _ _ _, by rw [hs]; exact h.k.sz, h.k.ns⟩, tb_same h.d hs (fun k hk => far k (by omega))⟩

/-- the cells of the box -/
theorem clBx {w : World} {b : Nat} {v : Value} {sh : List Int} {T H N : Nat} {D : List Int} {ch : Int} {x : Option Addr} {m : Nat} {de : List Int} {W : World} (h : CL w b v sh T H N D ch x m de W) :
    ∃ p q r, Hid (Bx W w.heap.size [p, q, r]) ∧ W.cell? ⟨w.heap.size, 0, none⟩ = some p ∧ W.cell? ⟨w.heap.size, 1, none⟩ = some q ∧ W.cell? ⟨w.heap.size, 2, none⟩ = some r ∧ W.frozen? ⟨w.heap.size, 0, none⟩ = false ∧ W.frozen? ⟨w.heap.size, 1, none⟩ = false ∧ W.frozen? ⟨w.heap.size, 2, none⟩ = false := by
  obtain ⟨p, q, r, hx⟩ := h.k.box
  obtain ⟨c0, c1, c2⟩ := hx.threeT
  exact ⟨p, q, r, Lib.hid hx, c0, c1, c2, hx.free 0, hx.free 1, hx.free 2⟩

set_option maxHeartbeats 4000000 in
theorem tcl_any {b T H N : Nat} {a : Option Addr} {l c : Nat} {sh de D : List Int} {ch c0 : Int} (w : World) (h : Tn b (.slice a l c) sh T H N D ch w) (g : Ints w a l sh) (hok : TcOk sh de c0) :
    Calls Tryd.prog 43 #[.pointer (some ⟨T, 0, none⟩)] w (CrPost sh (canD D sh.length) ch w) := by
  have HO := Lib.hid hok
  have HG := Lib.hid g
  have HL := Lib.hid g.len
  have hl60 : l ≤ 60 := by have := g.len; have := hok.n1; omega
  have hl1 : 1 ≤ l := by have := g.len; have := hok.n0; omega
  have HK := Lib.hid (CK.new h 26)
  obtain ⟨u0, hu0⟩ := pO_ptr N (livL D sh.length)[0]?
  have HU0 := Lib.hid hu0
  have CF : Hid (∀ W, Hid (CK w b (.slice a l c) sh T H N D ch W) → Calls Tryd.prog 46 #[.pointer (some ⟨T, 0, none⟩)] W fun e w' => e = .returned (.pointer u0) ∧ W = w') := Lib.hid (fun W hW => tfi_any W hW.out.tn hu0)
  have HK1 := Lib.hid (HK.out.on (box_b _ (.cells #[] 2)))
  have hown0 := ownI_new (w.alloc (.cells #[.slice none 0 0, .slice none 0 0, .int .i64 0] 26))
  rw [World.size_alloc] at hown0
  have HW0 := Lib.hid hown0
  obtain ⟨t0, t1, t2⟩ := HK1.out.tn.t.threeT
  clear h g hok hu0 hown0
  go_enter Tryd.func43, Tryd.ntmps43
  go_wp2_with (go_at_call 46; refine (CF.out _ HK1).mono ?_; rintro e w1 ⟨rfl, rfl⟩)
  go_loopw [3, 4, 14] (fun p q r wr => ∃ (i : Nat) (v : Value) (u : Option Addr), i ≤ l ∧ r = .int .i64 i ∧ q = .pointer u ∧ p = v ∧ Hid (pO N (livL D sh.length)[(livL D i).length]? = .pointer u) ∧ Hid (OwnI (w.heap.size + 1) wr v (canD D i)) ∧ Hid (CK w b (.slice a l c) sh T H N D ch wr)) (fun _ _ r _ => l - (intOf r).toNat)
  case atStart => exact ⟨0, _, u0, Nat.zero_le _, rfl, rfl, rfl, HU0, HW0, HK1⟩
  case round =>
    obtain ⟨i, v, u, hi, rfl, rfl, rfl, HU, HOW, RK⟩ := hrel
    clear HK HK1 HW0 t0 t1 t2
    by_cases hlt : i < l
    · have his : i < sh.length := by rw [HL.out]; exact hlt
      by_cases hd : (i : Int) ∈ D
      · obtain ⟨n1, n2⟩ := liv_not (n := sh.length) hd (livL D i).length
        have hcs := can_step D i
        rw [if_pos (by simp [hasD, hd])] at hcs
        have HC := Lib.hid hcs
        have N2 := Lib.hid n2
        have hcl : (canD D i).length ≤ i := by have := liv_can D i; omega
        have hsz := RK.out.sz
        clear hcs n2
        have HN1 := Lib.hid n1
        cases hx : (livL D sh.length)[(livL D i).length]? with
        | none =>
          have hu := HU.out
          rw [hx] at hu
          obtain rfl : u = none := by simpa [pO] using hu.symm
          clear hx hu n1
          go_wp2_with (at_builtin; go_must (refine wpList_app rfl _ _ rfl (w.heap.size + 1) _ (canD D i) (i : Int) rfl (HOW.out.same (fun k _ hl => Below.heap_alloc _ _ _ hl)) ⟨wr.heap.size, 0, none⟩ rfl (one_newC wr (i : Int)) (by omega) (by simp; omega) ?_))
          intro v' w5 hO hg hw
          have hbel := Lib.hid (((Below.refl (w.heap.size + 1) wr).alloc hsz _).grown hg (by simp; omega) fun k hk => (World.ownsRow.lt HOW.out k hk).1)
          have HO5 := Lib.hid hO
          clear hO hg hw HOW
          go_wp2_with fail
          go_roundw
          case rel => exact ⟨i + 1, v', none, by omega, by go_num, rfl, rfl, by rw [N2.out]; exact HU, Lib.hid (by rw [HC.out]; exact HO5.out), Lib.hid (RK.out.up hbel.out)⟩
          case measure => simp [intOf]; omega
        | some y =>
          have hu := HU.out
          rw [hx] at hu
          obtain rfl : u = some ⟨N + y, 0, none⟩ := by simpa [pO] using hu.symm
          have hyi : (y : Int) ≠ (i : Int) := by rw [hx] at n1; intro e; apply n1; have : y = i := by omega
                                                 rw [this]
          have hn := RK.out.tn.k.n _ y hx
          obtain ⟨f0, f1, f2⟩ := hn.threeT
          have hyi' : ((y : Int) == (i : Int)) = false := by simpa using hyi
          clear hx hu n1 hn hyi
          go_wp2_with (at_builtin; go_must (refine wpList_app rfl _ _ rfl (w.heap.size + 1) _ (canD D i) (i : Int) rfl (HOW.out.same (fun k _ hl => Below.heap_alloc _ _ _ hl)) ⟨wr.heap.size, 0, none⟩ rfl (one_newC wr (i : Int)) (by omega) (by simp; omega) ?_))
          intro v' w5 hO hg hw
          have hbel := Lib.hid (((Below.refl (w.heap.size + 1) wr).alloc hsz _).grown hg (by simp; omega) fun k hk => (World.ownsRow.lt HOW.out k hk).1)
          have HO5 := Lib.hid hO
          clear hO hg hw HOW
          go_wp2_with fail
          go_roundw
          case rel => exact ⟨i + 1, v', _, by omega, by go_num, rfl, rfl, by rw [N2.out]; exact HU, Lib.hid (by rw [HC.out]; exact HO5.out), Lib.hid (RK.out.up hbel.out)⟩
          case measure => simp [intOf]; omega
      · obtain ⟨n1, n2⟩ := liv_at his hd
        have hcs := can_step D i
        rw [if_neg (by simp [hasD, hd]), List.append_nil] at hcs
        have HC := Lib.hid hcs
        have N2 := Lib.hid n2
        have hu := HU.out
        rw [n1] at hu
        obtain rfl : u = some ⟨N + i, 0, none⟩ := by simpa [pO] using hu.symm
        have hn := RK.out.tn.k.n _ i n1
        obtain ⟨f0, f1, f2⟩ := hn.threeT
        obtain ⟨u2, hu2⟩ := pO_ptr N (livL D sh.length)[(livL D i).length + 1]?
        rw [hu2] at f2
        have HU2 := Lib.hid hu2
        clear hcs n1 n2 hu hn hu2
        go_wp2_with fail
        go_roundw
        case rel => exact ⟨i + 1, _, u2, by omega, by go_num, rfl, rfl, by rw [N2.out]; exact HU2, Lib.hid (by rw [HC.out]; exact HOW.out), RK⟩
        case measure => simp [intOf]; omega
    · obtain rfl : i = l := by omega
      have hcl : (canD D i).length ≤ 4096 := by have := liv_can D i; omega
      obtain ⟨x, m, rfl, htb⟩ := own_tb HOW.out hcl
      have HLl := HL.out
      have HCL := Lib.hid (CL.mk RK.out htb)
      have CC : Hid (∀ W, Hid (CL w b (.slice a i c) sh T H N D ch x (canD D i).length (canD D i) W) → Calls Tryd.prog 29 #[.slice a i c] W (ClPost sh W)) := Lib.hid (fun W hW => clone_any sh a i c W (HG.out.on hW.out.k.low) (by omega) (by omega))
      unfold ClPost at CC
      obtain ⟨t0, t2, -⟩ := clS HCL.out
      have HDE : Hid (canD D i = canD D sh.length) := Lib.hid (by rw [HLl])
      obtain ⟨dl, hdl⟩ : ∃ y_, (canD D i).length = y_ := ⟨_, rfl⟩
      rw [hdl] at HCL CC ⊢
      clear HOW htb hcl HLl hdl RK
      go_wp2_with fail
      go_region_held3 (fun W9 => W9.cell? ⟨T, 0, none⟩ = some (.slice a i c) ∧ W9.cell? ⟨T, 2, none⟩ = some (.int .i64 ch) ∧ Hid (CL w b (.slice a i c) sh T H N D ch x dl (canD D i) W9))
        (first
          | (with_reducible exact clS (CL.put HSp.out _ _ _))
          | (go_split_ands; with_reducible exact clS (Hid.out (by with_reducible assumption)))
          | (go_split_ands; with_reducible exact clS (CL.on (Hid.out (by with_reducible assumption)) hb))
          | (go_split_ands; with_reducible exact clS (CL.on (Hid.out (by with_reducible assumption)) (Below.drew (Below.refl _ _))))
          | fail)
        (first
          | (go_split_ands; go_at_call 29; ((with_reducible refine (CC.out _ (by with_reducible assumption)).mono ?_); rintro e w' ⟨g, n1, cc, rfl, htb, hmc, hb⟩; have HTB := Lib.hid htb; have HBB := Lib.hid hb; have HSp : Hid (CL w b (.slice a i c) sh T H N D ch x dl (canD D i) w') := Lib.hid (CL.on (Hid.out (by with_reducible assumption)) hb); obtain ⟨p0, p1, p2, HBX, r0, r1, r2, z0, z1, z2⟩ := clBx HSp.out; clear htb))
          | fail)
      all_goals
        go_split_ands
        have hbx := sets3_box (p := .slice (some ⟨g, 0, none⟩) n1 cc) (q := .slice x dl m) (r := .int .i64 ch) HBX.out
        obtain ⟨e0, e1, e2⟩ := hbx.threeT
        clear hbx
        go_wp2_with fail
        refine bodyPost_ret (v := .agg #[.slice (some ⟨g, 0, none⟩) n1 cc, .slice x dl m, .int .i64 ch]) (by simp [results, Tryd.results43, go_sem, e0, e1, e2]) rfl ?_
        have hput := CL.put HSp.out (.slice (some ⟨g, 0, none⟩) n1 cc) (.slice x dl m) (.int .i64 ch)
        have hf := TbR.far HTB.out _ rfl
        have hx := TbR.far HCL.out.d
        have hz := HCL.out.k.sz
        refine ⟨_, _, _, _, _, _, rfl, tb_mono (tb_same HTB.out (by simp [World.setCell]) (fun k hk => sets3_far _ _ _ _ _ k (by simp at hk; omega))) (by simp; omega), ?_, ?_, hput.k.low⟩
        · rw [← HDE.out]; exact tb_mono hput.d (by omega)
        · intro p q hp hq
          cases hp
          have := (hx q hq).2
          simp at hf ⊢
          omega

end Go.Proofs.YtpphiekbhikadaaDoor

/- Tontines: the program: a history. -/
namespace Go.Proofs.YtpphiekbhikadaaDoor
open Go.ChangeShapes Go.WideShapes Go.ChangeAt Go.RowKit
set_option linter.unusedVariables false
set_option maxRecDepth 100000

def RuPost (b : Nat) (v : Value) (sh : List Int) (T H N : Nat) (l : Nat) (s : TSt) (E : Int) (w : World) (e : Ending) (w' : World) : Prop :=
  (E = 0 → e = .returned (.tuple #[.slice (some ⟨w.heap.size, 0, none⟩) l l, .int .i64 0]) ∧ Tn b v sh T H N s.D s.ch w' ∧ Blk w' w.heap.size s.Pd) ∧ (E ≠ 0 → e = .returned (.tuple #[.slice none 0 0, .int .i64 E])) ∧ Zon b (w.heap.size + 1) w w' ∧ w.heap.size + 1 ≤ w'.heap.size

theorem ret_sE {a b : Int} (h : a = b) : Ending.returned (.tuple #[.slice none 0 0, .int .i64 a]) = .returned (.tuple #[.slice none 0 0, .int .i64 b]) := by rw [h]

end Go.Proofs.YtpphiekbhikadaaDoor

/- Tontines: the program's functions: the living's shares, burying, the last member. -/
namespace Go.Proofs.YtpphiekbhikadaaDoor
open Go.ChangeShapes Go.WideShapes Go.ChangeAt Go.RowKit
set_option linter.unusedVariables false
set_option maxRecDepth 100000

def lsN (sh de : List Int) (ch : Int) : Int := if tcB sh de ch then lsV sh de else 0

def tcE (sh de : List Int) (ch : Int) : Int := if tcB sh de ch then 0 else 1

def bmE (sh de : List Int) (ch : Int) (ms : List Int) : Int := if tcB sh de ch then (if toB sh.length ms then (if buB de ms then 0 else 5) else 2) else 1

/-- a class and a code that a call hands over -/
def CEPost (sh de : List Int) (ch E : Int) (w : World) (e : Ending) (w' : World) : Prop :=
  ∃ a n c b m d, e = .returned (.tuple #[.agg #[.slice a n c, .slice b m d, .int .i64 ch], .int .i64 E]) ∧ TbR w.heap.size w' a n sh ∧ TbR w.heap.size w' b m de ∧ Aprt a b ∧ Below w.heap.size w w'

theorem tb_nil (base : Nat) (w : World) : TbR base w none 0 [] := ⟨rfl, by omega, .inl ⟨rfl, rfl⟩⟩

theorem CEPost.zero {E : Int} {w w' : World} (h : Below w.heap.size w w') : CEPost [] [] 0 E w (.returned (.tuple #[.agg #[.slice none 0 0, .slice none 0 0, .int .i64 0], .int .i64 E])) w' :=
  ⟨_, _, _, _, _, _, rfl, tb_nil _ _, tb_nil _ _, (fun x y hx => by cases hx), h⟩

/-- the boxes of a call: its class, its result -/
structure XB (w : World) (u v : Value) (ch : Int) (W : World) : Prop where
  c : Bx W w.heap.size [u, v, .int .i64 ch]
  r : Bx W (w.heap.size + 1) [.slice none 0 0, .slice none 0 0, .int .i64 0]
  low : Below w.heap.size w W
  sz : w.heap.size + 2 ≤ W.heap.size

theorem XB.up {w W W' : World} {u v : Value} {ch : Int} (h : XB w u v ch W) (hb : Below (w.heap.size + 2) W W') : XB w u v ch W' :=
  ⟨h.c.same (hb.block _ (by omega)), h.r.same (hb.block _ (by omega)), h.low.trans (hb.mono (by omega)), Nat.le_trans h.sz hb.size⟩

theorem XB.on {w W W' : World} {u v : Value} {ch : Int} (h : XB w u v ch W) (hb : Below W.heap.size W W') : XB w u v ch W' := h.up (hb.mono h.sz)

theorem XB.new (w : World) (u v : Value) (ch : Int) (A B : TypeId) : XB w u v ch ((w.alloc (.cells #[u, v, .int .i64 ch] A)).alloc (.cells #[.slice none 0 0, .slice none 0 0, .int .i64 0] B)) := by
  have b1 := box_b w (.cells #[u, v, .int .i64 ch] A)
  have b2 := box_b (w.alloc (.cells #[u, v, .int .i64 ch] A)) (.cells #[.slice none 0 0, .slice none 0 0, .int .i64 0] B)
  have x2 := Bx.new (w.alloc (.cells #[u, v, .int .i64 ch] A)) [.slice none 0 0, .slice none 0 0, .int .i64 0] B
  rw [World.size_alloc] at x2
  exact ⟨(Bx.new w [u, v, .int .i64 ch] A).on b2, x2, b1.trans (b2.mono (by simp)), by simp⟩

/-- the cells of both boxes -/
theorem xbS {w W : World} {u v : Value} {ch : Int} (h : XB w u v ch W) : W.cell? ⟨w.heap.size, 0, none⟩ = some u ∧ W.cell? ⟨w.heap.size, 1, none⟩ = some v ∧ W.cell? ⟨w.heap.size, 2, none⟩ = some (.int .i64 ch) ∧
    W.cell? ⟨w.heap.size + 1, 0, none⟩ = some (.slice none 0 0) ∧ W.cell? ⟨w.heap.size + 1, 1, none⟩ = some (.slice none 0 0) ∧ W.cell? ⟨w.heap.size + 1, 2, none⟩ = some (.int .i64 0) ∧
    W.frozen? ⟨w.heap.size + 1, 0, none⟩ = false ∧ W.frozen? ⟨w.heap.size + 1, 1, none⟩ = false ∧ W.frozen? ⟨w.heap.size + 1, 2, none⟩ = false := by
  obtain ⟨c0, c1, c2⟩ := h.c.threeT
  obtain ⟨r0, r1, r2⟩ := h.r.threeT
  exact ⟨c0, c1, c2, r0, r1, r2, h.r.free 0, h.r.free 1, h.r.free 2⟩

/-- the result's cells behind the store of three -/
theorem xbE {w W : World} {u v : Value} {ch : Int} (h : XB w u v ch W) (p q r : Value) :
    (((W.setCell ⟨w.heap.size + 1, 0, none⟩ p).setCell ⟨w.heap.size + 1, 1, none⟩ q).setCell ⟨w.heap.size + 1, 2, none⟩ r).cell? ⟨w.heap.size + 1, 0, none⟩ = some p ∧
    (((W.setCell ⟨w.heap.size + 1, 0, none⟩ p).setCell ⟨w.heap.size + 1, 1, none⟩ q).setCell ⟨w.heap.size + 1, 2, none⟩ r).cell? ⟨w.heap.size + 1, 1, none⟩ = some q ∧
    (((W.setCell ⟨w.heap.size + 1, 0, none⟩ p).setCell ⟨w.heap.size + 1, 1, none⟩ q).setCell ⟨w.heap.size + 1, 2, none⟩ r).cell? ⟨w.heap.size + 1, 2, none⟩ = some r ∧
    Below w.heap.size w (((W.setCell ⟨w.heap.size + 1, 0, none⟩ p).setCell ⟨w.heap.size + 1, 1, none⟩ q).setCell ⟨w.heap.size + 1, 2, none⟩ r) := by
  obtain ⟨e0, e1, e2⟩ := (sets3_box (p := p) (q := q) (r := r) h.r).threeT
  exact ⟨e0, e1, e2, ((h.low.setCell (p := ⟨w.heap.size + 1, 0, none⟩) (by show w.heap.size ≤ w.heap.size + 1; omega) _).setCell (p := ⟨w.heap.size + 1, 1, none⟩) (by show w.heap.size ≤ w.heap.size + 1; omega) _).setCell (p := ⟨w.heap.size + 1, 2, none⟩) (by show w.heap.size ≤ w.heap.size + 1; omega) _⟩

theorem tb_far {base : Nat} {W : World} {a : Option Addr} {n : Nat} {ys : List Int} {R : Nat} {p q r : Value} (h : TbR base W a n ys) (hR : R < base) : TbR base (((W.setCell ⟨R, 0, none⟩ p).setCell ⟨R, 1, none⟩ q).setCell ⟨R, 2, none⟩ r) a n ys :=
  tb_same h (by simp [World.setCell]) (fun k hk => sets3_far _ _ _ _ _ k (by omega))

set_option maxHeartbeats 1000000 in
theorem tlI_any (sh de : List Int) (a x : Option Addr) (l c n d : Nat) (ch : Int) (w : World) (h : Ints w a l sh) (g : Ints w x n de) :
    Calls Tryd.prog 21 #[.agg #[.slice a l c, .slice x n d, .int .i64 ch]] w (IIPost (lsN sh de ch) (tcE sh de ch) w) := by
  have H := Lib.hid h
  have G := Lib.hid g
  clear h g
  have HC0 := Lib.hid (TCB.new w (.slice a l c) (.slice x n d) ch 26)
  have CI := Lib.hid (tcI_any sh de a x l c n d ch _ (H.out.on HC0.out.low) (G.out.on HC0.out.low))
  unfold IIPost
  by_cases ht : tcB sh de ch = true
  · have HV : Hid (lsN sh de ch = lsV sh de ∧ tcE sh de ch = 0) := Lib.hid ⟨by unfold lsN; rw [if_pos ht], by unfold tcE; rw [if_pos ht]⟩
    have hok := tc_iff.1 ht
    have HO := Lib.hid hok
    rw [ht] at CI
    have CT : Hid (∀ W, Hid (TCB w (.slice a l c) (.slice x n d) ch W) → Calls Tryd.prog 41 #[.agg #[.slice a l c, .slice x n d, .int .i64 ch]] W (TofPost (.slice a l c) sh de ch W)) := Lib.hid (fun W hW => tof_any sh de a x l c n d ch W (H.out.on hW.out.low) (G.out.on hW.out.low) HO.out)
    clear ht hok
    go_enter Tryd.func21, Tryd.ntmps21
    go_wp2_with (first | (go_at_call 20; refine CI.out.mono ?_; rintro e w1 ⟨rfl, hb⟩; have HC1 := Lib.hid (HC0.out.on hb); obtain ⟨c0, c1, c2⟩ := HC1.out.b.threeT; clear hb) | (go_at_call 41; refine (CT.out _ HC1).mono ?_; rintro e w2 ⟨rfl, htn, hb⟩; have HT := Lib.hid htn; have HC2 := Lib.hid (HC1.out.on hb); clear htn hb) | (go_at_call 50; refine (tls_any _ HT.out HO.out).mono ?_; rintro e w3 ⟨rfl, rfl⟩))
    go_ret2
    exact ⟨ret_ii HV.out.1.symm HV.out.2.symm, HC2.out.low⟩
  · have HV : Hid (lsN sh de ch = 0 ∧ tcE sh de ch = 1) := Lib.hid ⟨by unfold lsN; rw [if_neg ht], by unfold tcE; rw [if_neg ht]⟩
    have ht' : tcB sh de ch = false := by simpa using ht
    rw [ht'] at CI
    clear ht
    go_enter Tryd.func21, Tryd.ntmps21
    go_wp2_with (go_at_call 20; refine CI.out.mono ?_; rintro e w1 ⟨rfl, hb⟩; have HC1 := Lib.hid (HC0.out.on hb); clear hb)
    go_ret2
    exact ⟨ret_ii HV.out.1.symm HV.out.2.symm, HC1.out.low⟩

/-- the only living one; the code -/
def lmE (sh de : List Int) (ch : Int) : Int := if tcB sh de ch then (if (livL de sh.length).length = 1 then 0 else 4) else 1

def lmN (sh de : List Int) (ch : Int) : Int := if lmE sh de ch = 0 then (((livL de sh.length).getD 0 0 : Nat) : Int) else 0

set_option maxHeartbeats 1000000 in
theorem tlm_any (sh de : List Int) (a x : Option Addr) (l c n d : Nat) (ch : Int) (w : World) (h : Ints w a l sh) (g : Ints w x n de) :
    Calls Tryd.prog 17 #[.agg #[.slice a l c, .slice x n d, .int .i64 ch]] w (IIPost (lmN sh de ch) (lmE sh de ch) w) := by
  have H := Lib.hid h
  have G := Lib.hid g
  clear h g
  have HC0 := Lib.hid (TCB.new w (.slice a l c) (.slice x n d) ch 26)
  have CI := Lib.hid (tcI_any sh de a x l c n d ch _ (H.out.on HC0.out.low) (G.out.on HC0.out.low))
  unfold IIPost
  by_cases ht : tcB sh de ch = true
  · have hok := tc_iff.1 ht
    have HO := Lib.hid hok
    have HE : Hid (lmE sh de ch = if (livL de sh.length).length = 1 then 0 else 4) := Lib.hid (by unfold lmE; rw [if_pos ht])
    have HN : Hid (lmN sh de ch = if lmE sh de ch = 0 then (((livL de sh.length).getD 0 0 : Nat) : Int) else 0) := Lib.hid rfl
    rw [ht] at CI
    have CT : Hid (∀ W, Hid (TCB w (.slice a l c) (.slice x n d) ch W) → Calls Tryd.prog 41 #[.agg #[.slice a l c, .slice x n d, .int .i64 ch]] W (TofPost (.slice a l c) sh de ch W)) := Lib.hid (fun W hW => tof_any sh de a x l c n d ch W (H.out.on hW.out.low) (G.out.on hW.out.low) HO.out)
    clear ht hok
    match hL : livL de sh.length with
    | [] =>
      have HR : Hid (lmE sh de ch = 4 ∧ lmN sh de ch = 0) := Lib.hid (by
        have h1 : lmE sh de ch = 4 := by rw [HE.out, hL]; rfl
        exact ⟨h1, by rw [HN.out, h1]; rfl⟩)
      have CF : Hid (∀ b T H0 N W, Tn b (.slice a l c) sh T H0 N de ch W → Calls Tryd.prog 46 #[.pointer (some ⟨T, 0, none⟩)] W fun e w' => e = .returned (.pointer none) ∧ W = w') := Lib.hid (fun b T H0 N W hW => tfi_any W hW (by rw [hL]; rfl))
      clear hL
      go_enter Tryd.func17, Tryd.ntmps17
      go_wp2_with (first | (go_at_call 20; refine CI.out.mono ?_; rintro e w1 ⟨rfl, hb⟩; have HC1 := Lib.hid (HC0.out.on hb); obtain ⟨c0, c1, c2⟩ := HC1.out.b.threeT; clear hb) | (go_at_call 41; refine (CT.out _ HC1).mono ?_; rintro e w2 ⟨rfl, htn, hb⟩; have HT := Lib.hid htn; have HC2 := Lib.hid (HC1.out.on hb); clear htn hb) | (go_at_call 46; refine (CF.out _ _ _ _ _ HT.out).mono ?_; rintro e w3 ⟨rfl, rfl⟩))
      go_ret2
      exact ⟨ret_ii HR.out.2.symm HR.out.1.symm, HC2.out.low⟩
    | [i] =>
      have HR : Hid (lmE sh de ch = 0 ∧ lmN sh de ch = (i : Int)) := Lib.hid (by
        have h1 : lmE sh de ch = 0 := by rw [HE.out, hL]; rfl
        exact ⟨h1, by rw [HN.out, h1, hL]; rfl⟩)
      have CF : Hid (∀ b T H0 N W, Tn b (.slice a l c) sh T H0 N de ch W → (W.cell? ⟨N + i, 0, none⟩ = some (.int .i64 (i : Int)) ∧ W.cell? ⟨N + i, 2, none⟩ = some (.pointer none)) ∧ Calls Tryd.prog 46 #[.pointer (some ⟨T, 0, none⟩)] W fun e w' => e = .returned (.pointer (some ⟨N + i, 0, none⟩)) ∧ W = w') := Lib.hid (fun b T H0 N W hW => ⟨by
          have hn := hW.k.n 0 i (by rw [hL]; rfl)
          rw [hL] at hn
          exact ⟨hn.threeT.1, hn.threeT.2.2⟩, tfi_any W hW (by rw [hL]; rfl)⟩)
      clear hL
      go_enter Tryd.func17, Tryd.ntmps17
      go_wp2_with (first | (go_at_call 20; refine CI.out.mono ?_; rintro e w1 ⟨rfl, hb⟩; have HC1 := Lib.hid (HC0.out.on hb); obtain ⟨c0, c1, c2⟩ := HC1.out.b.threeT; clear hb) | (go_at_call 41; refine (CT.out _ HC1).mono ?_; rintro e w2 ⟨rfl, htn, hb⟩; have HT := Lib.hid htn; have HC2 := Lib.hid (HC1.out.on hb); obtain ⟨⟨k0, k2⟩, hcf⟩ := CF.out _ _ _ _ _ htn; have CF2 := Lib.hid hcf; clear htn hb hcf) | (go_at_call 46; refine (CF2.out).mono ?_; rintro e w3 ⟨rfl, rfl⟩))
      go_ret2
      exact ⟨ret_ii HR.out.2.symm HR.out.1.symm, HC2.out.low⟩
    | i :: j :: r =>
      have HR : Hid (lmE sh de ch = 4 ∧ lmN sh de ch = 0) := Lib.hid (by
        have h1 : lmE sh de ch = 4 := by rw [HE.out, hL, if_neg (by simp)]
        exact ⟨h1, by rw [HN.out, h1]; rfl⟩)
      have CF : Hid (∀ b T H0 N W, Tn b (.slice a l c) sh T H0 N de ch W → (W.cell? ⟨N + i, 0, none⟩ = some (.int .i64 (i : Int)) ∧ W.cell? ⟨N + i, 2, none⟩ = some (.pointer (some ⟨N + j, 0, none⟩))) ∧ Calls Tryd.prog 46 #[.pointer (some ⟨T, 0, none⟩)] W fun e w' => e = .returned (.pointer (some ⟨N + i, 0, none⟩)) ∧ W = w') := Lib.hid (fun b T H0 N W hW => ⟨by
          have hn := hW.k.n 0 i (by rw [hL]; rfl)
          rw [hL] at hn
          exact ⟨hn.threeT.1, hn.threeT.2.2⟩, tfi_any W hW (by rw [hL]; rfl)⟩)
      clear hL
      go_enter Tryd.func17, Tryd.ntmps17
      go_wp2_with (first | (go_at_call 20; refine CI.out.mono ?_; rintro e w1 ⟨rfl, hb⟩; have HC1 := Lib.hid (HC0.out.on hb); obtain ⟨c0, c1, c2⟩ := HC1.out.b.threeT; clear hb) | (go_at_call 41; refine (CT.out _ HC1).mono ?_; rintro e w2 ⟨rfl, htn, hb⟩; have HT := Lib.hid htn; have HC2 := Lib.hid (HC1.out.on hb); obtain ⟨⟨k0, k2⟩, hcf⟩ := CF.out _ _ _ _ _ htn; have CF2 := Lib.hid hcf; clear htn hb hcf) | (go_at_call 46; refine (CF2.out).mono ?_; rintro e w3 ⟨rfl, rfl⟩))
      go_ret2
      exact ⟨ret_ii HR.out.2.symm HR.out.1.symm, HC2.out.low⟩
  · have HV : Hid (lmN sh de ch = 0 ∧ lmE sh de ch = 1) := Lib.hid (by
      have h1 : lmE sh de ch = 1 := by unfold lmE; rw [if_neg ht]
      exact ⟨by unfold lmN; rw [h1]; rfl, h1⟩)
    have ht' : tcB sh de ch = false := by simpa using ht
    rw [ht'] at CI
    clear ht
    go_enter Tryd.func17, Tryd.ntmps17
    go_wp2_with (go_at_call 20; refine CI.out.mono ?_; rintro e w1 ⟨rfl, hb⟩; have HC1 := Lib.hid (HC0.out.on hb); clear hb)
    go_ret2
    exact ⟨ret_ii HV.out.1.symm HV.out.2.symm, HC1.out.low⟩

end Go.Proofs.YtpphiekbhikadaaDoor

/- Tontines: the program's functions: members are buried; a history; an income. -/
namespace Go.Proofs.YtpphiekbhikadaaDoor
open Go.ChangeShapes Go.WideShapes Go.ChangeAt Go.RowKit
set_option linter.unusedVariables false
set_option maxRecDepth 100000

def bmS (sh de : List Int) (ch : Int) (ms : List Int) : List Int := if bmE sh de ch ms = 0 then sh else []

def bmD (sh de : List Int) (ch : Int) (ms : List Int) : List Int := if bmE sh de ch ms = 0 then canD (de ++ ms) sh.length else []

def bmC (sh de : List Int) (ch : Int) (ms : List Int) : Int := if bmE sh de ch ms = 0 then ch else 0

theorem bm_no {sh de : List Int} {ch : Int} {ms : List Int} (h : bmE sh de ch ms ≠ 0) : bmS sh de ch ms = [] ∧ bmD sh de ch ms = [] ∧ bmC sh de ch ms = 0 := by
  unfold bmS bmD bmC
  rw [if_neg h, if_neg h, if_neg h]
  exact ⟨rfl, rfl, rfl⟩

theorem bm_yes {sh de : List Int} {ch : Int} {ms : List Int} (h : bmE sh de ch ms = 0) : bmS sh de ch ms = sh ∧ bmD sh de ch ms = canD (de ++ ms) sh.length ∧ bmC sh de ch ms = ch := by
  unfold bmS bmD bmC
  rw [if_pos h, if_pos h, if_pos h]
  exact ⟨rfl, rfl, rfl⟩

theorem to_mem {n : Nat} {ms : List Int} (h : toB n ms = true) : ∀ m ∈ ms, 0 ≤ m ∧ m < n := by
  intro m hm
  unfold toB at h
  rw [Bool.and_eq_true, List.all_eq_true] at h
  have := (inB_iff _ _ _).1 (h.2 m hm)
  omega

set_option maxHeartbeats 4000000 in
theorem tbm_any (sh de ms : List Int) (a x y : Option Addr) (l c n d m k : Nat) (ch : Int) (w : World) (h : Ints w a l sh) (g : Ints w x n de) (f : Ints w y m ms) :
    Calls Tryd.prog 14 #[.agg #[.slice a l c, .slice x n d, .int .i64 ch], .slice y m k] w (CEPost (bmS sh de ch ms) (bmD sh de ch ms) (bmC sh de ch ms) (bmE sh de ch ms) w) := by
  have H := Lib.hid h
  have G := Lib.hid g
  have F := Lib.hid f
  have HL := Lib.hid h.len
  have hlm := h.max
  clear h g f
  have HX0 := Lib.hid (XB.new w (.slice a l c) (.slice x n d) ch 26 26)
  have CI : Hid (∀ W, Hid (XB w (.slice a l c) (.slice x n d) ch W) → Calls Tryd.prog 20 #[.agg #[.slice a l c, .slice x n d, .int .i64 ch]] W fun e w' => e = .returned (.bool (tcB sh de ch)) ∧ Below W.heap.size W w') := Lib.hid (fun W hW => tcI_any sh de a x l c n d ch W (H.out.on hW.out.low) (G.out.on hW.out.low))
  have CO : Hid (∀ W, Hid (XB w (.slice a l c) (.slice x n d) ch W) → Calls Tryd.prog 40 #[.agg #[.slice a l c, .slice x n d, .int .i64 ch], .slice y m k] W fun e w' => e = .returned (.bool (toB l ms)) ∧ Below W.heap.size W w') := Lib.hid (fun W hW => tto_any a y l c m k (.slice x n d) ch ms W hlm (F.out.on hW.out.low))
  obtain ⟨c0, c1, c2, r0, r1, r2, z0, z1, z2⟩ := xbS HX0.out
  by_cases ht : tcB sh de ch = true
  · have hok := tc_iff.1 ht
    have HO := Lib.hid hok
    rw [ht] at CI
    by_cases hto : toB l ms = true
    · rw [hto] at CO
      have hms : ∀ m ∈ ms, 0 ≤ m ∧ m < sh.length := to_mem (by rw [HL.out]; exact hto)
      have hbe : bmE sh de ch ms = if buB de ms then 0 else 5 := by unfold bmE; rw [if_pos ht, HL.out, if_pos hto]
      have CT : Hid (∀ W, Hid (XB w (.slice a l c) (.slice x n d) ch W) → Calls Tryd.prog 41 #[.agg #[.slice a l c, .slice x n d, .int .i64 ch]] W (TofPost (.slice a l c) sh de ch W)) := Lib.hid (fun W hW => tof_any sh de a x l c n d ch W (H.out.on hW.out.low) (G.out.on hW.out.low) HO.out)
      have CA : Hid (∀ W W3, Hid (XB w (.slice a l c) (.slice x n d) ch W) → Below W.heap.size W W3 → Tn W.heap.size (.slice a l c) sh (W.heap.size + 2) (W.heap.size + 1) (W.heap.size + 3) de ch W3 → Calls Tryd.prog 42 #[.pointer (some ⟨W.heap.size + 2, 0, none⟩), .slice y m k] W3 (BuaPost W.heap.size (.slice a l c) sh (W.heap.size + 2) (W.heap.size + 1) (W.heap.size + 3) de ch ms W3)) :=
        Lib.hid (fun W W3 hW hb ht => tba_any W.heap.size (W.heap.size + 2) (W.heap.size + 1) (W.heap.size + 3) a y l c m k sh de ms ch W3 ht (fun W4 hz => by
          have hl := hW.out.low.trans ((hb.trans (hz.below (Nat.le_refl _) hb.size)).mono hW.out.low.size)
          exact ⟨H.out.on hl, F.out.on hl⟩) hms)
      have CC : Hid (∀ W W4 D, Hid (XB w (.slice a l c) (.slice x n d) ch W4) → Tn W (.slice a l c) sh (W + 2) (W + 1) (W + 3) D ch W4 → Calls Tryd.prog 43 #[.pointer (some ⟨W + 2, 0, none⟩)] W4 (CrPost sh (canD D sh.length) ch W4)) :=
        Lib.hid (fun W W4 D hW ht => tcl_any W4 ht (H.out.on hW.out.low) HO.out)
      by_cases hbu : buB de ms = true
      · rw [if_pos hbu] at hbe
        obtain ⟨v1, v2, v3⟩ := bm_yes hbe
        rw [v1, v2, v3, hbe]
        have HBU := Lib.hid hbu
        clear ht hok hto hms hbe hbu v1 v2 v3
        go_enter Tryd.func14, Tryd.ntmps14
        go_wp2_with (first
          | (go_at_call 20; refine (CI.out _ HX0).mono ?_; rintro e w1 ⟨rfl, hb⟩; have HX1 := Lib.hid (HX0.out.on hb); obtain ⟨c0, c1, c2, r0, r1, r2, z0, z1, z2⟩ := xbS HX1.out; clear hb)
          | (go_at_call 40; refine (CO.out _ HX1).mono ?_; rintro e w2 ⟨rfl, hb⟩; have HX2 := Lib.hid (HX1.out.on hb); obtain ⟨c0, c1, c2, r0, r1, r2, z0, z1, z2⟩ := xbS HX2.out; clear hb)
          | (go_at_call 41; refine (CT.out _ HX2).mono ?_; rintro e w3 ⟨rfl, htn, hb⟩; have HX3 := Lib.hid (HX2.out.on hb); have HT := Lib.hid htn; have HB3 := Lib.hid hb; clear htn hb)
          | (go_at_call 42; refine (CA.out _ _ HX2 HB3.out HT.out).mono ?_; rintro e w4 ⟨E, rfl, hE, h2, h3⟩; rw [if_pos HBU.out] at hE; subst hE; have HT4 := Lib.hid (h2 HBU.out); have HX4 := Lib.hid (HX3.out.up (h3.below HX2.out.sz HX3.out.sz)); clear h2 h3)
          | (go_at_call 43; refine (CC.out _ _ _ HX4 HT4.out).mono ?_; rintro e w5 ⟨a1, n1, q1, b1, m1, d1, rfl, h1, h2, h3, hb⟩; have HX5 := Lib.hid (HX4.out.on hb); have R1 := Lib.hid h1; have R2 := Lib.hid h2; have R3 := Lib.hid h3; obtain ⟨c0, c1, c2, r0, r1, r2, z0, z1, z2⟩ := xbS HX5.out; obtain ⟨e0, e1, e2, e3⟩ := xbE HX5.out (.slice a1 n1 q1) (.slice b1 m1 d1) (.int .i64 ch); have HEB := Lib.hid e3; clear h1 h2 h3 hb e3))
        refine bodyPost_ret (v := .tuple #[.agg #[.slice a1 n1 q1, .slice b1 m1 d1, .int .i64 ch], .int .i64 0]) (by simp [results, Tryd.results14, go_sem, e0, e1, e2]) rfl ?_
        have hsz := HX4.out.sz
        exact ⟨_, _, _, _, _, _, rfl, tb_mono (tb_far R1.out (by omega)) (by omega), tb_mono (tb_far R2.out (by omega)) (by omega), R3.out, HEB.out⟩
      · have hbf : buB de ms = false := by simpa using hbu
        rw [hbf, if_neg (by decide)] at hbe
        obtain ⟨v1, v2, v3⟩ := bm_no (by rw [hbe]; decide)
        rw [v1, v2, v3, hbe]
        have HBF := Lib.hid hbf
        clear ht hok hto hms hbe hbu hbf v1 v2 v3
        go_enter Tryd.func14, Tryd.ntmps14
        go_wp2_with (first
          | (go_at_call 20; refine (CI.out _ HX0).mono ?_; rintro e w1 ⟨rfl, hb⟩; have HX1 := Lib.hid (HX0.out.on hb); obtain ⟨c0, c1, c2, r0, r1, r2, z0, z1, z2⟩ := xbS HX1.out; clear hb)
          | (go_at_call 40; refine (CO.out _ HX1).mono ?_; rintro e w2 ⟨rfl, hb⟩; have HX2 := Lib.hid (HX1.out.on hb); obtain ⟨c0, c1, c2, r0, r1, r2, z0, z1, z2⟩ := xbS HX2.out; clear hb)
          | (go_at_call 41; refine (CT.out _ HX2).mono ?_; rintro e w3 ⟨rfl, htn, hb⟩; have HX3 := Lib.hid (HX2.out.on hb); have HT := Lib.hid htn; have HB3 := Lib.hid hb; clear htn hb)
          | (go_at_call 42; refine (CA.out _ _ HX2 HB3.out HT.out).mono ?_; rintro e w4 ⟨E, rfl, hE, h2, h3⟩; rw [HBF.out, if_neg (by decide)] at hE; subst hE; have HX4 := Lib.hid (HX3.out.up (h3.below HX2.out.sz HX3.out.sz)); obtain ⟨c0, c1, c2, r0, r1, r2, z0, z1, z2⟩ := xbS HX4.out; obtain ⟨e0, e1, e2, e3⟩ := xbE HX4.out (.slice none 0 0) (.slice none 0 0) (.int .i64 0); have HEB := Lib.hid e3; clear h2 h3 e3))
        refine bodyPost_ret (v := .tuple #[.agg #[.slice none 0 0, .slice none 0 0, .int .i64 0], .int .i64 5]) (by simp [results, Tryd.results14, go_sem, e0, e1, e2]) rfl ?_
        exact CEPost.zero HEB.out
    · have hto' : toB l ms = false := by simpa using hto
      rw [hto'] at CO
      have hbe : bmE sh de ch ms = 2 := by unfold bmE; rw [if_pos ht, HL.out, if_neg hto]
      obtain ⟨v1, v2, v3⟩ := bm_no (by rw [hbe]; decide)
      rw [v1, v2, v3, hbe]
      clear ht hok hto hto' hbe v1 v2 v3
      go_enter Tryd.func14, Tryd.ntmps14
      go_wp2_with (first
          | (go_at_call 20; refine (CI.out _ HX0).mono ?_; rintro e w1 ⟨rfl, hb⟩; have HX1 := Lib.hid (HX0.out.on hb); obtain ⟨c0, c1, c2, r0, r1, r2, z0, z1, z2⟩ := xbS HX1.out; clear hb)
          | (go_at_call 40; refine (CO.out _ HX1).mono ?_; rintro e w2 ⟨rfl, hb⟩; have HX2 := Lib.hid (HX1.out.on hb); obtain ⟨c0, c1, c2, r0, r1, r2, z0, z1, z2⟩ := xbS HX2.out; obtain ⟨e0, e1, e2, e3⟩ := xbE HX2.out (.slice none 0 0) (.slice none 0 0) (.int .i64 0); have HEB := Lib.hid e3; clear hb e3))
      refine bodyPost_ret (v := .tuple #[.agg #[.slice none 0 0, .slice none 0 0, .int .i64 0], .int .i64 2]) (by simp [results, Tryd.results14, go_sem, e0, e1, e2]) rfl ?_
      exact CEPost.zero HEB.out
  · have ht' : tcB sh de ch = false := by simpa using ht
    rw [ht'] at CI
    have hbe : bmE sh de ch ms = 1 := by unfold bmE; rw [if_neg ht]
    obtain ⟨v1, v2, v3⟩ := bm_no (by rw [hbe]; decide)
    rw [v1, v2, v3, hbe]
    clear ht ht' hbe v1 v2 v3
    go_enter Tryd.func14, Tryd.ntmps14
    go_wp2_with (go_at_call 20; refine (CI.out _ HX0).mono ?_; rintro e w1 ⟨rfl, hb⟩; have HX1 := Lib.hid (HX0.out.on hb); obtain ⟨c0, c1, c2, r0, r1, r2, z0, z1, z2⟩ := xbS HX1.out; obtain ⟨e0, e1, e2, e3⟩ := xbE HX1.out (.slice none 0 0) (.slice none 0 0) (.int .i64 0); have HEB := Lib.hid e3; clear hb e3)
    refine bodyPost_ret (v := .tuple #[.agg #[.slice none 0 0, .slice none 0 0, .int .i64 0], .int .i64 1]) (by simp [results, Tryd.results14, go_sem, e0, e1, e2]) rfl ?_
    exact CEPost.zero HEB.out

end Go.Proofs.YtpphiekbhikadaaDoor

/- Tontines: the program's functions: a history; an income. -/
namespace Go.Proofs.YtpphiekbhikadaaDoor
open Go.ChangeShapes Go.WideShapes Go.ChangeAt Go.RowKit
set_option linter.unusedVariables false
set_option maxRecDepth 100000

def st0 (sh de : List Int) (ch : Int) : TSt := ⟨de, ch, List.replicate sh.length 0⟩

def rcE (sh de : List Int) (ch : Int) (ins : List Int) (dss : List (List Int)) : Int :=
  if tcB sh de ch then (if hyB sh.length ins dss then (rnV sh (st0 sh de ch) ins dss ins.length).2 else 2) else 1

def rcT (sh de : List Int) (ch : Int) (ins : List Int) (dss : List (List Int)) : TSt :=
  if rcE sh de ch ins dss = 0 then (rnV sh (st0 sh de ch) ins dss ins.length).1 else ⟨[], 0, []⟩

def rcS (sh de : List Int) (ch : Int) (ins : List Int) (dss : List (List Int)) : List Int := if rcE sh de ch ins dss = 0 then sh else []

def rcD (sh de : List Int) (ch : Int) (ins : List Int) (dss : List (List Int)) : List Int := if rcE sh de ch ins dss = 0 then canD (rcT sh de ch ins dss).D sh.length else []

theorem rc_no {sh de : List Int} {ch : Int} {ins : List Int} {dss : List (List Int)} (h : rcE sh de ch ins dss ≠ 0) : rcS sh de ch ins dss = [] ∧ rcD sh de ch ins dss = [] ∧ (rcT sh de ch ins dss).ch = 0 ∧ (rcT sh de ch ins dss).Pd = [] := by
  unfold rcS rcD rcT
  rw [if_neg h, if_neg h, if_neg h]
  exact ⟨rfl, rfl, rfl, rfl⟩

theorem rc_yes {sh de : List Int} {ch : Int} {ins : List Int} {dss : List (List Int)} (h : rcE sh de ch ins dss = 0) : rcS sh de ch ins dss = sh ∧ rcD sh de ch ins dss = canD (rnV sh (st0 sh de ch) ins dss ins.length).1.D sh.length ∧ (rcT sh de ch ins dss) = (rnV sh (st0 sh de ch) ins dss ins.length).1 := by
  unfold rcS rcD rcT
  rw [if_pos h, if_pos h, if_pos h]
  exact ⟨rfl, rfl, rfl⟩

theorem st_ok {sh de : List Int} {ch : Int} (h : TcOk sh de ch) : TsOk sh 0 (st0 sh de ch) := by
  refine ⟨h.c0, h.c1, by simp [st0], fun i => ?_, h.mem⟩
  show 0 ≤ (List.replicate sh.length (0 : Int)).getD i 0 ∧ (List.replicate sh.length (0 : Int)).getD i 0 ≤ _
  have : (List.replicate sh.length (0 : Int)).getD i 0 = 0 := by
    rw [List.getD_eq_getElem?_getD, List.getElem?_replicate]
    split <;> rfl
  rw [this]
  omega

theorem hy_in {n : Nat} {ins : List Int} {dss : List (List Int)} (h : hyB n ins dss = true) : ins.length = dss.length ∧ ins.length ≤ 100 ∧ (∀ i, 0 ≤ ins.getD i 0 ∧ ins.getD i 0 ≤ 100000000) ∧ ∀ i, ∀ m ∈ dss.getD i [], 0 ≤ m ∧ m < n := by
  unfold hyB at h
  simp only [Bool.and_eq_true, decide_eq_true_iff, List.all_eq_true] at h
  obtain ⟨⟨⟨h1, h2⟩, h3⟩, h4⟩ := h
  refine ⟨h1, h2, fun i => ?_, fun i m hm => ?_⟩
  · by_cases hi : i < ins.length
    · have := (inB_iff _ _ _).1 (h3 _ (List.getElem_mem hi))
      rw [List.getD_eq_getElem?_getD, List.getElem?_eq_getElem hi]
      exact this
    · rw [List.getD_eq_getElem?_getD, List.getElem?_eq_none (by omega)]
      simp
  · by_cases hi : i < dss.length
    · rw [List.getD_eq_getElem?_getD, List.getElem?_eq_getElem hi] at hm
      exact to_mem (h4 _ (List.getElem_mem hi)) m hm
    · rw [List.getD_eq_getElem?_getD, List.getElem?_eq_none (by omega)] at hm
      simp at hm

/-- a class, what has been paid, and a code -/
def CPPost (sh de : List Int) (ch : Int) (ps : List Int) (E : Int) (w : World) (e : Ending) (w' : World) : Prop :=
  ∃ a n c b m d y k q, e = .returned (.tuple #[.agg #[.slice a n c, .slice b m d, .int .i64 ch], .slice y k q, .int .i64 E]) ∧ TbR w.heap.size w' a n sh ∧ TbR w.heap.size w' b m de ∧ TbR w.heap.size w' y k ps ∧ (Aprt a b ∧ Aprt a y ∧ Aprt b y) ∧ Below w.heap.size w w'

theorem CPPost.zero {E : Int} {w w' : World} (h : Below w.heap.size w w') : CPPost [] [] 0 [] E w (.returned (.tuple #[.agg #[.slice none 0 0, .slice none 0 0, .int .i64 0], .slice none 0 0, .int .i64 E])) w' :=
  ⟨_, _, _, _, _, _, _, _, _, rfl, tb_nil _ _, tb_nil _ _, tb_nil _ _, ⟨(fun x y hx => by cases hx), (fun x y hx => by cases hx), (fun x y hx => by cases hx)⟩, h⟩

theorem blk_tb {w : World} {B l base : Nat} {ys : List Int} (h : Blk w B ys) (hl : ys.length = l) (hm : l ≤ 4096) (hb : base ≤ B) : TbR base w (some ⟨B, 0, none⟩) l ys :=
  ⟨hl, hm, .inr ⟨B, 0, rfl, hb, h.lt, ⟨fun i hi => by rw [Nat.zero_add]; exact h.cell i hi, fun i _ => h.free _⟩⟩⟩

theorem Bx.oneT {w : World} {B : Nat} {x : Value} (h : Bx w B [x]) : w.cell? ⟨B, 0, none⟩ = some x := by
  obtain ⟨T, h⟩ := h
  simp [World.cell?, h]

/-- a list of one number, a list of one empty list -/
theorem lay_one (W : World) (inc : Int) (A B : TypeId) : Below W.heap.size W ((W.alloc (.cells #[.int .i64 inc] A)).alloc (.cells #[.slice none 0 0] B)) ∧ Ints ((W.alloc (.cells #[.int .i64 inc] A)).alloc (.cells #[.slice none 0 0] B)) (some ⟨W.heap.size, 0, none⟩) 1 [inc] ∧ IntsS ((W.alloc (.cells #[.int .i64 inc] A)).alloc (.cells #[.slice none 0 0] B)) (some ⟨W.heap.size + 1, 0, none⟩) 1 [[]] := by
  have b1 := box_b W (.cells #[.int .i64 inc] A)
  have b2 := box_b (W.alloc (.cells #[.int .i64 inc] A)) (.cells #[.slice none 0 0] B)
  have x1 := (Bx.new W [.int .i64 inc] A).on b2
  have x2 := Bx.new (W.alloc (.cells #[.int .i64 inc] A)) [.slice none 0 0] B
  rw [World.size_alloc] at x2
  refine ⟨b1.trans (b2.mono (by simp)), ⟨rfl, by omega, .inr ⟨_, 0, rfl, fun i hi => ?_⟩⟩, ⟨rfl, by omega, .inr ⟨_, 0, rfl, fun i hi => ?_⟩⟩⟩
  · obtain rfl : i = 0 := by omega
    rw [Nat.zero_add]; exact x1.oneT
  · obtain rfl : i = 0 := by omega
    exact ⟨none, 0, 0, by rw [Nat.zero_add]; exact x2.oneT, ⟨rfl, by omega, .inl rfl⟩⟩

end Go.Proofs.YtpphiekbhikadaaDoor
