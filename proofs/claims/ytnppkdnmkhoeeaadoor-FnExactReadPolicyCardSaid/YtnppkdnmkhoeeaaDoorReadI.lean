/- ReadMoney of the program: what each call returns. -/
import Derived.Test.YtnppkdnmkhoeeaaDoorParse
import Derived.LaidLaws
import Derived.MakeChecks
namespace Go.Proofs.YtnppkdnmkhoeeaaDoor
open Go.ChangeShapes Go.WideShapes Go.ChangeAt Go.RowKit
set_option linter.unusedVariables false

/-- the library's variable holds an error -/
def ErrIs (w : World) (name : String) : Prop := ∃ tp p, w.var? Tryd.prog name = some #[.iface tp p]

theorem err_of {W : World} {name nm : String} {g t : Nat} {ms : Array (String × TypeId)} {d : DataW Unit} (hg : Tryd.prog.globalNamed name = some g) (hty : (Tryd.prog.globals[g]?).map (fun x => x.type) = some t)
    (ht : Tryd.prog.underlying t = some (.interface ms)) (h : laidMet Tryd.prog [(name, .iface nm d)] W) : ErrIs W name := by
  obtain ⟨ps, ⟨g', t', cs, fuel, p, q, hg', ht', hvar, hd, _, _⟩, _⟩ := h
  obtain rfl := Option.some.inj (hg.symm.trans hg')
  obtain rfl := Option.some.inj (hty.symm.trans ht')
  obtain ⟨_, u, v, hcs, _, _⟩ := iface_of_trod ht hd
  refine ⟨u, v, ?_⟩
  rw [hvar]
  obtain ⟨l⟩ := cs
  simp at hcs
  rw [hcs]

theorem gSyn : Tryd.prog.globalNamed "strconv.ErrSyntax" = some 1 := by kernel_rfl

theorem gRan : Tryd.prog.globalNamed "strconv.ErrRange" = some 2 := by kernel_rfl

theorem tSyn : (Tryd.prog.globals[1]?).map (fun x => x.type) = some 46 := by kernel_rfl

theorem tRan : (Tryd.prog.globals[2]?).map (fun x => x.type) = some 46 := by kernel_rfl

theorem errSyn_of {W : World} {nm : String} {d : DataW Unit} (h : laidMet Tryd.prog [("strconv.ErrSyntax", .iface nm d)] W) : ErrIs W "strconv.ErrSyntax" := err_of gSyn tSyn Tryd.underlying46 h

theorem errRan_of {W : World} {nm : String} {d : DataW Unit} (h : laidMet Tryd.prog [("strconv.ErrRange", .iface nm d)] W) : ErrIs W "strconv.ErrRange" := err_of gRan tRan Tryd.underlying46 h

/-- what ReadMoney asks of the world: the table, both errors, the shape of the library's variables -/
structure Ask (w : World) : Prop where
  tab : Tab w
  syn : ErrIs w "strconv.ErrSyntax"
  ran : ErrIs w "strconv.ErrRange"
  shape : w.ShapedOpen Tryd.prog

theorem ErrIs.of_heap {w w' : World} {name : String} (h : ErrIs w name) (e : w'.heap = w.heap) : ErrIs w' name := by
  obtain ⟨tp, p, hv⟩ := h
  refine ⟨tp, p, ?_⟩
  unfold World.var? at hv ⊢
  rw [e]; exact hv

def rdV (l : List UInt8) : Int := (rd l).getD 0

def rdB (l : List UInt8) : Bool := (rd l).isSome

theorem ret_ib {a b : Int} {c d : Bool} (h : a = b) (g : c = d) : Ending.returned (.tuple #[.int .i64 a, .bool c]) = .returned (.tuple #[.int .i64 b, .bool d]) := by rw [h, g]

def RmPost (l : List UInt8) (w : World) (e : Ending) (w' : World) : Prop := e = .returned (.tuple #[.int .i64 (rdV l), .bool (rdB l)]) ∧ Below w.heap.size w w'

theorem cut_len (l : List UInt8) : (Lib.cut l [46]).1.length ≤ l.length ∧ (Lib.cut l [46]).2.1.length ≤ l.length := by
  unfold Lib.cut
  split
  · simp; omega
  · simp

theorem var_drewN (Q : Program) (w : World) (n : Nat) (x : String) : (w.drewN n).var? Q x = w.var? Q x := rfl

theorem below_parse {w w1 : World} {n : Nat} (h : w1 = w.drewN n ∨ ∃ t, w1 = Lib.bytesWorld (w.drewN n) 5 t) : Below w.heap.size w w1 := by
  rcases h with rfl | ⟨t, rfl⟩
  · exact below_drewN (Below.refl _ _) _
  · exact (below_drewN (Below.refl _ _) _).trans (Joins.below_bytesWorld _ _ _ _ (Nat.le_refl _))

def ErrPost (v : Int) (w : World) (e : Ending) (w' : World) : Prop := (∃ N : Nat, e = .returned (.tuple #[.int .i64 v, .iface 77 (.pointer (some ⟨N, 0, none⟩))])) ∧ Below w.heap.size w w'

theorem parse_syn (s : ByteArray) (w : World) (hl : s.size ≤ 281474976710656) (h : Lib.parseIntB 64 s.data.toList = .«syntax») (hv : ErrIs w "strconv.ErrSyntax") :
    Calls Tryd.prog 20 #[.string s, .int .i64 10, .int .i64 64] w (ErrPost 0 w) := by
  obtain ⟨tp, p, hv⟩ := hv
  exact (Tryd.strconv_ParseInt_10_at64_syntax_var s hl h tp p w hv).mono fun e w' ⟨N, h1, _, _, h4⟩ => ⟨⟨N, h1⟩, h4⟩

theorem parse_ran (s : ByteArray) (w : World) (hl : s.size ≤ 281474976710656) (h : Lib.parseIntB 64 s.data.toList = .range) (hv : ErrIs w "strconv.ErrRange") :
    Calls Tryd.prog 20 #[.string s, .int .i64 10, .int .i64 64] w (ErrPost (Lib.intSat 64 s.data.toList) w) := by
  obtain ⟨tp, p, hv⟩ := hv
  exact (Tryd.strconv_ParseInt_10_at64_range_var s hl h tp p w hv).mono fun e w' ⟨N, h1, _, _, h4⟩ => ⟨⟨N, h1⟩, h4⟩

end Go.Proofs.YtnppkdnmkhoeeaaDoor
