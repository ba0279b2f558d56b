/- strconv.ParseInt in one contract: a number, or an error value. -/
import Derived.Test.YtnppkdnmkhoeeaaDoorReadI
namespace Go.Proofs.YtnppkdnmkhoeeaaDoor
open Go.ChangeShapes Go.WideShapes Go.ChangeAt Go.RowKit
set_option linter.unusedVariables false

/-- what a reading of numbers asks of the world: both errors, the shape of the library's variables -/
structure AskE (w : World) : Prop where
  syn : ErrIs w "strconv.ErrSyntax"
  ran : ErrIs w "strconv.ErrRange"
  shape : w.ShapedOpen Tryd.prog

theorem AskE.step {w w' : World} (h : AskE w) (hb : Below w.heap.size w w') : AskE w' := by
  obtain ⟨⟨a, p, hs⟩, ⟨b, q, hr⟩, sh⟩ := h
  have g1 : (1 : Nat) < w.heap.size := by
    have := World.var?_cell gSyn hs 0
    exact block_lt (p := ⟨1, 0, none⟩) (by simpa using this)
  have g2 : (2 : Nat) < w.heap.size := by
    have := World.var?_cell gRan hr 0
    exact block_lt (p := ⟨2, 0, none⟩) (by simpa using this)
  exact ⟨⟨a, p, var?_below hb gSyn g1 hs⟩, ⟨b, q, var?_below hb gRan g2 hr⟩, sh.keptBut (hb.frame (fun _ => False)) (fun _ h => h.elim)⟩

/-- a call of ParseInt: a number, or an error -/
def ParsePost (l : List UInt8) (w : World) (e : Ending) (w' : World) : Prop :=
  ((∃ v, Lib.parseIntB 64 l = .ok v ∧ e = .returned (.tuple #[.int .i64 v, .nilIface])) ∨ ((∀ v, Lib.parseIntB 64 l ≠ .ok v) ∧ ∃ v, ∃ N : Nat, e = .returned (.tuple #[.int .i64 v, .iface 77 (.pointer (some ⟨N, 0, none⟩))]))) ∧ Below w.heap.size w w'

theorem below_parse' {w w1 : World} (h : w1 = w ∨ ∃ t, w1 = Lib.bytesWorld w 5 t) : Below w.heap.size w w1 := by
  rcases h with rfl | ⟨t, rfl⟩
  · exact Below.refl _ _
  · exact Joins.below_bytesWorld _ _ _ _ (Nat.le_refl _)

theorem parse_all (s : ByteArray) (w : World) (hl : s.size ≤ 281474976710656) (ha : AskE w) :
    Calls Tryd.prog 20 #[.string s, .int .i64 10, .int .i64 64] w (ParsePost s.data.toList w) := by
  cases hp : Lib.parseIntB 64 s.data.toList with
  | ok v =>
    refine (Tryd.strconv_ParseInt_10_at64_ok _ (by omega) v hp _).mono ?_
    rintro e w1 ⟨rfl, hw⟩
    exact ⟨.inl ⟨v, hp, rfl⟩, below_parse' hw⟩
  | «syntax» =>
    refine (parse_syn s w hl hp ha.syn).mono ?_
    rintro e w1 ⟨⟨N, rfl⟩, hb⟩
    exact ⟨.inr ⟨fun v h => (by rw [hp] at h; cases h), _, N, rfl⟩, hb⟩
  | range =>
    refine (parse_ran s w hl hp ha.ran).mono ?_
    rintro e w1 ⟨⟨N, rfl⟩, hb⟩
    exact ⟨.inr ⟨fun v h => (by rw [hp] at h; cases h), _, N, rfl⟩, hb⟩

end Go.Proofs.YtnppkdnmkhoeeaaDoor
