/- A table in its box, as a law with many calls keeps it. -/
import Derived.Test.YtgfemcpjkdepdaaBxs
namespace Go.Proofs.Ytgfemcpjkdepdaa
open Go.ChangeShapes Go.WideShapes Go.ChangeAt Go.RowKit
set_option linter.unusedVariables false
set_option maxRecDepth 100000

/-- a table in its box -/
structure T1 (T : Nat) (F : Int) (ta : Option Addr) (tn tc : Nat) (xs : List Int) (w W : World) : Prop where
  low : Below w.heap.size w W
  bt : Bx W T [.int .i64 F, .slice ta tn tc]
  ii : Ints W ta tn xs

theorem T1.on {T : Nat} {F : Int} {ta : Option Addr} {tn tc : Nat} {xs : List Int} {w W W' : World} (h : T1 T F ta tn tc xs w W) (hb : Below W.heap.size W W') : T1 T F ta tn tc xs w W' := ⟨h.low.trans (hb.mono h.low.size), h.bt.on hb, h.ii.on hb⟩

theorem T1.new {F : Int} {ta : Option Addr} {tn tc : Nat} {xs : List Int} {w W : World} {ty : TypeId} (hl : Below w.heap.size w W) (hi : Ints W ta tn xs) : T1 W.heap.size F ta tn tc xs w (W.alloc (.cells #[.int .i64 F, .slice ta tn tc] ty)) := ⟨hl.trans ((box_b _ _).mono hl.size), Bx.new W _ _, hi.on (box_b _ _)⟩

theorem T1.two {F : Int} {ta : Option Addr} {tn tc : Nat} {xs : List Int} {G : Int} {ua : Option Addr} {un uc : Nat} {ys : List Int} {w W : World} {t1 t2 : TypeId} (hl : Below w.heap.size w W) (h1 : Ints W ta tn xs) (h2 : Ints W ua un ys) : T1 W.heap.size F ta tn tc xs w ((W.alloc (.cells #[.int .i64 F, .slice ta tn tc] t1)).alloc (.cells #[.int .i64 G, .slice ua un uc] t2)) ∧ T1 (W.heap.size + 1) G ua un uc ys w ((W.alloc (.cells #[.int .i64 F, .slice ta tn tc] t1)).alloc (.cells #[.int .i64 G, .slice ua un uc] t2)) := by
  have hq := box_b W (.cells #[.int .i64 F, .slice ta tn tc] t1)
  have hx := T1.new (F := G) (tc := uc) (ty := t2) (hl.trans (hq.mono hl.size)) (h2.on hq)
  rw [World.size_alloc] at hx
  exact ⟨(T1.new hl h1).on (box_b _ _), hx⟩

end Go.Proofs.Ytgfemcpjkdepdaa
