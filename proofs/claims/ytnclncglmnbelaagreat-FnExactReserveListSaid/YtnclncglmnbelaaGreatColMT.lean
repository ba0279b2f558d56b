/- A copied table is marked: nothing else turns. -/
import Derived.Test.YtnclncglmnbelaaGreatTabL
import Derived.Test.YtnclncglmnbelaaGreatDrawS
import Derived.Test.YtnclncglmnbelaaGreatOwn
import Derived.Deep.RegionHeld3
namespace Go.Proofs.YtnclncglmnbelaaGreat
open Go.ChangeShapes Go.WideShapes Go.ChangeAt Go.RowKit
set_option linter.unusedVariables false

theorem onlyB_butA {w w' : World} {B : Nat} (h : Only B w w') : ButA (some ⟨B, 0, none⟩) w w' :=
  ⟨h.os, h.tape, h.output, by rw [h.size]; exact Nat.le_refl _, fun k _ hk => h.block k (fun e => hk _ rfl e.symm)⟩

theorem belowB_butA {w w' : World} {a : Option Addr} (h : Below w.heap.size w w') : ButA a w w' :=
  ⟨h.os, h.tape, h.output, h.size, fun k hk _ => h.block k hk⟩

theorem markTB_any (F : Int) (ys : List Int) (B n c : Nat) (q : Int) (w : World) (h : Blk w B ys) (hy : ys.length = n) (hl : n ≤ 1048576) (q0 : 0 ≤ q) (q1 : q ≤ 1099511627776) :
    Calls Tryz.prog 60 #[.agg #[.int .i64 F, .slice (some ⟨B, 0, none⟩) n c], .int .i64 q] w fun e w' => e = .returned (.int .i64 (q + n)) ∧ ButA (some ⟨B, 0, none⟩) w w' := by
  have hb1 := box_b w (.cells #[.int .i64 F, .slice (some ⟨B, 0, none⟩) n c] 26)
  have HM := Lib.hid (mark_any ys B n c q (w.alloc (.cells #[.int .i64 F, .slice (some ⟨B, 0, none⟩) n c] 26)) (h.step hb1) hy (by omega) q0 q1)
  have HB := Lib.hid hb1
  clear hb1 h hy
  go_enter Tryz.func60, Tryz.ntmps60
  go_wp2_with fail
  refine HM.out.mono ?_
  rintro e w2 ⟨rfl, hr2, ho⟩
  have HO := Lib.hid ho
  clear hr2 ho
  go_wp2_with fail
  go_ret
  exact ⟨rfl, (belowB_butA HB.out).trans (onlyB_butA HO.out)⟩

theorem tbr_butA {base n : Nat} {w w' : World} {a g : Option Addr} {ys : List Int} (h : TbR base w a n ys) (ho : ButA g w w') (hne : ∀ x y, a = some x → g = some y → y.block ≠ x.block) : TbR base w' a n ys := by
  obtain ⟨h1, h2, h3 | ⟨p, off, rfl, hb1, hg, hr⟩⟩ := h
  · exact ⟨h1, h2, .inl h3⟩
  · refine ⟨h1, h2, .inr ⟨p, off, rfl, hb1, Nat.lt_of_lt_of_le hg ho.size, ?_⟩⟩
    have hp : w'.heap[p]? = w.heap[p]? := ho.block p hg (fun y hy => hne ⟨p, off, none⟩ y rfl hy)
    refine ⟨fun i hi => ?_, fun i hi => ?_⟩
    · exact (World.cell?_of_block (w := w) (a := ⟨p, off + i, none⟩) hp).trans (hr.cell i hi)
    · exact (World.frozen?_of_block (w := w) (a := ⟨p, off + i, none⟩) hp).trans (hr.free i hi)

end Go.Proofs.YtnclncglmnbelaaGreat
