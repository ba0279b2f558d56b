/- The draws of chapter 4: numbers, and a list with a rate, whatever they are. -/
import Derived.Test.YtlcmgihaelgclaaGreatSrc
import Derived.Test.YtlcmgihaelgclaaGreatDrawS
namespace Go.Proofs.YtlcmgihaelgclaaGreat
open Go.ChangeShapes Go.WideShapes Go.ChangeAt Go.RowKit
set_option linter.unusedVariables false
set_option maxRecDepth 100000

theorem bigI_any (a : Option Addr) (l c : Nat) (w : World) : Calls Tryz.prog 4 #[.slice a l c] w fun e w' => e = .returned (.bool (decide (4096 < (l : Int)))) ∧ w = w' := by
  go_enter Tryz.func4, Tryz.ntmps4
  go_wp2
  go_ret
  exact ⟨rfl, rfl⟩

theorem rate_r (B : Nat) (a : Option Addr) (l c : Nat) (z : List Int) (w : World) (h : Ready B a l c z w) :
    Calls Tryz.prog 33 #[.pointer (some ⟨B, 0, none⟩)] w (NumPost B a l c z Any w) := by
  have HS := Lib.hid h
  have HO := Lib.hid (But.refl B w)
  clear h
  go_enter Tryz.func33, Tryz.ntmps33
  go_wp2_with (first | (go_at_call 62; refine (next_r _ _ _ _ _ _ _ HS.out).mono ?_; rintro e w1 ⟨r, rfl, hd, ho, hs⟩; have HO := Lib.hid (HO.out.trans ho); have HS := Lib.hid hs; clear ho hs hd) | (go_at_call 63; ((with_reducible refine (pick4 B _ _ _ _ _ _ HS.out).mono ?_); rintro e w1 ⟨r, rfl, hd, ho, hs⟩; have HO := Lib.hid (HO.out.trans ho); have HS := Lib.hid hs; clear ho hs hd)) | (go_at_call 63; ((with_reducible refine (pick5 B _ _ _ _ _ _ _ HS.out).mono ?_); rintro e w1 ⟨r, rfl, hd, ho, hs⟩; have HO := Lib.hid (HO.out.trans ho); have HS := Lib.hid hs; clear ho hs hd)))
  all_goals
    go_ret
    exact ⟨_, rfl, trivial, HO.out, HS.out⟩

def ThreePost (w : World) (e : Ending) (w' : World) : Prop := ∃ x y z, e = .returned (.tuple #[.int .i64 x, .int .i64 y, .int .i64 z]) ∧ Below w.heap.size w w'

/-! ### a list and a rate -/

def LrPost (w : World) (e : Ending) (w' : World) : Prop := ∃ a l c xs r, e = .returned (.tuple #[.slice a l c, .int .i64 r]) ∧ Ints w' a l xs ∧ l ≤ 4096 ∧ Below w.heap.size w w'

def zeroL (l : Nat) : Obj := .cells ((List.replicate l (0 : Int)).map (Value.int .i64)).toArray 2

theorem make_zeroL (l : Nat) (n : Int) (h : n = l) (hl : l ≤ 1048576) (w : World) :
    (Instr.makeSlice 24 (.int .i64 n) (.int .i64 n)).run Tryz.prog w = .ok (.slice (some ⟨w.heap.size, 0, none⟩) l l) (w.alloc (zeroL l)) := by
  subst h; exact make_ints l hl w

theorem Blk.newL (w : World) (l : Nat) : Blk (w.alloc (zeroL l)) w.heap.size (List.replicate l 0) := Blk.new w (List.replicate l 0)

theorem one_newD (w : World) (x : Int) : ∀ j u, [Value.int .i64 x][j]? = some u → (w.alloc (.cells #[.int .i64 x] 2)).cell? ((⟨w.heap.size, 0, none⟩ : Addr).add j) = some u := by
  intro j u hj
  match j, hj with
  | 0, hj => simp at hj; subst hj; simp [Addr.add]

theorem OwnI.alloc4 {base : Nat} {w : World} {v : Value} {xs : List Int} (h : OwnI base w v xs) (o : Obj) : OwnI base (w.alloc o) v xs := h.same fun k _ hl => Below.heap_alloc _ _ _ hl

/-- a list keeps its numbers while the source of the draws turns -/
theorem Ints.but4 {w w' : World} {a : Option Addr} {l B : Nat} {xs : List Int} (h : Ints w a l xs) (ho : But B w w') (hne : ∀ x, a = some x → x.block ≠ B) : Ints w' a l xs := by
  have hlt := h.lt
  obtain ⟨h1, h2, h3⟩ := h
  refine ⟨h1, h2, ?_⟩
  rcases h3 with h0 | ⟨b, off, rfl, hc⟩
  · exact .inl h0
  · by_cases hl : l = 0
    · exact .inl hl
    · exact .inr ⟨b, off, rfl, fun i hi => by rw [ho.cell (p := ⟨b, off + i, none⟩) (hlt ⟨b, off, none⟩ rfl (by omega)) (hne ⟨b, off, none⟩ rfl)]; exact hc i hi⟩

theorem OwnI.ints4 {base : Nat} {w : World} {v : Value} {xs : List Int} (h : OwnI base w v xs) (hm : xs.length ≤ 4096) : ∃ a c, v = .slice a xs.length c ∧ Ints w a xs.length xs ∧ ∀ x, a = some x → base ≤ x.block := by
  have hh := h
  obtain ⟨h0, ⟨rfl, hn⟩ | ⟨g, cap, cur, rfl, hg, hb, r⟩⟩ := h
  · rw [hn]
    exact ⟨none, 0, rfl, ⟨by simpa using hn, by omega, .inl rfl⟩, fun x hx => by cases hx⟩
  · refine ⟨_, cap, rfl, ⟨rfl, by omega, .inr ⟨g, 0, rfl, fun i hi => ?_⟩⟩, fun x hx => by cases hx; exact hg⟩
    rw [Nat.zero_add, hh.cellAt i (by omega)]
    simp [List.getD, hi]

end Go.Proofs.YtlcmgihaelgclaaGreat
