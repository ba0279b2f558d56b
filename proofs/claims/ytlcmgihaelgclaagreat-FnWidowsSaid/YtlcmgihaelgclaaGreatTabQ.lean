/- The model's draws of rates and of what MakeTable takes. -/
import Derived.Test.YtlcmgihaelgclaaGreatMakeM
import Derived.Test.YtlcmgihaelgclaaGreatDrawS
namespace Go.Proofs.YtlcmgihaelgclaaGreat
open Go.ChangeShapes Go.WideShapes Go.ChangeAt Go.RowKit
set_option linter.unusedVariables false

def zeroT (l : Nat) : Obj := .cells ((List.replicate l (0 : Int)).map (Value.int .i64)).toArray 2

theorem make_zT (l : Nat) (n : Int) (h : n = l) (hl : l ≤ 1048576) (w : World) :
    (Instr.makeSlice 24 (.int .i64 n) (.int .i64 n)).run Tryz.prog w = .ok (.slice (some ⟨w.heap.size, 0, none⟩) l l) (w.alloc (zeroT l)) := by
  subst h; exact make_ints l hl w

theorem Blk.newT (w : World) (l : Nat) : Blk (w.alloc (zeroT l)) w.heap.size (List.replicate l 0) := Blk.new w (List.replicate l 0)

theorem Ints.butT {w w' : World} {a : Option Addr} {l B : Nat} {xs : List Int} (h : Ints w a l xs) (ho : But B w w') (hne : ∀ x, a = some x → x.block ≠ B) : Ints w' a l xs := by
  have hlt := h.lt
  obtain ⟨h1, h2, h3⟩ := h
  refine ⟨h1, h2, ?_⟩
  rcases h3 with h0 | ⟨b, off, rfl, hc⟩
  · exact .inl h0
  · by_cases hl : l = 0
    · exact .inl hl
    · exact .inr ⟨b, off, rfl, fun i hi => by rw [ho.cell (p := ⟨b, off + i, none⟩) (hlt ⟨b, off, none⟩ rfl (by omega)) (hne ⟨b, off, none⟩ rfl)]; exact hc i hi⟩

/-- its shape, what it reads as, and where it lies -/
theorem OwnI.intsT {base : Nat} {w : World} {v : Value} {xs : List Int} (h : OwnI base w v xs) (hm : xs.length ≤ 4096) : ∃ a c, v = .slice a xs.length c ∧ Ints w a xs.length xs ∧ ∀ x, a = some x → base ≤ x.block := by
  have hh := h
  obtain ⟨h0, ⟨rfl, hn⟩ | ⟨g, cap, cur, rfl, hg, hb, r⟩⟩ := h
  · rw [hn]
    exact ⟨none, 0, rfl, ⟨by simpa using hn, by omega, .inl rfl⟩, fun x hx => by cases hx⟩
  · refine ⟨_, cap, rfl, ⟨rfl, by omega, .inr ⟨g, 0, rfl, fun i hi => ?_⟩⟩, fun x hx => by cases hx; exact hg⟩
    rw [Nat.zero_add, hh.cellAt i (by omega)]
    simp [List.getD, hi]

theorem But.low {B : Nat} {w w1 w2 : World} (h : But B w w1) (k : Below w.heap.size w1 w2) : But B w w2 :=
  ⟨k.os.trans h.os, k.tape.trans h.tape, k.output.trans h.output, Nat.le_trans h.size k.size, fun i hi hb => (k.block i hi).trans (h.block i hi hb)⟩

/-- rates of a draw: a list of the call's own -/
def RatesPost (B : Nat) (a : Option Addr) (l c : Nat) (z : List Int) (w : World) (e : Ending) (w' : World) : Prop :=
  ∃ v xs, e = .returned v ∧ OwnI w.heap.size w' v xs ∧ xs.length ≤ 25 ∧ (∀ r ∈ xs, 0 ≤ r ∧ r ≤ 1000) ∧ But B w w' ∧ Ready B a l c z w'

theorem all_snocR {xs : List Int} {y : Int} (h : ∀ r ∈ xs, 0 ≤ r ∧ r ≤ 1000) (h0 : 0 ≤ y) (h1 : y ≤ 1000) : ∀ r ∈ xs ++ [y], 0 ≤ r ∧ r ≤ 1000 := by
  intro r hr
  rcases List.mem_append.1 hr with hr | hr
  · exact h r hr
  · rw [List.mem_singleton] at hr; subst hr; exact ⟨h0, h1⟩

set_option maxRecDepth 100000 in
set_option maxHeartbeats 2000000 in
theorem drates (B : Nat) (a : Option Addr) (l c : Nat) (z : List Int) (w : World) (h : Ready B a l c z w) : Calls Tryz.prog 81 #[.pointer (some ⟨B, 0, none⟩)] w (RatesPost B a l c z w) := by
  have hB := h.here
  have HS := Lib.hid h
  have hown0 := ownI_new w
  clear h
  go_enter Tryz.func81, Tryz.ntmps81
  go_wp2_with fail
  refine (next_r _ _ _ _ _ _ _ (HS.out.alloc _)).mono ?_
  rintro e w1 ⟨q, rfl, hd, ho, hs⟩
  have hq := drawn_bd hd (by omega)
  have hown := hown0.but ho hB
  have HB := Lib.hid ((But.alloc _).trans ho)
  have HS := Lib.hid hs
  clear hd ho hs hown0
  go_wp2_with fail
  refine (next_r _ _ _ _ _ _ _ HS.out).mono ?_
  rintro e w2 ⟨r, rfl, hd, ho, hs⟩
  have hr := drawn_bd hd (by omega)
  have hown := hown.but ho hB
  have HB := Lib.hid (HB.out.trans ho)
  have HS := Lib.hid hs
  clear hd ho hs
  go_wp2_with fail
  go_loopw [3, 4, 5] (fun v t i wr => ∃ (n rt : Int) (xs : List Int), i = .int .i64 n ∧ t = .int .i64 rt ∧ 0 ≤ n ∧ xs.length + n ≤ 25 ∧ 0 ≤ rt ∧ rt ≤ 20 + 30 * (25 - n) ∧ OwnI w.heap.size wr v xs ∧ Hid (∀ r ∈ xs, 0 ≤ r ∧ r ≤ 1000) ∧ Hid (Ready B a l c z wr) ∧ Hid (But B w wr)) (fun _ _ i _ => (intOf i).toNat)
  case atStart => exact ⟨1 + r, q, [], rfl, rfl, by omega, by simp; omega, hq.1, by omega, hown, Lib.hid (by simp), HS, HB⟩
  case round =>
    obtain ⟨n, rt, xs, rfl, rfl, hn0, hn25, h0, h1, hown, HA, HS, HB⟩ := hrel
    have hsz := HB.out.size
    by_cases hn : 0 < n
    · have hq : rt < 1000 := by omega
      have HA := Lib.hid (all_snocR HA.out h0 (by omega))
      go_wp2_with (at_builtin; refine wpList_app rfl _ _ rfl w.heap.size _ xs rt rfl (hown.alloc _) ⟨wr.heap.size, 0, none⟩ rfl (one_newT wr rt) (by omega) (by simp; omega) ?_)
      intro v' w5 hO hg hw
      have hbel := Lib.hid (((Below.refl w.heap.size wr).alloc hsz _).grown hg (by simp; omega) fun k hk => (World.ownsRow.lt hown k hk).1)
      have hown := hO
      have HS := Lib.hid (HS.out.below hbel.out hB)
      have HB := Lib.hid (HB.out.low hbel.out)
      clear hO hg hw hbel
      go_wp2_with fail
      refine (next_r _ _ _ _ _ _ _ HS.out).mono ?_
      rintro e w6 ⟨y, rfl, hd, ho, hs⟩
      have hy := drawn_bd hd (by omega)
      have hown := hown.but ho hB
      have HB := Lib.hid (HB.out.trans ho)
      have HS := Lib.hid hs
      clear hd ho hs
      have HO := Lib.hid hown
      clear hown
      go_wp2_with fail
      go_roundw
      case rel => exact ⟨n - 1, rt + y, xs ++ [rt], by go_num, by go_num, by omega, by simp; omega, by omega, by omega, HO.out, HA, HS, HB⟩
      case measure => simp [intOf]; omega
    · obtain rfl : n = 0 := by omega
      have HO := Lib.hid hown
      clear hown
      go_wp2_with fail
      go_ret
      exact ⟨_, xs, rfl, HO.out, by omega, HA.out, HB.out, HS.out⟩

def MtPost (w : World) (e : Ending) (w' : World) : Prop := ∃ f L a l c xs, e = .returned (.tuple #[.int .i64 f, .int .i64 L, .slice a l c]) ∧ Ints w' a l xs ∧ l ≤ 4096 ∧ Below w.heap.size w w'

end Go.Proofs.YtlcmgihaelgclaaGreat
