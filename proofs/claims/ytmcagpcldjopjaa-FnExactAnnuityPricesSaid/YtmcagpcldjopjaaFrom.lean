/- The source of drawn numbers of the model's draws: how it begins, and one of some numbers. -/
import Derived.Test.YtmcagpcldjopjaaSrc
namespace Go.Proofs.Ytmcagpcldjopjaa
open Go.ChangeShapes Go.WideShapes Go.ChangeAt Go.RowKit
set_option linter.unusedVariables false

def FromPost (a : Option Addr) (l c : Nat) (w : World) (e : Ending) (w' : World) : Prop :=
  e = .returned (.pointer (some ⟨w.heap.size, 0, none⟩)) ∧ IsSrc w.heap.size a l c w' ∧ w'.heap.size = w.heap.size + 1 ∧ Below w.heap.size w w'

theorem from_any (a : Option Addr) (l c : Nat) (z : List Int) (w : World) (hr : IsRow .u8 w a l c z) :
    Calls Try.prog 53 #[.slice a l c] w (FromPost a l c w) := by
  have ha := Lib.hid hr.apart
  have hm := hr.len_le
  unfold maxLen at hm
  have HR := Lib.hid hr
  clear hr
  go_enter Try.func53, Try.ntmps53
  go_wp2
  have SA : Src w.heap.size a l c 0 25001 (w.alloc (.cells #[.slice a l c, .int .i64 0, .int .i64 25001] 97)) := by
    constructor <;> first | omega | (simp; done) | go_simp
  have OA := Lib.hid SA
  clear SA
  go_loopw [4] (fun i wr => ∃ (k : Nat) (x : Int), k ≤ l ∧ k ≤ 64 ∧ i = .int .i64 k ∧ Hid (Src w.heap.size a l c 0 x wr) ∧ Hid (Only w.heap.size (w.alloc (.cells #[.slice a l c, .int .i64 0, .int .i64 25001] 97)) wr)) (fun i _ => 64 - (intOf i).toNat)
  case atStart => exact ⟨0, 25001, Nat.zero_le _, Nat.zero_le _, rfl, OA, Lib.hid (Only.refl _ _)⟩
  case round =>
    obtain ⟨k, x, hk, hk2, rfl, HS, HO⟩ := hrel
    by_cases hlt : k < l
    · by_cases h64 : k < 64
      · rcases HR.out with ⟨_, rfl, _, _⟩ | ⟨p, rfl, hl, hc, hz, hcell, hwf⟩
        · omega
        obtain ⟨b, off, rfl, hcl⟩ := ints_at hcell (by omega)
        have hbB : b < w.heap.size := ha.out _ rfl (by omega)
        have cz := hcl k (by omega)
        have rz := range_u8 hwf k
        obtain ⟨v, hv⟩ : ∃ v, z.getD k 0 = v := ⟨_, rfl⟩
        have rz0 : 0 ≤ v ∧ v ≤ 255 := by rw [← hv]; simpa [List.getD] using rz
        rw [hv] at cz
        obtain ⟨v0, v1⟩ := rz0
        have cy : wr.cell? ⟨b, off + k, none⟩ = some (.int .u8 v) := by
          rw [HO.out.cell (p := ⟨b, off + k, none⟩) (by simp; omega), World.cell?_alloc_lt _ _ _ hbB]; exact cz
        have c2 := HS.out.seed
        have f2 := HS.out.free2
        have x0 := HS.out.x0
        have xl := HS.out.xl
        have hne : b ≠ w.heap.size := by omega
        clear hcell hcl hv hwf rz cz
        obtain ⟨y, hy⟩ : ∃ y, (x * 71 + v) % 2147483647 = y := ⟨_, rfl⟩
        have y0 : 0 ≤ y := by omega
        have yl : y < 2147483647 := by omega
        go_wp2
        go_region
        all_goals
          go_wp2
          go_roundw
          case rel => exact ⟨k + 1, y, by omega, by omega, by go_num, Lib.hid (by first | exact (HS.out.put2 y0 yl).drew | exact (HS.out.drew.put2 y0 yl) | exact (HS.out.put2 y0 yl)), Lib.hid (by first | exact (HO.out.setCell (p := ⟨w.heap.size, 2, none⟩) rfl _).drew | exact (HO.out.drew.setCell (p := ⟨w.heap.size, 2, none⟩) rfl _))⟩
          case measure => simp [intOf]; omega
      · go_wp2
        go_ret
        exact ⟨rfl, ⟨_, _, HS.out⟩, HO.out.size.trans (by simp), ((Below.refl _ _).alloc (Nat.le_refl _) _).trans (HO.out.below (Nat.le_refl _))⟩
    · go_wp2
      go_ret
      exact ⟨rfl, ⟨_, _, HS.out⟩, HO.out.size.trans (by simp), ((Below.refl _ _).alloc (Nat.le_refl _) _).trans (HO.out.below (Nat.le_refl _))⟩

theorem drawn_bd {n r : Int} (h : Drawn n r) (hn : 1 ≤ n) : 0 ≤ r ∧ r < n := by
  obtain ⟨h1, h2⟩ := h
  by_cases h : 1 < n
  · exact h1 h
  · have := h2 (by omega); omega

/-- one of the numbers zs (the draw gives the index) -/
def PickPost (B : Nat) (a : Option Addr) (l c : Nat) (zs : List Int) (w : World) (e : Ending) (w' : World) : Prop :=
  ∃ r, e = .returned (.int .i64 r) ∧ r ∈ zs ∧ Only B w w' ∧ IsSrc B a l c w'

theorem pick_any (B L : Nat) (a : Option Addr) (l c m : Nat) (z zs : List Int) (w : World) (hs : IsSrc B a l c w) (hr : IsRow .u8 w a l c z) (ha : Apart a z B)
    (hL : L ≠ B) (hz : zs.length = m) (hm0 : 0 < m) (hm1 : m < 1000) (hcell : ∀ i, i < m → w.cell? ⟨L, i, none⟩ = some (.int .i64 (zs.getD i 0))) :
    Calls Try.prog 58 #[.pointer (some ⟨B, 0, none⟩), .slice (some ⟨L, 0, none⟩) m m] w (PickPost B a l c zs w) := by
  have HA := Lib.hid ha
  have HR := Lib.hid hr
  have HC := Lib.hid hcell
  have HZ := Lib.hid hz
  clear ha hr hcell hz
  go_enter Try.func58, Try.ntmps58
  go_wp2_with (go_at_call 55; go_must (refine (next_any B a l c z _ _ hs HR.out HA.out).mono ?_; rintro e w' ⟨r, rfl, hd, ho, hs'⟩; have hr := drawn_bd hd (by omega);  obtain ⟨j, rfl⟩ := Int.eq_ofNat_of_zero_le hr.1; have hj : j < m := (by omega); clear hr; have hc' : w'.cell? ⟨L, j, none⟩ = some (.int .i64 (zs.getD j 0)) := (ho.cell (p := ⟨L, j, none⟩) hL).trans (HC.out j hj); have HO := Lib.hid ho; have HS := Lib.hid hs'; clear ho hs' hd))
  go_ret
  exact ⟨_, rfl, by rw [List.getElem?_eq_getElem (by rw [HZ.out]; assumption)]; simp, HO.out, HS.out⟩

end Go.Proofs.Ytmcagpcldjopjaa
