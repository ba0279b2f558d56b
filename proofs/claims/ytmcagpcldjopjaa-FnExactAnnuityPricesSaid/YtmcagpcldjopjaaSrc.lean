/- The source of drawn numbers of the model's draws: what one call of it does (a number in a range; only its own block turns). -/
import Derived.Test.YtmcagpcldjopjaaBase
namespace Go.Proofs.Ytmcagpcldjopjaa
open Go.ChangeShapes Go.WideShapes Go.ChangeAt Go.RowKit
set_option linter.unusedVariables false

/-- a number that a draw gives -/
def Drawn (n r : Int) : Prop := (1 < n → 0 ≤ r ∧ r < n) ∧ (n ≤ 1 → r = 0)

/-- Block B holds a source over the code (a, l, c): its three cells. -/
structure Src (B : Nat) (a : Option Addr) (l c : Nat) (t x : Int) (w : World) : Prop where
  here : B < w.heap.size
  code : w.cell? ⟨B, 0, none⟩ = some (.slice a l c)
  att : w.cell? ⟨B, 1, none⟩ = some (.int .i64 t)
  seed : w.cell? ⟨B, 2, none⟩ = some (.int .i64 x)
  free0 : w.frozen? ⟨B, 0, none⟩ = false
  free1 : w.frozen? ⟨B, 1, none⟩ = false
  free2 : w.frozen? ⟨B, 2, none⟩ = false
  t0 : 0 ≤ t
  tl : t ≤ l
  x0 : 0 ≤ x
  xl : x < 2147483647

theorem Src.put2 {B l c : Nat} {a : Option Addr} {t x y : Int} {w : World} (S : Src B a l c t x w) (h0 : 0 ≤ y) (h1 : y < 2147483647) : Src B a l c t y (w.setCell ⟨B, 2, none⟩ (.int .i64 y)) where
  here := by simpa [World.setCell] using S.here
  code := by rw [World.cell?_setCell_other _ _ _ _ (by simp)]; exact S.code
  att := by rw [World.cell?_setCell_other _ _ _ _ (by simp)]; exact S.att
  seed := World.cell?_setCell_same' _ _ _ (by rw [S.seed]; rfl)
  free0 := by rw [World.frozen?_setCell]; exact S.free0
  free1 := by rw [World.frozen?_setCell]; exact S.free1
  free2 := by rw [World.frozen?_setCell]; exact S.free2
  t0 := S.t0
  tl := S.tl
  x0 := h0
  xl := h1

theorem Src.put1 {B l c : Nat} {a : Option Addr} {t x u : Int} {w : World} (S : Src B a l c t x w) (h0 : 0 ≤ u) (h1 : u ≤ l) : Src B a l c u x (w.setCell ⟨B, 1, none⟩ (.int .i64 u)) where
  here := by simpa [World.setCell] using S.here
  code := by rw [World.cell?_setCell_other _ _ _ _ (by simp)]; exact S.code
  att := World.cell?_setCell_same' _ _ _ (by rw [S.att]; rfl)
  seed := by rw [World.cell?_setCell_other _ _ _ _ (by simp)]; exact S.seed
  free0 := by rw [World.frozen?_setCell]; exact S.free0
  free1 := by rw [World.frozen?_setCell]; exact S.free1
  free2 := by rw [World.frozen?_setCell]; exact S.free2
  t0 := h0
  tl := h1
  x0 := S.x0
  xl := S.xl

theorem Src.drewN {B l c : Nat} {a : Option Addr} {t x : Int} {w : World} (S : Src B a l c t x w) (n : Nat) : Src B a l c t x (w.drewN n) :=
  ⟨S.here, S.code, S.att, S.seed, S.free0, S.free1, S.free2, S.t0, S.tl, S.x0, S.xl⟩

theorem Src.drew {B l c : Nat} {a : Option Addr} {t x : Int} {w : World} (S : Src B a l c t x w) : Src B a l c t x w.drew :=
  ⟨S.here, S.code, S.att, S.seed, S.free0, S.free1, S.free2, S.t0, S.tl, S.x0, S.xl⟩

theorem drawn_mod (v n : Int) (hn : 1 < n) : Drawn n (v % n) :=
  ⟨fun _ => ⟨Int.emod_nonneg _ (by omega), Int.emod_lt_of_pos _ (by omega)⟩, fun h => by omega⟩

def IsSrc (B : Nat) (a : Option Addr) (l c : Nat) (w : World) : Prop := ∃ t x, Src B a l c t x w

def NextPost (B : Nat) (a : Option Addr) (l c : Nat) (n : Int) (w : World) (e : Ending) (w' : World) : Prop :=
  ∃ r, e = .returned (.int .i64 r) ∧ Drawn n r ∧ Only B w w' ∧ IsSrc B a l c w'

theorem next_any (B : Nat) (a : Option Addr) (l c : Nat) (z : List Int) (n : Int) (w : World) (hs : IsSrc B a l c w) (hr : IsRow .u8 w a l c z) (ha : Apart a z B) :
    Calls Try.prog 55 #[.pointer (some ⟨B, 0, none⟩), .int .i64 n] w (NextPost B a l c n w) := by
  obtain ⟨t, x, S⟩ := hs
  by_cases hn : n ≤ 1
  · go_enter Try.func55, Try.ntmps55
    go_wp2
    go_ret
    exact ⟨0, rfl, ⟨fun h => by omega, fun _ => rfl⟩, Only.refl _ _, t, x, S⟩
  · have c0 := S.code
    have c1 := S.att
    have c2 := S.seed
    have f1 := S.free1
    have f2 := S.free2
    have t0 := S.t0
    have tl := S.tl
    have x0 := S.x0
    have xl := S.xl
    have SS := Lib.hid S
    clear S
    have hm := hr.len_le
    unfold maxLen at hm
    obtain ⟨y, hy⟩ : ∃ y, (x * 48271 + 71) % 2147483647 = y := ⟨_, rfl⟩
    have y0 : 0 ≤ y := by omega
    have yl : y < 2147483647 := by omega
    by_cases hlt : t < l
    · rcases hr with ⟨_, rfl, _, _⟩ | ⟨p, rfl, hl, hc, hz, hcell, hwf⟩
      · omega
      obtain ⟨b, off, rfl, hcl⟩ := ints_at hcell (by omega)
      have hbB : b < B := ha _ rfl (by omega)
      clear ha
      have cz := hcl t.toNat (by omega)
      have rz := range_u8 hwf t.toNat
      obtain ⟨v, hv⟩ : ∃ v, z.getD t.toNat 0 = v := ⟨_, rfl⟩
      have rz0 : 0 ≤ v ∧ v ≤ 255 := by rw [← hv]; simpa [List.getD] using rz
      rw [hv] at cz
      obtain ⟨v0, v1⟩ := rz0
      obtain ⟨k, rfl⟩ := Int.eq_ofNat_of_zero_le t0
      have HH := Lib.hid hcell
      have HC := Lib.hid hcl
      have HV := Lib.hid hv
      have HY := Lib.hid hwf
      clear hcell hcl hv hwf rz
      have hne : b ≠ B := by omega
      simp only [Int.toNat_natCast] at cz
      have gd : Only B w ((w.setCell ⟨B, 2, none⟩ (.int .i64 y))) := (Only.refl B w).setCell (p := ⟨B, 2, none⟩) rfl _
      have GD := Lib.hid gd
      clear gd
      have SD : Hid (∀ m, Src B (some ⟨b, off, none⟩) l c ((k : Int) + 1) y (((w.setCell ⟨B, 2, none⟩ (.int .i64 y)).drewN m).setCell ⟨B, 1, none⟩ (.int .i64 ((k : Int) + 1)))) :=
        Lib.hid fun m => ((SS.out.put2 y0 yl).drewN m).put1 (by omega) (by omega)
      have OD : Hid (∀ m, Only B w (((w.setCell ⟨B, 2, none⟩ (.int .i64 y)).drewN m).setCell ⟨B, 1, none⟩ (.int .i64 ((k : Int) + 1)))) :=
        Lib.hid fun m => (GD.out.drewN m).setCell (p := ⟨B, 1, none⟩) rfl _
      by_cases h256 : n ≤ 256
      · by_cases hev : ((k : Int) + 1) % 2 = 0
        · have he : (((k : Int) + 1) % 2 == 0) = true := by simpa using hev
          have HE := Lib.hid hev
          clear hev
          go_enter Try.func55, Try.ntmps55
          go_wp2
          go_quiet (fail)
          go_wp2
          go_quiet (fail)
          go_wp2
          go_quiet (fail)
          go_wp2
          go_ret
          exact ⟨v % n, rfl, drawn_mod _ _ (by omega), (OD.out _).drewN _, _, _, (SD.out _).drewN _⟩
        · have he : (((k : Int) + 1) % 2 == 0) = false := by simpa using hev
          have HE := Lib.hid hev
          clear hev
          go_enter Try.func55, Try.ntmps55
          go_wp2
          go_quiet (fail)
          go_wp2
          go_quiet (fail)
          go_wp2
          go_ret
          exact ⟨(y / 41 + v) % n, rfl, drawn_mod _ _ (by omega), OD.out _, _, _, SD.out _⟩
      · go_enter Try.func55, Try.ntmps55
        go_wp2
        go_quiet (fail)
        go_wp2
        go_quiet (fail)
        go_wp2
        go_ret
        exact ⟨(y / 41 + v) % n, rfl, drawn_mod _ _ (by omega), OD.out _, _, _, SD.out _⟩
    · go_enter Try.func55, Try.ntmps55
      go_wp2
      go_quiet (fail)
      go_wp2
      go_ret
      refine ⟨y / 41 % n, rfl, drawn_mod _ _ (by omega), ?_, t, y, ?_⟩
      · exact (((Only.refl B w).setCell (p := ⟨B, 2, none⟩) rfl _).drewN _)
      · exact ((SS.out.put2 y0 yl).drewN _)

end Go.Proofs.Ytmcagpcldjopjaa
