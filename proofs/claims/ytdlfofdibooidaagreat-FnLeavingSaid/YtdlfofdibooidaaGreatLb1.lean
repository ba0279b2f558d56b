/- Merged: Base, Src, Nums. -/
import Derived.Test.YtdlfofdibooidaaGreatChecked
import Derived.WalkKit
import Derived.ProofKit
import Derived.OpenShut
import Derived.Lib.Hide
import Derived.IntWalk
import Derived.LoopTactic
import Derived.RegionTactic
import Derived.Deep.QuietTactic
import Derived.BigQuiet
import Derived.Outline
import Derived.WalkSmall
import Derived.Below
import Derived.WalkSpells
import Derived.OwnWalk

/- Small words for the walks: a row of integers that came in; a world of which one block alone has turned. -/
namespace Go.Proofs.YtdlfofdibooidaaGreat
open Go.ChangeShapes Go.WideShapes Go.ChangeAt Go.RowKit
set_option linter.unusedVariables false

/-- A slice of integers that came in: nil; or a row of cells. -/
def IsRow (k : IntKind) (w : World) (a : Option Addr) (len cap : Nat) (zs : List Int) : Prop :=
  (a = none ∧ len = 0 ∧ cap = 0 ∧ zs = []) ∨
  ∃ x, a = some x ∧ len ≤ cap ∧ cap ≤ maxLen ∧ zs.length = cap ∧ (∀ i, i < zs.length → w.cell? (x.add i) = some (.int k (zs.getD i 0))) ∧ ∀ n ∈ zs, (Lit.int k n).wf = true

/-- Only block B has turned: the streams, the number of blocks and every other block are as they were. -/
structure Only (B : Nat) (w w' : World) : Prop where
  os : w'.os = w.os
  tape : w'.tape = w.tape
  output : w'.output = w.output
  size : w'.heap.size = w.heap.size
  block : ∀ k, k ≠ B → w'.heap[k]? = w.heap[k]?

theorem Only.refl (B : Nat) (w : World) : Only B w w := ⟨rfl, rfl, rfl, rfl, fun _ _ => rfl⟩

theorem Only.trans {B : Nat} {a b c : World} (h : Only B a b) (k : Only B b c) : Only B a c :=
  ⟨k.os.trans h.os, k.tape.trans h.tape, k.output.trans h.output, k.size.trans h.size, fun i hi => (k.block i hi).trans (h.block i hi)⟩

theorem Only.drew {B : Nat} {a w : World} (h : Only B a w) : Only B a w.drew := ⟨h.os, h.tape, h.output, h.size, h.block⟩

theorem Only.drewN {B : Nat} {a w : World} (h : Only B a w) (n : Nat) : Only B a (w.drewN n) := ⟨h.os, h.tape, h.output, h.size, h.block⟩

theorem Only.setCell {B : Nat} {a w : World} (h : Only B a w) {p : Addr} (hp : p.block = B) (u : Value) : Only B a (w.setCell p u) :=
  h.trans ⟨rfl, rfl, rfl, by simp [World.setCell], fun k hk => Below.heap_setCell _ _ _ _ (by omega)⟩

theorem Only.below {A B : Nat} {w w' : World} (h : Only B w w') (hA : A ≤ B) : Below A w w' :=
  ⟨h.os, h.tape, h.output, by rw [h.size]; exact Nat.le_refl _, fun k hk => h.block k (by omega)⟩

theorem Only.cell {B : Nat} {w w' : World} (h : Only B w w') {p : Addr} (hp : p.block ≠ B) : w'.cell? p = w.cell? p := World.cell?_of_block (w := w) (h.block p.block hp)

theorem Only.frozen {B : Nat} {w w' : World} (h : Only B w w') {p : Addr} (hp : p.block ≠ B) : w'.frozen? p = w.frozen? p := World.frozen?_of_block (w := w) (h.block p.block hp)

/-- the row's cells lie in no block from B on -/
def Apart (a : Option Addr) (zs : List Int) (B : Nat) : Prop := ∀ x, a = some x → 0 < zs.length → x.block < B

theorem add_block (x : Addr) (i : Nat) : (x.add i).block = x.block := by
  unfold Addr.add; split <;> rfl

theorem IsRow.below {k : IntKind} {w w' : World} {a : Option Addr} {l c B : Nat} {zs : List Int} (h : IsRow k w a l c zs) (hb : Below B w w') (ha : Apart a zs B) : IsRow k w' a l c zs := by
  rcases h with ⟨h1, h2, h3, h4⟩ | ⟨x, rfl, h2, h3, h4, h5, h6⟩
  · exact .inl ⟨h1, h2, h3, h4⟩
  · exact .inr ⟨x, rfl, h2, h3, h4, fun i hi => by rw [hb.cell (p := x.add i) (by rw [add_block]; exact ha x rfl (by omega))]; exact h5 i hi, h6⟩

theorem IsRow.len_le {k : IntKind} {w : World} {a : Option Addr} {l c : Nat} {zs : List Int} (h : IsRow k w a l c zs) : l ≤ zs.length ∧ l ≤ c ∧ c ≤ maxLen := by
  rcases h with ⟨_, rfl, rfl, rfl⟩ | ⟨x, _, h2, h3, h4, _, _⟩
  · exact ⟨Nat.zero_le _, Nat.zero_le _, Nat.zero_le _⟩
  · exact ⟨by omega, h2, h3⟩

theorem block_lt {w : World} {p : Addr} {v : Value} (h : w.cell? p = some v) : p.block < w.heap.size := by
  by_cases hb : p.block < w.heap.size
  · exact hb
  · exfalso
    have : w.heap[p.block]? = none := by simp; omega
    simp [World.cell?, this] at h

theorem IsRow.apart {k : IntKind} {w : World} {a : Option Addr} {l c : Nat} {zs : List Int} (h : IsRow k w a l c zs) : Apart a zs w.heap.size := by
  rcases h with ⟨rfl, _, _, _⟩ | ⟨x, rfl, h2, h3, h4, h5, h6⟩
  · intro x hx; simp at hx
  · intro y hy hp
    obtain rfl : x = y := by simpa using hy
    have := block_lt (h5 0 hp)
    rwa [add_block] at this

theorem Apart.mono {a : Option Addr} {zs : List Int} {B C : Nat} (h : Apart a zs B) (hc : B ≤ C) : Apart a zs C := fun x hx hp => Nat.lt_of_lt_of_le (h x hx hp) hc

theorem ret_bool {a b : Bool} (h : a = b) : Ending.returned (.bool a) = .returned (.bool b) := by rw [h]

theorem ret_int {k : IntKind} {a b : Int} (h : a = b) : Ending.returned (.int k a) = .returned (.int k b) := by rw [h]

theorem ret_ii {a b c d : Int} (h : a = c) (g : b = d) : Ending.returned (.tuple #[.int .i64 a, .int .i64 b]) = .returned (.tuple #[.int .i64 c, .int .i64 d]) := by rw [h, g]

end Go.Proofs.YtdlfofdibooidaaGreat

/- The source of drawn numbers of the model's draws: what one call of it does (a number in a range; only its own block turns). | The source of drawn numbers of the model's draws: how it begins, and one of some numbers. | The model's draws of numbers: each gives numbers in their bounds, writes into its own source alone and makes new memory. | The draws of chapter 1's numbers: two integers each, out of whatever code. -/
namespace Go.Proofs.YtdlfofdibooidaaGreat
open Go.ChangeShapes Go.WideShapes Go.ChangeAt Go.RowKit
set_option linter.unusedVariables false

/-- a number that a draw gives -/
def Drawn (n r : Int) : Prop := (1 < n → 0 ≤ r ∧ r < n) ∧ (n ≤ 1 → r = 0)

/-- Block B holds a source over the code (a, l, c): its three cells. -/
structure Src (B : Nat) (a : Option Addr) (l c : Nat) (t x : Int) (w : World) : Prop where
  here : B < w.heap.size
  code : w.cell? ⟨B, 0, none⟩ = some (.slice a l c)
  att : w.cell? ⟨B, 1, none⟩ = some (.int .i64 t)
  seed : w.cell? ⟨B, 2, none⟩ = some (.int .i64 x)
  free0 : w.frozen? ⟨B, 0, none⟩ = false
  free1 : w.frozen? ⟨B, 1, none⟩ = false
  free2 : w.frozen? ⟨B, 2, none⟩ = false
  t0 : 0 ≤ t
  tl : t ≤ l
  x0 : 0 ≤ x
  xl : x < 2147483647

theorem Src.put2 {B l c : Nat} {a : Option Addr} {t x y : Int} {w : World} (S : Src B a l c t x w) (h0 : 0 ≤ y) (h1 : y < 2147483647) : Src B a l c t y (w.setCell ⟨B, 2, none⟩ (.int .i64 y)) where
  here := by simpa [World.setCell] using S.here
  code := by rw [World.cell?_setCell_other _ _ _ _ (by simp)]; exact S.code
  att := by rw [World.cell?_setCell_other _ _ _ _ (by simp)]; exact S.att
  seed := World.cell?_setCell_same' _ _ _ (by rw [S.seed]; rfl)
  free0 := by rw [World.frozen?_setCell]; exact S.free0
  free1 := by rw [World.frozen?_setCell]; exact S.free1
  free2 := by rw [World.frozen?_setCell]; exact S.free2
  t0 := S.t0
  tl := S.tl
  x0 := h0
  xl := h1

theorem Src.put1 {B l c : Nat} {a : Option Addr} {t x u : Int} {w : World} (S : Src B a l c t x w) (h0 : 0 ≤ u) (h1 : u ≤ l) : Src B a l c u x (w.setCell ⟨B, 1, none⟩ (.int .i64 u)) where
  here := by simpa [World.setCell] using S.here
  code := by rw [World.cell?_setCell_other _ _ _ _ (by simp)]; exact S.code
  att := World.cell?_setCell_same' _ _ _ (by rw [S.att]; rfl)
  seed := by rw [World.cell?_setCell_other _ _ _ _ (by simp)]; exact S.seed
  free0 := by rw [World.frozen?_setCell]; exact S.free0
  free1 := by rw [World.frozen?_setCell]; exact S.free1
  free2 := by rw [World.frozen?_setCell]; exact S.free2
  t0 := h0
  tl := h1
  x0 := S.x0
  xl := S.xl

theorem Src.drewN {B l c : Nat} {a : Option Addr} {t x : Int} {w : World} (S : Src B a l c t x w) (n : Nat) : Src B a l c t x (w.drewN n) :=
  ⟨S.here, S.code, S.att, S.seed, S.free0, S.free1, S.free2, S.t0, S.tl, S.x0, S.xl⟩

theorem Src.drew {B l c : Nat} {a : Option Addr} {t x : Int} {w : World} (S : Src B a l c t x w) : Src B a l c t x w.drew :=
  ⟨S.here, S.code, S.att, S.seed, S.free0, S.free1, S.free2, S.t0, S.tl, S.x0, S.xl⟩

theorem drawn_mod (v n : Int) (hn : 1 < n) : Drawn n (v % n) :=
  ⟨fun _ => ⟨Int.emod_nonneg _ (by omega), Int.emod_lt_of_pos _ (by omega)⟩, fun h => by omega⟩

def IsSrc (B : Nat) (a : Option Addr) (l c : Nat) (w : World) : Prop := ∃ t x, Src B a l c t x w

def NextPost (B : Nat) (a : Option Addr) (l c : Nat) (n : Int) (w : World) (e : Ending) (w' : World) : Prop :=
  ∃ r, e = .returned (.int .i64 r) ∧ Drawn n r ∧ Only B w w' ∧ IsSrc B a l c w'

theorem next_any (B : Nat) (a : Option Addr) (l c : Nat) (z : List Int) (n : Int) (w : World) (hs : IsSrc B a l c w) (hr : IsRow .u8 w a l c z) (ha : Apart a z B) :
    Calls Tryz.prog 58 #[.pointer (some ⟨B, 0, none⟩), .int .i64 n] w (NextPost B a l c n w) := by
  obtain ⟨t, x, S⟩ := hs
  by_cases hn : n ≤ 1
  · go_enter Tryz.func58, Tryz.ntmps58
    go_wp2
    go_ret
    exact ⟨0, rfl, ⟨fun h => by omega, fun _ => rfl⟩, Only.refl _ _, t, x, S⟩
  · have c0 := S.code
    have c1 := S.att
    have c2 := S.seed
    have f1 := S.free1
    have f2 := S.free2
    have t0 := S.t0
    have tl := S.tl
    have x0 := S.x0
    have xl := S.xl
    have SS := Lib.hid S
    clear S
    have hm := hr.len_le
    unfold maxLen at hm
    obtain ⟨y, hy⟩ : ∃ y, (x * 48271 + 71) % 2147483647 = y := ⟨_, rfl⟩
    have y0 : 0 ≤ y := by omega
    have yl : y < 2147483647 := by omega
    by_cases hlt : t < l
    · rcases hr with ⟨_, rfl, _, _⟩ | ⟨p, rfl, hl, hc, hz, hcell, hwf⟩
      · omega
      obtain ⟨b, off, rfl, hcl⟩ := ints_at hcell (by omega)
      have hbB : b < B := ha _ rfl (by omega)
      clear ha
      have cz := hcl t.toNat (by omega)
      have rz := range_u8 hwf t.toNat
      obtain ⟨v, hv⟩ : ∃ v, z.getD t.toNat 0 = v := ⟨_, rfl⟩
      have rz0 : 0 ≤ v ∧ v ≤ 255 := by rw [← hv]; simpa [List.getD] using rz
      rw [hv] at cz
      obtain ⟨v0, v1⟩ := rz0
      obtain ⟨k, rfl⟩ := Int.eq_ofNat_of_zero_le t0
      have HH := Lib.hid hcell
      have HC := Lib.hid hcl
      have HV := Lib.hid hv
      have HY := Lib.hid hwf
      clear hcell hcl hv hwf rz
      have hne : b ≠ B := by omega
      simp only [Int.toNat_natCast] at cz
      have gd : Only B w ((w.setCell ⟨B, 2, none⟩ (.int .i64 y))) := (Only.refl B w).setCell (p := ⟨B, 2, none⟩) rfl _
      have GD := Lib.hid gd
      clear gd
      have SD : Hid (∀ m, Src B (some ⟨b, off, none⟩) l c ((k : Int) + 1) y (((w.setCell ⟨B, 2, none⟩ (.int .i64 y)).drewN m).setCell ⟨B, 1, none⟩ (.int .i64 ((k : Int) + 1)))) :=
        Lib.hid fun m => ((SS.out.put2 y0 yl).drewN m).put1 (by omega) (by omega)
      have OD : Hid (∀ m, Only B w (((w.setCell ⟨B, 2, none⟩ (.int .i64 y)).drewN m).setCell ⟨B, 1, none⟩ (.int .i64 ((k : Int) + 1)))) :=
        Lib.hid fun m => (GD.out.drewN m).setCell (p := ⟨B, 1, none⟩) rfl _
      by_cases h256 : n ≤ 256
      · by_cases hev : ((k : Int) + 1) % 2 = 0
        · have he : (((k : Int) + 1) % 2 == 0) = true := by simpa using hev
          have HE := Lib.hid hev
          clear hev
          go_enter Tryz.func58, Tryz.ntmps58
          go_wp2
          go_quiet (fail)
          go_wp2
          go_quiet (fail)
          go_wp2
          go_quiet (fail)
          go_wp2
          go_ret
          exact ⟨v % n, rfl, drawn_mod _ _ (by omega), (OD.out _).drewN _, _, _, (SD.out _).drewN _⟩
        · have he : (((k : Int) + 1) % 2 == 0) = false := by simpa using hev
          have HE := Lib.hid hev
          clear hev
          go_enter Tryz.func58, Tryz.ntmps58
          go_wp2
          go_quiet (fail)
          go_wp2
          go_quiet (fail)
          go_wp2
          go_ret
          exact ⟨(y / 41 + v) % n, rfl, drawn_mod _ _ (by omega), OD.out _, _, _, SD.out _⟩
      · go_enter Tryz.func58, Tryz.ntmps58
        go_wp2
        go_quiet (fail)
        go_wp2
        go_quiet (fail)
        go_wp2
        go_ret
        exact ⟨(y / 41 + v) % n, rfl, drawn_mod _ _ (by omega), OD.out _, _, _, SD.out _⟩
    · go_enter Tryz.func58, Tryz.ntmps58
      go_wp2
      go_quiet (fail)
      go_wp2
      go_ret
      refine ⟨y / 41 % n, rfl, drawn_mod _ _ (by omega), ?_, t, y, ?_⟩
      · exact (((Only.refl B w).setCell (p := ⟨B, 2, none⟩) rfl _).drewN _)
      · exact ((SS.out.put2 y0 yl).drewN _)

def FromPost (a : Option Addr) (l c : Nat) (w : World) (e : Ending) (w' : World) : Prop :=
  e = .returned (.pointer (some ⟨w.heap.size, 0, none⟩)) ∧ IsSrc w.heap.size a l c w' ∧ w'.heap.size = w.heap.size + 1 ∧ Below w.heap.size w w'

theorem from_any (a : Option Addr) (l c : Nat) (z : List Int) (w : World) (hr : IsRow .u8 w a l c z) :
    Calls Tryz.prog 34 #[.slice a l c] w (FromPost a l c w) := by
  have ha := Lib.hid hr.apart
  have hm := hr.len_le
  unfold maxLen at hm
  have HR := Lib.hid hr
  clear hr
  go_enter Tryz.func34, Tryz.ntmps34
  go_wp2
  have SA : Src w.heap.size a l c 0 25001 (w.alloc (.cells #[.slice a l c, .int .i64 0, .int .i64 25001] 87)) := by
    constructor <;> first | omega | (simp; done) | go_simp
  have OA := Lib.hid SA
  clear SA
  go_loopw [4] (fun i wr => ∃ (k : Nat) (x : Int), k ≤ l ∧ k ≤ 64 ∧ i = .int .i64 k ∧ Hid (Src w.heap.size a l c 0 x wr) ∧ Hid (Only w.heap.size (w.alloc (.cells #[.slice a l c, .int .i64 0, .int .i64 25001] 87)) wr)) (fun i _ => 64 - (intOf i).toNat)
  case atStart => exact ⟨0, 25001, Nat.zero_le _, Nat.zero_le _, rfl, OA, Lib.hid (Only.refl _ _)⟩
  case round =>
    obtain ⟨k, x, hk, hk2, rfl, HS, HO⟩ := hrel
    by_cases hlt : k < l
    · by_cases h64 : k < 64
      · rcases HR.out with ⟨_, rfl, _, _⟩ | ⟨p, rfl, hl, hc, hz, hcell, hwf⟩
        · omega
        obtain ⟨b, off, rfl, hcl⟩ := ints_at hcell (by omega)
        have hbB : b < w.heap.size := ha.out _ rfl (by omega)
        have cz := hcl k (by omega)
        have rz := range_u8 hwf k
        obtain ⟨v, hv⟩ : ∃ v, z.getD k 0 = v := ⟨_, rfl⟩
        have rz0 : 0 ≤ v ∧ v ≤ 255 := by rw [← hv]; simpa [List.getD] using rz
        rw [hv] at cz
        obtain ⟨v0, v1⟩ := rz0
        have cy : wr.cell? ⟨b, off + k, none⟩ = some (.int .u8 v) := by
          rw [HO.out.cell (p := ⟨b, off + k, none⟩) (by simp; omega), World.cell?_alloc_lt _ _ _ hbB]; exact cz
        have c2 := HS.out.seed
        have f2 := HS.out.free2
        have x0 := HS.out.x0
        have xl := HS.out.xl
        have hne : b ≠ w.heap.size := by omega
        clear hcell hcl hv hwf rz cz
        obtain ⟨y, hy⟩ : ∃ y, (x * 71 + v) % 2147483647 = y := ⟨_, rfl⟩
        have y0 : 0 ≤ y := by omega
        have yl : y < 2147483647 := by omega
        go_wp2
        go_region
        all_goals
          go_wp2
          go_roundw
          case rel => exact ⟨k + 1, y, by omega, by omega, by go_num, Lib.hid (by first | exact (HS.out.put2 y0 yl).drew | exact (HS.out.drew.put2 y0 yl) | exact (HS.out.put2 y0 yl)), Lib.hid (by first | exact (HO.out.setCell (p := ⟨w.heap.size, 2, none⟩) rfl _).drew | exact (HO.out.drew.setCell (p := ⟨w.heap.size, 2, none⟩) rfl _))⟩
          case measure => simp [intOf]; omega
      · go_wp2
        go_ret
        exact ⟨rfl, ⟨_, _, HS.out⟩, HO.out.size.trans (by simp), ((Below.refl _ _).alloc (Nat.le_refl _) _).trans (HO.out.below (Nat.le_refl _))⟩
    · go_wp2
      go_ret
      exact ⟨rfl, ⟨_, _, HS.out⟩, HO.out.size.trans (by simp), ((Below.refl _ _).alloc (Nat.le_refl _) _).trans (HO.out.below (Nat.le_refl _))⟩

theorem drawn_bd {n r : Int} (h : Drawn n r) (hn : 1 ≤ n) : 0 ≤ r ∧ r < n := by
  obtain ⟨h1, h2⟩ := h
  by_cases h : 1 < n
  · exact h1 h
  · have := h2 (by omega); omega

/-- one of the numbers zs (the draw gives the index) -/
def PickPost (B : Nat) (a : Option Addr) (l c : Nat) (zs : List Int) (w : World) (e : Ending) (w' : World) : Prop :=
  ∃ r, e = .returned (.int .i64 r) ∧ r ∈ zs ∧ Only B w w' ∧ IsSrc B a l c w'

theorem pick_any (B L : Nat) (a : Option Addr) (l c m : Nat) (z zs : List Int) (w : World) (hs : IsSrc B a l c w) (hr : IsRow .u8 w a l c z) (ha : Apart a z B)
    (hL : L ≠ B) (hz : zs.length = m) (hm0 : 0 < m) (hm1 : m < 1000) (hcell : ∀ i, i < m → w.cell? ⟨L, i, none⟩ = some (.int .i64 (zs.getD i 0))) :
    Calls Tryz.prog 77 #[.pointer (some ⟨B, 0, none⟩), .slice (some ⟨L, 0, none⟩) m m] w (PickPost B a l c zs w) := by
  have HA := Lib.hid ha
  have HR := Lib.hid hr
  have HC := Lib.hid hcell
  have HZ := Lib.hid hz
  clear ha hr hcell hz
  go_enter Tryz.func77, Tryz.ntmps77
  go_wp2_with (go_at_call 58; go_must (refine (next_any B a l c z _ _ hs HR.out HA.out).mono ?_; rintro e w' ⟨r, rfl, hd, ho, hs'⟩; have hr := drawn_bd hd (by omega);  obtain ⟨j, rfl⟩ := Int.eq_ofNat_of_zero_le hr.1; have hj : j < m := (by omega); clear hr; have hc' : w'.cell? ⟨L, j, none⟩ = some (.int .i64 (zs.getD j 0)) := (ho.cell (p := ⟨L, j, none⟩) hL).trans (HC.out j hj); have HO := Lib.hid ho; have HS := Lib.hid hs'; clear ho hs' hd))
  go_ret
  exact ⟨_, rfl, by rw [List.getElem?_eq_getElem (by rw [HZ.out]; assumption)]; simp, HO.out, HS.out⟩

/-- Of what was there only block B has turned. -/
structure But (B : Nat) (w w' : World) : Prop where
  os : w'.os = w.os
  tape : w'.tape = w.tape
  output : w'.output = w.output
  size : w.heap.size ≤ w'.heap.size
  block : ∀ k, k < w.heap.size → k ≠ B → w'.heap[k]? = w.heap[k]?

theorem But.refl (B : Nat) (w : World) : But B w w := ⟨rfl, rfl, rfl, Nat.le_refl _, fun _ _ _ => rfl⟩

theorem But.trans {B : Nat} {a b c : World} (h : But B a b) (k : But B b c) : But B a c :=
  ⟨k.os.trans h.os, k.tape.trans h.tape, k.output.trans h.output, Nat.le_trans h.size k.size, fun i hi hb => (k.block i (Nat.lt_of_lt_of_le hi h.size) hb).trans (h.block i hi hb)⟩

theorem Only.but {B : Nat} {w w' : World} (h : Only B w w') : But B w w' := ⟨h.os, h.tape, h.output, by rw [h.size]; exact Nat.le_refl _, fun k _ hb => h.block k hb⟩

theorem But.below {A B : Nat} {w w' : World} (h : But B w w') (hA : A ≤ B) (hs : A ≤ w.heap.size) : Below A w w' :=
  ⟨h.os, h.tape, h.output, h.size, fun k hk => h.block k (by omega) (by omega)⟩

theorem But.alloc {B : Nat} {w : World} (o : Obj) : But B w (w.alloc o) :=
  ⟨rfl, rfl, rfl, by simp, fun k hk _ => Below.heap_alloc _ _ _ hk⟩

theorem But.drew {B : Nat} {w w' : World} (h : But B w w') : But B w w'.drew := ⟨h.os, h.tape, h.output, h.size, h.block⟩

theorem But.drewN {B : Nat} {w w' : World} (h : But B w w') (n : Nat) : But B w (w'.drewN n) := ⟨h.os, h.tape, h.output, h.size, h.block⟩

theorem But.cell {B : Nat} {w w' : World} (h : But B w w') {p : Addr} (hp : p.block < w.heap.size) (hb : p.block ≠ B) : w'.cell? p = w.cell? p := World.cell?_of_block (w := w) (h.block p.block hp hb)

theorem But.frozen {B : Nat} {w w' : World} (h : But B w w') {p : Addr} (hp : p.block < w.heap.size) (hb : p.block ≠ B) : w'.frozen? p = w.frozen? p := World.frozen?_of_block (w := w) (h.block p.block hp hb)

/-- Block B holds a source, and what it reads lies below it. -/
structure Ready (B : Nat) (a : Option Addr) (l c : Nat) (z : List Int) (w : World) : Prop where
  src : IsSrc B a l c w
  row : IsRow .u8 w a l c z
  apart : Apart a z B

theorem Ready.here {B l c : Nat} {a : Option Addr} {z : List Int} {w : World} (h : Ready B a l c z w) : B < w.heap.size := by
  obtain ⟨_, _, S⟩ := h.src; exact S.here

theorem Ready.below {B C l c : Nat} {a : Option Addr} {z : List Int} {w w' : World} (h : Ready B a l c z w) (hb : Below C w w') (hC : B < C) : Ready B a l c z w' := by
  obtain ⟨⟨t, x, S⟩, r, p⟩ := h
  refine ⟨⟨t, x, ?_⟩, r.below hb (p.mono (by omega)), p⟩
  exact ⟨Nat.lt_of_lt_of_le S.here hb.size, (hb.cell (p := ⟨B, 0, none⟩) hC).trans S.code, (hb.cell (p := ⟨B, 1, none⟩) hC).trans S.att, (hb.cell (p := ⟨B, 2, none⟩) hC).trans S.seed,
    (hb.frozen (p := ⟨B, 0, none⟩) hC).trans S.free0, (hb.frozen (p := ⟨B, 1, none⟩) hC).trans S.free1, (hb.frozen (p := ⟨B, 2, none⟩) hC).trans S.free2, S.t0, S.tl, S.x0, S.xl⟩

theorem Ready.alloc {B l c : Nat} {a : Option Addr} {z : List Int} {w : World} (h : Ready B a l c z w) (o : Obj) : Ready B a l c z (w.alloc o) :=
  h.below (Below.refl w.heap.size w |>.alloc (Nat.le_refl _) o) h.here

theorem Ready.drew {B l c : Nat} {a : Option Addr} {z : List Int} {w : World} (h : Ready B a l c z w) : Ready B a l c z w.drew :=
  h.below (Below.refl w.heap.size w |>.drew) h.here

theorem Ready.drewN {B l c : Nat} {a : Option Addr} {z : List Int} {w : World} (h : Ready B a l c z w) (n : Nat) : Ready B a l c z (w.drewN n) :=
  h.below (below_drewN (Below.refl w.heap.size w) n) h.here

def NumPost (B : Nat) (a : Option Addr) (l c : Nat) (z : List Int) (p : Int → Prop) (w : World) (e : Ending) (w' : World) : Prop :=
  ∃ r, e = .returned (.int .i64 r) ∧ p r ∧ But B w w' ∧ Ready B a l c z w'

theorem next_r (B : Nat) (a : Option Addr) (l c : Nat) (z : List Int) (n : Int) (w : World) (h : Ready B a l c z w) :
    Calls Tryz.prog 58 #[.pointer (some ⟨B, 0, none⟩), .int .i64 n] w (NumPost B a l c z (Drawn n) w) :=
  (next_any B a l c z n w h.src h.row h.apart).mono fun e w' ⟨r, he, hd, ho, hs⟩ =>
    ⟨r, he, hd, ho.but, hs, h.row.below (ho.below (Nat.le_refl B)) h.apart, h.apart⟩

theorem pick_r (B L : Nat) (a : Option Addr) (l c m : Nat) (z zs : List Int) (w : World) (h : Ready B a l c z w)
    (hL : L ≠ B) (hz : zs.length = m) (hm0 : 0 < m) (hm1 : m < 1000) (hcell : ∀ i, i < m → w.cell? ⟨L, i, none⟩ = some (.int .i64 (zs.getD i 0))) :
    Calls Tryz.prog 77 #[.pointer (some ⟨B, 0, none⟩), .slice (some ⟨L, 0, none⟩) m m] w (NumPost B a l c z (· ∈ zs) w) :=
  (pick_any B L a l c m z zs w h.src h.row h.apart hL hz hm0 hm1 hcell).mono fun e w' ⟨r, he, hd, ho, hs⟩ =>
    ⟨r, he, hd, ho.but, hs, h.row.below (ho.below (Nat.le_refl B)) h.apart, h.apart⟩

/-- a new block of integers, as 'buildSlice' lays it -/
theorem new_cells (w : World) (zs : List Int) (T : TypeId) : ∀ i, i < zs.length → (w.alloc (.cells (zs.map (Value.int .i64)).toArray T)).cell? ⟨w.heap.size, i, none⟩ = some (.int .i64 (zs.getD i 0)) := by
  intro i hi
  rw [World.cell?_alloc_at _ _ _ _ rfl]
  simp [List.getD, hi]

def Any (_ : Int) : Prop := True

/-- a pick out of a new row of numbers -/
theorem pick_new (B : Nat) (zs : List Int) (m : Nat) (C : Array Value) (T : TypeId) (w : World) {a : Option Addr} {l c : Nat} {z : List Int} (h : Ready B a l c z w)
    (hC : C = (zs.map (Value.int .i64)).toArray) (hz : zs.length = m) (hm0 : 0 < m) (hm1 : m < 1000) :
    Calls Tryz.prog 77 #[.pointer (some ⟨B, 0, none⟩), .slice (some ⟨w.heap.size, 0, none⟩) m m] (w.alloc (.cells C T)) (NumPost B a l c z (· ∈ zs) w) := by
  subst hC
  subst hz
  refine (pick_r B _ a l c _ z zs _ (h.alloc _) (by have := h.here; omega) rfl hm0 hm1 (new_cells _ _ _)).mono ?_
  rintro e w1 ⟨r, rfl, hd, ho, hs⟩
  exact ⟨r, rfl, hd, (But.alloc _).trans ho, hs⟩

theorem pick2 (B : Nat) (x1 x2 : Int) (T : TypeId) (w : World) {a : Option Addr} {l c : Nat} {z : List Int} (h : Ready B a l c z w) :
    Calls Tryz.prog 77 #[.pointer (some ⟨B, 0, none⟩), .slice (some ⟨w.heap.size, 0, none⟩) 2 2] (w.alloc (.cells #[.int .i64 x1, .int .i64 x2] T)) (NumPost B a l c z (· ∈ [x1, x2]) w) :=
  pick_new B [x1, x2] 2 _ T w h rfl rfl (by decide) (by decide)

theorem pick3 (B : Nat) (x1 x2 x3 : Int) (T : TypeId) (w : World) {a : Option Addr} {l c : Nat} {z : List Int} (h : Ready B a l c z w) :
    Calls Tryz.prog 77 #[.pointer (some ⟨B, 0, none⟩), .slice (some ⟨w.heap.size, 0, none⟩) 3 3] (w.alloc (.cells #[.int .i64 x1, .int .i64 x2, .int .i64 x3] T)) (NumPost B a l c z (· ∈ [x1, x2, x3]) w) :=
  pick_new B [x1, x2, x3] 3 _ T w h rfl rfl (by decide) (by decide)

theorem pick4 (B : Nat) (x1 x2 x3 x4 : Int) (T : TypeId) (w : World) {a : Option Addr} {l c : Nat} {z : List Int} (h : Ready B a l c z w) :
    Calls Tryz.prog 77 #[.pointer (some ⟨B, 0, none⟩), .slice (some ⟨w.heap.size, 0, none⟩) 4 4] (w.alloc (.cells #[.int .i64 x1, .int .i64 x2, .int .i64 x3, .int .i64 x4] T)) (NumPost B a l c z (· ∈ [x1, x2, x3, x4]) w) :=
  pick_new B [x1, x2, x3, x4] 4 _ T w h rfl rfl (by decide) (by decide)

theorem pick5 (B : Nat) (x1 x2 x3 x4 x5 : Int) (T : TypeId) (w : World) {a : Option Addr} {l c : Nat} {z : List Int} (h : Ready B a l c z w) :
    Calls Tryz.prog 77 #[.pointer (some ⟨B, 0, none⟩), .slice (some ⟨w.heap.size, 0, none⟩) 5 5] (w.alloc (.cells #[.int .i64 x1, .int .i64 x2, .int .i64 x3, .int .i64 x4, .int .i64 x5] T)) (NumPost B a l c z (· ∈ [x1, x2, x3, x4, x5]) w) :=
  pick_new B [x1, x2, x3, x4, x5] 5 _ T w h rfl rfl (by decide) (by decide)

theorem ready_of {a : Option Addr} {l c : Nat} {z : List Int} {w w1 : World} (hr : IsRow .u8 w a l c z) (hs : IsSrc w.heap.size a l c w1) (hb : Below w.heap.size w w1) : Ready w.heap.size a l c z w1 :=
  ⟨hs, hr.below hb hr.apart, hr.apart⟩

def TwoPost (w : World) (e : Ending) (w' : World) : Prop := ∃ x y, e = .returned (.tuple #[.int .i64 x, .int .i64 y]) ∧ Below w.heap.size w w'

def OnePost (w : World) (e : Ending) (w' : World) : Prop := ∃ x, e = .returned (.int .i64 x) ∧ Below w.heap.size w w'

end Go.Proofs.YtdlfofdibooidaaGreat

/- The small functions of chapter 1 that compute with numbers (ranges, rounding): what each of their calls returns, and that it leaves memory as it was. | Lists of integers that are only read: sums, ranges, equality; what each call returns. | DivideDown, DivideUp and PerMille of the program and of its model: what each call returns, one Lean function for both. | CommonFactor of the program and of its model: what each call returns (the greatest common divisor), one Lean function for both. -/
namespace Go.Proofs.YtdlfofdibooidaaGreat
open Go.ChangeShapes Go.WideShapes Go.ChangeAt Go.RowKit
set_option linter.unusedVariables false


/-! ### plain numbers -/

theorem down_of (a b : Int) (hb : 1 ≤ b) : (a.tmod b < 0 → a.tdiv b - 1 = a / b) ∧ (¬ a.tmod b < 0 → a.tdiv b = a / b) := by
  have h1 := Int.mul_tdiv_add_tmod a b
  have h2 := Int.mul_ediv_add_emod a b
  have h3 := Int.emod_nonneg a (show b ≠ 0 by omega)
  have h4 := Int.emod_lt_of_pos a (show 0 < b by omega)
  have h5 : a.tmod b < b := Int.tmod_lt_of_pos a (by omega)
  have h6 : -b < a.tmod b := by
    have := Int.tmod_lt_of_pos (-a) (show 0 < b by omega)
    rw [Int.neg_tmod] at this; omega
  constructor
  · intro h
    have e : b * (a.tdiv b - 1 - a / b) = a % b - a.tmod b - b := by rw [Int.mul_sub, Int.mul_sub]; omega
    have l : a.tdiv b - 1 - a / b < 1 := by
      refine Int.lt_of_mul_lt_mul_left (a := b) ?_ (by omega); omega
    have g : -1 < a.tdiv b - 1 - a / b := by
      refine Int.lt_of_mul_lt_mul_left (a := b) ?_ (by omega); omega
    omega
  · intro h
    have e : b * (a.tdiv b - a / b) = a % b - a.tmod b := by rw [Int.mul_sub]; omega
    have l : a.tdiv b - a / b < 1 := by
      refine Int.lt_of_mul_lt_mul_left (a := b) ?_ (by omega); omega
    have g : -1 < a.tdiv b - a / b := by
      refine Int.lt_of_mul_lt_mul_left (a := b) ?_ (by omega); omega
    omega

theorem div_bd (a b M : Int) (hb : 1 ≤ b) (hM : 0 ≤ M) (h1 : -M ≤ a) (h2 : a ≤ M) : -M ≤ a / b ∧ a / b ≤ M := by
  constructor
  · rw [Int.le_ediv_iff_mul_le (by omega)]
    have : M * 1 ≤ M * b := Int.mul_le_mul_of_nonneg_left hb hM
    rw [Int.neg_mul]; omega
  · have := Int.ediv_le_ediv (show 0 < b by omega) h2
    have := Int.ediv_le_self b hM
    omega

theorem tdiv_bd (a b M : Int) (hb : 1 ≤ b) (hM : 0 ≤ M) (h1 : -M ≤ a) (h2 : a ≤ M) : -M ≤ a.tdiv b ∧ a.tdiv b ≤ M := by
  have h := Int.natAbs_tdiv_le_natAbs a b
  omega

/-! ### the walks -/

/-- whether a number lies in a range -/
def inB (n lo hi : Int) : Bool := decide (lo ≤ n) && decide (n ≤ hi)

theorem inB_t {n lo hi : Int} (h1 : lo ≤ n) (h2 : n ≤ hi) : inB n lo hi = true := by simp [inB, h1, h2]

theorem inB_f {n lo hi : Int} (h : ¬ (lo ≤ n ∧ n ≤ hi)) : inB n lo hi = false := by
  unfold inB; rw [Bool.eq_false_iff]; intro hh; simp at hh; exact h hh

theorem inB_iff (n lo hi : Int) : inB n lo hi = true ↔ lo ≤ n ∧ n ≤ hi := by simp [inB]

/-- whether a number is money -/
def monB (n : Int) : Bool := inB n (-1000000000000) 1000000000000

theorem monB_iff (n : Int) : monB n = true ↔ -1000000000000 ≤ n ∧ n ≤ 1000000000000 := inB_iff _ _ _

theorem in_any (n lo hi : Int) (w : World) : Calls Tryz.prog 82 #[.int .i64 n, .int .i64 lo, .int .i64 hi] w fun e w' => e = .returned (.bool (inB n lo hi)) ∧ w = w' := by
  by_cases h1 : lo ≤ n
  all_goals
    go_enter Tryz.func82, Tryz.ntmps82
    go_wp2
    go_ret
    exact ⟨ret_bool (by simp [inB]; omega), rfl⟩

theorem within_any (n lo hi : Int) (w : World) : Calls Tryz.prog 87 #[.int .i64 n, .int .i64 lo, .int .i64 hi] w fun e w' => e = .returned (.bool (inB n lo hi)) ∧ w = w' := by
  by_cases h1 : lo ≤ n
  all_goals
    go_enter Tryz.func87, Tryz.ntmps87
    go_wp2
    go_ret
    exact ⟨ret_bool (by simp [inB]; omega), rfl⟩

theorem partDown_any (m q b : Int) (w : World) (h1 : -1000000000000 ≤ m) (h2 : m ≤ 1000000000000) (h3 : 0 ≤ q) (h4 : q ≤ 1000) (h5 : 1 ≤ b) : Calls Tryz.prog 96 #[.int .i64 m, .int .i64 q, .int .i64 b] w fun e w' => e = .returned (.int .i64 (m * q / b)) ∧ w = w' := by
  have hp1 : -1000000000000000 ≤ m * q := by
    have := Int.mul_le_mul_of_nonneg_right h1 h3; omega
  have hp2 : m * q ≤ 1000000000000000 := by
    have := Int.mul_le_mul_of_nonneg_right h2 h3; omega
  have hd := down_of (m * q) b h5
  obtain ⟨hb1, hb2⟩ := tdiv_bd (m * q) b 1000000000000000 h5 (by omega) hp1 hp2
  obtain ⟨d1, d2⟩ := hd
  have D1 := Lib.hid d1
  have D2 := Lib.hid d2
  clear d1 d2
  by_cases hlt : (m * q).tmod b < 0
  all_goals
    go_enter Tryz.func96, Tryz.ntmps96
    go_wp2
    go_ret
  · exact ⟨ret_int (D1.out hlt), rfl⟩
  · exact ⟨ret_int (D2.out (by omega)), rfl⟩

theorem partUp_any (m q b : Int) (w : World) (h1 : -1000000000000 ≤ m) (h2 : m ≤ 1000000000000) (h3 : 0 ≤ q) (h4 : q ≤ 1000) (h5 : 1 ≤ b) : Calls Tryz.prog 90 #[.int .i64 m, .int .i64 q, .int .i64 b] w fun e w' => e = .returned (.int .i64 (-(-m * q / b))) ∧ w = w' := by
  have hp1 : -1000000000000000 ≤ -m * q := by
    have := Int.mul_le_mul_of_nonneg_right (show -1000000000000 ≤ -m by omega) h3; omega
  have hp2 : -m * q ≤ 1000000000000000 := by
    have := Int.mul_le_mul_of_nonneg_right (show -m ≤ 1000000000000 by omega) h3; omega
  obtain ⟨hb1, hb2⟩ := div_bd (-m * q) b 1000000000000000 h5 (by omega) hp1 hp2
  go_enter Tryz.func90, Tryz.ntmps90
  go_wp2_with (go_at_call 96; refine (partDown_any _ _ _ _ (by omega) (by omega) h3 h4 h5).mono ?_; rintro e w' ⟨rfl, rfl⟩)
  go_ret
  exact ⟨rfl, rfl⟩

theorem down_any (a b : Int) (w : World) (h1 : -1000000000000000 ≤ a) (h2 : a ≤ 1000000000000000) (h5 : 1 ≤ b) : Calls Tryz.prog 118 #[.int .i64 a, .int .i64 b] w fun e w' => e = .returned (.int .i64 (a / b)) ∧ w = w' := by
  obtain ⟨hb1, hb2⟩ := tdiv_bd a b 1000000000000000 h5 (by omega) h1 h2
  obtain ⟨d1, d2⟩ := down_of a b h5
  have D1 := Lib.hid d1
  have D2 := Lib.hid d2
  clear d1 d2
  by_cases hlt : a.tmod b < 0
  all_goals
    go_enter Tryz.func118, Tryz.ntmps118
    go_wp2
    go_ret
  · exact ⟨ret_int (D1.out hlt), rfl⟩
  · exact ⟨ret_int (D2.out (by omega)), rfl⟩

theorem up_any (a b : Int) (w : World) (h1 : -1000000000000000 ≤ a) (h2 : a ≤ 1000000000000000) (h5 : 1 ≤ b) : Calls Tryz.prog 86 #[.int .i64 a, .int .i64 b] w fun e w' => e = .returned (.int .i64 (-(-a / b))) ∧ w = w' := by
  obtain ⟨hb1, hb2⟩ := div_bd (-a) b 1000000000000000 h5 (by omega) (by omega) (by omega)
  go_enter Tryz.func86, Tryz.ntmps86
  go_wp2_with (go_at_call 118; refine (down_any _ _ _ (by omega) (by omega) h5).mono ?_; rintro e w' ⟨rfl, rfl⟩)
  go_ret
  exact ⟨rfl, rfl⟩

/-- The slice (a, l) holds the numbers xs. -/
structure Ints (w : World) (a : Option Addr) (l : Nat) (xs : List Int) : Prop where
  len : xs.length = l
  max : l ≤ 4611686018427387904
  cells : l = 0 ∨ ∃ b off, a = some ⟨b, off, none⟩ ∧ ∀ i, i < l → w.cell? ⟨b, off + i, none⟩ = some (.int .i64 (xs.getD i 0))

theorem Ints.below {w w' : World} {a : Option Addr} {l B : Nat} {xs : List Int} (h : Ints w a l xs) (hb : Below B w w') (hB : ∀ x, a = some x → 0 < l → x.block < B) : Ints w' a l xs := by
  refine ⟨h.len, h.max, ?_⟩
  rcases h.cells with h0 | ⟨b, off, rfl, hc⟩
  · exact .inl h0
  · by_cases hz : l = 0
    · exact .inl hz
    · exact .inr ⟨b, off, rfl, fun i hi => by rw [hb.cell (p := ⟨b, off + i, none⟩) (hB ⟨b, off, none⟩ rfl (by omega))]; exact hc i hi⟩

theorem Ints.drewN {w : World} {a : Option Addr} {l : Nat} {xs : List Int} (h : Ints w a l xs) (n : Nat) : Ints (w.drewN n) a l xs := ⟨h.len, h.max, h.cells⟩

/-- where its cells lie, there are blocks -/
theorem Ints.lt {w : World} {a : Option Addr} {l : Nat} {xs : List Int} (h : Ints w a l xs) : ∀ x, a = some x → 0 < l → x.block < w.heap.size := by
  intro x hx hl
  rcases h.cells with h0 | ⟨b, off, rfl, hc⟩
  · omega
  · obtain rfl : (⟨b, off, none⟩ : Addr) = x := by simpa using hx
    exact block_lt (p := ⟨b, off + 0, none⟩) (hc 0 hl)

theorem IsRow.ints {w : World} {a : Option Addr} {l c : Nat} {zs : List Int} (h : IsRow .i64 w a l c zs) (hl : l ≤ 4611686018427387904) : Ints w a l (zs.take l) := by
  rcases h with ⟨rfl, rfl, rfl, rfl⟩ | ⟨x, rfl, h2, h3, h4, h5, h6⟩
  · exact ⟨rfl, hl, .inl rfl⟩
  · refine ⟨by simp; omega, hl, ?_⟩
    by_cases hz : l = 0
    · exact .inl hz
    · obtain ⟨b, off, rfl, hc⟩ := ints_at h5 (by omega)
      refine .inr ⟨b, off, rfl, fun i hi => ?_⟩
      rw [hc i (by omega)]
      simp [List.getD, hi]

/-! ### plain lists -/

theorem sum_snoc (xs : List Int) (k : Nat) (h : k < xs.length) : (xs.take (k + 1)).sum = (xs.take k).sum + xs.getD k 0 := by
  rw [List.take_add_one, List.sum_append]
  simp [List.getD, List.getElem?_eq_getElem h]

theorem sum_bd (M : Int) (hM : 0 ≤ M) : ∀ (xs : List Int), (∀ x ∈ xs, -M ≤ x ∧ x ≤ M) → -(xs.length * M) ≤ xs.sum ∧ xs.sum ≤ xs.length * M := by
  intro xs
  induction xs with
  | nil => intro _; simp
  | cons x r ih =>
    intro h
    obtain ⟨h1, h2⟩ := ih fun y hy => h y (List.mem_cons_of_mem _ hy)
    obtain ⟨h3, h4⟩ := h x List.mem_cons_self
    rw [List.sum_cons, List.length_cons]
    have e : ((r.length + 1 : Nat) : Int) * M = r.length * M + M := by rw [Int.natCast_add, Int.add_mul]; simp
    omega

theorem sum_take_bd (M : Int) (hM : 0 ≤ M) (xs : List Int) (k n : Nat) (hn : xs.length ≤ n) (h : ∀ x ∈ xs.take k, -M ≤ x ∧ x ≤ M) : -(n * M) ≤ (xs.take k).sum ∧ (xs.take k).sum ≤ n * M := by
  obtain ⟨h1, h2⟩ := sum_bd M hM (xs.take k) h
  have hl : (xs.take k).length ≤ n := Nat.le_trans (List.length_take_le' _ _) hn
  have : ((xs.take k).length : Int) * M ≤ n * M := Int.mul_le_mul_of_nonneg_right (by omega) hM
  omega

theorem all_snoc (p : Int → Bool) (xs : List Int) (k : Nat) (h : k < xs.length) : (xs.take (k + 1)).all p = ((xs.take k).all p && p (xs.getD k 0)) := by
  rw [List.take_add_one, List.all_append]
  simp [List.getD, List.getElem?_eq_getElem h]

theorem all_take (p : Int → Bool) (xs : List Int) (k : Nat) (h : p (xs.getD k 0) = false) (hk : k < xs.length) : xs.all p = false := by
  rw [List.all_eq_false]
  refine ⟨xs[k], List.getElem_mem hk, ?_⟩
  simpa [List.getD, List.getElem?_eq_getElem hk] using h

/-! ### the walks -/

theorem inAll_any (xs : List Int) (a : Option Addr) (l c : Nat) (most lo hi : Int) (w : World) (h : Ints w a l xs) :
    Calls Tryz.prog 144 #[.slice a l c, .int .i64 most, .int .i64 lo, .int .i64 hi] w fun e w' => e = .returned (.bool (xs.all (fun x => inB x lo hi) && decide ((l : Int) ≤ most))) ∧ w = w' := by
  have hm := h.max
  have hl := Lib.hid h.len
  have H := Lib.hid h
  clear h
  go_enter Tryz.func144, Tryz.ntmps144
  go_wp2_with fail
  go_loop [9] (fun i => ∃ k : Nat, k ≤ l ∧ i = .int .i64 k ∧ Hid ((xs.take k).all (fun x => inB x lo hi) = true)) (fun i => l - (intOf i).toNat)
  case atStart => exact ⟨0, Nat.zero_le _, rfl, Lib.hid (by simp)⟩
  case round =>
    obtain ⟨k, hk, rfl, HA⟩ := hrel
    by_cases hlt : k < l
    · rcases H.out.cells with h0 | ⟨b, off, rfl, hc⟩
      · omega
      have hx := hc k hlt
      obtain ⟨v, hv⟩ : ∃ v, xs.getD k 0 = v := ⟨_, rfl⟩
      rw [hv] at hx
      have HV := Lib.hid hv
      have HC := Lib.hid hc
      clear hv hc
      by_cases hin : inB v lo hi = true
      · go_wp2_with (go_at_call 82; refine (in_any _ _ _ _).mono ?_; rintro e w' ⟨rfl, rfl⟩)
        go_round
        case rel => exact ⟨k + 1, by omega, by go_num, Lib.hid (by rw [all_snoc _ _ _ (by rw [hl.out]; exact hlt), HA.out, HV.out, hin]; rfl)⟩
        case measure => simp [intOf]; omega
      · go_wp2_with (go_at_call 82; refine (in_any _ _ _ _).mono ?_; rintro e w' ⟨rfl, rfl⟩)
        go_ret
        exact ⟨ret_bool (by rw [all_take _ xs k (by rw [HV.out]; simpa using hin) (by rw [hl.out]; exact hlt)]; rfl), rfl⟩
    · go_wp2_with fail
      go_ret
      obtain rfl : k = l := by omega
      have e : xs.take k = xs := List.take_of_length_le (by rw [hl.out]; exact Nat.le_refl _)
      have HA' := HA.out
      rw [e] at HA'
      exact ⟨ret_bool (by rw [HA']; rfl), rfl⟩

def ddB (a b : Int) : Bool := monB a && inB b 1 1000000000

def ddV (a b : Int) : Int := if ddB a b then a / b else 0

def ddE (a b : Int) : Int := if ddB a b then 0 else 2

def duV (a b : Int) : Int := if ddB a b then -(-a / b) else 0

def pmB (a r : Int) : Bool := monB a && inB r 0 1000

def pmV (a r : Int) : Int := if pmB a r then a * r / 1000 else 0

def pmE (a r : Int) : Int := if pmB a r then 0 else 2

theorem ddB_iff (a b : Int) : ddB a b = true ↔ (-1000000000000 ≤ a ∧ a ≤ 1000000000000) ∧ (1 ≤ b ∧ b ≤ 1000000000) := by
  unfold ddB; rw [Bool.and_eq_true, monB_iff, inB_iff]

theorem pmB_iff (a r : Int) : pmB a r = true ↔ (-1000000000000 ≤ a ∧ a ≤ 1000000000000) ∧ (0 ≤ r ∧ r ≤ 1000) := by
  unfold pmB; rw [Bool.and_eq_true, monB_iff, inB_iff]

def gcdI (a b : Int) : Int := ((Nat.gcd a.toNat b.toNat : Nat) : Int)

theorem gcdI_zero (a : Int) (h : 0 ≤ a) : gcdI a 0 = a := by unfold gcdI; simp; omega

theorem gcdI_step (a b : Int) (ha : 0 ≤ a) (hb : 0 < b) : gcdI b (a % b) = gcdI a b := by
  unfold gcdI
  obtain ⟨x, rfl⟩ := Int.eq_ofNat_of_zero_le ha
  obtain ⟨y, rfl⟩ := Int.eq_ofNat_of_zero_le (show 0 ≤ b by omega)
  have e : ((x : Int) % (y : Int)).toNat = x % y := by
    omega
  rw [e]
  simp only [Int.toNat_natCast]
  rw [Nat.gcd_comm y, ← Nat.gcd_rec, Nat.gcd_comm]

def cfB (a b : Int) : Bool := inB a 0 1000000000000 && inB b 0 1000000000000

def cfV (a b : Int) : Int := if cfB a b then gcdI a b else 0

def cfE (a b : Int) : Int := if cfB a b then 0 else 2

end Go.Proofs.YtdlfofdibooidaaGreat
