/- The source of drawn numbers of the model's draws: what one call of it does (a number in a range; only its own block turns). | The source of drawn numbers of the model's draws: how it begins, and one of some numbers. | The model's draws of numbers: each gives numbers in their bounds, writes into its own source alone and makes new memory. | The draws of chapter 1's numbers: two integers each, out of whatever code. -/
import Derived.Test.YtmnddplkmljeaaaBase
namespace Go.Proofs.Ytmnddplkmljeaaa
open Go.ChangeShapes Go.WideShapes Go.ChangeAt Go.RowKit
set_option linter.unusedVariables false

/-- a number that a draw gives -/
def Drawn (n r : Int) : Prop := (1 < n → 0 ≤ r ∧ r < n) ∧ (n ≤ 1 → r = 0)

/-- Block B holds a source over the code (a, l, c): its three cells. -/
structure Src (B : Nat) (a : Option Addr) (l c : Nat) (t x : Int) (w : World) : Prop where
  here : B < w.heap.size
  code : w.cell? ⟨B, 0, none⟩ = some (.slice a l c)
  att : w.cell? ⟨B, 1, none⟩ = some (.int .i64 t)
  seed : w.cell? ⟨B, 2, none⟩ = some (.int .i64 x)
  free0 : w.frozen? ⟨B, 0, none⟩ = false
  free1 : w.frozen? ⟨B, 1, none⟩ = false
  free2 : w.frozen? ⟨B, 2, none⟩ = false
  t0 : 0 ≤ t
  tl : t ≤ l
  x0 : 0 ≤ x
  xl : x < 2147483647

theorem Src.put2 {B l c : Nat} {a : Option Addr} {t x y : Int} {w : World} (S : Src B a l c t x w) (h0 : 0 ≤ y) (h1 : y < 2147483647) : Src B a l c t y (w.setCell ⟨B, 2, none⟩ (.int .i64 y)) where
  here := by simpa [World.setCell] using S.here
  code := by rw [World.cell?_setCell_other _ _ _ _ (by simp)]; exact S.code
  att := by rw [World.cell?_setCell_other _ _ _ _ (by simp)]; exact S.att
  seed := World.cell?_setCell_same' _ _ _ (by rw [S.seed]; rfl)
  free0 := by rw [World.frozen?_setCell]; exact S.free0
  free1 := by rw [World.frozen?_setCell]; exact S.free1
  free2 := by rw [World.frozen?_setCell]; exact S.free2
  t0 := S.t0
  tl := S.tl
  x0 := h0
  xl := h1

theorem Src.put1 {B l c : Nat} {a : Option Addr} {t x u : Int} {w : World} (S : Src B a l c t x w) (h0 : 0 ≤ u) (h1 : u ≤ l) : Src B a l c u x (w.setCell ⟨B, 1, none⟩ (.int .i64 u)) where
  here := by simpa [World.setCell] using S.here
  code := by rw [World.cell?_setCell_other _ _ _ _ (by simp)]; exact S.code
  att := World.cell?_setCell_same' _ _ _ (by rw [S.att]; rfl)
  seed := by rw [World.cell?_setCell_other _ _ _ _ (by simp)]; exact S.seed
  free0 := by rw [World.frozen?_setCell]; exact S.free0
  free1 := by rw [World.frozen?_setCell]; exact S.free1
  free2 := by rw [World.frozen?_setCell]; exact S.free2
  t0 := h0
  tl := h1
  x0 := S.x0
  xl := S.xl

theorem Src.drewN {B l c : Nat} {a : Option Addr} {t x : Int} {w : World} (S : Src B a l c t x w) (n : Nat) : Src B a l c t x (w.drewN n) :=
  ⟨S.here, S.code, S.att, S.seed, S.free0, S.free1, S.free2, S.t0, S.tl, S.x0, S.xl⟩

theorem Src.drew {B l c : Nat} {a : Option Addr} {t x : Int} {w : World} (S : Src B a l c t x w) : Src B a l c t x w.drew :=
  ⟨S.here, S.code, S.att, S.seed, S.free0, S.free1, S.free2, S.t0, S.tl, S.x0, S.xl⟩

theorem drawn_mod (v n : Int) (hn : 1 < n) : Drawn n (v % n) :=
  ⟨fun _ => ⟨Int.emod_nonneg _ (by omega), Int.emod_lt_of_pos _ (by omega)⟩, fun h => by omega⟩

def IsSrc (B : Nat) (a : Option Addr) (l c : Nat) (w : World) : Prop := ∃ t x, Src B a l c t x w

def NextPost (B : Nat) (a : Option Addr) (l c : Nat) (n : Int) (w : World) (e : Ending) (w' : World) : Prop :=
  ∃ r, e = .returned (.int .i64 r) ∧ Drawn n r ∧ Only B w w' ∧ IsSrc B a l c w'

theorem next_any (B : Nat) (a : Option Addr) (l c : Nat) (z : List Int) (n : Int) (w : World) (hs : IsSrc B a l c w) (hr : IsRow .u8 w a l c z) (ha : Apart a z B) :
    Calls Try.prog 71 #[.pointer (some ⟨B, 0, none⟩), .int .i64 n] w (NextPost B a l c n w) := by
  obtain ⟨t, x, S⟩ := hs
  by_cases hn : n ≤ 1
  · go_enter Try.func71, Try.ntmps71
    go_wp2
    go_ret
    exact ⟨0, rfl, ⟨fun h => by omega, fun _ => rfl⟩, Only.refl _ _, t, x, S⟩
  · have c0 := S.code
    have c1 := S.att
    have c2 := S.seed
    have f1 := S.free1
    have f2 := S.free2
    have t0 := S.t0
    have tl := S.tl
    have x0 := S.x0
    have xl := S.xl
    have SS := Lib.hid S
    clear S
    have hm := hr.len_le
    unfold maxLen at hm
    obtain ⟨y, hy⟩ : ∃ y, (x * 48271 + 71) % 2147483647 = y := ⟨_, rfl⟩
    have y0 : 0 ≤ y := by omega
    have yl : y < 2147483647 := by omega
    by_cases hlt : t < l
    · rcases hr with ⟨_, rfl, _, _⟩ | ⟨p, rfl, hl, hc, hz, hcell, hwf⟩
      · omega
      obtain ⟨b, off, rfl, hcl⟩ := ints_at hcell (by omega)
      have hbB : b < B := ha _ rfl (by omega)
      clear ha
      have cz := hcl t.toNat (by omega)
      have rz := range_u8 hwf t.toNat
      obtain ⟨v, hv⟩ : ∃ v, z.getD t.toNat 0 = v := ⟨_, rfl⟩
      have rz0 : 0 ≤ v ∧ v ≤ 255 := by rw [← hv]; simpa [List.getD] using rz
      rw [hv] at cz
      obtain ⟨v0, v1⟩ := rz0
      obtain ⟨k, rfl⟩ := Int.eq_ofNat_of_zero_le t0
      have HH := Lib.hid hcell
      have HC := Lib.hid hcl
      have HV := Lib.hid hv
      have HY := Lib.hid hwf
      clear hcell hcl hv hwf rz
      have hne : b ≠ B := by omega
      simp only [Int.toNat_natCast] at cz
      have gd : Only B w ((w.setCell ⟨B, 2, none⟩ (.int .i64 y))) := (Only.refl B w).setCell (p := ⟨B, 2, none⟩) rfl _
      have GD := Lib.hid gd
      clear gd
      have SD : Hid (∀ m, Src B (some ⟨b, off, none⟩) l c ((k : Int) + 1) y (((w.setCell ⟨B, 2, none⟩ (.int .i64 y)).drewN m).setCell ⟨B, 1, none⟩ (.int .i64 ((k : Int) + 1)))) :=
        Lib.hid fun m => ((SS.out.put2 y0 yl).drewN m).put1 (by omega) (by omega)
      have OD : Hid (∀ m, Only B w (((w.setCell ⟨B, 2, none⟩ (.int .i64 y)).drewN m).setCell ⟨B, 1, none⟩ (.int .i64 ((k : Int) + 1)))) :=
        Lib.hid fun m => (GD.out.drewN m).setCell (p := ⟨B, 1, none⟩) rfl _
      by_cases h256 : n ≤ 256
      · by_cases hev : ((k : Int) + 1) % 2 = 0
        · have he : (((k : Int) + 1) % 2 == 0) = true := by simpa using hev
          have HE := Lib.hid hev
          clear hev
          go_enter Try.func71, Try.ntmps71
          go_wp2
          go_quiet (fail)
          go_wp2
          go_quiet (fail)
          go_wp2
          go_quiet (fail)
          go_wp2
          go_ret
          exact ⟨v % n, rfl, drawn_mod _ _ (by omega), (OD.out _).drewN _, _, _, (SD.out _).drewN _⟩
        · have he : (((k : Int) + 1) % 2 == 0) = false := by simpa using hev
          have HE := Lib.hid hev
          clear hev
          go_enter Try.func71, Try.ntmps71
          go_wp2
          go_quiet (fail)
          go_wp2
          go_quiet (fail)
          go_wp2
          go_ret
          exact ⟨(y / 41 + v) % n, rfl, drawn_mod _ _ (by omega), OD.out _, _, _, SD.out _⟩
      · go_enter Try.func71, Try.ntmps71
        go_wp2
        go_quiet (fail)
        go_wp2
        go_quiet (fail)
        go_wp2
        go_ret
        exact ⟨(y / 41 + v) % n, rfl, drawn_mod _ _ (by omega), OD.out _, _, _, SD.out _⟩
    · go_enter Try.func71, Try.ntmps71
      go_wp2
      go_quiet (fail)
      go_wp2
      go_ret
      refine ⟨y / 41 % n, rfl, drawn_mod _ _ (by omega), ?_, t, y, ?_⟩
      · exact (((Only.refl B w).setCell (p := ⟨B, 2, none⟩) rfl _).drewN _)
      · exact ((SS.out.put2 y0 yl).drewN _)

def FromPost (a : Option Addr) (l c : Nat) (w : World) (e : Ending) (w' : World) : Prop :=
  e = .returned (.pointer (some ⟨w.heap.size, 0, none⟩)) ∧ IsSrc w.heap.size a l c w' ∧ w'.heap.size = w.heap.size + 1 ∧ Below w.heap.size w w'

theorem from_any (a : Option Addr) (l c : Nat) (z : List Int) (w : World) (hr : IsRow .u8 w a l c z) :
    Calls Try.prog 69 #[.slice a l c] w (FromPost a l c w) := by
  have ha := Lib.hid hr.apart
  have hm := hr.len_le
  unfold maxLen at hm
  have HR := Lib.hid hr
  clear hr
  go_enter Try.func69, Try.ntmps69
  go_wp2
  have SA : Src w.heap.size a l c 0 25001 (w.alloc (.cells #[.slice a l c, .int .i64 0, .int .i64 25001] 124)) := by
    constructor <;> first | omega | (simp; done) | go_simp
  have OA := Lib.hid SA
  clear SA
  go_loopw [4] (fun i wr => ∃ (k : Nat) (x : Int), k ≤ l ∧ k ≤ 64 ∧ i = .int .i64 k ∧ Hid (Src w.heap.size a l c 0 x wr) ∧ Hid (Only w.heap.size (w.alloc (.cells #[.slice a l c, .int .i64 0, .int .i64 25001] 124)) wr)) (fun i _ => 64 - (intOf i).toNat)
  case atStart => exact ⟨0, 25001, Nat.zero_le _, Nat.zero_le _, rfl, OA, Lib.hid (Only.refl _ _)⟩
  case round =>
    obtain ⟨k, x, hk, hk2, rfl, HS, HO⟩ := hrel
    by_cases hlt : k < l
    · by_cases h64 : k < 64
      · rcases HR.out with ⟨_, rfl, _, _⟩ | ⟨p, rfl, hl, hc, hz, hcell, hwf⟩
        · omega
        obtain ⟨b, off, rfl, hcl⟩ := ints_at hcell (by omega)
        have hbB : b < w.heap.size := ha.out _ rfl (by omega)
        have cz := hcl k (by omega)
        have rz := range_u8 hwf k
        obtain ⟨v, hv⟩ : ∃ v, z.getD k 0 = v := ⟨_, rfl⟩
        have rz0 : 0 ≤ v ∧ v ≤ 255 := by rw [← hv]; simpa [List.getD] using rz
        rw [hv] at cz
        obtain ⟨v0, v1⟩ := rz0
        have cy : wr.cell? ⟨b, off + k, none⟩ = some (.int .u8 v) := by
          rw [HO.out.cell (p := ⟨b, off + k, none⟩) (by simp; omega), World.cell?_alloc_lt _ _ _ hbB]; exact cz
        have c2 := HS.out.seed
        have f2 := HS.out.free2
        have x0 := HS.out.x0
        have xl := HS.out.xl
        have hne : b ≠ w.heap.size := by omega
        clear hcell hcl hv hwf rz cz
        obtain ⟨y, hy⟩ : ∃ y, (x * 71 + v) % 2147483647 = y := ⟨_, rfl⟩
        have y0 : 0 ≤ y := by omega
        have yl : y < 2147483647 := by omega
        go_wp2
        go_region
        all_goals
          go_wp2
          go_roundw
          case rel => exact ⟨k + 1, y, by omega, by omega, by go_num, Lib.hid (by first | exact (HS.out.put2 y0 yl).drew | exact (HS.out.drew.put2 y0 yl) | exact (HS.out.put2 y0 yl)), Lib.hid (by first | exact (HO.out.setCell (p := ⟨w.heap.size, 2, none⟩) rfl _).drew | exact (HO.out.drew.setCell (p := ⟨w.heap.size, 2, none⟩) rfl _))⟩
          case measure => simp [intOf]; omega
      · go_wp2
        go_ret
        exact ⟨rfl, ⟨_, _, HS.out⟩, HO.out.size.trans (by simp), ((Below.refl _ _).alloc (Nat.le_refl _) _).trans (HO.out.below (Nat.le_refl _))⟩
    · go_wp2
      go_ret
      exact ⟨rfl, ⟨_, _, HS.out⟩, HO.out.size.trans (by simp), ((Below.refl _ _).alloc (Nat.le_refl _) _).trans (HO.out.below (Nat.le_refl _))⟩

theorem drawn_bd {n r : Int} (h : Drawn n r) (hn : 1 ≤ n) : 0 ≤ r ∧ r < n := by
  obtain ⟨h1, h2⟩ := h
  by_cases h : 1 < n
  · exact h1 h
  · have := h2 (by omega); omega

/-- one of the numbers zs (the draw gives the index) -/
def PickPost (B : Nat) (a : Option Addr) (l c : Nat) (zs : List Int) (w : World) (e : Ending) (w' : World) : Prop :=
  ∃ r, e = .returned (.int .i64 r) ∧ r ∈ zs ∧ Only B w w' ∧ IsSrc B a l c w'

theorem pick_any (B L : Nat) (a : Option Addr) (l c m : Nat) (z zs : List Int) (w : World) (hs : IsSrc B a l c w) (hr : IsRow .u8 w a l c z) (ha : Apart a z B)
    (hL : L ≠ B) (hz : zs.length = m) (hm0 : 0 < m) (hm1 : m < 1000) (hcell : ∀ i, i < m → w.cell? ⟨L, i, none⟩ = some (.int .i64 (zs.getD i 0))) :
    Calls Try.prog 72 #[.pointer (some ⟨B, 0, none⟩), .slice (some ⟨L, 0, none⟩) m m] w (PickPost B a l c zs w) := by
  have HA := Lib.hid ha
  have HR := Lib.hid hr
  have HC := Lib.hid hcell
  have HZ := Lib.hid hz
  clear ha hr hcell hz
  go_enter Try.func72, Try.ntmps72
  go_wp2_with (go_at_call 71; go_must (refine (next_any B a l c z _ _ hs HR.out HA.out).mono ?_; rintro e w' ⟨r, rfl, hd, ho, hs'⟩; have hr := drawn_bd hd (by omega);  obtain ⟨j, rfl⟩ := Int.eq_ofNat_of_zero_le hr.1; have hj : j < m := (by omega); clear hr; have hc' : w'.cell? ⟨L, j, none⟩ = some (.int .i64 (zs.getD j 0)) := (ho.cell (p := ⟨L, j, none⟩) hL).trans (HC.out j hj); have HO := Lib.hid ho; have HS := Lib.hid hs'; clear ho hs' hd))
  go_ret
  exact ⟨_, rfl, by rw [List.getElem?_eq_getElem (by rw [HZ.out]; assumption)]; simp, HO.out, HS.out⟩

/-- Of what was there only block B has turned. -/
structure But (B : Nat) (w w' : World) : Prop where
  os : w'.os = w.os
  tape : w'.tape = w.tape
  output : w'.output = w.output
  size : w.heap.size ≤ w'.heap.size
  block : ∀ k, k < w.heap.size → k ≠ B → w'.heap[k]? = w.heap[k]?

theorem But.refl (B : Nat) (w : World) : But B w w := ⟨rfl, rfl, rfl, Nat.le_refl _, fun _ _ _ => rfl⟩

theorem But.trans {B : Nat} {a b c : World} (h : But B a b) (k : But B b c) : But B a c :=
  ⟨k.os.trans h.os, k.tape.trans h.tape, k.output.trans h.output, Nat.le_trans h.size k.size, fun i hi hb => (k.block i (Nat.lt_of_lt_of_le hi h.size) hb).trans (h.block i hi hb)⟩

theorem Only.but {B : Nat} {w w' : World} (h : Only B w w') : But B w w' := ⟨h.os, h.tape, h.output, by rw [h.size]; exact Nat.le_refl _, fun k _ hb => h.block k hb⟩

theorem But.below {A B : Nat} {w w' : World} (h : But B w w') (hA : A ≤ B) (hs : A ≤ w.heap.size) : Below A w w' :=
  ⟨h.os, h.tape, h.output, h.size, fun k hk => h.block k (by omega) (by omega)⟩

theorem But.alloc {B : Nat} {w : World} (o : Obj) : But B w (w.alloc o) :=
  ⟨rfl, rfl, rfl, by simp, fun k hk _ => Below.heap_alloc _ _ _ hk⟩

theorem But.drew {B : Nat} {w w' : World} (h : But B w w') : But B w w'.drew := ⟨h.os, h.tape, h.output, h.size, h.block⟩

theorem But.drewN {B : Nat} {w w' : World} (h : But B w w') (n : Nat) : But B w (w'.drewN n) := ⟨h.os, h.tape, h.output, h.size, h.block⟩

theorem But.cell {B : Nat} {w w' : World} (h : But B w w') {p : Addr} (hp : p.block < w.heap.size) (hb : p.block ≠ B) : w'.cell? p = w.cell? p := World.cell?_of_block (w := w) (h.block p.block hp hb)

theorem But.frozen {B : Nat} {w w' : World} (h : But B w w') {p : Addr} (hp : p.block < w.heap.size) (hb : p.block ≠ B) : w'.frozen? p = w.frozen? p := World.frozen?_of_block (w := w) (h.block p.block hp hb)

/-- Block B holds a source, and what it reads lies below it. -/
structure Ready (B : Nat) (a : Option Addr) (l c : Nat) (z : List Int) (w : World) : Prop where
  src : IsSrc B a l c w
  row : IsRow .u8 w a l c z
  apart : Apart a z B

theorem Ready.here {B l c : Nat} {a : Option Addr} {z : List Int} {w : World} (h : Ready B a l c z w) : B < w.heap.size := by
  obtain ⟨_, _, S⟩ := h.src; exact S.here

theorem Ready.below {B C l c : Nat} {a : Option Addr} {z : List Int} {w w' : World} (h : Ready B a l c z w) (hb : Below C w w') (hC : B < C) : Ready B a l c z w' := by
  obtain ⟨⟨t, x, S⟩, r, p⟩ := h
  refine ⟨⟨t, x, ?_⟩, r.below hb (p.mono (by omega)), p⟩
  exact ⟨Nat.lt_of_lt_of_le S.here hb.size, (hb.cell (p := ⟨B, 0, none⟩) hC).trans S.code, (hb.cell (p := ⟨B, 1, none⟩) hC).trans S.att, (hb.cell (p := ⟨B, 2, none⟩) hC).trans S.seed,
    (hb.frozen (p := ⟨B, 0, none⟩) hC).trans S.free0, (hb.frozen (p := ⟨B, 1, none⟩) hC).trans S.free1, (hb.frozen (p := ⟨B, 2, none⟩) hC).trans S.free2, S.t0, S.tl, S.x0, S.xl⟩

theorem Ready.alloc {B l c : Nat} {a : Option Addr} {z : List Int} {w : World} (h : Ready B a l c z w) (o : Obj) : Ready B a l c z (w.alloc o) :=
  h.below (Below.refl w.heap.size w |>.alloc (Nat.le_refl _) o) h.here

theorem Ready.drew {B l c : Nat} {a : Option Addr} {z : List Int} {w : World} (h : Ready B a l c z w) : Ready B a l c z w.drew :=
  h.below (Below.refl w.heap.size w |>.drew) h.here

theorem Ready.drewN {B l c : Nat} {a : Option Addr} {z : List Int} {w : World} (h : Ready B a l c z w) (n : Nat) : Ready B a l c z (w.drewN n) :=
  h.below (below_drewN (Below.refl w.heap.size w) n) h.here

def NumPost (B : Nat) (a : Option Addr) (l c : Nat) (z : List Int) (p : Int → Prop) (w : World) (e : Ending) (w' : World) : Prop :=
  ∃ r, e = .returned (.int .i64 r) ∧ p r ∧ But B w w' ∧ Ready B a l c z w'

theorem next_r (B : Nat) (a : Option Addr) (l c : Nat) (z : List Int) (n : Int) (w : World) (h : Ready B a l c z w) :
    Calls Try.prog 71 #[.pointer (some ⟨B, 0, none⟩), .int .i64 n] w (NumPost B a l c z (Drawn n) w) :=
  (next_any B a l c z n w h.src h.row h.apart).mono fun e w' ⟨r, he, hd, ho, hs⟩ =>
    ⟨r, he, hd, ho.but, hs, h.row.below (ho.below (Nat.le_refl B)) h.apart, h.apart⟩

theorem pick_r (B L : Nat) (a : Option Addr) (l c m : Nat) (z zs : List Int) (w : World) (h : Ready B a l c z w)
    (hL : L ≠ B) (hz : zs.length = m) (hm0 : 0 < m) (hm1 : m < 1000) (hcell : ∀ i, i < m → w.cell? ⟨L, i, none⟩ = some (.int .i64 (zs.getD i 0))) :
    Calls Try.prog 72 #[.pointer (some ⟨B, 0, none⟩), .slice (some ⟨L, 0, none⟩) m m] w (NumPost B a l c z (· ∈ zs) w) :=
  (pick_any B L a l c m z zs w h.src h.row h.apart hL hz hm0 hm1 hcell).mono fun e w' ⟨r, he, hd, ho, hs⟩ =>
    ⟨r, he, hd, ho.but, hs, h.row.below (ho.below (Nat.le_refl B)) h.apart, h.apart⟩

/-- a new block of integers, as 'buildSlice' lays it -/
theorem new_cells (w : World) (zs : List Int) (T : TypeId) : ∀ i, i < zs.length → (w.alloc (.cells (zs.map (Value.int .i64)).toArray T)).cell? ⟨w.heap.size, i, none⟩ = some (.int .i64 (zs.getD i 0)) := by
  intro i hi
  rw [World.cell?_alloc_at _ _ _ _ rfl]
  simp [List.getD, hi]

def Any (_ : Int) : Prop := True

/-- a pick out of a new row of numbers -/
theorem pick_new (B : Nat) (zs : List Int) (m : Nat) (C : Array Value) (T : TypeId) (w : World) {a : Option Addr} {l c : Nat} {z : List Int} (h : Ready B a l c z w)
    (hC : C = (zs.map (Value.int .i64)).toArray) (hz : zs.length = m) (hm0 : 0 < m) (hm1 : m < 1000) :
    Calls Try.prog 72 #[.pointer (some ⟨B, 0, none⟩), .slice (some ⟨w.heap.size, 0, none⟩) m m] (w.alloc (.cells C T)) (NumPost B a l c z (· ∈ zs) w) := by
  subst hC
  subst hz
  refine (pick_r B _ a l c _ z zs _ (h.alloc _) (by have := h.here; omega) rfl hm0 hm1 (new_cells _ _ _)).mono ?_
  rintro e w1 ⟨r, rfl, hd, ho, hs⟩
  exact ⟨r, rfl, hd, (But.alloc _).trans ho, hs⟩

theorem pick2 (B : Nat) (x1 x2 : Int) (T : TypeId) (w : World) {a : Option Addr} {l c : Nat} {z : List Int} (h : Ready B a l c z w) :
    Calls Try.prog 72 #[.pointer (some ⟨B, 0, none⟩), .slice (some ⟨w.heap.size, 0, none⟩) 2 2] (w.alloc (.cells #[.int .i64 x1, .int .i64 x2] T)) (NumPost B a l c z (· ∈ [x1, x2]) w) :=
  pick_new B [x1, x2] 2 _ T w h rfl rfl (by decide) (by decide)

theorem pick3 (B : Nat) (x1 x2 x3 : Int) (T : TypeId) (w : World) {a : Option Addr} {l c : Nat} {z : List Int} (h : Ready B a l c z w) :
    Calls Try.prog 72 #[.pointer (some ⟨B, 0, none⟩), .slice (some ⟨w.heap.size, 0, none⟩) 3 3] (w.alloc (.cells #[.int .i64 x1, .int .i64 x2, .int .i64 x3] T)) (NumPost B a l c z (· ∈ [x1, x2, x3]) w) :=
  pick_new B [x1, x2, x3] 3 _ T w h rfl rfl (by decide) (by decide)

theorem pick4 (B : Nat) (x1 x2 x3 x4 : Int) (T : TypeId) (w : World) {a : Option Addr} {l c : Nat} {z : List Int} (h : Ready B a l c z w) :
    Calls Try.prog 72 #[.pointer (some ⟨B, 0, none⟩), .slice (some ⟨w.heap.size, 0, none⟩) 4 4] (w.alloc (.cells #[.int .i64 x1, .int .i64 x2, .int .i64 x3, .int .i64 x4] T)) (NumPost B a l c z (· ∈ [x1, x2, x3, x4]) w) :=
  pick_new B [x1, x2, x3, x4] 4 _ T w h rfl rfl (by decide) (by decide)

theorem pick5 (B : Nat) (x1 x2 x3 x4 x5 : Int) (T : TypeId) (w : World) {a : Option Addr} {l c : Nat} {z : List Int} (h : Ready B a l c z w) :
    Calls Try.prog 72 #[.pointer (some ⟨B, 0, none⟩), .slice (some ⟨w.heap.size, 0, none⟩) 5 5] (w.alloc (.cells #[.int .i64 x1, .int .i64 x2, .int .i64 x3, .int .i64 x4, .int .i64 x5] T)) (NumPost B a l c z (· ∈ [x1, x2, x3, x4, x5]) w) :=
  pick_new B [x1, x2, x3, x4, x5] 5 _ T w h rfl rfl (by decide) (by decide)

theorem ready_of {a : Option Addr} {l c : Nat} {z : List Int} {w w1 : World} (hr : IsRow .u8 w a l c z) (hs : IsSrc w.heap.size a l c w1) (hb : Below w.heap.size w w1) : Ready w.heap.size a l c z w1 :=
  ⟨hs, hr.below hb hr.apart, hr.apart⟩

def TwoPost (w : World) (e : Ending) (w' : World) : Prop := ∃ x y, e = .returned (.tuple #[.int .i64 x, .int .i64 y]) ∧ Below w.heap.size w w'

def OnePost (w : World) (e : Ending) (w' : World) : Prop := ∃ x, e = .returned (.int .i64 x) ∧ Below w.heap.size w w'

end Go.Proofs.Ytmnddplkmljeaaa
