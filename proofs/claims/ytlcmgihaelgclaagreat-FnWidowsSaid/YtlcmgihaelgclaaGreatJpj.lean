/- The joint table of the program: the walk. | JointTable of the program: what a call returns. -/
import Derived.Test.YtlcmgihaelgclaaGreatJpi
import Derived.Deep.RegionHeld3
namespace Go.Proofs.YtlcmgihaelgclaaGreat
open Go.ChangeShapes Go.WideShapes Go.ChangeAt Go.RowKit
set_option linter.unusedVariables false
set_option maxRecDepth 100000

/-- two lists joined: M numbers -/
def jzL (p : Int) (us vs : List Int) (M : Nat) : List Int := (List.range M).map fun k => us.getD k 0 * vs.getD k 0 / p

theorem jzL_len (p : Int) (us vs : List Int) (M : Nat) : (jzL p us vs M).length = M := by simp [jzL]

theorem jzL_get (p : Int) (us vs : List Int) (M k : Nat) (h : k < M) : (jzL p us vs M).getD k 0 = us.getD k 0 * vs.getD k 0 / p := by
  rw [List.getD_eq_getElem?_getD, List.getElem?_eq_getElem (by rw [jzL_len]; exact h)]
  simp [jzL]

theorem setFar {w : World} {p : Addr} {B k : Nat} {v u : Value} (hn : p.block ≠ B) (h : w.cell? p = some u) : (w.setCell ⟨B, k, none⟩ v).cell? p = some u :=
  (World.cell?_of_block (w := w) (far_setCell w ⟨B, k, none⟩ v p.block hn)).trans h

/-- what a joining leaves -/
def JoPost (zs : List Int) (M : Nat) (w : World) (e : Ending) (w' : World) : Prop := ∃ g, e = .returned (.slice (some ⟨g, 0, none⟩) M M) ∧ w.heap.size ≤ g ∧ Blk w' g zs ∧ Below w.heap.size w w'

/-- numbers small enough to be joined -/
def Small8 (us : List Int) : Prop := ∀ i, 0 ≤ us.getD i 0 ∧ us.getD i 0 ≤ 1000000

set_option maxHeartbeats 4000000 in
theorem joinp_any (us vs : List Int) (a1 a2 : Option Addr) (n1 c1 n2 c2 M PB : Nat) (p : Int) (w : World) (h : Ints w a1 n1 us) (k : Ints w a2 n2 vs) (hM : M = min n1 n2) (hM0 : 0 < M) (hM1 : M ≤ 4096) (hp : w.cell? ⟨PB, 0, none⟩ = some (.int .i64 p)) (p1 : 1 ≤ p) (hu : Small8 us) (hv : Small8 vs) :
    Calls Tryz.prog 45 #[.agg #[.slice a1 n1 c1, .slice a2 n2 c2], .func (.func 46) #[] #[.pointer (some ⟨PB, 0, none⟩)]] w (JoPost (jzL p us vs M) M w) := by
  have hm1 := h.max
  have hm2 := k.max
  obtain ⟨b1, o1, rfl, hb1, hc1⟩ := h.at (by omega)
  obtain ⟨b2, o2, rfl, hb2, hc2⟩ := k.at (by omega)
  have HC1 := Lib.hid hc1
  have HC2 := Lib.hid hc2
  have HU := Lib.hid hu
  have HVV := Lib.hid hv
  have hPB : PB < w.heap.size := block_lt hp
  have HPC := Lib.hid hp
  have HZ := Lib.hid (jzL_get p us vs M)
  have HZL := Lib.hid (jzL_len p us vs M)
  have hmk := make_ints M (by omega)
  have HG0 : Hid (Bx ((w.alloc (.cells #[.slice (some ⟨b1, o1, none⟩) n1 c1, .slice (some ⟨b2, o2, none⟩) n2 c2] 67)).alloc (.cells ((List.replicate M (0 : Int)).map (Value.int .i64)).toArray 2)) w.heap.size [.slice (some ⟨b1, o1, none⟩) n1 c1, .slice (some ⟨b2, o2, none⟩) n2 c2]) := Lib.hid ((Bx.new w _ _).on (box_b _ _))
  have HB0 := Lib.hid (Blk.new (w.alloc (.cells #[.slice (some ⟨b1, o1, none⟩) n1 c1, .slice (some ⟨b2, o2, none⟩) n2 c2] 67)) (List.replicate M (0 : Int)))
  have HL0 : Hid (Below w.heap.size w ((w.alloc (.cells #[.slice (some ⟨b1, o1, none⟩) n1 c1, .slice (some ⟨b2, o2, none⟩) n2 c2] 67)).alloc (.cells ((List.replicate M (0 : Int)).map (Value.int .i64)).toArray 2))) := Lib.hid ((box_b _ _).alloc (by simp) _)
  rw [World.size_alloc] at HB0
  have e9 : ((List.replicate M (0 : Int)).map (Value.int .i64)).toArray = Array.replicate M (Value.int .i64 0) := by simp
  rw [e9] at HG0 HL0
  obtain ⟨Z, hZ⟩ : ∃ y_, jzL p us vs M = y_ := ⟨_, rfl⟩
  rw [hZ] at HZ HZL ⊢
  have hMM : (n1 ≤ n2 ∧ M = n1) ∨ (n2 < n1 ∧ M = n2) := by omega
  have hn1 : M ≤ n1 := by omega
  have hn2 : M ≤ n2 := by omega
  have hmn : min (n1 : Int) (n2 : Int) = (M : Int) := by omega
  clear h k hc1 hc2 hu hv hp hZ hM e9
  rcases hMM with ⟨hle, he⟩ | ⟨hlt, he⟩
  · subst he
    go_enter Tryz.func45, Tryz.ntmps45
    go_wp2_with fail
    clear hmk
    go_loopw [6, 17] (fun _ i wr => ∃ k : Nat, k ≤ M ∧ i = .int .i64 k ∧ Hid (Blk wr (w.heap.size + 1) (Z.take k ++ List.replicate (Z.length - k) 0)) ∧ Hid (Bx wr w.heap.size [.slice (some ⟨b1, o1, none⟩) M c1, .slice (some ⟨b2, o2, none⟩) n2 c2]) ∧ Hid (Below w.heap.size w wr)) (fun _ i _ => M - (intOf i).toNat)
    case atStart => exact ⟨0, Nat.zero_le _, rfl, Lib.hid (by rw [HZL.out]; simpa using HB0.out), HG0, HL0⟩
    case round =>
      clear HG0 HB0 HL0
      obtain ⟨k, hk, rfl, HK, HG, HW⟩ := hrel
      by_cases hlt2 : k < M
      · have hx : wr.cell? ⟨b1, o1 + k, none⟩ = some (.int .i64 (us.getD k 0)) := (HW.out.cell (p := ⟨b1, o1 + k, none⟩) hb1).trans (HC1.out k (by omega))
        have hy : wr.cell? ⟨b2, o2 + k, none⟩ = some (.int .i64 (vs.getD k 0)) := (HW.out.cell (p := ⟨b2, o2 + k, none⟩) hb2).trans (HC2.out k (by omega))
        have hpc : wr.cell? ⟨PB, 0, none⟩ = some (.int .i64 p) := (HW.out.cell (p := ⟨PB, 0, none⟩) hPB).trans HPC.out
        have hg0 := HG.out.two.1
        have hg1 := HG.out.two.2
        have hz := HK.out.cell k (by simp; have := HZL.out; omega)
        have hf := HK.out.free k
        obtain ⟨u0, u1⟩ := HU.out k
        obtain ⟨v0, v1⟩ := HVV.out k
        have HZK := Lib.hid (HZ.out k hlt2)
        obtain ⟨u, hu⟩ : ∃ y_, us.getD k 0 = y_ := ⟨_, rfl⟩
        obtain ⟨v, hv⟩ : ∃ y_, vs.getD k 0 = y_ := ⟨_, rfl⟩
        obtain ⟨z0, hz0⟩ : ∃ y_, (Z.take k ++ List.replicate (Z.length - k) 0).getD k 0 = y_ := ⟨_, rfl⟩
        rw [hu] at hx u0 u1 HZK
        rw [hv] at hy v0 v1 HZK
        rw [hz0] at hz
        have e0 : 0 ≤ u * v := Int.mul_nonneg u0 v0
        have e1 : u * v ≤ 1000000000000 := by
          have := Int.mul_le_mul u1 v1 v0 (show (0 : Int) ≤ 1000000 by omega); omega
        have CJ := Lib.hid (fun W hW => join_any PB p u v W hW p1 e0 e1)
        obtain ⟨V, hV⟩ : ∃ y_, u * v / p = y_ := ⟨_, rfl⟩
        rw [hV] at CJ HZK
        have hneX : w.heap.size ≠ w.heap.size + 1 := by omega
        have hne1 : b1 ≠ w.heap.size + 1 := by omega
        have hne2 : b2 ≠ w.heap.size + 1 := by omega
        have hne3 : PB ≠ w.heap.size + 1 := by omega
        have hk0 : (0 : Int) ≤ (k : Int) := by omega
        have hkN1 : (k : Int) < (M : Int) := by omega
        have hkN1 : (k : Int) < (M : Int) := by omega
        have hkN2 : (k : Int) < (n2 : Int) := by omega
        have hkn1 : k < M := by omega
        have hkN2 : k < n2 := by omega
        clear hu hv hz0 hV e0 e1
        go_wp2_with fail
        have hz : wr.drew.cell? ⟨w.heap.size + 1, k, none⟩ = some (.int .i64 z0) := cell_drew hz
        have hf : wr.drew.frozen? ⟨w.heap.size + 1, k, none⟩ = false := hf
        go_region_held3 (fun w' => w'.cell? ⟨w.heap.size, 0, none⟩ = some (.slice (some ⟨b1, o1, none⟩) M c1) ∧ w'.cell? ⟨w.heap.size, 1, none⟩ = some (.slice (some ⟨b2, o2, none⟩) n2 c2) ∧ w'.cell? ⟨b1, o1 + k, none⟩ = some (.int .i64 u) ∧ w'.cell? ⟨b2, o2 + k, none⟩ = some (.int .i64 v) ∧ w'.cell? ⟨PB, 0, none⟩ = some (.int .i64 p))
          (first
            | (go_split_ands; exact ⟨by with_reducible assumption, by with_reducible assumption, by with_reducible assumption, by with_reducible assumption, by with_reducible assumption⟩)
            | (go_split_ands; exact ⟨cell_drew (by with_reducible assumption), cell_drew (by with_reducible assumption), cell_drew (by with_reducible assumption), cell_drew (by with_reducible assumption), cell_drew (by with_reducible assumption)⟩)
            | (go_split_ands; exact ⟨setFar hneX (by with_reducible assumption), setFar hneX (by with_reducible assumption), setFar hne1 (by with_reducible assumption), setFar hne2 (by with_reducible assumption), setFar hne3 (by with_reducible assumption)⟩)
            | fail)
          (first
            | (go_split_ands; go_at_call 46; ((with_reducible refine (CJ.out _ (by with_reducible assumption)).mono ?_); rintro e w' ⟨rfl, rfl⟩))
            | fail)
        all_goals
          go_split_ands
          go_wp2_with fail
          go_roundw
          case rel => exact ⟨k + 1, by omega, by go_num, Lib.hid (by have := HK.out.set k V; rw [← HZK.out, set_step Z k (by rw [HZL.out]; exact hlt2), HZK.out] at this; exact this), Lib.hid (HG.out.same (far_setCell _ _ _ _ hneX)), Lib.hid (HW.out.drew.setCell (p := ⟨w.heap.size + 1, k, none⟩) (by show w.heap.size ≤ w.heap.size + 1; omega) _)⟩
          case measure => simp [intOf]; omega
      · go_wp2_with fail
        go_ret
        obtain rfl : k = M := by omega
        have hh := HK.out
        rw [HZL.out, Nat.sub_self, List.replicate_zero, List.append_nil, List.take_of_length_le (by rw [HZL.out]; exact Nat.le_refl _)] at hh
        exact ⟨w.heap.size + 1, rfl, by omega, hh, HW.out⟩
  · subst he
    go_enter Tryz.func45, Tryz.ntmps45
    go_wp2_with fail
    clear hmk
    go_loopw [6, 17] (fun _ i wr => ∃ k : Nat, k ≤ M ∧ i = .int .i64 k ∧ Hid (Blk wr (w.heap.size + 1) (Z.take k ++ List.replicate (Z.length - k) 0)) ∧ Hid (Bx wr w.heap.size [.slice (some ⟨b1, o1, none⟩) n1 c1, .slice (some ⟨b2, o2, none⟩) M c2]) ∧ Hid (Below w.heap.size w wr)) (fun _ i _ => M - (intOf i).toNat)
    case atStart => exact ⟨0, Nat.zero_le _, rfl, Lib.hid (by rw [HZL.out]; simpa using HB0.out), HG0, HL0⟩
    case round =>
      clear HG0 HB0 HL0
      obtain ⟨k, hk, rfl, HK, HG, HW⟩ := hrel
      by_cases hlt2 : k < M
      · have hx : wr.cell? ⟨b1, o1 + k, none⟩ = some (.int .i64 (us.getD k 0)) := (HW.out.cell (p := ⟨b1, o1 + k, none⟩) hb1).trans (HC1.out k (by omega))
        have hy : wr.cell? ⟨b2, o2 + k, none⟩ = some (.int .i64 (vs.getD k 0)) := (HW.out.cell (p := ⟨b2, o2 + k, none⟩) hb2).trans (HC2.out k (by omega))
        have hpc : wr.cell? ⟨PB, 0, none⟩ = some (.int .i64 p) := (HW.out.cell (p := ⟨PB, 0, none⟩) hPB).trans HPC.out
        have hg0 := HG.out.two.1
        have hg1 := HG.out.two.2
        have hz := HK.out.cell k (by simp; have := HZL.out; omega)
        have hf := HK.out.free k
        obtain ⟨u0, u1⟩ := HU.out k
        obtain ⟨v0, v1⟩ := HVV.out k
        have HZK := Lib.hid (HZ.out k hlt2)
        obtain ⟨u, hu⟩ : ∃ y_, us.getD k 0 = y_ := ⟨_, rfl⟩
        obtain ⟨v, hv⟩ : ∃ y_, vs.getD k 0 = y_ := ⟨_, rfl⟩
        obtain ⟨z0, hz0⟩ : ∃ y_, (Z.take k ++ List.replicate (Z.length - k) 0).getD k 0 = y_ := ⟨_, rfl⟩
        rw [hu] at hx u0 u1 HZK
        rw [hv] at hy v0 v1 HZK
        rw [hz0] at hz
        have e0 : 0 ≤ u * v := Int.mul_nonneg u0 v0
        have e1 : u * v ≤ 1000000000000 := by
          have := Int.mul_le_mul u1 v1 v0 (show (0 : Int) ≤ 1000000 by omega); omega
        have CJ := Lib.hid (fun W hW => join_any PB p u v W hW p1 e0 e1)
        obtain ⟨V, hV⟩ : ∃ y_, u * v / p = y_ := ⟨_, rfl⟩
        rw [hV] at CJ HZK
        have hneX : w.heap.size ≠ w.heap.size + 1 := by omega
        have hne1 : b1 ≠ w.heap.size + 1 := by omega
        have hne2 : b2 ≠ w.heap.size + 1 := by omega
        have hne3 : PB ≠ w.heap.size + 1 := by omega
        have hk0 : (0 : Int) ≤ (k : Int) := by omega
        have hkN1 : (k : Int) < (n1 : Int) := by omega
        have hkN1 : k < n1 := by omega
        have hkn2 : k < M := by omega
        clear hu hv hz0 hV e0 e1
        go_wp2_with fail
        have hz : wr.drew.cell? ⟨w.heap.size + 1, k, none⟩ = some (.int .i64 z0) := cell_drew hz
        have hf : wr.drew.frozen? ⟨w.heap.size + 1, k, none⟩ = false := hf
        go_region_held3 (fun w' => w'.cell? ⟨w.heap.size, 0, none⟩ = some (.slice (some ⟨b1, o1, none⟩) n1 c1) ∧ w'.cell? ⟨w.heap.size, 1, none⟩ = some (.slice (some ⟨b2, o2, none⟩) M c2) ∧ w'.cell? ⟨b1, o1 + k, none⟩ = some (.int .i64 u) ∧ w'.cell? ⟨b2, o2 + k, none⟩ = some (.int .i64 v) ∧ w'.cell? ⟨PB, 0, none⟩ = some (.int .i64 p))
          (first
            | (go_split_ands; exact ⟨by with_reducible assumption, by with_reducible assumption, by with_reducible assumption, by with_reducible assumption, by with_reducible assumption⟩)
            | (go_split_ands; exact ⟨cell_drew (by with_reducible assumption), cell_drew (by with_reducible assumption), cell_drew (by with_reducible assumption), cell_drew (by with_reducible assumption), cell_drew (by with_reducible assumption)⟩)
            | (go_split_ands; exact ⟨setFar hneX (by with_reducible assumption), setFar hneX (by with_reducible assumption), setFar hne1 (by with_reducible assumption), setFar hne2 (by with_reducible assumption), setFar hne3 (by with_reducible assumption)⟩)
            | fail)
          (first
            | (go_split_ands; go_at_call 46; ((with_reducible refine (CJ.out _ (by with_reducible assumption)).mono ?_); rintro e w' ⟨rfl, rfl⟩))
            | fail)
        all_goals
          go_split_ands
          go_wp2_with fail
          go_roundw
          case rel => exact ⟨k + 1, by omega, by go_num, Lib.hid (by have := HK.out.set k V; rw [← HZK.out, set_step Z k (by rw [HZL.out]; exact hlt2), HZK.out] at this; exact this), Lib.hid (HG.out.same (far_setCell _ _ _ _ hneX)), Lib.hid (HW.out.drew.setCell (p := ⟨w.heap.size + 1, k, none⟩) (by show w.heap.size ≤ w.heap.size + 1; omega) _)⟩
          case measure => simp [intOf]; omega
      · go_wp2_with fail
        go_ret
        obtain rfl : k = M := by omega
        have hh := HK.out
        rw [HZL.out, Nat.sub_self, List.replicate_zero, List.append_nil, List.take_of_length_le (by rw [HZL.out]; exact Nat.le_refl _)] at hh
        exact ⟨w.heap.size + 1, rfl, by omega, hh, HW.out⟩

/-! ### JointTable -/

theorem drop_get (xs : List Int) (d k : Nat) : (xs.drop d).getD k 0 = xs.getD (d + k) 0 := by
  rw [List.getD_eq_getElem?_getD, List.getD_eq_getElem?_getD, List.getElem?_drop]

/-- what both lists are where there is a joint table -/
theorem Duo.lists {f : Int} {xs : List Int} {x g : Int} {ys : List Int} {y : Int} (h : Duo f xs x g ys y) :
    (lfL f xs x = xs.drop (x - f).toNat ∧ lfL g ys y = ys.drop (y - g).toNat) ∧ (∀ k : Nat, (lfL f xs x).getD k 0 = lvs f xs (x + k)) ∧ (∀ k : Nat, (lfL g ys y).getD k 0 = lvs g ys (y + k)) ∧ (jn f xs x g ys y < (lfL f xs x).length ∧ (lfL f xs x).length ≤ 120) ∧ (jn f xs x g ys y < (lfL g ys y).length ∧ (lfL g ys y).length ≤ 120) := by
  have x0 := h.x0
  have y0 := h.y0
  have e1 : lfL f xs x = xs.drop (x - f).toNat := by
    have : clE f xs x 0 = 0 := clE_iff.2 ⟨h.t, ⟨h.x0, by have := h.x1; omega⟩, by omega, by have := h.tx; omega⟩
    simp [lfL, this]
  have e2 : lfL g ys y = ys.drop (y - g).toNat := by
    have : clE g ys y 0 = 0 := clE_iff.2 ⟨h.u, ⟨h.y0, h.y1⟩, by omega, by have := h.uy; omega⟩
    simp [lfL, this]
  have h1 := h.jn_t
  have h2 := h.jn_u
  have h3 := h.t.2.1
  have h4 := h.u.2.1
  refine ⟨⟨e1, e2⟩, fun k => ?_, fun k => ?_, ?_, ?_⟩
  · rw [e1, drop_get]; unfold lvs; congr 1; omega
  · rw [e2, drop_get]; unfold lvs; congr 1; omega
  · rw [e1, List.length_drop]; omega
  · rw [e2, List.length_drop]; omega

theorem take_jt {f : Int} {xs : List Int} {x g : Int} {ys : List Int} {y : Int} (h : Duo f xs x g ys y) (p M : Nat) (hM : jn f xs x g ys y < M) (us vs : List Int) (h1 : ∀ k : Nat, us.getD k 0 = lvs f xs (x + k)) (h2 : ∀ k : Nat, vs.getD k 0 = lvs g ys (y + k)) :
    (jzL (lvs g ys y) us vs M).take (jn f xs x g ys y + 1) = jtL f xs x g ys y ∧ (∀ k, k < M → (jzL (lvs g ys y) us vs M).getD k 0 = jv f xs x g ys y k) := by
  have e : ∀ k, us.getD k 0 * vs.getD k 0 / lvs g ys y = jv f xs x g ys y k := fun k => by rw [h1, h2]; rfl
  refine ⟨?_, fun k hk => by rw [jzL_get _ _ _ _ _ hk, e]⟩
  unfold jzL jtL
  rw [← List.map_take, List.take_range, Nat.min_eq_left (by omega)]
  exact List.map_congr_left fun k _ => e k

theorem Ints.take {w : World} {a : Option Addr} {l : Nat} {xs : List Int} (h : Ints w a l xs) (k : Nat) (hk : k ≤ l) : Ints w a k (xs.take k) := by
  refine ⟨by rw [List.length_take, h.len]; omega, by have := h.max; omega, ?_⟩
  rcases h.cells with h0 | ⟨b, off, rfl, hc⟩
  · exact .inl (by omega)
  · refine .inr ⟨b, off, rfl, fun i hi => ?_⟩
    rw [hc i (by omega)]
    congr 2
    rw [List.getD_eq_getElem?_getD, List.getD_eq_getElem?_getD, List.getElem?_take_of_lt hi]

def jpF (f : Int) (xs : List Int) (x g : Int) (ys : List Int) (y : Int) : Int := if twE f xs x g ys y true = 0 then x else 0

def jpY (f : Int) (xs : List Int) (x g : Int) (ys : List Int) (y : Int) : List Int := if twE f xs x g ys y true = 0 then jtL f xs x g ys y else []

/-- a table and a code that a call hands over, its list no longer than its room -/
def JpPost (F : Int) (ys : List Int) (E : Int) (w : World) (e : Ending) (w' : World) : Prop :=
  ∃ a n c, e = .returned (.tuple #[.agg #[.int .i64 F, .slice a n c], .int .i64 E]) ∧ TbR w.heap.size w' a n ys ∧ n ≤ c ∧ Below w.heap.size w w'

theorem JpPost.tb {F : Int} {ys : List Int} {E : Int} {w : World} {e : Ending} {w' : World} (h : JpPost F ys E w e w') : TbPost F ys E w e w' := by
  obtain ⟨a, n, c, h1, h2, _, h3⟩ := h
  exact ⟨a, n, c, h1, h2, h3⟩

set_option maxHeartbeats 4000000 in
theorem ijt_any (f : Int) (xs : List Int) (a : Option Addr) (l c : Nat) (x : Int) (g : Int) (ys : List Int) (b : Option Addr) (m d : Nat) (y : Int) (w : World) (h : Ints w a l xs) (k : Ints w b m ys) (hlc : l ≤ c) (hmd : m ≤ d) :
    Calls Tryz.prog 22 #[.agg #[.int .i64 f, .slice a l c], .int .i64 x, .agg #[.int .i64 g, .slice b m d], .int .i64 y] w (JpPost (jpF f xs x g ys y) (jpY f xs x g ys y) (twE f xs x g ys y true) w) := by
  have hmf : ∀ (fn : Fn) (first cap : Array Value) (w : World), (Instr.makeFunc fn first cap).run Tryz.prog w = .ok (.func fn first cap) w := fun _ _ _ _ => rfl
  have H := Lib.hid h
  have K := Lib.hid k
  have H0 := Lib.hid (K2.rbi (w := w) (f := f) (sa := .slice a l c) (g := g) (sb := .slice b m d) 26 26 26 [.int .i64 0, .slice none 0 0])
  have HK := Lib.hid H0.out.1
  have HR := Lib.hid H0.out.2
  have C1 : Hid (∀ W, Hid (K2 w f (.slice a l c) g (.slice b m d) W) → Calls Tryz.prog 43 #[.agg #[.int .i64 f, .slice a l c], .int .i64 x, .agg #[.int .i64 g, .slice b m d], .int .i64 y, .func (.func 44) #[] #[]] W (AkPost f xs x g ys y W)) := Lib.hid (fun W hW => ask_any f xs a l c x g ys b m d y W (H.out.on hW.out.low) (K.out.on hW.out.low) hlc hmd)
  unfold AkPost at C1
  clear h k H0
  by_cases hz : twE f xs x g ys y true = 0
  case neg =>
    have HF : Hid (jpF f xs x g ys y = 0 ∧ jpY f xs x g ys y = []) := Lib.hid (by simp [jpF, jpY, hz])
    obtain ⟨E, hE⟩ : ∃ y_, twE f xs x g ys y true = y_ := ⟨_, rfl⟩
    rw [hE] at C1 hz ⊢
    have hne : (E != 0) = true := by simpa using hz
    clear hE hz
    go_enter Tryz.func22, Tryz.ntmps22
    go_wp2_with fail
    with_reducible refine (C1.out _ HK).mono ?_
    rintro e w1 ⟨a1, n1, c1, a2, n2, c2, rfl, -, hb⟩
    have hb2 := hb.trans ((box_b w1 (.cells #[.slice a1 n1 c1, .slice a2 n2 c2] 67)).mono hb.size)
    have HK := Lib.hid (HK.out.on hb2)
    have HR := Lib.hid (HR.out.on hb2)
    have hr0 := HR.out.two.1
    have hr1 := HR.out.two.2
    have hf0 := HR.out.free 0
    have hf1 := HR.out.free 1
    clear hb hb2
    go_wp2_with fail
    refine bodyPost_ret (v := .tuple #[.agg #[.int .i64 0, .slice none 0 0], .int .i64 E]) (by simp [results, Tryz.results22, go_sem, hr0, hr1]) rfl ?_
    refine ⟨none, 0, 0, by rw [HF.out.1], ?_, Nat.le_refl _, (HK.out.low.setCell (p := ⟨w.heap.size + 2, 0, none⟩) (by show w.heap.size ≤ w.heap.size + 2; omega) _).setCell (p := ⟨w.heap.size + 2, 1, none⟩) (by show w.heap.size ≤ w.heap.size + 2; omega) _⟩
    rw [HF.out.2]
    exact ⟨rfl, by omega, .inl ⟨rfl, rfl⟩⟩
  have hD := (tw_iff.1 hz).1
  have HF : Hid (jpF f xs x g ys y = x ∧ jpY f xs x g ys y = jtL f xs x g ys y) := Lib.hid (by simp [jpF, jpY, hz])
  obtain ⟨_, g1, g2, ⟨nn1, nn2⟩, mm1, mm2⟩ := hD.lists
  obtain ⟨us, hus⟩ : ∃ y_, lfL f xs x = y_ := ⟨_, rfl⟩
  obtain ⟨vs, hvs⟩ : ∃ y_, lfL g ys y = y_ := ⟨_, rfl⟩
  rw [hus] at C1 g1 nn1 nn2
  rw [hvs] at C1 g2 mm1 mm2
  rw [hz] at C1 ⊢
  have p1 := hD.uy
  have p2 := (hD.u.lvs_bd y).2
  have hp0 : vs.getD 0 0 = lvs g ys y := by rw [g2, show y + ((0 : Nat) : Int) = y by omega]
  obtain ⟨hY, hZg⟩ := take_jt hD 0 (min us.length vs.length) (by omega) us vs g1 g2
  have hu8 : Small8 us := fun i => by rw [g1]; exact hD.t.lvs_bd _
  have hv8 : Small8 vs := fun i => by rw [g2]; exact hD.u.lvs_bd _
  have hj0 := hD.jn_hit
  have hj1 := hD.jn_pos
  obtain ⟨N, hN⟩ : ∃ y_, jn f xs x g ys y = y_ := ⟨_, rfl⟩
  rw [hN] at nn1 mm1 hY hj0 hj1
  obtain ⟨M, hM⟩ : ∃ y_, min us.length vs.length = y_ := ⟨_, rfl⟩
  rw [hM] at hY hZg
  have hNM : N < M := by omega
  have hM1 : M ≤ 120 := by omega
  obtain ⟨p, hp⟩ : ∃ y_, lvs g ys y = y_ := ⟨_, rfl⟩
  rw [hp] at p1 p2 hp0 hY hZg
  have CJ : Hid (∀ W a1 n1 c1 a2 n2 c2 PB, Ints W a1 n1 us → Ints W a2 n2 vs → W.cell? ⟨PB, 0, none⟩ = some (.int .i64 p) → Calls Tryz.prog 45 #[.agg #[.slice a1 n1 c1, .slice a2 n2 c2], .func (.func 46) #[] #[.pointer (some ⟨PB, 0, none⟩)]] W (JoPost (jzL p us vs M) M W)) :=
    Lib.hid (fun W a1 n1 c1 a2 n2 c2 PB h k hc => joinp_any us vs a1 a2 n1 c1 n2 c2 M PB p W h k (by rw [← hM, h.len, k.len]) (by omega) (by omega) hc p1 hu8 hv8)
  have hZ0 : (jzL p us vs M).getD N 0 = 0 := by rw [hZg N hNM]; exact hj0
  have hZ1 : ∀ j, j < N → (jzL p us vs M).getD j 0 ≠ 0 := fun j hj => by rw [hZg j (by omega)]; have := hj1 j hj; omega
  have HZL := Lib.hid (jzL_len p us vs M)
  obtain ⟨Z, hZ⟩ : ∃ y_, jzL p us vs M = y_ := ⟨_, rfl⟩
  rw [hZ] at CJ hZ0 hZ1 hY HZL
  have CI : Hid (∀ W a c, Ints W a M Z → Calls Tryz.prog 47 #[.slice a M c, .int .i64 0] W fun e w' => e = .returned (.int .i64 N) ∧ W = w') := Lib.hid (fun W a c h => index_any Z a M c N W h hNM hZ0 hZ1)
  have CC : Hid (∀ W a c, Ints W a (N + 1) (jtL f xs x g ys y) → Calls Tryz.prog 48 #[.slice a (N + 1) c] W (ClPost (jtL f xs x g ys y) W)) := Lib.hid (fun W a c h => clone_any (jtL f xs x g ys y) a (N + 1) c W h (by omega) (by omega))
  have HP0 := Lib.hid hp0
  have HYT := Lib.hid hY
  have q1 : IntKind.i64.wrap ((N : Int) + 1) = ((N + 1 : Nat) : Int) := by rw [show (N : Int) + 1 = ((N + 1 : Nat) : Int) by omega]; exact IntWalk.i64_in _ (by omega)
  obtain ⟨R, hRR⟩ : ∃ y_, N + 1 = y_ := ⟨_, rfl⟩
  have hRM : R ≤ M := by omega
  have hRM2 : (R : Int) ≤ (M : Int) := by omega
  have hR0 : (0 : Int) ≤ (R : Int) := by omega
  rw [hRR] at q1 CC HYT
  obtain ⟨Y, hYY⟩ : ∃ y_, jtL f xs x g ys y = y_ := ⟨_, rfl⟩
  rw [hYY] at CC HYT HF
  have hn2p : 0 < vs.length := by omega
  clear hz hD g1 g2 nn1 nn2 mm1 mm2 hu8 hv8 hj0 hj1 hN hM hp hZ0 hZ1 hZg hY hp0 hZ hYY hus hvs
  go_enter Tryz.func22, Tryz.ntmps22
  go_wp2_with fail
  with_reducible refine (C1.out _ HK).mono ?_
  rintro e w1 ⟨a1, n1, c1, a2, n2, c2, rfl, hi, hb⟩
  obtain ⟨hi1, hi2⟩ := hi trivial
  have hn2 := hi2.len
  obtain ⟨b2, o2, rfl, hb2, hc2⟩ := hi2.at (by omega)
  have hc0 := hc2 0 (by omega)
  rw [HP0.out, Nat.add_zero] at hc0
  have hbj := box_b w1 (.cells #[.slice a1 n1 c1, .slice (some ⟨b2, o2, none⟩) n2 c2] 67)
  have hj := Bx.new w1 [.slice a1 n1 c1, .slice (some ⟨b2, o2, none⟩) n2 c2] 67
  have hx0 := hj.two.1
  have hx1 := hj.two.2
  have hc0 := keep2 hbj hc0
  have HK := Lib.hid ((HK.out.on hb).on hbj)
  have HR := Lib.hid ((HR.out.on hb).on hbj)
  have HI1 := Lib.hid (hi1.on hbj)
  have HI2 := Lib.hid (hi2.on hbj)
  have hn2q : (0 : Int) < (n2 : Int) := by omega
  have hn2r : 0 < n2 := by omega
  have hs1 : (w1.alloc (.cells #[.slice a1 n1 c1, .slice (some ⟨b2, o2, none⟩) n2 c2] 67)).heap.size = w1.heap.size + 1 := by simp
  obtain ⟨J, hJ⟩ : ∃ y_, w1.heap.size = y_ := ⟨_, rfl⟩
  rw [hJ] at hs1
  have hx0 : (w1.alloc (.cells #[.slice a1 n1 c1, .slice (some ⟨b2, o2, none⟩) n2 c2] 67)).cell? ⟨J, 0, none⟩ = some (.slice a1 n1 c1) := by rw [← hJ]; exact hx0
  have hx1 : (w1.alloc (.cells #[.slice a1 n1 c1, .slice (some ⟨b2, o2, none⟩) n2 c2] 67)).cell? ⟨J, 1, none⟩ = some (.slice (some ⟨b2, o2, none⟩) n2 c2) := by rw [← hJ]; exact hx1
  clear hi hi1 hi2 hb hc2 hb2 hj hbj
  go_wp2_with fail
  have hpc : ((w1.alloc (.cells #[.slice a1 n1 c1, .slice (some ⟨b2, o2, none⟩) n2 c2] 67)).alloc (.cells #[.int .i64 p] 2)).cell? ⟨J + 1, 0, none⟩ = some (.int .i64 p) := by rw [← hs1]; exact World.cell?_alloc_new _ _ _ _
  have hbp := box_b (w1.alloc (.cells #[.slice a1 n1 c1, .slice (some ⟨b2, o2, none⟩) n2 c2] 67)) (.cells #[.int .i64 p] 2)
  refine (CJ.out _ a1 n1 c1 (some ⟨b2, o2, none⟩) n2 c2 (J + 1) (HI1.out.on hbp) (HI2.out.on hbp) hpc).mono ?_
  rintro e w3 ⟨gg, rfl, hgg, hk3, hb⟩
  have HK := Lib.hid ((HK.out.on hbp).on hb)
  have HR := Lib.hid ((HR.out.on hbp).on hb)
  have HI3 : Hid (Ints w3 (some ⟨gg, 0, none⟩) M Z) := Lib.hid (hk3.ints HZL.out (by omega))
  clear hpc hbp hgg hk3 hb hx0 hx1 hc0 HI1 HI2 hs1 hJ
  go_wp2_with fail
  refine (CI.out _ _ _ HI3.out).mono ?_
  rintro e w4 ⟨rfl, rfl⟩
  go_wp2_with fail
  refine (CC.out _ _ _ (by have := HI3.out.take R hRM; rw [HYT.out] at this; exact this)).mono ?_
  rintro e w4 ⟨g4, n4, c4, rfl, hT, hnc, hb⟩
  have HT := Lib.hid (hT.mono (b2 := w.heap.size + 3) (by have := HR.out.lt; omega))
  have HK := Lib.hid (HK.out.on hb)
  have HR := Lib.hid (HR.out.on hb)
  have hr0 := HR.out.two.1
  have hr1 := HR.out.two.2
  have hf0 := HR.out.free 0
  have hf1 := HR.out.free 1
  clear hT hb
  go_wp2_with fail
  have ho : Only (w.heap.size + 2) w4 ((w4.setCell ⟨w.heap.size + 2, 0, none⟩ (.int .i64 x)).setCell ⟨w.heap.size + 2, 1, none⟩ (.slice (some ⟨g4, 0, none⟩) n4 c4)) := ((Only.refl _ w4).setCell (p := ⟨w.heap.size + 2, 0, none⟩) rfl _).setCell (p := ⟨w.heap.size + 2, 1, none⟩) rfl _
  refine bodyPost_ret (v := .tuple #[.agg #[.int .i64 x, .slice (some ⟨g4, 0, none⟩) n4 c4], .int .i64 0]) (by simp [results, Tryz.results22, go_sem, hr0, hr1]) rfl ?_
  refine ⟨some ⟨g4, 0, none⟩, n4, c4, by rw [HF.out.1], ?_, hnc, HK.out.low.trans (ho.below (by omega))⟩
  rw [HF.out.2]
  exact (HT.out.only ho (fun z hz => by have := HT.out.far z hz; omega)).mono (by omega)

end Go.Proofs.YtlcmgihaelgclaaGreat
