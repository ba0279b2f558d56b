/- ReadPolicy of the model: what the calls return. (Written by wip/gen/rps.py.) -/
import Derived.Test.YtnppkdnmkhoeeaaDoorRpx
import Derived.Test.YtnppkdnmkhoeeaaDoorPtl
namespace Go.Proofs.YtnppkdnmkhoeeaaDoor
open Go.ChangeShapes Go.WideShapes Go.ChangeAt Go.RowKit
set_option linter.unusedVariables false
set_option maxRecDepth 100000

theorem below_put5 {w W : World} {X : Nat} (hX : w.heap.size = X) (hb : Below w.heap.size w W) (u0 u1 u2 u3 u4 : Value) : Below w.heap.size w (((((W.setCell ⟨X, 0, none⟩ u0).setCell ⟨X, 1, none⟩ u1).setCell ⟨X, 2, none⟩ u2).setCell ⟨X, 3, none⟩ u3).setCell ⟨X, 4, none⟩ u4) := by
  subst hX
  exact ((((hb.setCell (p := ⟨w.heap.size, 0, none⟩) (Nat.le_refl _) _).setCell (p := ⟨w.heap.size, 1, none⟩) (Nat.le_refl _) _).setCell (p := ⟨w.heap.size, 2, none⟩) (Nat.le_refl _) _).setCell (p := ⟨w.heap.size, 3, none⟩) (Nat.le_refl _) _).setCell (p := ⟨w.heap.size, 4, none⟩) (Nat.le_refl _) _

theorem RpPost.bad {l : List UInt8} {w W : World} {X : Nat} (hX : w.heap.size = X) (h : rpM l = false) (hb : Below w.heap.size w W) (u0 u1 u2 u3 u4 : Value) :
    RpPost l w (.returned (.tuple #[.agg #[.int .i64 0, .int .i64 0, .int .i64 0, .int .i64 0, .int .i64 0], .bool false])) (((((W.setCell ⟨X, 0, none⟩ u0).setCell ⟨X, 1, none⟩ u1).setCell ⟨X, 2, none⟩ u2).setCell ⟨X, 3, none⟩ u3).setCell ⟨X, 4, none⟩ u4) :=
  ⟨by rw [rpA_f h, h], below_put5 hX hb _ _ _ _ _⟩

theorem RpPost.good {l : List UInt8} {w W : World} {X : Nat} {a0 a1 a2 a3 a4 : Int} (hX : w.heap.size = X) (h : rpM l = true) (hA : rpA l = #[.int .i64 a0, .int .i64 a1, .int .i64 a2, .int .i64 a3, .int .i64 a4]) (hb : Below w.heap.size w W) (u0 u1 u2 u3 u4 : Value) :
    RpPost l w (.returned (.tuple #[.agg #[.int .i64 a0, .int .i64 a1, .int .i64 a2, .int .i64 a3, .int .i64 a4], .bool true])) (((((W.setCell ⟨X, 0, none⟩ u0).setCell ⟨X, 1, none⟩ u1).setCell ⟨X, 2, none⟩ u2).setCell ⟨X, 3, none⟩ u3).setCell ⟨X, 4, none⟩ u4) :=
  ⟨by rw [hA, h], below_put5 hX hb _ _ _ _ _⟩

theorem itoa_ne (n : Int) : Lib.itoa n ≠ [] := by
  by_cases h : 0 ≤ n
  · obtain ⟨u, rfl⟩ := Int.eq_ofNat_of_zero_le h
    rw [itoa_nat]; exact dig_ne_nil u
  · obtain ⟨m, rfl⟩ : ∃ m, n = -m := ⟨-n, by omega⟩
    rw [itoa_minus _ (by omega)]; simp

theorem ptT_ne {k x n s u : Int} (h : ptB k x n s u = true) : ∃ c t, ptT k x n s u = c :: t := by
  unfold ptT
  rw [if_pos h, jc]
  cases hc : Lib.itoa k with
  | nil => exact absurd hc (itoa_ne k)
  | cons c t => exact ⟨c, _, rfl⟩

theorem ptT_no {k x n s u : Int} (h : ptB k x n s u = false) : ptT k x n s u = [] := by unfold ptT; rw [if_neg (by rw [h]; decide)]

set_option maxHeartbeats 1000000 in
theorem rp_spec (s : ByteArray) (w : World) (hs : s.size ≤ 1048576) : Calls Tryd.prog 8 #[.string s] w (RpPost s.data.toList w) := by
  have HSP := Lib.hid (fun W => split_specC s W hs)
  have hsz : s.data.toList.length = s.size := by simp
  have hsh := spC_short s.data.toList
  obtain ⟨l, hl⟩ : ∃ l, s.data.toList = l := ⟨_, rfl⟩
  unfold SplitPostC at HSP
  rw [hl] at HSP hsz hsh
  (try rw [hl])
  have HSH := Lib.hid hsh
  clear hl hsh
  go_enter Tryd.func8, Tryd.ntmps8
  go_wp2_with fail
  refine (HSP.out _).mono ?_
  rintro e w1 ⟨g, c, W, rfl, hW, hWl, hcs, hb1⟩
  have HX1 := Lib.hid ((BxT.new w [.int .i64 0, .int .i64 0, .int .i64 0, .int .i64 0, .int .i64 0] 25).on hb1)
  have hB1 : Below w.heap.size w w1 := (box_b w _).trans (hb1.mono (by simp))
  have hwX : w.heap.size < w1.heap.size := HX1.out.lt
  have hp : 0 < W.length := by
    have h1 := congrArg List.length hW
    have h2 := List.length_pos_iff.2 (spC_ne l)
    rw [List.length_map] at h1; omega
  have hgl := block_lt (hcs 0 hp)
  have HN := Lib.hid (nums_spec W (spC l) hW g W.length c rfl (by omega) (fun x hx => by have := HSH.out.2 x hx; omega) w1 hgl hcs)
  have HB1 := Lib.hid hB1
  have hbs1 := hB1.size
  clear hcs hb1 hB1 hgl hW
  go_wp2_with fail
  refine HN.out.mono ?_
  rintro e w2 ⟨hres, hb2⟩
  have HX2 := Lib.hid (HX1.out.on hb2)
  have HB2 := Lib.hid (HB1.out.trans (hb2.mono hbs1))
  clear HN HSP HX1
  rcases hres with ⟨hall, v, rfl, hown⟩ | ⟨hall, rfl⟩
  · have hsg : w5 l = (spC l).map sgV := rfl
    rw [← hsg] at hown
    have hsl : (w5 l).length = (spC l).length := by simp [w5]
    have hsp0 := List.length_pos_iff.2 (spC_ne l)
    have HM := Lib.hid (hown.made hb2 (by omega))
    have hlen : (w5 l).length ≤ 1048577 := by have := HSH.out.1; omega
    clear hown hb2 HB1
    obtain ⟨g2, c2, rfl, hc2, hg2, hr2, _⟩ := HM.out
    by_cases h5 : (w5 l).length = 5
    · have HRM : Hid (rpM l = ptB ((w5 l).getD 0 0) ((w5 l).getD 1 0) ((w5 l).getD 2 0) ((w5 l).getD 3 0) ((w5 l).getD 4 0)) := Lib.hid (by unfold rpM; rw [hall]; simp [← hsl, h5])
      have HRA : Hid (rpM l = true → rpA l = #[.int .i64 ((w5 l).getD 0 0), .int .i64 ((w5 l).getD 1 0), .int .i64 ((w5 l).getD 2 0), .int .i64 ((w5 l).getD 3 0), .int .i64 ((w5 l).getD 4 0)]) := Lib.hid rpA_t
      have hx0 : w2.cell? ⟨g2, 0, none⟩ = some (.int .i64 ((w5 l).getD 0 0)) := hr2.cell 0 (by omega)
      have hx1 : w2.cell? ⟨g2, 1, none⟩ = some (.int .i64 ((w5 l).getD 1 0)) := hr2.cell 1 (by omega)
      have hx2 : w2.cell? ⟨g2, 2, none⟩ = some (.int .i64 ((w5 l).getD 2 0)) := hr2.cell 2 (by omega)
      have hx3 : w2.cell? ⟨g2, 3, none⟩ = some (.int .i64 ((w5 l).getD 3 0)) := hr2.cell 3 (by omega)
      have hx4 : w2.cell? ⟨g2, 4, none⟩ = some (.int .i64 ((w5 l).getD 4 0)) := hr2.cell 4 (by omega)
      (try rw [h5])
      rw [h5] at hc2
      obtain ⟨a0, q0⟩ : ∃ a, (w5 l).getD 0 0 = a := ⟨_, rfl⟩
      obtain ⟨a1, q1⟩ : ∃ a, (w5 l).getD 1 0 = a := ⟨_, rfl⟩
      obtain ⟨a2, q2⟩ : ∃ a, (w5 l).getD 2 0 = a := ⟨_, rfl⟩
      obtain ⟨a3, q3⟩ : ∃ a, (w5 l).getD 3 0 = a := ⟨_, rfl⟩
      obtain ⟨a4, q4⟩ : ∃ a, (w5 l).getD 4 0 = a := ⟨_, rfl⟩
      rw [q0, q1, q2, q3, q4] at HRM HRA
      rw [q0] at hx0
      rw [q1] at hx1
      rw [q2] at hx2
      rw [q3] at hx3
      rw [q4] at hx4
      have hgx : g2 < w2.heap.size := block_lt hx0
      have HPT := Lib.hid (pt_spec a0 a1 a2 a3 a4)
      clear HM hr2 q0 q1 q2 q3 q4 hall hsg hsl hsp0 hlen h5 hp
      go_wp2_with fail
      go_region
      all_goals
        go_wp2_with fail
        refine (HPT.out _).mono ?_
        rintro e w3 ⟨rfl, hb3⟩
        have hb4 : Below (w2.alloc (.cells #[.int .i64 a0, .int .i64 a1, .int .i64 a2, .int .i64 a3, .int .i64 a4] 25)).heap.size (w2.alloc (.cells #[.int .i64 a0, .int .i64 a1, .int .i64 a2, .int .i64 a3, .int .i64 a4] 25)) w3 := (below_drewN (Below.refl _ _) 1).trans hb3
        obtain ⟨hB3, k0, k1, k2, k3, k4⟩ := box5T hb4
        have HX3 := Lib.hid (HX2.out.on hB3)
        obtain ⟨d0, d1, d2, d3, d4⟩ := HX3.out.fiveT
        have p0 := HX3.out.free 0
        have p1 := HX3.out.free 1
        have p2 := HX3.out.free 2
        have p3 := HX3.out.free 3
        have p4 := HX3.out.free 4
        have HB3 := Lib.hid (HB2.out.trans (hB3.mono HB2.out.size))
        have hn2 : (w2.heap.size : Nat) ≠ w.heap.size := by have := HX2.out.lt; omega
        clear HPT hb3 hb4 hB3 hx0 hx1 hx2 hx3 hx4 HX2 HX3 HB2
        cases hlt : ptB a0 a1 a2 a3 a4 with
        | false =>
          rw [hlt] at HRM
          have HR := Lib.hid HRM.out
          rw [ptT_no hlt]
          clear hlt
          go_wp2_with fail
          exact bodyPost_ret (v := .tuple #[.agg #[.int .i64 0, .int .i64 0, .int .i64 0, .int .i64 0, .int .i64 0], .bool false]) (by simp [results, Tryd.results8, go_sem, d0, d1, d2, d3, d4]) rfl (RpPost.bad rfl HR.out HB3.out _ _ _ _ _)
        | true =>
          rw [hlt] at HRM
          have HR := Lib.hid HRM.out
          obtain ⟨ch, tl, hy⟩ := ptT_ne hlt
          rw [hy]
          clear hlt hy
          go_wp2_with fail
          exact bodyPost_ret (v := .tuple #[.agg #[.int .i64 a0, .int .i64 a1, .int .i64 a2, .int .i64 a3, .int .i64 a4], .bool true]) (by simp [results, Tryd.results8, go_sem, d0, d1, d2, d3, d4]) rfl (RpPost.good rfl HR.out (HRA.out HR.out) HB3.out _ _ _ _ _)
    · have HR : Hid (rpM l = false) := Lib.hid (by unfold rpM; rw [hall]; simp [← hsl, h5])
      obtain ⟨d0, d1, d2, d3, d4⟩ := HX2.out.fiveT
      have p0 := HX2.out.free 0
      have p1 := HX2.out.free 1
      have p2 := HX2.out.free 2
      have p3 := HX2.out.free 3
      have p4 := HX2.out.free 4
      obtain ⟨n, hn⟩ : ∃ n, (w5 l).length = n := ⟨_, rfl⟩
      have hn5 : ¬ (n : Int) = 5 := by omega
      rw [hn]
      clear hall hsg hsl hsp0 HM hr2 hn h5
      go_wp2_with fail
      exact bodyPost_ret (v := .tuple #[.agg #[.int .i64 0, .int .i64 0, .int .i64 0, .int .i64 0, .int .i64 0], .bool false]) (by simp [results, Tryd.results8, go_sem, d0, d1, d2, d3, d4]) rfl (RpPost.bad rfl HR.out HB2.out _ _ _ _ _)
  · have HR : Hid (rpM l = false) := Lib.hid (by unfold rpM; rw [hall]; rfl)
    obtain ⟨d0, d1, d2, d3, d4⟩ := HX2.out.fiveT
    have p0 := HX2.out.free 0
    have p1 := HX2.out.free 1
    have p2 := HX2.out.free 2
    have p3 := HX2.out.free 3
    have p4 := HX2.out.free 4
    clear hall
    go_wp2_with fail
    exact bodyPost_ret (v := .tuple #[.agg #[.int .i64 0, .int .i64 0, .int .i64 0, .int .i64 0, .int .i64 0], .bool false]) (by simp [results, Tryd.results8, go_sem, d0, d1, d2, d3, d4]) rfl (RpPost.bad rfl HR.out HB2.out _ _ _ _ _)

end Go.Proofs.YtnppkdnmkhoeeaaDoor
