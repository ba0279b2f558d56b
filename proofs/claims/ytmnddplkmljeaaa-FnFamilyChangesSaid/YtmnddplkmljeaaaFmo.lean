/- A law's dice: rolled out of the input, a number below another. -/
import Derived.Test.YtmnddplkmljeaaaSrc
import Derived.Test.YtmnddplkmljeaaaLwb
import Derived.Laws.Bits64b
import Derived.BigQuiet
namespace Go.Proofs.Ytmnddplkmljeaaa
open Go.ChangeShapes Go.WideShapes Go.ChangeAt Go.RowKit
set_option linter.unusedVariables false
set_option maxRecDepth 100000

/-- a law's dice over the code (a, l, c) -/
structure Dic (D : Nat) (a : Option Addr) (l c : Nat) (i : Nat) (h : Int) (w : World) : Prop where
  b : Bx w D [.slice a l c, .int .i64 i, .int .u64 h]

theorem Dic.set2 {D l c i : Nat} {a : Option Addr} {h y : Int} {w : World} (S : Dic D a l c i h w) : Dic D a l c i y (w.setCell ⟨D, 2, none⟩ (.int .u64 y)) := by
  have hl := S.b.lt
  obtain ⟨T, hb⟩ := S.b
  rw [Array.getElem?_eq_getElem hl] at hb
  have h' : w.heap[D] = .cells #[.slice a l c, .int .i64 i, .int .u64 h] T (0, 0) := by simpa using hb
  refine ⟨T, ?_⟩
  show (w.heap.modify D _)[D]? = _
  rw [Array.getElem?_modify, if_pos rfl, Array.getElem?_eq_getElem hl, h']
  simp

theorem Dic.drew {D l c i : Nat} {a : Option Addr} {h : Int} {w : World} (S : Dic D a l c i h w) : Dic D a l c i h w.drew := ⟨S.b⟩

set_option maxHeartbeats 2000000 in
theorem roll_any (a : Option Addr) (l c : Nat) (z : List Int) (s : Int) (w : World) (hr : IsRow .u8 w a l c z) (s0 : 0 ≤ s) (s1 : s ≤ 100000) :
    Calls Try.prog 28 #[.slice a l c, .int .u64 s] w fun e w' => e = .returned (.pointer (some ⟨w.heap.size, 0, none⟩)) ∧ (∃ h, 0 ≤ h ∧ h < 18446744073709551616 ∧ Dic w.heap.size a l c 0 h w') ∧ Below w.heap.size w w' := by
  have ha := Lib.hid hr.apart
  have hm := hr.len_le
  unfold maxLen at hm
  have HR := Lib.hid hr
  clear hr
  obtain ⟨h0, hh0⟩ : ∃ y_, IntKind.u64.wrap (s * 9341 + l) = y_ := ⟨_, rfl⟩
  have HH0 : Hid (0 ≤ h0 ∧ h0 < 18446744073709551616) := Lib.hid (by rw [← hh0, IntKind.wrap_u64]; omega)
  have q1 : IntKind.u64.wrap (s * 9341) = s * 9341 := IntWalk.u64_in _ (by omega)
  go_enter Try.func28, Try.ntmps28
  go_wp2
  have HD0 : Hid (Dic w.heap.size a l c 0 h0 (w.alloc (.cells #[.slice a l c, .int .i64 0, .int .u64 h0] 106))) := Lib.hid ⟨Bx.new w [.slice a l c, .int .i64 0, .int .u64 h0] 106⟩
  clear hh0 q1
  go_loopw [6] (fun i wr => ∃ (k : Nat) (h : Int), k ≤ l ∧ i = .int .i64 k ∧ Hid (0 ≤ h ∧ h < 18446744073709551616) ∧ Hid (Dic w.heap.size a l c 0 h wr) ∧ Hid (Below w.heap.size w wr)) (fun i _ => l - (intOf i).toNat)
  case atStart => exact ⟨0, h0, Nat.zero_le _, rfl, HH0, HD0, Lib.hid (box_b _ _)⟩
  case round =>
    obtain ⟨k, h, hk, rfl, HH, HD, HW⟩ := hrel
    clear HH0 HD0
    by_cases hlt : k < l
    · rcases HR.out with ⟨_, rfl, _, _⟩ | ⟨p, rfl, hl, hc, hz, hcell, hwf⟩
      · omega
      obtain ⟨b, off, rfl, hcl⟩ := ints_at hcell (by omega)
      have hbB : b < w.heap.size := ha.out _ rfl (by omega)
      have cz := hcl k (by omega)
      have rz := range_u8 hwf k
      obtain ⟨v, hv⟩ : ∃ v, z.getD k 0 = v := ⟨_, rfl⟩
      have rz0 : 0 ≤ v ∧ v ≤ 255 := by rw [← hv]; simpa [List.getD] using rz
      rw [hv] at cz
      obtain ⟨v0, v1⟩ := rz0
      have cy : wr.cell? ⟨b, off + k, none⟩ = some (.int .u8 v) := by
        rw [HW.out.cell (p := ⟨b, off + k, none⟩) hbB]; exact cz
      obtain ⟨d0, d1, d2⟩ := HD.out.b.threeT
      have f2 := HD.out.b.free 2
      have hne : b ≠ w.heap.size := by omega
      obtain ⟨m1, e1⟩ : ∃ y_, IntKind.u64.wrap (h * 1099511628211) = y_ := ⟨_, rfl⟩
      obtain ⟨m2, e2⟩ : ∃ y_, IntKind.u64.wrap (m1 + v) = y_ := ⟨_, rfl⟩
      obtain ⟨m3, e3⟩ : ∃ y_, IntKind.u64.wrap (m2 + 5) = y_ := ⟨_, rfl⟩
      have HH3 : Hid (0 ≤ m3 ∧ m3 < 18446744073709551616) := Lib.hid (by rw [← e3, IntKind.wrap_u64]; omega)
      clear hcell hcl hv hwf rz cz
      go_wp2
      go_region
      all_goals
        go_wp2
        go_roundw
        case rel => exact ⟨k + 1, m3, by omega, by go_num, HH3, Lib.hid (by first | exact HD.out.set2.drew | exact HD.out.drew.set2 | exact HD.out.set2), Lib.hid (by first | exact (HW.out.setCell (p := ⟨w.heap.size, 2, none⟩) (Nat.le_refl _) _).drew | exact (HW.out.drew.setCell (p := ⟨w.heap.size, 2, none⟩) (Nat.le_refl _) _))⟩
        case measure => simp [intOf]; omega
    · go_wp2
      go_ret
      exact ⟨rfl, ⟨h, HH.out.1, HH.out.2, HD.out⟩, HW.out⟩

theorem mask_any (h : Int) (h0 : 0 ≤ h) (h1 : h < 18446744073709551616) : ∃ X : Int, bits BinOp.and IntKind.u64 (h / 8589934592) 16777215 = X ∧ 0 ≤ X ∧ X ≤ 16777215 := by
  obtain ⟨a, ha⟩ : ∃ a : Nat, h / 8589934592 = (a : Int) := ⟨(h / 8589934592).toNat, by omega⟩
  refine ⟨((a &&& 16777215 : Nat) : Int), ?_, by omega, ?_⟩
  · rw [ha]; exact bits_and_u64_nat a 16777215 (by omega) (by omega)
  · have : a &&& 16777215 ≤ 16777215 := Nat.and_le_right
    omega

set_option maxHeartbeats 2000000 in
theorem below_any (D : Nat) (a : Option Addr) (l c : Nat) (z : List Int) (h n : Int) (B : Nat) (w : World) (hr : IsRow .u8 w a l c z) (hap : Apart a z B) (hd : Dic D a l c 0 h w) (hB : B ≤ D) (n1 : 1 ≤ n) (n2 : n ≤ 1000000) :
    Calls Try.prog 29 #[.pointer (some ⟨D, 0, none⟩), .int .i64 n] w fun e w' => ∃ r, e = .returned (.int .i64 r) ∧ 0 ≤ r ∧ r < n ∧ Below B w w' := by
  obtain ⟨d0, d1, d2⟩ := hd.b.threeT
  have f1 := hd.b.free 1
  have f2 := hd.b.free 2
  obtain ⟨h1, e1⟩ : ∃ y_, IntKind.u64.wrap (h * 6364136223846793005) = y_ := ⟨_, rfl⟩
  obtain ⟨h2, e2⟩ : ∃ y_, IntKind.u64.wrap (h1 + 1442695040888963407) = y_ := ⟨_, rfl⟩
  have h2b : 0 ≤ h2 ∧ h2 < 18446744073709551616 := by rw [← e2, IntKind.wrap_u64]; omega
  obtain ⟨X, eX, X0, X1⟩ := mask_any h2 h2b.1 h2b.2
  have q3 : wrap64 X = X := by unfold wrap64; omega
  have HD : Hid (Dic D a l c 0 h2 (w.setCell ⟨D, 2, none⟩ (.int .u64 h2))) := Lib.hid hd.set2
  have hb0 : Below B w (w.setCell ⟨D, 2, none⟩ (.int .u64 h2)) := (Below.refl _ _).setCell (p := ⟨D, 2, none⟩) hB _
  have HB := Lib.hid hb0
  obtain ⟨k0, k1, k2⟩ := hd.set2 (y := h2) |>.b.threeT
  have g1 := (hd.set2 (y := h2)).b.free 1
  have hmod : ∀ v : Int, 0 ≤ v → 0 ≤ v % n ∧ v % n < n := fun v hv => ⟨Int.emod_nonneg _ (by omega), Int.emod_lt_of_pos _ (by omega)⟩
  have HM := Lib.hid hmod
  have hm := hr.len_le
  unfold maxLen at hm
  have HAP := Lib.hid hap
  clear hd hb0 hmod h2b hap
  by_cases hlt : 0 < l
  · rcases hr with ⟨_, rfl, _, _⟩ | ⟨p, rfl, hl, hc, hz, hcell, hwf⟩
    · omega
    obtain ⟨b, off, rfl, hcl⟩ := ints_at hcell (by omega)
    have hbB : b < B := HAP.out _ rfl (by omega)
    have cz := hcl 0 (by omega)
    have rz := range_u8 hwf 0
    obtain ⟨v, hv⟩ : ∃ v, z.getD 0 0 = v := ⟨_, rfl⟩
    have rz0 : 0 ≤ v ∧ v ≤ 255 := by rw [← hv]; simpa [List.getD] using rz
    rw [hv] at cz
    obtain ⟨v0, v1⟩ := rz0
    have cy : (w.setCell ⟨D, 2, none⟩ (.int .u64 h2)).cell? ⟨b, off, none⟩ = some (.int .u8 v) := by
      rw [HB.out.cell (p := ⟨b, off, none⟩) hbB]; exact cz
    have hne : b ≠ D := by omega
    have hM2 := HM.out (X + v) (by omega)
    have HM2 := Lib.hid hM2
    have hlt2 : (0 : Int) < l := by omega
    clear hcell hcl hv hwf rz hM2
    go_enter Try.func29, Try.ntmps29
    go_wp2
    go_quiet (fail)
    go_wp2
    go_quiet (fail)
    go_wp2
    go_ret
    exact ⟨(X + v) % n, rfl, HM2.out.1, HM2.out.2, ((below_drewN HB.out _).setCell (p := ⟨D, 1, none⟩) hB _)⟩
  · have h0 : l = 0 := by omega
    subst h0
    have hM2 := HM.out X X0
    have HM2 := Lib.hid hM2
    clear hM2
    go_enter Try.func29, Try.ntmps29
    go_wp2
    go_quiet (fail)
    go_wp2
    go_ret
    exact ⟨X % n, rfl, HM2.out.1, HM2.out.2, below_drewN HB.out _⟩

end Go.Proofs.Ytmnddplkmljeaaa
