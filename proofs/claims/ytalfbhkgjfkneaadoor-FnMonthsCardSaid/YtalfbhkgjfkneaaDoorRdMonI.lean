/- ReadMonth of the program and of its model: what each call returns; the exact law. -/
import Derived.Test.YtalfbhkgjfkneaaDoorRdMon
namespace Go.Proofs.YtalfbhkgjfkneaaDoor
open Go.ChangeShapes Go.WideShapes Go.ChangeAt Go.RowKit
set_option linter.unusedVariables false

/-- what ReadMonth asks of the world: both errors, the shape of the library's variables -/
structure AskE (w : World) : Prop where
  syn : ErrIs w "strconv.ErrSyntax"
  ran : ErrIs w "strconv.ErrRange"
  shape : w.ShapedOpen Tryd.prog

theorem AskE.step {w w' : World} (h : AskE w) (hb : Below w.heap.size w w') : AskE w' := by
  obtain ⟨⟨a, p, hs⟩, ⟨b, q, hr⟩, sh⟩ := h
  have g1 : (1 : Nat) < w.heap.size := by
    have := World.var?_cell gSyn hs 0
    exact block_lt (p := ⟨1, 0, none⟩) (by simpa using this)
  have g2 : (2 : Nat) < w.heap.size := by
    have := World.var?_cell gRan hr 0
    exact block_lt (p := ⟨2, 0, none⟩) (by simpa using this)
  exact ⟨⟨a, p, var?_below hb gSyn g1 hs⟩, ⟨b, q, var?_below hb gRan g2 hr⟩, sh.keptBut (hb.frame (fun _ => False)) (fun _ h => h.elim)⟩

/-- a call of ParseInt: a number, or an error -/
def ParsePost (l : List UInt8) (w : World) (e : Ending) (w' : World) : Prop :=
  ((∃ v, Lib.parseIntB 64 l = .ok v ∧ e = .returned (.tuple #[.int .i64 v, .nilIface])) ∨ ((∀ v, Lib.parseIntB 64 l ≠ .ok v) ∧ ∃ v, ∃ N : Nat, e = .returned (.tuple #[.int .i64 v, .iface 67 (.pointer (some ⟨N, 0, none⟩))]))) ∧ Below w.heap.size w w'

theorem below_parse' {w w1 : World} (h : w1 = w ∨ ∃ t, w1 = Lib.bytesWorld w 5 t) : Below w.heap.size w w1 := by
  rcases h with rfl | ⟨t, rfl⟩
  · exact Below.refl _ _
  · exact Joins.below_bytesWorld _ _ _ _ (Nat.le_refl _)

theorem parse_all (s : ByteArray) (w : World) (hl : s.size ≤ 281474976710656) (ha : AskE w) :
    Calls Tryd.prog 28 #[.string s, .int .i64 10, .int .i64 64] w (ParsePost s.data.toList w) := by
  cases hp : Lib.parseIntB 64 s.data.toList with
  | ok v =>
    refine (Tryd.strconv_ParseInt_10_at64_ok _ (by omega) v hp _).mono ?_
    rintro e w1 ⟨rfl, hw⟩
    exact ⟨.inl ⟨v, hp, rfl⟩, below_parse' hw⟩
  | «syntax» =>
    refine (parse_syn s w hl hp ha.syn).mono ?_
    rintro e w1 ⟨⟨N, rfl⟩, hb⟩
    exact ⟨.inr ⟨fun v h => (by rw [hp] at h; cases h), _, N, rfl⟩, hb⟩
  | range =>
    refine (parse_ran s w hl hp ha.ran).mono ?_
    rintro e w1 ⟨⟨N, rfl⟩, hb⟩
    exact ⟨.inr ⟨fun v h => (by rw [hp] at h; cases h), _, N, rfl⟩, hb⟩

theorem mtext_T (n : Int) (w : World) (h : mthB n = true) : Calls Tryd.prog 26 #[.int .i64 n] w fun e w' => e = .returned (.string ⟨(mtT n).toArray⟩) ∧ Below w.heap.size w w' := by
  obtain ⟨h0, h1⟩ := (mthB_iff n).1 h
  refine (mtext_any n w h0 h1).mono ?_
  rintro e w1 ⟨rfl, hb⟩
  exact ⟨by simp [mtT, h], hb⟩

def rdmV (l : List UInt8) : Int := (rdm l).getD 0

def rdmO (l : List UInt8) : Bool := (rdm l).isSome

def RdPost (l : List UInt8) (w : World) (e : Ending) (w' : World) : Prop := e = .returned (.tuple #[.int .i64 (rdmV l), .bool (rdmO l)]) ∧ Below w.heap.size w w'

theorem cut_len' (x : UInt8) (l : List UInt8) : (Lib.cut l [x]).1.length ≤ l.length ∧ (Lib.cut l [x]).2.1.length ≤ l.length := by
  unfold Lib.cut
  split
  · simp; omega
  · simp

set_option maxRecDepth 100000 in
set_option maxHeartbeats 1000000 in
theorem rd_impl (s : ByteArray) (w : World) (hs : s.size ≤ 1048576) (ha : AskE w) :
    Calls Tryd.prog 13 #[.string s] w (RdPost s.data.toList w) := by
  have HA := Lib.hid ha
  clear ha
  have hsz : s.data.toList.length = s.size := by simp
  obtain ⟨c1, c2⟩ := cut_len' 45 s.data.toList
  rw [hsz] at c1 c2
  have HL := Lib.hid hsz
  clear hsz
  have hA : (⟨(Lib.cut s.data.toList [45]).1.toArray⟩ : ByteArray).size ≤ 1048576 := by show (List.toArray _).size ≤ _; simp; omega
  have hB : (⟨(Lib.cut s.data.toList [45]).2.1.toArray⟩ : ByteArray).size ≤ 1048576 := by show (List.toArray _).size ≤ _; simp; omega
  have HSA := Lib.hid hA
  have HSB := Lib.hid hB
  clear hA hB c1 c2
  have HRD : Hid (rdm s.data.toList = match Lib.parseIntB 64 (Lib.cut s.data.toList [45]).1, Lib.parseIntB 64 (Lib.cut s.data.toList [45]).2.1 with
    | .ok y, .ok m => if moB y m && (mtT (12 * y + m - 1) == s.data.toList) then some (12 * y + m - 1) else none
    | _, _ => none) := Lib.hid rfl
  go_enter Tryd.func13, Tryd.ntmps13
  go_wp2_with fail
  refine (Tryd.strings_Cut_shaped _ _ _ HA.out.shape (by omega)).mono ?_
  rintro e w1 ⟨rfl, n, rfl⟩
  have HB1 := Lib.hid (below_drewN (Below.refl w.heap.size w) n)
  have HA1 := Lib.hid (HA.out.step HB1.out)
  obtain ⟨w1, hw1⟩ : ∃ x, x = w.drewN n := ⟨_, rfl⟩
  rw [← hw1] at HB1 HA1 ⊢
  clear hw1
  go_wp2_with fail
  refine (parse_all _ _ (by have := HSA.out; omega) HA1.out).mono ?_
  rintro e w2 ⟨he, hb⟩
  have HB2 := Lib.hid (HB1.out.trans (hb.mono HB1.out.size))
  have HA2 := Lib.hid (HA1.out.step hb)
  have HE1 := Lib.hid he
  clear hb he
  rcases HE1.out with ⟨y, hy, rfl⟩ | ⟨hno, y, N, rfl⟩
  · have HY := Lib.hid hy
    clear hy HE1
    go_wp2_with fail
    refine (parse_all _ _ (by have := HSB.out; omega) HA2.out).mono ?_
    rintro e w3 ⟨he2, hb⟩
    have HB3 := Lib.hid (HB2.out.trans (hb.mono HB2.out.size))
    clear hb
    rcases he2 with ⟨m, hm, rfl⟩ | ⟨hno, m, N, rfl⟩
    · have HM := Lib.hid hm
      clear hm
      have HRD2 : Hid (rdm s.data.toList = if moB y m && (mtT (12 * y + m - 1) == s.data.toList) then some (12 * y + m - 1) else none) := Lib.hid (by
        have h1 := HRD.out
        have h2 := HY.out
        have h3 := HM.out
        simp only [] at h2 h3
        rw [h2, h3] at h1
        exact h1)
      by_cases hb : moB y m = true
      · have HMO : Hid (∀ w : World, Calls Tryd.prog 7 #[.int .i64 y, .int .i64 m] w fun e w' => e = .returned (.tuple #[.int .i64 (12 * y + m - 1), .int .i64 0]) ∧ w = w') := Lib.hid (fun w => by
          have := mo_impl y m w
          unfold moV moE at this
          rw [if_pos hb, if_pos hb] at this
          exact this)
        have HMT := Lib.hid (mo_mth hb)
        rw [hb, Bool.true_and] at HRD2
        obtain ⟨x, hx⟩ : ∃ x, 12 * y + m - 1 = x := ⟨_, rfl⟩
        rw [hx] at HMO HMT HRD2
        clear hx hb
        by_cases ht : mtT x = s.data.toList
        · have heq : (mtT x == s.toList) = true := by rw [toList_eq, ht]; simp
          have HR : Hid (rdm s.data.toList = some x) := Lib.hid (by rw [HRD2.out, if_pos (by rw [ht]; simp)])
          clear ht
          go_wp2_with (go_at_call 7; refine (HMO.out _).mono ?_; rintro e w' ⟨rfl, rfl⟩)
          refine (mtext_T _ _ HMT.out).mono ?_
          rintro e w4 ⟨rfl, hb⟩
          have HB4 := Lib.hid (HB3.out.trans (hb.mono HB3.out.size))
          clear hb
          go_wp2_with fail
          go_ret2
          exact ⟨ret_ib (by simp [rdmV, HR.out]) (by simp [rdmO, HR.out]), HB4.out⟩
        · have heq : (mtT x == s.toList) = false := by rw [toList_eq]; simpa using ht
          have HR : Hid (rdm s.data.toList = none) := Lib.hid (by rw [HRD2.out, if_neg (by simpa using ht)])
          clear ht
          go_wp2_with (go_at_call 7; refine (HMO.out _).mono ?_; rintro e w' ⟨rfl, rfl⟩)
          refine (mtext_T _ _ HMT.out).mono ?_
          rintro e w4 ⟨rfl, hb⟩
          have HB4 := Lib.hid (HB3.out.trans (hb.mono HB3.out.size))
          clear hb
          go_wp2_with fail
          go_ret2
          exact ⟨ret_ib (by simp [rdmV, HR.out]) (by simp [rdmO, HR.out]), HB4.out⟩
      · have HMO : Hid (∀ w : World, Calls Tryd.prog 7 #[.int .i64 y, .int .i64 m] w fun e w' => e = .returned (.tuple #[.int .i64 0, .int .i64 2]) ∧ w = w') := Lib.hid (fun w => by
          have := mo_impl y m w
          unfold moV moE at this
          rw [if_neg hb, if_neg hb] at this
          exact this)
        have HR : Hid (rdm s.data.toList = none) := Lib.hid (by rw [HRD2.out, if_neg (by simp [hb])])
        clear hb
        go_wp2_with (go_at_call 7; refine (HMO.out _).mono ?_; rintro e w' ⟨rfl, rfl⟩)
        go_ret2
        exact ⟨ret_ib (by simp [rdmV, HR.out]) (by simp [rdmO, HR.out]), HB3.out⟩
    · have HR : Hid (rdm s.data.toList = none) := Lib.hid (by
        rw [HRD.out]
        split
        · next h1 h2 => exact absurd h2 (hno _)
        · rfl)
      clear hno
      go_wp2_with fail
      go_ret2
      exact ⟨ret_ib (by simp [rdmV, HR.out]) (by simp [rdmO, HR.out]), HB3.out⟩
  · have HR : Hid (rdm s.data.toList = none) := Lib.hid (by
      rw [HRD.out]
      split
      · next h1 h2 => exact absurd h1 (hno _)
      · rfl)
    clear hno HE1
    go_wp2_with fail
    refine (parse_all _ _ (by have := HSB.out; omega) HA2.out).mono ?_
    rintro e w3 ⟨he2, hb⟩
    have HB3 := Lib.hid (HB2.out.trans (hb.mono HB2.out.size))
    clear hb
    rcases he2 with ⟨m, hm, rfl⟩ | ⟨hno, m, N2, rfl⟩
    · clear hm
      go_wp2_with fail
      go_ret2
      exact ⟨ret_ib (by simp [rdmV, HR.out]) (by simp [rdmO, HR.out]), HB3.out⟩
    · clear hno
      go_wp2_with fail
      go_ret2
      exact ⟨ret_ib (by simp [rdmV, HR.out]) (by simp [rdmO, HR.out]), HB3.out⟩

end Go.Proofs.YtalfbhkgjfkneaaDoor
