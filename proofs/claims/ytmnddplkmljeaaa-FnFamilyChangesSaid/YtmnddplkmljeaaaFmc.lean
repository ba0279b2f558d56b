/- Families: the program: the months of a kind's events; the kinds. (Written by wip/gen/fmc.py.) -/
import Derived.Test.YtmnddplkmljeaaaFma
namespace Go.Proofs.Ytmnddplkmljeaaa
open Go.ChangeShapes Go.WideShapes Go.ChangeAt Go.RowKit
set_option linter.unusedVariables false
set_option linter.unusedSimpArgs false
set_option maxRecDepth 100000

/-- a list of numbers that a call hands over -/
def LsP (ys : List Int) (w : World) (e : Ending) (w' : World) : Prop := ∃ a k c, e = .returned (.slice a k c) ∧ (ys.length = k ∧ (k = 0 ∨ ∃ B, a = some ⟨B, 0, none⟩ ∧ Blk w' B ys)) ∧ Below w.heap.size w w'

theorem FB.cut {w : World} {d m v l : Int} {a : Option Addr} {n c : Nat} {ch : List Int} {W W' : World} (h : FB w d m v l a n c ch W) (H : Ints w a n ch) (hb : Below (w.heap.size + 1) W W') : FB w d m v l a n c ch W' :=
  ⟨h.b.same (hb.block _ (by omega)), H.on (h.low.trans (hb.mono (by omega))), h.low.trans (hb.mono (by omega))⟩

theorem imt_any (n : Int) (w : World) : Calls Try.prog 127 #[.int .i64 n] w (LsP (tellL n) w) := by
  by_cases h : n = -1
  · have h1 : (n == -1) = true := by simpa using h
    have HR : Hid (tellL n = []) := Lib.hid (by unfold tellL; rw [if_pos h])
    clear h
    go_enter Try.func127, Try.ntmps127
    go_wp2_with fail
    go_ret
    exact ⟨none, 0, 0, rfl, by rw [HR.out]; exact ⟨rfl, .inl rfl⟩, Below.refl _ _⟩
  · have h1 : (n == -1) = false := by simpa using h
    have HR : Hid (tellL n = [n]) := Lib.hid (by unfold tellL; rw [if_neg h])
    have HK := Lib.hid (Blk.new w [n])
    clear h
    go_enter Try.func127, Try.ntmps127
    go_wp2_with fail
    go_ret
    exact ⟨_, 1, 1, rfl, by rw [HR.out]; exact ⟨rfl, .inr ⟨_, rfl, HK.out⟩⟩, box_b _ _⟩

set_option maxHeartbeats 1000000 in
theorem ica_any (d m v l : Int) (ch : List Int) (a : Option Addr) (n c : Nat) (g : Int) (w : World) (h : Ints w a n ch) (hf : FmOk d m v l ch) (g0 : 0 ≤ g ∧ g ≤ 192) :
    Calls Try.prog 128 #[.agg #[.int .i64 d, .int .i64 m, .int .i64 v, .int .i64 l, .slice a n c], .int .i64 g] w (LsP (chA d g ch) w) := by
  have HL := Lib.hid h.len
  have H := Lib.hid h
  have HB := Lib.hid (FB.new w d m v l (c := c) h)
  have hn : n ≤ 12 := by rw [← h.len]; exact hf.2.2.2.2.1
  have HIN : Hid (∀ j, j < n → 0 ≤ ch.getD j 0 ∧ ch.getD j 0 ≤ 35999) := Lib.hid (fun j hj => by
    have := hf.2.2.2.2.2.1 (ch.getD j 0) (by
      rw [List.getD_eq_getElem?_getD, List.getElem?_eq_getElem (by rw [HL.out]; exact hj)]
      exact List.getElem_mem _)
    omega)
  have HZL : Hid ((chA d g ch).length = n) := Lib.hid (by unfold chA; rw [List.length_map, HL.out])
  have HZ : Hid (∀ j, j < n → (chA d g ch).getD j 0 = max (ch.getD j 0 + g) (d + 1)) := Lib.hid (fun j hj => by
    unfold chA
    simp [List.getD, (by rw [HL.out]; exact hj : j < ch.length)])
  have CA : Hid (∀ W, Hid (FB w d m v l a n c ch W) → Calls Try.prog 95 #[.agg #[.int .i64 d, .int .i64 m, .int .i64 v, .int .i64 l, .slice a n c]] W fun e w' => e = .returned (.int .i64 (d + 1)) ∧ Below W.heap.size W w') := Lib.hid (fun W hW => iad_any d m v l ch a n c W hf.1.1 hf.1.2)
  obtain ⟨zs, hzs⟩ : ∃ y_, chA d g ch = y_ := ⟨_, rfl⟩
  rw [hzs] at HZL HZ
  rw [hzs]
  have hmk := make_ints n (by omega)
  have HK0 := Lib.hid (Blk.new (w.alloc (.cells #[.int .i64 d, .int .i64 m, .int .i64 v, .int .i64 l, .slice a n c] 26)) (List.replicate n (0 : Int)))
  have HB0 : Hid (FB w d m v l a n c ch ((w.alloc (.cells #[.int .i64 d, .int .i64 m, .int .i64 v, .int .i64 l, .slice a n c] 26)).alloc (.cells ((List.replicate n (0 : Int)).map (Value.int .i64)).toArray 2))) := Lib.hid (HB.out.box _)
  have HD := Lib.hid hf.1
  obtain ⟨f0, f1, f2, f3, f4, -⟩ := fbS HB.out
  obtain ⟨k0, k1, k2, k3, k4, -⟩ := fbS HB0.out
  clear h hf hzs
  go_enter Try.func128, Try.ntmps128
  go_wp2_with fail
  clear hmk f0 f1 f2 f3 f4 k0 k1 k2 k3 k4
  go_loopw [15] (fun i wr => ∃ k : Nat, k ≤ n ∧ i = .int .i64 k ∧ Hid (Blk wr (w.heap.size + 1) (zs.take k ++ List.replicate (zs.length - k) 0)) ∧ Hid (FB w d m v l a n c ch wr)) (fun i _ => n - (intOf i).toNat)
  case atStart => exact ⟨0, Nat.zero_le _, rfl, Lib.hid (by rw [HZL.out]; have := HK0.out; rw [World.size_alloc] at this; simpa using this), Lib.hid (HB.out.box _)⟩
  case round =>
    obtain ⟨k, hk, rfl, HK, HB1⟩ := hrel
    obtain ⟨f0, f1, f2, f3, f4, -⟩ := fbS HB1.out
    by_cases hlt : k < n
    · obtain ⟨b1, o1, rfl, hb1, hc⟩ := HB1.out.i.at (by omega)
      have hx := hc k hlt
      have hib := HIN.out k hlt
      have hzk := HZ.out k hlt
      obtain ⟨b, hb⟩ : ∃ y_, ch.getD k 0 = y_ := ⟨_, rfl⟩
      rw [hb] at hx hib hzk
      have q1 : IntKind.i64.wrap (b + g) = b + g := IntWalk.i64_in _ (by omega)
      obtain ⟨V, hV⟩ : ∃ y_, (if b + g < d + 1 then d + 1 else b + g) = y_ := ⟨_, rfl⟩
      have HV : Hid (zs.getD k 0 = V) := Lib.hid (by rw [hzk, ← hV]; split <;> omega)
      have CR := Lib.hid (CA.out wr HB1)
      clear hc hb1 hb hib hzk
      go_wp2_with fail
      (with_reducible refine CR.out.mono ?_)
      rintro e w2 ⟨rfl, hbb⟩
      have HB2 := Lib.hid (HB1.out.on hbb)
      have HK2 := Lib.hid (HK.out.below hbb HK.out.lt)
      have hy := HK2.out.cell k (by simp; have := HZL.out; omega)
      have hfz := HK2.out.free k
      obtain ⟨u, hu⟩ : ∃ u, (zs.take k ++ List.replicate (zs.length - k) 0).getD k 0 = u := ⟨_, rfl⟩
      rw [hu] at hy
      clear hu hbb CR f0 f1 f2 f3 f4 hx
      go_wp2_with fail
      go_roundw
      case rel => exact ⟨k + 1, by omega, by go_num, Lib.hid (by have := HK2.out.set k V; rw [← HV.out, set_step zs k (by rw [HZL.out]; exact hlt), HV.out] at this; exact this), Lib.hid (HB2.out.cut H.out ((Below.refl _ _).setCell (p := ⟨(w.heap.size + 1), k, none⟩) (Nat.le_refl _) _))⟩
      case measure => simp [intOf]; omega
    · obtain rfl : k = n := by omega
      have HF : Hid (Blk wr (w.heap.size + 1) zs) := Lib.hid (by
        have := HK.out
        rw [HZL.out, Nat.sub_self, List.replicate_zero, List.append_nil, List.take_of_length_le (by rw [HZL.out]; exact Nat.le_refl _)] at this
        exact this)
      go_wp2_with fail
      go_ret
      exact ⟨_, _, _, rfl, ⟨HZL.out, .inr ⟨_, rfl, HF.out⟩⟩, HB1.out.low⟩

/-- the months of a kind's events -/
def kmL (d v l : Int) (ch : List Int) (j : Nat) : List Int := match j with
  | 0 => tellL v
  | 1 => tellL l
  | 2 => chA d 0 ch
  | _ => chA d 192 ch

/-- how many more widow's pensions, orphans' -/
def kmA (j : Nat) : Int := match j with
  | 0 => 1
  | 1 => -1
  | _ => 0

def kmB (j : Nat) : Int := match j with
  | 0 => 0
  | 1 => 0
  | 2 => 1
  | _ => -1

/-- a kind's function -/
def kmF (j : Nat) : Value := match j with
  | 0 => .func (.func 121) #[] #[]
  | 1 => .func (.func 122) #[] #[]
  | 2 => .func (.func 123) #[] #[]
  | _ => .func (.func 124) #[] #[]

def kmI (j : Nat) : FuncId := match j with
  | 0 => 121
  | 1 => 122
  | 2 => 123
  | _ => 124

theorem ikb_any (d m v l : Int) (ch : List Int) (a : Option Addr) (n c : Nat) (w : World) (h : Ints w a n ch) (hf : FmOk d m v l ch) : Calls Try.prog 121 #[.agg #[.int .i64 d, .int .i64 m, .int .i64 v, .int .i64 l, .slice a n c]] w (LsP (tellL v) w) := by
  have HB := Lib.hid (FB.new w d m v l (c := c) h)
  have CT : Hid (∀ W, Hid (FB w d m v l a n c ch W) → Calls Try.prog 127 #[.int .i64 v] W (LsP (tellL v) W)) := Lib.hid (fun W hW => imt_any v W)
  obtain ⟨f0, f1, f2, f3, f4, -⟩ := fbS HB.out
  clear h hf
  go_enter Try.func121, Try.ntmps121
  go_wp2_with fail
  refine (CT.out _ HB).mono ?_
  rintro e w1 ⟨x, k, q, rfl, hi, hb⟩
  have HI := Lib.hid hi
  have HB2 := Lib.hid (HB.out.on hb)
  clear hi hb
  go_wp2_with fail
  go_ret
  exact ⟨_, _, _, rfl, HI.out, HB2.out.low⟩

theorem ike_any (d m v l : Int) (ch : List Int) (a : Option Addr) (n c : Nat) (w : World) (h : Ints w a n ch) (hf : FmOk d m v l ch) : Calls Try.prog 122 #[.agg #[.int .i64 d, .int .i64 m, .int .i64 v, .int .i64 l, .slice a n c]] w (LsP (tellL l) w) := by
  have HB := Lib.hid (FB.new w d m v l (c := c) h)
  have CT : Hid (∀ W, Hid (FB w d m v l a n c ch W) → Calls Try.prog 127 #[.int .i64 l] W (LsP (tellL l) W)) := Lib.hid (fun W hW => imt_any l W)
  obtain ⟨f0, f1, f2, f3, f4, -⟩ := fbS HB.out
  clear h hf
  go_enter Try.func122, Try.ntmps122
  go_wp2_with fail
  refine (CT.out _ HB).mono ?_
  rintro e w1 ⟨x, k, q, rfl, hi, hb⟩
  have HI := Lib.hid hi
  have HB2 := Lib.hid (HB.out.on hb)
  clear hi hb
  go_wp2_with fail
  go_ret
  exact ⟨_, _, _, rfl, HI.out, HB2.out.low⟩

theorem iob_any (d m v l : Int) (ch : List Int) (a : Option Addr) (n c : Nat) (w : World) (h : Ints w a n ch) (hf : FmOk d m v l ch) : Calls Try.prog 123 #[.agg #[.int .i64 d, .int .i64 m, .int .i64 v, .int .i64 l, .slice a n c]] w (LsP (chA d 0 ch) w) := by
  have HB := Lib.hid (FB.new w d m v l (c := c) h)
  have CT : Hid (∀ W, Hid (FB w d m v l a n c ch W) → Calls Try.prog 128 #[.agg #[.int .i64 d, .int .i64 m, .int .i64 v, .int .i64 l, .slice a n c], .int .i64 0] W (LsP (chA d 0 ch) W)) := Lib.hid (fun W hW => ica_any d m v l ch a n c 0 W hW.out.i hf (by omega))
  obtain ⟨f0, f1, f2, f3, f4, -⟩ := fbS HB.out
  clear h hf
  go_enter Try.func123, Try.ntmps123
  go_wp2_with fail
  refine (CT.out _ HB).mono ?_
  rintro e w1 ⟨x, k, q, rfl, hi, hb⟩
  have HI := Lib.hid hi
  have HB2 := Lib.hid (HB.out.on hb)
  clear hi hb
  go_wp2_with fail
  go_ret
  exact ⟨_, _, _, rfl, HI.out, HB2.out.low⟩

theorem ioe_any (d m v l : Int) (ch : List Int) (a : Option Addr) (n c : Nat) (w : World) (h : Ints w a n ch) (hf : FmOk d m v l ch) : Calls Try.prog 124 #[.agg #[.int .i64 d, .int .i64 m, .int .i64 v, .int .i64 l, .slice a n c]] w (LsP (chA d 192 ch) w) := by
  have HB := Lib.hid (FB.new w d m v l (c := c) h)
  have CT : Hid (∀ W, Hid (FB w d m v l a n c ch W) → Calls Try.prog 128 #[.agg #[.int .i64 d, .int .i64 m, .int .i64 v, .int .i64 l, .slice a n c], .int .i64 192] W (LsP (chA d 192 ch) W)) := Lib.hid (fun W hW => ica_any d m v l ch a n c 192 W hW.out.i hf (by omega))
  obtain ⟨f0, f1, f2, f3, f4, -⟩ := fbS HB.out
  clear h hf
  go_enter Try.func124, Try.ntmps124
  go_wp2_with fail
  refine (CT.out _ HB).mono ?_
  rintro e w1 ⟨x, k, q, rfl, hi, hb⟩
  have HI := Lib.hid hi
  have HB2 := Lib.hid (HB.out.on hb)
  clear hi hb
  go_wp2_with fail
  go_ret
  exact ⟨_, _, _, rfl, HI.out, HB2.out.low⟩

theorem ikm_any (d m v l : Int) (ch : List Int) (a : Option Addr) (n c : Nat) (j : Nat) (w : World) (h : Ints w a n ch) (hf : FmOk d m v l ch) : Calls Try.prog (kmI j) #[.agg #[.int .i64 d, .int .i64 m, .int .i64 v, .int .i64 l, .slice a n c]] w (LsP (kmL d v l ch j) w) := by
  match j with
  | 0 => exact ikb_any d m v l ch a n c w h hf
  | 1 => exact ike_any d m v l ch a n c w h hf
  | 2 => exact iob_any d m v l ch a n c w h hf
  | j + 3 => exact ioe_any d m v l ch a n c w h hf

/-- the block of the kinds -/
def KdB (w : World) (B : Nat) : Prop := w.heap[B]? = some (.cells ([kmF 0, .int .i64 1, .int .i64 0, kmF 1, .int .i64 (-1), .int .i64 0, kmF 2, .int .i64 0, .int .i64 1, kmF 3, .int .i64 0, .int .i64 (-1)] : List Value).toArray 129 (0, 0))

theorem iek_any (w : World) : Calls Try.prog 113 #[] w fun e w' => ∃ B, e = .returned (.slice (some ⟨B, 0, none⟩) 4 4) ∧ KdB w' B ∧ Below w.heap.size w w' := by
  go_enter Try.func113, Try.ntmps113
  go_wp2_with fail
  go_ret
  exact ⟨_, rfl, heap_alloc_new _ _, box_b _ _⟩

end Go.Proofs.Ytmnddplkmljeaaa
