/- Merged: Tct. -/
import Derived.Test.YtpphiekbhikadaaDoorTrx17
import Derived.Test.YtpphiekbhikadaaDoorTrx21

/- Tontines: the text of a class: model and program. -/
namespace Go.Proofs.YtpphiekbhikadaaDoor
open Go.ChangeShapes Go.WideShapes Go.ChangeAt Go.RowKit
set_option linter.unusedVariables false
set_option linter.unusedSimpArgs false
set_option maxRecDepth 100000

/-- a member's shares, negative if the member is dead -/
def sgF (sh D : List Int) (i : Nat) : Int := if (i : Int) ∈ D then -(sh.getD i 0) else sh.getD i 0

def sgL (sh D : List Int) (n : Nat) : List Int := (List.range n).map (sgF sh D)

theorem sgL_len (sh D : List Int) (n : Nat) : (sgL sh D n).length = n := by simp [sgL]

theorem sgL_snoc (sh D : List Int) (n : Nat) : sgL sh D (n + 1) = sgL sh D n ++ [sgF sh D n] := by simp [sgL, List.range_succ]

theorem sgL_get (sh D : List Int) (n i : Nat) (hi : i < n) : (sgL sh D n).getD i 0 = sgF sh D i := by simp [sgL, List.getD, hi]

theorem sgL_nil (sh : List Int) : sgL sh [] sh.length = sh := by
  apply List.ext_getElem
  · simp [sgL]
  · intro i h1 h2
    simp [sgL, sgF, List.getD, h2]

theorem sgL_set (sh D : List Int) (n i : Nat) (hi : i < n) (hd : (i : Int) ∉ D) : (sgL sh D n).set i (-(sh.getD i 0)) = sgL sh (D ++ [(i : Int)]) n := by
  apply List.ext_getElem
  · simp [sgL]
  · intro k h1 h2
    have hk : k < n := by simpa [sgL] using h2
    rw [List.getElem_set]
    by_cases e : i = k
    · subst e; simp [sgL, sgF]
    · rw [if_neg e]
      have : ((k : Int) ∈ D ++ [(i : Int)]) ↔ (k : Int) ∈ D := by
        rw [List.mem_append, List.mem_singleton]
        constructor
        · rintro (h | h)
          · exact h
          · omega
        · exact .inl
      simp only [sgL, List.getElem_map, List.getElem_range, sgF]
      by_cases hkd : (k : Int) ∈ D
      · rw [if_pos hkd, if_pos (this.2 hkd)]
      · rw [if_neg hkd, if_neg (fun h => hkd (this.1 h))]

theorem TcOk.sg {sh de : List Int} {ch : Int} (h : TcOk sh de ch) (D : List Int) (i : Nat) : -1000 ≤ sgF sh D i ∧ sgF sh D i ≤ 1000 := by
  obtain ⟨h1, h2⟩ := h.get i
  unfold sgF
  split <;> omega

def ctT (sh de : List Int) (ch : Int) : List UInt8 := if tcB sh de ch then jn (ch :: sgL sh de sh.length) else []

theorem numberS_any (n : Int) (w : World) (h0 : -1000000 ≤ n) (h1 : n ≤ 1000000000000) :
    Calls Tryd.prog 60 #[.int .i64 n] w fun e w' => e = .returned (.string ⟨(Lib.itoa n).toArray⟩) ∧ Below w.heap.size w w' := by
  by_cases hn : 0 ≤ n
  · exact number_any n w hn h1
  · obtain ⟨u, hu⟩ := Int.eq_ofNat_of_zero_le (show 0 ≤ -n by omega)
    have hc := fun w => dec_any u (u : Int) w (by omega) (by omega) (by omega)
    have HI : Hid (Lib.itoa n = 45 :: Lib.decDigits u) := Lib.hid (by rw [show n = -(u : Int) by omega, itoa_minus _ (by omega), itoa_nat])
    simp only [Int.toNat_natCast] at hc
    have HC := Lib.hid hc
    have hlt : decide (n < 0) = true := by simp; omega
    have q1 : IntKind.i64.wrap (-n) = (u : Int) := by rw [hu]; exact IntWalk.i64_in _ (by omega)
    have q2 : wrap64 (-n) = (u : Int) := by rw [hu]; exact IntWalk.wrap64_in _ (by omega)
    have hl := itoa_len64 n (by omega) (by omega)
    rw [HI.out] at hl
    have hl2 : (Lib.decDigits u).length ≤ 20 := by simpa using hl
    have hn0 : n < 0 := by omega
    clear hc hu hn hl
    go_enter Tryd.func60, Tryd.ntmps60
    go_wp2_with fail
    refine (HC.out _).mono ?_
    rintro e w1 ⟨rfl, hb⟩
    have HB := Lib.hid hb
    clear hb
    go_wp2_with fail
    go_ret
    exact ⟨ret_str (by rw [HI.out]; simp), HB.out⟩

def Wid (xs : List Int) : Prop := ∀ x ∈ xs, -1000000 ≤ x ∧ x ≤ 1000000000000

theorem Wid.get {xs : List Int} (h : Wid xs) (i : Nat) : -1000000 ≤ xs.getD i 0 ∧ xs.getD i 0 ≤ 1000000000000 := by
  by_cases hi : i < xs.length
  · rw [List.getD_eq_getElem?_getD, List.getElem?_eq_getElem hi]
    exact h _ (List.getElem_mem hi)
  · rw [List.getD_eq_getElem?_getD, List.getElem?_eq_none (by omega)]
    simp

theorem Wid.len {xs : List Int} (h : Wid xs) : (jn xs).length ≤ 22 * xs.length := by
  cases xs with
  | nil => simp [jn]
  | cons f r =>
    have hf := h f (List.mem_cons_self ..)
    have := jn_len64 f r (by omega) (by omega) (fun x hx => by have := h x (List.mem_cons_of_mem _ hx); omega)
    simp only [List.length_cons]
    omega

theorem joinS_any (xs : List Int) (a : Option Addr) (l c : Nat) (w : World) (h : Ints w a l xs) (hn : Wid xs) (hl : l ≤ 1000) :
    Calls Tryd.prog 33 #[.slice a l c, .string ⟨#[32]⟩] w fun e w' => e = .returned (.string ⟨(jn xs).toArray⟩) ∧ Below w.heap.size w w' := by
  have HL := Lib.hid h.len
  have H := Lib.hid h
  have HN := Lib.hid hn
  clear h hn
  go_enter Tryd.func33, Tryd.ntmps33
  go_wp2_with fail
  go_loopw [5, 6] (fun s i wr => ∃ k : Nat, k ≤ l ∧ i = .int .i64 k ∧ s = .string ⟨(jn (xs.take k)).toArray⟩ ∧ Hid (Below w.heap.size w wr)) (fun _ i _ => l - (intOf i).toNat)
  case atStart => exact ⟨0, Nat.zero_le _, rfl, by simp [jn], Lib.hid (Below.refl _ _)⟩
  case round =>
    obtain ⟨k, hk, rfl, rfl, HB⟩ := hrel
    have hlen := Wid.len (xs := xs.take k) (fun x hx => HN.out x (List.mem_of_mem_take hx))
    have hlk : (xs.take k).length ≤ k := List.length_take_le _ _
    by_cases hlt : k < l
    · obtain ⟨b, off, rfl, hb, hc⟩ := H.out.at (by omega)
      have hx := (HB.out.cell (p := ⟨b, off + k, none⟩) hb).trans (hc k hlt)
      obtain ⟨n0, n1⟩ := HN.out.get k
      have HT := Lib.hid (jn_take_succ xs k (by rw [HL.out]; exact hlt))
      have HT1 : Hid (k = 0 → jn (xs.take (k + 1)) = Lib.itoa (xs.getD k 0)) := Lib.hid (fun e => by subst e; exact jn_take_one xs (by rw [HL.out]; omega))
      have HTE : Hid (k = 0 → jn (xs.take k) = []) := Lib.hid (fun e => by subst e; simp [jn])
      obtain ⟨n, hn0⟩ : ∃ n, xs.getD k 0 = n := ⟨_, rfl⟩
      rw [hn0] at hx n0 n1 HT HT1
      have hil := itoa_len64 n (by omega) (by omega)
      obtain ⟨J, hJ⟩ : ∃ J, jn (xs.take k) = J := ⟨_, rfl⟩
      rw [hJ] at hlen HT HTE ⊢
      have hx' : wr.cell? ⟨b, off + k, none⟩ = some (.int .i64 n) := hx
      clear hn0 hJ hc hx
      have hJ2 : J.length ≤ 22000 := by omega
      by_cases h0 : k = 0
      · have hk0 : ¬ (0 : Int) < (k : Int) := by omega
        have HE := Lib.hid (HTE.out h0)
        have HT2 := Lib.hid (HT1.out h0)
        clear h0
        go_wp2_with fail
        refine (numberS_any n _ n0 (by omega)).mono ?_
        rintro e w3 ⟨rfl, hb3⟩
        have HB3 := Lib.hid (HB.out.trans (hb3.mono HB.out.size))
        clear hb3
        go_wp2_with fail
        go_roundw
        case rel => exact ⟨k + 1, by omega, by go_num, by rw [HT2.out]; congr 1; apply ByteArray.ext; simp [HE.out], HB3⟩
        case measure => simp [intOf]; omega
      · have hk0 : (0 : Int) < (k : Int) := by omega
        have HT2 := Lib.hid (HT.out (by omega))
        clear h0
        go_wp2_with fail
        refine (numberS_any n _ n0 (by omega)).mono ?_
        rintro e w3 ⟨rfl, hb3⟩
        have HB3 := Lib.hid (HB.out.trans (hb3.mono HB.out.size))
        clear hb3
        go_wp2_with fail
        go_roundw
        case rel => exact ⟨k + 1, by omega, by go_num, by rw [HT2.out]; congr 1; apply ByteArray.ext; simp, HB3⟩
        case measure => simp [intOf]; omega
    · obtain rfl : k = l := by omega
      have HX : Hid (xs.take k = xs) := Lib.hid (List.take_of_length_le (by rw [HL.out]; exact Nat.le_refl _))
      go_wp2_with fail
      go_ret
      exact ⟨ret_str (by rw [HX.out]), HB.out⟩

def SIPost (l : List UInt8) (E : Int) (w : World) (e : Ending) (w' : World) : Prop := e = .returned (.tuple #[.string ⟨l.toArray⟩, .int .i64 E]) ∧ Below w.heap.size w w'

theorem ret_strI {a b : List UInt8} {x y : Int} (h : a = b) (g : x = y) : Ending.returned (.tuple #[.string ⟨a.toArray⟩, .int .i64 x]) = .returned (.tuple #[.string ⟨b.toArray⟩, .int .i64 y]) := by rw [h, g]

set_option maxHeartbeats 1000000 in
theorem ctS_any (sh de : List Int) (a x : Option Addr) (l c n d : Nat) (ch : Int) (w : World) (h : Ints w a l sh) (g : Ints w x n de) :
    Calls Tryd.prog 9 #[.agg #[.slice a l c, .slice x n d, .int .i64 ch]] w (SIPost (ctT sh de ch) (tcE sh de ch) w) := by
  have HL := Lib.hid h.len
  have H := Lib.hid h
  have G := Lib.hid g
  clear h g
  have HC0 := Lib.hid (TCB.new w (.slice a l c) (.slice x n d) ch 26)
  have CI := Lib.hid (tcS_any sh de a x l c n d ch _ (H.out.on HC0.out.low) (G.out.on HC0.out.low))
  unfold SIPost
  by_cases ht : tcB sh de ch = true
  · have HV : Hid (ctT sh de ch = jn (ch :: sgL sh de l) ∧ tcE sh de ch = 0) := Lib.hid ⟨by unfold ctT; rw [if_pos ht, HL.out], by unfold tcE; rw [if_pos ht]⟩
    have hok := tc_iff.1 ht
    have HO := Lib.hid hok
    have hl60 : l ≤ 60 := by rw [← HL.out]; exact hok.n1
    have CH : Hid (∀ (k : Int) W, Below w.heap.size w W → Calls Tryd.prog 32 #[.slice x n d, .int .i64 k] W fun e w' => e = .returned (.bool (decide (k ∈ de))) ∧ w' = W) := Lib.hid (fun k W hW => shas_any de x n d k W (G.out.on hW))
    have HWD : Hid (Wid (ch :: sgL sh de l)) := Lib.hid (fun y hy => by
      rcases List.mem_cons.1 hy with rfl | hy
      · have := HO.out.c0; have := HO.out.c1; omega
      · obtain ⟨i, -, rfl⟩ := List.mem_map.1 hy
        have := HO.out.sg de i
        omega)
    rw [ht] at CI
    clear ht hok
    go_enter Tryd.func9, Tryd.ntmps9
    go_wp2_with (go_at_call 31; refine CI.out.mono ?_; rintro e w1 ⟨rfl, hb⟩; have HC1 := Lib.hid (HC0.out.on hb); obtain ⟨c0, c1, c2⟩ := HC1.out.b.threeT; clear hb)
    have HCA := Lib.hid (HC1.out.on (box_b w1 (.cells #[.int .i64 ch] 2)))
    have HOA := Lib.hid (ownI_lit1 w1 ch)
    have hs1 : w.heap.size < w1.heap.size := HC1.out.b.lt
    clear c0 c1 c2 HC1
    go_loopw [4, 5] (fun v i wr => ∃ k : Nat, k ≤ l ∧ i = .int .i64 k ∧ Hid (OwnI w1.heap.size wr v (ch :: sgL sh de k)) ∧ Hid (TCB w (.slice a l c) (.slice x n d) ch wr) ∧ Hid (w1.heap.size ≤ wr.heap.size)) (fun _ i _ => l - (intOf i).toNat)
    case atStart => exact ⟨0, Nat.zero_le _, rfl, HOA, HCA, Lib.hid (by simp)⟩
    case round =>
      obtain ⟨k, hk, rfl, HOW, HC, HSZ⟩ := hrel
      clear HOA HCA HC0
      obtain ⟨c0, c1, c2⟩ := HC.out.b.threeT
      by_cases hlt : k < l
      · obtain ⟨b1, o1, rfl, hb1, hc⟩ := (H.out.on HC.out.low).at (by omega)
        have hx := hc k hlt
        obtain ⟨s, hs⟩ : ∃ y_, sh.getD k 0 = y_ := ⟨_, rfl⟩
        rw [hs] at hx
        have hsb := HO.out.get k
        rw [hs] at hsb
        have C1 := Lib.hid (CH.out (k : Int) wr HC.out.low)
        have hsn := sgL_snoc sh de k
        unfold sgF at hsn
        rw [hs] at hsn
        have hll : (ch :: sgL sh de k).length ≤ 62 := by simp [sgL_len]; omega
        have hsz := HSZ.out
        have q1 : IntKind.i64.wrap (-s) = -s := IntWalk.i64_in _ (by omega)
        have q2 : wrap64 (-s) = -s := IntWalk.wrap64_in _ (by omega)
        by_cases hd : (k : Int) ∈ de
        · have hdd : decide ((k : Int) ∈ de) = true := by simpa using hd
          rw [hdd] at C1
          rw [if_pos hd] at hsn
          have HSN := Lib.hid hsn
          clear hs hd hdd hsn hc hb1
          go_wp2_with (first | (go_at_call 32; refine C1.out.mono ?_; rintro e w4 ⟨rfl, rfl⟩) | (at_builtin; go_must (refine wpList_app rfl _ _ rfl w1.heap.size _ (ch :: sgL sh de k) (-s) rfl (HOW.out.same (fun k _ hl => Below.heap_alloc _ _ _ hl)) ⟨w4.heap.size, 0, none⟩ rfl (one_newC w4 (-s)) (by omega) (by simp; omega) ?_)))
          intro v' w5 hO hg hw
          have hbel := Lib.hid (((Below.refl w1.heap.size w4).alloc hsz _).grown hg (by simp; omega) fun k hk => (World.ownsRow.lt HOW.out k hk).1)
          have HO5 := Lib.hid hO
          clear hO hg hw HOW
          go_wp2_with fail
          go_roundw
          case rel => exact ⟨k + 1, by omega, by go_num, Lib.hid (by rw [HSN.out]; exact HO5.out), Lib.hid ⟨HC.out.b.same (hbel.out.block _ hs1), HC.out.low.trans (hbel.out.mono (by omega))⟩, Lib.hid (Nat.le_trans hsz hbel.out.size)⟩
          case measure => simp [intOf]; omega
        · have hdd : decide ((k : Int) ∈ de) = false := by simpa using hd
          rw [hdd] at C1
          rw [if_neg hd] at hsn
          have HSN := Lib.hid hsn
          clear hs hd hdd hsn hc hb1
          go_wp2_with (first | (go_at_call 32; refine C1.out.mono ?_; rintro e w4 ⟨rfl, rfl⟩) | (at_builtin; go_must (refine wpList_app rfl _ _ rfl w1.heap.size _ (ch :: sgL sh de k) s rfl (HOW.out.same (fun k _ hl => Below.heap_alloc _ _ _ hl)) ⟨w4.heap.size, 0, none⟩ rfl (one_newC w4 s) (by omega) (by simp; omega) ?_)))
          intro v' w5 hO hg hw
          have hbel := Lib.hid (((Below.refl w1.heap.size w4).alloc hsz _).grown hg (by simp; omega) fun k hk => (World.ownsRow.lt HOW.out k hk).1)
          have HO5 := Lib.hid hO
          clear hO hg hw HOW
          go_wp2_with fail
          go_roundw
          case rel => exact ⟨k + 1, by omega, by go_num, Lib.hid (by rw [HSN.out]; exact HO5.out), Lib.hid ⟨HC.out.b.same (hbel.out.block _ hs1), HC.out.low.trans (hbel.out.mono (by omega))⟩, Lib.hid (Nat.le_trans hsz hbel.out.size)⟩
          case measure => simp [intOf]; omega
      · obtain rfl : k = l := by omega
        obtain ⟨a5, c5, hv5, h5⟩ := HOW.out.ints (by simp [sgL_len]; omega)
        subst hv5
        have HI5 := Lib.hid h5
        have hn5 : (ch :: sgL sh de k).length ≤ 1000 := by simp [sgL_len]; omega
        obtain ⟨m5, hm5⟩ : ∃ y_, (ch :: sgL sh de k).length = y_ := ⟨_, rfl⟩
        rw [hm5] at HI5 hn5
        (try rw [hm5])
        clear h5 hm5 HOW
        go_wp2_with (go_at_call 33; refine (joinS_any (ch :: sgL sh de k) _ _ _ _ HI5.out HWD.out hn5).mono ?_; rintro e w6 ⟨rfl, hb⟩; have HE := Lib.hid (HC.out.low.trans (hb.mono HC.out.low.size)); clear hb)
        go_ret2
        exact ⟨ret_strI HV.out.1.symm HV.out.2.symm, HE.out⟩
  · have HV : Hid (ctT sh de ch = [] ∧ tcE sh de ch = 1) := Lib.hid ⟨by unfold ctT; rw [if_neg ht], by unfold tcE; rw [if_neg ht]⟩
    have ht' : tcB sh de ch = false := by simpa using ht
    rw [ht'] at CI
    clear ht
    go_enter Tryd.func9, Tryd.ntmps9
    go_wp2_with (go_at_call 31; refine CI.out.mono ?_; rintro e w1 ⟨rfl, hb⟩; have HC1 := Lib.hid (HC0.out.on hb); clear hb)
    go_ret2
    exact ⟨ret_strI (a := []) HV.out.1.symm HV.out.2.symm, HC1.out.low⟩

/-- who is dead -/
theorem dead_new {de : List Int} {p n : Int} (h : incB p n de = true) {k : Nat} (hk : k < de.length) : de.getD k 0 ∉ de.take k := by
  have hA := ((inc_iff _ _ _).1 h).2
  intro hm
  obtain ⟨i, hi, he⟩ := List.getElem_of_mem hm
  simp at hi
  have := (List.pairwise_iff_getElem.1 hA) i k (by omega) hk (by omega)
  rw [List.getElem_take] at he
  rw [List.getD_eq_getElem?_getD, List.getElem?_eq_getElem hk] at he
  simp at he
  omega

set_option maxHeartbeats 1000000 in
theorem ctI_any (sh de : List Int) (a x : Option Addr) (l c n d : Nat) (ch : Int) (w : World) (h : Ints w a l sh) (g : Ints w x n de) (ht0 : Tab w) :
    Calls Tryd.prog 8 #[.agg #[.slice a l c, .slice x n d, .int .i64 ch]] w (SIPost (ctT sh de ch) (tcE sh de ch) w) := by
  have HL := Lib.hid h.len
  have GL := Lib.hid g.len
  have H := Lib.hid h
  have G := Lib.hid g
  have HTG := Lib.hid ht0.lt
  have HTA := Lib.hid ht0
  have gm := g.max
  clear h g ht0
  have HC0 := Lib.hid (TCB.new w (.slice a l c) (.slice x n d) ch 26)
  have CI := Lib.hid (tcI_any sh de a x l c n d ch _ (H.out.on HC0.out.low) (G.out.on HC0.out.low))
  unfold SIPost
  by_cases ht : tcB sh de ch = true
  · have HV : Hid (ctT sh de ch = jn (ch :: sgL sh de l) ∧ tcE sh de ch = 0) := Lib.hid ⟨by unfold ctT; rw [if_pos ht, HL.out], by unfold tcE; rw [if_pos ht]⟩
    have hok := tc_iff.1 ht
    have HO := Lib.hid hok
    have hl60 : l ≤ 60 := by rw [← HL.out]; exact hok.n1
    have hl1 : 1 ≤ l := by rw [← HL.out]; exact hok.n0
    have CC : Hid (∀ W, Hid (TCB w (.slice a l c) (.slice x n d) ch W) → Calls Tryd.prog 29 #[.slice a l c] W (ClPost sh W)) := Lib.hid (fun W hW => clone_any sh a l c W (H.out.on hW.out.low) (by omega) (by omega))
    unfold ClPost at CC
    rw [ht] at CI
    clear ht hok
    go_enter Tryd.func8, Tryd.ntmps8
    go_wp2_with (first | (go_at_call 20; refine CI.out.mono ?_; rintro e w1 ⟨rfl, hb⟩; have HC1 := Lib.hid (HC0.out.on hb); obtain ⟨c0, c1, c2⟩ := HC1.out.b.threeT; clear hb) | (go_at_call 29; refine (CC.out _ HC1).mono ?_; rintro e w2 ⟨g1, n1, q1, rfl, htb, hnq, hb⟩; have HC2 := Lib.hid (HC1.out.on hb); have HT := Lib.hid htb; obtain ⟨c0, c1, c2⟩ := HC2.out.b.threeT; clear hb htb))
    have hn1 : n1 = l := by rw [← HT.out.1, HL.out]
    subst hn1
    have hgb := (HT.out.far _ rfl)
    have hw1 : w.heap.size < w1.heap.size := HC1.out.b.lt
    have hg1 : w1.heap.size ≤ g1 := hgb.1
    have HR0 : Hid (RowI w2 g1 0 (sgL sh (de.take 0) n1)) := Lib.hid (by
      obtain ⟨-, -, ⟨h1, -⟩ | ⟨g', off, h1, -, -, h2⟩⟩ := HT.out
      · cases h1
      · cases h1
        rw [List.take_zero, ← HL.out, sgL_nil]
        exact h2)
    clear c0 c1 c2 HC1 hgb HT
    go_loopw [16] (fun i wr => ∃ k : Nat, k ≤ n ∧ i = .int .i64 k ∧ Hid (RowI wr g1 0 (sgL sh (de.take k) n1)) ∧ Hid (TCB w (.slice a n1 c) (.slice x n d) ch wr)) (fun i _ => n - (intOf i).toNat)
    case atStart => exact ⟨0, Nat.zero_le _, rfl, HR0, HC2⟩
    case round =>
      obtain ⟨k, hk, rfl, HR, HC⟩ := hrel
      clear HR0 HC2 HC0
      obtain ⟨c0, c1, c2⟩ := HC.out.b.threeT
      by_cases hlt : k < n
      · obtain ⟨b1, o1, rfl, hb1, hc⟩ := (G.out.on HC.out.low).at (by omega)
        have hx := hc k hlt
        have hkl : k < de.length := by rw [GL.out]; exact hlt
        have hnew := dead_new HO.out.d hkl
        obtain ⟨v, hv⟩ : ∃ y_, de.getD k 0 = y_ := ⟨_, rfl⟩
        rw [hv] at hx hnew
        have hvm : v ∈ de := by rw [← hv, List.getD_eq_getElem?_getD, List.getElem?_eq_getElem hkl]; exact List.getElem_mem hkl
        obtain ⟨v0, v1⟩ := HO.out.mem v hvm
        rw [HL.out] at v1
        obtain ⟨i, rfl⟩ : ∃ i : Nat, v = (i : Int) := ⟨v.toNat, by omega⟩
        have hin : i < n1 := by omega
        have hrow := HR.out.cell i (by rw [sgL_len]; exact hin)
        have hrf := HR.out.free i (by rw [sgL_len]; exact hin)
        have hst := HR.out.set i (-(sh.getD i 0))
        rw [sgL_set _ _ _ _ hin hnew] at hst
        rw [sgL_get _ _ _ _ hin] at hrow
        unfold sgF at hrow
        rw [if_neg hnew] at hrow
        have htk : de.take (k + 1) = de.take k ++ [(i : Int)] := by rw [List.take_add_one, List.getElem?_eq_getElem hkl, ← hv, List.getD_eq_getElem?_getD, List.getElem?_eq_getElem hkl]; rfl
        obtain ⟨s, hs⟩ : ∃ y_, sh.getD i 0 = y_ := ⟨_, rfl⟩
        have hsb := HO.out.get i
        rw [hs] at hsb hrow hst
        rw [Nat.zero_add] at hrow hrf hst
        have q1 : IntKind.i64.wrap (-s) = -s := IntWalk.i64_in _ (by omega)
        have q2 : wrap64 (-s) = -s := IntWalk.wrap64_in _ (by omega)
        have HST := Lib.hid hst
        have HTK := Lib.hid htk
        clear hc hb1 hv hvm hnew hst htk hs hkl
        go_wp2_with fail
        go_roundw
        case rel => exact ⟨k + 1, by omega, by go_num, Lib.hid (by rw [HTK.out]; exact HST.out), Lib.hid ⟨HC.out.b.same (far_setCell _ _ _ _ (by show w.heap.size ≠ g1; omega)), HC.out.low.setCell (p := ⟨g1, i, none⟩) (by show w.heap.size ≤ g1; omega) _⟩⟩
        case measure => simp [intOf]; omega
      · obtain rfl : k = n := by omega
        have hr := HR.out
        rw [List.take_of_length_le (by rw [GL.out]; exact Nat.le_refl _)] at hr
        have HI := Lib.hid (hr.ints (sgL_len sh de n1) (by omega))
        have CN := Lib.hid (nt_any ch (sgL sh de n1) _ n1 q1 wr HI.out (by have := HO.out.c0; omega) (by have := HO.out.c1; omega) (fun y hy => by
          obtain ⟨i, -, rfl⟩ := List.mem_map.1 hy
          have := HO.out.sg de i
          omega) (by omega) (HTA.out.stepB HTG.out HC.out.low))
        clear hr
        go_wp2_with (go_at_call 30; refine CN.out.mono ?_; rintro e w6 ⟨rfl, hb⟩; have HE := Lib.hid (HC.out.low.trans (hb.mono HC.out.low.size)); clear hb)
        go_ret2
        exact ⟨ret_strI HV.out.1.symm HV.out.2.symm, HE.out⟩
  · have HV : Hid (ctT sh de ch = [] ∧ tcE sh de ch = 1) := Lib.hid ⟨by unfold ctT; rw [if_neg ht], by unfold tcE; rw [if_neg ht]⟩
    have ht' : tcB sh de ch = false := by simpa using ht
    rw [ht'] at CI
    clear ht
    go_enter Tryd.func8, Tryd.ntmps8
    go_wp2_with (go_at_call 20; refine CI.out.mono ?_; rintro e w1 ⟨rfl, hb⟩; have HC1 := Lib.hid (HC0.out.on hb); clear hb)
    go_ret2
    exact ⟨ret_strI (a := []) HV.out.1.symm HV.out.2.symm, HC1.out.low⟩

end Go.Proofs.YtpphiekbhikadaaDoor
