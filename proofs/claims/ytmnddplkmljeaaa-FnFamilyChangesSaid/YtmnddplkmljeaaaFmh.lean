/- Families: the program: pensions for rates, sums, changes, ends. (Written by wip/gen/fmh.py.) -/
import Derived.Test.YtmnddplkmljeaaaFmg
import Derived.Test.YtmnddplkmljeaaaFmx
namespace Go.Proofs.Ytmnddplkmljeaaa
open Go.ChangeShapes Go.WideShapes Go.ChangeAt Go.RowKit
set_option linter.unusedVariables false
set_option linter.unusedSimpArgs false
set_option maxRecDepth 100000

set_option maxHeartbeats 1000000 in
theorem ipi_any (d m v l : Int) (ch : List Int) (a : Option Addr) (n c : Nat) (k p o : Int) (w : World) (h : Ints w a n ch) :
    Calls Try.prog 20 #[.agg #[.int .i64 d, .int .i64 m, .int .i64 v, .int .i64 l, .slice a n c], .int .i64 k, .int .i64 p, .int .i64 o] w fun e w' => e = .returned (.tuple #[.int .i64 (fV (fmE (fmB d m v l ch) (mthB k && rtP p o)) (pnV d v l ch k p o)), .int .i64 (fmE (fmB d m v l ch) (mthB k && rtP p o))]) ∧ Below w.heap.size w w' := by
  have HB := Lib.hid (FB.new w d m v l (c := c) h)
  have CP : Hid (∀ W, Hid (FB w d m v l a n c ch W) → Calls Try.prog 85 #[.agg #[.int .i64 d, .int .i64 m, .int .i64 v, .int .i64 l, .slice a n c], .int .i64 k] W (PnP (fV (fmE (fmB d m v l ch) (mthB k)) (wdI v l k)) (fV (fmE (fmB d m v l ch) (mthB k)) (orN d ch k)) (fmE (fmB d m v l ch) (mthB k)) W)) := Lib.hid (fun W hW => ipo_any d m v l ch a n c k W hW.out.i)
  unfold PnP at CP
  obtain ⟨f0, f1, f2, f3, f4, -⟩ := fbS HB.out
  by_cases h0 : fmE (fmB d m v l ch) (mthB k) = 0
  · obtain ⟨hf, hk⟩ := fmE_iff.1 h0
    have hok := (fm_iff ..).1 hf
    rw [h0] at CP
    have HX : Hid (fV 0 (wdI v l k) = wdI v l k ∧ fV 0 (orN d ch k) = orN d ch k) := Lib.hid ⟨rfl, rfl⟩
    rw [HX.out.1, HX.out.2] at CP
    cases hr : rtP p o with
    | false =>
      have CR : Hid (∀ W, Calls Try.prog 76 #[.int .i64 p, .int .i64 o] W fun e w' => e = .returned (.bool false) ∧ W = w') := Lib.hid (fun W => by have := iar_any p o W; rw [hr] at this; exact this)
      have HE : Hid (fmE (fmB d m v l ch) (mthB k && false) = 2 ∧ fV 2 (pnV d v l ch k p o) = 0) := Lib.hid ⟨by rw [hf]; simp [fmE], rfl⟩
      rw [HE.out.1, HE.out.2]
      obtain ⟨X, hX⟩ : ∃ y_, wdI v l k = y_ := ⟨_, rfl⟩
      obtain ⟨Y, hY⟩ : ∃ y_, orN d ch k = y_ := ⟨_, rfl⟩
      rw [hX, hY] at CP
      clear h h0 hf hk hok hr hX hY
      go_enter Try.func20, Try.ntmps20
      go_wp2_with fail
      (with_reducible refine (CP.out _ HB).mono ?_)
      rintro e w1 ⟨rfl, hb⟩
      have HB1 := Lib.hid ((HB.out.on hb).box (.cells #[.int .i64 X, .int .i64 Y] 95))
      clear hb
      go_wp2_with (go_at_call 76; refine (CR.out _).mono ?_; rintro e w' ⟨rfl, rfl⟩)
      go_ret2
      exact ⟨rfl, HB1.out.low⟩
    | true =>
      have CR : Hid (∀ W, Calls Try.prog 76 #[.int .i64 p, .int .i64 o] W fun e w' => e = .returned (.bool true) ∧ W = w') := Lib.hid (fun W => by have := iar_any p o W; rw [hr] at this; exact this)
      have HE : Hid (fmE (fmB d m v l ch) (mthB k && true) = 0 ∧ fV 0 (pnV d v l ch k p o) = pnV d v l ch k p o) := Lib.hid ⟨by rw [hf, hk]; rfl, rfl⟩
      rw [HE.out.1, HE.out.2]
      have hb1 := wdI_bd v l k
      have hb2 := orN_bd d k ch
      have hlen := hok.2.2.2.2.1
      have hrr := hr
      unfold rtP at hrr
      rw [Bool.and_eq_true, inB_iff, inB_iff] at hrr
      have HV : Hid (wdI v l k * p + orN d ch k * o = pnV d v l ch k p o) := Lib.hid (by
        unfold pnV wdI
        rw [Int.mul_comm o]
        split <;> omega)
      have CC : Hid (∀ W, Calls Try.prog 79 #[.agg #[.int .i64 (wdI v l k), .int .i64 (orN d ch k)], .int .i64 p, .int .i64 o] W fun e w' => e = .returned (.int .i64 (wdI v l k * p + orN d ch k * o)) ∧ Below W.heap.size W w') := Lib.hid (fun W => cents_any _ _ p o W hb1 (by omega) hrr.1 hrr.2)
      rw [HV.out] at CC
      obtain ⟨X, hX⟩ : ∃ y_, wdI v l k = y_ := ⟨_, rfl⟩
      obtain ⟨Y, hY⟩ : ∃ y_, orN d ch k = y_ := ⟨_, rfl⟩
      obtain ⟨V, hV⟩ : ∃ y_, pnV d v l ch k p o = y_ := ⟨_, rfl⟩
      rw [hX, hY] at CP
      rw [hX, hY, hV] at CC
      rw [hV]
      clear h h0 hf hk hok hr hX hY hV hb1 hb2 hlen hrr HV
      go_enter Try.func20, Try.ntmps20
      go_wp2_with fail
      (with_reducible refine (CP.out _ HB).mono ?_)
      rintro e w1 ⟨rfl, hb⟩
      have HB1 := Lib.hid ((HB.out.on hb).box (.cells #[.int .i64 X, .int .i64 Y] 95))
      clear hb
      go_wp2_with (first | (go_at_call 76; refine (CR.out _).mono ?_; rintro e w' ⟨rfl, rfl⟩) | (go_at_call 79; refine (CC.out _).mono ?_; rintro e w2 ⟨rfl, hb⟩; have HB1 := Lib.hid (HB1.out.on hb); clear hb))
      go_ret2
      exact ⟨rfl, HB1.out.low⟩
  · have HE : Hid (fmE (fmB d m v l ch) (mthB k && rtP p o) = fmE (fmB d m v l ch) (mthB k)) := Lib.hid (by
      revert h0
      cases fmB d m v l ch <;> cases mthB k <;> simp [fmE])
    rw [HE.out]
    obtain ⟨E, hE⟩ : ∃ y_, fmE (fmB d m v l ch) (mthB k) = y_ := ⟨_, rfl⟩
    rw [hE] at h0 CP ⊢
    have b1 : (E == 0) = false := by simpa using h0
    have b2 : (E != 0) = true := by simpa using h0
    have HZ : Hid (fV E (pnV d v l ch k p o) = 0) := Lib.hid (by simp [fV, h0])
    rw [HZ.out]
    obtain ⟨X, hX⟩ : ∃ y_, fV E (wdI v l k) = y_ := ⟨_, rfl⟩
    obtain ⟨Y, hY⟩ : ∃ y_, fV E (orN d ch k) = y_ := ⟨_, rfl⟩
    rw [hX, hY] at CP
    clear h h0 hE hX hY HE
    go_enter Try.func20, Try.ntmps20
    go_wp2_with fail
    (with_reducible refine (CP.out _ HB).mono ?_)
    rintro e w1 ⟨rfl, hb⟩
    have HB1 := Lib.hid ((HB.out.on hb).box (.cells #[.int .i64 X, .int .i64 Y] 95))
    clear hb
    go_wp2_with fail
    go_ret2
    exact ⟨rfl, HB1.out.low⟩

set_option maxHeartbeats 4000000 in
theorem ipb_any (d m v l : Int) (ch : List Int) (a : Option Addr) (n c : Nat) (f t p o : Int) (w : World) (h : Ints w a n ch) :
    Calls Try.prog 17 #[.agg #[.int .i64 d, .int .i64 m, .int .i64 v, .int .i64 l, .slice a n c], .int .i64 f, .int .i64 t, .int .i64 p, .int .i64 o] w fun e w' => e = .returned (.tuple #[.int .i64 (fV (fmE (fmB d m v l ch) (mthB f && mthB t && inB (t - f) 0 1200 && rtP p o)) (pbS d v l ch p o f (t - f).toNat)), .int .i64 (fmE (fmB d m v l ch) (mthB f && mthB t && inB (t - f) 0 1200 && rtP p o))]) ∧ Below w.heap.size w w' := by
  have HB := Lib.hid (FB.new w d m v l (c := c) h)
  have CF : Hid (∀ W, Hid (FB w d m v l a n c ch W) → Calls Try.prog 26 #[.agg #[.int .i64 d, .int .i64 m, .int .i64 v, .int .i64 l, .slice a n c]] W fun e w' => e = .returned (.bool (fmB d m v l ch)) ∧ Below W.heap.size W w') := Lib.hid (fun W hW => ifm_any d m v l ch a n c W hW.out.i)
  obtain ⟨f0, f1, f2, f3, f4, -⟩ := fbS HB.out
  cases hf : fmB d m v l ch with
  | false =>
    rw [hf] at CF
    have HE : Hid (fmE false (mthB f && mthB t && inB (t - f) 0 1200 && rtP p o) = 1 ∧ fV 1 (pbS d v l ch p o f (t - f).toNat) = 0) := Lib.hid ⟨rfl, rfl⟩
    rw [HE.out.1, HE.out.2]
    clear h hf
    go_enter Try.func17, Try.ntmps17
    go_wp2_with (go_at_call 26; (with_reducible refine (CF.out _ HB).mono ?_); rintro e w1 ⟨rfl, hb⟩; have HB1 := Lib.hid (HB.out.on hb); obtain ⟨f0, f1, f2, f3, f4, -⟩ := fbS HB1.out; clear hb)
    go_ret2
    exact ⟨rfl, HB1.out.low⟩
  | true =>
    rw [hf] at CF
    have hok := (fm_iff ..).1 hf
    obtain ⟨R, hR⟩ : ∃ y_, (mthB f && mthB t && inB (t - f) 0 1200 && rtP p o) = y_ := ⟨_, rfl⟩
    rw [hR]
    cases g1 : mthB f with
    | false =>
      have HMf : Hid (∀ W, Calls Try.prog 74 #[.int .i64 f] W fun e w' => e = .returned (.bool false) ∧ W = w') := Lib.hid (fun W => by have := mvalid_any f W; rw [g1] at this; exact this)
      have HE : Hid (fmE true R = 2 ∧ fV 2 (pbS d v l ch p o f (t - f).toNat) = 0) := Lib.hid ⟨by rw [← hR, g1]; simp [fmE], rfl⟩
      rw [HE.out.1, HE.out.2]
      clear h hf hok hR g1
      go_enter Try.func17, Try.ntmps17
      go_wp2_with (first | (go_at_call 26; (with_reducible refine (CF.out _ HB).mono ?_); rintro e w1 ⟨rfl, hb⟩; have HB1 := Lib.hid (HB.out.on hb); obtain ⟨f0, f1, f2, f3, f4, -⟩ := fbS HB1.out; clear hb) | (go_at_call 74; ((with_reducible refine (HMf.out _).mono ?_); rintro e w' ⟨rfl, rfl⟩)))
      go_ret2
      exact ⟨rfl, HB1.out.low⟩
    | true =>
      have F1 := (mthB_iff _).1 g1
      have HMf : Hid (∀ W, Calls Try.prog 74 #[.int .i64 f] W fun e w' => e = .returned (.bool true) ∧ W = w') := Lib.hid (fun W => by have := mvalid_any f W; rw [g1] at this; exact this)
      cases g2 : mthB t with
      | false =>
        have HMt : Hid (∀ W, Calls Try.prog 74 #[.int .i64 t] W fun e w' => e = .returned (.bool false) ∧ W = w') := Lib.hid (fun W => by have := mvalid_any t W; rw [g2] at this; exact this)
        have HE : Hid (fmE true R = 2 ∧ fV 2 (pbS d v l ch p o f (t - f).toNat) = 0) := Lib.hid ⟨by rw [← hR, g2]; simp [fmE], rfl⟩
        rw [HE.out.1, HE.out.2]
        clear h hf hok hR g1 g2 F1
        go_enter Try.func17, Try.ntmps17
        go_wp2_with (first | (go_at_call 26; (with_reducible refine (CF.out _ HB).mono ?_); rintro e w1 ⟨rfl, hb⟩; have HB1 := Lib.hid (HB.out.on hb); obtain ⟨f0, f1, f2, f3, f4, -⟩ := fbS HB1.out; clear hb) | (go_at_call 74; first | ((with_reducible refine (HMf.out _).mono ?_); rintro e w' ⟨rfl, rfl⟩) | ((with_reducible refine (HMt.out _).mono ?_); rintro e w' ⟨rfl, rfl⟩)))
        go_ret2
        exact ⟨rfl, HB1.out.low⟩
      | true =>
        have F2 := (mthB_iff _).1 g2
        have HMt : Hid (∀ W, Calls Try.prog 74 #[.int .i64 t] W fun e w' => e = .returned (.bool true) ∧ W = w') := Lib.hid (fun W => by have := mvalid_any t W; rw [g2] at this; exact this)
        have q0 : IntKind.i64.wrap (t - f) = t - f := IntWalk.i64_in _ (by omega)
        cases g3 : inB (t - f) 0 1200 with
        | false =>
          have HIN : Hid (∀ W, Calls Try.prog 75 #[.int .i64 (t - f), .int .i64 0, .int .i64 1200] W fun e w' => e = .returned (.bool false) ∧ W = w') := Lib.hid (fun W => by have := within_any (t - f) 0 1200 W; rw [g3] at this; exact this)
          have HE : Hid (fmE true R = 2 ∧ fV 2 (pbS d v l ch p o f (t - f).toNat) = 0) := Lib.hid ⟨by rw [← hR, g3]; simp [fmE], rfl⟩
          rw [HE.out.1, HE.out.2]
          clear h hf hok hR g1 g2 g3 F1 F2
          go_enter Try.func17, Try.ntmps17
          go_wp2_with (first | (go_at_call 26; (with_reducible refine (CF.out _ HB).mono ?_); rintro e w1 ⟨rfl, hb⟩; have HB1 := Lib.hid (HB.out.on hb); obtain ⟨f0, f1, f2, f3, f4, -⟩ := fbS HB1.out; clear hb) | (go_at_call 74; first | ((with_reducible refine (HMf.out _).mono ?_); rintro e w' ⟨rfl, rfl⟩) | ((with_reducible refine (HMt.out _).mono ?_); rintro e w' ⟨rfl, rfl⟩)) | (go_at_call 75; ((with_reducible refine (HIN.out _).mono ?_); rintro e w' ⟨rfl, rfl⟩)))
          go_ret2
          exact ⟨rfl, HB1.out.low⟩
        | true =>
          have F3 := (inB_iff _ _ _).1 g3
          have HIN : Hid (∀ W, Calls Try.prog 75 #[.int .i64 (t - f), .int .i64 0, .int .i64 1200] W fun e w' => e = .returned (.bool true) ∧ W = w') := Lib.hid (fun W => by have := within_any (t - f) 0 1200 W; rw [g3] at this; exact this)
          cases hr : rtP p o with
          | false =>
            have HRT : Hid (∀ W, Calls Try.prog 76 #[.int .i64 p, .int .i64 o] W fun e w' => e = .returned (.bool false) ∧ W = w') := Lib.hid (fun W => by have := iar_any p o W; rw [hr] at this; exact this)
            have HE : Hid (fmE true R = 2 ∧ fV 2 (pbS d v l ch p o f (t - f).toNat) = 0) := Lib.hid ⟨by rw [← hR, hr]; simp [fmE], rfl⟩
            rw [HE.out.1, HE.out.2]
            clear h hf hok hR g1 g2 g3 F1 F2 F3 hr
            go_enter Try.func17, Try.ntmps17
            go_wp2_with (first | (go_at_call 26; (with_reducible refine (CF.out _ HB).mono ?_); rintro e w1 ⟨rfl, hb⟩; have HB1 := Lib.hid (HB.out.on hb); obtain ⟨f0, f1, f2, f3, f4, -⟩ := fbS HB1.out; clear hb) | (go_at_call 74; first | ((with_reducible refine (HMf.out _).mono ?_); rintro e w' ⟨rfl, rfl⟩) | ((with_reducible refine (HMt.out _).mono ?_); rintro e w' ⟨rfl, rfl⟩)) | (go_at_call 75; ((with_reducible refine (HIN.out _).mono ?_); rintro e w' ⟨rfl, rfl⟩)) | (go_at_call 76; ((with_reducible refine (HRT.out _).mono ?_); rintro e w' ⟨rfl, rfl⟩)))
            go_ret2
            exact ⟨rfl, HB1.out.low⟩
          | true =>
            have HRT : Hid (∀ W, Calls Try.prog 76 #[.int .i64 p, .int .i64 o] W fun e w' => e = .returned (.bool true) ∧ W = w') := Lib.hid (fun W => by have := iar_any p o W; rw [hr] at this; exact this)
            have HE : Hid (fmE true R = 0 ∧ fV 0 (pbS d v l ch p o f (t - f).toNat) = pbS d v l ch p o f (t - f).toNat) := Lib.hid ⟨by rw [← hR, g1, g2, g3, hr]; rfl, rfl⟩
            rw [HE.out.1, HE.out.2]
            have CE : Hid (∀ W, Hid (FB w d m v l a n c ch W) → Calls Try.prog 77 #[.agg #[.int .i64 d, .int .i64 m, .int .i64 v, .int .i64 l, .slice a n c]] W fun e w' => ∃ x q, e = .returned (.slice x (evs d v l ch).length q) ∧ EvL w' x (evs d v l ch).length (evs d v l ch) ∧ Below W.heap.size W w') := Lib.hid (fun W hW => iev_any d m v l ch a n c W hW.out.i hok)
            have CP : Hid (∀ k x q W, EvL W x (evs d v l ch).length (evs d v l ch) → Calls Try.prog 78 #[.slice x (evs d v l ch).length q, .int .i64 k] W fun e w' => e = .returned (.agg #[.int .i64 (wdI v l k), .int .i64 (orN d ch k)]) ∧ Below W.heap.size W w') := Lib.hid (fun k x q W hW => by
              have := ipn_any (evs d v l ch) x (evs d v l ch).length q k W hW (evs_sm hok).1
              rw [psW_evs hok, psO_evs] at this
              exact this)
            have hrr := hr
            unfold rtP at hrr
            rw [Bool.and_eq_true, inB_iff, inB_iff] at hrr
            have hlen := hok.2.2.2.2.1
            have CC : Hid (∀ k W, Calls Try.prog 79 #[.agg #[.int .i64 (wdI v l k), .int .i64 (orN d ch k)], .int .i64 p, .int .i64 o] W fun e w' => e = .returned (.int .i64 (pnV d v l ch k p o)) ∧ Below W.heap.size W w') := Lib.hid (fun k W => by
              have hb2 := orN_bd d k ch
              have := cents_any (wdI v l k) (orN d ch k) p o W (wdI_bd v l k) (by omega) hrr.1 hrr.2
              have hv : wdI v l k * p + orN d ch k * o = pnV d v l ch k p o := by
                unfold pnV wdI
                rw [Int.mul_comm o]
                split <;> omega
              rw [hv] at this
              exact this)
            have HBD := Lib.hid (fun k => pbS_bd (d := d) (w := v) (l := l) hr hlen f k)
            have HPN := Lib.hid (fun x => (pn_bd (d := d) (w := v) (l := l) (n := x) hr hlen).2.2)
            obtain ⟨K, hK⟩ : ∃ K : Nat, t = f + K := ⟨(t - f).toNat, by omega⟩
            have HK : Hid ((t - f).toNat = K) := Lib.hid (by omega)
            rw [HK.out]
            have HFK : Hid (0 ≤ f ∧ f ≤ 35999 ∧ K ≤ 1200 ∧ f + K ≤ 35999) := Lib.hid (by omega)
            have HTK := Lib.hid hK
            obtain ⟨es, hes⟩ : ∃ y_, evs d v l ch = y_ := ⟨_, rfl⟩
            rw [hes] at CE CP
            clear h hf hok hR g1 g2 g3 F1 F2 F3 hr hrr hlen hK HE hes
            go_enter Try.func17, Try.ntmps17
            go_wp2_with (first | (go_at_call 26; (with_reducible refine (CF.out _ HB).mono ?_); rintro e w1 ⟨rfl, hb⟩; have HB1 := Lib.hid (HB.out.on hb); obtain ⟨f0, f1, f2, f3, f4, -⟩ := fbS HB1.out; clear hb) | (go_at_call 74; first | ((with_reducible refine (HMf.out _).mono ?_); rintro e w' ⟨rfl, rfl⟩) | ((with_reducible refine (HMt.out _).mono ?_); rintro e w' ⟨rfl, rfl⟩)) | (go_at_call 75; ((with_reducible refine (HIN.out _).mono ?_); rintro e w' ⟨rfl, rfl⟩)) | (go_at_call 76; ((with_reducible refine (HRT.out _).mono ?_); rintro e w' ⟨rfl, rfl⟩)))
            (with_reducible refine (CE.out _ HB1).mono ?_)
            rintro e w2 ⟨x, q, rfl, hev, hb⟩
            have HEV0 := Lib.hid hev
            have HW0 := Lib.hid (HB1.out.on hb).low
            clear hb hev q0 f0 f1 f2 f3 f4
            go_wp2_with fail
            go_loopw [13, 14] (fun s i wr => ∃ k : Nat, k ≤ K ∧ s = .int .i64 (pbS d v l ch p o f k) ∧ i = .int .i64 (f + k) ∧ Hid (EvL wr x es.length es) ∧ Hid (Below w.heap.size w wr)) (fun _ i _ => (t - intOf i).toNat)
            case atStart => exact ⟨0, Nat.zero_le _, rfl, by simp, HEV0, HW0⟩
            case round =>
              obtain ⟨k, hk, rfl, rfl, HEV, HW⟩ := hrel
              clear HEV0 HW0
              have hfk := HFK.out
              have htk := HTK.out
              by_cases hlt : k < K
              · have b1 := HBD.out k
                have b2 := HPN.out (f + k)
                have CPk := Lib.hid (CP.out (f + k) x q)
                have CCk := Lib.hid (CC.out (f + k))
                have HS : Hid (pbS d v l ch p o f (k + 1) = pbS d v l ch p o f k + pnV d v l ch (f + k) p o) := Lib.hid rfl
                obtain ⟨T, hT⟩ : ∃ y_, pbS d v l ch p o f k = y_ := ⟨_, rfl⟩
                obtain ⟨V, hV⟩ : ∃ y_, pnV d v l ch (f + k) p o = y_ := ⟨_, rfl⟩
                obtain ⟨X, hX⟩ : ∃ y_, wdI v l (f + k) = y_ := ⟨_, rfl⟩
                obtain ⟨Y, hY⟩ : ∃ y_, orN d ch (f + k) = y_ := ⟨_, rfl⟩
                rw [hT] at b1 HS ⊢
                rw [hV] at b2 HS CCk
                rw [hX, hY] at CPk CCk
                have q1 : IntKind.i64.wrap (T + V) = T + V := IntWalk.i64_in _ (by omega)
                have q2 : IntKind.i64.wrap (f + k + 1) = f + k + 1 := IntWalk.i64_in _ (by omega)
                have c1 : f + k < t := by omega
                obtain ⟨z, hz⟩ : ∃ y_, f + (k : Int) = y_ := ⟨_, rfl⟩
                have HX := Lib.hid hz
                rw [hz] at CPk q2 c1 ⊢
                clear hT hV hX hY b1 b2 hfk htk hz
                go_wp2_with fail
                (refine (CPk.out _ HEV.out).mono ?_)
                rintro e w9 ⟨rfl, hb⟩
                have HEV2 := Lib.hid (HEV.out.on hb)
                have HW2 := Lib.hid (HW.out.trans (hb.mono HW.out.size))
                clear hb CPk
                go_wp2_with fail
                (refine (CCk.out _).mono ?_)
                rintro e w8 ⟨rfl, hb⟩
                have HEV3 := Lib.hid (HEV2.out.on hb)
                have HW3 := Lib.hid (HW2.out.trans (hb.mono HW2.out.size))
                clear hb CCk
                go_wp2_with fail
                go_roundw
                case rel => exact ⟨k + 1, by omega, by rw [HS.out], by rw [← HX.out]; simp [Int.add_assoc], HEV3, HW3⟩
                case measure => have := HX.out; simp [intOf]; omega
              · obtain rfl : k = K := by omega
                have c1 : ¬ f + (k : Int) < t := by omega
                obtain ⟨z, hz⟩ : ∃ y_, f + (k : Int) = y_ := ⟨_, rfl⟩
                rw [hz] at c1 ⊢
                clear hfk htk hz
                go_wp2_with fail
                go_ret2
                exact ⟨rfl, HW.out⟩

set_option maxHeartbeats 2000000 in
theorem inx_any (d m v l : Int) (ch : List Int) (a : Option Addr) (n c : Nat) (k : Int) (w : World) (h : Ints w a n ch) :
    Calls Try.prog 31 #[.agg #[.int .i64 d, .int .i64 m, .int .i64 v, .int .i64 l, .slice a n c], .int .i64 k] w fun e w' => e = .returned (.tuple #[.int .i64 (fV (nxE (fmE (fmB d m v l ch) (mthB k)) (nxV d v l ch k)) (nxV d v l ch k)), .int .i64 (nxE (fmE (fmB d m v l ch) (mthB k)) (nxV d v l ch k))]) ∧ Below w.heap.size w w' := by
  have HB := Lib.hid (FB.new w d m v l (c := c) h)
  have CF : Hid (∀ W, Hid (FB w d m v l a n c ch W) → Calls Try.prog 26 #[.agg #[.int .i64 d, .int .i64 m, .int .i64 v, .int .i64 l, .slice a n c]] W fun e w' => e = .returned (.bool (fmB d m v l ch)) ∧ Below W.heap.size W w') := Lib.hid (fun W hW => ifm_any d m v l ch a n c W hW.out.i)
  obtain ⟨f0, f1, f2, f3, f4, -⟩ := fbS HB.out
  cases hf : fmB d m v l ch with
  | false =>
    rw [hf] at CF
    have HE : Hid (nxE (fmE false (mthB k)) (nxV d v l ch k) = 1 ∧ fV 1 (nxV d v l ch k) = 0) := Lib.hid ⟨rfl, rfl⟩
    rw [HE.out.1, HE.out.2]
    clear h hf
    go_enter Try.func31, Try.ntmps31
    go_wp2_with (go_at_call 26; (with_reducible refine (CF.out _ HB).mono ?_); rintro e w1 ⟨rfl, hb⟩; have HB1 := Lib.hid (HB.out.on hb); obtain ⟨f0, f1, f2, f3, f4, -⟩ := fbS HB1.out; clear hb)
    go_ret2
    exact ⟨rfl, HB1.out.low⟩
  | true =>
    rw [hf] at CF
    have hok := (fm_iff ..).1 hf
    cases g1 : mthB k with
    | false =>
      have HMf : Hid (∀ W, Calls Try.prog 74 #[.int .i64 k] W fun e w' => e = .returned (.bool false) ∧ W = w') := Lib.hid (fun W => by have := mvalid_any k W; rw [g1] at this; exact this)
      have HE : Hid (nxE (fmE true false) (nxV d v l ch k) = 2 ∧ fV 2 (nxV d v l ch k) = 0) := Lib.hid ⟨rfl, rfl⟩
      rw [HE.out.1, HE.out.2]
      clear h hf hok g1
      go_enter Try.func31, Try.ntmps31
      go_wp2_with (first | (go_at_call 26; (with_reducible refine (CF.out _ HB).mono ?_); rintro e w1 ⟨rfl, hb⟩; have HB1 := Lib.hid (HB.out.on hb); obtain ⟨f0, f1, f2, f3, f4, -⟩ := fbS HB1.out; clear hb) | (go_at_call 74; ((with_reducible refine (HMf.out _).mono ?_); rintro e w' ⟨rfl, rfl⟩)))
      go_ret2
      exact ⟨rfl, HB1.out.low⟩
    | true =>
      have HMf : Hid (∀ W, Calls Try.prog 74 #[.int .i64 k] W fun e w' => e = .returned (.bool true) ∧ W = w') := Lib.hid (fun W => by have := mvalid_any k W; rw [g1] at this; exact this)
      have hk := (mthB_iff _).1 g1
      have CE : Hid (∀ W, Hid (FB w d m v l a n c ch W) → Calls Try.prog 77 #[.agg #[.int .i64 d, .int .i64 m, .int .i64 v, .int .i64 l, .slice a n c]] W fun e w' => ∃ x q, e = .returned (.slice x (evs d v l ch).length q) ∧ EvL w' x (evs d v l ch).length (evs d v l ch) ∧ Below W.heap.size W w') := Lib.hid (fun W hW => iev_any d m v l ch a n c W hW.out.i hok)
      have HSM := Lib.hid (evs_sm hok).1
      have HNV : Hid (nxL (chB d v l ch) k (evs d v l ch) = nxV d v l ch k) := Lib.hid rfl
      have CG : Hid (∀ z x q W, 0 ≤ z ∧ z ≤ 40000 → EvL W x (evs d v l ch).length (evs d v l ch) → Calls Try.prog 92 #[.slice x (evs d v l ch).length q, .int .i64 z] W fun e w' => e = .returned (.bool (chB d v l ch z)) ∧ Below W.heap.size W w') := Lib.hid (fun z x q W hz hW => by
        have := icg_any (evs d v l ch) x (evs d v l ch).length q z W hW (evs_sm hok).1 hz.1 hz.2
        rw [evB_evs hok] at this
        exact this)
      have HCS := Lib.hid (nxL_cases (chB d v l ch) k (evs d v l ch))
      obtain ⟨V, hV⟩ : ∃ y_, nxV d v l ch k = y_ := ⟨_, rfl⟩
      obtain ⟨es, hes⟩ : ∃ y_, evs d v l ch = y_ := ⟨_, rfl⟩
      obtain ⟨pc, hpc⟩ : ∃ y_, chB d v l ch = y_ := ⟨_, rfl⟩
      rw [hes] at CE CG HSM HNV HCS
      rw [hpc] at CG HNV HCS
      rw [hV] at HNV ⊢
      have H0 : Hid (nxL pc k (es.take 0) = 36000) := Lib.hid rfl
      have HN : Hid (nxL pc k (es.take es.length) = V) := Lib.hid (by rw [List.take_of_length_le (Nat.le_refl _)]; exact HNV.out)
      have HK := Lib.hid hk
      have hel : es.length ≤ 64 := HSM.out.1
      clear h hf hok g1 hV hes hpc
      go_enter Try.func31, Try.ntmps31
      go_wp2_with (first | (go_at_call 26; (with_reducible refine (CF.out _ HB).mono ?_); rintro e w1 ⟨rfl, hb⟩; have HB1 := Lib.hid (HB.out.on hb); obtain ⟨f0, f1, f2, f3, f4, -⟩ := fbS HB1.out; clear hb) | (go_at_call 74; ((with_reducible refine (HMf.out _).mono ?_); rintro e w' ⟨rfl, rfl⟩)))
      (with_reducible refine (CE.out _ HB1).mono ?_)
      rintro e w2 ⟨x, q, rfl, hev, hb⟩
      have HEV0 := Lib.hid hev
      have HW0 := Lib.hid (HB1.out.on hb).low
      clear hb hev f0 f1 f2 f3 f4
      go_wp2_with fail
      go_loopw [7, 20] (fun s i wr => ∃ j : Nat, j ≤ es.length ∧ s = .int .i64 (nxL pc k (es.take j)) ∧ i = .int .i64 j ∧ Hid (EvL wr x es.length es) ∧ Hid (Below w.heap.size w wr)) (fun _ i _ => es.length - (intOf i).toNat)
      case atStart => exact ⟨0, Nat.zero_le _, by rw [H0.out], rfl, HEV0, HW0⟩
      case round =>
        obtain ⟨j, hj, rfl, rfl, HEV, HW⟩ := hrel
        clear HEV0 HW0
        by_cases hlt : j < es.length
        · rcases HEV.out.cells with h0 | ⟨b, rfl, hb, hc⟩
          · omega
          obtain ⟨c0, c1, c2⟩ := hc j hlt
          have hg := HSM.out.get j hlt
          have hS := nxL_step pc k es j hlt
          obtain ⟨⟨e0, e1, e2⟩, he⟩ : ∃ y_, es.getD j (0, 0, 0) = y_ := ⟨_, rfl⟩
          rw [he] at c0 c1 c2 hg hS
          simp only [] at c0 c1 c2 hg hS
          have hbox := box_b wr (.cells #[.int .i64 e0, .int .i64 e1, .int .i64 e2] 109)
          have HEV1 := Lib.hid (HEV.out.on hbox)
          have HW1 := Lib.hid (HW.out.trans (hbox.mono HW.out.size))
          have CGk := Lib.hid (fun W hW => CG.out e0 (some ⟨b, 0, none⟩) q W hg.1 hW)
          obtain ⟨T, hT⟩ : ∃ y_, nxL pc k (es.take j) = y_ := ⟨_, rfl⟩
          rw [hT] at hS ⊢
          clear hc hb he hT hbox hg hk
          rcases Classical.em (k < e0) with g1 | g1
          · rcases Classical.em (e0 < T) with g2 | g2
            · cases g3 : pc e0 with
              | true =>
                have HS : Hid (nxL pc k (es.take (j + 1)) = e0) := Lib.hid (by rw [hS, if_pos ⟨g1, g2, g3⟩])
                rw [g3] at CGk
                clear hS g3
                go_wp2_with fail
                (refine (CGk.out _ HEV1.out).mono ?_)
                rintro e w9 ⟨rfl, hb⟩
                have HEV2 := Lib.hid (HEV1.out.on hb)
                have HW2 := Lib.hid (HW1.out.trans (hb.mono HW1.out.size))
                have hc0 := keep2 hb (Bx.new wr [.int .i64 e0, .int .i64 e1, .int .i64 e2] 109).threeT.1
                clear hb CGk
                go_wp2_with fail
                go_roundw
                case rel => exact ⟨j + 1, by omega, by rw [HS.out], by go_num, HEV2, HW2⟩
                case measure => simp [intOf]; omega
              | false =>
                have HS : Hid (nxL pc k (es.take (j + 1)) = T) := Lib.hid (by rw [hS, if_neg (fun e => by rw [g3] at e; cases e.2.2)])
                rw [g3] at CGk
                clear hS g3
                go_wp2_with fail
                (refine (CGk.out _ HEV1.out).mono ?_)
                rintro e w9 ⟨rfl, hb⟩
                have HEV2 := Lib.hid (HEV1.out.on hb)
                have HW2 := Lib.hid (HW1.out.trans (hb.mono HW1.out.size))
                clear hb CGk
                go_wp2_with fail
                go_roundw
                case rel => exact ⟨j + 1, by omega, by rw [HS.out], by go_num, HEV2, HW2⟩
                case measure => simp [intOf]; omega
            · have HS : Hid (nxL pc k (es.take (j + 1)) = T) := Lib.hid (by rw [hS, if_neg (fun e => g2 e.2.1)])
              clear hS CGk
              go_wp2_with fail
              go_roundw
              case rel => exact ⟨j + 1, by omega, by rw [HS.out], by go_num, HEV1, HW1⟩
              case measure => simp [intOf]; omega
          · have HS : Hid (nxL pc k (es.take (j + 1)) = T) := Lib.hid (by rw [hS, if_neg (fun e => g1 e.1)])
            clear hS CGk
            go_wp2_with fail
            go_roundw
            case rel => exact ⟨j + 1, by omega, by rw [HS.out], by go_num, HEV1, HW1⟩
            case measure => simp [intOf]; omega
        · obtain rfl : j = es.length := by omega
          rw [HN.out]
          rw [HNV.out] at HCS
          rcases HCS.out with g1 | ⟨g1, g2, g3⟩
          · have HE2 : Hid (nxE (fmE true true) V = 4 ∧ fV 4 V = 0) := Lib.hid ⟨by rw [g1]; rfl, rfl⟩
            subst g1
            have HM3 : Hid (∀ W, Calls Try.prog 74 #[.int .i64 36000] W fun e w' => e = .returned (.bool false) ∧ W = w') := Lib.hid (fun W => mvalid_any 36000 W)
            clear hk
            go_wp2_with (go_at_call 74; ((with_reducible refine (HM3.out _).mono ?_); rintro e w' ⟨rfl, rfl⟩))
            go_ret2
            exact ⟨by rw [HE2.out.1, HE2.out.2]; rfl, HW.out⟩
          · have hmv : mthB V = true := (mthB_iff _).2 (by omega)
            have HE2 : Hid (nxE (fmE true true) V = 0 ∧ fV 0 V = V) := Lib.hid ⟨by show (if (0 : Int) = 0 then (if V = 36000 then (4 : Int) else 0) else 0) = 0; rw [if_pos rfl, if_neg (by omega)], rfl⟩
            have HM3 : Hid (∀ W, Calls Try.prog 74 #[.int .i64 V] W fun e w' => e = .returned (.bool true) ∧ W = w') := Lib.hid (fun W => by have := mvalid_any V W; rw [hmv] at this; exact this)
            clear hk hmv g1 g2 g3
            go_wp2_with (go_at_call 74; ((with_reducible refine (HM3.out _).mono ?_); rintro e w' ⟨rfl, rfl⟩))
            go_ret2
            exact ⟨by rw [HE2.out.1, HE2.out.2]; rfl, HW.out⟩

set_option maxHeartbeats 2000000 in
theorem ien_any (d m v l : Int) (ch : List Int) (a : Option Addr) (n c : Nat) (w : World) (h : Ints w a n ch) :
    Calls Try.prog 34 #[.agg #[.int .i64 d, .int .i64 m, .int .i64 v, .int .i64 l, .slice a n c]] w fun e w' => e = .returned (.tuple #[.int .i64 (fV (enE (fmB d m v l ch) v l (enM d l ch)) (enM d l ch)), .int .i64 (enE (fmB d m v l ch) v l (enM d l ch))]) ∧ Below w.heap.size w w' := by
  have HB := Lib.hid (FB.new w d m v l (c := c) h)
  have CF : Hid (∀ W, Hid (FB w d m v l a n c ch W) → Calls Try.prog 26 #[.agg #[.int .i64 d, .int .i64 m, .int .i64 v, .int .i64 l, .slice a n c]] W fun e w' => e = .returned (.bool (fmB d m v l ch)) ∧ Below W.heap.size W w') := Lib.hid (fun W hW => ifm_any d m v l ch a n c W hW.out.i)
  obtain ⟨f0, f1, f2, f3, f4, -⟩ := fbS HB.out
  cases hf : fmB d m v l ch with
  | false =>
    rw [hf] at CF
    have HE : Hid (enE false v l (enM d l ch) = 1 ∧ fV 1 (enM d l ch) = 0) := Lib.hid ⟨rfl, rfl⟩
    rw [HE.out.1, HE.out.2]
    clear h hf
    go_enter Try.func34, Try.ntmps34
    go_wp2_with (go_at_call 26; (with_reducible refine (CF.out _ HB).mono ?_); rintro e w1 ⟨rfl, hb⟩; have HB1 := Lib.hid (HB.out.on hb); obtain ⟨f0, f1, f2, f3, f4, -⟩ := fbS HB1.out; clear hb)
    go_ret2
    exact ⟨rfl, HB1.out.low⟩
  | true =>
    rw [hf] at CF
    have hok := (fm_iff ..).1 hf
    rcases Classical.em (v ≠ -1 ∧ l = -1) with e0 | e0
    · have b1 : (v != -1) = true := by simpa using e0.1
      have b2 : (l == -1) = true := by simpa using e0.2
      have HE2 : Hid (enE true v l (enM d l ch) = 4 ∧ fV 4 (enM d l ch) = 0) := Lib.hid ⟨by unfold enE; rw [if_pos rfl, if_pos e0], rfl⟩
      rw [HE2.out.1, HE2.out.2]
      clear h hf hok e0
      go_enter Try.func34, Try.ntmps34
      go_wp2_with (go_at_call 26; (with_reducible refine (CF.out _ HB).mono ?_); rintro e w1 ⟨rfl, hb⟩; have HB1 := Lib.hid (HB.out.on hb); obtain ⟨f0, f1, f2, f3, f4, -⟩ := fbS HB1.out; clear hb)
      go_ret2
      exact ⟨rfl, HB1.out.low⟩
    · have HEN : Hid (enE true v l (enM d l ch) = mzE (mthB (enM d l ch))) := Lib.hid (by unfold enE; rw [if_pos rfl, if_neg e0])
      rw [HEN.out]
      have CE : Hid (∀ W, Hid (FB w d m v l a n c ch W) → Calls Try.prog 77 #[.agg #[.int .i64 d, .int .i64 m, .int .i64 v, .int .i64 l, .slice a n c]] W fun e w' => ∃ x q, e = .returned (.slice x (evs d v l ch).length q) ∧ EvL w' x (evs d v l ch).length (evs d v l ch) ∧ Below W.heap.size W w') := Lib.hid (fun W hW => iev_any d m v l ch a n c W hW.out.i hok)
      have CA : Hid (∀ W, Hid (FB w d m v l a n c ch W) → Calls Try.prog 95 #[.agg #[.int .i64 d, .int .i64 m, .int .i64 v, .int .i64 l, .slice a n c]] W fun e w' => e = .returned (.int .i64 (d + 1)) ∧ Below W.heap.size W w') := Lib.hid (fun W hW => iad_any d m v l ch a n c W hok.1.1 hok.1.2)
      have HSM := Lib.hid (evs_sm hok).1
      have HMX : Hid (mxF (d + 1) ((evs d v l ch).map (·.1)) = enM d l ch) := Lib.hid (en_eq hok).symm
      obtain ⟨V, hV⟩ : ∃ y_, enM d l ch = y_ := ⟨_, rfl⟩
      obtain ⟨es, hes⟩ : ∃ y_, evs d v l ch = y_ := ⟨_, rfl⟩
      rw [hes] at CE HSM HMX
      rw [hV] at HMX ⊢
      have H0 : Hid (mxF (d + 1) ((es.map (·.1)).take 0) = d + 1) := Lib.hid rfl
      have HN : Hid (mxF (d + 1) ((es.map (·.1)).take es.length) = V) := Lib.hid (by rw [List.take_of_length_le (by simp)]; exact HMX.out)
      have HSt : Hid (∀ j, j < es.length → mxF (d + 1) ((es.map (·.1)).take (j + 1)) = max (mxF (d + 1) ((es.map (·.1)).take j)) (es.getD j (0, 0, 0)).1) := Lib.hid (fun j hj => by
        rw [mxF_step _ _ _ (by rw [List.length_map]; exact hj)]
        simp [List.getD, hj])
      have hel : es.length ≤ 64 := HSM.out.1
      have key : Calls Try.prog 34 #[.agg #[.int .i64 d, .int .i64 m, .int .i64 v, .int .i64 l, .slice a n c]] w fun e w' => e = .returned (.tuple #[.int .i64 (fV (mzE (mthB V)) V), .int .i64 (mzE (mthB V))]) ∧ Below w.heap.size w w' := by
        rcases Classical.em (v = -1) with e1 | e1
        · have b1 : (v != -1) = false := by simpa using e1
          clear h hf hok e0 e1 hV hes HEN
          go_enter Try.func34, Try.ntmps34
          go_wp2_with (first | (go_at_call 26; (with_reducible refine (CF.out _ HB).mono ?_); rintro e w1 ⟨rfl, hb⟩; have HB1 := Lib.hid (HB.out.on hb); obtain ⟨f0, f1, f2, f3, f4, -⟩ := fbS HB1.out; clear hb) | (go_at_call 95; (with_reducible refine (CA.out _ HB1).mono ?_); rintro e w2 ⟨rfl, hb⟩; have HB2 := Lib.hid (HB1.out.on hb); obtain ⟨f0, f1, f2, f3, f4, -⟩ := fbS HB2.out; clear hb))
          (with_reducible refine (CE.out _ HB2).mono ?_)
          rintro e w3 ⟨x, q, rfl, hev, hb⟩
          have HEV0 := Lib.hid hev
          have HW0 := Lib.hid (HB2.out.on hb).low
          clear hb hev f0 f1 f2 f3 f4
          go_wp2_with fail
          go_loopw [4, 23] (fun s i wr => ∃ j : Nat, j ≤ es.length ∧ s = .int .i64 (mxF (d + 1) ((es.map (·.1)).take j)) ∧ i = .int .i64 j ∧ Hid (EvL wr x es.length es) ∧ Hid (Below w.heap.size w wr)) (fun _ i _ => es.length - (intOf i).toNat)
          case atStart => exact ⟨0, Nat.zero_le _, by rw [H0.out], rfl, HEV0, HW0⟩
          case round =>
            obtain ⟨j, hj, rfl, rfl, HEV, HW⟩ := hrel
            clear HEV0 HW0
            by_cases hlt : j < es.length
            · rcases HEV.out.cells with h0 | ⟨b, rfl, hb, hc⟩
              · omega
              obtain ⟨c0, c1, c2⟩ := hc j hlt
              have hS := HSt.out j hlt
              obtain ⟨⟨e0, e1, e2⟩, he⟩ : ∃ y_, es.getD j (0, 0, 0) = y_ := ⟨_, rfl⟩
              rw [he] at c0 c1 c2 hS
              simp only [] at c0 c1 c2 hS
              have hbox := box_b wr (.cells #[.int .i64 e0, .int .i64 e1, .int .i64 e2] 109)
              have HEV1 := Lib.hid (HEV.out.on hbox)
              have HW1 := Lib.hid (HW.out.trans (hbox.mono HW.out.size))
              obtain ⟨T, hT⟩ : ∃ y_, mxF (d + 1) ((es.map (·.1)).take j) = y_ := ⟨_, rfl⟩
              rw [hT] at hS ⊢
              have HS := Lib.hid hS
              clear hc hb he hT hbox hS
              go_wp2_with fail
              go_roundw
              case rel => exact ⟨j + 1, by omega, by rw [HS.out]; exact congrArg _ (by split <;> omega), by go_num, HEV1, HW1⟩
              case measure => simp [intOf]; omega
            · obtain rfl : j = es.length := by omega
              rw [HN.out]
              cases hm : mthB V with
              | false =>
                have CM : Hid (∀ W, Calls Try.prog 74 #[.int .i64 V] W fun e w' => e = .returned (.bool false) ∧ W = w') := Lib.hid (fun W => by have := mvalid_any V W; rw [hm] at this; exact this)
                have HM := Lib.hid hm
                clear hm
                go_wp2_with (go_at_call 74; refine (CM.out _).mono ?_; rintro e w' ⟨rfl, rfl⟩)
                go_ret2
                exact ⟨by first | rfl | (rw [HM.out]; rfl), HW.out⟩
              | true =>
                have CM : Hid (∀ W, Calls Try.prog 74 #[.int .i64 V] W fun e w' => e = .returned (.bool true) ∧ W = w') := Lib.hid (fun W => by have := mvalid_any V W; rw [hm] at this; exact this)
                have HM := Lib.hid hm
                clear hm
                go_wp2_with (go_at_call 74; refine (CM.out _).mono ?_; rintro e w' ⟨rfl, rfl⟩)
                go_ret2
                exact ⟨by first | rfl | (rw [HM.out]; rfl), HW.out⟩
        · have b1 : (v != -1) = true := by simpa using e1
          have b2 : (l == -1) = false := by have : l ≠ -1 := fun e => e0 ⟨e1, e⟩; simpa using this
          clear h hf hok e0 e1 hV hes HEN
          go_enter Try.func34, Try.ntmps34
          go_wp2_with (first | (go_at_call 26; (with_reducible refine (CF.out _ HB).mono ?_); rintro e w1 ⟨rfl, hb⟩; have HB1 := Lib.hid (HB.out.on hb); obtain ⟨f0, f1, f2, f3, f4, -⟩ := fbS HB1.out; clear hb) | (go_at_call 95; (with_reducible refine (CA.out _ HB1).mono ?_); rintro e w2 ⟨rfl, hb⟩; have HB2 := Lib.hid (HB1.out.on hb); obtain ⟨f0, f1, f2, f3, f4, -⟩ := fbS HB2.out; clear hb))
          (with_reducible refine (CE.out _ HB2).mono ?_)
          rintro e w3 ⟨x, q, rfl, hev, hb⟩
          have HEV0 := Lib.hid hev
          have HW0 := Lib.hid (HB2.out.on hb).low
          clear hb hev f0 f1 f2 f3 f4
          go_wp2_with fail
          go_loopw [4, 23] (fun s i wr => ∃ j : Nat, j ≤ es.length ∧ s = .int .i64 (mxF (d + 1) ((es.map (·.1)).take j)) ∧ i = .int .i64 j ∧ Hid (EvL wr x es.length es) ∧ Hid (Below w.heap.size w wr)) (fun _ i _ => es.length - (intOf i).toNat)
          case atStart => exact ⟨0, Nat.zero_le _, by rw [H0.out], rfl, HEV0, HW0⟩
          case round =>
            obtain ⟨j, hj, rfl, rfl, HEV, HW⟩ := hrel
            clear HEV0 HW0
            by_cases hlt : j < es.length
            · rcases HEV.out.cells with h0 | ⟨b, rfl, hb, hc⟩
              · omega
              obtain ⟨c0, c1, c2⟩ := hc j hlt
              have hS := HSt.out j hlt
              obtain ⟨⟨e0, e1, e2⟩, he⟩ : ∃ y_, es.getD j (0, 0, 0) = y_ := ⟨_, rfl⟩
              rw [he] at c0 c1 c2 hS
              simp only [] at c0 c1 c2 hS
              have hbox := box_b wr (.cells #[.int .i64 e0, .int .i64 e1, .int .i64 e2] 109)
              have HEV1 := Lib.hid (HEV.out.on hbox)
              have HW1 := Lib.hid (HW.out.trans (hbox.mono HW.out.size))
              obtain ⟨T, hT⟩ : ∃ y_, mxF (d + 1) ((es.map (·.1)).take j) = y_ := ⟨_, rfl⟩
              rw [hT] at hS ⊢
              have HS := Lib.hid hS
              clear hc hb he hT hbox hS
              go_wp2_with fail
              go_roundw
              case rel => exact ⟨j + 1, by omega, by rw [HS.out]; exact congrArg _ (by split <;> omega), by go_num, HEV1, HW1⟩
              case measure => simp [intOf]; omega
            · obtain rfl : j = es.length := by omega
              rw [HN.out]
              cases hm : mthB V with
              | false =>
                have CM : Hid (∀ W, Calls Try.prog 74 #[.int .i64 V] W fun e w' => e = .returned (.bool false) ∧ W = w') := Lib.hid (fun W => by have := mvalid_any V W; rw [hm] at this; exact this)
                have HM := Lib.hid hm
                clear hm
                go_wp2_with (go_at_call 74; refine (CM.out _).mono ?_; rintro e w' ⟨rfl, rfl⟩)
                go_ret2
                exact ⟨by first | rfl | (rw [HM.out]; rfl), HW.out⟩
              | true =>
                have CM : Hid (∀ W, Calls Try.prog 74 #[.int .i64 V] W fun e w' => e = .returned (.bool true) ∧ W = w') := Lib.hid (fun W => by have := mvalid_any V W; rw [hm] at this; exact this)
                have HM := Lib.hid hm
                clear hm
                go_wp2_with (go_at_call 74; refine (CM.out _).mono ?_; rintro e w' ⟨rfl, rfl⟩)
                go_ret2
                exact ⟨by first | rfl | (rw [HM.out]; rfl), HW.out⟩
      exact key

end Go.Proofs.Ytmnddplkmljeaaa
