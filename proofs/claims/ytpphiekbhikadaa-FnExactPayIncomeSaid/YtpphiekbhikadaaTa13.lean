/- Merged: Toh, Toi. -/
import Derived.Test.YtpphiekbhikadaaTa12

/- Tontines: the program's functions: members are buried; a history; an income. -/
namespace Go.Proofs.Ytpphiekbhikadaa
open Go.ChangeShapes Go.WideShapes Go.ChangeAt Go.RowKit
set_option linter.unusedVariables false
set_option maxRecDepth 100000

def bmS (sh de : List Int) (ch : Int) (ms : List Int) : List Int := if bmE sh de ch ms = 0 then sh else []

def bmD (sh de : List Int) (ch : Int) (ms : List Int) : List Int := if bmE sh de ch ms = 0 then canD (de ++ ms) sh.length else []

def bmC (sh de : List Int) (ch : Int) (ms : List Int) : Int := if bmE sh de ch ms = 0 then ch else 0

theorem bm_no {sh de : List Int} {ch : Int} {ms : List Int} (h : bmE sh de ch ms ≠ 0) : bmS sh de ch ms = [] ∧ bmD sh de ch ms = [] ∧ bmC sh de ch ms = 0 := by
  unfold bmS bmD bmC
  rw [if_neg h, if_neg h, if_neg h]
  exact ⟨rfl, rfl, rfl⟩

theorem bm_yes {sh de : List Int} {ch : Int} {ms : List Int} (h : bmE sh de ch ms = 0) : bmS sh de ch ms = sh ∧ bmD sh de ch ms = canD (de ++ ms) sh.length ∧ bmC sh de ch ms = ch := by
  unfold bmS bmD bmC
  rw [if_pos h, if_pos h, if_pos h]
  exact ⟨rfl, rfl, rfl⟩

theorem to_mem {n : Nat} {ms : List Int} (h : toB n ms = true) : ∀ m ∈ ms, 0 ≤ m ∧ m < n := by
  intro m hm
  unfold toB at h
  rw [Bool.and_eq_true, List.all_eq_true] at h
  have := (inB_iff _ _ _).1 (h.2 m hm)
  omega

set_option maxHeartbeats 4000000 in
theorem tbm_any (sh de ms : List Int) (a x y : Option Addr) (l c n d m k : Nat) (ch : Int) (w : World) (h : Ints w a l sh) (g : Ints w x n de) (f : Ints w y m ms) :
    Calls Try.prog 29 #[.agg #[.slice a l c, .slice x n d, .int .i64 ch], .slice y m k] w (CEPost (bmS sh de ch ms) (bmD sh de ch ms) (bmC sh de ch ms) (bmE sh de ch ms) w) := by
  have H := Lib.hid h
  have G := Lib.hid g
  have F := Lib.hid f
  have HL := Lib.hid h.len
  have hlm := h.max
  clear h g f
  have HX0 := Lib.hid (XB.new w (.slice a l c) (.slice x n d) ch 26 26)
  have CI : Hid (∀ W, Hid (XB w (.slice a l c) (.slice x n d) ch W) → Calls Try.prog 20 #[.agg #[.slice a l c, .slice x n d, .int .i64 ch]] W fun e w' => e = .returned (.bool (tcB sh de ch)) ∧ Below W.heap.size W w') := Lib.hid (fun W hW => tcI_any sh de a x l c n d ch W (H.out.on hW.out.low) (G.out.on hW.out.low))
  have CO : Hid (∀ W, Hid (XB w (.slice a l c) (.slice x n d) ch W) → Calls Try.prog 61 #[.agg #[.slice a l c, .slice x n d, .int .i64 ch], .slice y m k] W fun e w' => e = .returned (.bool (toB l ms)) ∧ Below W.heap.size W w') := Lib.hid (fun W hW => tto_any a y l c m k (.slice x n d) ch ms W hlm (F.out.on hW.out.low))
  obtain ⟨c0, c1, c2, r0, r1, r2, z0, z1, z2⟩ := xbS HX0.out
  by_cases ht : tcB sh de ch = true
  · have hok := tc_iff.1 ht
    have HO := Lib.hid hok
    rw [ht] at CI
    by_cases hto : toB l ms = true
    · rw [hto] at CO
      have hms : ∀ m ∈ ms, 0 ≤ m ∧ m < sh.length := to_mem (by rw [HL.out]; exact hto)
      have hbe : bmE sh de ch ms = if buB de ms then 0 else 5 := by unfold bmE; rw [if_pos ht, HL.out, if_pos hto]
      have CT : Hid (∀ W, Hid (XB w (.slice a l c) (.slice x n d) ch W) → Calls Try.prog 48 #[.agg #[.slice a l c, .slice x n d, .int .i64 ch]] W (TofPost (.slice a l c) sh de ch W)) := Lib.hid (fun W hW => tof_any sh de a x l c n d ch W (H.out.on hW.out.low) (G.out.on hW.out.low) HO.out)
      have CA : Hid (∀ W W3, Hid (XB w (.slice a l c) (.slice x n d) ch W) → Below W.heap.size W W3 → Tn W.heap.size (.slice a l c) sh (W.heap.size + 2) (W.heap.size + 1) (W.heap.size + 3) de ch W3 → Calls Try.prog 62 #[.pointer (some ⟨W.heap.size + 2, 0, none⟩), .slice y m k] W3 (BuaPost W.heap.size (.slice a l c) sh (W.heap.size + 2) (W.heap.size + 1) (W.heap.size + 3) de ch ms W3)) :=
        Lib.hid (fun W W3 hW hb ht => tba_any W.heap.size (W.heap.size + 2) (W.heap.size + 1) (W.heap.size + 3) a y l c m k sh de ms ch W3 ht (fun W4 hz => by
          have hl := hW.out.low.trans ((hb.trans (hz.below (Nat.le_refl _) hb.size)).mono hW.out.low.size)
          exact ⟨H.out.on hl, F.out.on hl⟩) hms)
      have CC : Hid (∀ W W4 D, Hid (XB w (.slice a l c) (.slice x n d) ch W4) → Tn W (.slice a l c) sh (W + 2) (W + 1) (W + 3) D ch W4 → Calls Try.prog 50 #[.pointer (some ⟨W + 2, 0, none⟩)] W4 (CrPost sh (canD D sh.length) ch W4)) :=
        Lib.hid (fun W W4 D hW ht => tcl_any W4 ht (H.out.on hW.out.low) HO.out)
      by_cases hbu : buB de ms = true
      · rw [if_pos hbu] at hbe
        obtain ⟨v1, v2, v3⟩ := bm_yes hbe
        rw [v1, v2, v3, hbe]
        have HBU := Lib.hid hbu
        clear ht hok hto hms hbe hbu v1 v2 v3
        go_enter Try.func29, Try.ntmps29
        go_wp2_with (first
          | (go_at_call 20; refine (CI.out _ HX0).mono ?_; rintro e w1 ⟨rfl, hb⟩; have HX1 := Lib.hid (HX0.out.on hb); obtain ⟨c0, c1, c2, r0, r1, r2, z0, z1, z2⟩ := xbS HX1.out; clear hb)
          | (go_at_call 61; refine (CO.out _ HX1).mono ?_; rintro e w2 ⟨rfl, hb⟩; have HX2 := Lib.hid (HX1.out.on hb); obtain ⟨c0, c1, c2, r0, r1, r2, z0, z1, z2⟩ := xbS HX2.out; clear hb)
          | (go_at_call 48; refine (CT.out _ HX2).mono ?_; rintro e w3 ⟨rfl, htn, hb⟩; have HX3 := Lib.hid (HX2.out.on hb); have HT := Lib.hid htn; have HB3 := Lib.hid hb; clear htn hb)
          | (go_at_call 62; refine (CA.out _ _ HX2 HB3.out HT.out).mono ?_; rintro e w4 ⟨E, rfl, hE, h2, h3⟩; rw [if_pos HBU.out] at hE; subst hE; have HT4 := Lib.hid (h2 HBU.out); have HX4 := Lib.hid (HX3.out.up (h3.below HX2.out.sz HX3.out.sz)); clear h2 h3)
          | (go_at_call 50; refine (CC.out _ _ _ HX4 HT4.out).mono ?_; rintro e w5 ⟨a1, n1, q1, b1, m1, d1, rfl, h1, h2, h3, hb⟩; have HX5 := Lib.hid (HX4.out.on hb); have R1 := Lib.hid h1; have R2 := Lib.hid h2; have R3 := Lib.hid h3; obtain ⟨c0, c1, c2, r0, r1, r2, z0, z1, z2⟩ := xbS HX5.out; obtain ⟨e0, e1, e2, e3⟩ := xbE HX5.out (.slice a1 n1 q1) (.slice b1 m1 d1) (.int .i64 ch); have HEB := Lib.hid e3; clear h1 h2 h3 hb e3))
        refine bodyPost_ret (v := .tuple #[.agg #[.slice a1 n1 q1, .slice b1 m1 d1, .int .i64 ch], .int .i64 0]) (by simp [results, Try.results29, go_sem, e0, e1, e2]) rfl ?_
        have hsz := HX4.out.sz
        exact ⟨_, _, _, _, _, _, rfl, tb_mono (tb_far R1.out (by omega)) (by omega), tb_mono (tb_far R2.out (by omega)) (by omega), R3.out, HEB.out⟩
      · have hbf : buB de ms = false := by simpa using hbu
        rw [hbf, if_neg (by decide)] at hbe
        obtain ⟨v1, v2, v3⟩ := bm_no (by rw [hbe]; decide)
        rw [v1, v2, v3, hbe]
        have HBF := Lib.hid hbf
        clear ht hok hto hms hbe hbu hbf v1 v2 v3
        go_enter Try.func29, Try.ntmps29
        go_wp2_with (first
          | (go_at_call 20; refine (CI.out _ HX0).mono ?_; rintro e w1 ⟨rfl, hb⟩; have HX1 := Lib.hid (HX0.out.on hb); obtain ⟨c0, c1, c2, r0, r1, r2, z0, z1, z2⟩ := xbS HX1.out; clear hb)
          | (go_at_call 61; refine (CO.out _ HX1).mono ?_; rintro e w2 ⟨rfl, hb⟩; have HX2 := Lib.hid (HX1.out.on hb); obtain ⟨c0, c1, c2, r0, r1, r2, z0, z1, z2⟩ := xbS HX2.out; clear hb)
          | (go_at_call 48; refine (CT.out _ HX2).mono ?_; rintro e w3 ⟨rfl, htn, hb⟩; have HX3 := Lib.hid (HX2.out.on hb); have HT := Lib.hid htn; have HB3 := Lib.hid hb; clear htn hb)
          | (go_at_call 62; refine (CA.out _ _ HX2 HB3.out HT.out).mono ?_; rintro e w4 ⟨E, rfl, hE, h2, h3⟩; rw [HBF.out, if_neg (by decide)] at hE; subst hE; have HX4 := Lib.hid (HX3.out.up (h3.below HX2.out.sz HX3.out.sz)); obtain ⟨c0, c1, c2, r0, r1, r2, z0, z1, z2⟩ := xbS HX4.out; obtain ⟨e0, e1, e2, e3⟩ := xbE HX4.out (.slice none 0 0) (.slice none 0 0) (.int .i64 0); have HEB := Lib.hid e3; clear h2 h3 e3))
        refine bodyPost_ret (v := .tuple #[.agg #[.slice none 0 0, .slice none 0 0, .int .i64 0], .int .i64 5]) (by simp [results, Try.results29, go_sem, e0, e1, e2]) rfl ?_
        exact CEPost.zero HEB.out
    · have hto' : toB l ms = false := by simpa using hto
      rw [hto'] at CO
      have hbe : bmE sh de ch ms = 2 := by unfold bmE; rw [if_pos ht, HL.out, if_neg hto]
      obtain ⟨v1, v2, v3⟩ := bm_no (by rw [hbe]; decide)
      rw [v1, v2, v3, hbe]
      clear ht hok hto hto' hbe v1 v2 v3
      go_enter Try.func29, Try.ntmps29
      go_wp2_with (first
          | (go_at_call 20; refine (CI.out _ HX0).mono ?_; rintro e w1 ⟨rfl, hb⟩; have HX1 := Lib.hid (HX0.out.on hb); obtain ⟨c0, c1, c2, r0, r1, r2, z0, z1, z2⟩ := xbS HX1.out; clear hb)
          | (go_at_call 61; refine (CO.out _ HX1).mono ?_; rintro e w2 ⟨rfl, hb⟩; have HX2 := Lib.hid (HX1.out.on hb); obtain ⟨c0, c1, c2, r0, r1, r2, z0, z1, z2⟩ := xbS HX2.out; obtain ⟨e0, e1, e2, e3⟩ := xbE HX2.out (.slice none 0 0) (.slice none 0 0) (.int .i64 0); have HEB := Lib.hid e3; clear hb e3))
      refine bodyPost_ret (v := .tuple #[.agg #[.slice none 0 0, .slice none 0 0, .int .i64 0], .int .i64 2]) (by simp [results, Try.results29, go_sem, e0, e1, e2]) rfl ?_
      exact CEPost.zero HEB.out
  · have ht' : tcB sh de ch = false := by simpa using ht
    rw [ht'] at CI
    have hbe : bmE sh de ch ms = 1 := by unfold bmE; rw [if_neg ht]
    obtain ⟨v1, v2, v3⟩ := bm_no (by rw [hbe]; decide)
    rw [v1, v2, v3, hbe]
    clear ht ht' hbe v1 v2 v3
    go_enter Try.func29, Try.ntmps29
    go_wp2_with (go_at_call 20; refine (CI.out _ HX0).mono ?_; rintro e w1 ⟨rfl, hb⟩; have HX1 := Lib.hid (HX0.out.on hb); obtain ⟨c0, c1, c2, r0, r1, r2, z0, z1, z2⟩ := xbS HX1.out; obtain ⟨e0, e1, e2, e3⟩ := xbE HX1.out (.slice none 0 0) (.slice none 0 0) (.int .i64 0); have HEB := Lib.hid e3; clear hb e3)
    refine bodyPost_ret (v := .tuple #[.agg #[.slice none 0 0, .slice none 0 0, .int .i64 0], .int .i64 1]) (by simp [results, Try.results29, go_sem, e0, e1, e2]) rfl ?_
    exact CEPost.zero HEB.out

end Go.Proofs.Ytpphiekbhikadaa

/- Tontines: the program's functions: a history; an income. -/
namespace Go.Proofs.Ytpphiekbhikadaa
open Go.ChangeShapes Go.WideShapes Go.ChangeAt Go.RowKit
set_option linter.unusedVariables false
set_option maxRecDepth 100000

def st0 (sh de : List Int) (ch : Int) : TSt := ⟨de, ch, List.replicate sh.length 0⟩

def rcE (sh de : List Int) (ch : Int) (ins : List Int) (dss : List (List Int)) : Int :=
  if tcB sh de ch then (if hyB sh.length ins dss then (rnV sh (st0 sh de ch) ins dss ins.length).2 else 2) else 1

def rcT (sh de : List Int) (ch : Int) (ins : List Int) (dss : List (List Int)) : TSt :=
  if rcE sh de ch ins dss = 0 then (rnV sh (st0 sh de ch) ins dss ins.length).1 else ⟨[], 0, []⟩

def rcS (sh de : List Int) (ch : Int) (ins : List Int) (dss : List (List Int)) : List Int := if rcE sh de ch ins dss = 0 then sh else []

def rcD (sh de : List Int) (ch : Int) (ins : List Int) (dss : List (List Int)) : List Int := if rcE sh de ch ins dss = 0 then canD (rcT sh de ch ins dss).D sh.length else []

theorem rc_no {sh de : List Int} {ch : Int} {ins : List Int} {dss : List (List Int)} (h : rcE sh de ch ins dss ≠ 0) : rcS sh de ch ins dss = [] ∧ rcD sh de ch ins dss = [] ∧ (rcT sh de ch ins dss).ch = 0 ∧ (rcT sh de ch ins dss).Pd = [] := by
  unfold rcS rcD rcT
  rw [if_neg h, if_neg h, if_neg h]
  exact ⟨rfl, rfl, rfl, rfl⟩

theorem rc_yes {sh de : List Int} {ch : Int} {ins : List Int} {dss : List (List Int)} (h : rcE sh de ch ins dss = 0) : rcS sh de ch ins dss = sh ∧ rcD sh de ch ins dss = canD (rnV sh (st0 sh de ch) ins dss ins.length).1.D sh.length ∧ (rcT sh de ch ins dss) = (rnV sh (st0 sh de ch) ins dss ins.length).1 := by
  unfold rcS rcD rcT
  rw [if_pos h, if_pos h, if_pos h]
  exact ⟨rfl, rfl, rfl⟩

theorem st_ok {sh de : List Int} {ch : Int} (h : TcOk sh de ch) : TsOk sh 0 (st0 sh de ch) := by
  refine ⟨h.c0, h.c1, by simp [st0], fun i => ?_, h.mem⟩
  show 0 ≤ (List.replicate sh.length (0 : Int)).getD i 0 ∧ (List.replicate sh.length (0 : Int)).getD i 0 ≤ _
  have : (List.replicate sh.length (0 : Int)).getD i 0 = 0 := by
    rw [List.getD_eq_getElem?_getD, List.getElem?_replicate]
    split <;> rfl
  rw [this]
  omega

theorem hy_in {n : Nat} {ins : List Int} {dss : List (List Int)} (h : hyB n ins dss = true) : ins.length = dss.length ∧ ins.length ≤ 100 ∧ (∀ i, 0 ≤ ins.getD i 0 ∧ ins.getD i 0 ≤ 100000000) ∧ ∀ i, ∀ m ∈ dss.getD i [], 0 ≤ m ∧ m < n := by
  unfold hyB at h
  simp only [Bool.and_eq_true, decide_eq_true_iff, List.all_eq_true] at h
  obtain ⟨⟨⟨h1, h2⟩, h3⟩, h4⟩ := h
  refine ⟨h1, h2, fun i => ?_, fun i m hm => ?_⟩
  · by_cases hi : i < ins.length
    · have := (inB_iff _ _ _).1 (h3 _ (List.getElem_mem hi))
      rw [List.getD_eq_getElem?_getD, List.getElem?_eq_getElem hi]
      exact this
    · rw [List.getD_eq_getElem?_getD, List.getElem?_eq_none (by omega)]
      simp
  · by_cases hi : i < dss.length
    · rw [List.getD_eq_getElem?_getD, List.getElem?_eq_getElem hi] at hm
      exact to_mem (h4 _ (List.getElem_mem hi)) m hm
    · rw [List.getD_eq_getElem?_getD, List.getElem?_eq_none (by omega)] at hm
      simp at hm

/-- a class, what has been paid, and a code -/
def CPPost (sh de : List Int) (ch : Int) (ps : List Int) (E : Int) (w : World) (e : Ending) (w' : World) : Prop :=
  ∃ a n c b m d y k q, e = .returned (.tuple #[.agg #[.slice a n c, .slice b m d, .int .i64 ch], .slice y k q, .int .i64 E]) ∧ TbR w.heap.size w' a n sh ∧ TbR w.heap.size w' b m de ∧ TbR w.heap.size w' y k ps ∧ (Aprt a b ∧ Aprt a y ∧ Aprt b y) ∧ Below w.heap.size w w'

theorem CPPost.zero {E : Int} {w w' : World} (h : Below w.heap.size w w') : CPPost [] [] 0 [] E w (.returned (.tuple #[.agg #[.slice none 0 0, .slice none 0 0, .int .i64 0], .slice none 0 0, .int .i64 E])) w' :=
  ⟨_, _, _, _, _, _, _, _, _, rfl, tb_nil _ _, tb_nil _ _, tb_nil _ _, ⟨(fun x y hx => by cases hx), (fun x y hx => by cases hx), (fun x y hx => by cases hx)⟩, h⟩

theorem blk_tb {w : World} {B l base : Nat} {ys : List Int} (h : Blk w B ys) (hl : ys.length = l) (hm : l ≤ 4096) (hb : base ≤ B) : TbR base w (some ⟨B, 0, none⟩) l ys :=
  ⟨hl, hm, .inr ⟨B, 0, rfl, hb, h.lt, ⟨fun i hi => by rw [Nat.zero_add]; exact h.cell i hi, fun i _ => h.free _⟩⟩⟩

set_option maxHeartbeats 4000000 in
theorem trc_any (sh de ins : List Int) (dss : List (List Int)) (a x y z : Option Addr) (l c n d m k q r : Nat) (ch : Int) (w : World) (h : Ints w a l sh) (g : Ints w x n de) (f : Ints w y m ins) (fs : IntsS w z q dss) :
    Calls Try.prog 12 #[.agg #[.slice a l c, .slice x n d, .int .i64 ch], .slice y m k, .slice z q r] w (CPPost (rcS sh de ch ins dss) (rcD sh de ch ins dss) (rcT sh de ch ins dss).ch (rcT sh de ch ins dss).Pd (rcE sh de ch ins dss) w) := by
  have H := Lib.hid h
  have G := Lib.hid g
  have F := Lib.hid f
  have FS := Lib.hid fs
  have HL := Lib.hid h.len
  have FL := Lib.hid f.len
  have FSL := Lib.hid fs.len
  have hlm := h.max
  clear h g f fs
  have HX0 := Lib.hid (XB.new w (.slice a l c) (.slice x n d) ch 26 26)
  have CI : Hid (∀ W, Hid (XB w (.slice a l c) (.slice x n d) ch W) → Calls Try.prog 20 #[.agg #[.slice a l c, .slice x n d, .int .i64 ch]] W fun e w' => e = .returned (.bool (tcB sh de ch)) ∧ Below W.heap.size W w') := Lib.hid (fun W hW => tcI_any sh de a x l c n d ch W (H.out.on hW.out.low) (G.out.on hW.out.low))
  have CO : Hid (∀ W, Hid (XB w (.slice a l c) (.slice x n d) ch W) → Calls Try.prog 47 #[.agg #[.slice a l c, .slice x n d, .int .i64 ch], .slice y m k, .slice z q r] W fun e w' => e = .returned (.bool (hyB l ins dss)) ∧ Below W.heap.size W w') := Lib.hid (fun W hW => thy_any a a y z l c m m m k q r (.slice x n d) ch ins dss W hlm (F.out.on hW.out.low) (FS.out.on hW.out.low))
  obtain ⟨c0, c1, c2, r0, r1, r2, z0, z1, z2⟩ := xbS HX0.out
  by_cases ht : tcB sh de ch = true
  · have hok := tc_iff.1 ht
    have HO := Lib.hid hok
    rw [ht] at CI
    by_cases hto : hyB l ins dss = true
    · rw [hto] at CO
      have hyl : hyB sh.length ins dss = true := by rw [HL.out]; exact hto
      obtain ⟨y1, y2, y3, y4⟩ := hy_in hyl
      have hmq : q = m := by rw [← FL.out, ← FSL.out]; exact y1.symm
      subst hmq
      have hbe : rcE sh de ch ins dss = (rnV sh (st0 sh de ch) ins dss q).2 := by unfold rcE; rw [if_pos ht, if_pos hyl, FL.out]
      have CT : Hid (∀ W, Hid (XB w (.slice a l c) (.slice x n d) ch W) → Calls Try.prog 48 #[.agg #[.slice a l c, .slice x n d, .int .i64 ch]] W (TofPost (.slice a l c) sh de ch W)) := Lib.hid (fun W hW => tof_any sh de a x l c n d ch W (H.out.on hW.out.low) (G.out.on hW.out.low) HO.out)
      have CA : Hid (∀ W W3, Hid (XB w (.slice a l c) (.slice x n d) ch W) → Below W.heap.size W W3 → Tn W.heap.size (.slice a l c) sh (W.heap.size + 2) (W.heap.size + 1) (W.heap.size + 3) de ch W3 → Calls Try.prog 49 #[.pointer (some ⟨W.heap.size + 2, 0, none⟩), .slice y q k, .slice z q r] W3 (RuPost W.heap.size (.slice a l c) sh (W.heap.size + 2) (W.heap.size + 1) (W.heap.size + 3) l (rnV sh (st0 sh de ch) ins dss q).1 (rnV sh (st0 sh de ch) ins dss q).2 W3)) :=
        Lib.hid (fun W W3 hW hb ht => by
          have e0 : st0 sh de ch = ⟨de, ch, List.replicate l 0⟩ := by unfold st0; rw [HL.out]
          rw [e0]
          exact tru_any w W3 ht hb.size HO.out (by rw [← e0]; exact st_ok HO.out) hW.out.low.size (hW.out.low.trans (hb.mono hW.out.low.size)) H.out F.out FS.out y3 y4 (by rw [← FL.out]; exact y2))
      have CC : Hid (∀ W W4 D c4, Hid (XB w (.slice a l c) (.slice x n d) ch W4) → Tn W (.slice a l c) sh (W + 2) (W + 1) (W + 3) D c4 W4 → Calls Try.prog 50 #[.pointer (some ⟨W + 2, 0, none⟩)] W4 (CrPost sh (canD D sh.length) c4 W4)) :=
        Lib.hid (fun W W4 D c4 hW ht => tcl_any W4 ht (H.out.on hW.out.low) HO.out)
      have hP := fun hc => (rn_ok HO.out (st_ok HO.out) y3 y4 q hc).p
      have HYS : Hid (rcE sh de ch ins dss = 0 → rcS sh de ch ins dss = sh ∧ rcD sh de ch ins dss = canD (rnV sh (st0 sh de ch) ins dss q).1.D sh.length ∧ (rcT sh de ch ins dss) = (rnV sh (st0 sh de ch) ins dss q).1) := Lib.hid (fun h => by have := rc_yes h; rw [FL.out] at this; exact this)
      obtain ⟨E, hE⟩ : ∃ y_, (rnV sh (st0 sh de ch) ins dss q).2 = y_ := ⟨_, rfl⟩
      obtain ⟨s, hs⟩ : ∃ y_, (rnV sh (st0 sh de ch) ins dss q).1 = y_ := ⟨_, rfl⟩
      rw [hE] at hbe CA hP
      rw [hs] at CA HYS hP
      have hl60 : l ≤ 60 := by rw [← HL.out]; exact HO.out.n1
      by_cases hz : E = 0
      · subst hz
        obtain ⟨v1, v2, v3⟩ := HYS.out hbe
        rw [v1, v2, v3, hbe]
        have HPl := Lib.hid (hP rfl)
        clear ht hok hto hbe v1 v2 v3 y1 y2 y3 y4 hyl hE hs hP
        go_enter Try.func12, Try.ntmps12
        go_wp2_with (first
          | (go_at_call 20; refine (CI.out _ HX0).mono ?_; rintro e w1 ⟨rfl, hb⟩; have HX1 := Lib.hid (HX0.out.on hb); obtain ⟨c0, c1, c2, r0, r1, r2, z0, z1, z2⟩ := xbS HX1.out; clear hb)
          | (go_at_call 47; refine (CO.out _ HX1).mono ?_; rintro e w2 ⟨rfl, hb⟩; have HX2 := Lib.hid (HX1.out.on hb); obtain ⟨c0, c1, c2, r0, r1, r2, z0, z1, z2⟩ := xbS HX2.out; clear hb)
          | (go_at_call 48; refine (CT.out _ HX2).mono ?_; rintro e w3 ⟨rfl, htn, hb⟩; have HX3 := Lib.hid (HX2.out.on hb); have HT := Lib.hid htn; have HB3 := Lib.hid hb; clear htn hb)
          | (go_at_call 49; refine (CA.out _ _ HX2 HB3.out HT.out).mono ?_; rintro e w4 ⟨h1, h2, h3, h4⟩; obtain ⟨rfl, h5, h6⟩ := h1 rfl; have HT4 := Lib.hid h5; have HP4 := Lib.hid h6; have HX4 := Lib.hid (HX3.out.up (h3.below HX2.out.sz HX3.out.sz)); have HZ4 := Lib.hid h4; clear h1 h2 h3 h4 h5 h6)
          | (go_at_call 50; refine (CC.out _ _ _ _ HX4 HT4.out).mono ?_; rintro e w5 ⟨a1, n1, q1, b1, m1, d1, rfl, h1, h2, h3, hb⟩; have HX5 := Lib.hid (HX4.out.on hb); have R1 := Lib.hid h1; have R2 := Lib.hid h2; have R3 := Lib.hid h3; have HP5 := Lib.hid (HP4.out.below hb HP4.out.lt); obtain ⟨c0, c1, c2, r0, r1, r2, z0, z1, z2⟩ := xbS HX5.out; obtain ⟨e0, e1, e2, e3⟩ := xbE HX5.out (.slice a1 n1 q1) (.slice b1 m1 d1) (.int .i64 s.ch); have HEB := Lib.hid e3; clear h1 h2 h3 hb e3))
        refine bodyPost_ret (v := .tuple #[.agg #[.slice a1 n1 q1, .slice b1 m1 d1, .int .i64 s.ch], .slice (some ⟨w3.heap.size, 0, none⟩) l l, .int .i64 0]) (by simp [results, Try.results12, go_sem, e0, e1, e2]) rfl ?_
        have hsz := HX4.out.sz
        have hsz3 := HX3.out.sz
        have hz4 := HZ4.out
        have f1 := R1.out.far
        have f2 := R2.out.far
        refine ⟨_, _, _, _, _, _, _, _, _, rfl, tb_mono (tb_far R1.out (by omega)) (by omega), tb_mono (tb_far R2.out (by omega)) (by omega), tb_mono (tb_far (blk_tb (base := w3.heap.size) HP5.out (by rw [HPl.out, HL.out]) (by omega) (Nat.le_refl _)) (by omega)) (by omega), ⟨R3.out, ?_, ?_⟩, HEB.out⟩
        · intro x1 x2 h1 h2
          cases h2
          have := f1 x1 h1
          simp; omega
        · intro x1 x2 h1 h2
          cases h2
          have := f2 x1 h1
          simp; omega
      · obtain ⟨v1, v2, v3, v4⟩ := rc_no (by rw [hbe]; exact hz)
        rw [v1, v2, v3, v4, hbe]
        have HZE := Lib.hid hz
        have hzd : ((E : Int) != 0) = true := by simpa using hz
        clear ht hok hto hbe v1 v2 v3 v4 y1 y2 y3 y4 hyl hE hs hP hz
        go_enter Try.func12, Try.ntmps12
        go_wp2_with (first
          | (go_at_call 20; refine (CI.out _ HX0).mono ?_; rintro e w1 ⟨rfl, hb⟩; have HX1 := Lib.hid (HX0.out.on hb); obtain ⟨c0, c1, c2, r0, r1, r2, z0, z1, z2⟩ := xbS HX1.out; clear hb)
          | (go_at_call 47; refine (CO.out _ HX1).mono ?_; rintro e w2 ⟨rfl, hb⟩; have HX2 := Lib.hid (HX1.out.on hb); obtain ⟨c0, c1, c2, r0, r1, r2, z0, z1, z2⟩ := xbS HX2.out; clear hb)
          | (go_at_call 48; refine (CT.out _ HX2).mono ?_; rintro e w3 ⟨rfl, htn, hb⟩; have HX3 := Lib.hid (HX2.out.on hb); have HT := Lib.hid htn; have HB3 := Lib.hid hb; clear htn hb)
          | (go_at_call 49; refine (CA.out _ _ HX2 HB3.out HT.out).mono ?_; rintro e w4 ⟨h1, h2, h3, h4⟩; obtain rfl := h2 HZE.out; have HX4 := Lib.hid (HX3.out.up (h3.below HX2.out.sz HX3.out.sz)); obtain ⟨c0, c1, c2, r0, r1, r2, z0, z1, z2⟩ := xbS HX4.out; obtain ⟨e0, e1, e2, e3⟩ := xbE HX4.out (.slice none 0 0) (.slice none 0 0) (.int .i64 0); have HEB := Lib.hid e3; clear h1 h2 h3 h4 e3))
        refine bodyPost_ret (v := .tuple #[.agg #[.slice none 0 0, .slice none 0 0, .int .i64 0], .slice none 0 0, .int .i64 E]) (by simp [results, Try.results12, go_sem, e0, e1, e2]) rfl ?_
        exact CPPost.zero HEB.out
    · have hto' : hyB l ins dss = false := by simpa using hto
      rw [hto'] at CO
      have hbe : rcE sh de ch ins dss = 2 := by unfold rcE; rw [if_pos ht, HL.out, if_neg hto]
      obtain ⟨v1, v2, v3, v4⟩ := rc_no (by rw [hbe]; decide)
      rw [v1, v2, v3, v4, hbe]
      clear ht hok hto hto' hbe v1 v2 v3 v4
      go_enter Try.func12, Try.ntmps12
      go_wp2_with (first
          | (go_at_call 20; refine (CI.out _ HX0).mono ?_; rintro e w1 ⟨rfl, hb⟩; have HX1 := Lib.hid (HX0.out.on hb); obtain ⟨c0, c1, c2, r0, r1, r2, z0, z1, z2⟩ := xbS HX1.out; clear hb)
          | (go_at_call 47; refine (CO.out _ HX1).mono ?_; rintro e w2 ⟨rfl, hb⟩; have HX2 := Lib.hid (HX1.out.on hb); obtain ⟨c0, c1, c2, r0, r1, r2, z0, z1, z2⟩ := xbS HX2.out; obtain ⟨e0, e1, e2, e3⟩ := xbE HX2.out (.slice none 0 0) (.slice none 0 0) (.int .i64 0); have HEB := Lib.hid e3; clear hb e3))
      refine bodyPost_ret (v := .tuple #[.agg #[.slice none 0 0, .slice none 0 0, .int .i64 0], .slice none 0 0, .int .i64 2]) (by simp [results, Try.results12, go_sem, e0, e1, e2]) rfl ?_
      exact CPPost.zero HEB.out
  · have ht' : tcB sh de ch = false := by simpa using ht
    rw [ht'] at CI
    have hbe : rcE sh de ch ins dss = 1 := by unfold rcE; rw [if_neg ht]
    obtain ⟨v1, v2, v3, v4⟩ := rc_no (by rw [hbe]; decide)
    rw [v1, v2, v3, v4, hbe]
    clear ht ht' hbe v1 v2 v3 v4
    go_enter Try.func12, Try.ntmps12
    go_wp2_with (go_at_call 20; refine (CI.out _ HX0).mono ?_; rintro e w1 ⟨rfl, hb⟩; have HX1 := Lib.hid (HX0.out.on hb); obtain ⟨c0, c1, c2, r0, r1, r2, z0, z1, z2⟩ := xbS HX1.out; obtain ⟨e0, e1, e2, e3⟩ := xbE HX1.out (.slice none 0 0) (.slice none 0 0) (.int .i64 0); have HEB := Lib.hid e3; clear hb e3)
    refine bodyPost_ret (v := .tuple #[.agg #[.slice none 0 0, .slice none 0 0, .int .i64 0], .slice none 0 0, .int .i64 1]) (by simp [results, Try.results12, go_sem, e0, e1, e2]) rfl ?_
    exact CPPost.zero HEB.out

theorem Bx.oneT {w : World} {B : Nat} {x : Value} (h : Bx w B [x]) : w.cell? ⟨B, 0, none⟩ = some x := by
  obtain ⟨T, h⟩ := h
  simp [World.cell?, h]

/-- a list of one number, a list of one empty list -/
theorem lay_one (W : World) (inc : Int) (A B : TypeId) : Below W.heap.size W ((W.alloc (.cells #[.int .i64 inc] A)).alloc (.cells #[.slice none 0 0] B)) ∧ Ints ((W.alloc (.cells #[.int .i64 inc] A)).alloc (.cells #[.slice none 0 0] B)) (some ⟨W.heap.size, 0, none⟩) 1 [inc] ∧ IntsS ((W.alloc (.cells #[.int .i64 inc] A)).alloc (.cells #[.slice none 0 0] B)) (some ⟨W.heap.size + 1, 0, none⟩) 1 [[]] := by
  have b1 := box_b W (.cells #[.int .i64 inc] A)
  have b2 := box_b (W.alloc (.cells #[.int .i64 inc] A)) (.cells #[.slice none 0 0] B)
  have x1 := (Bx.new W [.int .i64 inc] A).on b2
  have x2 := Bx.new (W.alloc (.cells #[.int .i64 inc] A)) [.slice none 0 0] B
  rw [World.size_alloc] at x2
  refine ⟨b1.trans (b2.mono (by simp)), ⟨rfl, by omega, .inr ⟨_, 0, rfl, fun i hi => ?_⟩⟩, ⟨rfl, by omega, .inr ⟨_, 0, rfl, fun i hi => ?_⟩⟩⟩
  · obtain rfl : i = 0 := by omega
    rw [Nat.zero_add]; exact x1.oneT
  · obtain rfl : i = 0 := by omega
    exact ⟨none, 0, 0, by rw [Nat.zero_add]; exact x2.oneT, ⟨rfl, by omega, .inl rfl⟩⟩

set_option maxHeartbeats 1000000 in
theorem tpi_any (sh de : List Int) (a x : Option Addr) (l c n d : Nat) (ch inc : Int) (w : World) (h : Ints w a l sh) (g : Ints w x n de) :
    Calls Try.prog 15 #[.agg #[.slice a l c, .slice x n d, .int .i64 ch], .int .i64 inc] w (CPPost (rcS sh de ch [inc] [[]]) (rcD sh de ch [inc] [[]]) (rcT sh de ch [inc] [[]]).ch (rcT sh de ch [inc] [[]]).Pd (rcE sh de ch [inc] [[]]) w) := by
  have HX0 := Lib.hid (XB.new w (.slice a l c) (.slice x n d) ch 26 26)
  obtain ⟨l1, l2, l3⟩ := lay_one ((w.alloc (.cells #[.slice a l c, .slice x n d, .int .i64 ch] 26)).alloc (.cells #[.slice none 0 0, .slice none 0 0, .int .i64 0] 26)) inc 2 24
  rw [World.size_alloc, World.size_alloc] at l2 l3
  have HX1 := Lib.hid (HX0.out.on l1)
  have CR := Lib.hid (trc_any sh de [inc] [[]] a x _ _ l c n d 1 1 1 1 ch _ (h.on HX1.out.low) (g.on HX1.out.low) l2 l3)
  have hsz : w.heap.size ≤ ((((w.alloc (.cells #[.slice a l c, .slice x n d, .int .i64 ch] 26)).alloc (.cells #[.slice none 0 0, .slice none 0 0, .int .i64 0] 26)).alloc (.cells #[.int .i64 inc] 2)).alloc (.cells #[.slice none 0 0] 24)).heap.size := HX1.out.low.size
  have HSZ := Lib.hid hsz
  have HSZ2 := Lib.hid HX1.out.sz
  obtain ⟨c0, c1, c2, r0, r1, r2, z0, z1, z2⟩ := xbS HX0.out
  generalize rcS sh de ch [inc] [[]] = s1 at *
  generalize rcD sh de ch [inc] [[]] = s2 at *
  generalize (rcT sh de ch [inc] [[]]).ch = s3 at *
  generalize (rcT sh de ch [inc] [[]]).Pd = s4 at *
  generalize rcE sh de ch [inc] [[]] = s5 at *
  clear h g l1 l2 l3 hsz
  go_enter Try.func15, Try.ntmps15
  go_wp2_with (go_at_call 12; refine CR.out.mono ?_; rintro e w5 ⟨a1, n1, q1, b1, m1, d1, y1, k1, p1, rfl, h1, h2, h3, h4, hb⟩; have HX5 := Lib.hid (HX1.out.on hb); have R1 := Lib.hid h1; have R2 := Lib.hid h2; have R3 := Lib.hid h3; have R4 := Lib.hid h4; obtain ⟨c0, c1, c2, r0, r1, r2, z0, z1, z2⟩ := xbS HX5.out; obtain ⟨e0, e1, e2, e3⟩ := xbE HX5.out (.slice a1 n1 q1) (.slice b1 m1 d1) (.int .i64 s3); have HEB := Lib.hid e3; clear h1 h2 h3 h4 hb e3)
  refine bodyPost_ret (v := .tuple #[.agg #[.slice a1 n1 q1, .slice b1 m1 d1, .int .i64 s3], .slice y1 k1 p1, .int .i64 s5]) (by simp [results, Try.results15, go_sem, e0, e1, e2]) rfl ?_
  have hs1 := HSZ.out
  have hs2 := HSZ2.out
  exact ⟨_, _, _, _, _, _, _, _, _, rfl, tb_mono (tb_far R1.out (by omega)) hs1, tb_mono (tb_far R2.out (by omega)) hs1, tb_mono (tb_far R3.out (by omega)) hs1, R4.out, HEB.out⟩

end Go.Proofs.Ytpphiekbhikadaa
