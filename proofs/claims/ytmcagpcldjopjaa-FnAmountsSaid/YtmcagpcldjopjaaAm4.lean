/- Merged: TabE, TabF, TabG, Make, MakeI, MakeS, TabH, Sum, SumLaw, TabL. -/
import Derived.Test.YtmcagpcldjopjaaAm1
import Derived.Test.YtmcagpcldjopjaaAm2
import Derived.Test.YtmcagpcldjopjaaAm3
import Derived.Deep.AppendLies

/- Fractions in lowest terms; who lives: what the calls return. -/
namespace Go.Proofs.Ytmcagpcldjopjaa
open Go.ChangeShapes Go.WideShapes Go.ChangeAt Go.RowKit
set_option linter.unusedVariables false

theorem gcdI_pos (a b : Int) (ha : 0 ≤ a) (hb : 1 ≤ b) : 1 ≤ gcdI a b := by
  unfold gcdI
  have : 0 < Nat.gcd a.toNat b.toNat := Nat.gcd_pos_of_pos_right _ (by omega)
  omega

theorem gcdI_ge (a b : Int) : 0 ≤ gcdI a b := by unfold gcdI; omega

theorem div_in (a g M : Int) (h0 : 0 ≤ a) (h1 : a ≤ M) (hg : 1 ≤ g) : 0 ≤ a / g ∧ a / g ≤ M := by
  have h2 := Int.ediv_nonneg h0 (show 0 ≤ g by omega)
  have h3 := Int.ediv_le_self g h0
  omega

theorem frac_any (a b : Int) (w : World) (a0 : 0 ≤ a) (a1 : a ≤ 1000000000000) (b0 : 1 ≤ b) (b1 : b ≤ 1000000000000) :
    Calls Try.prog 51 #[.int .i64 a, .int .i64 b] w fun e w' => e = .returned (.tuple #[.int .i64 (a / gcdI a b), .int .i64 (b / gcdI a b)]) ∧ ∃ n, w' = w.drewN n := by
  have g0 := gcdI_pos a b a0 b0
  have hc := factor_any b.toNat a b w (Nat.le_refl _) a0 (by omega) a1 b1
  obtain ⟨g, hg⟩ : ∃ g, gcdI a b = g := ⟨_, rfl⟩
  rw [hg] at g0 hc ⊢
  have HC := Lib.hid hc
  clear hc hg
  obtain ⟨d0, d1⟩ := div_in a g _ a0 a1 g0
  obtain ⟨d2, d3⟩ := div_in b g 1000000000000 (by omega) b1 g0
  have q1 : IntKind.i64.wrap (a.tdiv g) = a / g := by rw [Int.tdiv_eq_ediv_of_nonneg a0]; exact IntWalk.i64_in _ (by omega)
  have q2 : IntKind.i64.wrap (b.tdiv g) = b / g := by rw [Int.tdiv_eq_ediv_of_nonneg (by omega)]; exact IntWalk.i64_in _ (by omega)
  have hp : 0 < g := by omega
  go_enter Try.func51, Try.ntmps51
  go_wp2_with (go_at_call 85; refine HC.out.mono ?_; rintro e w' ⟨rfl, rfl⟩)
  go_quiet (fail)
  go_wp2_with fail
  go_ret2
  exact ⟨rfl, nq, rfl⟩

theorem low_any (a b : Int) (w : World) (a0 : 0 ≤ a) (a1 : a ≤ 1000000000000) (b0 : 1 ≤ b) (b1 : b ≤ 1000000000000) :
    Calls Try.prog 47 #[.int .i64 a, .int .i64 b] w fun e w' => e = .returned (.tuple #[.int .i64 (a / gcdI a b), .int .i64 (b / gcdI a b)]) ∧ ∃ n, w' = w.drewN n := by
  have g0 := gcdI_pos a b a0 b0
  have hc := cf_impl a b w
  have hb : cfB a b = true := by unfold cfB; rw [Bool.and_eq_true, inB_iff, inB_iff]; omega
  have e1 : cfV a b = gcdI a b := by simp [cfV, hb]
  rw [e1] at hc
  obtain ⟨g, hg⟩ : ∃ g, gcdI a b = g := ⟨_, rfl⟩
  rw [hg] at g0 hc ⊢
  have HC := Lib.hid hc
  clear hc hg e1 hb
  obtain ⟨d0, d1⟩ := div_in a g _ a0 a1 g0
  obtain ⟨d2, d3⟩ := div_in b g 1000000000000 (by omega) b1 g0
  have q1 : IntKind.i64.wrap (a.tdiv g) = a / g := by rw [Int.tdiv_eq_ediv_of_nonneg a0]; exact IntWalk.i64_in _ (by omega)
  have q2 : IntKind.i64.wrap (b.tdiv g) = b / g := by rw [Int.tdiv_eq_ediv_of_nonneg (by omega)]; exact IntWalk.i64_in _ (by omega)
  have hp : 0 < g := by omega
  go_enter Try.func47, Try.ntmps47
  go_wp2_with (go_at_call 83; refine HC.out.mono ?_; rintro e w1 ⟨rfl, n, rfl⟩)
  go_quiet (fail)
  go_wp2_with fail
  go_ret2
  exact ⟨rfl, n + nq, by rw [World.drewN_drewN]⟩

/-! ### who lives -/

theorem LTab.dead {f : Int} {xs : List Int} (h : LTab f xs) (x : Int) (hx : f ≤ x) : lvs f xs x = 0 ↔ f + xs.length - 1 ≤ x := by
  constructor
  · intro h0
    by_cases hh : x + 1 < f + xs.length
    · have := h.lvs_pos x hh hx; omega
    · omega
  · intro h0; exact h.lvs_zero x (by omega)

/-- .. and no lives are left at the age -/
def clE (f : Int) (xs : List Int) (x y : Int) : Int := if chE f xs x y = 0 then (if lvs f xs x = 0 then 5 else 0) else chE f xs x y

theorem clE_n {f : Int} {xs : List Int} {x y : Int} (h : ¬ chE f xs x y = 0) : clE f xs x y = chE f xs x y := by simp [clE, h]

theorem clE_5 {f : Int} {xs : List Int} {x y : Int} (h : chE f xs x y = 0) (g : lvs f xs x = 0) : clE f xs x y = 5 := by simp [clE, h, g]

theorem clE_0 {f : Int} {xs : List Int} {x y : Int} (h : chE f xs x y = 0) (g : ¬ lvs f xs x = 0) : clE f xs x y = 0 := by simp [clE, h, g]

theorem clE_iff {f : Int} {xs : List Int} {x y : Int} : clE f xs x y = 0 ↔ LTab f xs ∧ (f ≤ x ∧ x ≤ 150) ∧ (0 ≤ y ∧ y ≤ 150) ∧ ¬ lvs f xs x = 0 := by
  unfold clE
  split
  · next h =>
    obtain ⟨h1, h2, h3⟩ := chE_iff.1 h
    split
    · next g => simp [g]
    · next g => simp [h1, h2, h3, g]
  · next h =>
    constructor
    · intro e; exact absurd e h
    · rintro ⟨a, b, c, _⟩; exact chE_iff.2 ⟨a, b, c⟩

set_option maxHeartbeats 400000 in
theorem living_any (f : Int) (xs : List Int) (a : Option Addr) (l c : Nat) (x y : Int) (w : World) (h : Ints w a l xs) (hlc : l ≤ c) :
    Calls Try.prog 44 #[.agg #[.int .i64 f, .slice a l c], .int .i64 x, .int .i64 y] w fun e w' => e = .returned (.int .i64 (clE f xs x y)) ∧ Below w.heap.size w w' := by
  have HL := Lib.hid h.len
  have H := Lib.hid h
  clear h
  by_cases h0 : chE f xs x y = 0
  · obtain ⟨ht, ⟨x0, x1⟩, y0, y1⟩ := chE_iff.1 h0
    obtain ⟨f0, f1⟩ := ht.1
    have hl := ht.2.1.2
    have hd := ht.dead x x0
    rw [HL.out] at hl hd
    have HC := Lib.hid (check_any f xs a l c x y (w.alloc (.cells #[.int .i64 f, .slice a l c] 26)) (H.out.on (box_b _ _)) hlc)
    rw [h0] at HC
    by_cases hlt : f + l - 1 ≤ x
    · have HR := Lib.hid (clE_5 h0 (hd.2 hlt))
      clear hd h0 ht
      go_enter Try.func44, Try.ntmps44
      go_wp2_with fail
      refine HC.out.mono ?_
      rintro e w1 ⟨rfl, hb⟩
      obtain ⟨hB, hc0, hc1⟩ := box2 hb
      have HB := Lib.hid hB
      clear hB hb
      go_wp2_with fail
      refine (end_any f xs _ _ _ _ (by omega) f0 (by omega)).mono ?_
      rintro e w2 ⟨rfl, hb⟩
      have HB2 := Lib.hid (HB.out.trans (hb.mono HB.out.size))
      clear hb
      go_wp2_with fail
      go_ret
      exact ⟨ret_int HR.out.symm, HB2.out⟩
    · have HR := Lib.hid (clE_0 h0 (fun e => hlt (hd.1 e)))
      clear hd h0 ht
      go_enter Try.func44, Try.ntmps44
      go_wp2_with fail
      refine HC.out.mono ?_
      rintro e w1 ⟨rfl, hb⟩
      obtain ⟨hB, hc0, hc1⟩ := box2 hb
      have HB := Lib.hid hB
      clear hB hb
      go_wp2_with fail
      refine (end_any f xs _ _ _ _ (by omega) f0 (by omega)).mono ?_
      rintro e w2 ⟨rfl, hb⟩
      have HB2 := Lib.hid (HB.out.trans (hb.mono HB.out.size))
      clear hb
      go_wp2_with fail
      go_ret
      exact ⟨ret_int HR.out.symm, HB2.out⟩
  · have HR := Lib.hid (clE_n h0)
    have HC := Lib.hid (check_any f xs a l c x y (w.alloc (.cells #[.int .i64 f, .slice a l c] 26)) (H.out.on (box_b _ _)) hlc)
    obtain ⟨E, hE⟩ : ∃ E, chE f xs x y = E := ⟨_, rfl⟩
    rw [hE] at h0 HC HR
    have hne : (E == 0) = false := by simpa using h0
    clear h0 hE
    go_enter Try.func44, Try.ntmps44
    go_wp2_with fail
    refine HC.out.mono ?_
    rintro e w1 ⟨rfl, hb⟩
    obtain ⟨hB, hc0, hc1⟩ := box2 hb
    have HB := Lib.hid hB
    clear hB hb
    go_wp2_with fail
    go_ret
    exact ⟨ret_int HR.out.symm, HB.out⟩

end Go.Proofs.Ytmcagpcldjopjaa

/- LivesAt, DeathsAt and SurvivalOf of the program: what the calls return. -/
namespace Go.Proofs.Ytmcagpcldjopjaa
open Go.ChangeShapes Go.WideShapes Go.ChangeAt Go.RowKit
set_option linter.unusedVariables false

theorem index152 (Zs : Array Value) (x : Int) (v : Int) (x0 : 0 ≤ x) (x1 : x < 152) (h : Zs[x.toNat]? = some (.int .i64 v)) (W : World) :
    (Instr.index 54 (.agg Zs) (.int .i64 x)).run Try.prog W = .ok (.int .i64 v) W := by
  simp [Instr.index, run_underlying und152, asIntOf, x0, x1, go_sem, h]

/-- the array is laid into a new block -/
theorem Arr.laid {Zs : Array Value} {ys : List Int} (h : Arr Zs ys) {w : World} {ops : Array Oper} {rest : List Oper} {o : Oper} {a : Act} {Q : Exit → Act → World → Prop} (hgd : o.guard = none) (x y : Operand) (ho : o.op = .store 54 x y)
    (hx : a.eval x = .pointer (some ⟨w.heap.size, 0, none⟩)) (hy : a.eval y = .agg Zs) (hk : wpList Try.prog ops Q rest (a.put o.dst undef) (w.alloc (.cells Zs 54))) :
    wpList Try.prog ops Q (o :: rest) a (w.alloc (.cells Try.zeroCells54 54)) :=
  wpList_store_row hgd 54 x y ho w.heap.size Zs hx hy 54 _ (heap_alloc_new _ _) h.info h.old h.one (by rw [World.setRow_alloc_new]; exact hk)

theorem la_impl (f : Int) (xs : List Int) (a : Option Addr) (l c : Nat) (x : Int) (w : World) (h : Ints w a l xs) (hlc : l ≤ c) :
    Calls Try.prog 19 #[.agg #[.int .i64 f, .slice a l c], .int .i64 x] w fun e w' => e = .returned (.tuple #[.int .i64 (laV f xs x), .int .i64 (ageE f xs x)]) ∧ Below w.heap.size w w' := by
  have HC := Lib.hid (check_any f xs a l c x 0 (w.alloc (.cells #[.int .i64 f, .slice a l c] 26)) (h.on (box_b _ _)) hlc)
  rw [chE_age] at HC
  have H := Lib.hid h
  clear h
  by_cases h0 : ageE f xs x = 0
  · obtain ⟨ht, x0, x1⟩ := ageE_iff.1 h0
    obtain ⟨f0, f1⟩ := ht.1
    have HT := Lib.hid ht
    have HV := Lib.hid (laV_0 h0)
    have HE := Lib.hid h0
    rw [h0] at HC
    obtain ⟨v, hv⟩ : ∃ v, lvs f xs x = v := ⟨_, rfl⟩
    have HVV := Lib.hid hv
    clear ht h0 hv
    go_enter Try.func19, Try.ntmps19
    go_wp2_with fail
    refine HC.out.mono ?_
    rintro e w1 ⟨rfl, hb⟩
    obtain ⟨hB, hc0, hc1⟩ := box2 hb
    have HB := Lib.hid hB
    clear hB hb
    go_wp2_with fail
    refine (byAge_r f xs _ _ _ _ (H.out.on HB.out) HT.out).mono ?_
    rintro e w2 ⟨Zs, rfl, hz, hb⟩
    have HB2 := Lib.hid (HB.out.trans (hb.mono HB.out.size))
    have hix := index152 Zs x v (by omega) (by omega) (by rw [hz.get _ (by omega), HT.out.by x x0, HVV.out])
    clear hb hz
    go_wp2_with fail
    go_ret2
    exact ⟨ret_ii (by rw [HV.out, HVV.out]) HE.out.symm, HB2.out⟩
  · have HV := Lib.hid (laV_n h0)
    obtain ⟨E, hE⟩ : ∃ E, ageE f xs x = E := ⟨_, rfl⟩
    rw [hE] at h0 HC ⊢
    have hne : (E != 0) = true := by simpa using h0
    clear h0 hE
    go_enter Try.func19, Try.ntmps19
    go_wp2_with fail
    refine HC.out.mono ?_
    rintro e w1 ⟨rfl, hb⟩
    obtain ⟨hB, hc0, hc1⟩ := box2 hb
    have HB := Lib.hid hB
    clear hB hb
    go_wp2_with fail
    go_ret2
    exact ⟨ret_ii HV.out.symm rfl, HB.out⟩

end Go.Proofs.Ytmcagpcldjopjaa

/- SurvivalOf of the program and of its model: what the calls return. -/
namespace Go.Proofs.Ytmcagpcldjopjaa
open Go.ChangeShapes Go.WideShapes Go.ChangeAt Go.RowKit
set_option linter.unusedVariables false

theorem clE_code {f : Int} {xs : List Int} {x y : Int} (h : ¬ ageE f xs x = 0) : clE f xs x y = ageE f xs x := by
  have hn : ¬ chE f xs x y = 0 := fun e => h (ageE_iff.2 ⟨(chE_iff.1 e).1, (chE_iff.1 e).2.1⟩)
  rw [clE_n hn]
  unfold chE ageE
  unfold ageE at h
  simp only [inB_iff]
  split
  · next ht =>
    rw [if_pos ht] at h
    by_cases hh : f ≤ x ∧ x ≤ 150
    · exact absurd (if_pos hh) h
    · rw [if_neg hh, if_neg (fun e => hh e.1)]
  · rfl

theorem clE_2 {f : Int} {xs : List Int} {x y : Int} (h : ageE f xs x = 0) (g : ¬ inB y 0 150 = true) : clE f xs x y = 2 := by
  obtain ⟨a, b⟩ := ageE_iff.1 h
  have e : chE f xs x y = 2 := chE_2 (ltB_t a) (fun hh => g hh.2)
  rw [clE_n (by omega), e]

theorem chE_ok {f : Int} {xs : List Int} {x y : Int} (h : ageE f xs x = 0) (g : inB y 0 150 = true) : chE f xs x y = 0 := by
  obtain ⟨a, b⟩ := ageE_iff.1 h
  exact chE_iff.2 ⟨a, b, (inB_iff _ _ _).1 g⟩

/-- the share of the lives at an age that are left, in lowest terms -/
def svN (f : Int) (xs : List Int) (x y : Int) : Int := if clE f xs x y = 0 then lvs f xs (x + y) / gcdI (lvs f xs (x + y)) (lvs f xs x) else 0

def svD (f : Int) (xs : List Int) (x y : Int) : Int := if clE f xs x y = 0 then lvs f xs x / gcdI (lvs f xs (x + y)) (lvs f xs x) else 0

theorem sv_n {f : Int} {xs : List Int} {x y : Int} (h : ¬ clE f xs x y = 0) : svN f xs x y = 0 ∧ svD f xs x y = 0 := by simp [svN, svD, h]

theorem sv_0 {f : Int} {xs : List Int} {x y u v : Int} (h : clE f xs x y = 0) (hu : lvs f xs (x + y) = u) (hv : lvs f xs x = v) : svN f xs x y = u / gcdI u v ∧ svD f xs x y = v / gcdI u v := by
  simp [svN, svD, h, hu, hv]

theorem ret_iii {a b c d e f : Int} (h : a = b) (g : c = d) (k : e = f) : Ending.returned (.tuple #[.int .i64 a, .int .i64 c, .int .i64 e]) = .returned (.tuple #[.int .i64 b, .int .i64 d, .int .i64 f]) := by rw [h, g, k]

end Go.Proofs.Ytmcagpcldjopjaa

/- MakeTable of the program: what the calls return. -/
namespace Go.Proofs.Ytmcagpcldjopjaa
open Go.ChangeShapes Go.WideShapes Go.ChangeAt Go.RowKit
set_option linter.unusedVariables false

theorem one_newT (w : World) (x : Int) : ∀ j u, [Value.int .i64 x][j]? = some u → (w.alloc (.cells #[.int .i64 x] 2)).cell? ((⟨w.heap.size, 0, none⟩ : Addr).add j) = some u := by
  intro j u hj
  match j, hj with
  | 0, hj => simp at hj; subst hj; simp [Addr.add]

theorem ownI_one (w : World) (x : Int) : OwnI w.heap.size (w.alloc (.cells #[.int .i64 x] 2)) (.slice (some ⟨w.heap.size, 0, none⟩) 1 1) [x] :=
  World.ownsRow_lit w #[.int .i64 x] 1 (Nat.le_refl _) (by unfold maxLen; omega) rfl

/-- a list that a call has made: where it lies, what it holds -/
def Made (w : World) (xs : List Int) (v : Value) (w' : World) : Prop := ∃ g c, v = .slice (some ⟨g, 0, none⟩) xs.length c ∧ xs.length ≤ c ∧ w.heap.size ≤ g ∧ RowI w' g 0 xs ∧ Below w.heap.size w w'

theorem OwnI.made {w w' : World} {v : Value} {xs : List Int} (h : OwnI w.heap.size w' v xs) (hb : Below w.heap.size w w') (hl : 0 < xs.length) : Made w xs v w' := by
  have hh := h
  obtain ⟨_, ⟨rfl, h0⟩ | ⟨g, cap, cur, rfl, hg, hc, hn, hcap, _⟩⟩ := h
  · omega
  · exact ⟨g, cap, rfl, hn, hg, hh.row, hb⟩

/-- rates of a table -/
def rtsB (rs : List Int) : Bool := rs.all fun r => inB r 0 1000

theorem rtsB_iff (rs : List Int) : rtsB rs = true ↔ ∀ r ∈ rs, 0 ≤ r ∧ r ≤ 1000 := by
  unfold rtsB; rw [List.all_eq_true]
  exact ⟨fun h r hr => (inB_iff _ _ _).1 (h r hr), fun h r hr => (inB_iff _ _ _).2 (h r hr)⟩

theorem du_1000 (a : Int) (h0 : 0 ≤ a) (h1 : a ≤ 1000000000) : duV a 1000 = up1000 a := by
  have : ddB a 1000 = true := (ddB_iff _ _).2 (by omega)
  simp [duV, this, up1000]

end Go.Proofs.Ytmcagpcldjopjaa

/- MakeTable of the program: what the calls return. -/
namespace Go.Proofs.Ytmcagpcldjopjaa
open Go.ChangeShapes Go.WideShapes Go.ChangeAt Go.RowKit
set_option linter.unusedVariables false

/-- whether a table is made of these -/
def mkB (f L : Int) (rs : List Int) : Bool := inB f 0 100 && inB L 1 1000000 && (decide (rs.length ≤ 118) && decide ((rs.length : Int) ≤ 149 - f)) && rtsB rs

theorem mkB_iff (f L : Int) (rs : List Int) : mkB f L rs = true ↔ (0 ≤ f ∧ f ≤ 100) ∧ (1 ≤ L ∧ L ≤ 1000000) ∧ (rs.length ≤ 118 ∧ (rs.length : Int) ≤ 149 - f) ∧ ∀ r ∈ rs, 0 ≤ r ∧ r ≤ 1000 := by
  unfold mkB
  simp only [Bool.and_eq_true, inB_iff, rtsB_iff, decide_eq_true_iff]
  constructor
  · rintro ⟨⟨⟨a, b⟩, c⟩, d⟩; exact ⟨a, b, c, d⟩
  · rintro ⟨a, b, c, d⟩; exact ⟨⟨⟨a, b⟩, c⟩, d⟩

theorem mkB_no {f L : Int} {rs : List Int} (h : mkB f L rs = true → False) : mkB f L rs = false := by
  rw [Bool.eq_false_iff]; exact h

def MkPost (f L : Int) (rs : List Int) (w : World) (e : Ending) (w' : World) : Prop :=
  (mkB f L rs = true ∧ ∃ v, e = .returned (.tuple #[.agg #[.int .i64 f, v], .int .i64 0]) ∧ Made w (mkL L rs) v w') ∨
  (mkB f L rs = false ∧ e = .returned (.tuple #[.agg #[.int .i64 0, .slice none 0 0], .int .i64 2]) ∧ Below w.heap.size w w')

theorem MkPost.bad {f L : Int} {rs : List Int} {w w' : World} (h : mkB f L rs = false) (hb : Below w.heap.size w w') : MkPost f L rs w (.returned (.tuple #[.agg #[.int .i64 0, .slice none 0 0], .int .i64 2])) w' := .inr ⟨h, rfl, hb⟩

theorem two_set (w : World) (x y u v : Value) (T : TypeId) : (((w.alloc (.cells #[x, y] T)).setCell ⟨w.heap.size, 0, none⟩ u).setCell ⟨w.heap.size, 1, none⟩ v).cell? ⟨w.heap.size, 0, none⟩ = some u ∧ (((w.alloc (.cells #[x, y] T)).setCell ⟨w.heap.size, 0, none⟩ u).setCell ⟨w.heap.size, 1, none⟩ v).cell? ⟨w.heap.size, 1, none⟩ = some v := by
  constructor <;> go_simp

end Go.Proofs.Ytmcagpcldjopjaa

/- MakeTable of the model: what the calls return. -/
namespace Go.Proofs.Ytmcagpcldjopjaa
open Go.ChangeShapes Go.WideShapes Go.ChangeAt Go.RowKit
set_option linter.unusedVariables false

/-- the table that the model is making: its box, its list -/
structure Mkg (X : Nat) (f : Int) (w : World) (v : Value) (ys : List Int) (wr : World) : Prop where
  own : OwnI (X + 1) wr v ys
  ne : v.ownBlock ≠ some (X + 1 + 1)
  c0 : wr.cell? ⟨X + 1 + 1, 0, none⟩ = some (.int .i64 f)
  c1 : wr.cell? ⟨X + 1 + 1, 1, none⟩ = some v
  g1 : wr.frozen? ⟨X + 1 + 1, 1, none⟩ = false
  r0 : wr.cell? ⟨X, 0, none⟩ = some (.int .i64 0)
  r1 : wr.cell? ⟨X, 1, none⟩ = some (.slice none 0 0)
  h0 : wr.frozen? ⟨X, 0, none⟩ = false
  h1 : wr.frozen? ⟨X, 1, none⟩ = false
  low : Below X w wr
  size : X + 1 + 1 < wr.heap.size

theorem up_call (a : Int) (h0 : 0 ≤ a) (h1 : a ≤ 1000000000) (w : World) : Calls Try.prog 107 #[.int .i64 a, .int .i64 1000] w fun e w' => e = .returned (.int .i64 (up1000 a)) ∧ w = w' := by
  have := up_any a 1000 w (by omega) (by omega) (by omega)
  exact this

/-- behind an append onto its list, and the store into its box -/
theorem Mkg.app {X : Nat} {f : Int} {w wr w5 : World} {v : Value} {g n c : Nat} {ys : List Int} {y : Int} (H : Mkg X f w v ys wr) (hX : w.heap.size = X)
    (hown : OwnI (X + 1) w5 (.slice (some ⟨g, 0, none⟩) n c) (ys ++ [y])) (hg : (wr.alloc (.cells #[.int .i64 y] 2)).grownBy w5 v.ownBlock)
    (hw : (Value.slice (some ⟨g, 0, none⟩) n c).ownBlock = v.ownBlock ∨ (Value.slice (some ⟨g, 0, none⟩) n c).ownBlock = some (wr.heap.size + 1)) :
    g ≠ X + 1 + 1 ∧ X < g ∧ w5.frozen? ⟨X + 1 + 1, 1, none⟩ = false ∧ w5.cell? ⟨X + 1 + 1, 0, none⟩ = some (.int .i64 f) ∧ w5.cell? ⟨X + 1 + 1, 1, none⟩ = some v ∧ Mkg X f w (.slice (some ⟨g, 0, none⟩) n c) (ys ++ [y]) (w5.setCell ⟨X + 1 + 1, 1, none⟩ (.slice (some ⟨g, 0, none⟩) n c)) := by
  have hz := H.size
  have hgz := hg.size
  have hbX : ∀ k, v.ownBlock = some k → X + 1 ≤ k := fun k hk => (H.own.lt k hk).1
  have hne0 : some X ≠ v.ownBlock := fun e => by have := hbX _ e.symm; omega
  have far : ∀ (b i : Nat), b < wr.heap.size → some b ≠ v.ownBlock → w5.cell? ⟨b, i, none⟩ = wr.cell? ⟨b, i, none⟩ := fun b i hb hn =>
    (hg.cell_far ⟨b, i, none⟩ (by simp; omega) hn).trans (World.cell?_alloc_lt _ _ _ hb)
  have farf : ∀ (b i : Nat), b < wr.heap.size → some b ≠ v.ownBlock → w5.frozen? ⟨b, i, none⟩ = wr.frozen? ⟨b, i, none⟩ := fun b i hb hn =>
    (hg.frozen_far ⟨b, i, none⟩ (by simp; omega) hn).trans ((Below.refl wr.heap.size wr).alloc (Nat.le_refl _) _ |>.frozen (p := ⟨b, i, none⟩) hb)
  have hgne : g ≠ X + 1 + 1 := by
    rcases hw with h | h
    · intro e; subst e; exact H.ne h.symm
    · simp [Value.ownBlock] at h; omega
  have hgX : X < g := by
    obtain ⟨_, h0 | ⟨g', cap, cur, hv, hgb, _⟩⟩ := hown
    · exact absurd h0.1 (by simp)
    · simp only [Value.slice.injEq, Option.some.injEq, Addr.mk.injEq] at hv
      obtain ⟨⟨rfl, _⟩, _⟩ := hv
      omega
  have k1 := (farf (X + 1 + 1) 1 (by omega) (Ne.symm H.ne)).trans H.g1
  have k2 := (far (X + 1 + 1) 0 (by omega) (Ne.symm H.ne)).trans H.c0
  have k3 := (far (X + 1 + 1) 1 (by omega) (Ne.symm H.ne)).trans H.c1
  refine ⟨hgne, hgX, k1, k2, k3, ?_⟩
  refine ⟨?_, ?_, ?_, ?_, ?_, ?_, ?_, ?_, ?_, ?_, ?_⟩
  · have hh := hown
    obtain ⟨h1, h0 | ⟨g', cap, cur, hv, hgb, hcell, r⟩⟩ := hown
    · exact absurd h0.1 (by simp)
    · refine ⟨h1, .inr ⟨g', cap, cur, hv, hgb, ?_, r⟩⟩
      simp only [Value.slice.injEq, Option.some.injEq, Addr.mk.injEq] at hv
      obtain ⟨⟨rfl, _⟩, _⟩ := hv
      rw [Below.heap_setCell _ _ _ _ (by show _ ≠ X + 1 + 1; omega)]
      exact hcell
  · simp [Value.ownBlock]; omega
  · rw [World.cell?_setCell_other _ _ _ _ (by simp)]; exact k2
  · exact World.cell?_setCell_same' _ _ _ (by rw [k3]; rfl)
  · rw [World.frozen?_setCell]; exact k1
  · rw [World.cell?_setCell_other _ _ _ _ (by simp)]; exact (far X 0 (by omega) hne0).trans H.r0
  · rw [World.cell?_setCell_other _ _ _ _ (by simp)]; exact (far X 1 (by omega) hne0).trans H.r1
  · rw [World.frozen?_setCell]; exact (farf X 0 (by omega) hne0).trans H.h0
  · rw [World.frozen?_setCell]; exact (farf X 1 (by omega) hne0).trans H.h1
  · exact ((H.low.alloc (by omega) _).grown hg (by simp; omega) (fun k hk => by have := hbX k hk; omega)).setCell (p := ⟨X + 1 + 1, 1, none⟩) (by show X ≤ X + 1 + 1; omega) _
  · simp [World.setCell] at hgz ⊢; omega

theorem own_shape {base : Nat} {w : World} {v : Value} {ys : List Int} (h : OwnI base w v ys) (hl : 0 < ys.length) : ∃ g n c, v = .slice (some ⟨g, 0, none⟩) n c := by
  obtain ⟨_, h0 | ⟨g, cap, cur, hv, _⟩⟩ := h
  · omega
  · exact ⟨g, _, cap, hv⟩

/-- it is handed over -/
theorem Mkg.post {X : Nat} {f L : Int} {rs : List Int} {w wr : World} {g n c : Nat} {ys : List Int} (H : Mkg X f w (.slice (some ⟨g, 0, none⟩) n c) ys wr) (hX : w.heap.size = X) (hm : mkB f L rs = true) (he : ys = mkL L rs) :
    MkPost f L rs w (.returned (.tuple #[.agg #[.int .i64 f, .slice (some ⟨g, 0, none⟩) n c], .int .i64 0])) ((wr.setCell ⟨X, 0, none⟩ (.int .i64 f)).setCell ⟨X, 1, none⟩ (.slice (some ⟨g, 0, none⟩) n c)) := by
  subst he
  have hlc : n = (mkL L rs).length ∧ (mkL L rs).length ≤ c ∧ X + 1 ≤ g := by
    obtain ⟨h1, h0 | ⟨g', cap, cur, hv, hgb, _, hn, _⟩⟩ := H.own
    · exact absurd h0.1 (by simp)
    · simp only [Value.slice.injEq, Option.some.injEq, Addr.mk.injEq] at hv
      obtain ⟨⟨rfl, _⟩, hn2, rfl⟩ := hv
      exact ⟨hn2, hn, hgb⟩
  obtain ⟨rfl, hlc⟩ := hlc
  refine .inl ⟨hm, _, rfl, g, c, rfl, hlc.1, by omega, ?_, ?_⟩
  · exact H.own.row.only (((Only.refl X wr).setCell (p := ⟨X, 0, none⟩) rfl _).setCell (p := ⟨X, 1, none⟩) rfl _) (by omega)
  · rw [hX]; exact (H.low.setCell (p := ⟨X, 0, none⟩) (Nat.le_refl _) _).setCell (p := ⟨X, 1, none⟩) (Nat.le_refl _) _

set_option maxRecDepth 100000 in
set_option maxHeartbeats 6000000 in
theorem mk_spec (f L : Int) (rs : List Int) (a : Option Addr) (l c : Nat) (w : World) (h : Ints w a l rs) :
    Calls Try.prog 101 #[.int .i64 f, .int .i64 L, .slice a l c] w (MkPost f L rs w) := by
  have HL := Lib.hid h.len
  have hm := h.max
  have H := Lib.hid h
  have HB0 := Lib.hid (box_b w (.cells #[.int .i64 0, .slice none 0 0] 26))
  clear h
  by_cases c1 : inB f 0 100 = true
  case neg =>
    have HR := Lib.hid (mkB_no (f := f) (L := L) (rs := rs) (fun e => c1 ((inB_iff _ _ _).2 ((mkB_iff _ _ _).1 e).1)))
    go_enter Try.func101, Try.ntmps101
    go_wp2_with (go_at_call 74; refine (in_any _ _ _ _).mono ?_; rintro e w' ⟨rfl, rfl⟩)
    exact bodyPost_ret (v := .tuple #[.agg #[.int .i64 0, .slice none 0 0], .int .i64 2]) (by simp [results, Try.results101, go_sem]) rfl (MkPost.bad HR.out HB0.out)
  by_cases c2 : inB L 1 1000000 = true
  case neg =>
    have HR := Lib.hid (mkB_no (f := f) (L := L) (rs := rs) (fun e => c2 ((inB_iff _ _ _).2 ((mkB_iff _ _ _).1 e).2.1)))
    go_enter Try.func101, Try.ntmps101
    go_wp2_with (go_at_call 74; refine (in_any _ _ _ _).mono ?_; rintro e w' ⟨rfl, rfl⟩)
    exact bodyPost_ret (v := .tuple #[.agg #[.int .i64 0, .slice none 0 0], .int .i64 2]) (by simp [results, Try.results101, go_sem]) rfl (MkPost.bad HR.out HB0.out)
  obtain ⟨f0, f1⟩ := (inB_iff _ _ _).1 c1
  obtain ⟨l0, l1⟩ := (inB_iff _ _ _).1 c2
  have hmin : ∃ m : Int, (118 ≤ 149 - f ∧ m = 118 ∨ 149 - f < 118 ∧ m = 149 - f) ∧ m ≤ 118 ∧ m ≤ 149 - f ∧ (m = 118 ∨ m = 149 - f) := by
    by_cases hh : 118 ≤ 149 - f
    · exact ⟨118, .inl ⟨hh, rfl⟩, by omega, hh, .inl rfl⟩
    · exact ⟨149 - f, .inr ⟨by omega, rfl⟩, by omega, by omega, .inr rfl⟩
  obtain ⟨m, hmm, m1, m2, m3⟩ := hmin
  have HWI : Hid (∀ W, Below w.heap.size w W → Calls Try.prog 106 #[.slice a l c, .int .i64 m, .int .i64 0, .int .i64 1000] W fun e w' => e = .returned (.bool (rtsB rs && decide ((l : Int) ≤ m))) ∧ W = w') := Lib.hid (fun W hW => inAll_any rs a l c m 0 1000 W (H.out.on hW))
  by_cases c3 : (rtsB rs && decide ((l : Int) ≤ m)) = true
  case neg =>
    have HR := Lib.hid (mkB_no (f := f) (L := L) (rs := rs) (fun e => c3 (by
      obtain ⟨_, _, e3, e4⟩ := (mkB_iff _ _ _).1 e
      rw [Bool.and_eq_true, decide_eq_true_iff]
      rw [HL.out] at e3
      exact ⟨(rtsB_iff _).2 e4, by omega⟩)))
    have c3' : (rtsB rs && decide ((l : Int) ≤ m)) = false := by simpa using c3
    rw [c3'] at HWI
    clear c3 c3' m3
    rcases hmm with ⟨hq, rfl⟩ | ⟨hq, rfl⟩
    all_goals
      go_enter Try.func101, Try.ntmps101
      go_wp2_with (first | (go_at_call 74; refine (in_any _ _ _ _).mono ?_; rintro e w' ⟨rfl, rfl⟩) | (go_at_call 106; refine (HWI.out _ HB0.out).mono ?_; rintro e w' ⟨rfl, rfl⟩))
      exact bodyPost_ret (v := .tuple #[.agg #[.int .i64 0, .slice none 0 0], .int .i64 2]) (by simp [results, Try.results101, go_sem]) rfl (MkPost.bad HR.out HB0.out)
  have HMB : Hid (mkB f L rs = true) := Lib.hid (by
    rw [Bool.and_eq_true, decide_eq_true_iff] at c3
    exact (mkB_iff _ _ _).2 ⟨⟨f0, f1⟩, ⟨l0, l1⟩, by rw [HL.out]; omega, (rtsB_iff _).1 c3.1⟩)
  have HRR := Lib.hid ((mkB_iff _ _ _).1 HMB.out).2.2.2
  have hl118 : l ≤ 118 := by have := ((mkB_iff _ _ _).1 HMB.out).2.2.1.1; rw [HL.out] at this; exact this
  rw [c3] at HWI
  have HLN := Lib.hid (mkL_len rs L)
  obtain ⟨X, hX⟩ : ∃ X, w.heap.size = X := ⟨_, rfl⟩
  have HX := Lib.hid hX
  have HK0 : Hid (Mkg X f w (.slice (some ⟨X + 1, 0, none⟩) 1 1) [L] (((w.alloc (.cells #[.int .i64 0, .slice none 0 0] 26)).alloc (.cells #[.int .i64 L] 2)).alloc (.cells #[.int .i64 f, .slice (some ⟨X + 1, 0, none⟩) 1 1] 26))) := Lib.hid (by
    subst hX
    have ho := ownI_one (w.alloc (.cells #[.int .i64 0, .slice none 0 0] 26)) L
    rw [World.size_alloc] at ho
    refine ⟨ho.same (fun k _ hk => Below.heap_alloc _ _ _ hk), by simp [Value.ownBlock], by go_simp, by go_simp, by go_simp, by go_simp, by go_simp, by go_simp, by go_simp, ((box_b _ _).alloc (by simp) _).alloc (by simp; omega) _, by simp⟩)
  clear c3 m3 hX
  rcases hmm with ⟨hq, rfl⟩ | ⟨hq, rfl⟩
  all_goals
    go_enter Try.func101, Try.ntmps101
    go_wp2_with (first | (go_at_call 74; refine (in_any _ _ _ _).mono ?_; rintro e w' ⟨rfl, rfl⟩) | (go_at_call 106; refine (HWI.out _ HB0.out).mono ?_; rintro e w' ⟨rfl, rfl⟩))
    rw [HX.out]
    go_loopw [1, 9] (fun s i wr => ∃ (k : Nat) (cur : Int) (pre : List Int) (v : Value), k ≤ l ∧ i = .int .i64 k ∧ s = .int .i64 cur ∧ 0 ≤ cur ∧ cur ≤ 1000000 ∧ pre.length = k ∧ Hid (pre ++ mkL cur (rs.drop k) = mkL L rs) ∧ Hid (Mkg X f w v (pre ++ [cur]) wr)) (fun _ i _ => l - (intOf i).toNat)
    case atStart => exact ⟨0, L, [], _, Nat.zero_le _, rfl, rfl, by omega, l1, rfl, Lib.hid (by simp), HK0⟩
    case round =>
      obtain ⟨k, cur, pre, v, hk, rfl, rfl, hc0, hc1, hpl, HM, HG⟩ := hrel
      have hl1 : (pre ++ [cur]).length ≤ 4096 := by simp; omega
      have hl2 : (pre ++ [cur]).length = k + 1 := by simp; omega
      have HSPL := Lib.hid (fun hk hh => mkL_split rs L cur pre k HM.out hk hh)
      have HST : Hid (cur = 0 → pre ++ [cur] = mkL L rs) := Lib.hid (fun e => by rw [← HM.out, e, mkL_stop])
      have HSE : Hid (k = l → 0 < cur → (pre ++ [cur]) ++ [0] = mkL L rs) := Lib.hid (fun e hp => by
        rw [← HM.out, List.drop_of_length_le (by rw [HL.out, e]; exact Nat.le_refl _), mkL, if_pos hp]; simp)
      obtain ⟨ys, hys⟩ : ∃ ys, pre ++ [cur] = ys := ⟨_, rfl⟩
      rw [hys] at HG hl1 hl2 HSPL HST HSE
      have HL2 := Lib.hid hl2
      have hyp : 0 < ys.length := by omega
      clear hys HM hpl hl2
      have hown := HG.out.own
      have hb0 := HG.out.c0
      have hb1 := HG.out.c1
      have hbf := HG.out.g1
      have hsz := HG.out.size
      have hXw : w.heap.size ≤ X := by rw [HX.out]; exact Nat.le_refl _
      by_cases hgo : k < l ∧ 0 < cur
      · obtain ⟨hlt, hcp⟩ := hgo
        obtain ⟨b, off, rfl, hb, hcell⟩ := H.out.at (by omega)
        have hx := (HG.out.low.cell (p := ⟨b, off + k, none⟩) (by show b < X; omega)).trans (hcell k hlt)
        have hrk := HRR.out (rs.getD k 0) (by have := HL.out; rw [List.getD_eq_getElem?_getD, List.getElem?_eq_getElem (by omega)]; exact List.getElem_mem _)
        have HSP := Lib.hid (fun hh => HSPL.out (by rw [HL.out]; exact hlt) hh)
        obtain ⟨r, hr0⟩ : ∃ r, rs.getD k 0 = r := ⟨_, rfl⟩
        rw [hr0] at hx hrk HSP
        obtain ⟨r0, r1⟩ := hrk
        obtain ⟨m0, m1⟩ := mul_bd cur r (by omega) hc1 r0 r1
        obtain ⟨u0, u1⟩ := up_bd cur r (by omega) r0 r1
        have HDU := Lib.hid (fun w => up_call (cur * r) m0 m1 w)
        obtain ⟨q, hq1⟩ : ∃ q, cur * r = q := ⟨_, rfl⟩
        rw [hq1] at HDU HSP m0 m1 u0 u1
        obtain ⟨u, hu⟩ : ∃ u, up1000 q = u := ⟨_, rfl⟩
        rw [hu] at HDU HSP u0 u1
        have q1 : IntKind.i64.wrap (cur * r) = q := by rw [hq1]; exact IntWalk.i64_in _ (by omega)
        have HS2 := Lib.hid (HSP.out hcp)
        have hx' : wr.cell? ⟨b, off + k, none⟩ = some (.int .i64 r) := hx
        clear hr0 hu hcell HSP hx hq1
        have hd0 : 0 ≤ cur - u := by omega
        have hd1 : cur - u ≤ 1000000 := by omega
        go_wp2_with fail
        refine (HDU.out _).mono ?_
        rintro e w' ⟨rfl, rfl⟩
        go_wp2_with (at_builtin; refine wpList_app rfl _ _ rfl (X + 1) _ ys (cur - u) rfl (hown.same (fun k hk hl => Below.heap_alloc _ _ _ hl)) ⟨wr.heap.size, 0, none⟩ rfl (one_newT wr (cur - u)) hl1 (by simp; omega) ?_)
        intro v' w5 hown' hgrow hwh
        obtain ⟨g, nn, cc, rfl⟩ := own_shape hown' (by simp)
        obtain ⟨j1, j2, j3, j4, j5, j6⟩ := HG.out.app HX.out hown' hgrow (hwh.imp id (fun h => by simpa using h))
        have HJ := Lib.hid j6
        clear hown' hgrow hwh hown hb0 hb1 hbf j6
        go_wp2_with fail
        go_roundw
        case rel => exact ⟨k + 1, cur - u, ys, _, by omega, by go_num, rfl, hd0, hd1, HL2.out, HS2, HJ⟩
        case measure => simp [intOf]; omega
      · have hr0 := HG.out.r0
        have hr1 := HG.out.r1
        have hh0 := HG.out.h0
        have hh1 := HG.out.h1
        by_cases hcp : 0 < cur
        · obtain rfl : k = l := by omega
          have HSL := Lib.hid (HSE.out rfl hcp)
          clear hgo
          go_wp2_with (at_builtin; refine wpList_app rfl _ _ rfl (X + 1) _ ys 0 rfl (hown.same (fun k hk hl => Below.heap_alloc _ _ _ hl)) ⟨wr.heap.size, 0, none⟩ rfl (one_newT wr 0) hl1 (by simp; omega) ?_)
          intro v' w5 hown' hgrow hwh
          obtain ⟨g, nn, cc, rfl⟩ := own_shape hown' (by simp)
          obtain ⟨j1, j2, j3, j4, j5, j6⟩ := HG.out.app HX.out hown' hgrow (hwh.imp id (fun h => by simpa using h))
          have s0 := j6.r0
          have s1 := j6.r1
          have t0 := j6.h0
          have t1 := j6.h1
          have b0 := j6.c0
          have b1 := j6.c1
          have HJ := Lib.hid j6
          clear hown' hgrow hwh hown hb0 hb1 hbf j6 hr0 hr1 hh0 hh1
          go_wp2_with fail
          exact bodyPost_ret (v := .tuple #[.agg #[.int .i64 f, .slice (some ⟨g, 0, none⟩) nn cc], .int .i64 0]) (by simp [results, Try.results101, go_sem, s0, s1]) rfl (HJ.out.post HX.out HMB.out HSL.out)
        · obtain rfl : cur = 0 := by omega
          have HSL := Lib.hid (HST.out rfl)
          obtain ⟨g, nn, cc, rfl⟩ := own_shape hown hyp
          by_cases hlt : k < l
          all_goals
            go_wp2_with fail
            exact bodyPost_ret (v := .tuple #[.agg #[.int .i64 f, .slice (some ⟨g, 0, none⟩) nn cc], .int .i64 0]) (by simp [results, Try.results101, go_sem, hr0, hr1]) rfl (HG.out.post HX.out HMB.out HSL.out)

end Go.Proofs.Ytmcagpcldjopjaa

/- SurvivalOf of the program: what the calls return. -/
namespace Go.Proofs.Ytmcagpcldjopjaa
open Go.ChangeShapes Go.WideShapes Go.ChangeAt Go.RowKit
set_option linter.unusedVariables false

end Go.Proofs.Ytmcagpcldjopjaa

/- SumOf of the program and of its model: what each call returns, one Lean function for both. -/
namespace Go.Proofs.Ytmcagpcldjopjaa
open Go.ChangeShapes Go.WideShapes Go.ChangeAt Go.RowKit
set_option linter.unusedVariables false

/-- every beginning of xs has a sum within 2^62 -/
def SumsFit (xs : List Int) : Prop := ∀ k, -4611686018427387904 ≤ (xs.take k).sum ∧ (xs.take k).sum ≤ 4611686018427387904

def soB (xs : List Int) : Bool := xs.all (fun x => inB x (-1000000000000) 1000000000000) && decide ((xs.length : Int) ≤ 130)

def soV (xs : List Int) : Int := if soB xs then (if monB xs.sum then xs.sum else 0) else 0

def soE (xs : List Int) : Int := if soB xs then (if monB xs.sum then 0 else 3) else 2

theorem fit_of (xs : List Int) (h : soB xs = true) : SumsFit xs := by
  unfold soB at h
  rw [Bool.and_eq_true, List.all_eq_true, decide_eq_true_iff] at h
  intro k
  obtain ⟨h1, h2⟩ := sum_take_bd 1000000000000 (by omega) xs k 130 (by omega) fun x hx => (inB_iff _ _ _).1 (h.1 x (List.mem_of_mem_take hx))
  omega

end Go.Proofs.Ytmcagpcldjopjaa

/- The exact law on SumOf: the program answers as its model, writes into no argument. -/
namespace Go.Proofs.Ytmcagpcldjopjaa
open Go.ChangeShapes Go.WideShapes Go.ChangeAt Go.RowKit
set_option linter.unusedVariables false

theorem Ints.step {w w1 : World} {a : Option Addr} {l : Nat} {xs : List Int} (h : Ints w a l xs) (hb : Below w.heap.size w w1) : Ints w1 a l xs := h.below hb h.lt

theorem Blk.step {w w1 : World} {B : Nat} {ys : List Int} (h : Blk w B ys) (hb : Below w.heap.size w w1) : Blk w1 B ys := h.below hb h.lt

end Go.Proofs.Ytmcagpcldjopjaa

/- Life tables that a law takes, makes and compares; the exact laws on IsLifeTable, LivesAt, DeathsAt and SurvivalOf. -/
namespace Go.Proofs.Ytmcagpcldjopjaa
open Go.ChangeShapes Go.WideShapes Go.ChangeAt Go.RowKit
set_option linter.unusedVariables false

theorem szS_big (a : Option Addr) (l c : Nat) (n : Int) (w : World) (hl : l ≤ 9223372036854775807) (n0 : 0 ≤ n) (n1 : n ≤ 1048576) (hlt : n < (l : Int)) :
    Calls Try.prog 79 #[.slice a l c, .int .i64 n] w fun e w' => e = .returned (.int .i64 (-1)) ∧ w = w' := by
  have h2 : n - (l : Int) < 0 := by omega
  go_enter Try.func79, Try.ntmps79
  go_wp2_with fail
  go_ret
  exact ⟨rfl, rfl⟩

theorem szS_fit (a : Option Addr) (l c : Nat) (n : Int) (w : World) (n0 : 0 ≤ n) (n1 : n ≤ 1048576) (hlt : (l : Int) ≤ n) :
    Calls Try.prog 79 #[.slice a l c, .int .i64 n] w fun e w' => e = .returned (.int .i64 (n - l)) ∧ w = w' := by
  have h2 : ¬ n - (l : Int) < 0 := by omega
  go_enter Try.func79, Try.ntmps79
  go_wp2_with fail
  go_ret
  exact ⟨rfl, rfl⟩

theorem szT_big (f : Int) (a : Option Addr) (l c : Nat) (w : World) (hl : l ≤ 9223372036854775807) (h : (1048576 : Int) < l) :
    Calls Try.prog 36 #[.agg #[.int .i64 f, .slice a l c], .int .i64 1048576] w fun e w' => e = .returned (.int .i64 (-1)) ∧ Below w.heap.size w w' := by
  have hc := fun w => szS_big a l c 1048576 w hl (by omega) (by omega) h
  have HC := Lib.hid hc
  clear hc
  go_enter Try.func36, Try.ntmps36
  go_wp2_with (go_at_call 79; refine (HC.out _).mono ?_; rintro e w' ⟨rfl, rfl⟩)
  go_ret
  exact ⟨rfl, box_b _ _⟩

theorem szT_fit (f : Int) (a : Option Addr) (l c : Nat) (w : World) (h : (l : Int) ≤ 1048576) :
    Calls Try.prog 36 #[.agg #[.int .i64 f, .slice a l c], .int .i64 1048576] w fun e w' => e = .returned (.int .i64 (1048576 - l)) ∧ Below w.heap.size w w' := by
  have hc := fun w => szS_fit a l c 1048576 w (by omega) (by omega) h
  have HC := Lib.hid hc
  clear hc
  go_enter Try.func36, Try.ntmps36
  go_wp2_with (go_at_call 79; refine (HC.out _).mono ?_; rintro e w' ⟨rfl, rfl⟩)
  go_ret
  exact ⟨rfl, box_b _ _⟩

/-- a table that a law has copied: in a block of its own -/
def ToPost (w : World) (f : Int) (xs : List Int) (l : Nat) (e : Ending) (w' : World) : Prop := ∃ B, e = .returned (.agg #[.int .i64 f, .slice (some ⟨B, 0, none⟩) l l]) ∧ w.heap.size ≤ B ∧ Blk w' B xs ∧ Below w.heap.size w w'

theorem toT_any (f : Int) (xs : List Int) (a : Option Addr) (l c : Nat) (w : World) (h : Ints w a l xs) (hl : l ≤ 1048576) :
    Calls Try.prog 37 #[.agg #[.int .i64 f, .slice a l c]] w (ToPost w f xs l) := by
  have HL := Lib.hid h.len
  have H := Lib.hid h
  clear h
  go_enter Try.func37, Try.ntmps37
  go_wp2_with fail
  have HB : Hid (Below w.heap.size w (((w.alloc (.cells #[.int .i64 f, .slice a l c] 42)).alloc (.cells #[.int .i64 0, .slice none 0 0] 26)).alloc (.cells #[.int .i64 f, .slice none 0 0] 26))) := Lib.hid (((box_b _ _).alloc (by simp) _).alloc (by simp; omega) _)
  refine (toS_any xs _ _ _ _ (H.out.on HB.out) hl).mono ?_
  rintro e w4 ⟨rfl, hk, hz, hb⟩
  have hc20 : w4.cell? ⟨w.heap.size + 1 + 1, 0, none⟩ = some (.int .i64 f) := (hb.cell (p := ⟨w.heap.size + 1 + 1, 0, none⟩) (by simp)).trans (by go_simp)
  have hc21 : w4.cell? ⟨w.heap.size + 1 + 1, 1, none⟩ = some (.slice none 0 0) := (hb.cell (p := ⟨w.heap.size + 1 + 1, 1, none⟩) (by simp)).trans (by go_simp)
  have hf21 : w4.frozen? ⟨w.heap.size + 1 + 1, 1, none⟩ = false := (hb.frozen (p := ⟨w.heap.size + 1 + 1, 1, none⟩) (by simp)).trans (by go_simp)
  have hc10 : w4.cell? ⟨w.heap.size + 1, 0, none⟩ = some (.int .i64 0) := (hb.cell (p := ⟨w.heap.size + 1, 0, none⟩) (by simp)).trans (by go_simp)
  have hc11 : w4.cell? ⟨w.heap.size + 1, 1, none⟩ = some (.slice none 0 0) := (hb.cell (p := ⟨w.heap.size + 1, 1, none⟩) (by simp)).trans (by go_simp)
  have hf10 : w4.frozen? ⟨w.heap.size + 1, 0, none⟩ = false := (hb.frozen (p := ⟨w.heap.size + 1, 0, none⟩) (by simp)).trans (by go_simp)
  have hf11 : w4.frozen? ⟨w.heap.size + 1, 1, none⟩ = false := (hb.frozen (p := ⟨w.heap.size + 1, 1, none⟩) (by simp)).trans (by go_simp)
  have HK : Hid (Blk w4 (w.heap.size + 1 + 1 + 1) xs) := Lib.hid (by rw [World.size_alloc, World.size_alloc, World.size_alloc] at hk; exact hk)
  have HBB := Lib.hid (HB.out.trans (hb.mono (by simp; omega)))
  clear hk hz hb
  go_wp2_with fail
  refine bodyPost_ret (v := .agg #[.int .i64 f, .slice (some ⟨w.heap.size + 1 + 1 + 1, 0, none⟩) l l]) ?_ rfl ⟨w.heap.size + 1 + 1 + 1, rfl, by omega, ?_, ?_⟩
  · simp [results, Try.results37, go_sem, hc10, hc11]
  · exact ((HK.out.same (Below.heap_setCell _ _ _ _ (by show w.heap.size + 1 + 1 + 1 ≠ w.heap.size + 1 + 1; omega))).same (Below.heap_setCell _ _ _ _ (by show w.heap.size + 1 + 1 + 1 ≠ w.heap.size + 1; omega))).same (Below.heap_setCell _ _ _ _ (by show w.heap.size + 1 + 1 + 1 ≠ w.heap.size + 1; omega))
  · exact ((HBB.out.setCell (by simp; omega) _).setCell (by simp) _).setCell (by simp) _

theorem eqT_any (f g : Int) (xs ys : List Int) (a b : Option Addr) (l m c d : Nat) (w : World) (h : Ints w a l xs) (k : Ints w b m ys) :
    Calls Try.prog 38 #[.agg #[.int .i64 f, .slice a l c], .agg #[.int .i64 g, .slice b m d]] w fun e w' => e = .returned (.bool (decide (f = g ∧ xs = ys))) ∧ Below w.heap.size w w' := by
  have HB : Hid (Below w.heap.size w ((w.alloc (.cells #[.int .i64 f, .slice a l c] 26)).alloc (.cells #[.int .i64 g, .slice b m d] 26))) := Lib.hid ((box_b _ _).alloc (by simp) _)
  have H := Lib.hid (h.on HB.out)
  have K := Lib.hid (k.on HB.out)
  clear h k
  by_cases hfg : f = g
  · subst hfg
    go_enter Try.func38, Try.ntmps38
    go_wp2_with fail
    refine (eqS_any xs ys _ _ _ _ _ _ _ H.out K.out).mono ?_
    rintro e w4 ⟨rfl, n, rfl⟩
    by_cases hxy : xs = ys
    · have hd : decide (xs = ys) = true := by simpa using hxy
      have HD : Hid (decide (f = f ∧ xs = ys) = true) := Lib.hid (by simpa using hxy)
      clear hxy
      rw [hd]
      go_wp2_with fail
      go_ret
      exact ⟨ret_bool HD.out.symm, below_drewN HB.out _⟩
    · have hd : decide (xs = ys) = false := by simpa using hxy
      have HD : Hid (decide (f = f ∧ xs = ys) = false) := Lib.hid (by simpa using hxy)
      clear hxy
      rw [hd]
      go_wp2_with fail
      go_ret
      exact ⟨ret_bool HD.out.symm, below_drewN HB.out _⟩
  · have hne : (f != g) = true := by simpa using hfg
    have HD : Hid (decide (f = g ∧ xs = ys) = false) := Lib.hid (by simp [hfg])
    clear hfg
    go_enter Try.func38, Try.ntmps38
    go_wp2_with fail
    go_ret
    exact ⟨ret_bool HD.out.symm, HB.out⟩

theorem eqT_same (f : Int) (xs : List Int) (a b : Option Addr) (l m c d : Nat) (w : World) (h : Ints w a l xs) (k : Ints w b m xs) :
    Calls Try.prog 38 #[.agg #[.int .i64 f, .slice a l c], .agg #[.int .i64 f, .slice b m d]] w fun e w' => e = .returned (.bool true) ∧ Below w.heap.size w w' := by
  have := eqT_any f f xs xs a b l m c d w h k
  simpa using this

end Go.Proofs.Ytmcagpcldjopjaa
