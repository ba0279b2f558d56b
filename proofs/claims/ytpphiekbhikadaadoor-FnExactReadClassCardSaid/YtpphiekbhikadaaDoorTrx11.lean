/- Merged: MakeS, MakeL, Jpi, Jpj. -/
import Derived.Test.YtpphiekbhikadaaDoorTrx9
import Derived.Deep.AppendLies
import Derived.Lib.SliceRun
import Derived.Deep.RegionHeld3

/- MakeTable of the model: what the calls return. -/
namespace Go.Proofs.YtpphiekbhikadaaDoor
open Go.ChangeShapes Go.WideShapes Go.ChangeAt Go.RowKit
set_option linter.unusedVariables false
set_option maxRecDepth 100000

/-- the table that the model is making: its box, its list -/
structure Mkg (X : Nat) (f : Int) (w : World) (v : Value) (ys : List Int) (wr : World) : Prop where
  own : OwnI (X + 1) wr v ys
  ne : v.ownBlock ≠ some (X + 1 + 1)
  c0 : wr.cell? ⟨X + 1 + 1, 0, none⟩ = some (.int .i64 f)
  c1 : wr.cell? ⟨X + 1 + 1, 1, none⟩ = some v
  g1 : wr.frozen? ⟨X + 1 + 1, 1, none⟩ = false
  r0 : wr.cell? ⟨X, 0, none⟩ = some (.int .i64 0)
  r1 : wr.cell? ⟨X, 1, none⟩ = some (.slice none 0 0)
  h0 : wr.frozen? ⟨X, 0, none⟩ = false
  h1 : wr.frozen? ⟨X, 1, none⟩ = false
  low : Below X w wr
  size : X + 1 + 1 < wr.heap.size

/-- behind an append onto its list, and the store into its box -/
theorem Mkg.app {X : Nat} {f : Int} {w wr w5 : World} {v : Value} {g n c : Nat} {ys : List Int} {y : Int} (H : Mkg X f w v ys wr) (hX : w.heap.size = X)
    (hown : OwnI (X + 1) w5 (.slice (some ⟨g, 0, none⟩) n c) (ys ++ [y])) (hg : (wr.alloc (.cells #[.int .i64 y] 2)).grownBy w5 v.ownBlock)
    (hw : (Value.slice (some ⟨g, 0, none⟩) n c).ownBlock = v.ownBlock ∨ (Value.slice (some ⟨g, 0, none⟩) n c).ownBlock = some (wr.heap.size + 1)) :
    g ≠ X + 1 + 1 ∧ X < g ∧ w5.frozen? ⟨X + 1 + 1, 1, none⟩ = false ∧ w5.cell? ⟨X + 1 + 1, 0, none⟩ = some (.int .i64 f) ∧ w5.cell? ⟨X + 1 + 1, 1, none⟩ = some v ∧ Mkg X f w (.slice (some ⟨g, 0, none⟩) n c) (ys ++ [y]) (w5.setCell ⟨X + 1 + 1, 1, none⟩ (.slice (some ⟨g, 0, none⟩) n c)) := by
  have hz := H.size
  have hgz := hg.size
  have hbX : ∀ k, v.ownBlock = some k → X + 1 ≤ k := fun k hk => (H.own.lt k hk).1
  have hne0 : some X ≠ v.ownBlock := fun e => by have := hbX _ e.symm; omega
  have far : ∀ (b i : Nat), b < wr.heap.size → some b ≠ v.ownBlock → w5.cell? ⟨b, i, none⟩ = wr.cell? ⟨b, i, none⟩ := fun b i hb hn =>
    (hg.cell_far ⟨b, i, none⟩ (by simp; omega) hn).trans (World.cell?_alloc_lt _ _ _ hb)
  have farf : ∀ (b i : Nat), b < wr.heap.size → some b ≠ v.ownBlock → w5.frozen? ⟨b, i, none⟩ = wr.frozen? ⟨b, i, none⟩ := fun b i hb hn =>
    (hg.frozen_far ⟨b, i, none⟩ (by simp; omega) hn).trans ((Below.refl wr.heap.size wr).alloc (Nat.le_refl _) _ |>.frozen (p := ⟨b, i, none⟩) hb)
  have hgne : g ≠ X + 1 + 1 := by
    rcases hw with h | h
    · intro e; subst e; exact H.ne h.symm
    · simp [Value.ownBlock] at h; omega
  have hgX : X < g := by
    obtain ⟨_, h0 | ⟨g', cap, cur, hv, hgb, _⟩⟩ := hown
    · exact absurd h0.1 (by simp)
    · simp only [Value.slice.injEq, Option.some.injEq, Addr.mk.injEq] at hv
      obtain ⟨⟨rfl, _⟩, _⟩ := hv
      omega
  have k1 := (farf (X + 1 + 1) 1 (by omega) (Ne.symm H.ne)).trans H.g1
  have k2 := (far (X + 1 + 1) 0 (by omega) (Ne.symm H.ne)).trans H.c0
  have k3 := (far (X + 1 + 1) 1 (by omega) (Ne.symm H.ne)).trans H.c1
  refine ⟨hgne, hgX, k1, k2, k3, ?_⟩
  refine ⟨?_, ?_, ?_, ?_, ?_, ?_, ?_, ?_, ?_, ?_, ?_⟩
  · have hh := hown
    obtain ⟨h1, h0 | ⟨g', cap, cur, hv, hgb, hcell, r⟩⟩ := hown
    · exact absurd h0.1 (by simp)
    · refine ⟨h1, .inr ⟨g', cap, cur, hv, hgb, ?_, r⟩⟩
      simp only [Value.slice.injEq, Option.some.injEq, Addr.mk.injEq] at hv
      obtain ⟨⟨rfl, _⟩, _⟩ := hv
      rw [Below.heap_setCell _ _ _ _ (by show _ ≠ X + 1 + 1; omega)]
      exact hcell
  · simp [Value.ownBlock]; omega
  · rw [World.cell?_setCell_other _ _ _ _ (by simp)]; exact k2
  · exact World.cell?_setCell_same' _ _ _ (by rw [k3]; rfl)
  · rw [World.frozen?_setCell]; exact k1
  · rw [World.cell?_setCell_other _ _ _ _ (by simp)]; exact (far X 0 (by omega) hne0).trans H.r0
  · rw [World.cell?_setCell_other _ _ _ _ (by simp)]; exact (far X 1 (by omega) hne0).trans H.r1
  · rw [World.frozen?_setCell]; exact (farf X 0 (by omega) hne0).trans H.h0
  · rw [World.frozen?_setCell]; exact (farf X 1 (by omega) hne0).trans H.h1
  · exact ((H.low.alloc (by omega) _).grown hg (by simp; omega) (fun k hk => by have := hbX k hk; omega)).setCell (p := ⟨X + 1 + 1, 1, none⟩) (by show X ≤ X + 1 + 1; omega) _
  · simp [World.setCell] at hgz ⊢; omega

theorem own_shape {base : Nat} {w : World} {v : Value} {ys : List Int} (h : OwnI base w v ys) (hl : 0 < ys.length) : ∃ g n c, v = .slice (some ⟨g, 0, none⟩) n c := by
  obtain ⟨_, h0 | ⟨g, cap, cur, hv, _⟩⟩ := h
  · omega
  · exact ⟨g, _, cap, hv⟩

/-- it is handed over -/
theorem Mkg.post {X : Nat} {f L : Int} {rs : List Int} {w wr : World} {g n c : Nat} {ys : List Int} (H : Mkg X f w (.slice (some ⟨g, 0, none⟩) n c) ys wr) (hX : w.heap.size = X) (hm : mkB f L rs = true) (he : ys = mkL L rs) :
    MkPost f L rs w (.returned (.tuple #[.agg #[.int .i64 f, .slice (some ⟨g, 0, none⟩) n c], .int .i64 0])) ((wr.setCell ⟨X, 0, none⟩ (.int .i64 f)).setCell ⟨X, 1, none⟩ (.slice (some ⟨g, 0, none⟩) n c)) := by
  subst he
  have hlc : n = (mkL L rs).length ∧ (mkL L rs).length ≤ c ∧ X + 1 ≤ g := by
    obtain ⟨h1, h0 | ⟨g', cap, cur, hv, hgb, _, hn, _⟩⟩ := H.own
    · exact absurd h0.1 (by simp)
    · simp only [Value.slice.injEq, Option.some.injEq, Addr.mk.injEq] at hv
      obtain ⟨⟨rfl, _⟩, hn2, rfl⟩ := hv
      exact ⟨hn2, hn, hgb⟩
  obtain ⟨rfl, hlc⟩ := hlc
  refine .inl ⟨hm, _, rfl, g, c, rfl, hlc.1, by omega, ?_, ?_⟩
  · exact H.own.row.only (((Only.refl X wr).setCell (p := ⟨X, 0, none⟩) rfl _).setCell (p := ⟨X, 1, none⟩) rfl _) (by omega)
  · rw [hX]; exact (H.low.setCell (p := ⟨X, 0, none⟩) (Nat.le_refl _) _).setCell (p := ⟨X, 1, none⟩) (Nat.le_refl _) _

end Go.Proofs.YtpphiekbhikadaaDoor

/- The exact law on MakeTable: the program answers as its model, what it hands over is its own. -/
namespace Go.Proofs.YtpphiekbhikadaaDoor
open Go.ChangeShapes Go.WideShapes Go.ChangeAt Go.RowKit
set_option linter.unusedVariables false
set_option maxRecDepth 100000

/-- what MakeTable hands over: its first age, its lives, its code -/
def mkF (f L : Int) (rs : List Int) : Int := if mkB f L rs = true then f else 0

def mkY (f L : Int) (rs : List Int) : List Int := if mkB f L rs = true then mkL L rs else []

def mkE (f L : Int) (rs : List Int) : Int := if mkB f L rs = true then 0 else 2

def TbPost (F : Int) (ys : List Int) (E : Int) (w : World) (e : Ending) (w' : World) : Prop :=
  ∃ a n c, e = .returned (.tuple #[.agg #[.int .i64 F, .slice a n c], .int .i64 E]) ∧ TbR w.heap.size w' a n ys ∧ Below w.heap.size w w'

theorem mk_tb {f L : Int} {rs : List Int} {w : World} {e : Ending} {w' : World} (h : MkPost f L rs w e w') : TbPost (mkF f L rs) (mkY f L rs) (mkE f L rs) w e w' := by
  rcases h with ⟨hm, v, rfl, g, c, rfl, hc, hg, hr, hb⟩ | ⟨hm, rfl, hb⟩
  · have hl := ((mkB_iff _ _ _).1 hm).2.2.1.1
    have hn := mkL_len rs L
    have e1 : mkY f L rs = mkL L rs := by simp [mkY, hm]
    refine ⟨some ⟨g, 0, none⟩, (mkL L rs).length, c, by simp [mkF, mkE, hm], ?_, hb⟩
    rw [e1]
    exact ⟨rfl, by omega, .inr ⟨g, 0, rfl, hg, hr.lt (by omega), hr⟩⟩
  · exact ⟨none, 0, 0, by simp [mkF, mkE, hm], ⟨by simp [mkY, hm], by omega, .inl ⟨rfl, rfl⟩⟩, hb⟩

theorem box3 {w w1 : World} {x y : Value} {T : TypeId} (hb : Below w.heap.size (w.alloc (.cells #[x, y] T)) w1) : Below w.heap.size w w1 := ((Below.refl w.heap.size w).alloc (Nat.le_refl _) _).trans hb

end Go.Proofs.YtpphiekbhikadaaDoor

/- The joint table of the program: the parts that make it. -/
namespace Go.Proofs.YtpphiekbhikadaaDoor
open Go.ChangeShapes Go.WideShapes Go.ChangeAt Go.RowKit
set_option linter.unusedVariables false
set_option maxRecDepth 100000

/-- append of a whole list -/
theorem wpList_apj {w : World} {ops : Array Oper} {rest : List Oper} {o : Oper} {a : Act} {Q : Exit → Act → World → Prop} (hgd : o.guard = none) (s x : Operand)
    (ho : o.op = .call { callee := .builtin .append, args := #[s, x], argTypes := #[24, 24] })
    (base : Nat) (v : Value) (xs ys : List Int) (m cp : Nat) (hs : a.eval s = v) (hown : OwnI base w v xs) (ad : Addr) (hx : a.eval x = .slice (some ad) m cp) (hm : ys.length = m) (hc : ∀ j u, (ys.map (Value.int .i64))[j]? = some u → w.cell? (ad.add j) = some u)
    (hlen : xs.length + ys.length ≤ 4096) (hbase : base ≤ w.heap.size)
    (h : ∀ v' w', OwnI base w' v' (xs ++ ys) → w.grownBy w' v.ownBlock → wpList Tryd.prog ops Q rest (a.put o.dst v') w') : wpList Tryd.prog ops Q (o :: rest) a w := by
  obtain ⟨i0, hi, hz0, hz1, hz2⟩ := info_parts infoI
  have hmx : maxLen = maxLen := rfl
  unfold maxLen at hmx
  obtain ⟨v', w', hr, h2, h3, h4⟩ := run_append_own (P := Tryd.prog) w base 24 o.type 2 i0 (.int .i64 0) 1 8 Tryd.underlying24 hi hz0 hz1 hz2 rfl (by decide) v xs.length (xs.map (Value.int .i64)) hown ad m cp (ys.map (Value.int .i64)) (by simp [hm]) hc (by intro u hu; obtain ⟨q, _, rfl⟩ := List.mem_map.1 hu; rfl) (by unfold maxLen; omega) (by omega) hbase
  have h6 : OwnI base w' v' (xs ++ ys) := by
    unfold OwnI
    rw [List.length_append, List.map_append, hm]
    exact h2
  refine wpList_plain hgd fun _ hK => ?_
  unfold Oper.wp execOp
  simp only [ho, resolve, invoke, builtin, Sem.run_bind, Sem.run_pure, Result.andThen_ok, List.map_toArray, List.map_cons, List.map_nil, hs, hx, hr]
  exact hK _ _ (h v' w' h6 h3)

/-- the lives from an age on -/
def lfL (f : Int) (xs : List Int) (x : Int) : List Int := if clE f xs x 0 = 0 then xs.drop (x - f).toNat else []

def LvPost (f : Int) (xs : List Int) (a0 : Option Addr) (l0 : Nat) (x : Int) (w : World) (e : Ending) (w' : World) : Prop := ∃ a n c, e = .returned (.tuple #[.slice a n c, .int .i64 (clE f xs x 0)]) ∧ Ints w' a n (lfL f xs x) ∧ (∀ z, a = some z → ∃ z0, a0 = some z0 ∧ z0.block = z.block ∧ 0 < l0) ∧ Below w.heap.size w w'

theorem Ints.drop {w : World} {b off l : Nat} {xs : List Int} (h : Ints w (some ⟨b, off, none⟩) l xs) (k : Nat) (hk : k ≤ l) : Ints w (some ⟨b, off + k, none⟩) (l - k) (xs.drop k) := by
  refine ⟨by rw [List.length_drop, h.len], by have := h.max; omega, .inr ⟨b, off + k, rfl, fun i hi => ?_⟩⟩
  rcases h.cells with h0 | ⟨b', off', he, hc⟩
  · exact absurd h0 (by omega)
  · cases he
    have := hc (k + i) (by omega)
    rw [← Nat.add_assoc] at this
    rw [this, List.getD_eq_getElem?_getD, List.getD_eq_getElem?_getD, List.getElem?_drop]

theorem K2.rbi {w : World} {f : Int} {sa : Value} {g : Int} {sb : Value} (T U V : TypeId) (vs : List Value) : K2 w f sa g sb (((w.alloc (.cells #[.int .i64 f, sa] T)).alloc (.cells #[.int .i64 g, sb] U)).alloc (.cells vs.toArray V)) ∧ Bx (((w.alloc (.cells #[.int .i64 f, sa] T)).alloc (.cells #[.int .i64 g, sb] U)).alloc (.cells vs.toArray V)) (w.heap.size + 2) vs := by
  have h1 := K2.new w f sa g sb T U
  have h2 := Bx.new ((w.alloc (.cells #[.int .i64 f, sa] T)).alloc (.cells #[.int .i64 g, sb] U)) vs V
  rw [World.size_alloc, World.size_alloc] at h2
  exact ⟨h1.on (box_b _ _), h2⟩

/-- what both lives' lists are -/
def AkPost (f : Int) (xs : List Int) (x g : Int) (ys : List Int) (y : Int) (w : World) (e : Ending) (w' : World) : Prop :=
  ∃ a1 n1 c1 a2 n2 c2, e = .returned (.tuple #[.agg #[.slice a1 n1 c1, .slice a2 n2 c2], .int .i64 (twE f xs x g ys y true)]) ∧ (twE f xs x g ys y true = 0 → Ints w' a1 n1 (lfL f xs x) ∧ Ints w' a2 n2 (lfL g ys y)) ∧ Below w.heap.size w w'

/-! ### the joined list -/

/-- a copy of a list, in memory of the call's own -/
theorem own_sh4 {base : Nat} {w : World} {v : Value} {ys : List Int} (h : OwnI base w v ys) (hl : 0 < ys.length) : ∃ g n c, v = .slice (some ⟨g, 0, none⟩) n c ∧ base ≤ g ∧ n = ys.length ∧ n ≤ c := by
  obtain ⟨_, h0 | ⟨g, cap, cur, hv, hb, _, hn, _⟩⟩ := h
  · omega
  · exact ⟨g, _, cap, hv, hb, rfl, hn⟩

def ClPost (ys : List Int) (w : World) (e : Ending) (w' : World) : Prop := ∃ g n c, e = .returned (.slice (some ⟨g, 0, none⟩) n c) ∧ TbR w.heap.size w' (some ⟨g, 0, none⟩) n ys ∧ n ≤ c ∧ Below w.heap.size w w'

theorem clone_any (ys : List Int) (a : Option Addr) (n c : Nat) (w : World) (h : Ints w a n ys) (hn : 0 < n) (hn2 : n ≤ 4096) :
    Calls Tryd.prog 29 #[.slice a n c] w (ClPost ys w) := by
  have HL := Lib.hid h.len
  obtain ⟨b, off, rfl, hb, hc⟩ := h.at hn
  have HC : Hid (∀ j u, (ys.map (Value.int .i64))[j]? = some u → (w.alloc (.cells #[] 2)).cell? ((⟨b, off, none⟩ : Addr).add j) = some u) := Lib.hid (fun j u hj => by
    have hl := (List.getElem?_eq_some_iff.1 hj).1
    rw [List.length_map, h.len] at hl
    rw [Addr.add_lit]
    refine keep2 (box_b _ _) ?_
    rw [hc j hl]
    have : (ys.map (Value.int .i64))[j]? = some (.int .i64 (ys.getD j 0)) := by simp [List.getD, show j < ys.length by rw [h.len]; exact hl]
    rw [this] at hj
    exact hj)
  have HO := Lib.hid (ownI_new w)
  have q22 : ∀ (w : World) (a : Option Addr) (n c n' c' : Nat), (binOp .eql 24 (.slice a n c) (.slice none n' c')).run Tryd.prog w = .ok (.bool a.isNone) w := fun w a n c n' c' => Lib.run_eql_slice_nil w _ _ a n c n' c' Tryd.underlying24
  clear h hc
  go_enter Tryd.func29, Tryd.ntmps29
  go_wp2_with (at_builtin; refine wpList_apj rfl _ _ rfl w.heap.size _ [] ys n c rfl HO.out ⟨b, off, none⟩ rfl HL.out HC.out (by simp; have := HL.out; omega) (by simp) ?_)
  intro v' w1 hown hgrow
  obtain ⟨g, m, cc, rfl, hg, hm, hmc⟩ := own_sh4 hown (by have := HL.out; omega)
  have hrow : RowI w1 g 0 ys := by subst hm; exact hown.row
  have hB : Below w.heap.size w w1 := ((Below.refl _ w).alloc (Nat.le_refl _) _).grown hgrow (by simp) (fun k hk => by simp [Value.ownBlock] at hk; omega)
  have HR := Lib.hid hrow
  have HB := Lib.hid hB
  clear hown hgrow hrow hB
  go_wp2_with fail
  go_ret
  exact ⟨g, m, cc, rfl, ⟨hm.symm, by have := HL.out; omega, .inr ⟨g, 0, rfl, hg, HR.out.lt (by have := HL.out; omega), HR.out⟩⟩, hmc, HB.out⟩

end Go.Proofs.YtpphiekbhikadaaDoor

/- The joint table of the program: the walk. | JointTable of the program: what a call returns. -/
namespace Go.Proofs.YtpphiekbhikadaaDoor
open Go.ChangeShapes Go.WideShapes Go.ChangeAt Go.RowKit
set_option linter.unusedVariables false
set_option maxRecDepth 100000

/-- two lists joined: M numbers -/
def jzL (p : Int) (us vs : List Int) (M : Nat) : List Int := (List.range M).map fun k => us.getD k 0 * vs.getD k 0 / p

theorem jzL_len (p : Int) (us vs : List Int) (M : Nat) : (jzL p us vs M).length = M := by simp [jzL]

theorem jzL_get (p : Int) (us vs : List Int) (M k : Nat) (h : k < M) : (jzL p us vs M).getD k 0 = us.getD k 0 * vs.getD k 0 / p := by
  rw [List.getD_eq_getElem?_getD, List.getElem?_eq_getElem (by rw [jzL_len]; exact h)]
  simp [jzL]

theorem setFar {w : World} {p : Addr} {B k : Nat} {v u : Value} (hn : p.block ≠ B) (h : w.cell? p = some u) : (w.setCell ⟨B, k, none⟩ v).cell? p = some u :=
  (World.cell?_of_block (w := w) (far_setCell w ⟨B, k, none⟩ v p.block hn)).trans h

/-- what a joining leaves -/
def JoPost (zs : List Int) (M : Nat) (w : World) (e : Ending) (w' : World) : Prop := ∃ g, e = .returned (.slice (some ⟨g, 0, none⟩) M M) ∧ w.heap.size ≤ g ∧ Blk w' g zs ∧ Below w.heap.size w w'

/-- numbers small enough to be joined -/
def Small8 (us : List Int) : Prop := ∀ i, 0 ≤ us.getD i 0 ∧ us.getD i 0 ≤ 1000000

/-! ### JointTable -/

theorem drop_get (xs : List Int) (d k : Nat) : (xs.drop d).getD k 0 = xs.getD (d + k) 0 := by
  rw [List.getD_eq_getElem?_getD, List.getD_eq_getElem?_getD, List.getElem?_drop]

/-- what both lists are where there is a joint table -/
theorem Duo.lists {f : Int} {xs : List Int} {x g : Int} {ys : List Int} {y : Int} (h : Duo f xs x g ys y) :
    (lfL f xs x = xs.drop (x - f).toNat ∧ lfL g ys y = ys.drop (y - g).toNat) ∧ (∀ k : Nat, (lfL f xs x).getD k 0 = lvs f xs (x + k)) ∧ (∀ k : Nat, (lfL g ys y).getD k 0 = lvs g ys (y + k)) ∧ (jn8 f xs x g ys y < (lfL f xs x).length ∧ (lfL f xs x).length ≤ 120) ∧ (jn8 f xs x g ys y < (lfL g ys y).length ∧ (lfL g ys y).length ≤ 120) := by
  have x0 := h.x0
  have y0 := h.y0
  have e1 : lfL f xs x = xs.drop (x - f).toNat := by
    have : clE f xs x 0 = 0 := clE_iff.2 ⟨h.t, ⟨h.x0, by have := h.x1; omega⟩, by omega, by have := h.tx; omega⟩
    simp [lfL, this]
  have e2 : lfL g ys y = ys.drop (y - g).toNat := by
    have : clE g ys y 0 = 0 := clE_iff.2 ⟨h.u, ⟨h.y0, h.y1⟩, by omega, by have := h.uy; omega⟩
    simp [lfL, this]
  have h1 := h.jn_t
  have h2 := h.jn_u
  have h3 := h.t.2.1
  have h4 := h.u.2.1
  refine ⟨⟨e1, e2⟩, fun k => ?_, fun k => ?_, ?_, ?_⟩
  · rw [e1, drop_get]; unfold lvs; congr 1; omega
  · rw [e2, drop_get]; unfold lvs; congr 1; omega
  · rw [e1, List.length_drop]; omega
  · rw [e2, List.length_drop]; omega

theorem take_jt {f : Int} {xs : List Int} {x g : Int} {ys : List Int} {y : Int} (h : Duo f xs x g ys y) (p M : Nat) (hM : jn8 f xs x g ys y < M) (us vs : List Int) (h1 : ∀ k : Nat, us.getD k 0 = lvs f xs (x + k)) (h2 : ∀ k : Nat, vs.getD k 0 = lvs g ys (y + k)) :
    (jzL (lvs g ys y) us vs M).take (jn8 f xs x g ys y + 1) = jtL f xs x g ys y ∧ (∀ k, k < M → (jzL (lvs g ys y) us vs M).getD k 0 = jv f xs x g ys y k) := by
  have e : ∀ k, us.getD k 0 * vs.getD k 0 / lvs g ys y = jv f xs x g ys y k := fun k => by rw [h1, h2]; rfl
  refine ⟨?_, fun k hk => by rw [jzL_get _ _ _ _ _ hk, e]⟩
  unfold jzL jtL
  rw [← List.map_take, List.take_range, Nat.min_eq_left (by omega)]
  exact List.map_congr_left fun k _ => e k

theorem Ints.take {w : World} {a : Option Addr} {l : Nat} {xs : List Int} (h : Ints w a l xs) (k : Nat) (hk : k ≤ l) : Ints w a k (xs.take k) := by
  refine ⟨by rw [List.length_take, h.len]; omega, by have := h.max; omega, ?_⟩
  rcases h.cells with h0 | ⟨b, off, rfl, hc⟩
  · exact .inl (by omega)
  · refine .inr ⟨b, off, rfl, fun i hi => ?_⟩
    rw [hc i (by omega)]
    congr 2
    rw [List.getD_eq_getElem?_getD, List.getD_eq_getElem?_getD, List.getElem?_take_of_lt hi]

def jpF (f : Int) (xs : List Int) (x g : Int) (ys : List Int) (y : Int) : Int := if twE f xs x g ys y true = 0 then x else 0

def jpY (f : Int) (xs : List Int) (x g : Int) (ys : List Int) (y : Int) : List Int := if twE f xs x g ys y true = 0 then jtL f xs x g ys y else []

/-- a table and a code that a call hands over, its list no longer than its room -/
def JpPost (F : Int) (ys : List Int) (E : Int) (w : World) (e : Ending) (w' : World) : Prop :=
  ∃ a n c, e = .returned (.tuple #[.agg #[.int .i64 F, .slice a n c], .int .i64 E]) ∧ TbR w.heap.size w' a n ys ∧ n ≤ c ∧ Below w.heap.size w w'

theorem JpPost.tb {F : Int} {ys : List Int} {E : Int} {w : World} {e : Ending} {w' : World} (h : JpPost F ys E w e w') : TbPost F ys E w e w' := by
  obtain ⟨a, n, c, h1, h2, _, h3⟩ := h
  exact ⟨a, n, c, h1, h2, h3⟩

end Go.Proofs.YtpphiekbhikadaaDoor
