/- Merged: Pof, Rvc. -/
import Derived.Test.YtdlfofdibooidaaGreatLb12
import Derived.Test.YtdlfofdibooidaaGreatLb26

/- Policies: the program's tariff for a basis and a policy. (Written by wip/gen/pof.py.) -/
namespace Go.Proofs.YtdlfofdibooidaaGreat
open Go.ChangeShapes Go.WideShapes Go.ChangeAt Go.RowKit
open Go.ChangeMaps (setBlock heap_setBlock_same heap_setBlock_other)
set_option linter.unusedVariables false
set_option maxRecDepth 100000

theorem ilast_any (k x n s u : Int) (w : World) (x0 : 0 ≤ x) (x1 : x ≤ 1000) (n0 : 0 ≤ n) (n1 : n ≤ 1000) :
    Calls Tryz.prog 89 #[.agg #[.int .i64 k, .int .i64 x, .int .i64 n, .int .i64 s, .int .i64 u]] w fun e w' => e = .returned (.int .i64 (x + max (n - 1) 0)) ∧ Below w.heap.size w w' := by
  have q1 : IntKind.i64.wrap (n - 1) = n - 1 := IntWalk.i64_in _ (by omega)
  by_cases h : n = 0
  · subst h
    rw [show x + max (0 - 1) 0 = x by omega]
    have q2 : IntKind.i64.wrap x = x := IntWalk.i64_in _ (by omega)
    go_enter Tryz.func89, Tryz.ntmps89
    go_wp2_with fail
    go_ret
    exact ⟨ret_int (by omega), box_b _ _⟩
  · have q3 : ¬ n - 1 < 0 := by omega
    have q4 : max (n - 1) 0 = n - 1 := by omega
    have q2 : IntKind.i64.wrap (x + (n - 1)) = x + (n - 1) := IntWalk.i64_in _ (by omega)
    rw [q4]
    go_enter Tryz.func89, Tryz.ntmps89
    go_wp2_with fail
    go_ret
    exact ⟨ret_int (by omega), box_b _ _⟩

/-- the boxes and the tariff -/
structure FT (w : World) (f : Int) (a : Option Addr) (l c : Nat) (r : Int) (xs : List Int) (k x n s u : Int) (R M D : Nat) (W : World) : Prop where
  bp : BP w f (.slice a l c) r k x n s u W
  tf : TF R M D r f xs (.slice a l c) k x n u W
  new : w.heap.size ≤ M

theorem FT.on {w : World} {f : Int} {a : Option Addr} {l c : Nat} {r : Int} {xs : List Int} {k x n s u : Int} {R M D : Nat} {W W' : World} (h : FT w f a l c r xs k x n s u R M D W) (hb : Below W.heap.size W W') : FT w f a l c r xs k x n s u R M D W' := ⟨h.bp.on hb, h.tf.on hb, h.new⟩

theorem FT.drew {w : World} {f : Int} {a : Option Addr} {l c : Nat} {r : Int} {xs : List Int} {k x n s u : Int} {R M D : Nat} {W : World} (h : FT w f a l c r xs k x n s u R M D W) : FT w f a l c r xs k x n s u R M D W.drew := h.on (Below.drew (Below.refl _ _))

theorem ftS {w : World} {f : Int} {a : Option Addr} {l c : Nat} {r : Int} {xs : List Int} {k x n s u : Int} {R M D : Nat} {W : World} (h : FT w f a l c r xs k x n s u R M D W) :
    W.cell? ⟨D, 0, none⟩ = some (.pointer (some ⟨R, 0, none⟩)) ∧ W.cell? ⟨w.heap.size + 1, 0, none⟩ = some (.int .i64 k) ∧ W.cell? ⟨w.heap.size + 1, 1, none⟩ = some (.int .i64 x) ∧ W.cell? ⟨w.heap.size + 1, 2, none⟩ = some (.int .i64 n) ∧ W.cell? ⟨w.heap.size + 1, 3, none⟩ = some (.int .i64 s) ∧ W.cell? ⟨w.heap.size + 1, 4, none⟩ = some (.int .i64 u) ∧ Hid (FT w f a l c r xs k x n s u R M D W) := ⟨h.tf.t0, h.bp.p0, h.bp.p1, h.bp.p2, h.bp.p3, h.bp.p4, Lib.hid h⟩

theorem FT.new0 {w : World} {f : Int} {a : Option Addr} {l c : Nat} {r : Int} {xs : List Int} {k x n s u : Int} {R : Nat} {W : World} (h : BP w f (.slice a l c) r k x n s u W) (hc : Cols W R r f xs (.slice a l c)) :
    FT w f a l c r xs k x n s u R W.heap.size (W.heap.size + 1) ((W.alloc (.map #[] 0)).alloc (.cells #[.pointer (some ⟨R, 0, none⟩), .map (some W.heap.size)] 115)) := by
  have b1 := box_b W (.map #[] 0)
  have b2 := box_b (W.alloc (.map #[] 0)) (.cells #[.pointer (some ⟨R, 0, none⟩), .map (some W.heap.size)] 115)
  have h2 := Bx.new (W.alloc (.map #[] 0)) [.pointer (some ⟨R, 0, none⟩), .map (some W.heap.size)] 115
  rw [World.size_alloc] at h2
  have hm : (W.alloc (.map #[] 0)).heap[W.heap.size]? = some (.map #[] 0) := heap_alloc_new _ _
  exact ⟨(h.on b1).on b2, ⟨h2.two.1, h2.two.2, (hc.on b1).on b2, #[], 0, (b2.block _ (by simp)).trans hm, fun e he => by simp at he⟩, h.low.size⟩

def TfNo (w : World) (e : Ending) (w' : World) : Prop := e = .returned (.tuple #[.pointer none, .int .i64 1]) ∧ Below w.heap.size w w'

def TfYes (r f : Int) (xs : List Int) (v : Value) (k x n u : Int) (w : World) (e : Ending) (w' : World) : Prop :=
  ∃ R M D, e = .returned (.tuple #[.pointer (some ⟨D, 0, none⟩), .int .i64 0]) ∧ TF R M D r f xs v k x n u w' ∧ w.heap.size ≤ M ∧ Below w.heap.size w w'

theorem build_tf (R M : Nat) (W : World) : (Instr.build 115 #[(0, .pointer (some ⟨R, 0, none⟩)), (1, .map (some M))]).run Tryz.prog W = .ok (.agg #[.pointer (some ⟨R, 0, none⟩), .map (some M)]) W := by kernel_rfl

set_option maxHeartbeats 8000000 in
theorem itf_no (r f : Int) (xs : List Int) (a : Option Addr) (l c : Nat) (k x n s u : Int) (w : World) (h : Ints w a l xs) (hlc : l ≤ c) (hp : poB r f xs k x n s u = false) :
    Calls Tryz.prog 52 #[.agg #[.int .i64 f, .slice a l c, .int .i64 r], .agg #[.int .i64 k, .int .i64 x, .int .i64 n, .int .i64 s, .int .i64 u]] w (TfNo w) := by
  have H := Lib.hid h
  clear h
  have HP := Lib.hid (BP.new w f (.slice a l c) r k x n s u 28 30)
  have CA := Lib.hid (fun W => aof_any k W)
  have CK : Hid (∀ W, Hid (BP w f (.slice a l c) r k x n s u W) → Calls Tryz.prog 66 #[.agg #[.int .i64 f, .slice a l c], .int .i64 r, kV k, .int .i64 x, .int .i64 n, .int .i64 s] W fun e w' => e = .returned (.int .i64 (akE r f xs x (inB s 1 100000000 && fitB k n) n)) ∧ Below W.heap.size W w') :=
    Lib.hid (fun W hW => chka_any r f xs a l c k x n s W (H.out.on hW.out.low) hlc)
  obtain ⟨V, hV⟩ : ∃ y_, kV k = y_ := ⟨_, rfl⟩
  rw [hV] at CA CK
  clear hV
  unfold TfNo
  by_cases hE : akE r f xs x (inB s 1 100000000 && fitB k n) n = 0
  · by_cases hu : inB u 0 1000 = true
    · obtain ⟨hco, hbo, ⟨n0, n1⟩, xn⟩ := akE_iff.1 hE
      obtain ⟨ht, ⟨r0, r1⟩, x0, x1⟩ := coE_iff.1 hco
      obtain ⟨f0, f1⟩ := ht.1
      have hmm := @run_makeMap Tryz.prog
      have CLA := Lib.hid (fun W => ilast_any k x n s u W (by omega) (by omega) n0 (by omega))
      have CATT : Hid (∀ R W, Cols W R r f xs (.slice a l c) → Calls Tryz.prog 88 #[.pointer (some ⟨R, 2, none⟩), .int .i64 (x + max (n - 1) 0)] W fun e w' => e = .returned (.agg #[.int .i64 (cD r xs (x + max (n - 1) 0 - f).toNat), .int .i64 (cN r xs (x + max (n - 1) 0 - f).toNat), .int .i64 (cC r xs (x + max (n - 1) 0 - f).toNat), .int .i64 (cM r xs (x + max (n - 1) 0 - f).toNat)]) ∧ Below W.heap.size W w') :=
        Lib.hid (fun R W hW => at_cols r f xs (.slice a l c) R (x + max (n - 1) 0) W hW f0 (by omega) (by omega))
      have HL := np_last ht r0 x0 n0 (x := x) (n := n)
      obtain ⟨q0, hq0⟩ : ∃ y_, cD r xs (x + max (n - 1) 0 - f).toNat = y_ := ⟨_, rfl⟩
      obtain ⟨q1, hq1⟩ : ∃ y_, cN r xs (x + max (n - 1) 0 - f).toNat = y_ := ⟨_, rfl⟩
      obtain ⟨q2, hq2⟩ : ∃ y_, cC r xs (x + max (n - 1) 0 - f).toNat = y_ := ⟨_, rfl⟩
      obtain ⟨q3, hq3⟩ : ∃ y_, cM r xs (x + max (n - 1) 0 - f).toNat = y_ := ⟨_, rfl⟩
      rw [hq0, hq1, hq2, hq3] at CATT
      have hz : q0 = 0 := by
        by_cases hz : q0 = 0
        · exact hz
        · exfalso
          have hd : cD r xs (x - f).toNat ≠ 0 := by
            have hmo := ht.cD_mono r r0 (x - f).toNat (max (n - 1) 0).toNat
            rw [show (x - f).toNat + (max (n - 1) 0).toNat = (x + max (n - 1) 0 - f).toNat by omega, hq0] at hmo
            have h0 := (ht.cD_bd r r0 (x + max (n - 1) 0 - f).toNat).1
            rw [hq0] at h0
            omega
          have hy : poB r f xs k x n s u = true := by
            unfold poB
            rw [(HL hd).2 (by rw [hq0]; exact hz), hu, show asE r f xs k x n s = 0 from anE_iff.2 ⟨hco, hbo, ⟨n0, n1⟩, xn, hd⟩]
            rfl
          rw [hp] at hy; cases hy
      subst hz
      have hfl := fldD 0 q1 q2 q3
      have HT := Lib.hid ht
      rw [hE] at CK
      clear hE hco hbo ht HL hq0 hq1 hq2 hq3 hp
      go_enter Tryz.func52, Tryz.ntmps52
      go_wp2_with fail
      obtain ⟨W1, hW1⟩ : ∃ W1, ((w.alloc (.cells #[.int .i64 f, .slice a l c, .int .i64 r] 28)).alloc (.cells #[.int .i64 k, .int .i64 x, .int .i64 n, .int .i64 s, .int .i64 u] 30)) = W1 := ⟨_, rfl⟩
      rw [hW1] at HP ⊢
      clear hW1
      obtain ⟨b0, b1, b2, p0, p1, p2, p3, p4, -⟩ := bpS HP.out
      go_region_held3 (fun W9 => W9.cell? ⟨w.heap.size, 0, none⟩ = some (.int .i64 f) ∧ W9.cell? ⟨w.heap.size, 1, none⟩ = some (.slice a l c) ∧ W9.cell? ⟨w.heap.size, 2, none⟩ = some (.int .i64 r) ∧ W9.cell? ⟨w.heap.size + 1, 0, none⟩ = some (.int .i64 k) ∧ W9.cell? ⟨w.heap.size + 1, 1, none⟩ = some (.int .i64 x) ∧ W9.cell? ⟨w.heap.size + 1, 2, none⟩ = some (.int .i64 n) ∧ W9.cell? ⟨w.heap.size + 1, 3, none⟩ = some (.int .i64 s) ∧ W9.cell? ⟨w.heap.size + 1, 4, none⟩ = some (.int .i64 u) ∧ Hid (BP w f (.slice a l c) r k x n s u W9))
          (first
            | (go_split_ands; exact ⟨by with_reducible assumption, by with_reducible assumption, by with_reducible assumption, by with_reducible assumption, by with_reducible assumption, by with_reducible assumption, by with_reducible assumption, by with_reducible assumption, by with_reducible assumption⟩)
            | (go_split_ands; with_reducible exact bpS HP.out)
            | (go_split_ands; with_reducible exact bpS (BP.drew HP.out))
            | (go_split_ands; with_reducible exact bpS (BP.on (Hid.out (by with_reducible assumption)) hb))
            | fail)
          (first
            | (go_split_ands; go_at_call 65; ((with_reducible refine (CA.out _).mono ?_); rintro e w' ⟨rfl, rfl⟩))
            | (go_split_ands; go_at_call 66; ((with_reducible refine (CK.out _ (by with_reducible assumption)).mono ?_); rintro e w' ⟨rfl, hb⟩))
            | fail)
      all_goals
        go_split_ands
        have HQ : Hid (BP w f (.slice a l c) r k x n s u w') := by with_reducible assumption
        clear HP b0 b1 b2 p0 p1 p2 p3 p4
        have HP := HQ
        clear HQ
        obtain ⟨b0, b1, b2, p0, p1, p2, p3, p4, -⟩ := bpS HP.out
        go_wp2_with (go_at_call 87; refine (within_any _ _ _ _).mono ?_; rintro e w' ⟨rfl, rfl⟩)
        with_reducible refine (co_any r f xs a l c _ (H.out.on HP.out.low) HT.out r0 r1).mono ?_
        rintro e w3 ⟨R, G, rfl, hR, hG, hGs, hb⟩
        have HF := Lib.hid (FT.new0 (HP.out.on hb) (show Cols w3 R r f xs (.slice a l c) from ⟨G, hG, hGs⟩))
        have HP3 := Lib.hid (HP.out.on hb)
        obtain ⟨b0, b1, b2, p0, p1, p2, p3, p4, -⟩ := bpS HP3.out
        have hbu := build_tf R w3.heap.size
        clear hb hG hGs hR HP
        go_wp2_with fail
        obtain ⟨W5, hW5⟩ : ∃ y_, (w3.alloc (.map #[] 0)).alloc (.cells #[.pointer (some ⟨R, 0, none⟩), .map (some w3.heap.size)] 115) = y_ := ⟨_, rfl⟩
        rw [hW5] at HF ⊢
        clear hW5
        obtain ⟨t0, p0, p1, p2, p3, p4, -⟩ := ftS HF.out
        have CAT : Hid (∀ W, Hid (FT w f a l c r xs k x n s u R w3.heap.size (w3.heap.size + 1) W) → Calls Tryz.prog 88 #[.pointer (some ⟨R, 2, none⟩), .int .i64 (x + max (n - 1) 0)] W fun e w' => e = .returned (.agg #[.int .i64 0, .int .i64 q1, .int .i64 q2, .int .i64 q3]) ∧ Below W.heap.size W w') :=
          Lib.hid (fun W hW => CATT.out R W hW.out.tf.cols)
        obtain ⟨M, hM⟩ : ∃ y_, w3.heap.size = y_ := ⟨_, rfl⟩
        rw [hM] at HF t0 CAT hbu ⊢
        obtain ⟨D, hD⟩ : ∃ y_, M + 1 = y_ := ⟨_, rfl⟩
        rw [hD] at HF t0 CAT ⊢
        clear hM hD HP3
        go_region_held3 (fun W9 => W9.cell? ⟨D, 0, none⟩ = some (.pointer (some ⟨R, 0, none⟩)) ∧ W9.cell? ⟨w.heap.size + 1, 0, none⟩ = some (.int .i64 k) ∧ W9.cell? ⟨w.heap.size + 1, 1, none⟩ = some (.int .i64 x) ∧ W9.cell? ⟨w.heap.size + 1, 2, none⟩ = some (.int .i64 n) ∧ W9.cell? ⟨w.heap.size + 1, 3, none⟩ = some (.int .i64 s) ∧ W9.cell? ⟨w.heap.size + 1, 4, none⟩ = some (.int .i64 u) ∧ Hid (FT w f a l c r xs k x n s u R M D W9))
          (first
            | (go_split_ands; with_reducible exact ftS (Hid.out (by with_reducible assumption)))
            | (go_split_ands; with_reducible exact ftS (FT.on (Hid.out (by with_reducible assumption)) hb))
            | (go_split_ands; with_reducible exact ftS (FT.drew (Hid.out (by with_reducible assumption))))
            | fail)
          (first
            | (go_split_ands; go_at_call 89; ((with_reducible refine (CLA.out _).mono ?_); rintro e w' ⟨rfl, hb⟩))
            | (go_split_ands; go_at_call 88; ((with_reducible refine (CAT.out _ (by with_reducible assumption)).mono ?_); rintro e w' ⟨rfl, hb⟩))
            | fail)
        all_goals
          go_split_ands
          have HF9 : Hid (FT w f a l c r xs k x n s u R M D w') := by with_reducible assumption
          go_wp2_with fail
          go_ret2
          exact ⟨rfl, HF9.out.bp.low⟩
    · have hu2 : inB u 0 1000 = false := by simpa using hu
      rw [hE] at CK
      clear hE hp
      go_enter Tryz.func52, Tryz.ntmps52
      go_wp2_with fail
      obtain ⟨W1, hW1⟩ : ∃ W1, ((w.alloc (.cells #[.int .i64 f, .slice a l c, .int .i64 r] 28)).alloc (.cells #[.int .i64 k, .int .i64 x, .int .i64 n, .int .i64 s, .int .i64 u] 30)) = W1 := ⟨_, rfl⟩
      rw [hW1] at HP ⊢
      clear hW1
      obtain ⟨b0, b1, b2, p0, p1, p2, p3, p4, -⟩ := bpS HP.out
      go_region_held3 (fun W9 => W9.cell? ⟨w.heap.size, 0, none⟩ = some (.int .i64 f) ∧ W9.cell? ⟨w.heap.size, 1, none⟩ = some (.slice a l c) ∧ W9.cell? ⟨w.heap.size, 2, none⟩ = some (.int .i64 r) ∧ W9.cell? ⟨w.heap.size + 1, 0, none⟩ = some (.int .i64 k) ∧ W9.cell? ⟨w.heap.size + 1, 1, none⟩ = some (.int .i64 x) ∧ W9.cell? ⟨w.heap.size + 1, 2, none⟩ = some (.int .i64 n) ∧ W9.cell? ⟨w.heap.size + 1, 3, none⟩ = some (.int .i64 s) ∧ W9.cell? ⟨w.heap.size + 1, 4, none⟩ = some (.int .i64 u) ∧ Hid (BP w f (.slice a l c) r k x n s u W9))
          (first
            | (go_split_ands; exact ⟨by with_reducible assumption, by with_reducible assumption, by with_reducible assumption, by with_reducible assumption, by with_reducible assumption, by with_reducible assumption, by with_reducible assumption, by with_reducible assumption, by with_reducible assumption⟩)
            | (go_split_ands; with_reducible exact bpS HP.out)
            | (go_split_ands; with_reducible exact bpS (BP.drew HP.out))
            | (go_split_ands; with_reducible exact bpS (BP.on (Hid.out (by with_reducible assumption)) hb))
            | fail)
          (first
            | (go_split_ands; go_at_call 65; ((with_reducible refine (CA.out _).mono ?_); rintro e w' ⟨rfl, rfl⟩))
            | (go_split_ands; go_at_call 66; ((with_reducible refine (CK.out _ (by with_reducible assumption)).mono ?_); rintro e w' ⟨rfl, hb⟩))
            | fail)
      all_goals
        go_split_ands
        have HQ : Hid (BP w f (.slice a l c) r k x n s u w') := by with_reducible assumption
        go_wp2_with (go_at_call 87; refine (within_any _ _ _ _).mono ?_; rintro e w' ⟨rfl, rfl⟩)
        go_ret2
        exact ⟨rfl, HQ.out.low⟩
  · obtain ⟨E, hEE⟩ : ∃ y_, akE r f xs x (inB s 1 100000000 && fitB k n) n = y_ := ⟨_, rfl⟩
    rw [hEE] at CK hE
    have hne : (E != 0) = true := by simp [hE]
    clear hEE hp
    go_enter Tryz.func52, Tryz.ntmps52
    go_wp2_with fail
    obtain ⟨W1, hW1⟩ : ∃ W1, ((w.alloc (.cells #[.int .i64 f, .slice a l c, .int .i64 r] 28)).alloc (.cells #[.int .i64 k, .int .i64 x, .int .i64 n, .int .i64 s, .int .i64 u] 30)) = W1 := ⟨_, rfl⟩
    rw [hW1] at HP ⊢
    clear hW1
    obtain ⟨b0, b1, b2, p0, p1, p2, p3, p4, -⟩ := bpS HP.out
    go_region_held3 (fun W9 => W9.cell? ⟨w.heap.size, 0, none⟩ = some (.int .i64 f) ∧ W9.cell? ⟨w.heap.size, 1, none⟩ = some (.slice a l c) ∧ W9.cell? ⟨w.heap.size, 2, none⟩ = some (.int .i64 r) ∧ W9.cell? ⟨w.heap.size + 1, 0, none⟩ = some (.int .i64 k) ∧ W9.cell? ⟨w.heap.size + 1, 1, none⟩ = some (.int .i64 x) ∧ W9.cell? ⟨w.heap.size + 1, 2, none⟩ = some (.int .i64 n) ∧ W9.cell? ⟨w.heap.size + 1, 3, none⟩ = some (.int .i64 s) ∧ W9.cell? ⟨w.heap.size + 1, 4, none⟩ = some (.int .i64 u) ∧ Hid (BP w f (.slice a l c) r k x n s u W9))
        (first
          | (go_split_ands; exact ⟨by with_reducible assumption, by with_reducible assumption, by with_reducible assumption, by with_reducible assumption, by with_reducible assumption, by with_reducible assumption, by with_reducible assumption, by with_reducible assumption, by with_reducible assumption⟩)
          | (go_split_ands; with_reducible exact bpS HP.out)
          | (go_split_ands; with_reducible exact bpS (BP.drew HP.out))
          | (go_split_ands; with_reducible exact bpS (BP.on (Hid.out (by with_reducible assumption)) hb))
          | fail)
        (first
          | (go_split_ands; go_at_call 65; ((with_reducible refine (CA.out _).mono ?_); rintro e w' ⟨rfl, rfl⟩))
          | (go_split_ands; go_at_call 66; ((with_reducible refine (CK.out _ (by with_reducible assumption)).mono ?_); rintro e w' ⟨rfl, hb⟩))
          | fail)
    all_goals
      go_split_ands
      have HQ : Hid (BP w f (.slice a l c) r k x n s u w') := by with_reducible assumption
      go_wp2_with fail
      go_ret2
      exact ⟨rfl, HQ.out.low⟩

set_option maxHeartbeats 8000000 in
theorem itf_yes (r f : Int) (xs : List Int) (a : Option Addr) (l c : Nat) (k x n s u : Int) (w : World) (h : Ints w a l xs) (hlc : l ≤ c) (hp : poB r f xs k x n s u = true) :
    Calls Tryz.prog 52 #[.agg #[.int .i64 f, .slice a l c, .int .i64 r], .agg #[.int .i64 k, .int .i64 x, .int .i64 n, .int .i64 s, .int .i64 u]] w (TfYes r f xs (.slice a l c) k x n u w) := by
  have H := Lib.hid h
  clear h
  have HP := Lib.hid (BP.new w f (.slice a l c) r k x n s u 28 30)
  have CA := Lib.hid (fun W => aof_any k W)
  have CK : Hid (∀ W, Hid (BP w f (.slice a l c) r k x n s u W) → Calls Tryz.prog 66 #[.agg #[.int .i64 f, .slice a l c], .int .i64 r, kV k, .int .i64 x, .int .i64 n, .int .i64 s] W fun e w' => e = .returned (.int .i64 (akE r f xs x (inB s 1 100000000 && fitB k n) n)) ∧ Below W.heap.size W w') :=
    Lib.hid (fun W hW => chka_any r f xs a l c k x n s W (H.out.on hW.out.low) hlc)
  obtain ⟨V, hV⟩ : ∃ y_, kV k = y_ := ⟨_, rfl⟩
  rw [hV] at CA CK
  clear hV
  unfold TfYes
  obtain ⟨hz, huu, hnp⟩ := poB_iff.1 hp
  have hu : inB u 0 1000 = true := (inB_iff _ _ _).2 huu
  unfold asE at hz
  obtain ⟨hc1, hb1, hn1, hx1, hd⟩ := anE_iff.1 hz
  have hE := akE_iff.2 ⟨hc1, hb1, hn1, hx1⟩
  obtain ⟨hco, hbo, ⟨n0, n1⟩, xn⟩ := akE_iff.1 hE
  obtain ⟨ht, ⟨r0, r1⟩, x0, x1⟩ := coE_iff.1 hco
  obtain ⟨f0, f1⟩ := ht.1
  have hmm := @run_makeMap Tryz.prog
  have CLA := Lib.hid (fun W => ilast_any k x n s u W (by omega) (by omega) n0 (by omega))
  have CATT : Hid (∀ R W, Cols W R r f xs (.slice a l c) → Calls Tryz.prog 88 #[.pointer (some ⟨R, 2, none⟩), .int .i64 (x + max (n - 1) 0)] W fun e w' => e = .returned (.agg #[.int .i64 (cD r xs (x + max (n - 1) 0 - f).toNat), .int .i64 (cN r xs (x + max (n - 1) 0 - f).toNat), .int .i64 (cC r xs (x + max (n - 1) 0 - f).toNat), .int .i64 (cM r xs (x + max (n - 1) 0 - f).toNat)]) ∧ Below W.heap.size W w') :=
    Lib.hid (fun R W hW => at_cols r f xs (.slice a l c) R (x + max (n - 1) 0) W hW f0 (by omega) (by omega))
  have HL := np_last ht r0 x0 n0 (x := x) (n := n)
  obtain ⟨q0, hq0⟩ : ∃ y_, cD r xs (x + max (n - 1) 0 - f).toNat = y_ := ⟨_, rfl⟩
  obtain ⟨q1, hq1⟩ : ∃ y_, cN r xs (x + max (n - 1) 0 - f).toNat = y_ := ⟨_, rfl⟩
  obtain ⟨q2, hq2⟩ : ∃ y_, cC r xs (x + max (n - 1) 0 - f).toNat = y_ := ⟨_, rfl⟩
  obtain ⟨q3, hq3⟩ : ∃ y_, cM r xs (x + max (n - 1) 0 - f).toNat = y_ := ⟨_, rfl⟩
  rw [hq0, hq1, hq2, hq3] at CATT
  have hq : q0 ≠ 0 := by rw [← hq0]; exact (HL hd).1 (npB_yes hnp)
  have hq9 : (q0 == 0) = false := by simp [hq]
  have hfl := fldD q0 q1 q2 q3
  have HT := Lib.hid ht
  rw [hE] at CK
  clear hE hco hbo ht HL hq0 hq1 hq2 hq3 hp hz huu hnp hc1 hb1 hn1 hx1 hd hq
  go_enter Tryz.func52, Tryz.ntmps52
  go_wp2_with fail
  obtain ⟨W1, hW1⟩ : ∃ W1, ((w.alloc (.cells #[.int .i64 f, .slice a l c, .int .i64 r] 28)).alloc (.cells #[.int .i64 k, .int .i64 x, .int .i64 n, .int .i64 s, .int .i64 u] 30)) = W1 := ⟨_, rfl⟩
  rw [hW1] at HP ⊢
  clear hW1
  obtain ⟨b0, b1, b2, p0, p1, p2, p3, p4, -⟩ := bpS HP.out
  go_region_held3 (fun W9 => W9.cell? ⟨w.heap.size, 0, none⟩ = some (.int .i64 f) ∧ W9.cell? ⟨w.heap.size, 1, none⟩ = some (.slice a l c) ∧ W9.cell? ⟨w.heap.size, 2, none⟩ = some (.int .i64 r) ∧ W9.cell? ⟨w.heap.size + 1, 0, none⟩ = some (.int .i64 k) ∧ W9.cell? ⟨w.heap.size + 1, 1, none⟩ = some (.int .i64 x) ∧ W9.cell? ⟨w.heap.size + 1, 2, none⟩ = some (.int .i64 n) ∧ W9.cell? ⟨w.heap.size + 1, 3, none⟩ = some (.int .i64 s) ∧ W9.cell? ⟨w.heap.size + 1, 4, none⟩ = some (.int .i64 u) ∧ Hid (BP w f (.slice a l c) r k x n s u W9))
      (first
        | (go_split_ands; exact ⟨by with_reducible assumption, by with_reducible assumption, by with_reducible assumption, by with_reducible assumption, by with_reducible assumption, by with_reducible assumption, by with_reducible assumption, by with_reducible assumption, by with_reducible assumption⟩)
        | (go_split_ands; with_reducible exact bpS HP.out)
        | (go_split_ands; with_reducible exact bpS (BP.drew HP.out))
        | (go_split_ands; with_reducible exact bpS (BP.on (Hid.out (by with_reducible assumption)) hb))
        | fail)
      (first
        | (go_split_ands; go_at_call 65; ((with_reducible refine (CA.out _).mono ?_); rintro e w' ⟨rfl, rfl⟩))
        | (go_split_ands; go_at_call 66; ((with_reducible refine (CK.out _ (by with_reducible assumption)).mono ?_); rintro e w' ⟨rfl, hb⟩))
        | fail)
  all_goals
    go_split_ands
    have HQ : Hid (BP w f (.slice a l c) r k x n s u w') := by with_reducible assumption
    clear HP b0 b1 b2 p0 p1 p2 p3 p4
    have HP := HQ
    clear HQ
    obtain ⟨b0, b1, b2, p0, p1, p2, p3, p4, -⟩ := bpS HP.out
    go_wp2_with (go_at_call 87; refine (within_any _ _ _ _).mono ?_; rintro e w' ⟨rfl, rfl⟩)
    with_reducible refine (co_any r f xs a l c _ (H.out.on HP.out.low) HT.out r0 r1).mono ?_
    rintro e w3 ⟨R, G, rfl, hR, hG, hGs, hb⟩
    have HF := Lib.hid (FT.new0 (HP.out.on hb) (show Cols w3 R r f xs (.slice a l c) from ⟨G, hG, hGs⟩))
    have HP3 := Lib.hid (HP.out.on hb)
    obtain ⟨b0, b1, b2, p0, p1, p2, p3, p4, -⟩ := bpS HP3.out
    have hbu := build_tf R w3.heap.size
    clear hb hG hGs hR HP
    go_wp2_with fail
    obtain ⟨W5, hW5⟩ : ∃ y_, (w3.alloc (.map #[] 0)).alloc (.cells #[.pointer (some ⟨R, 0, none⟩), .map (some w3.heap.size)] 115) = y_ := ⟨_, rfl⟩
    rw [hW5] at HF ⊢
    clear hW5
    obtain ⟨t0, p0, p1, p2, p3, p4, -⟩ := ftS HF.out
    have CAT : Hid (∀ W, Hid (FT w f a l c r xs k x n s u R w3.heap.size (w3.heap.size + 1) W) → Calls Tryz.prog 88 #[.pointer (some ⟨R, 2, none⟩), .int .i64 (x + max (n - 1) 0)] W fun e w' => e = .returned (.agg #[.int .i64 q0, .int .i64 q1, .int .i64 q2, .int .i64 q3]) ∧ Below W.heap.size W w') :=
      Lib.hid (fun W hW => CATT.out R W hW.out.tf.cols)
    obtain ⟨M, hM⟩ : ∃ y_, w3.heap.size = y_ := ⟨_, rfl⟩
    rw [hM] at HF t0 CAT hbu ⊢
    obtain ⟨D, hD⟩ : ∃ y_, M + 1 = y_ := ⟨_, rfl⟩
    rw [hD] at HF t0 CAT ⊢
    clear hM hD HP3
    go_region_held3 (fun W9 => W9.cell? ⟨D, 0, none⟩ = some (.pointer (some ⟨R, 0, none⟩)) ∧ W9.cell? ⟨w.heap.size + 1, 0, none⟩ = some (.int .i64 k) ∧ W9.cell? ⟨w.heap.size + 1, 1, none⟩ = some (.int .i64 x) ∧ W9.cell? ⟨w.heap.size + 1, 2, none⟩ = some (.int .i64 n) ∧ W9.cell? ⟨w.heap.size + 1, 3, none⟩ = some (.int .i64 s) ∧ W9.cell? ⟨w.heap.size + 1, 4, none⟩ = some (.int .i64 u) ∧ Hid (FT w f a l c r xs k x n s u R M D W9))
      (first
        | (go_split_ands; with_reducible exact ftS (Hid.out (by with_reducible assumption)))
        | (go_split_ands; with_reducible exact ftS (FT.on (Hid.out (by with_reducible assumption)) hb))
        | (go_split_ands; with_reducible exact ftS (FT.drew (Hid.out (by with_reducible assumption))))
        | fail)
      (first
        | (go_split_ands; go_at_call 89; ((with_reducible refine (CLA.out _).mono ?_); rintro e w' ⟨rfl, hb⟩))
        | (go_split_ands; go_at_call 88; ((with_reducible refine (CAT.out _ (by with_reducible assumption)).mono ?_); rintro e w' ⟨rfl, hb⟩))
        | fail)
    all_goals
      go_split_ands
      have HF9 : Hid (FT w f a l c r xs k x n s u R M D w') := by with_reducible assumption
      go_wp2_with fail
      go_ret2
      exact ⟨R, M, D, rfl, HF9.out.tf, HF9.out.new, HF9.out.bp.low⟩

end Go.Proofs.YtdlfofdibooidaaGreat

/- Reserves: the program's course of a policy. (Written by wip/gen/rvc.py.) -/
namespace Go.Proofs.YtdlfofdibooidaaGreat
open Go.ChangeShapes Go.WideShapes Go.ChangeAt Go.RowKit
open Go.ChangeMaps (setBlock heap_setBlock_same heap_setBlock_other)
set_option linter.unusedVariables false
set_option maxRecDepth 100000

theorem Bx.c17 {w : World} {B : Nat} {y0 y1 y2 y3 y4 y5 y6 y7 y8 y9 y10 y11 y12 y13 y14 y15 y16 : Value} (h : Bx w B [y0, y1, y2, y3, y4, y5, y6, y7, y8, y9, y10, y11, y12, y13, y14, y15, y16]) : w.cell? ⟨B, 0, none⟩ = some y0 ∧ w.cell? ⟨B, 1, none⟩ = some y1 ∧ w.cell? ⟨B, 2, none⟩ = some y2 ∧ w.cell? ⟨B, 3, none⟩ = some y3 ∧ w.cell? ⟨B, 4, none⟩ = some y4 ∧ w.cell? ⟨B, 5, none⟩ = some y5 ∧ w.cell? ⟨B, 6, none⟩ = some y6 ∧ w.cell? ⟨B, 7, none⟩ = some y7 ∧ w.cell? ⟨B, 8, none⟩ = some y8 ∧ w.cell? ⟨B, 9, none⟩ = some y9 ∧ w.cell? ⟨B, 10, none⟩ = some y10 ∧ w.cell? ⟨B, 11, none⟩ = some y11 ∧ w.cell? ⟨B, 12, none⟩ = some y12 ∧ w.cell? ⟨B, 13, none⟩ = some y13 ∧ w.cell? ⟨B, 14, none⟩ = some y14 ∧ w.cell? ⟨B, 15, none⟩ = some y15 ∧ w.cell? ⟨B, 16, none⟩ = some y16 := by
  obtain ⟨T, h⟩ := h
  simp [World.cell?, h]

theorem Bx.c10 {w : World} {B : Nat} {y0 y1 y2 y3 y4 y5 y6 y7 y8 y9 : Value} (h : Bx w B [y0, y1, y2, y3, y4, y5, y6, y7, y8, y9]) : w.cell? ⟨B, 0, none⟩ = some y0 ∧ w.cell? ⟨B, 1, none⟩ = some y1 ∧ w.cell? ⟨B, 2, none⟩ = some y2 ∧ w.cell? ⟨B, 3, none⟩ = some y3 ∧ w.cell? ⟨B, 4, none⟩ = some y4 ∧ w.cell? ⟨B, 5, none⟩ = some y5 ∧ w.cell? ⟨B, 6, none⟩ = some y6 ∧ w.cell? ⟨B, 7, none⟩ = some y7 ∧ w.cell? ⟨B, 8, none⟩ = some y8 ∧ w.cell? ⟨B, 9, none⟩ = some y9 := by
  obtain ⟨T, h⟩ := h
  simp [World.cell?, h]

/-- a course in block C, over the columns in block R -/
def crV (R : Nat) (r f : Int) (xs : List Int) (k x n s u : Int) : List Value := [.pointer (some ⟨R, 0, none⟩), .int .i64 k, .int .i64 x, .int .i64 n, .int .i64 s, .int .i64 u, .int .i64 (netN r f xs k x n s), .iface (kT k) (.agg #[]), .int .i64 (cD r xs (x - f).toNat), .int .i64 (cN r xs (x - f).toNat), .int .i64 (cC r xs (x - f).toNat), .int .i64 (cM r xs (x - f).toNat), .int .i64 (cD r xs (x + n - f).toNat), .int .i64 (cN r xs (x + n - f).toNat), .int .i64 (cC r xs (x + n - f).toNat), .int .i64 (cM r xs (x + n - f).toNat), .int .i64 (durN f xs k x n)]

structure Crs (C R : Nat) (r f : Int) (xs : List Int) (v : Value) (k x n s u : Int) (W : World) : Prop where
  b : Bx W C (crV R r f xs k x n s u)
  cols : Cols W R r f xs v

theorem Crs.on {C R : Nat} {r f : Int} {xs : List Int} {k x n s u : Int} {v : Value} {W W' : World} (h : Crs C R r f xs v k x n s u W) (hb : Below W.heap.size W W') : Crs C R r f xs v k x n s u W' := ⟨h.b.on hb, h.cols.on hb⟩

theorem Crs.drew {C R : Nat} {r f : Int} {xs : List Int} {k x n s u : Int} {v : Value} {W : World} (h : Crs C R r f xs v k x n s u W) : Crs C R r f xs v k x n s u W.drew := h.on (Below.drew (Below.refl _ _))

/-- while a course is made -/
structure CX (w : World) (R M D : Nat) (r f : Int) (xs : List Int) (v : Value) (k x n s u : Int) (W : World) : Prop where
  bp : BP w f v r k x n s u W
  tf : TF R M D r f xs v k x n u W
  ml : w.heap.size ≤ M

theorem CX.on {w : World} {R M D : Nat} {r f : Int} {xs : List Int} {v : Value} {k x n s u : Int} {W W' : World} (h : CX w R M D r f xs v k x n s u W) (hb : Below W.heap.size W W') : CX w R M D r f xs v k x n s u W' := ⟨h.bp.on hb, h.tf.on hb, h.ml⟩

theorem CX.drew {w : World} {R M D : Nat} {r f : Int} {xs : List Int} {v : Value} {k x n s u : Int} {W : World} (h : CX w R M D r f xs v k x n s u W) : CX w R M D r f xs v k x n s u W.drew := h.on (Below.drew (Below.refl _ _))

theorem CX.onM {w : World} {R M D : Nat} {r f : Int} {xs : List Int} {v : Value} {k x n s u : Int} {W W' : World} (h : CX w R M D r f xs v k x n s u W) (ht : TF R M D r f xs v k x n u W') (hb : But M W W') : CX w R M D r f xs v k x n s u W' := by
  obtain ⟨es, c, hm, -⟩ := h.tf.map
  exact ⟨⟨hb.keepM hm h.bp.b0, hb.keepM hm h.bp.b1, hb.keepM hm h.bp.b2, hb.keepM hm h.bp.p0, hb.keepM hm h.bp.p1, hb.keepM hm h.bp.p2, hb.keepM hm h.bp.p3, hb.keepM hm h.bp.p4, h.bp.low.trans (hb.below h.ml h.bp.low.size), Nat.le_trans h.bp.sz hb.size⟩, ht, h.ml⟩

theorem cxS {w : World} {R M D : Nat} {r f : Int} {xs : List Int} {v : Value} {k x n s u : Int} {W : World} (h : CX w R M D r f xs v k x n s u W) : W.cell? ⟨D, 0, none⟩ = some (.pointer (some ⟨R, 0, none⟩)) ∧ W.cell? ⟨w.heap.size + 1, 0, none⟩ = some (.int .i64 k) ∧ W.cell? ⟨w.heap.size + 1, 1, none⟩ = some (.int .i64 x) ∧ W.cell? ⟨w.heap.size + 1, 2, none⟩ = some (.int .i64 n) ∧ W.cell? ⟨w.heap.size + 1, 3, none⟩ = some (.int .i64 s) ∧ W.cell? ⟨w.heap.size + 1, 4, none⟩ = some (.int .i64 u) ∧ Hid (CX w R M D r f xs v k x n s u W) := ⟨h.tf.t0, h.bp.p0, h.bp.p1, h.bp.p2, h.bp.p3, h.bp.p4, Lib.hid h⟩

theorem build_crs (R : Nat) (k x n s u p : Int) (T : TypeId) (z : Value) (g0 g1 g2 g3 g4 g5 g6 g7 E : Int) (W : World) : (Instr.build 118 #[(0, .pointer (some ⟨R, 0, none⟩)), (1, .agg #[.int .i64 k, .int .i64 x, .int .i64 n, .int .i64 s, .int .i64 u]), (2, .int .i64 p), (3, .agg #[.iface T z, .int .i64 g0, .int .i64 g1, .int .i64 g2, .int .i64 g3, .int .i64 g4, .int .i64 g5, .int .i64 g6, .int .i64 g7]), (4, .int .i64 E)]).run Tryz.prog W = .ok (.agg #[.pointer (some ⟨R, 0, none⟩), .int .i64 k, .int .i64 x, .int .i64 n, .int .i64 s, .int .i64 u, .int .i64 p, .iface T z, .int .i64 g0, .int .i64 g1, .int .i64 g2, .int .i64 g3, .int .i64 g4, .int .i64 g5, .int .i64 g6, .int .i64 g7, .int .i64 E]) W := by kernel_rfl

def CoYes (r f : Int) (xs : List Int) (v : Value) (k x n s u : Int) (w : World) (e : Ending) (w' : World) : Prop :=
  ∃ C R, e = .returned (.tuple #[.pointer (some ⟨C, 0, none⟩), .int .i64 0]) ∧ Crs C R r f xs v k x n s u w' ∧ Below w.heap.size w w'

theorem ico_no (r f : Int) (xs : List Int) (a : Option Addr) (l c : Nat) (k x n s u : Int) (w : World) (h : Ints w a l xs) (hlc : l ≤ c) (hp : poB r f xs k x n s u = false) :
    Calls Tryz.prog 48 #[.agg #[.int .i64 f, .slice a l c, .int .i64 r], .agg #[.int .i64 k, .int .i64 x, .int .i64 n, .int .i64 s, .int .i64 u]] w (TfNo w) := by
  have H := Lib.hid h
  clear h
  have HP := Lib.hid (BP.new w f (.slice a l c) r k x n s u 28 30)
  have CT : Hid (∀ W, Hid (BP w f (.slice a l c) r k x n s u W) → Calls Tryz.prog 52 #[.agg #[.int .i64 f, .slice a l c, .int .i64 r], .agg #[.int .i64 k, .int .i64 x, .int .i64 n, .int .i64 s, .int .i64 u]] W (TfNo W)) := Lib.hid (fun W hW => itf_no r f xs a l c k x n s u W (H.out.on hW.out.low) hlc hp)
  unfold TfNo at CT ⊢
  clear hp
  go_enter Tryz.func48, Tryz.ntmps48
  go_wp2_with fail
  obtain ⟨W1, hW1⟩ : ∃ W1, ((w.alloc (.cells #[.int .i64 f, .slice a l c, .int .i64 r] 28)).alloc (.cells #[.int .i64 k, .int .i64 x, .int .i64 n, .int .i64 s, .int .i64 u] 30)) = W1 := ⟨_, rfl⟩
  rw [hW1] at HP ⊢
  clear hW1
  with_reducible refine (CT.out _ HP).mono ?_
  rintro e w1 ⟨rfl, hb⟩
  have HP := Lib.hid (HP.out.on hb)
  clear hb
  go_wp2_with fail
  go_ret2
  exact ⟨rfl, HP.out.low⟩

set_option maxHeartbeats 8000000 in
theorem ico_yes (r f : Int) (xs : List Int) (a : Option Addr) (l c : Nat) (k x n s u : Int) (w : World) (h : Ints w a l xs) (hlc : l ≤ c) (hp : poB r f xs k x n s u = true) :
    Calls Tryz.prog 48 #[.agg #[.int .i64 f, .slice a l c, .int .i64 r], .agg #[.int .i64 k, .int .i64 x, .int .i64 n, .int .i64 s, .int .i64 u]] w (CoYes r f xs (.slice a l c) k x n s u w) := by
  have hl := h.len
  have H := Lib.hid h
  clear h
  have HP := Lib.hid (BP.new w f (.slice a l c) r k x n s u 28 30)
  have CT : Hid (∀ W, Hid (BP w f (.slice a l c) r k x n s u W) → Calls Tryz.prog 52 #[.agg #[.int .i64 f, .slice a l c, .int .i64 r], .agg #[.int .i64 k, .int .i64 x, .int .i64 n, .int .i64 s, .int .i64 u]] W (TfYes r f xs (.slice a l c) k x n u W)) := Lib.hid (fun W hW => itf_yes r f xs a l c k x n s u W (H.out.on hW.out.low) hlc hp)
  unfold TfYes at CT
  have CN : Hid (∀ R M D W, Hid (CX w R M D r f xs (.slice a l c) k x n s u W) → Calls Tryz.prog 79 #[.pointer (some ⟨D, 0, none⟩), .agg #[.int .i64 k, .int .i64 x, .int .i64 n, .int .i64 s, .int .i64 u]] W (TPost (netN r f xs k x n s) R M D r f xs (.slice a l c) k x n u W)) :=
    Lib.hid (fun R M D W hW => inet_any R M D r f xs (.slice a l c) k x n s u W hW.out.tf hp)
  unfold TPost at CN
  have CC : Hid (∀ R M D W, Hid (CX w R M D r f xs (.slice a l c) k x n s u W) → Calls Tryz.prog 80 #[.pointer (some ⟨D, 0, none⟩), .agg #[.int .i64 k, .int .i64 x, .int .i64 n, .int .i64 s, .int .i64 u]] W fun e w' => e = .returned (cvr (.iface (kT k) (.agg #[])) (cD r xs (x - f).toNat) (cN r xs (x - f).toNat) (cC r xs (x - f).toNat) (cM r xs (x - f).toNat) (cD r xs (x + n - f).toNat) (cN r xs (x + n - f).toNat) (cC r xs (x + n - f).toNat) (cM r xs (x + n - f).toNat)) ∧ Below W.heap.size W w') :=
    Lib.hid (fun R M D W hW => icov_any R M D r f xs (.slice a l c) k x n s u W hW.out.tf hp)
  unfold cvr at CC
  have CU : Hid (∀ R M D W, Hid (CX w R M D r f xs (.slice a l c) k x n s u W) → Calls Tryz.prog 81 #[.pointer (some ⟨D, 0, none⟩), .agg #[.int .i64 k, .int .i64 x, .int .i64 n, .int .i64 s, .int .i64 u]] W fun e w' => e = .returned (.int .i64 (durN f xs k x n)) ∧ Below W.heap.size W w') :=
    Lib.hid (fun R M D W hW => idur_any R M D r f xs a l c k x n s u W hW.out.tf hp hl)
  have HV : Hid (∀ R, crV R r f xs k x n s u = [.pointer (some ⟨R, 0, none⟩), .int .i64 k, .int .i64 x, .int .i64 n, .int .i64 s, .int .i64 u, .int .i64 (netN r f xs k x n s), .iface (kT k) (.agg #[]), .int .i64 (cD r xs (x - f).toNat), .int .i64 (cN r xs (x - f).toNat), .int .i64 (cC r xs (x - f).toNat), .int .i64 (cM r xs (x - f).toNat), .int .i64 (cD r xs (x + n - f).toNat), .int .i64 (cN r xs (x + n - f).toNat), .int .i64 (cC r xs (x + n - f).toNat), .int .i64 (cM r xs (x + n - f).toNat), .int .i64 (durN f xs k x n)]) := Lib.hid (fun R => rfl)
  unfold CoYes
  obtain ⟨g0, hg0⟩ : ∃ y_, cD r xs (x - f).toNat = y_ := ⟨_, rfl⟩
  obtain ⟨g1, hg1⟩ : ∃ y_, cN r xs (x - f).toNat = y_ := ⟨_, rfl⟩
  obtain ⟨g2, hg2⟩ : ∃ y_, cC r xs (x - f).toNat = y_ := ⟨_, rfl⟩
  obtain ⟨g3, hg3⟩ : ∃ y_, cM r xs (x - f).toNat = y_ := ⟨_, rfl⟩
  rw [hg0, hg1, hg2, hg3] at CC HV
  clear hg0 hg1 hg2 hg3
  obtain ⟨g4, hg4⟩ : ∃ y_, cD r xs (x + n - f).toNat = y_ := ⟨_, rfl⟩
  obtain ⟨g5, hg5⟩ : ∃ y_, cN r xs (x + n - f).toNat = y_ := ⟨_, rfl⟩
  obtain ⟨g6, hg6⟩ : ∃ y_, cC r xs (x + n - f).toNat = y_ := ⟨_, rfl⟩
  obtain ⟨g7, hg7⟩ : ∃ y_, cM r xs (x + n - f).toNat = y_ := ⟨_, rfl⟩
  rw [hg4, hg5, hg6, hg7] at CC HV
  clear hg4 hg5 hg6 hg7
  obtain ⟨T, hT⟩ : ∃ y_, kT k = y_ := ⟨_, rfl⟩
  rw [hT] at CC HV
  obtain ⟨p, hpn⟩ : ∃ y_, netN r f xs k x n s = y_ := ⟨_, rfl⟩
  rw [hpn] at CN HV
  obtain ⟨E, hE⟩ : ∃ y_, durN f xs k x n = y_ := ⟨_, rfl⟩
  rw [hE] at CU HV
  clear hT hpn hE hp hl
  go_enter Tryz.func48, Tryz.ntmps48
  go_wp2_with fail
  obtain ⟨W1, hW1⟩ : ∃ W1, ((w.alloc (.cells #[.int .i64 f, .slice a l c, .int .i64 r] 28)).alloc (.cells #[.int .i64 k, .int .i64 x, .int .i64 n, .int .i64 s, .int .i64 u] 30)) = W1 := ⟨_, rfl⟩
  rw [hW1] at HP ⊢
  clear hW1
  with_reducible refine (CT.out _ HP).mono ?_
  rintro e w1 ⟨R, M, D, rfl, htf, hnew, hb⟩
  have HX : Hid (CX w R M D r f xs (.slice a l c) k x n s u w1) := Lib.hid ⟨HP.out.on hb, htf, Nat.le_trans HP.out.low.size hnew⟩
  have hbu := build_crs R k x n s u p T (.agg #[]) g0 g1 g2 g3 g4 g5 g6 g7 E
  have CN2 := Lib.hid (CN.out R M D)
  have CC2 := Lib.hid (CC.out R M D)
  have CU2 := Lib.hid (CU.out R M D)
  clear hb htf hnew CT HP CN CC CU
  obtain ⟨t0, p0, p1, p2, p3, p4, -⟩ := cxS HX.out
  go_wp2_with fail
  go_region_held3 (fun W9 => W9.cell? ⟨D, 0, none⟩ = some (.pointer (some ⟨R, 0, none⟩)) ∧ W9.cell? ⟨w.heap.size + 1, 0, none⟩ = some (.int .i64 k) ∧ W9.cell? ⟨w.heap.size + 1, 1, none⟩ = some (.int .i64 x) ∧ W9.cell? ⟨w.heap.size + 1, 2, none⟩ = some (.int .i64 n) ∧ W9.cell? ⟨w.heap.size + 1, 3, none⟩ = some (.int .i64 s) ∧ W9.cell? ⟨w.heap.size + 1, 4, none⟩ = some (.int .i64 u) ∧ Hid (CX w R M D r f xs (.slice a l c) k x n s u W9))
    (first
      | (go_split_ands; with_reducible exact cxS (Hid.out (by with_reducible assumption)))
      | (go_split_ands; with_reducible exact cxS (CX.on (Hid.out (by with_reducible assumption)) hb))
      | (go_split_ands; with_reducible exact cxS (CX.drew (Hid.out (by with_reducible assumption))))
      | (go_split_ands; with_reducible exact cxS (CX.onM (Hid.out (by with_reducible assumption)) HTM.out hbm))
      | (go_split_ands; with_reducible exact cxS (CX.on (Hid.out (by with_reducible assumption)) (box_b _ _)))
      | (go_split_ands; with_reducible exact cxS (CX.on HSp.out (box_b _ _)))
      | fail)
    (first
      | (go_split_ands; go_at_call 79; ((with_reducible refine (CN2.out _ (by with_reducible assumption)).mono ?_); rintro e w' ⟨rfl, htm, hbm⟩; have HTM := Lib.hid htm; have HSp : Hid (CX w R M D r f xs (.slice a l c) k x n s u w') := Lib.hid (CX.onM (Hid.out (by with_reducible assumption)) htm hbm); clear htm))
      | (go_split_ands; go_at_call 80; ((with_reducible refine (CC2.out _ (by with_reducible assumption)).mono ?_); rintro e w' ⟨rfl, hb⟩; have HSp : Hid (CX w R M D r f xs (.slice a l c) k x n s u w') := Lib.hid (CX.on (Hid.out (by with_reducible assumption)) hb)))
      | (go_split_ands; go_at_call 81; ((with_reducible refine (CU2.out _ (by with_reducible assumption)).mono ?_); rintro e w' ⟨rfl, hb⟩; have HSp : Hid (CX w R M D r f xs (.slice a l c) k x n s u w') := Lib.hid (CX.on (Hid.out (by with_reducible assumption)) hb)))
      | fail)
  all_goals
    go_split_ands
    have HX9 := HSp
    go_wp2_with fail
    go_ret2
    refine ⟨_, R, rfl, ⟨?_, ?_⟩, ?_⟩
    · rw [HV.out]
      exact Bx.new w' [.pointer (some ⟨R, 0, none⟩), .int .i64 k, .int .i64 x, .int .i64 n, .int .i64 s, .int .i64 u, .int .i64 p, .iface T (.agg #[]), .int .i64 g0, .int .i64 g1, .int .i64 g2, .int .i64 g3, .int .i64 g4, .int .i64 g5, .int .i64 g6, .int .i64 g7, .int .i64 E] 118
    · exact HX9.out.tf.cols.on (box_b _ _)
    · exact HX9.out.bp.low.trans ((box_b _ _).mono HX9.out.bp.low.size)

end Go.Proofs.YtdlfofdibooidaaGreat
