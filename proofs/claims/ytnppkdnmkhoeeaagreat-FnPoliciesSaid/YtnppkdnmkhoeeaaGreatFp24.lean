/- Merged: Pof, Poe. -/
import Derived.Test.YtnppkdnmkhoeeaaGreatFp12
import Derived.Test.YtnppkdnmkhoeeaaGreatFp23

/- Policies: the program's tariff for a basis and a policy. (Written by wip/gen/pof.py.) -/
namespace Go.Proofs.YtnppkdnmkhoeeaaGreat
open Go.ChangeShapes Go.WideShapes Go.ChangeAt Go.RowKit
open Go.ChangeMaps (setBlock heap_setBlock_same heap_setBlock_other)
set_option linter.unusedVariables false
set_option maxRecDepth 100000

theorem ibas_any (r f : Int) (xs : List Int) (a : Option Addr) (l c : Nat) (w : World) (h : Ints w a l xs) (hlc : l ≤ c) :
    Calls Tryz.prog 18 #[.agg #[.int .i64 f, .slice a l c, .int .i64 r]] w fun e w' => e = .returned (.bool (baB r f xs)) ∧ Below w.heap.size w w' := by
  have H := Lib.hid h
  clear h
  by_cases h1 : ltB f xs = true
  · have HR : Hid (baB r f xs = rateB r) := Lib.hid (by unfold baB; rw [h1]; rfl)
    go_enter Tryz.func18, Tryz.ntmps18
    go_wp2_with (first | (go_at_call 44; refine (isRate_any _ _).mono ?_; rintro e w' ⟨rfl, rfl⟩) | (go_at_call 43; refine (isL_impl f xs _ _ _ _ (H.out.on (box_b _ _)) hlc).mono ?_; rintro e w1 ⟨rfl, hb⟩; obtain ⟨hB, hc0, hc1, hc2⟩ := bx3 hb; have HB := Lib.hid hB; clear hB hb))
    go_ret
    exact ⟨ret_bool HR.out.symm, HB.out⟩
  · have h1' : ltB f xs = false := by simpa using h1
    have HR : Hid (baB r f xs = false) := Lib.hid (by unfold baB; rw [h1']; rfl)
    clear h1
    go_enter Tryz.func18, Tryz.ntmps18
    go_wp2_with (first | (go_at_call 44; refine (isRate_any _ _).mono ?_; rintro e w' ⟨rfl, rfl⟩) | (go_at_call 43; refine (isL_impl f xs _ _ _ _ (H.out.on (box_b _ _)) hlc).mono ?_; rintro e w1 ⟨rfl, hb⟩; obtain ⟨hB, hc0, hc1, hc2⟩ := bx3 hb; have HB := Lib.hid hB; clear hB hb))
    go_ret
    exact ⟨ret_bool HR.out.symm, HB.out⟩

theorem ilast_any (k x n s u : Int) (w : World) (x0 : 0 ≤ x) (x1 : x ≤ 1000) (n0 : 0 ≤ n) (n1 : n ≤ 1000) :
    Calls Tryz.prog 64 #[.agg #[.int .i64 k, .int .i64 x, .int .i64 n, .int .i64 s, .int .i64 u]] w fun e w' => e = .returned (.int .i64 (x + max (n - 1) 0)) ∧ Below w.heap.size w w' := by
  have q1 : IntKind.i64.wrap (n - 1) = n - 1 := IntWalk.i64_in _ (by omega)
  by_cases h : n = 0
  · subst h
    rw [show x + max (0 - 1) 0 = x by omega]
    have q2 : IntKind.i64.wrap x = x := IntWalk.i64_in _ (by omega)
    go_enter Tryz.func64, Tryz.ntmps64
    go_wp2_with fail
    go_ret
    exact ⟨ret_int (by omega), box_b _ _⟩
  · have q3 : ¬ n - 1 < 0 := by omega
    have q4 : max (n - 1) 0 = n - 1 := by omega
    have q2 : IntKind.i64.wrap (x + (n - 1)) = x + (n - 1) := IntWalk.i64_in _ (by omega)
    rw [q4]
    go_enter Tryz.func64, Tryz.ntmps64
    go_wp2_with fail
    go_ret
    exact ⟨ret_int (by omega), box_b _ _⟩

/-- the boxes and the tariff -/
structure FT (w : World) (f : Int) (a : Option Addr) (l c : Nat) (r : Int) (xs : List Int) (k x n s u : Int) (R M D : Nat) (W : World) : Prop where
  bp : BP w f (.slice a l c) r k x n s u W
  tf : TF R M D r f xs (.slice a l c) k x n u W
  new : w.heap.size ≤ M

theorem FT.on {w : World} {f : Int} {a : Option Addr} {l c : Nat} {r : Int} {xs : List Int} {k x n s u : Int} {R M D : Nat} {W W' : World} (h : FT w f a l c r xs k x n s u R M D W) (hb : Below W.heap.size W W') : FT w f a l c r xs k x n s u R M D W' := ⟨h.bp.on hb, h.tf.on hb, h.new⟩

theorem FT.drew {w : World} {f : Int} {a : Option Addr} {l c : Nat} {r : Int} {xs : List Int} {k x n s u : Int} {R M D : Nat} {W : World} (h : FT w f a l c r xs k x n s u R M D W) : FT w f a l c r xs k x n s u R M D W.drew := h.on (Below.drew (Below.refl _ _))

theorem ftS {w : World} {f : Int} {a : Option Addr} {l c : Nat} {r : Int} {xs : List Int} {k x n s u : Int} {R M D : Nat} {W : World} (h : FT w f a l c r xs k x n s u R M D W) :
    W.cell? ⟨D, 0, none⟩ = some (.pointer (some ⟨R, 0, none⟩)) ∧ W.cell? ⟨w.heap.size + 1, 0, none⟩ = some (.int .i64 k) ∧ W.cell? ⟨w.heap.size + 1, 1, none⟩ = some (.int .i64 x) ∧ W.cell? ⟨w.heap.size + 1, 2, none⟩ = some (.int .i64 n) ∧ W.cell? ⟨w.heap.size + 1, 3, none⟩ = some (.int .i64 s) ∧ W.cell? ⟨w.heap.size + 1, 4, none⟩ = some (.int .i64 u) ∧ Hid (FT w f a l c r xs k x n s u R M D W) := ⟨h.tf.t0, h.bp.p0, h.bp.p1, h.bp.p2, h.bp.p3, h.bp.p4, Lib.hid h⟩

theorem FT.new0 {w : World} {f : Int} {a : Option Addr} {l c : Nat} {r : Int} {xs : List Int} {k x n s u : Int} {R : Nat} {W : World} (h : BP w f (.slice a l c) r k x n s u W) (hc : Cols W R r f xs (.slice a l c)) :
    FT w f a l c r xs k x n s u R W.heap.size (W.heap.size + 1) ((W.alloc (.map #[] 0)).alloc (.cells #[.pointer (some ⟨R, 0, none⟩), .map (some W.heap.size)] 96)) := by
  have b1 := box_b W (.map #[] 0)
  have b2 := box_b (W.alloc (.map #[] 0)) (.cells #[.pointer (some ⟨R, 0, none⟩), .map (some W.heap.size)] 96)
  have h2 := Bx.new (W.alloc (.map #[] 0)) [.pointer (some ⟨R, 0, none⟩), .map (some W.heap.size)] 96
  rw [World.size_alloc] at h2
  have hm : (W.alloc (.map #[] 0)).heap[W.heap.size]? = some (.map #[] 0) := heap_alloc_new _ _
  exact ⟨(h.on b1).on b2, ⟨h2.two.1, h2.two.2, (hc.on b1).on b2, #[], 0, (b2.block _ (by simp)).trans hm, fun e he => by simp at he⟩, h.low.size⟩

def TfNo (w : World) (e : Ending) (w' : World) : Prop := e = .returned (.tuple #[.pointer none, .int .i64 1]) ∧ Below w.heap.size w w'

def TfYes (r f : Int) (xs : List Int) (v : Value) (k x n u : Int) (w : World) (e : Ending) (w' : World) : Prop :=
  ∃ R M D, e = .returned (.tuple #[.pointer (some ⟨D, 0, none⟩), .int .i64 0]) ∧ TF R M D r f xs v k x n u w' ∧ w.heap.size ≤ M ∧ Below w.heap.size w w'

theorem build_tf (R M : Nat) (W : World) : (Instr.build 96 #[(0, .pointer (some ⟨R, 0, none⟩)), (1, .map (some M))]).run Tryz.prog W = .ok (.agg #[.pointer (some ⟨R, 0, none⟩), .map (some M)]) W := by kernel_rfl

set_option maxHeartbeats 8000000 in
theorem itf_no (r f : Int) (xs : List Int) (a : Option Addr) (l c : Nat) (k x n s u : Int) (w : World) (h : Ints w a l xs) (hlc : l ≤ c) (hp : poB r f xs k x n s u = false) :
    Calls Tryz.prog 29 #[.agg #[.int .i64 f, .slice a l c, .int .i64 r], .agg #[.int .i64 k, .int .i64 x, .int .i64 n, .int .i64 s, .int .i64 u]] w (TfNo w) := by
  have H := Lib.hid h
  clear h
  have HP := Lib.hid (BP.new w f (.slice a l c) r k x n s u 28 30)
  have CA := Lib.hid (fun W => aof_any k W)
  have CK : Hid (∀ W, Hid (BP w f (.slice a l c) r k x n s u W) → Calls Tryz.prog 60 #[.agg #[.int .i64 f, .slice a l c], .int .i64 r, kV k, .int .i64 x, .int .i64 n, .int .i64 s] W fun e w' => e = .returned (.int .i64 (akE r f xs x (inB s 1 100000000 && fitB k n) n)) ∧ Below W.heap.size W w') :=
    Lib.hid (fun W hW => chka_any r f xs a l c k x n s W (H.out.on hW.out.low) hlc)
  obtain ⟨V, hV⟩ : ∃ y_, kV k = y_ := ⟨_, rfl⟩
  rw [hV] at CA CK
  clear hV
  unfold TfNo
  by_cases hE : akE r f xs x (inB s 1 100000000 && fitB k n) n = 0
  · by_cases hu : inB u 0 1000 = true
    · obtain ⟨hco, hbo, ⟨n0, n1⟩, xn⟩ := akE_iff.1 hE
      obtain ⟨ht, ⟨r0, r1⟩, x0, x1⟩ := coE_iff.1 hco
      obtain ⟨f0, f1⟩ := ht.1
      have hmm := @run_makeMap Tryz.prog
      have CLA := Lib.hid (fun W => ilast_any k x n s u W (by omega) (by omega) n0 (by omega))
      have CATT : Hid (∀ R W, Cols W R r f xs (.slice a l c) → Calls Tryz.prog 63 #[.pointer (some ⟨R, 2, none⟩), .int .i64 (x + max (n - 1) 0)] W fun e w' => e = .returned (.agg #[.int .i64 (cD r xs (x + max (n - 1) 0 - f).toNat), .int .i64 (cN r xs (x + max (n - 1) 0 - f).toNat), .int .i64 (cC r xs (x + max (n - 1) 0 - f).toNat), .int .i64 (cM r xs (x + max (n - 1) 0 - f).toNat)]) ∧ Below W.heap.size W w') :=
        Lib.hid (fun R W hW => at_cols r f xs (.slice a l c) R (x + max (n - 1) 0) W hW f0 (by omega) (by omega))
      have HL := np_last ht r0 x0 n0 (x := x) (n := n)
      obtain ⟨q0, hq0⟩ : ∃ y_, cD r xs (x + max (n - 1) 0 - f).toNat = y_ := ⟨_, rfl⟩
      obtain ⟨q1, hq1⟩ : ∃ y_, cN r xs (x + max (n - 1) 0 - f).toNat = y_ := ⟨_, rfl⟩
      obtain ⟨q2, hq2⟩ : ∃ y_, cC r xs (x + max (n - 1) 0 - f).toNat = y_ := ⟨_, rfl⟩
      obtain ⟨q3, hq3⟩ : ∃ y_, cM r xs (x + max (n - 1) 0 - f).toNat = y_ := ⟨_, rfl⟩
      rw [hq0, hq1, hq2, hq3] at CATT
      have hz : q0 = 0 := by
        by_cases hz : q0 = 0
        · exact hz
        · exfalso
          have hd : cD r xs (x - f).toNat ≠ 0 := by
            have hmo := ht.cD_mono r r0 (x - f).toNat (max (n - 1) 0).toNat
            rw [show (x - f).toNat + (max (n - 1) 0).toNat = (x + max (n - 1) 0 - f).toNat by omega, hq0] at hmo
            have h0 := (ht.cD_bd r r0 (x + max (n - 1) 0 - f).toNat).1
            rw [hq0] at h0
            omega
          have hy : poB r f xs k x n s u = true := by
            unfold poB
            rw [(HL hd).2 (by rw [hq0]; exact hz), hu, show asE r f xs k x n s = 0 from anE_iff.2 ⟨hco, hbo, ⟨n0, n1⟩, xn, hd⟩]
            rfl
          rw [hp] at hy; cases hy
      subst hz
      have hfl := fldD 0 q1 q2 q3
      have HT := Lib.hid ht
      rw [hE] at CK
      clear hE hco hbo ht HL hq0 hq1 hq2 hq3 hp
      go_enter Tryz.func29, Tryz.ntmps29
      go_wp2_with fail
      obtain ⟨W1, hW1⟩ : ∃ W1, ((w.alloc (.cells #[.int .i64 f, .slice a l c, .int .i64 r] 28)).alloc (.cells #[.int .i64 k, .int .i64 x, .int .i64 n, .int .i64 s, .int .i64 u] 30)) = W1 := ⟨_, rfl⟩
      rw [hW1] at HP ⊢
      clear hW1
      obtain ⟨b0, b1, b2, p0, p1, p2, p3, p4, -⟩ := bpS HP.out
      go_region_held3 (fun W9 => W9.cell? ⟨w.heap.size, 0, none⟩ = some (.int .i64 f) ∧ W9.cell? ⟨w.heap.size, 1, none⟩ = some (.slice a l c) ∧ W9.cell? ⟨w.heap.size, 2, none⟩ = some (.int .i64 r) ∧ W9.cell? ⟨w.heap.size + 1, 0, none⟩ = some (.int .i64 k) ∧ W9.cell? ⟨w.heap.size + 1, 1, none⟩ = some (.int .i64 x) ∧ W9.cell? ⟨w.heap.size + 1, 2, none⟩ = some (.int .i64 n) ∧ W9.cell? ⟨w.heap.size + 1, 3, none⟩ = some (.int .i64 s) ∧ W9.cell? ⟨w.heap.size + 1, 4, none⟩ = some (.int .i64 u) ∧ Hid (BP w f (.slice a l c) r k x n s u W9))
          (first
            | (go_split_ands; exact ⟨by with_reducible assumption, by with_reducible assumption, by with_reducible assumption, by with_reducible assumption, by with_reducible assumption, by with_reducible assumption, by with_reducible assumption, by with_reducible assumption, by with_reducible assumption⟩)
            | (go_split_ands; with_reducible exact bpS HP.out)
            | (go_split_ands; with_reducible exact bpS (BP.drew HP.out))
            | (go_split_ands; with_reducible exact bpS (BP.on (Hid.out (by with_reducible assumption)) hb))
            | fail)
          (first
            | (go_split_ands; go_at_call 61; ((with_reducible refine (CA.out _).mono ?_); rintro e w' ⟨rfl, rfl⟩))
            | (go_split_ands; go_at_call 60; ((with_reducible refine (CK.out _ (by with_reducible assumption)).mono ?_); rintro e w' ⟨rfl, hb⟩))
            | fail)
      all_goals
        go_split_ands
        have HQ : Hid (BP w f (.slice a l c) r k x n s u w') := by with_reducible assumption
        clear HP b0 b1 b2 p0 p1 p2 p3 p4
        have HP := HQ
        clear HQ
        obtain ⟨b0, b1, b2, p0, p1, p2, p3, p4, -⟩ := bpS HP.out
        go_wp2_with (go_at_call 53; refine (within_any _ _ _ _).mono ?_; rintro e w' ⟨rfl, rfl⟩)
        with_reducible refine (co_any r f xs a l c _ (H.out.on HP.out.low) HT.out r0 r1).mono ?_
        rintro e w3 ⟨R, G, rfl, hR, hG, hGs, hb⟩
        have HF := Lib.hid (FT.new0 (HP.out.on hb) (show Cols w3 R r f xs (.slice a l c) from ⟨G, hG, hGs⟩))
        have HP3 := Lib.hid (HP.out.on hb)
        obtain ⟨b0, b1, b2, p0, p1, p2, p3, p4, -⟩ := bpS HP3.out
        have hbu := build_tf R w3.heap.size
        clear hb hG hGs hR HP
        go_wp2_with fail
        obtain ⟨W5, hW5⟩ : ∃ y_, (w3.alloc (.map #[] 0)).alloc (.cells #[.pointer (some ⟨R, 0, none⟩), .map (some w3.heap.size)] 96) = y_ := ⟨_, rfl⟩
        rw [hW5] at HF ⊢
        clear hW5
        obtain ⟨t0, p0, p1, p2, p3, p4, -⟩ := ftS HF.out
        have CAT : Hid (∀ W, Hid (FT w f a l c r xs k x n s u R w3.heap.size (w3.heap.size + 1) W) → Calls Tryz.prog 63 #[.pointer (some ⟨R, 2, none⟩), .int .i64 (x + max (n - 1) 0)] W fun e w' => e = .returned (.agg #[.int .i64 0, .int .i64 q1, .int .i64 q2, .int .i64 q3]) ∧ Below W.heap.size W w') :=
          Lib.hid (fun W hW => CATT.out R W hW.out.tf.cols)
        obtain ⟨M, hM⟩ : ∃ y_, w3.heap.size = y_ := ⟨_, rfl⟩
        rw [hM] at HF t0 CAT hbu ⊢
        obtain ⟨D, hD⟩ : ∃ y_, M + 1 = y_ := ⟨_, rfl⟩
        rw [hD] at HF t0 CAT ⊢
        clear hM hD HP3
        go_region_held3 (fun W9 => W9.cell? ⟨D, 0, none⟩ = some (.pointer (some ⟨R, 0, none⟩)) ∧ W9.cell? ⟨w.heap.size + 1, 0, none⟩ = some (.int .i64 k) ∧ W9.cell? ⟨w.heap.size + 1, 1, none⟩ = some (.int .i64 x) ∧ W9.cell? ⟨w.heap.size + 1, 2, none⟩ = some (.int .i64 n) ∧ W9.cell? ⟨w.heap.size + 1, 3, none⟩ = some (.int .i64 s) ∧ W9.cell? ⟨w.heap.size + 1, 4, none⟩ = some (.int .i64 u) ∧ Hid (FT w f a l c r xs k x n s u R M D W9))
          (first
            | (go_split_ands; with_reducible exact ftS (Hid.out (by with_reducible assumption)))
            | (go_split_ands; with_reducible exact ftS (FT.on (Hid.out (by with_reducible assumption)) hb))
            | (go_split_ands; with_reducible exact ftS (FT.drew (Hid.out (by with_reducible assumption))))
            | fail)
          (first
            | (go_split_ands; go_at_call 64; ((with_reducible refine (CLA.out _).mono ?_); rintro e w' ⟨rfl, hb⟩))
            | (go_split_ands; go_at_call 63; ((with_reducible refine (CAT.out _ (by with_reducible assumption)).mono ?_); rintro e w' ⟨rfl, hb⟩))
            | fail)
        all_goals
          go_split_ands
          have HF9 : Hid (FT w f a l c r xs k x n s u R M D w') := by with_reducible assumption
          go_wp2_with fail
          go_ret2
          exact ⟨rfl, HF9.out.bp.low⟩
    · have hu2 : inB u 0 1000 = false := by simpa using hu
      rw [hE] at CK
      clear hE hp
      go_enter Tryz.func29, Tryz.ntmps29
      go_wp2_with fail
      obtain ⟨W1, hW1⟩ : ∃ W1, ((w.alloc (.cells #[.int .i64 f, .slice a l c, .int .i64 r] 28)).alloc (.cells #[.int .i64 k, .int .i64 x, .int .i64 n, .int .i64 s, .int .i64 u] 30)) = W1 := ⟨_, rfl⟩
      rw [hW1] at HP ⊢
      clear hW1
      obtain ⟨b0, b1, b2, p0, p1, p2, p3, p4, -⟩ := bpS HP.out
      go_region_held3 (fun W9 => W9.cell? ⟨w.heap.size, 0, none⟩ = some (.int .i64 f) ∧ W9.cell? ⟨w.heap.size, 1, none⟩ = some (.slice a l c) ∧ W9.cell? ⟨w.heap.size, 2, none⟩ = some (.int .i64 r) ∧ W9.cell? ⟨w.heap.size + 1, 0, none⟩ = some (.int .i64 k) ∧ W9.cell? ⟨w.heap.size + 1, 1, none⟩ = some (.int .i64 x) ∧ W9.cell? ⟨w.heap.size + 1, 2, none⟩ = some (.int .i64 n) ∧ W9.cell? ⟨w.heap.size + 1, 3, none⟩ = some (.int .i64 s) ∧ W9.cell? ⟨w.heap.size + 1, 4, none⟩ = some (.int .i64 u) ∧ Hid (BP w f (.slice a l c) r k x n s u W9))
          (first
            | (go_split_ands; exact ⟨by with_reducible assumption, by with_reducible assumption, by with_reducible assumption, by with_reducible assumption, by with_reducible assumption, by with_reducible assumption, by with_reducible assumption, by with_reducible assumption, by with_reducible assumption⟩)
            | (go_split_ands; with_reducible exact bpS HP.out)
            | (go_split_ands; with_reducible exact bpS (BP.drew HP.out))
            | (go_split_ands; with_reducible exact bpS (BP.on (Hid.out (by with_reducible assumption)) hb))
            | fail)
          (first
            | (go_split_ands; go_at_call 61; ((with_reducible refine (CA.out _).mono ?_); rintro e w' ⟨rfl, rfl⟩))
            | (go_split_ands; go_at_call 60; ((with_reducible refine (CK.out _ (by with_reducible assumption)).mono ?_); rintro e w' ⟨rfl, hb⟩))
            | fail)
      all_goals
        go_split_ands
        have HQ : Hid (BP w f (.slice a l c) r k x n s u w') := by with_reducible assumption
        go_wp2_with (go_at_call 53; refine (within_any _ _ _ _).mono ?_; rintro e w' ⟨rfl, rfl⟩)
        go_ret2
        exact ⟨rfl, HQ.out.low⟩
  · obtain ⟨E, hEE⟩ : ∃ y_, akE r f xs x (inB s 1 100000000 && fitB k n) n = y_ := ⟨_, rfl⟩
    rw [hEE] at CK hE
    have hne : (E != 0) = true := by simp [hE]
    clear hEE hp
    go_enter Tryz.func29, Tryz.ntmps29
    go_wp2_with fail
    obtain ⟨W1, hW1⟩ : ∃ W1, ((w.alloc (.cells #[.int .i64 f, .slice a l c, .int .i64 r] 28)).alloc (.cells #[.int .i64 k, .int .i64 x, .int .i64 n, .int .i64 s, .int .i64 u] 30)) = W1 := ⟨_, rfl⟩
    rw [hW1] at HP ⊢
    clear hW1
    obtain ⟨b0, b1, b2, p0, p1, p2, p3, p4, -⟩ := bpS HP.out
    go_region_held3 (fun W9 => W9.cell? ⟨w.heap.size, 0, none⟩ = some (.int .i64 f) ∧ W9.cell? ⟨w.heap.size, 1, none⟩ = some (.slice a l c) ∧ W9.cell? ⟨w.heap.size, 2, none⟩ = some (.int .i64 r) ∧ W9.cell? ⟨w.heap.size + 1, 0, none⟩ = some (.int .i64 k) ∧ W9.cell? ⟨w.heap.size + 1, 1, none⟩ = some (.int .i64 x) ∧ W9.cell? ⟨w.heap.size + 1, 2, none⟩ = some (.int .i64 n) ∧ W9.cell? ⟨w.heap.size + 1, 3, none⟩ = some (.int .i64 s) ∧ W9.cell? ⟨w.heap.size + 1, 4, none⟩ = some (.int .i64 u) ∧ Hid (BP w f (.slice a l c) r k x n s u W9))
        (first
          | (go_split_ands; exact ⟨by with_reducible assumption, by with_reducible assumption, by with_reducible assumption, by with_reducible assumption, by with_reducible assumption, by with_reducible assumption, by with_reducible assumption, by with_reducible assumption, by with_reducible assumption⟩)
          | (go_split_ands; with_reducible exact bpS HP.out)
          | (go_split_ands; with_reducible exact bpS (BP.drew HP.out))
          | (go_split_ands; with_reducible exact bpS (BP.on (Hid.out (by with_reducible assumption)) hb))
          | fail)
        (first
          | (go_split_ands; go_at_call 61; ((with_reducible refine (CA.out _).mono ?_); rintro e w' ⟨rfl, rfl⟩))
          | (go_split_ands; go_at_call 60; ((with_reducible refine (CK.out _ (by with_reducible assumption)).mono ?_); rintro e w' ⟨rfl, hb⟩))
          | fail)
    all_goals
      go_split_ands
      have HQ : Hid (BP w f (.slice a l c) r k x n s u w') := by with_reducible assumption
      go_wp2_with fail
      go_ret2
      exact ⟨rfl, HQ.out.low⟩

set_option maxHeartbeats 8000000 in
theorem itf_yes (r f : Int) (xs : List Int) (a : Option Addr) (l c : Nat) (k x n s u : Int) (w : World) (h : Ints w a l xs) (hlc : l ≤ c) (hp : poB r f xs k x n s u = true) :
    Calls Tryz.prog 29 #[.agg #[.int .i64 f, .slice a l c, .int .i64 r], .agg #[.int .i64 k, .int .i64 x, .int .i64 n, .int .i64 s, .int .i64 u]] w (TfYes r f xs (.slice a l c) k x n u w) := by
  have H := Lib.hid h
  clear h
  have HP := Lib.hid (BP.new w f (.slice a l c) r k x n s u 28 30)
  have CA := Lib.hid (fun W => aof_any k W)
  have CK : Hid (∀ W, Hid (BP w f (.slice a l c) r k x n s u W) → Calls Tryz.prog 60 #[.agg #[.int .i64 f, .slice a l c], .int .i64 r, kV k, .int .i64 x, .int .i64 n, .int .i64 s] W fun e w' => e = .returned (.int .i64 (akE r f xs x (inB s 1 100000000 && fitB k n) n)) ∧ Below W.heap.size W w') :=
    Lib.hid (fun W hW => chka_any r f xs a l c k x n s W (H.out.on hW.out.low) hlc)
  obtain ⟨V, hV⟩ : ∃ y_, kV k = y_ := ⟨_, rfl⟩
  rw [hV] at CA CK
  clear hV
  unfold TfYes
  obtain ⟨hz, huu, hnp⟩ := poB_iff.1 hp
  have hu : inB u 0 1000 = true := (inB_iff _ _ _).2 huu
  unfold asE at hz
  obtain ⟨hc1, hb1, hn1, hx1, hd⟩ := anE_iff.1 hz
  have hE := akE_iff.2 ⟨hc1, hb1, hn1, hx1⟩
  obtain ⟨hco, hbo, ⟨n0, n1⟩, xn⟩ := akE_iff.1 hE
  obtain ⟨ht, ⟨r0, r1⟩, x0, x1⟩ := coE_iff.1 hco
  obtain ⟨f0, f1⟩ := ht.1
  have hmm := @run_makeMap Tryz.prog
  have CLA := Lib.hid (fun W => ilast_any k x n s u W (by omega) (by omega) n0 (by omega))
  have CATT : Hid (∀ R W, Cols W R r f xs (.slice a l c) → Calls Tryz.prog 63 #[.pointer (some ⟨R, 2, none⟩), .int .i64 (x + max (n - 1) 0)] W fun e w' => e = .returned (.agg #[.int .i64 (cD r xs (x + max (n - 1) 0 - f).toNat), .int .i64 (cN r xs (x + max (n - 1) 0 - f).toNat), .int .i64 (cC r xs (x + max (n - 1) 0 - f).toNat), .int .i64 (cM r xs (x + max (n - 1) 0 - f).toNat)]) ∧ Below W.heap.size W w') :=
    Lib.hid (fun R W hW => at_cols r f xs (.slice a l c) R (x + max (n - 1) 0) W hW f0 (by omega) (by omega))
  have HL := np_last ht r0 x0 n0 (x := x) (n := n)
  obtain ⟨q0, hq0⟩ : ∃ y_, cD r xs (x + max (n - 1) 0 - f).toNat = y_ := ⟨_, rfl⟩
  obtain ⟨q1, hq1⟩ : ∃ y_, cN r xs (x + max (n - 1) 0 - f).toNat = y_ := ⟨_, rfl⟩
  obtain ⟨q2, hq2⟩ : ∃ y_, cC r xs (x + max (n - 1) 0 - f).toNat = y_ := ⟨_, rfl⟩
  obtain ⟨q3, hq3⟩ : ∃ y_, cM r xs (x + max (n - 1) 0 - f).toNat = y_ := ⟨_, rfl⟩
  rw [hq0, hq1, hq2, hq3] at CATT
  have hq : q0 ≠ 0 := by rw [← hq0]; exact (HL hd).1 (npB_yes hnp)
  have hq9 : (q0 == 0) = false := by simp [hq]
  have hfl := fldD q0 q1 q2 q3
  have HT := Lib.hid ht
  rw [hE] at CK
  clear hE hco hbo ht HL hq0 hq1 hq2 hq3 hp hz huu hnp hc1 hb1 hn1 hx1 hd hq
  go_enter Tryz.func29, Tryz.ntmps29
  go_wp2_with fail
  obtain ⟨W1, hW1⟩ : ∃ W1, ((w.alloc (.cells #[.int .i64 f, .slice a l c, .int .i64 r] 28)).alloc (.cells #[.int .i64 k, .int .i64 x, .int .i64 n, .int .i64 s, .int .i64 u] 30)) = W1 := ⟨_, rfl⟩
  rw [hW1] at HP ⊢
  clear hW1
  obtain ⟨b0, b1, b2, p0, p1, p2, p3, p4, -⟩ := bpS HP.out
  go_region_held3 (fun W9 => W9.cell? ⟨w.heap.size, 0, none⟩ = some (.int .i64 f) ∧ W9.cell? ⟨w.heap.size, 1, none⟩ = some (.slice a l c) ∧ W9.cell? ⟨w.heap.size, 2, none⟩ = some (.int .i64 r) ∧ W9.cell? ⟨w.heap.size + 1, 0, none⟩ = some (.int .i64 k) ∧ W9.cell? ⟨w.heap.size + 1, 1, none⟩ = some (.int .i64 x) ∧ W9.cell? ⟨w.heap.size + 1, 2, none⟩ = some (.int .i64 n) ∧ W9.cell? ⟨w.heap.size + 1, 3, none⟩ = some (.int .i64 s) ∧ W9.cell? ⟨w.heap.size + 1, 4, none⟩ = some (.int .i64 u) ∧ Hid (BP w f (.slice a l c) r k x n s u W9))
      (first
        | (go_split_ands; exact ⟨by with_reducible assumption, by with_reducible assumption, by with_reducible assumption, by with_reducible assumption, by with_reducible assumption, by with_reducible assumption, by with_reducible assumption, by with_reducible assumption, by with_reducible assumption⟩)
        | (go_split_ands; with_reducible exact bpS HP.out)
        | (go_split_ands; with_reducible exact bpS (BP.drew HP.out))
        | (go_split_ands; with_reducible exact bpS (BP.on (Hid.out (by with_reducible assumption)) hb))
        | fail)
      (first
        | (go_split_ands; go_at_call 61; ((with_reducible refine (CA.out _).mono ?_); rintro e w' ⟨rfl, rfl⟩))
        | (go_split_ands; go_at_call 60; ((with_reducible refine (CK.out _ (by with_reducible assumption)).mono ?_); rintro e w' ⟨rfl, hb⟩))
        | fail)
  all_goals
    go_split_ands
    have HQ : Hid (BP w f (.slice a l c) r k x n s u w') := by with_reducible assumption
    clear HP b0 b1 b2 p0 p1 p2 p3 p4
    have HP := HQ
    clear HQ
    obtain ⟨b0, b1, b2, p0, p1, p2, p3, p4, -⟩ := bpS HP.out
    go_wp2_with (go_at_call 53; refine (within_any _ _ _ _).mono ?_; rintro e w' ⟨rfl, rfl⟩)
    with_reducible refine (co_any r f xs a l c _ (H.out.on HP.out.low) HT.out r0 r1).mono ?_
    rintro e w3 ⟨R, G, rfl, hR, hG, hGs, hb⟩
    have HF := Lib.hid (FT.new0 (HP.out.on hb) (show Cols w3 R r f xs (.slice a l c) from ⟨G, hG, hGs⟩))
    have HP3 := Lib.hid (HP.out.on hb)
    obtain ⟨b0, b1, b2, p0, p1, p2, p3, p4, -⟩ := bpS HP3.out
    have hbu := build_tf R w3.heap.size
    clear hb hG hGs hR HP
    go_wp2_with fail
    obtain ⟨W5, hW5⟩ : ∃ y_, (w3.alloc (.map #[] 0)).alloc (.cells #[.pointer (some ⟨R, 0, none⟩), .map (some w3.heap.size)] 96) = y_ := ⟨_, rfl⟩
    rw [hW5] at HF ⊢
    clear hW5
    obtain ⟨t0, p0, p1, p2, p3, p4, -⟩ := ftS HF.out
    have CAT : Hid (∀ W, Hid (FT w f a l c r xs k x n s u R w3.heap.size (w3.heap.size + 1) W) → Calls Tryz.prog 63 #[.pointer (some ⟨R, 2, none⟩), .int .i64 (x + max (n - 1) 0)] W fun e w' => e = .returned (.agg #[.int .i64 q0, .int .i64 q1, .int .i64 q2, .int .i64 q3]) ∧ Below W.heap.size W w') :=
      Lib.hid (fun W hW => CATT.out R W hW.out.tf.cols)
    obtain ⟨M, hM⟩ : ∃ y_, w3.heap.size = y_ := ⟨_, rfl⟩
    rw [hM] at HF t0 CAT hbu ⊢
    obtain ⟨D, hD⟩ : ∃ y_, M + 1 = y_ := ⟨_, rfl⟩
    rw [hD] at HF t0 CAT ⊢
    clear hM hD HP3
    go_region_held3 (fun W9 => W9.cell? ⟨D, 0, none⟩ = some (.pointer (some ⟨R, 0, none⟩)) ∧ W9.cell? ⟨w.heap.size + 1, 0, none⟩ = some (.int .i64 k) ∧ W9.cell? ⟨w.heap.size + 1, 1, none⟩ = some (.int .i64 x) ∧ W9.cell? ⟨w.heap.size + 1, 2, none⟩ = some (.int .i64 n) ∧ W9.cell? ⟨w.heap.size + 1, 3, none⟩ = some (.int .i64 s) ∧ W9.cell? ⟨w.heap.size + 1, 4, none⟩ = some (.int .i64 u) ∧ Hid (FT w f a l c r xs k x n s u R M D W9))
      (first
        | (go_split_ands; with_reducible exact ftS (Hid.out (by with_reducible assumption)))
        | (go_split_ands; with_reducible exact ftS (FT.on (Hid.out (by with_reducible assumption)) hb))
        | (go_split_ands; with_reducible exact ftS (FT.drew (Hid.out (by with_reducible assumption))))
        | fail)
      (first
        | (go_split_ands; go_at_call 64; ((with_reducible refine (CLA.out _).mono ?_); rintro e w' ⟨rfl, hb⟩))
        | (go_split_ands; go_at_call 63; ((with_reducible refine (CAT.out _ (by with_reducible assumption)).mono ?_); rintro e w' ⟨rfl, hb⟩))
        | fail)
    all_goals
      go_split_ands
      have HF9 : Hid (FT w f a l c r xs k x n s u R M D w') := by with_reducible assumption
      go_wp2_with fail
      go_ret2
      exact ⟨R, M, D, rfl, HF9.out.tf, HF9.out.new, HF9.out.bp.low⟩

end Go.Proofs.YtnppkdnmkhoeeaaGreat

/- Policies: the program's IsPolicy, NetPremium, DurationOf, PremiumGain. (Written by wip/gen/poe.py.) -/
namespace Go.Proofs.YtnppkdnmkhoeeaaGreat
open Go.ChangeShapes Go.WideShapes Go.ChangeAt Go.RowKit
set_option linter.unusedVariables false
set_option maxRecDepth 100000

theorem ipol_any (r f : Int) (xs : List Int) (a : Option Addr) (l c : Nat) (k x n s u : Int) (w : World) (h : Ints w a l xs) (hlc : l ≤ c) :
    Calls Tryz.prog 17 #[.agg #[.int .i64 f, .slice a l c, .int .i64 r], .agg #[.int .i64 k, .int .i64 x, .int .i64 n, .int .i64 s, .int .i64 u]] w fun e w' => e = .returned (.bool (poB r f xs k x n s u)) ∧ Below w.heap.size w w' := by
  have H := Lib.hid h
  clear h
  have HP := Lib.hid (BP.new w f (.slice a l c) r k x n s u 28 30)
  by_cases hp : poB r f xs k x n s u = true
  · rw [hp]
    have CT : Hid (∀ W, Hid (BP w f (.slice a l c) r k x n s u W) → Calls Tryz.prog 29 #[.agg #[.int .i64 f, .slice a l c, .int .i64 r], .agg #[.int .i64 k, .int .i64 x, .int .i64 n, .int .i64 s, .int .i64 u]] W (TfYes r f xs (.slice a l c) k x n u W)) := Lib.hid (fun W hW => itf_yes r f xs a l c k x n s u W (H.out.on hW.out.low) hlc hp)
    unfold TfYes at CT
    clear hp
    go_enter Tryz.func17, Tryz.ntmps17
    go_wp2_with fail
    obtain ⟨W1, hW1⟩ : ∃ W1, ((w.alloc (.cells #[.int .i64 f, .slice a l c, .int .i64 r] 28)).alloc (.cells #[.int .i64 k, .int .i64 x, .int .i64 n, .int .i64 s, .int .i64 u] 30)) = W1 := ⟨_, rfl⟩
    rw [hW1] at HP ⊢
    clear hW1
    with_reducible refine (CT.out _ HP).mono ?_
    rintro e w1 ⟨R, M, D, rfl, htf, hnew, hb⟩
    have HM : Hid (w.heap.size ≤ M) := Lib.hid (Nat.le_trans HP.out.low.size hnew)
    have HP := Lib.hid (HP.out.on hb)
    have HT := Lib.hid htf
    obtain ⟨b0, b1, b2, p0, p1, p2, p3, p4, -⟩ := bpS HP.out
    clear hb htf hnew
    go_wp2_with fail
    go_ret
    exact ⟨rfl, HP.out.low⟩
  · have hp : poB r f xs k x n s u = false := by simpa using hp
    rw [hp]
    have CT : Hid (∀ W, Hid (BP w f (.slice a l c) r k x n s u W) → Calls Tryz.prog 29 #[.agg #[.int .i64 f, .slice a l c, .int .i64 r], .agg #[.int .i64 k, .int .i64 x, .int .i64 n, .int .i64 s, .int .i64 u]] W (TfNo W)) := Lib.hid (fun W hW => itf_no r f xs a l c k x n s u W (H.out.on hW.out.low) hlc hp)
    unfold TfNo at CT
    clear hp
    go_enter Tryz.func17, Tryz.ntmps17
    go_wp2_with fail
    obtain ⟨W1, hW1⟩ : ∃ W1, ((w.alloc (.cells #[.int .i64 f, .slice a l c, .int .i64 r] 28)).alloc (.cells #[.int .i64 k, .int .i64 x, .int .i64 n, .int .i64 s, .int .i64 u] 30)) = W1 := ⟨_, rfl⟩
    rw [hW1] at HP ⊢
    clear hW1
    with_reducible refine (CT.out _ HP).mono ?_
    rintro e w1 ⟨rfl, hb⟩
    have HP := Lib.hid (HP.out.on hb)
    obtain ⟨b0, b1, b2, p0, p1, p2, p3, p4, -⟩ := bpS HP.out
    clear hb
    go_wp2_with fail
    go_ret
    exact ⟨rfl, HP.out.low⟩

set_option maxHeartbeats 1000000 in
theorem inp_any (r f : Int) (xs : List Int) (a : Option Addr) (l c : Nat) (k x n s u : Int) (w : World) (h : Ints w a l xs) (hlc : l ≤ c) :
    Calls Tryz.prog 10 #[.agg #[.int .i64 f, .slice a l c, .int .i64 r], .agg #[.int .i64 k, .int .i64 x, .int .i64 n, .int .i64 s, .int .i64 u]] w (IIPost (netV r f xs k x n s u) (poE r f xs k x n s u) w) := by
  have H := Lib.hid h
  clear h
  have HP := Lib.hid (BP.new w f (.slice a l c) r k x n s u 28 30)
  unfold IIPost
  by_cases hp : poB r f xs k x n s u = true
  · have HV : Hid (netV r f xs k x n s u = netN r f xs k x n s) := Lib.hid (by unfold netV; rw [if_pos hp])
    rw [HV.out, poE_yes hp]
    have CT : Hid (∀ W, Hid (BP w f (.slice a l c) r k x n s u W) → Calls Tryz.prog 29 #[.agg #[.int .i64 f, .slice a l c, .int .i64 r], .agg #[.int .i64 k, .int .i64 x, .int .i64 n, .int .i64 s, .int .i64 u]] W (TfYes r f xs (.slice a l c) k x n u W)) := Lib.hid (fun W hW => itf_yes r f xs a l c k x n s u W (H.out.on hW.out.low) hlc hp)
    unfold TfYes at CT
    have CN : Hid (∀ R M D W, TF R M D r f xs (.slice a l c) k x n u W → Calls Tryz.prog 37 #[.pointer (some ⟨D, 0, none⟩), .agg #[.int .i64 k, .int .i64 x, .int .i64 n, .int .i64 s, .int .i64 u]] W (TPost (netN r f xs k x n s) R M D r f xs (.slice a l c) k x n u W)) :=
      Lib.hid (fun R M D W hW => inet_any R M D r f xs (.slice a l c) k x n s u W hW hp)
    obtain ⟨Z, hZ⟩ : ∃ y_, netN r f xs k x n s = y_ := ⟨_, rfl⟩
    rw [hZ] at CN ⊢
    unfold TPost at CN
    clear hp hZ HV
    go_enter Tryz.func10, Tryz.ntmps10
    go_wp2_with fail
    obtain ⟨W1, hW1⟩ : ∃ W1, ((w.alloc (.cells #[.int .i64 f, .slice a l c, .int .i64 r] 28)).alloc (.cells #[.int .i64 k, .int .i64 x, .int .i64 n, .int .i64 s, .int .i64 u] 30)) = W1 := ⟨_, rfl⟩
    rw [hW1] at HP ⊢
    clear hW1
    with_reducible refine (CT.out _ HP).mono ?_
    rintro e w1 ⟨R, M, D, rfl, htf, hnew, hb⟩
    have HM : Hid (w.heap.size ≤ M) := Lib.hid (Nat.le_trans HP.out.low.size hnew)
    have HP := Lib.hid (HP.out.on hb)
    have HT := Lib.hid htf
    obtain ⟨b0, b1, b2, p0, p1, p2, p3, p4, -⟩ := bpS HP.out
    clear hb htf hnew
    go_wp2_with fail
    with_reducible refine (CN.out R M D _ HT.out).mono ?_
    rintro e w2 ⟨rfl, -, hbm⟩
    have HB := Lib.hid (HP.out.low.trans (hbm.below HM.out HP.out.low.size))
    clear hbm
    go_wp2_with fail
    go_ret2
    exact ⟨rfl, HB.out⟩
  · have hp : poB r f xs k x n s u = false := by simpa using hp
    have HV : Hid (netV r f xs k x n s u = 0) := Lib.hid (by unfold netV; rw [hp]; rfl)
    rw [poE_no hp]
    have CT : Hid (∀ W, Hid (BP w f (.slice a l c) r k x n s u W) → Calls Tryz.prog 29 #[.agg #[.int .i64 f, .slice a l c, .int .i64 r], .agg #[.int .i64 k, .int .i64 x, .int .i64 n, .int .i64 s, .int .i64 u]] W (TfNo W)) := Lib.hid (fun W hW => itf_no r f xs a l c k x n s u W (H.out.on hW.out.low) hlc hp)
    unfold TfNo at CT
    clear hp
    go_enter Tryz.func10, Tryz.ntmps10
    go_wp2_with fail
    obtain ⟨W1, hW1⟩ : ∃ W1, ((w.alloc (.cells #[.int .i64 f, .slice a l c, .int .i64 r] 28)).alloc (.cells #[.int .i64 k, .int .i64 x, .int .i64 n, .int .i64 s, .int .i64 u] 30)) = W1 := ⟨_, rfl⟩
    rw [hW1] at HP ⊢
    clear hW1
    with_reducible refine (CT.out _ HP).mono ?_
    rintro e w1 ⟨rfl, hb⟩
    have HP := Lib.hid (HP.out.on hb)
    obtain ⟨b0, b1, b2, p0, p1, p2, p3, p4, -⟩ := bpS HP.out
    clear hb
    go_wp2_with fail
    go_ret2
    exact ⟨ret_ii HV.out.symm rfl, HP.out.low⟩

set_option maxHeartbeats 1000000 in
theorem ido_any (r f : Int) (xs : List Int) (a : Option Addr) (l c : Nat) (k x n s u : Int) (w : World) (h : Ints w a l xs) (hlc : l ≤ c) :
    Calls Tryz.prog 14 #[.agg #[.int .i64 f, .slice a l c, .int .i64 r], .agg #[.int .i64 k, .int .i64 x, .int .i64 n, .int .i64 s, .int .i64 u]] w (IIPost (durV r f xs k x n s u) (poE r f xs k x n s u) w) := by
  have hl := h.len
  have H := Lib.hid h
  clear h
  have HP := Lib.hid (BP.new w f (.slice a l c) r k x n s u 28 30)
  unfold IIPost
  by_cases hp : poB r f xs k x n s u = true
  · have HV : Hid (durV r f xs k x n s u = durN f xs k x n) := Lib.hid (by unfold durV; rw [if_pos hp])
    rw [HV.out, poE_yes hp]
    have CT : Hid (∀ W, Hid (BP w f (.slice a l c) r k x n s u W) → Calls Tryz.prog 29 #[.agg #[.int .i64 f, .slice a l c, .int .i64 r], .agg #[.int .i64 k, .int .i64 x, .int .i64 n, .int .i64 s, .int .i64 u]] W (TfYes r f xs (.slice a l c) k x n u W)) := Lib.hid (fun W hW => itf_yes r f xs a l c k x n s u W (H.out.on hW.out.low) hlc hp)
    unfold TfYes at CT
    have CN : Hid (∀ R M D W, TF R M D r f xs (.slice a l c) k x n u W → Calls Tryz.prog 40 #[.pointer (some ⟨D, 0, none⟩), .agg #[.int .i64 k, .int .i64 x, .int .i64 n, .int .i64 s, .int .i64 u]] W fun e w' => e = .returned (.int .i64 (durN f xs k x n)) ∧ Below W.heap.size W w') :=
      Lib.hid (fun R M D W hW => idur_any R M D r f xs a l c k x n s u W hW hp hl)
    obtain ⟨Z, hZ⟩ : ∃ y_, durN f xs k x n = y_ := ⟨_, rfl⟩
    rw [hZ] at CN ⊢
    clear hp hZ HV hl
    go_enter Tryz.func14, Tryz.ntmps14
    go_wp2_with fail
    obtain ⟨W1, hW1⟩ : ∃ W1, ((w.alloc (.cells #[.int .i64 f, .slice a l c, .int .i64 r] 28)).alloc (.cells #[.int .i64 k, .int .i64 x, .int .i64 n, .int .i64 s, .int .i64 u] 30)) = W1 := ⟨_, rfl⟩
    rw [hW1] at HP ⊢
    clear hW1
    with_reducible refine (CT.out _ HP).mono ?_
    rintro e w1 ⟨R, M, D, rfl, htf, hnew, hb⟩
    have HM : Hid (w.heap.size ≤ M) := Lib.hid (Nat.le_trans HP.out.low.size hnew)
    have HP := Lib.hid (HP.out.on hb)
    have HT := Lib.hid htf
    obtain ⟨b0, b1, b2, p0, p1, p2, p3, p4, -⟩ := bpS HP.out
    clear hb htf hnew
    go_wp2_with fail
    with_reducible refine (CN.out R M D _ HT.out).mono ?_
    rintro e w2 ⟨rfl, hb⟩
    have HB := Lib.hid (HP.out.on hb).low
    clear hb
    go_wp2_with fail
    go_ret2
    exact ⟨rfl, HB.out⟩
  · have hp : poB r f xs k x n s u = false := by simpa using hp
    have HV : Hid (durV r f xs k x n s u = 0) := Lib.hid (by unfold durV; rw [hp]; rfl)
    rw [poE_no hp]
    have CT : Hid (∀ W, Hid (BP w f (.slice a l c) r k x n s u W) → Calls Tryz.prog 29 #[.agg #[.int .i64 f, .slice a l c, .int .i64 r], .agg #[.int .i64 k, .int .i64 x, .int .i64 n, .int .i64 s, .int .i64 u]] W (TfNo W)) := Lib.hid (fun W hW => itf_no r f xs a l c k x n s u W (H.out.on hW.out.low) hlc hp)
    unfold TfNo at CT
    clear hp
    go_enter Tryz.func14, Tryz.ntmps14
    go_wp2_with fail
    obtain ⟨W1, hW1⟩ : ∃ W1, ((w.alloc (.cells #[.int .i64 f, .slice a l c, .int .i64 r] 28)).alloc (.cells #[.int .i64 k, .int .i64 x, .int .i64 n, .int .i64 s, .int .i64 u] 30)) = W1 := ⟨_, rfl⟩
    rw [hW1] at HP ⊢
    clear hW1
    with_reducible refine (CT.out _ HP).mono ?_
    rintro e w1 ⟨rfl, hb⟩
    have HP := Lib.hid (HP.out.on hb)
    obtain ⟨b0, b1, b2, p0, p1, p2, p3, p4, -⟩ := bpS HP.out
    clear hb
    go_wp2_with fail
    go_ret2
    exact ⟨ret_ii HV.out.symm rfl, HP.out.low⟩

set_option maxHeartbeats 1000000 in
theorem ipg_any (r f : Int) (xs : List Int) (a : Option Addr) (l c : Nat) (k x n s u : Int) (w : World) (h : Ints w a l xs) (hlc : l ≤ c) :
    Calls Tryz.prog 8 #[.agg #[.int .i64 f, .slice a l c, .int .i64 r], .agg #[.int .i64 k, .int .i64 x, .int .i64 n, .int .i64 s, .int .i64 u]] w (IIIPost (gnQV r f xs k x n s u) (gnRV r f xs k x n s u) (poE r f xs k x n s u) w) := by
  have H := Lib.hid h
  clear h
  have HP := Lib.hid (BP.new w f (.slice a l c) r k x n s u 28 30)
  unfold IIIPost
  by_cases hp : poB r f xs k x n s u = true
  · have HV : Hid (gnQV r f xs k x n s u = gnQ r f xs k x n s ∧ gnRV r f xs k x n s u = gnR r f xs k x n s) := Lib.hid (by unfold gnQV gnRV; rw [if_pos hp, if_pos hp]; exact ⟨rfl, rfl⟩)
    rw [poE_yes hp]
    have CT : Hid (∀ W, Hid (BP w f (.slice a l c) r k x n s u W) → Calls Tryz.prog 29 #[.agg #[.int .i64 f, .slice a l c, .int .i64 r], .agg #[.int .i64 k, .int .i64 x, .int .i64 n, .int .i64 s, .int .i64 u]] W (TfYes r f xs (.slice a l c) k x n u W)) := Lib.hid (fun W hW => itf_yes r f xs a l c k x n s u W (H.out.on hW.out.low) hlc hp)
    unfold TfYes at CT
    have CN : Hid (∀ R M D W, TF R M D r f xs (.slice a l c) k x n u W → Calls Tryz.prog 30 #[.pointer (some ⟨D, 0, none⟩), .agg #[.int .i64 k, .int .i64 x, .int .i64 n, .int .i64 s, .int .i64 u]] W (GPost (netN r f xs k x n s * asB r f xs k x n - s * asT r f xs k x n) (cD r xs (x - f).toNat) R M D r f xs (.slice a l c) k x n u W)) :=
      Lib.hid (fun R M D W hW => igain_any R M D r f xs (.slice a l c) k x n s u W hW hp)
    unfold gnQ gnR at HV
    obtain ⟨t, d, b, p, e1, e2, e3, e4, -, -, d0, d1, -, b1, -, -, g0, g1, -, -⟩ := po_nums hp
    rw [e1, e2, e3, e4] at HV CN
    obtain ⟨A, hA⟩ : ∃ y_, p * b - s * t = y_ := ⟨_, rfl⟩
    rw [hA] at HV CN
    have a0 : 0 ≤ A := by omega
    have a1 : A ≤ 152000000000000000 := by omega
    have r1 : A.tdiv d = A / d := Int.tdiv_eq_ediv_of_nonneg a0
    have r2 : A.tmod d = A % d := Int.tmod_eq_emod_of_nonneg a0
    have r3 : IntKind.i64.wrap (A / d) = A / d := IntWalk.i64_in _ (by
      have := Int.ediv_nonneg a0 (show 0 ≤ d by omega)
      have := Int.ediv_le_self d a0
      omega)
    have hdz : ¬ d = 0 := by omega
    have r4 : IntKind.i64.wrap (A % d) = A % d := IntWalk.i64_in _ (by
      have := Int.emod_nonneg A hdz
      have := Int.emod_lt_of_pos A (show 0 < d by omega)
      omega)
    have HVV := Lib.hid (show A / d = gnQV r f xs k x n s u ∧ A % d = gnRV r f xs k x n s u from ⟨HV.out.1.symm, HV.out.2.symm⟩)
    unfold GPost at CN
    clear hp hA HV e1 e2 e3 e4 g0 g1 b1
    go_enter Tryz.func8, Tryz.ntmps8
    go_wp2_with fail
    obtain ⟨W1, hW1⟩ : ∃ W1, ((w.alloc (.cells #[.int .i64 f, .slice a l c, .int .i64 r] 28)).alloc (.cells #[.int .i64 k, .int .i64 x, .int .i64 n, .int .i64 s, .int .i64 u] 30)) = W1 := ⟨_, rfl⟩
    rw [hW1] at HP ⊢
    clear hW1
    with_reducible refine (CT.out _ HP).mono ?_
    rintro e w1 ⟨R, M, D, rfl, htf, hnew, hb⟩
    have HM : Hid (w.heap.size ≤ M) := Lib.hid (Nat.le_trans HP.out.low.size hnew)
    have HP := Lib.hid (HP.out.on hb)
    have HT := Lib.hid htf
    obtain ⟨b0, b1, b2, p0, p1, p2, p3, p4, -⟩ := bpS HP.out
    clear hb htf hnew
    go_wp2_with fail
    with_reducible refine (CN.out R M D _ HT.out).mono ?_
    rintro e w2 ⟨rfl, -, hbm⟩
    have HB := Lib.hid (HP.out.low.trans (hbm.below HM.out HP.out.low.size))
    clear hbm b0 b1 b2 p0 p1 p2 p3 p4
    go_wp2_with fail
    go_region
    go_wp2_with fail
    go_ret3
    exact ⟨ret_3p HVV.out.1 HVV.out.2 rfl, HB.out.drew⟩
  · have hp : poB r f xs k x n s u = false := by simpa using hp
    have HV : Hid (gnQV r f xs k x n s u = 0 ∧ gnRV r f xs k x n s u = 0) := Lib.hid (by unfold gnQV gnRV; rw [hp]; exact ⟨rfl, rfl⟩)
    rw [poE_no hp]
    have CT : Hid (∀ W, Hid (BP w f (.slice a l c) r k x n s u W) → Calls Tryz.prog 29 #[.agg #[.int .i64 f, .slice a l c, .int .i64 r], .agg #[.int .i64 k, .int .i64 x, .int .i64 n, .int .i64 s, .int .i64 u]] W (TfNo W)) := Lib.hid (fun W hW => itf_no r f xs a l c k x n s u W (H.out.on hW.out.low) hlc hp)
    unfold TfNo at CT
    clear hp
    go_enter Tryz.func8, Tryz.ntmps8
    go_wp2_with fail
    obtain ⟨W1, hW1⟩ : ∃ W1, ((w.alloc (.cells #[.int .i64 f, .slice a l c, .int .i64 r] 28)).alloc (.cells #[.int .i64 k, .int .i64 x, .int .i64 n, .int .i64 s, .int .i64 u] 30)) = W1 := ⟨_, rfl⟩
    rw [hW1] at HP ⊢
    clear hW1
    with_reducible refine (CT.out _ HP).mono ?_
    rintro e w1 ⟨rfl, hb⟩
    have HP := Lib.hid (HP.out.on hb)
    obtain ⟨b0, b1, b2, p0, p1, p2, p3, p4, -⟩ := bpS HP.out
    clear hb
    go_wp2_with fail
    go_ret3
    exact ⟨ret_3p HV.out.1.symm HV.out.2.symm rfl, HP.out.low⟩

end Go.Proofs.YtnppkdnmkhoeeaaGreat
