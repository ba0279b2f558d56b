/- The program's table with its columns. -/
import Derived.Test.YtmcagpcldjopjaaComL
import Derived.Test.YtmcagpcldjopjaaColA
import Derived.Test.YtmcagpcldjopjaaDraw
import Derived.Deep.RegionHeld3
import Derived.Deep.Cut
import Derived.Deep.CutRange
import Derived.Deep.CutBlock
namespace Go.Proofs.Ytmcagpcldjopjaa
open Go.ChangeShapes Go.WideShapes Go.ChangeAt Go.RowKit
set_option linter.unusedVariables false
set_option maxRecDepth 100000

set_option maxHeartbeats 6000000 in
theorem co_any (r f : Int) (xs : List Int) (a : Option Addr) (l c : Nat) (w : World) (h : Ints w a l xs) (ht : LTab f xs) (r0 : 0 ≤ r) (r1 : r ≤ 200) :
    Calls Try.prog 71 #[.agg #[.int .i64 f, .slice a l c], .int .i64 r] w (CoPost w f r xs (.slice a l c)) := by
  have H := Lib.hid h
  have HT := Lib.hid ht
  obtain ⟨f0, f1⟩ := ht.1
  have hst := store_com f a l c (w.alloc (.cells #[.int .i64 f, .slice a l c] 26))
  rw [World.size_alloc] at hst
  have HB0 : Hid (Below w.heap.size w ((w.alloc (.cells #[.int .i64 f, .slice a l c] 26)).alloc (.cells (ccells f (.slice a l c) zG) 84))) := Lib.hid ((box_b _ _).alloc (by simp) _)
  have HR0 : Hid (CBX ((w.alloc (.cells #[.int .i64 f, .slice a l c] 26)).alloc (.cells (ccells f (.slice a l c) zG) 84)) (w.heap.size + 1) f (.slice a l c) zG) := Lib.hid (by have := cb_new f (.slice a l c) (w.alloc (.cells #[.int .i64 f, .slice a l c] 26)); rw [World.size_alloc] at this; exact this)
  have HX0 : Hid (((w.alloc (.cells #[.int .i64 f, .slice a l c] 26)).alloc (.cells (ccells f (.slice a l c) zG) 84)).cell? ⟨w.heap.size, 0, none⟩ = some (.int .i64 f)) := Lib.hid (by go_simp)
  clear h ht
  go_enter Try.func71, Try.ntmps71
  go_wp2_with fail
  obtain ⟨W1, hW1⟩ : ∃ W, (w.alloc (.cells #[.int .i64 f, .slice a l c] 26)).alloc (.cells (ccells f (.slice a l c) zG) 84) = W := ⟨_, rfl⟩
  have hs1 : w.heap.size + 2 ≤ W1.heap.size := by rw [← hW1]; simp
  rw [hW1] at HB0 HR0 HX0 ⊢
  clear hW1 hst
  with_reducible refine (byAge_r f xs _ _ _ _ (H.out.on HB0.out) HT.out).mono ?_
  rintro e w2 ⟨Zs, rfl, hz, hb⟩
  have hs2 := hb.size
  have HZ := Lib.hid hz
  have HB2 := Lib.hid (HB0.out.trans (hb.mono HB0.out.size))
  have HR2 : Hid (CBX w2 (w.heap.size + 1) f (.slice a l c) zG) := Lib.hid (HR0.out.same (hb.block _ (by omega)))
  have HX2 := Lib.hid (keep2 hb HX0.out)
  clear hz hb HB0 HR0 HX0
  have hst := store_dsc r (w2.alloc (.cells Zs 54))
  rw [World.size_alloc] at hst
  go_wp2_with (refine HZ.out.laid rfl (.tmp 6) (.tmp 15) rfl rfl rfl ?_)
  have hf := HT.out.fit
  have hco : CO w f r xs (.slice a l c) Zs (w.heap.size + 1) w2.heap.size (w2.heap.size + 1) (w2.heap.size + 1 + 1) 151 (((w2.alloc (.cells Zs 54)).alloc (.cells (dcells r 0 0 z121) 112)).alloc (.cells #[.int .i64 0, .int .i64 0, .int .i64 0, .int .i64 0] 77)) := by
    have b3 : Below w2.heap.size w2 (((w2.alloc (.cells Zs 54)).alloc (.cells (dcells r 0 0 z121) 112)).alloc (.cells #[.int .i64 0, .int .i64 0, .int .i64 0, .int .i64 0] 77)) := (((box_b _ _).alloc (by simp) _).alloc (by simp; omega) _)
    refine ⟨keep2 b3 HX2.out, ?_, ?_, ?_, ⟨zG, HR2.out.same (b3.block _ (by omega)), fun m h1 h2 => by omega⟩, HB2.out.trans (b3.mono (by omega))⟩
    · rw [Below.heap_alloc _ _ _ (by simp; omega), Below.heap_alloc _ _ _ (by simp)]
      exact heap_alloc_new _ _
    · have := db_new r (w2.alloc (.cells Zs 54))
      rw [World.size_alloc] at this
      exact this.same (Below.heap_alloc _ _ _ (by simp))
    · have := HT.out.cD_far r (151 - f.toNat) (by omega)
      have e2 := HT.out.cN_far r (151 - f.toNat) (by omega)
      have e3 := HT.out.cC_far r (151 - f.toNat) (by omega)
      have e4 := HT.out.cM_far r (151 - f.toNat) (by omega)
      rw [this, e2, e3, e4]
      unfold Q4
      have := heap_alloc_new ((w2.alloc (.cells Zs 54)).alloc (.cells (dcells r 0 0 z121) 112)) (.cells #[.int .i64 0, .int .i64 0, .int .i64 0, .int .i64 0] 77)
      rw [World.size_alloc, World.size_alloc] at this
      exact this
  have HCO := Lib.hid hco
  clear hco hst HX2 HR2
  go_loopw [9] (fun i wr => ∃ n : Nat, f.toNat ≤ n ∧ n ≤ 151 ∧ i = .int .i64 ((n : Int) - 1) ∧ Hid (CO w f r xs (.slice a l c) Zs (w.heap.size + 1) w2.heap.size (w2.heap.size + 1) (w2.heap.size + 1 + 1) n wr)) (fun i _ => (intOf i + 1).toNat)
  case atStart => exact ⟨151, by omega, by omega, by go_num, HCO⟩
  case round =>
    clear HCO
    obtain ⟨n, n0, n1, rfl, HC⟩ := hrel
    by_cases hlt : f.toNat < n
    · obtain ⟨m, rfl⟩ : ∃ m, n = m + 1 := ⟨n - 1, by omega⟩
      have ei : ((m + 1 : Nat) : Int) - 1 = (m : Int) := by omega
      rw [ei]
      obtain ⟨k, hk⟩ : ∃ k, m - f.toNat = k := ⟨_, rfl⟩
      have hge : f ≤ (m : Int) := by omega
      have hc0 := HC.out.box
      obtain ⟨u, hu⟩ : ∃ u, (byL f xs).getD m 0 = u := ⟨_, rfl⟩
      obtain ⟨v, hv⟩ : ∃ v, (byL f xs).getD (m + 1) 0 = v := ⟨_, rfl⟩
      have hx0 := HZ.out.read HC.out.lives m (by omega) u hu
      have hx1 := HZ.out.read HC.out.lives (m + 1) (by omega) v hv
      rw [byL_get _ _ _ (by omega), hk] at hu
      rw [byL_get _ _ _ (by omega), show m + 1 - f.toNat = k + 1 by omega] at hv
      have u0 := HT.out.nonneg k
      have u1 := HT.out.le k
      have v0 := HT.out.nonneg (k + 1)
      have vu := HT.out.step k
      rw [hu] at u0 u1 vu
      rw [hv] at v0 vu
      have hm0 : (0 : Int) ≤ (m : Int) := by omega
      have hm1 : (m : Int) < 152 := by omega
      have hm2 : (0 : Int) ≤ (m : Int) + 1 := by omega
      have hm3 : (m : Int) + 1 < 152 := by omega
      have q1 : IntKind.i64.wrap ((m : Int) + 1) = (m : Int) + 1 := IntWalk.i64_in _ (by omega)
      have q2 : IntKind.i64.wrap (u - v) = u - v := IntWalk.i64_in _ (by omega)
      have q3 : IntKind.i64.wrap ((m : Int) - f) = (k : Int) := by rw [IntWalk.i64_in _ (by omega)]; omega
      have q4 : IntKind.i64.wrap ((k : Int) + 1) = (k : Int) + 1 := IntWalk.i64_in _ (by omega)
      obtain ⟨A, hA⟩ : ∃ A, cD r xs k = A := ⟨_, rfl⟩
      obtain ⟨C, hC⟩ : ∃ C, cC r xs k = C := ⟨_, rfl⟩
      have C1 : Hid (∀ W, Hid (DB W (w2.heap.size + 1) r ∧ But (w2.heap.size + 1) wr W) → Calls Try.prog 93 #[.pointer (some ⟨w2.heap.size + 1, 0, none⟩), .int .i64 u, .int .i64 k] W (AfterPost (w2.heap.size + 1) r A W)) :=
        Lib.hid (fun W hW => by
          have := times_any (w2.heap.size + 1) r u k W hW.out.1 r0 r1 u0 u1
          rw [show (if k ≤ 120 then u * disc r k else 0) = A by
            rw [← hA, ← hu]; split
            · rfl
            · exact (HT.out.cD_far r k (by have := HT.out.short; omega)).symm] at this
          exact this)
      have C2 : Hid (∀ W, Hid (DB W (w2.heap.size + 1) r ∧ But (w2.heap.size + 1) wr W) → Calls Try.prog 93 #[.pointer (some ⟨w2.heap.size + 1, 0, none⟩), .int .i64 (u - v), .int .i64 ((k : Int) + 1)] W (AfterPost (w2.heap.size + 1) r C W)) :=
        Lib.hid (fun W hW => by
          have := times_any (w2.heap.size + 1) r (u - v) (k + 1) W hW.out.1 r0 r1 (by omega) (by omega)
          rw [show ((k + 1 : Nat) : Int) = (k : Int) + 1 by omega] at this
          rw [show (if k + 1 ≤ 120 then (u - v) * disc r (k + 1) else 0) = C by
            rw [← hC, ← hu, ← hv]; split
            · rfl
            · exact (HT.out.cC_far r k (by have := HT.out.short; omega)).symm] at this
          exact this)
      clear hu hv
      have hLw : w2.heap.size < wr.heap.size := by have := HC.out.disc.lt; omega
      have hLD : w2.heap.size ≠ w2.heap.size + 1 := by omega
      go_upto_region 9 with fail
      go_cut [11] from 29 to 45 (fun z wx => ∃ N : Nat, z = .pointer (some ⟨N, 0, none⟩) ∧ Hid (NW (w2.heap.size + 1) r wr N A C wx))
      case first =>
        go_region_held3 (fun W' => W'.cell? ⟨w2.heap.size, m, none⟩ = some (.int .i64 u) ∧ W'.cell? ⟨w2.heap.size, m + 1, none⟩ = some (.int .i64 v) ∧ Hid (DB W' (w2.heap.size + 1) r ∧ But (w2.heap.size + 1) wr W'))
          (first
            | (go_split_ands; exact ⟨by with_reducible assumption, by with_reducible assumption, by with_reducible assumption⟩)
            | (go_split_ands; with_reducible exact keep_set (by assumption) (by assumption) (by assumption) (by assumption) hLw)
            | (go_split_ands; with_reducible exact keep_call (by assumption) (by assumption) (by assumption) hdb ho hLD)
            | (go_split_ands; with_reducible exact keep_alloc (by assumption) (by assumption) (by assumption) _)
            | (go_split_ands; with_reducible exact keep_again (by assumption) (by assumption) (by assumption) hdb ho hLD _)
            | (go_split_ands; exact ⟨hx0, hx1, Lib.hid ⟨HC.out.disc, (But.refl _ _).drew⟩⟩)
            | (go_split_ands; with_reducible exact keep_drew hx0 hx1 HC.out.disc _))
          (first
            | (go_split_ands; go_at_call 93; ((with_reducible refine (C1.out _ (by with_reducible assumption)).mono ?_); rintro e w' ⟨rfl, hdb, ho⟩; (first | (have hF := new4d (wr := wr) (by with_reducible assumption) ho (Nat.le_refl _); obtain ⟨n0, n1, n2, n3, m0, m1, m2, m3, q⟩ := hF) | (have hF := new4 (wr := wr) (by with_reducible assumption) ho (by first | exact Nat.le_refl _ | exact Nat.le_of_eq (Hid.out HSZ).symm); obtain ⟨n0, n1, n2, n3, m0, m1, m2, m3, q⟩ := hF) | (have hF := old4 (wr := wr) (by with_reducible assumption) ho (by with_reducible assumption); obtain ⟨n0, n1, n2, n3, m0, m1, m2, m3, q⟩ := hF) | skip); have HSZ : Hid (w'.heap.size = _) := Lib.hid ho.size))
            | (go_split_ands; go_at_call 93; ((with_reducible refine (C2.out _ (by with_reducible assumption)).mono ?_); rintro e w' ⟨rfl, hdb, ho⟩; (first | (have hF := new4d (wr := wr) (by with_reducible assumption) ho (Nat.le_refl _); obtain ⟨n0, n1, n2, n3, m0, m1, m2, m3, q⟩ := hF) | (have hF := new4 (wr := wr) (by with_reducible assumption) ho (by first | exact Nat.le_refl _ | exact Nat.le_of_eq (Hid.out HSZ).symm); obtain ⟨n0, n1, n2, n3, m0, m1, m2, m3, q⟩ := hF) | (have hF := old4 (wr := wr) (by with_reducible assumption) ho (by with_reducible assumption); obtain ⟨n0, n1, n2, n3, m0, m1, m2, m3, q⟩ := hF) | skip); have HSZ : Hid (w'.heap.size = _) := Lib.hid ho.size)))
        all_goals
          go_split_ands
          go_wp2_with fail
          go_meet
          case rel =>
            first
              | exact ⟨_, rfl, Lib.hid (nw_allocx A C hdb (by with_reducible assumption) ho)⟩
              | exact ⟨_, rfl, Lib.hid (nw_setx A C (by with_reducible assumption) q)⟩
      case rest =>
        obtain ⟨N, rfl, HN⟩ := hcut
        obtain ⟨B, hB⟩ : ∃ A, cN r xs k = A := ⟨_, rfl⟩
        obtain ⟨E, hE⟩ : ∃ A, cM r xs k = A := ⟨_, rfl⟩
        obtain ⟨lB, hlB⟩ : ∃ A, cN r xs (k + 1) = A := ⟨_, rfl⟩
        obtain ⟨lE, hlE⟩ : ∃ A, cM r xs (k + 1) = A := ⟨_, rfl⟩
        have s1 := HT.out.cN_step r k
        have s2 := HT.out.cM_step r k
        rw [hB, hlB, hA] at s1
        rw [hE, hlE, hC] at s2
        have bA := HT.out.cD_bd r r0 k
        have bC := HT.out.cC_bd r r0 k
        have bB := HT.out.cN_bd r r0 (k + 1)
        have bE := HT.out.cM_bd r r0 (k + 1)
        rw [hA] at bA
        rw [hC] at bC
        rw [hlB] at bB
        rw [hlE] at bE
        have p1 : IntKind.i64.wrap (lB + A) = B := by rw [IntWalk.i64_in _ (by omega)]; exact s1.symm
        have p2 : IntKind.i64.wrap (lE + C) = E := by rw [IntWalk.i64_in _ (by omega)]; exact s2.symm
        have hnew := HN.out.new
        have hTw := HC.out.later.lt
        have htl := HC.out.later.same (w' := wc) (HN.out.but.block _ hTw (by omega))
        rw [show m + 1 - f.toNat = k + 1 by omega, hlB, hlE] at htl
        obtain ⟨G, hG, hGs⟩ := HC.out.res
        have hGc := hG.same (w' := wc) (HN.out.but.block _ (by omega) (by omega))
        obtain ⟨a0, a1, a2, a3⟩ := HN.out.now.cell
        have am1 := HN.out.now.free 1
        have am3 := HN.out.now.free 3
        obtain ⟨t0, t1, t2, t3⟩ := htl.cell
        have tm0 := htl.free 0
        have tm1 := htl.free 1
        have tm2 := htl.free 2
        have tm3 := htl.free 3
        have y0 := hGc.at (m * 4) (by omega) _ rfl (2 + m * 4) (by omega)
        have y1 := hGc.at (m * 4 + 1) (by omega) _ rfl (2 + m * 4 + 1) (by omega)
        have y2 := hGc.at (m * 4 + 2) (by omega) _ rfl (2 + m * 4 + 2) (by omega)
        have y3 := hGc.at (m * 4 + 3) (by omega) _ rfl (2 + m * 4 + 3) (by omega)
        have z0 := hGc.free (2 + m * 4)
        have z1 := hGc.free (2 + m * 4 + 1)
        have z2 := hGc.free (2 + m * 4 + 2)
        have z3 := hGc.free (2 + m * 4 + 3)
        have ne1 : N ≠ w.heap.size + 1 := by omega
        have ne2 : w.heap.size + 1 ≠ N := by omega
        have ne3 : N ≠ w2.heap.size + 1 + 1 := by omega
        have ne4 : w2.heap.size + 1 + 1 ≠ N := by omega
        have ne5 : w2.heap.size + 1 + 1 ≠ w.heap.size + 1 := by omega
        have ne6 : w.heap.size + 1 ≠ w2.heap.size + 1 + 1 := by omega
        have HST := Lib.hid (fun h1 h2 h3 => co_step HC.out HN.out (show f.toNat + k = m by omega) (by omega) hA hB hC hE h1 h2 h3 (by omega) hTw)
        clear hx0 hx1 C1 C2 u0 u1 v0 vu hG hGc hGs htl q1 q2 q3 q4 s1 s2 bA bC bB bE hA hC hB hE hlB hlE
        go_wp2_with fail
        go_roundw
        case rel => exact ⟨m, by omega, by omega, rfl, Lib.hid (HST.out (by omega) (by omega) (by omega))⟩
        case measure => simp [intOf]
    · have hc0 := HC.out.box
      have hge : ¬ f ≤ (n : Int) - 1 := by omega
      go_wp2_with fail
      go_ret
      have en : n = f.toNat := by omega
      subst en
      obtain ⟨G, hG, hGs⟩ := HC.out.res
      exact ⟨_, G, rfl, by omega, hG, hGs, HC.out.below⟩

end Go.Proofs.Ytmcagpcldjopjaa
