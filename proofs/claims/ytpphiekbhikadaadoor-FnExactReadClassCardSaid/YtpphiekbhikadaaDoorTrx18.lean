/- Merged: Dec. -/
import Derived.Test.YtpphiekbhikadaaDoorTrx1
import Derived.Lib.ItoaLen
import Derived.ShutString
import Derived.Lib.SmallJoins
import Derived.Lib.AppendIntMem
import Derived.Laws.IdiomStrings
import Derived.Deep.RegionWith

/- Decimals of the model. -/
namespace Go.Proofs.YtpphiekbhikadaaDoor
open Go.ChangeShapes Go.WideShapes Go.ChangeAt Go.RowKit
set_option linter.unusedVariables false

theorem ret_str {a b : ByteArray} (h : a.data.toList = b.data.toList) : Ending.returned (.string a) = .returned (.string b) := by
  obtain ⟨⟨a⟩⟩ := a
  obtain ⟨⟨b⟩⟩ := b
  simp at h
  rw [h]

theorem itoa_nat (u : Nat) : Lib.itoa (u : Int) = Lib.decDigits u := Lib.itoa_nonneg u

theorem dec_small (u : Nat) (h : u < 10) : Lib.decDigits u = [UInt8.ofNat (48 + u)] := by rw [Lib.decDigits, dif_pos h]

theorem dec_big (u : Nat) (h : ¬ u < 10) : Lib.decDigits u = Lib.decDigits (u / 10) ++ [UInt8.ofNat (48 + u % 10)] := by rw [Lib.decDigits, dif_neg h]

theorem dec_len (u : Nat) (h : u ≤ 9223372036854775807) : (Lib.decDigits u).length ≤ 21 := by
  have := Lib.itoa_length_le (u : Int) (by omega) (by omega)
  rwa [itoa_nat] at this

/-- 'string([]byte{v})' of a new block -/
theorem conv_one (v : Int) (h0 : 0 ≤ v) (h1 : v ≤ 255) (w : World) :
    (convert 22 9 (.slice (some ⟨w.heap.size, 0, none⟩) 1 1)).run Tryd.prog (w.alloc (.cells #[.int .u8 v] 5)) = .ok (.string ⟨#[UInt8.ofNat v.toNat]⟩) (w.alloc (.cells #[.int .u8 v] 5)) := by
  have h := run_convert_bytes_back (P := Tryd.prog) (w.alloc (.cells #[.int .u8 v] 5)) 22 9 5 ⟨w.heap.size, 0, none⟩ 1 [UInt8.ofNat v.toNat] Tryd.underlying22 Tryd.underlying5 Tryd.underlying9 (by
    intro j hj
    have hj0 : j = 0 := by simpa using hj
    subst hj0
    rw [show (⟨w.heap.size, 0, none⟩ : Addr).add 0 = ⟨w.heap.size, 0, none⟩ by simp [Addr.add], World.cell?_alloc_new]
    simp; omega)
  simpa using h

/-- .. of a block that lies there -/
theorem conv_at (B : Nat) (v : Int) (h0 : 0 ≤ v) (h1 : v ≤ 255) (w : World) (hc : w.cell? ⟨B, 0, none⟩ = some (.int .u8 v)) :
    (convert 22 9 (.slice (some ⟨B, 0, none⟩) 1 1)).run Tryd.prog w = .ok (.string ⟨#[UInt8.ofNat v.toNat]⟩) w := by
  have h := run_convert_bytes_back (P := Tryd.prog) w 22 9 5 ⟨B, 0, none⟩ 1 [UInt8.ofNat v.toNat] Tryd.underlying22 Tryd.underlying5 Tryd.underlying9 (by
    intro j hj
    have hj0 : j = 0 := by simpa using hj
    subst hj0
    rw [show (⟨B, 0, none⟩ : Addr).add 0 = ⟨B, 0, none⟩ by simp [Addr.add], hc]
    simp; omega)
  simpa using h

theorem dec_add (n : Int) (h : 0 ≤ n) : (48 + n).toNat = 48 + n.toNat := by omega

theorem dec_div (n : Int) : (n / 10).toNat = n.toNat / 10 := by omega

theorem dec_mod (n : Int) (h : 0 ≤ n) : (48 + n % 10).toNat = 48 + n.toNat % 10 := by omega

set_option maxRecDepth 100000 in
theorem dec_any (k : Nat) : ∀ (n : Int) (w : World), 0 ≤ n → n ≤ k → n ≤ 9223372036854775807 →
    Calls Tryd.prog 69 #[.int .i64 n] w fun e w' => e = .returned (.string ⟨(Lib.decDigits n.toNat).toArray⟩) ∧ Below w.heap.size w w' := by
  induction k with
  | zero =>
    intro n w h0 hu _
    obtain rfl : n = 0 := by omega
    have hcv := conv_one 48 (by omega) (by omega)
    go_enter Tryd.func69, Tryd.ntmps69
    go_wp2_with fail
    go_ret
    exact ⟨ret_str (by simp [dec_small]), (Below.refl _ _).alloc (Nat.le_refl _) _⟩
  | succ k ih =>
    intro n w h0 hu hm
    by_cases hs : n < 10
    · have hcv := conv_one (48 + n) (by omega) (by omega)
      go_enter Tryd.func69, Tryd.ntmps69
      go_wp2_with fail
      go_ret
      exact ⟨ret_str (by rw [dec_small n.toNat (by omega)]; simp [dec_add n h0]), (Below.refl _ _).alloc (Nat.le_refl _) _⟩
    · have hcv := conv_one (48 + n % 10) (by omega) (by omega)
      have hl := dec_len (n / 10).toNat (by omega)
      go_enter Tryd.func69, Tryd.ntmps69
      go_wp2_with fail
      have q1 : IntKind.i64.wrap (n.tdiv 10) = n / 10 := by rw [Int.tdiv_eq_ediv_of_nonneg h0]; exact IntWalk.i64_in _ (by omega)
      have q2 : n.tmod 10 = n % 10 := Int.tmod_eq_emod_of_nonneg h0
      have q3 : IntKind.i64.wrap (48 + n % 10) = 48 + n % 10 := IntWalk.i64_in _ (by omega)
      have q4 : IntKind.u8.wrap (48 + n % 10) = 48 + n % 10 := IntWalk.u8_in _ (by omega)
      have hcv3 := conv_at w.heap.size (48 + n % 10) (by omega) (by omega) ((w.alloc (.cells #[.int .u8 (48 + n % 10)] 5)).drew) (World.cell?_alloc_new _ _ _ _)
      go_region_with (go_at_call 69; first | ((with_reducible refine (ih (n / 10) w.drew (by omega) (by omega) (by omega)).mono ?_); rintro e w1 ⟨rfl, hb⟩; have HB : Hid (Below w.heap.size w w1) := Lib.hid ((Below.refl _ _).drew.trans hb); clear hb) | ((with_reducible refine (ih (n / 10) ((w.alloc (.cells #[.int .u8 (48 + n % 10)] 5)).drew) (by omega) (by omega) (by omega)).mono ?_); rintro e w1 ⟨rfl, hb⟩; have hc2 := conv_at w.heap.size (48 + n % 10) (by omega) (by omega) w1 ((hb.cell (p := ⟨w.heap.size, 0, none⟩) (by simp)).trans (World.cell?_alloc_new _ _ _ _)); have HB : Hid (Below w.heap.size w w1) := Lib.hid (((Below.refl _ _).alloc (Nat.le_refl _) _).drew.trans (hb.mono (by simp))); clear hb))
      all_goals
        go_wp2_with fail
        go_ret
        refine ⟨ret_str (by rw [dec_big n.toNat (by omega)]; simp [dec_div, dec_mod _ h0]), ?_⟩
        first | exact HB.out | exact HB.out.alloc HB.out.size _ | exact (HB.out.alloc HB.out.size _).drew | exact HB.out.drew

end Go.Proofs.YtpphiekbhikadaaDoor
