/-
  Contracts of the reference's functions on fields: bit, power, Value, With, Fits, Get, Set: they return what package word's own return.
-/
import Derived.Test.YtkffnhjchedccaaWord
import Derived.LoopN
import Derived.Handy
import Derived.IntWalk
namespace Go.Proofs.Ytkffnhjchedccaa.Rf
open Go.RowKit Go.Proofs.Ytkffnhjchedccaa.Bits Go.Proofs.Ytkffnhjchedccaa.Wd

theorem ret_int {k : IntKind} {a b : Int} (h : a = b) : Ending.returned (.int k a) = .returned (.int k b) := by rw [h]
def bitI (a i : Int) : Int := ((a.toNat / 2 ^ i.toNat % 2 : Nat) : Int)
def powI (i : Int) : Int := ((2 ^ i.toNat : Nat) : Int)
def halfI (A k : Nat) : Int := ((A / 2 ^ k : Nat) : Int)
def powN (k : Nat) : Int := ((2 ^ k : Nat) : Int)
theorem halfI_bd (A k : Nat) (h : A < 18446744073709551616) : 0 ≤ halfI A k ∧ halfI A k < 18446744073709551616 := by
  unfold halfI
  have := Nat.div_le_self A (2 ^ k)
  generalize A / 2 ^ k = q at *
  omega
theorem halfI_succ (A k : Nat) : halfI A k / 2 = halfI A (k + 1) := by
  unfold halfI
  rw [Nat.pow_succ, ← Nat.div_div_eq_div_mul]
  omega
theorem halfI_zero (A : Nat) : halfI A 0 = (A : Int) := by simp [halfI]
theorem powN_bd (k : Nat) (h : k ≤ 63) : 0 ≤ powN k ∧ powN k ≤ 9223372036854775808 := by
  unfold powN
  have : 2 ^ k ≤ 2 ^ 63 := Nat.pow_le_pow_right (by omega) h
  generalize 2 ^ k = q at *
  omega
theorem powN_succ (k : Nat) : powN k * 2 = powN (k + 1) := by
  unfold powN
  rw [Nat.pow_succ]
  simp
theorem bitI_bd (a i : Int) : 0 ≤ bitI a i ∧ bitI a i ≤ 1 := by unfold bitI; omega

set_option maxHeartbeats 400000 in
theorem bit_any (a i : Int) (w : World) (ha : U64 a) (h0 : 0 ≤ i) (h63 : i ≤ 63) :
    Calls Try.prog 29 #[.int .u64 a, .int .i64 i] w fun e w' => e = .returned (.int .u64 (bitI a i)) ∧ w = w' := by
  obtain ⟨h1, h2⟩ := ha
  obtain ⟨A, rfl⟩ := Int.eq_ofNat_of_zero_le h1
  obtain ⟨I, rfl⟩ := Int.eq_ofNat_of_zero_le h0
  have hA : A < 18446744073709551616 := by omega
  go_enter Try.func29, Try.ntmps29
  go_wp2
  go_loop [0, 5] (fun x i => ∃ k : Nat, k ≤ I ∧ i = .int .i64 k ∧ x = .int .u64 (halfI A k)) (fun _ i => I - (intOf i).toNat)
  case atStart => exact ⟨0, Nat.zero_le _, rfl, by rw [halfI_zero]⟩
  case round =>
    obtain ⟨k, hk, rfl, rfl⟩ := hrel
    have hb := halfI_bd A k hA
    by_cases hlt : k < I
    · go_wp2
      go_round
      case rel => exact ⟨k + 1, by omega, by go_num, by rw [halfI_succ]⟩
      case measure => simp [intOf]; omega
    · have hki : k = I := by omega
      subst hki
      go_wp2
      go_ret
      exact ⟨ret_int (by unfold bitI halfI; simp), rfl⟩

set_option maxHeartbeats 400000 in
theorem power_any (i : Int) (w : World) (h0 : 0 ≤ i) (h63 : i ≤ 63) :
    Calls Try.prog 30 #[.int .i64 i] w fun e w' => e = .returned (.int .u64 (powI i)) ∧ w = w' := by
  obtain ⟨I, rfl⟩ := Int.eq_ofNat_of_zero_le h0
  go_enter Try.func30, Try.ntmps30
  go_wp2
  go_loop [3, 4] (fun x i => ∃ k : Nat, k ≤ I ∧ i = .int .i64 k ∧ x = .int .u64 (powN k)) (fun _ i => I - (intOf i).toNat)
  case atStart => exact ⟨0, Nat.zero_le _, rfl, rfl⟩
  case round =>
    obtain ⟨k, hk, rfl, rfl⟩ := hrel
    by_cases hlt : k < I
    · have hb := powN_bd k (by omega)
      have hb' : powN k ≤ 4611686018427387904 := by have := powN_bd (k + 1) (by omega); rw [← powN_succ] at this; omega
      go_wp2
      go_round
      case rel => exact ⟨k + 1, by omega, by go_num, by rw [powN_succ]⟩
      case measure => simp [intOf]; omega
    · have hki : k = I := by omega
      subst hki
      go_wp2
      go_ret
      exact ⟨ret_int (by unfold powI powN; simp), rfl⟩

/-- The first bits of a field. -/
def valI (a f : Int) (k : Nat) : Int := ((fld a.toNat f.toNat k : Nat) : Int)
theorem valI_bd (a f : Int) (k : Nat) (h : k ≤ 64) : 0 ≤ valI a f k ∧ valI a f k < 18446744073709551616 := by
  have h1 := pow_le_64 h
  have h2 := fld_lt a.toNat f.toNat k
  unfold valI
  omega
theorem valI_succ (a f : Int) (k : Nat) (hf : 0 ≤ f) : valI a f k + bitI a (f + k) * powI k = valI a f (k + 1) := by
  unfold valI bitI powI
  rw [fld_succ, show (f + (k : Int)).toNat = f.toNat + k from by omega, Int.toNat_natCast]
  simp
theorem mul_bd (x : Int) (k : Nat) (h0 : 0 ≤ x) (h1 : x ≤ 1) (h : k ≤ 63) : 0 ≤ x * powI k ∧ x * powI k ≤ 9223372036854775808 := by
  have := powN_bd k h
  have e : powI k = powN k := by unfold powI powN; simp
  rw [e]
  rcases (by omega : x = 0 ∨ x = 1) with rfl | rfl <;> omega
theorem powI_bd (k : Nat) (h : k ≤ 63) : 0 ≤ powI k ∧ powI k ≤ 9223372036854775808 := by
  have := powN_bd k h
  have e : powI k = powN k := by unfold powI powN; simp
  rw [e]
  exact this

set_option maxHeartbeats 1000000 in
theorem value_any (a f n : Int) (w : World) (ha : U64 a) (h : IsFd f n) :
    Calls Try.prog 28 #[.int .u64 a, .int .i64 f, .int .i64 n] w fun e w' => e = .returned (.int .u64 (getI a f n)) ∧ w = w' := by
  have ha' := ha
  obtain ⟨h1, h2⟩ := ha
  obtain ⟨h3, h4, h5, h6⟩ := h
  obtain ⟨N, rfl⟩ := Int.eq_ofNat_of_zero_le (by omega : 0 ≤ n)
  go_enter Try.func28, Try.ntmps28
  go_wp2
  go_loop [7, 8] (fun x i => ∃ k : Nat, k ≤ N ∧ i = .int .i64 k ∧ x = .int .u64 (valI a f k)) (fun _ i => N - (intOf i).toNat)
  case atStart => exact ⟨0, Nat.zero_le _, rfl, by unfold valI; rw [fld_zero]; rfl⟩
  case round =>
    obtain ⟨k, hk, rfl, rfl⟩ := hrel
    by_cases hlt : k < N
    · have b1 := bitI_bd a (f + k)
      have b2 := valI_bd a f k (by omega)
      have b3 := powI_bd k (by omega)
      have b4 := mul_bd (bitI a (f + k)) k b1.1 b1.2 (by omega)
      have b5 := valI_bd a f (k + 1) (by omega)
      have b6 : valI a f k + bitI a (f + k) * powI k < 18446744073709551616 := by rw [valI_succ _ _ _ h3]; omega
      go_wp2_with fail
      refine (bit_any a (f + k) _ ha' (by omega) (by omega)).mono ?_
      rintro e w' ⟨rfl, rfl⟩
      go_wp2_with fail
      refine (power_any k _ (by omega) (by omega)).mono ?_
      rintro e w' ⟨rfl, rfl⟩
      go_wp2_with fail
      go_round
      case rel => exact ⟨k + 1, by omega, by go_num, by rw [valI_succ _ _ _ h3]⟩
      case measure => simp [intOf]; omega
    · have hki : k = N := by omega
      subst hki
      go_wp2_with fail
      go_ret
      exact ⟨ret_int (by unfold getI valI; simp), rfl⟩

/-- The word with the first bits of the field set. -/
def putI (a f v : Int) (k : Nat) : Int := ((putf a.toNat f.toNat k v.toNat : Nat) : Int)
theorem putI_bd (a f v : Int) (k : Nat) (ha : U64 a) (h : f.toNat + k ≤ 64) : 0 ≤ putI a f v k ∧ putI a f v k < 18446744073709551616 := by
  obtain ⟨h1, h2⟩ := ha
  have := putf_lt a.toNat f.toNat k v.toNat 64 (by omega) h
  unfold putI
  omega
theorem putI_succ (a f v : Int) (k : Nat) (hf : 0 ≤ f) :
    bitI (putI a f v k) (f + k) * powI (f + k) ≤ putI a f v k ∧
    putI a f v k - bitI (putI a f v k) (f + k) * powI (f + k) + bitI v k * powI (f + k) = putI a f v (k + 1) := by
  obtain ⟨h1, h2⟩ := putf_succ a.toNat f.toNat k v.toNat
  unfold bitI powI putI
  rw [show (f + (k : Int)).toNat = f.toNat + k from by omega, Int.toNat_natCast, Int.toNat_natCast, h2, ← Int.natCast_mul, ← Int.natCast_mul]
  omega

theorem ones_pow (n : Int) : powI n = onesI n + 1 := by
  unfold powI onesI
  have := Nat.two_pow_pos n.toNat
  omega
theorem ones_64 : onesI 64 = 18446744073709551615 := by decide
end Go.Proofs.Ytkffnhjchedccaa.Rf
