/-
  Contracts of the reference's functions on fields: bit, power, Value, With, Fits, Get, Set: they return what package word's own return.
-/
import Derived.Test.YtnpdjlncfnmipaaWord
import Derived.LoopN
import Derived.Handy
import Derived.IntWalk
namespace Go.Proofs.Ytnpdjlncfnmipaa.Rf
open Go.RowKit Go.Proofs.Ytnpdjlncfnmipaa.Bits Go.Proofs.Ytnpdjlncfnmipaa.Wd

theorem ret_int {k : IntKind} {a b : Int} (h : a = b) : Ending.returned (.int k a) = .returned (.int k b) := by rw [h]
def bitI (a i : Int) : Int := ((a.toNat / 2 ^ i.toNat % 2 : Nat) : Int)
def powI (i : Int) : Int := ((2 ^ i.toNat : Nat) : Int)
def halfI (A k : Nat) : Int := ((A / 2 ^ k : Nat) : Int)
def powN (k : Nat) : Int := ((2 ^ k : Nat) : Int)
theorem halfI_bd (A k : Nat) (h : A < 18446744073709551616) : 0 ≤ halfI A k ∧ halfI A k < 18446744073709551616 := by
  unfold halfI
  have := Nat.div_le_self A (2 ^ k)
  generalize A / 2 ^ k = q at *
  omega
theorem halfI_succ (A k : Nat) : halfI A k / 2 = halfI A (k + 1) := by
  unfold halfI
  rw [Nat.pow_succ, ← Nat.div_div_eq_div_mul]
  omega
theorem halfI_zero (A : Nat) : halfI A 0 = (A : Int) := by simp [halfI]
theorem powN_bd (k : Nat) (h : k ≤ 63) : 0 ≤ powN k ∧ powN k ≤ 9223372036854775808 := by
  unfold powN
  have : 2 ^ k ≤ 2 ^ 63 := Nat.pow_le_pow_right (by omega) h
  generalize 2 ^ k = q at *
  omega
theorem powN_succ (k : Nat) : powN k * 2 = powN (k + 1) := by
  unfold powN
  rw [Nat.pow_succ]
  simp
theorem bitI_bd (a i : Int) : 0 ≤ bitI a i ∧ bitI a i ≤ 1 := by unfold bitI; omega

set_option maxHeartbeats 400000 in
theorem bit_any (a i : Int) (w : World) (ha : U64 a) (h0 : 0 ≤ i) (h63 : i ≤ 63) :
    Calls Try.prog 26 #[.int .u64 a, .int .i64 i] w fun e w' => e = .returned (.int .u64 (bitI a i)) ∧ w = w' := by
  obtain ⟨h1, h2⟩ := ha
  obtain ⟨A, rfl⟩ := Int.eq_ofNat_of_zero_le h1
  obtain ⟨I, rfl⟩ := Int.eq_ofNat_of_zero_le h0
  have hA : A < 18446744073709551616 := by omega
  go_enter Try.func26, Try.ntmps26
  go_wp2
  go_loop [0, 5] (fun x i => ∃ k : Nat, k ≤ I ∧ i = .int .i64 k ∧ x = .int .u64 (halfI A k)) (fun _ i => I - (intOf i).toNat)
  case atStart => exact ⟨0, Nat.zero_le _, rfl, by rw [halfI_zero]⟩
  case round =>
    obtain ⟨k, hk, rfl, rfl⟩ := hrel
    have hb := halfI_bd A k hA
    by_cases hlt : k < I
    · go_wp2
      go_round
      case rel => exact ⟨k + 1, by omega, by go_num, by rw [halfI_succ]⟩
      case measure => simp [intOf]; omega
    · have hki : k = I := by omega
      subst hki
      go_wp2
      go_ret
      exact ⟨ret_int (by unfold bitI halfI; simp), rfl⟩

set_option maxHeartbeats 400000 in
theorem power_any (i : Int) (w : World) (h0 : 0 ≤ i) (h63 : i ≤ 63) :
    Calls Try.prog 27 #[.int .i64 i] w fun e w' => e = .returned (.int .u64 (powI i)) ∧ w = w' := by
  obtain ⟨I, rfl⟩ := Int.eq_ofNat_of_zero_le h0
  go_enter Try.func27, Try.ntmps27
  go_wp2
  go_loop [3, 4] (fun x i => ∃ k : Nat, k ≤ I ∧ i = .int .i64 k ∧ x = .int .u64 (powN k)) (fun _ i => I - (intOf i).toNat)
  case atStart => exact ⟨0, Nat.zero_le _, rfl, rfl⟩
  case round =>
    obtain ⟨k, hk, rfl, rfl⟩ := hrel
    by_cases hlt : k < I
    · have hb := powN_bd k (by omega)
      have hb' : powN k ≤ 4611686018427387904 := by have := powN_bd (k + 1) (by omega); rw [← powN_succ] at this; omega
      go_wp2
      go_round
      case rel => exact ⟨k + 1, by omega, by go_num, by rw [powN_succ]⟩
      case measure => simp [intOf]; omega
    · have hki : k = I := by omega
      subst hki
      go_wp2
      go_ret
      exact ⟨ret_int (by unfold powI powN; simp), rfl⟩

/-- The first bits of a field. -/
def valI (a f : Int) (k : Nat) : Int := ((fld a.toNat f.toNat k : Nat) : Int)
theorem valI_bd (a f : Int) (k : Nat) (h : k ≤ 64) : 0 ≤ valI a f k ∧ valI a f k < 18446744073709551616 := by
  have h1 := pow_le_64 h
  have h2 := fld_lt a.toNat f.toNat k
  unfold valI
  omega
theorem valI_succ (a f : Int) (k : Nat) (hf : 0 ≤ f) : valI a f k + bitI a (f + k) * powI k = valI a f (k + 1) := by
  unfold valI bitI powI
  rw [fld_succ, show (f + (k : Int)).toNat = f.toNat + k from by omega, Int.toNat_natCast]
  simp
theorem mul_bd (x : Int) (k : Nat) (h0 : 0 ≤ x) (h1 : x ≤ 1) (h : k ≤ 63) : 0 ≤ x * powI k ∧ x * powI k ≤ 9223372036854775808 := by
  have := powN_bd k h
  have e : powI k = powN k := by unfold powI powN; simp
  rw [e]
  rcases (by omega : x = 0 ∨ x = 1) with rfl | rfl <;> omega
theorem powI_bd (k : Nat) (h : k ≤ 63) : 0 ≤ powI k ∧ powI k ≤ 9223372036854775808 := by
  have := powN_bd k h
  have e : powI k = powN k := by unfold powI powN; simp
  rw [e]
  exact this

set_option maxHeartbeats 1000000 in
theorem value_any (a f n : Int) (w : World) (ha : U64 a) (h : IsFd f n) :
    Calls Try.prog 23 #[.int .u64 a, .int .i64 f, .int .i64 n] w fun e w' => e = .returned (.int .u64 (getI a f n)) ∧ w = w' := by
  have ha' := ha
  obtain ⟨h1, h2⟩ := ha
  obtain ⟨h3, h4, h5, h6⟩ := h
  obtain ⟨N, rfl⟩ := Int.eq_ofNat_of_zero_le (by omega : 0 ≤ n)
  go_enter Try.func23, Try.ntmps23
  go_wp2
  go_loop [7, 8] (fun x i => ∃ k : Nat, k ≤ N ∧ i = .int .i64 k ∧ x = .int .u64 (valI a f k)) (fun _ i => N - (intOf i).toNat)
  case atStart => exact ⟨0, Nat.zero_le _, rfl, by unfold valI; rw [fld_zero]; rfl⟩
  case round =>
    obtain ⟨k, hk, rfl, rfl⟩ := hrel
    by_cases hlt : k < N
    · have b1 := bitI_bd a (f + k)
      have b2 := valI_bd a f k (by omega)
      have b3 := powI_bd k (by omega)
      have b4 := mul_bd (bitI a (f + k)) k b1.1 b1.2 (by omega)
      have b5 := valI_bd a f (k + 1) (by omega)
      have b6 : valI a f k + bitI a (f + k) * powI k < 18446744073709551616 := by rw [valI_succ _ _ _ h3]; omega
      go_wp2_with fail
      refine (bit_any a (f + k) _ ha' (by omega) (by omega)).mono ?_
      rintro e w' ⟨rfl, rfl⟩
      go_wp2_with fail
      refine (power_any k _ (by omega) (by omega)).mono ?_
      rintro e w' ⟨rfl, rfl⟩
      go_wp2_with fail
      go_round
      case rel => exact ⟨k + 1, by omega, by go_num, by rw [valI_succ _ _ _ h3]⟩
      case measure => simp [intOf]; omega
    · have hki : k = N := by omega
      subst hki
      go_wp2_with fail
      go_ret
      exact ⟨ret_int (by unfold getI valI; simp), rfl⟩

/-- The word with the first bits of the field set. -/
def putI (a f v : Int) (k : Nat) : Int := ((putf a.toNat f.toNat k v.toNat : Nat) : Int)
theorem putI_bd (a f v : Int) (k : Nat) (ha : U64 a) (h : f.toNat + k ≤ 64) : 0 ≤ putI a f v k ∧ putI a f v k < 18446744073709551616 := by
  obtain ⟨h1, h2⟩ := ha
  have := putf_lt a.toNat f.toNat k v.toNat 64 (by omega) h
  unfold putI
  omega
theorem putI_succ (a f v : Int) (k : Nat) (hf : 0 ≤ f) :
    bitI (putI a f v k) (f + k) * powI (f + k) ≤ putI a f v k ∧
    putI a f v k - bitI (putI a f v k) (f + k) * powI (f + k) + bitI v k * powI (f + k) = putI a f v (k + 1) := by
  obtain ⟨h1, h2⟩ := putf_succ a.toNat f.toNat k v.toNat
  unfold bitI powI putI
  rw [show (f + (k : Int)).toNat = f.toNat + k from by omega, Int.toNat_natCast, Int.toNat_natCast, h2, ← Int.natCast_mul, ← Int.natCast_mul]
  omega

set_option maxHeartbeats 1000000 in
theorem with_any (a f n v : Int) (w : World) (ha : U64 a) (hv : U64 v) (h : IsFd f n) :
    Calls Try.prog 25 #[.int .u64 a, .int .i64 f, .int .i64 n, .int .u64 v] w fun e w' => e = .returned (.int .u64 (setI a f n v)) ∧ w = w' := by
  obtain ⟨h3, h4, h5, h6⟩ := h
  obtain ⟨N, rfl⟩ := Int.eq_ofNat_of_zero_le (by omega : 0 ≤ n)
  have HA := Lib.hid ha
  have HV := Lib.hid hv
  obtain ⟨h1, h2⟩ := ha
  obtain ⟨hv1, hv2⟩ := hv
  go_enter Try.func25, Try.ntmps25
  go_wp2
  go_loop [0, 9] (fun x i => ∃ k : Nat, k ≤ N ∧ i = .int .i64 k ∧ x = .int .u64 (putI a f v k)) (fun _ i => N - (intOf i).toNat)
  case atStart => exact ⟨0, Nat.zero_le _, rfl, by unfold putI; rw [putf_zero, Int.toNat_of_nonneg h1]⟩
  case round =>
    obtain ⟨k, hk, rfl, rfl⟩ := hrel
    by_cases hlt : k < N
    · have b0 := putI_bd a f v k HA.out (by omega)
      have b1 := bitI_bd (putI a f v k) (f + k)
      have b2 := bitI_bd v k
      have c1 := mul_bd (bitI (putI a f v k) (f + k)) (f.toNat + k) b1.1 b1.2 (by omega)
      have c2 := mul_bd (bitI v k) (f.toNat + k) b2.1 b2.2 (by omega)
      have c3 := powI_bd (f.toNat + k) (by omega)
      rw [show ((f.toNat + k : Nat) : Int) = f + k from by omega] at c1 c2 c3
      obtain ⟨s1, s2⟩ := putI_succ a f v k h3
      have b5 := putI_bd a f v (k + 1) HA.out (by omega)
      rw [← s2] at b5
      have S2 := Lib.hid s2
      clear s2
      go_wp2_with fail
      refine (bit_any (putI a f v k) (f + k) _ b0 (by omega) (by omega)).mono ?_
      rintro e w' ⟨rfl, rfl⟩
      go_wp2_with fail
      refine (power_any (f + k) _ (by omega) (by omega)).mono ?_
      rintro e w' ⟨rfl, rfl⟩
      go_wp2_with fail
      refine (bit_any v k _ HV.out (by omega) (by omega)).mono ?_
      rintro e w' ⟨rfl, rfl⟩
      go_wp2_with fail
      refine (power_any (f + k) _ (by omega) (by omega)).mono ?_
      rintro e w' ⟨rfl, rfl⟩
      go_wp2_with fail
      go_round
      case rel => exact ⟨k + 1, by omega, by go_num, by rw [S2.out]⟩
      case measure => simp [intOf]; omega
    · have hki : k = N := by omega
      subst hki
      go_wp2_with fail
      go_ret
      exact ⟨ret_int (by unfold setI putI; simp), rfl⟩

theorem ones_pow (n : Int) : powI n = onesI n + 1 := by
  unfold powI onesI
  have := Nat.two_pow_pos n.toNat
  omega
theorem ones_64 : onesI 64 = 18446744073709551615 := by decide
set_option maxHeartbeats 400000 in
theorem fits_yes (v n : Int) (w : World) (h1 : 1 ≤ n) (h2 : n ≤ 64) (hvn : v ≤ onesI n) :
    Calls Try.prog 24 #[.int .u64 v, .int .i64 n] w fun e w' => e = .returned (.bool true) ∧ w = w' := by
  by_cases hn : n = 64
  · subst hn
    go_enter Try.func24, Try.ntmps24
    go_wp2_with fail
    go_ret
    exact ⟨rfl, rfl⟩
  · have e := ones_pow n
    have hp : v < powI n := by omega
    have hn' : (n == 64) = false := by simpa using hn
    clear e
    go_enter Try.func24, Try.ntmps24
    go_wp2_with fail
    refine (power_any n _ (by omega) (by omega)).mono ?_
    rintro e w' ⟨rfl, rfl⟩
    go_wp2_with fail
    go_ret
    exact ⟨ret_bool (by simp), rfl⟩
set_option maxHeartbeats 400000 in
theorem fits_no (v n : Int) (w : World) (hv : U64 v) (h1 : 1 ≤ n) (h2 : n ≤ 64) (hvn : onesI n < v) :
    Calls Try.prog 24 #[.int .u64 v, .int .i64 n] w fun e w' => e = .returned (.bool false) ∧ w = w' := by
  by_cases hn : n = 64
  · subst hn
    rw [ones_64] at hvn
    have := hv.2
    omega
  · have e := ones_pow n
    have hp : powI n ≤ v := by omega
    have hn' : (n == 64) = false := by simpa using hn
    clear e
    go_enter Try.func24, Try.ntmps24
    go_wp2_with fail
    refine (power_any n _ (by omega) (by omega)).mono ?_
    rintro e w' ⟨rfl, rfl⟩
    go_wp2_with fail
    go_ret
    exact ⟨ret_bool (by simp [hp]), rfl⟩

theorem rget_yes (a f n : Int) (w : World) (ha : U64 a) (h : IsFd f n) :
    Calls Try.prog 13 #[.int .u64 a, .int .i64 f, .int .i64 n] w fun e w' => e = .returned (.tuple #[.int .u64 (getI a f n), .int .i64 0]) ∧ w = w' := by
  go_enter Try.func13, Try.ntmps13
  go_wp2_with fail
  refine (field_yes f n _ h).mono ?_
  rintro e w' ⟨rfl, rfl⟩
  go_wp2_with fail
  refine (value_any a f n _ ha h).mono ?_
  rintro e w' ⟨rfl, rfl⟩
  go_wp2_with fail
  go_ret2
  exact ⟨rfl, rfl⟩
theorem rget_no (a f n : Int) (w : World) (h : ¬ IsFd f n) :
    Calls Try.prog 13 #[.int .u64 a, .int .i64 f, .int .i64 n] w fun e w' => e = .returned (.tuple #[.int .u64 0, .int .i64 2]) ∧ w = w' := by
  go_enter Try.func13, Try.ntmps13
  go_wp2_with fail
  refine (field_no f n _ h).mono ?_
  rintro e w' ⟨rfl, rfl⟩
  go_wp2_with fail
  go_ret2
  exact ⟨rfl, rfl⟩
theorem rset_yes (a f n v : Int) (w : World) (ha : U64 a) (hv : U64 v) (h : IsFd f n) (hvn : v ≤ onesI n) :
    Calls Try.prog 14 #[.int .u64 a, .int .i64 f, .int .i64 n, .int .u64 v] w fun e w' => e = .returned (.tuple #[.int .u64 (setI a f n v), .int .i64 0]) ∧ w = w' := by
  have h5 := h.2.2.1
  have h6 : n ≤ 64 := by have := h.2.2.2; have := h.1; omega
  go_enter Try.func14, Try.ntmps14
  go_wp2_with fail
  refine (field_yes f n _ h).mono ?_
  rintro e w' ⟨rfl, rfl⟩
  go_wp2_with fail
  refine (fits_yes v n _ h5 h6 hvn).mono ?_
  rintro e w' ⟨rfl, rfl⟩
  go_wp2_with fail
  refine (with_any a f n v _ ha hv h).mono ?_
  rintro e w' ⟨rfl, rfl⟩
  go_wp2_with fail
  go_ret2
  exact ⟨rfl, rfl⟩
theorem rset_wide (a f n v : Int) (w : World) (hv : U64 v) (h : IsFd f n) (hvn : onesI n < v) :
    Calls Try.prog 14 #[.int .u64 a, .int .i64 f, .int .i64 n, .int .u64 v] w fun e w' => e = .returned (.tuple #[.int .u64 0, .int .i64 16]) ∧ w = w' := by
  have h5 := h.2.2.1
  have h6 : n ≤ 64 := by have := h.2.2.2; have := h.1; omega
  go_enter Try.func14, Try.ntmps14
  go_wp2_with fail
  refine (field_yes f n _ h).mono ?_
  rintro e w' ⟨rfl, rfl⟩
  go_wp2_with fail
  refine (fits_no v n _ hv h5 h6 hvn).mono ?_
  rintro e w' ⟨rfl, rfl⟩
  go_wp2_with fail
  go_ret2
  exact ⟨rfl, rfl⟩
theorem rset_no (a f n v : Int) (w : World) (h : ¬ IsFd f n) :
    Calls Try.prog 14 #[.int .u64 a, .int .i64 f, .int .i64 n, .int .u64 v] w fun e w' => e = .returned (.tuple #[.int .u64 0, .int .i64 2]) ∧ w = w' := by
  go_enter Try.func14, Try.ntmps14
  go_wp2_with fail
  refine (field_no f n _ h).mono ?_
  rintro e w' ⟨rfl, rfl⟩
  go_wp2_with fail
  go_ret2
  exact ⟨rfl, rfl⟩
end Go.Proofs.Ytnpdjlncfnmipaa.Rf
