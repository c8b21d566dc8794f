/-
  Contracts of the reference's functions on fields: bit, power, Value, With, Fits, Get, Set: they return what package word's own return.
-/
import Derived.Test.YtepiiiekcmbpaaaDoorWord
import Derived.LoopN
import Derived.Handy
import Derived.IntWalk
namespace Go.Proofs.YtepiiiekcmbpaaaDoor.Rf
open Go.RowKit Go.Proofs.YtepiiiekcmbpaaaDoor.Bits Go.Proofs.YtepiiiekcmbpaaaDoor.Wd

theorem ret_int {k : IntKind} {a b : Int} (h : a = b) : Ending.returned (.int k a) = .returned (.int k b) := by rw [h]
def bitI (a i : Int) : Int := ((a.toNat / 2 ^ i.toNat % 2 : Nat) : Int)
def powI (i : Int) : Int := ((2 ^ i.toNat : Nat) : Int)
def halfI (A k : Nat) : Int := ((A / 2 ^ k : Nat) : Int)
def powN (k : Nat) : Int := ((2 ^ k : Nat) : Int)
theorem halfI_bd (A k : Nat) (h : A < 18446744073709551616) : 0 ≤ halfI A k ∧ halfI A k < 18446744073709551616 := by
  unfold halfI
  have := Nat.div_le_self A (2 ^ k)
  generalize A / 2 ^ k = q at *
  omega
theorem halfI_succ (A k : Nat) : halfI A k / 2 = halfI A (k + 1) := by
  unfold halfI
  rw [Nat.pow_succ, ← Nat.div_div_eq_div_mul]
  omega
theorem halfI_zero (A : Nat) : halfI A 0 = (A : Int) := by simp [halfI]
theorem powN_bd (k : Nat) (h : k ≤ 63) : 0 ≤ powN k ∧ powN k ≤ 9223372036854775808 := by
  unfold powN
  have : 2 ^ k ≤ 2 ^ 63 := Nat.pow_le_pow_right (by omega) h
  generalize 2 ^ k = q at *
  omega
theorem powN_succ (k : Nat) : powN k * 2 = powN (k + 1) := by
  unfold powN
  rw [Nat.pow_succ]
  simp
theorem bitI_bd (a i : Int) : 0 ≤ bitI a i ∧ bitI a i ≤ 1 := by unfold bitI; omega

/-- The first bits of a field. -/
def valI (a f : Int) (k : Nat) : Int := ((fld a.toNat f.toNat k : Nat) : Int)
theorem valI_bd (a f : Int) (k : Nat) (h : k ≤ 64) : 0 ≤ valI a f k ∧ valI a f k < 18446744073709551616 := by
  have h1 := pow_le_64 h
  have h2 := fld_lt a.toNat f.toNat k
  unfold valI
  omega
theorem valI_succ (a f : Int) (k : Nat) (hf : 0 ≤ f) : valI a f k + bitI a (f + k) * powI k = valI a f (k + 1) := by
  unfold valI bitI powI
  rw [fld_succ, show (f + (k : Int)).toNat = f.toNat + k from by omega, Int.toNat_natCast]
  simp
theorem mul_bd (x : Int) (k : Nat) (h0 : 0 ≤ x) (h1 : x ≤ 1) (h : k ≤ 63) : 0 ≤ x * powI k ∧ x * powI k ≤ 9223372036854775808 := by
  have := powN_bd k h
  have e : powI k = powN k := by unfold powI powN; simp
  rw [e]
  rcases (by omega : x = 0 ∨ x = 1) with rfl | rfl <;> omega
theorem powI_bd (k : Nat) (h : k ≤ 63) : 0 ≤ powI k ∧ powI k ≤ 9223372036854775808 := by
  have := powN_bd k h
  have e : powI k = powN k := by unfold powI powN; simp
  rw [e]
  exact this

/-- The word with the first bits of the field set. -/
def putI (a f v : Int) (k : Nat) : Int := ((putf a.toNat f.toNat k v.toNat : Nat) : Int)
theorem putI_bd (a f v : Int) (k : Nat) (ha : U64 a) (h : f.toNat + k ≤ 64) : 0 ≤ putI a f v k ∧ putI a f v k < 18446744073709551616 := by
  obtain ⟨h1, h2⟩ := ha
  have := putf_lt a.toNat f.toNat k v.toNat 64 (by omega) h
  unfold putI
  omega
theorem putI_succ (a f v : Int) (k : Nat) (hf : 0 ≤ f) :
    bitI (putI a f v k) (f + k) * powI (f + k) ≤ putI a f v k ∧
    putI a f v k - bitI (putI a f v k) (f + k) * powI (f + k) + bitI v k * powI (f + k) = putI a f v (k + 1) := by
  obtain ⟨h1, h2⟩ := putf_succ a.toNat f.toNat k v.toNat
  unfold bitI powI putI
  rw [show (f + (k : Int)).toNat = f.toNat + k from by omega, Int.toNat_natCast, Int.toNat_natCast, h2, ← Int.natCast_mul, ← Int.natCast_mul]
  omega

theorem ones_pow (n : Int) : powI n = onesI n + 1 := by
  unfold powI onesI
  have := Nat.two_pow_pos n.toNat
  omega
theorem ones_64 : onesI 64 = 18446744073709551615 := by decide
end Go.Proofs.YtepiiiekcmbpaaaDoor.Rf
