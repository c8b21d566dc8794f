/-
  How fields of a word bear on each other: set and read again, set twice, set to its own value, single bits, fields that do not overlap. Numbers only.
-/
import Derived.Test.YtnpdjlncfnmipaaLaw
namespace Go.Proofs.Ytnpdjlncfnmipaa.Al
open Go.Proofs.Ytnpdjlncfnmipaa.Bits Go.Proofs.Ytnpdjlncfnmipaa.Wd Go.Proofs.Ytnpdjlncfnmipaa.Lw

theorem big_bit {v n i : Nat} (hv : v < 2 ^ n) (h : n ≤ i) : v.testBit i = false :=
  Nat.testBit_lt_two_pow (Nat.lt_of_lt_of_le hv (Nat.pow_le_pow_right (by omega) h))
theorem fld_putf (w f n v : Nat) (hv : v < 2 ^ n) : fld (putf w f n v) f n = v := by
  apply Nat.eq_of_testBit_eq
  intro i
  rw [fld_bit, putf_bit]
  by_cases h : i < n
  · rw [if_pos (by omega), show f + i - f = i from by omega]
    simp [h]
  · have e := big_bit hv (by omega : n ≤ i)
    simp [h, e]
theorem putf_putf (w f n v u : Nat) : putf (putf w f n v) f n u = putf w f n u := by
  apply Nat.eq_of_testBit_eq
  intro i
  rw [putf_bit, putf_bit, putf_bit]
  by_cases h : f ≤ i ∧ i < f + n <;> simp [h]
theorem putf_own (w f n : Nat) : putf w f n (fld w f n) = w := by
  apply Nat.eq_of_testBit_eq
  intro i
  rw [putf_bit]
  by_cases h : f ≤ i ∧ i < f + n
  · rw [if_pos h, fld_bit, show f + (i - f) = i from by omega, decide_eq_true (by omega : i - f < n), Bool.true_and]
  · rw [if_neg h]
theorem fld_far (w f n v g m : Nat) (h : f + n ≤ g ∨ g + m ≤ f) : fld (putf w f n v) g m = fld w g m := by
  apply Nat.eq_of_testBit_eq
  intro i
  rw [fld_bit, fld_bit, putf_bit]
  by_cases hi : i < m
  · rw [if_neg (by omega)]
  · simp [hi]
theorem fld_in (w f n v b : Nat) (h1 : f ≤ b) (h2 : b < f + n) : fld (putf w f n v) b 1 = v / 2 ^ (b - f) % 2 := by
  have e : v / 2 ^ (b - f) % 2 = fld v (b - f) 1 := rfl
  rw [e]
  apply Nat.eq_of_testBit_eq
  intro i
  rw [fld_bit, fld_bit, putf_bit]
  by_cases hi : i < 1
  · rw [if_pos (by omega), show b + i - f = b - f + i from by omega]
  · simp [hi]
theorem putf_comm (w f n v g m u : Nat) (h : f + n ≤ g ∨ g + m ≤ f) : putf (putf w f n v) g m u = putf (putf w g m u) f n v := by
  apply Nat.eq_of_testBit_eq
  intro i
  rw [putf_bit, putf_bit, putf_bit, putf_bit]
  by_cases h1 : f ≤ i ∧ i < f + n
  · rw [if_pos h1, if_pos h1, if_neg (by omega)]
  · rw [if_neg h1, if_neg h1]

theorem lt_of_ones {v n : Int} (h : v ≤ onesI n) : v.toNat < 2 ^ n.toNat := by
  have := Nat.two_pow_pos n.toNat
  unfold onesI at h
  omega
theorem get_set (a f n v : Int) (h0 : 0 ≤ v) (h : v ≤ onesI n) : getI (setI a f n v) f n = v := by
  unfold getI setI
  rw [Int.toNat_natCast, fld_putf _ _ _ _ (lt_of_ones h)]
  omega
theorem set_set (a f n v u : Int) : setI (setI a f n v) f n u = setI a f n u := by
  unfold setI
  rw [Int.toNat_natCast, putf_putf]
theorem set_own (a f n : Int) (h : 0 ≤ a) : setI a f n (getI a f n) = a := by
  unfold setI getI
  rw [Int.toNat_natCast, putf_own]
  omega
theorem get_far (a f n v g m : Int) (h1 : 0 ≤ f) (h2 : 0 ≤ n) (h3 : 0 ≤ g) (h4 : 0 ≤ m) (h : f + n ≤ g ∨ g + m ≤ f) : getI (setI a f n v) g m = getI a g m := by
  unfold setI getI
  rw [Int.toNat_natCast, fld_far _ _ _ _ _ _ (by omega)]
theorem get_in (a f n v b : Int) (h1 : 0 ≤ f) (h3 : 0 ≤ n) (h2 : f ≤ b) (h4 : b < f + n) (hv : U64 v) : bits .and .u64 (v / 2 ^ (b - f).toNat) 1 = getI (setI a f n v) b 1 := by
  have h := div_bd v (b - f) hv
  rw [u64_and _ _ h.1 h.2 (by decide) (by decide), div_toNat v (b - f) hv.1, Int.toNat_natCast, show (1 : Int).toNat = 1 from rfl]
  unfold getI setI
  rw [Int.toNat_natCast, show (1 : Int).toNat = 1 from rfl, fld_in _ _ _ _ _ (by omega) (by omega), Nat.and_one_is_mod, show (b - f).toNat = b.toNat - f.toNat from by omega]
theorem set_comm (a f n v g m u : Int) (h1 : 0 ≤ f) (h2 : 0 ≤ n) (h3 : 0 ≤ g) (h4 : 0 ≤ m) (h : f + n ≤ g ∨ g + m ≤ f) : setI (setI a f n v) g m u = setI (setI a g m u) f n v := by
  unfold setI
  rw [Int.toNat_natCast, Int.toNat_natCast, putf_comm _ _ _ _ _ _ _ (by omega)]
theorem get_ones (a f n : Int) : getI a f n ≤ onesI n := by
  have := fld_lt a.toNat f.toNat n.toNat
  unfold getI onesI
  omega
theorem cut_u64 (v n : Int) (h : n ≤ 64) : U64 (cutI v n) := by
  have := cutI_bd v n
  have := onesI_bd n h
  exact ⟨by omega, by omega⟩
end Go.Proofs.Ytnpdjlncfnmipaa.Al
