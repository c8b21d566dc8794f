/-
  Plain facts on the fields of a word: a field is a quotient's remainder, setting one changes its own bits alone. Numbers only; no program.
-/
import Derived.Laws.BitsAllLaws
namespace Go.Proofs.YtepiiiekcmbpaaaDoor.Bits

/-- The value of a field. -/
def fld (w f n : Nat) : Nat := w / 2 ^ f % 2 ^ n
/-- The word with another field. -/
def putf (w f n v : Nat) : Nat := w / 2 ^ (f + n) * 2 ^ (f + n) + v % 2 ^ n * 2 ^ f + w % 2 ^ f

theorem fld_bit (w f n i : Nat) : (fld w f n).testBit i = (decide (i < n) && w.testBit (f + i)) := by
  unfold fld
  rw [Nat.testBit_mod_two_pow, Nat.testBit_div_two_pow, Nat.add_comm]
theorem fld_lt (w f n : Nat) : fld w f n < 2 ^ n := Nat.mod_lt _ (Nat.two_pow_pos n)
theorem putf_bit (w f n v i : Nat) : (putf w f n v).testBit i = if f ≤ i ∧ i < f + n then v.testBit (i - f) else w.testBit i := by
  have e : putf w f n v = 2 ^ f * (2 ^ n * (w / 2 ^ (f + n)) + v % 2 ^ n) + w % 2 ^ f := by
    unfold putf
    rw [Nat.mul_add, ← Nat.mul_assoc, ← Nat.pow_add, Nat.mul_comm (w / 2 ^ (f + n)), Nat.mul_comm (v % 2 ^ n)]
  rw [e, Nat.testBit_two_pow_mul_add _ (Nat.mod_lt _ (Nat.two_pow_pos f))]
  by_cases h1 : i < f
  · rw [if_pos h1, if_neg (by omega), Nat.testBit_mod_two_pow, decide_eq_true h1, Bool.true_and]
  · rw [if_neg h1, Nat.testBit_two_pow_mul_add _ (Nat.mod_lt _ (Nat.two_pow_pos n))]
    by_cases h2 : i < f + n
    · rw [if_pos (by omega), if_pos (by omega), Nat.testBit_mod_two_pow, decide_eq_true (by omega : i - f < n), Bool.true_and]
    · rw [if_neg (by omega), if_neg (by omega), Nat.testBit_div_two_pow]
      congr 1
      omega
theorem putf_lt (w f n v k : Nat) (hw : w < 2 ^ k) (h : f + n ≤ k) : putf w f n v < 2 ^ k := by
  apply Nat.lt_pow_two_of_testBit
  intro i hi
  rw [putf_bit, if_neg (by omega)]
  exact Nat.testBit_lt_two_pow (Nat.lt_of_lt_of_le hw (Nat.pow_le_pow_right (by omega) hi))

/-! What the program's own operations give. -/
theorem get_ops (w f n : Nat) : (w / 2 ^ f) &&& (2 ^ n - 1) = fld w f n := Nat.and_two_pow_sub_one_eq_mod _ _
theorem ones_ops (n : Nat) (h : n ≤ 64) : 18446744073709551615 / 2 ^ (64 - n) = 2 ^ n - 1 := by
  have e : (18446744073709551615 : Nat) = 2 ^ (64 - n) * 2 ^ n - 1 := by rw [← Nat.pow_add, show 64 - n + n = 64 from by omega]
  rw [e]
  have p := Nat.two_pow_pos (64 - n)
  have q := Nat.two_pow_pos n
  have r := Nat.mul_pos p q
  apply Nat.div_eq_of_lt_le
  · rw [Nat.sub_mul, Nat.one_mul, Nat.mul_comm (2 ^ n) (2 ^ (64 - n))]
    generalize 2 ^ (64 - n) * 2 ^ n = t at *
    omega
  · rw [show 2 ^ n - 1 + 1 = 2 ^ n from by omega, Nat.mul_comm (2 ^ n) (2 ^ (64 - n))]
    generalize 2 ^ (64 - n) * 2 ^ n = t at *
    omega
theorem shift_lt (n f v : Nat) (h : f + n ≤ 64) (hv : v < 2 ^ n) : v * 2 ^ f < 18446744073709551616 := by
  have h1 : v * 2 ^ f < 2 ^ n * 2 ^ f := Nat.mul_lt_mul_of_pos_right hv (Nat.two_pow_pos f)
  have h2 : 2 ^ n * 2 ^ f ≤ 2 ^ 64 := by rw [← Nat.pow_add]; exact Nat.pow_le_pow_right (by omega) (by omega)
  exact Nat.lt_of_lt_of_le h1 h2
theorem compl_bit (x i : Nat) (h : x < 2 ^ 64) : (18446744073709551615 - x).testBit i = (decide (i < 64) && !x.testBit i) := by
  have e : 18446744073709551615 - x = 2 ^ 64 - (x + 1) := by omega
  rw [e, Nat.testBit_two_pow_sub_succ h]
theorem set_ops (w f n v : Nat) (hw : w < 2 ^ 64) (h : f + n ≤ 64) (hv : v < 2 ^ n) :
    (w &&& (18446744073709551615 - (2 ^ n - 1) * 2 ^ f)) ||| v * 2 ^ f = putf w f n v := by
  have q := Nat.two_pow_pos n
  have b1 : (2 ^ n - 1) * 2 ^ f < 2 ^ 64 := shift_lt n f _ h (by omega)
  apply Nat.eq_of_testBit_eq
  intro i
  rw [Nat.testBit_or, Nat.testBit_and, compl_bit _ _ b1, putf_bit, Nat.testBit_mul_two_pow, Nat.testBit_mul_two_pow, Nat.testBit_two_pow_sub_one]
  by_cases h0 : i < 64
  · by_cases h1 : f ≤ i
    · by_cases h2 : i < f + n
      · have h3 : i - f < n := by omega
        simp [h0, h1, h2, h3]
      · have h3 : ¬ i - f < n := by omega
        have h4 : v.testBit (i - f) = false := Nat.testBit_lt_two_pow (Nat.lt_of_lt_of_le hv (Nat.pow_le_pow_right (by omega) (by omega)))
        simp [h0, h1, h2, h3, h4]
    · simp [h0, h1]
  · have h2 : ¬ i < f + n := by omega
    have h3 : w.testBit i = false := Nat.testBit_lt_two_pow (Nat.lt_of_lt_of_le hw (Nat.pow_le_pow_right (by omega) (by omega)))
    have h4 : v.testBit (i - f) = false := Nat.testBit_lt_two_pow (Nat.lt_of_lt_of_le hv (Nat.pow_le_pow_right (by omega) (by omega)))
    simp [h0, h2, h3, h4]

/-! What the reference's loops give. -/
theorem fld_zero (w f : Nat) : fld w f 0 = 0 := by unfold fld; simp [Nat.mod_one]
theorem fld_succ (w f k : Nat) : fld w f (k + 1) = fld w f k + w / 2 ^ (f + k) % 2 * 2 ^ k := by
  unfold fld
  rw [Nat.mod_pow_succ, Nat.div_div_eq_div_mul, ← Nat.pow_add, Nat.mul_comm (2 ^ k)]
theorem putf_zero (w f v : Nat) : putf w f 0 v = w := by
  unfold putf
  have := Nat.div_add_mod w (2 ^ f)
  rw [Nat.add_zero, Nat.pow_zero, Nat.mod_one, Nat.mul_comm]
  omega
/-- The word with one more bit set: the old bit goes, the new one comes. -/
theorem putf_succ (w f k v : Nat) :
    putf w f k v / 2 ^ (f + k) % 2 * 2 ^ (f + k) ≤ putf w f k v ∧
    putf w f (k + 1) v = putf w f k v - putf w f k v / 2 ^ (f + k) % 2 * 2 ^ (f + k) + v / 2 ^ k % 2 * 2 ^ (f + k) := by
  have pf := Nat.two_pow_pos f
  have pk := Nat.two_pow_pos k
  have lo : v % 2 ^ k * 2 ^ f + w % 2 ^ f < 2 ^ (f + k) := by
    have h1 : v % 2 ^ k + 1 ≤ 2 ^ k := Nat.mod_lt _ pk
    have h2 := Nat.mul_le_mul_right (2 ^ f) h1
    have h3 := Nat.mod_lt w pf
    rw [Nat.add_mul, Nat.one_mul, ← Nat.pow_add, Nat.add_comm k] at h2
    omega
  have e1 : putf w f k v / 2 ^ (f + k) = w / 2 ^ (f + k) := by
    unfold putf
    rw [Nat.add_assoc, Nat.mul_comm, Nat.mul_add_div (Nat.two_pow_pos _), Nat.div_eq_of_lt lo, Nat.add_zero]
  have e2 : w / 2 ^ (f + (k + 1)) = w / 2 ^ (f + k) / 2 := by
    rw [← Nat.add_assoc, Nat.pow_succ, Nat.div_div_eq_div_mul]
  have e3 : v % 2 ^ (k + 1) * 2 ^ f = v % 2 ^ k * 2 ^ f + v / 2 ^ k % 2 * 2 ^ (f + k) := by
    rw [Nat.mod_pow_succ, Nat.add_mul, Nat.pow_add, Nat.mul_comm (2 ^ k) (v / 2 ^ k % 2), Nat.mul_assoc, Nat.mul_comm (2 ^ k) (2 ^ f)]
  have e4 : (2 : Nat) ^ (f + (k + 1)) = 2 * 2 ^ (f + k) := by rw [← Nat.add_assoc, Nat.pow_succ, Nat.mul_comm]
  have e5 : w / 2 ^ (f + k) * 2 ^ (f + k) = w / 2 ^ (f + k) / 2 * (2 * 2 ^ (f + k)) + w / 2 ^ (f + k) % 2 * 2 ^ (f + k) := by
    have := Nat.div_add_mod (w / 2 ^ (f + k)) 2
    rw [← Nat.mul_assoc, ← Nat.add_mul]
    congr 1
    omega
  rw [e1]
  have d : putf w f k v = w / 2 ^ (f + k) * 2 ^ (f + k) + v % 2 ^ k * 2 ^ f + w % 2 ^ f := rfl
  have g : putf w f (k + 1) v = w / 2 ^ (f + (k + 1)) * 2 ^ (f + (k + 1)) + v % 2 ^ (k + 1) * 2 ^ f + w % 2 ^ f := rfl
  rw [g, e2, e4, e3, d, e5]
  omega
end Go.Proofs.YtepiiiekcmbpaaaDoor.Bits
