/-
  Contracts of the functions of package word on fields, and of the law's own helpers: what each returns for every argument. No condition but that words and numbers fit their types.
-/
import Derived.Test.YtepiiiekcmbpaaaDoorRows
import Derived.Test.YtepiiiekcmbpaaaDoorBits
import Derived.WalkKit
import Derived.BigQuiet
import Derived.BigGuardPart
import Derived.Outline
import Derived.Lib.Hide
import Derived.WalkLawsBesides
import Derived.Deep.QuietTactic
import Derived.WalkSmall
namespace Go.Proofs.YtepiiiekcmbpaaaDoor.Wd
open Go.RowKit Go.Proofs.YtepiiiekcmbpaaaDoor.Bits

/-- A word. -/
def U64 (a : Int) : Prop := 0 ≤ a ∧ a < 18446744073709551616
/-- A field there is. -/
def IsFd (f n : Int) : Prop := 0 ≤ f ∧ f < 64 ∧ 1 ≤ n ∧ n ≤ 64 - f
def onesI (n : Int) : Int := ((2 ^ n.toNat - 1 : Nat) : Int)
def getI (a f n : Int) : Int := ((fld a.toNat f.toNat n.toNat : Nat) : Int)
def setI (a f n v : Int) : Int := ((putf a.toNat f.toNat n.toNat v.toNat : Nat) : Int)

theorem pow_le_64 {n : Nat} (h : n ≤ 64) : 2 ^ n ≤ 18446744073709551616 := Nat.le_trans (Nat.pow_le_pow_right (by omega) h) (by decide)
theorem onesI_bd (n : Int) (h : n ≤ 64) : 0 ≤ onesI n ∧ onesI n < 18446744073709551616 := by
  have h1 := pow_le_64 (n := n.toNat) (by omega)
  have h2 := Nat.two_pow_pos n.toNat
  unfold onesI
  omega
theorem getI_bd (a f n : Int) (h : n ≤ 64) : 0 ≤ getI a f n ∧ getI a f n < 18446744073709551616 := by
  have h1 := pow_le_64 (n := n.toNat) (by omega)
  have h2 := fld_lt a.toNat f.toNat n.toNat
  unfold getI
  omega
theorem setI_bd (a f n v : Int) (ha : U64 a) (h : IsFd f n) : 0 ≤ setI a f n v ∧ setI a f n v < 18446744073709551616 := by
  obtain ⟨h1, h2⟩ := ha
  obtain ⟨h3, h4, h5, h6⟩ := h
  have := putf_lt a.toNat f.toNat n.toNat v.toNat 64 (by omega) (by omega)
  unfold setI
  omega


theorem ones_eq (n : Int) (h1 : 1 ≤ n) (h2 : n ≤ 64) : (18446744073709551615 : Int) / 2 ^ (64 - n).toNat = onesI n := by
  obtain ⟨N, rfl⟩ := Int.eq_ofNat_of_zero_le (by omega : 0 ≤ n)
  unfold onesI
  rw [Int.toNat_natCast, ← ones_ops N (by omega), show ((64 : Int) - (N : Int)).toNat = 64 - N from by omega]
  simp
theorem ones_toNat (n : Int) : (onesI n).toNat = 2 ^ n.toNat - 1 := by unfold onesI; omega
theorem div_toNat (a f : Int) (ha : 0 ≤ a) : a / 2 ^ f.toNat = ((a.toNat / 2 ^ f.toNat : Nat) : Int) := by
  obtain ⟨A, rfl⟩ := Int.eq_ofNat_of_zero_le ha
  simp
theorem div_bd (a f : Int) (ha : U64 a) : 0 ≤ a / 2 ^ f.toNat ∧ a / 2 ^ f.toNat < 18446744073709551616 := by
  rw [div_toNat a f ha.1]
  have := Nat.div_le_self a.toNat (2 ^ f.toNat)
  have := ha.1
  have := ha.2
  generalize a.toNat / 2 ^ f.toNat = q at *
  omega
theorem get_eq (a f n : Int) (ha : U64 a) (h : n ≤ 64) : bits .and .u64 (a / 2 ^ f.toNat) (onesI n) = getI a f n := by
  have h1 := div_bd a f ha
  have h2 := onesI_bd n h
  rw [u64_and _ _ h1.1 h1.2 h2.1 h2.2, ones_toNat, div_toNat a f ha.1, Int.toNat_natCast, get_ops]
  rfl
theorem shl_eq (v f n : Int) (hv : 0 ≤ v) (h : IsFd f n) (hvn : v ≤ onesI n) : IntKind.u64.wrap (v * 2 ^ f.toNat) = ((v.toNat * 2 ^ f.toNat : Nat) : Int) ∧ v.toNat * 2 ^ f.toNat < 18446744073709551616 := by
  obtain ⟨h3, h4, h5, h6⟩ := h
  have e := ones_toNat n
  have q := Nat.two_pow_pos n.toNat
  have b := shift_lt n.toNat f.toNat v.toNat (by omega) (by omega)
  refine ⟨?_, b⟩
  rw [IntKind.wrap_u64]
  have c : v * 2 ^ f.toNat = ((v.toNat * 2 ^ f.toNat : Nat) : Int) := by
    obtain ⟨V, rfl⟩ := Int.eq_ofNat_of_zero_le hv
    simp
  rw [c]
  omega
theorem set_eq (a f n v : Int) (ha : U64 a) (h : IsFd f n) (hv : 0 ≤ v) (hvn : v ≤ onesI n) :
    bits .or .u64 (bits .andNot .u64 a (IntKind.u64.wrap (onesI n * 2 ^ f.toNat))) (IntKind.u64.wrap (v * 2 ^ f.toNat)) = setI a f n v := by
  obtain ⟨e1, b1⟩ := shl_eq (onesI n) f n (onesI_bd n (by have := h.2.2.2; have := h.1; omega)).1 h (Int.le_refl _)
  obtain ⟨e2, b2⟩ := shl_eq v f n hv h hvn
  obtain ⟨h1, h2⟩ := ha
  obtain ⟨h3, h4, h5, h6⟩ := h
  have e := ones_toNat n
  have q := Nat.two_pow_pos n.toNat
  rw [e1, e2, u64_andNot _ _ h1 h2 (by omega) (by omega)]
  have l : (a.toNat &&& (18446744073709551615 - (((onesI n).toNat * 2 ^ f.toNat : Nat) : Int).toNat)) < 18446744073709551616 :=
    Nat.lt_of_le_of_lt Nat.and_le_left (by omega)
  rw [u64_or_nat _ _ l b2, Int.toNat_natCast, e, set_ops _ _ _ _ (by omega) (by omega) (by omega)]
  rfl

set_option maxHeartbeats 400000
theorem not_IsFd (f n : Int) (h : ¬ IsFd f n) : f < 0 ∨ (0 ≤ f ∧ 64 ≤ f) ∨ (0 ≤ f ∧ f < 64 ∧ n < 1) ∨ (0 ≤ f ∧ f < 64 ∧ 1 ≤ n ∧ 64 - f < n) := by unfold IsFd at h; omega
theorem ret_bool {a b : Bool} (h : a = b) : Ending.returned (.bool a) = .returned (.bool b) := by rw [h]
end Go.Proofs.YtepiiiekcmbpaaaDoor.Wd
