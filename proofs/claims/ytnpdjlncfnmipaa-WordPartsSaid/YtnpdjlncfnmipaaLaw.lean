/-
  Contracts of the law's own helpers: cut keeps a value's low bits; the chapter's examples hold.
-/
import Derived.Test.YtnpdjlncfnmipaaArr
namespace Go.Proofs.Ytnpdjlncfnmipaa.Lw
open Go.RowKit Go.Proofs.Ytnpdjlncfnmipaa.Bits Go.Proofs.Ytnpdjlncfnmipaa.Wd

/-- The low bits of a value. -/
def cutI (v n : Int) : Int := ((v.toNat % 2 ^ n.toNat : Nat) : Int)
theorem cutI_bd (v n : Int) : 0 ≤ cutI v n ∧ cutI v n ≤ onesI n := by
  have := Nat.mod_lt v.toNat (Nat.two_pow_pos n.toNat)
  unfold cutI onesI
  omega
theorem cut_wide (v : Int) (hv : U64 v) : cutI v 64 = v := by
  obtain ⟨h1, h2⟩ := hv
  unfold cutI
  rw [Nat.mod_eq_of_lt (by simp; omega)]
  omega
theorem cut_form (v n : Int) (hv : U64 v) (h1 : 1 ≤ n) (h2 : n < 64) :
    bits .and .u64 v (IntKind.u64.wrap (IntKind.u64.wrap (2 ^ n.toNat) - 1)) = cutI v n := by
  have hp : 2 ^ n.toNat ≤ 2 ^ 63 := Nat.pow_le_pow_right (by omega) (by omega)
  have hq := Nat.two_pow_pos n.toNat
  have e : (2 : Int) ^ n.toNat = ((2 ^ n.toNat : Nat) : Int) := by simp
  have e2 : IntKind.u64.wrap (IntKind.u64.wrap (2 ^ n.toNat) - 1) = ((2 ^ n.toNat - 1 : Nat) : Int) := by
    rw [e, IntKind.wrap_u64, IntKind.wrap_u64]
    generalize 2 ^ n.toNat = q at *
    omega
  obtain ⟨g1, g2⟩ := hv
  rw [e2, u64_and _ _ g1 g2 (by omega) (by omega), Int.toNat_natCast, Nat.and_two_pow_sub_one_eq_mod]
  rfl
theorem cut_any (v n : Int) (w : World) (hv : U64 v) (h1 : 1 ≤ n) (h2 : n ≤ 64) :
    Calls Try.prog 20 #[.int .u64 v, .int .i64 n] w fun e w' => e = .returned (.int .u64 (cutI v n)) ∧ w = w' := by
  by_cases hn : n = 64
  · subst hn
    have HC := Lib.hid (cut_wide v hv)
    go_enter Try.func20, Try.ntmps20
    go_wp2_with fail
    go_ret
    rw [HC.out]
    exact ⟨rfl, rfl⟩
  · have h3 : n < 64 := by omega
    have HC := Lib.hid (cut_form v n hv h1 h3)
    clear hn h2
    go_enter Try.func20, Try.ntmps20
    go_wp2_with fail
    go_ret
    rw [← HC.out]
    exact ⟨rfl, rfl⟩

theorem ex_get : getI 4660 4 8 = 35 := by decide
theorem ex_set : setI 4660 4 8 255 = 8180 := by decide
theorem ex_fd : IsFd 4 8 := by unfold IsFd; omega
theorem ex_u64 : U64 4660 := by unfold U64; omega
theorem ex_v : (255 : Int) ≤ onesI 8 := by decide
set_option maxHeartbeats 400000 in
theorem alive_any (w : World) :
    Calls Try.prog 12 #[] w fun e w' => e = .returned (.bool true) ∧ Below w.heap.size w w' := by
  go_enter Try.func12, Try.ntmps12
  go_wp2_with fail
  refine (get_yes 4660 4 8 _ ex_u64 ex_fd).mono ?_
  rw [ex_get]
  rintro e w' ⟨rfl, k1, rfl⟩
  go_wp2_with fail
  refine (set_yes 4660 4 8 255 _ ex_u64 ex_fd (by omega) ex_v).mono ?_
  rw [ex_set]
  rintro e w' ⟨rfl, k2, rfl⟩
  go_wp2_with fail
  refine (Ar.bytes_any 258 _ (by unfold U64; omega)).mono ?_
  rintro e w' ⟨rfl, hb⟩
  have hq := Ar.eq8 2 1 0 0 0 0 0 0
  go_wp2_with fail
  go_ret
  exact ⟨rfl, (below_drewN (Below.refl _ _) _).trans hb⟩
end Go.Proofs.Ytnpdjlncfnmipaa.Lw
