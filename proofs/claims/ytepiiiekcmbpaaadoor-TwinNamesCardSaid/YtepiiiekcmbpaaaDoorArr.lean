/-
  Contracts of Bytes and Of, of package word and of the reference.
-/
import Derived.Test.YtepiiiekcmbpaaaDoorWord
import Derived.LoopN
import Derived.Handy
namespace Go.Proofs.YtepiiiekcmbpaaaDoor.Ar
open Go.RowKit Go.Proofs.YtepiiiekcmbpaaaDoor.Bits Go.Proofs.YtepiiiekcmbpaaaDoor.Wd

/-- Eight bytes equal themselves. -/
theorem eq8 (b0 b1 b2 b3 b4 b5 b6 b7 : Int) (w : World) :
    (Op.equalIn 10000 82 (.agg #[.int .u8 b0, .int .u8 b1, .int .u8 b2, .int .u8 b3, .int .u8 b4, .int .u8 b5, .int .u8 b6, .int .u8 b7])
      (.agg #[.int .u8 b0, .int .u8 b1, .int .u8 b2, .int .u8 b3, .int .u8 b4, .int .u8 b5, .int .u8 b6, .int .u8 b7])).run Tryd.prog w = .ok true w := by
  have u5 := Tryd.underlying5
  have a5 := Tryd.isAgg5
  have z5 := Tryd.sizeOf5
  rw [show (10000 : Nat) = 9999 + 1 from rfl, Op.equalIn]
  simp only [Sem.run_bind, run_underlying Tryd.underlying82, Result.andThen_ok]
  simp only [Std.Legacy.Range.forIn_eq_forIn_range', Std.Legacy.Range.size, Nat.sub_zero, Nat.add_sub_cancel, Nat.div_one, List.range'_succ, List.range'_zero, List.forIn_cons, List.forIn_nil]
  go_simp

set_option maxHeartbeats 1000000 in
theorem bytes_ex (a : Int) (w : World) (ha : U64 a) :
    Calls Tryd.prog 47 #[.int .u64 a] w fun e w' => e = .returned (.agg #[.int .u8 (a % 256), .int .u8 (a / 256 % 256), .int .u8 (a / 65536 % 256), .int .u8 (a / 16777216 % 256), .int .u8 (a / 4294967296 % 256), .int .u8 (a / 1099511627776 % 256), .int .u8 (a / 281474976710656 % 256), .int .u8 (a / 72057594037927936)]) ∧ (w.alloc (.cells #[.int .u8 (a % 256), .int .u8 (a / 256 % 256), .int .u8 (a / 65536 % 256), .int .u8 (a / 16777216 % 256), .int .u8 (a / 4294967296 % 256), .int .u8 (a / 1099511627776 % 256), .int .u8 (a / 281474976710656 % 256), .int .u8 (a / 72057594037927936)] 82)).alloc (.cells #[.int .u8 (a % 256), .int .u8 (a / 256 % 256), .int .u8 (a / 65536 % 256), .int .u8 (a / 16777216 % 256), .int .u8 (a / 4294967296 % 256), .int .u8 (a / 1099511627776 % 256), .int .u8 (a / 281474976710656 % 256), .int .u8 (a / 72057594037927936)] 82) = w' := by
  obtain ⟨h1, h2⟩ := ha
  go_enter Tryd.func47, Tryd.ntmps47
  go_wp2
  refine wp_loop_rounds 9 ?_
  repeat (rw [rounds_succ]; go_wp2)
  refine bodyPost_ret (v := .agg #[.int .u8 (a % 256), .int .u8 (a / 256 % 256), .int .u8 (a / 65536 % 256), .int .u8 (a / 16777216 % 256), .int .u8 (a / 4294967296 % 256), .int .u8 (a / 1099511627776 % 256), .int .u8 (a / 281474976710656 % 256), .int .u8 (a / 72057594037927936)]) (by simp [results, Tryd.results47, go_sem]) rfl ⟨rfl, ?_⟩
  rfl

set_option maxHeartbeats 1000000 in
theorem refBytes_ex (a : Int) (w : World) (ha : U64 a) :
    Calls Tryd.prog 45 #[.int .u64 a] w fun e w' => e = .returned (.agg #[.int .u8 (a % 256), .int .u8 (a / 256 % 256), .int .u8 (a / 65536 % 256), .int .u8 (a / 16777216 % 256), .int .u8 (a / 4294967296 % 256), .int .u8 (a / 1099511627776 % 256), .int .u8 (a / 281474976710656 % 256), .int .u8 (a / 72057594037927936)]) ∧ (w.alloc (.cells #[.int .u8 (a % 256), .int .u8 (a / 256 % 256), .int .u8 (a / 65536 % 256), .int .u8 (a / 16777216 % 256), .int .u8 (a / 4294967296 % 256), .int .u8 (a / 1099511627776 % 256), .int .u8 (a / 281474976710656 % 256), .int .u8 (a / 72057594037927936)] 82)).alloc (.cells #[.int .u8 (a % 256), .int .u8 (a / 256 % 256), .int .u8 (a / 65536 % 256), .int .u8 (a / 16777216 % 256), .int .u8 (a / 4294967296 % 256), .int .u8 (a / 1099511627776 % 256), .int .u8 (a / 281474976710656 % 256), .int .u8 (a / 72057594037927936)] 82) = w' := by
  obtain ⟨h1, h2⟩ := ha
  go_enter Tryd.func45, Tryd.ntmps45
  go_wp2
  refine wp_loop_rounds 9 ?_
  repeat (rw [rounds_succ]; go_wp2)
  have e : #[Value.int .u8 (a % 256), Value.int .u8 (a / 256 % 256),
              Value.int .u8 (a / 256 / 256 % 256), Value.int .u8 (a / 256 / 256 / 256 % 256),
              Value.int .u8 (a / 256 / 256 / 256 / 256 % 256),
              Value.int .u8 (a / 256 / 256 / 256 / 256 / 256 % 256),
              Value.int .u8 (a / 256 / 256 / 256 / 256 / 256 / 256 % 256),
              Value.int .u8 (a / 256 / 256 / 256 / 256 / 256 / 256 / 256 % 256)] = #[.int .u8 (a % 256), .int .u8 (a / 256 % 256), .int .u8 (a / 65536 % 256), .int .u8 (a / 16777216 % 256), .int .u8 (a / 4294967296 % 256), .int .u8 (a / 1099511627776 % 256), .int .u8 (a / 281474976710656 % 256), .int .u8 (a / 72057594037927936)] := by
    rw [show a / 256 / 256 = a / 65536 from by omega, show a / 65536 / 256 = a / 16777216 from by omega, show a / 16777216 / 256 = a / 4294967296 from by omega,
      show a / 4294967296 / 256 = a / 1099511627776 from by omega, show a / 1099511627776 / 256 = a / 281474976710656 from by omega,
      show a / 281474976710656 / 256 = a / 72057594037927936 from by omega, show a / 72057594037927936 % 256 = a / 72057594037927936 from by omega]
  refine bodyPost_ret (v := .agg #[.int .u8 (a % 256), .int .u8 (a / 256 % 256), .int .u8 (a / 65536 % 256), .int .u8 (a / 16777216 % 256), .int .u8 (a / 4294967296 % 256), .int .u8 (a / 1099511627776 % 256), .int .u8 (a / 281474976710656 % 256), .int .u8 (a / 72057594037927936)]) (by rw [← e]; simp [results, Tryd.results45, go_sem]) rfl ⟨rfl, ?_⟩
  rw [e]

/-- The word of eight bytes. -/
def wordI (b0 b1 b2 b3 b4 b5 b6 b7 : Int) : Int := b0 + 256 * b1 + 65536 * b2 + 16777216 * b3 + 4294967296 * b4 + 1099511627776 * b5 + 281474976710656 * b6 + 72057594037927936 * b7
theorem or_add (x b : Int) (k : Nat) (hk : k + 8 ≤ 64) (hx : 0 ≤ x) (hx2 : x < 2 ^ k) (hb : 0 ≤ b) (hb2 : b < 256) :
    bits .or .u64 x (2 ^ k * b) = x + 2 ^ k * b := by
  obtain ⟨X, rfl⟩ := Int.eq_ofNat_of_zero_le hx
  obtain ⟨B, rfl⟩ := Int.eq_ofNat_of_zero_le hb
  have hX : X < 2 ^ k := by
    have h : ((2 : Int) ^ k) = ((2 ^ k : Nat) : Int) := by simp
    rw [h] at hx2
    omega
  have p1 : 2 ^ k ≤ 2 ^ 56 := Nat.pow_le_pow_right (by omega) (by omega)
  have p2 : 2 ^ k * B < 18446744073709551616 := by
    have : 2 ^ k * B ≤ 2 ^ 56 * 255 := Nat.mul_le_mul p1 (by omega)
    omega
  have e : ((2 : Int) ^ k * (B : Int)) = ((2 ^ k * B : Nat) : Int) := by simp
  rw [e, u64_or_nat _ _ (by omega) p2, Nat.or_comm, ← Nat.two_pow_add_eq_or_of_lt hX, Nat.add_comm]
  simp

theorem of_form (b0 b1 b2 b3 b4 b5 b6 b7 : Int) (h0 : 0 ≤ b0 ∧ b0 < 256) (h1 : 0 ≤ b1 ∧ b1 < 256) (h2 : 0 ≤ b2 ∧ b2 < 256) (h3 : 0 ≤ b3 ∧ b3 < 256) (h4 : 0 ≤ b4 ∧ b4 < 256) (h5 : 0 ≤ b5 ∧ b5 < 256) (h6 : 0 ≤ b6 ∧ b6 < 256) (h7 : 0 ≤ b7 ∧ b7 < 256) : bits .or .u64 (bits .or .u64 (bits .or .u64 (bits .or .u64 (bits .or .u64 (bits .or .u64 (bits .or .u64 (bits .or .u64 0 b0) (b1 * 256)) (b2 * 65536)) (b3 * 16777216)) (b4 * 4294967296)) (b5 * 1099511627776)) (b6 * 281474976710656)) (b7 * 72057594037927936) = wordI b0 b1 b2 b3 b4 b5 b6 b7 := by
  have z : bits .or .u64 0 b0 = b0 := by
    obtain ⟨B, rfl⟩ := Int.eq_ofNat_of_zero_le h0.1
    have := u64_or_nat 0 B (by omega) (by omega)
    simpa using this
  rw [z]
  rw [show b1 * 256 = 2 ^ 8 * b1 from by rw [show (2 : Int) ^ 8 = 256 from by decide]; omega, or_add _ _ 8 (by decide) (by omega) (by rw [show (2 : Int) ^ 8 = 256 from by decide]; omega) h1.1 h1.2, show (2 : Int) ^ 8 * b1 = 256 * b1 from by rw [show (2 : Int) ^ 8 = 256 from by decide]]
  rw [show b2 * 65536 = 2 ^ 16 * b2 from by rw [show (2 : Int) ^ 16 = 65536 from by decide]; omega, or_add _ _ 16 (by decide) (by omega) (by rw [show (2 : Int) ^ 16 = 65536 from by decide]; omega) h2.1 h2.2, show (2 : Int) ^ 16 * b2 = 65536 * b2 from by rw [show (2 : Int) ^ 16 = 65536 from by decide]]
  rw [show b3 * 16777216 = 2 ^ 24 * b3 from by rw [show (2 : Int) ^ 24 = 16777216 from by decide]; omega, or_add _ _ 24 (by decide) (by omega) (by rw [show (2 : Int) ^ 24 = 16777216 from by decide]; omega) h3.1 h3.2, show (2 : Int) ^ 24 * b3 = 16777216 * b3 from by rw [show (2 : Int) ^ 24 = 16777216 from by decide]]
  rw [show b4 * 4294967296 = 2 ^ 32 * b4 from by rw [show (2 : Int) ^ 32 = 4294967296 from by decide]; omega, or_add _ _ 32 (by decide) (by omega) (by rw [show (2 : Int) ^ 32 = 4294967296 from by decide]; omega) h4.1 h4.2, show (2 : Int) ^ 32 * b4 = 4294967296 * b4 from by rw [show (2 : Int) ^ 32 = 4294967296 from by decide]]
  rw [show b5 * 1099511627776 = 2 ^ 40 * b5 from by rw [show (2 : Int) ^ 40 = 1099511627776 from by decide]; omega, or_add _ _ 40 (by decide) (by omega) (by rw [show (2 : Int) ^ 40 = 1099511627776 from by decide]; omega) h5.1 h5.2, show (2 : Int) ^ 40 * b5 = 1099511627776 * b5 from by rw [show (2 : Int) ^ 40 = 1099511627776 from by decide]]
  rw [show b6 * 281474976710656 = 2 ^ 48 * b6 from by rw [show (2 : Int) ^ 48 = 281474976710656 from by decide]; omega, or_add _ _ 48 (by decide) (by omega) (by rw [show (2 : Int) ^ 48 = 281474976710656 from by decide]; omega) h6.1 h6.2, show (2 : Int) ^ 48 * b6 = 281474976710656 * b6 from by rw [show (2 : Int) ^ 48 = 281474976710656 from by decide]]
  rw [show b7 * 72057594037927936 = 2 ^ 56 * b7 from by rw [show (2 : Int) ^ 56 = 72057594037927936 from by decide]; omega, or_add _ _ 56 (by decide) (by omega) (by rw [show (2 : Int) ^ 56 = 72057594037927936 from by decide]; omega) h7.1 h7.2, show (2 : Int) ^ 56 * b7 = 72057594037927936 * b7 from by rw [show (2 : Int) ^ 56 = 72057594037927936 from by decide]]
  unfold wordI
  omega
theorem ret_int {k : IntKind} {a b : Int} (h : a = b) : Ending.returned (.int k a) = .returned (.int k b) := by rw [h]
theorem wordI_bytes (a : Int) : wordI (a % 256) (a / 256 % 256) (a / 65536 % 256) (a / 16777216 % 256) (a / 4294967296 % 256) (a / 1099511627776 % 256) (a / 281474976710656 % 256) (a / 72057594037927936) = a := by
  unfold wordI
  omega

theorem bytes_any (a : Int) (w : World) (ha : U64 a) :
    Calls Tryd.prog 47 #[.int .u64 a] w fun e w' => e = .returned (.agg #[.int .u8 (a % 256), .int .u8 (a / 256 % 256), .int .u8 (a / 65536 % 256), .int .u8 (a / 16777216 % 256), .int .u8 (a / 4294967296 % 256), .int .u8 (a / 1099511627776 % 256), .int .u8 (a / 281474976710656 % 256), .int .u8 (a / 72057594037927936)]) ∧ Below w.heap.size w w' :=
  (bytes_ex a w ha).mono fun _ _ ⟨h, hw⟩ => ⟨h, hw ▸ ((Below.refl _ _).alloc (Nat.le_refl _) _).alloc (by simp) _⟩
end Go.Proofs.YtepiiiekcmbpaaaDoor.Ar
