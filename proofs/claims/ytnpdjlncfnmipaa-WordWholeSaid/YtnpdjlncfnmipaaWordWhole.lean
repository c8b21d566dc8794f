/-
  The law WordWhole returns true for every word and every eight bytes; no condition.
-/
import Derived.Test.YtnpdjlncfnmipaaStep
import Derived.Test.YtnpdjlncfnmipaaLaw
import Derived.Deep.RegionWith
namespace Go.Proofs.Ytnpdjlncfnmipaa.wordWhole
open Go.ChangeShapes Go.WideShapes Go.ChangeAt Go.RowKit Go.Proofs.Ytnpdjlncfnmipaa.Wd Go.Proofs.Ytnpdjlncfnmipaa.Lw
set_option linter.unusedVariables false
set_option maxRecDepth 100000
theorem byte_0 (a0 : Int) (w : World) (ha : U64 a0) :
    Calls Try.prog 10 #[.int .u64 a0, .int .i64 0, .int .i64 8] w fun e w' => e = .returned (.tuple #[.int .u64 (a0 % 256), .int .i64 0]) ∧ ∃ k, w.drewN k = w' := by
  have e : getI a0 0 8 = a0 % 256 := by
    have h1 := ha.1
    have h2 := ha.2
    unfold getI Bits.fld
    have p : (2 : Nat) ^ (0 : Int).toNat = 1 := by decide
    have q : (2 : Nat) ^ (8 : Int).toNat = 256 := by decide
    simp only [p, q]
    omega
  rw [← e]
  exact get_yes a0 0 8 w ha ⟨by decide, by decide, by decide, by decide⟩
theorem byte_1 (a0 : Int) (w : World) (ha : U64 a0) :
    Calls Try.prog 10 #[.int .u64 a0, .int .i64 8, .int .i64 8] w fun e w' => e = .returned (.tuple #[.int .u64 (a0 / 256 % 256), .int .i64 0]) ∧ ∃ k, w.drewN k = w' := by
  have e : getI a0 8 8 = a0 / 256 % 256 := by
    have h1 := ha.1
    have h2 := ha.2
    unfold getI Bits.fld
    have p : (2 : Nat) ^ (8 : Int).toNat = 256 := by decide
    simp only [p]
    omega
  rw [← e]
  exact get_yes a0 8 8 w ha ⟨by decide, by decide, by decide, by decide⟩
theorem byte_2 (a0 : Int) (w : World) (ha : U64 a0) :
    Calls Try.prog 10 #[.int .u64 a0, .int .i64 16, .int .i64 8] w fun e w' => e = .returned (.tuple #[.int .u64 (a0 / 65536 % 256), .int .i64 0]) ∧ ∃ k, w.drewN k = w' := by
  have e : getI a0 16 8 = a0 / 65536 % 256 := by
    have h1 := ha.1
    have h2 := ha.2
    unfold getI Bits.fld
    have p : (2 : Nat) ^ (16 : Int).toNat = 65536 := by decide
    have q : (2 : Nat) ^ (8 : Int).toNat = 256 := by decide
    simp only [p, q]
    omega
  rw [← e]
  exact get_yes a0 16 8 w ha ⟨by decide, by decide, by decide, by decide⟩
theorem byte_3 (a0 : Int) (w : World) (ha : U64 a0) :
    Calls Try.prog 10 #[.int .u64 a0, .int .i64 24, .int .i64 8] w fun e w' => e = .returned (.tuple #[.int .u64 (a0 / 16777216 % 256), .int .i64 0]) ∧ ∃ k, w.drewN k = w' := by
  have e : getI a0 24 8 = a0 / 16777216 % 256 := by
    have h1 := ha.1
    have h2 := ha.2
    unfold getI Bits.fld
    have p : (2 : Nat) ^ (24 : Int).toNat = 16777216 := by decide
    have q : (2 : Nat) ^ (8 : Int).toNat = 256 := by decide
    simp only [p, q]
    omega
  rw [← e]
  exact get_yes a0 24 8 w ha ⟨by decide, by decide, by decide, by decide⟩
theorem byte_4 (a0 : Int) (w : World) (ha : U64 a0) :
    Calls Try.prog 10 #[.int .u64 a0, .int .i64 32, .int .i64 8] w fun e w' => e = .returned (.tuple #[.int .u64 (a0 / 4294967296 % 256), .int .i64 0]) ∧ ∃ k, w.drewN k = w' := by
  have e : getI a0 32 8 = a0 / 4294967296 % 256 := by
    have h1 := ha.1
    have h2 := ha.2
    unfold getI Bits.fld
    have p : (2 : Nat) ^ (32 : Int).toNat = 4294967296 := by decide
    have q : (2 : Nat) ^ (8 : Int).toNat = 256 := by decide
    simp only [p, q]
    omega
  rw [← e]
  exact get_yes a0 32 8 w ha ⟨by decide, by decide, by decide, by decide⟩
theorem byte_5 (a0 : Int) (w : World) (ha : U64 a0) :
    Calls Try.prog 10 #[.int .u64 a0, .int .i64 40, .int .i64 8] w fun e w' => e = .returned (.tuple #[.int .u64 (a0 / 1099511627776 % 256), .int .i64 0]) ∧ ∃ k, w.drewN k = w' := by
  have e : getI a0 40 8 = a0 / 1099511627776 % 256 := by
    have h1 := ha.1
    have h2 := ha.2
    unfold getI Bits.fld
    have p : (2 : Nat) ^ (40 : Int).toNat = 1099511627776 := by decide
    have q : (2 : Nat) ^ (8 : Int).toNat = 256 := by decide
    simp only [p, q]
    omega
  rw [← e]
  exact get_yes a0 40 8 w ha ⟨by decide, by decide, by decide, by decide⟩
theorem byte_6 (a0 : Int) (w : World) (ha : U64 a0) :
    Calls Try.prog 10 #[.int .u64 a0, .int .i64 48, .int .i64 8] w fun e w' => e = .returned (.tuple #[.int .u64 (a0 / 281474976710656 % 256), .int .i64 0]) ∧ ∃ k, w.drewN k = w' := by
  have e : getI a0 48 8 = a0 / 281474976710656 % 256 := by
    have h1 := ha.1
    have h2 := ha.2
    unfold getI Bits.fld
    have p : (2 : Nat) ^ (48 : Int).toNat = 281474976710656 := by decide
    have q : (2 : Nat) ^ (8 : Int).toNat = 256 := by decide
    simp only [p, q]
    omega
  rw [← e]
  exact get_yes a0 48 8 w ha ⟨by decide, by decide, by decide, by decide⟩
theorem byte_7 (a0 : Int) (w : World) (ha : U64 a0) :
    Calls Try.prog 10 #[.int .u64 a0, .int .i64 56, .int .i64 8] w fun e w' => e = .returned (.tuple #[.int .u64 (a0 / 72057594037927936), .int .i64 0]) ∧ ∃ k, w.drewN k = w' := by
  have e : getI a0 56 8 = a0 / 72057594037927936 := by
    have h1 := ha.1
    have h2 := ha.2
    unfold getI Bits.fld
    have p : (2 : Nat) ^ (56 : Int).toNat = 72057594037927936 := by decide
    have q : (2 : Nat) ^ (8 : Int).toNat = 256 := by decide
    simp only [p, q]
    omega
  rw [← e]
  exact get_yes a0 56 8 w ha ⟨by decide, by decide, by decide, by decide⟩
theorem of_c (a0 : Int) (w : World) (ha : U64 a0) :
    Calls Try.prog 17 #[.agg #[.int .u8 (a0 % 256), .int .u8 (a0 / 256 % 256), .int .u8 (a0 / 65536 % 256), .int .u8 (a0 / 16777216 % 256), .int .u8 (a0 / 4294967296 % 256), .int .u8 (a0 / 1099511627776 % 256), .int .u8 (a0 / 281474976710656 % 256), .int .u8 (a0 / 72057594037927936)]] w fun e w' => e = .returned (.int .u64 a0) ∧ w.alloc (.cells #[.int .u8 (a0 % 256), .int .u8 (a0 / 256 % 256), .int .u8 (a0 / 65536 % 256), .int .u8 (a0 / 16777216 % 256), .int .u8 (a0 / 4294967296 % 256), .int .u8 (a0 / 1099511627776 % 256), .int .u8 (a0 / 281474976710656 % 256), .int .u8 (a0 / 72057594037927936)] 33) = w' := by
  have h1 := ha.1
  have h2 := ha.2
  have h := Ar.of_ex (a0 % 256) (a0 / 256 % 256) (a0 / 65536 % 256) (a0 / 16777216 % 256) (a0 / 4294967296 % 256) (a0 / 1099511627776 % 256) (a0 / 281474976710656 % 256) (a0 / 72057594037927936) w
    (by omega) (by omega) (by omega) (by omega) (by omega) (by omega) (by omega) (by omega)
  rw [Ar.wordI_bytes] at h
  exact h
theorem bytes_b (b0 b1 b2 b3 b4 b5 b6 b7 : Int) (w : World) (h0 : 0 ≤ b0 ∧ b0 < 256) (h1 : 0 ≤ b1 ∧ b1 < 256) (h2 : 0 ≤ b2 ∧ b2 < 256) (h3 : 0 ≤ b3 ∧ b3 < 256) (h4 : 0 ≤ b4 ∧ b4 < 256) (h5 : 0 ≤ b5 ∧ b5 < 256) (h6 : 0 ≤ b6 ∧ b6 < 256) (h7 : 0 ≤ b7 ∧ b7 < 256) :
    Calls Try.prog 15 #[.int .u64 (Ar.wordI b0 b1 b2 b3 b4 b5 b6 b7)] w fun e w' => e = .returned (.agg #[.int .u8 b0, .int .u8 b1, .int .u8 b2, .int .u8 b3, .int .u8 b4, .int .u8 b5, .int .u8 b6, .int .u8 b7]) ∧ (w.alloc (.cells #[.int .u8 b0, .int .u8 b1, .int .u8 b2, .int .u8 b3, .int .u8 b4, .int .u8 b5, .int .u8 b6, .int .u8 b7] 33)).alloc (.cells #[.int .u8 b0, .int .u8 b1, .int .u8 b2, .int .u8 b3, .int .u8 b4, .int .u8 b5, .int .u8 b6, .int .u8 b7] 33) = w' := by
  have h := Ar.bytes_ex (Ar.wordI b0 b1 b2 b3 b4 b5 b6 b7) w (by unfold Ar.wordI U64; omega)
  have e0 : Ar.wordI b0 b1 b2 b3 b4 b5 b6 b7 % 256 = b0 := by unfold Ar.wordI; omega
  have e1 : Ar.wordI b0 b1 b2 b3 b4 b5 b6 b7 / 256 % 256 = b1 := by unfold Ar.wordI; omega
  have e2 : Ar.wordI b0 b1 b2 b3 b4 b5 b6 b7 / 65536 % 256 = b2 := by unfold Ar.wordI; omega
  have e3 : Ar.wordI b0 b1 b2 b3 b4 b5 b6 b7 / 16777216 % 256 = b3 := by unfold Ar.wordI; omega
  have e4 : Ar.wordI b0 b1 b2 b3 b4 b5 b6 b7 / 4294967296 % 256 = b4 := by unfold Ar.wordI; omega
  have e5 : Ar.wordI b0 b1 b2 b3 b4 b5 b6 b7 / 1099511627776 % 256 = b5 := by unfold Ar.wordI; omega
  have e6 : Ar.wordI b0 b1 b2 b3 b4 b5 b6 b7 / 281474976710656 % 256 = b6 := by unfold Ar.wordI; omega
  have e7 : Ar.wordI b0 b1 b2 b3 b4 b5 b6 b7 / 72057594037927936 = b7 := by unfold Ar.wordI; omega
  rw [e0, e1, e2, e3, e4, e5, e6, e7] at h
  exact h
set_option maxHeartbeats 4000000 in
theorem walk (a0 b0 b1 b2 b3 b4 b5 b6 b7 : Int) (w0 : 0 ≤ a0 ∧ a0 < 18446744073709551616) (h0 : 0 ≤ b0 ∧ b0 < 256) (h1 : 0 ≤ b1 ∧ b1 < 256) (h2 : 0 ≤ b2 ∧ b2 < 256) (h3 : 0 ≤ b3 ∧ b3 < 256) (h4 : 0 ≤ b4 ∧ b4 < 256) (h5 : 0 ≤ b5 ∧ b5 < 256) (h6 : 0 ≤ b6 ∧ b6 < 256) (h7 : 0 ≤ b7 ∧ b7 < 256) (w : World) :
    Calls Try.prog 8 #[.int .u64 a0, .agg #[.int .u8 b0, .int .u8 b1, .int .u8 b2, .int .u8 b3, .int .u8 b4, .int .u8 b5, .int .u8 b6, .int .u8 b7]] w fun e w' => e = .returned (.bool true) ∧ Below w.heap.size w w' := by
  have HA := Lib.hid (show U64 a0 from w0)
  have HQ := Lib.hid (Ar.eq8 b0 b1 b2 b3 b4 b5 b6 b7)
  have HS := Lib.hid (show (a0 % 256 + a0 / 256 % 256 * 256 + a0 / 65536 % 256 * 65536 + a0 / 16777216 % 256 * 16777216 + a0 / 4294967296 % 256 * 4294967296 +
    a0 / 1099511627776 % 256 * 1099511627776 + a0 / 281474976710656 % 256 * 281474976710656 + a0 / 72057594037927936 * 72057594037927936 == a0) = true from beq_iff_eq.2 (by omega))
  obtain ⟨g1, g2⟩ := w0
  go_enter Try.func8, Try.ntmps8
  go_wp2_with fail
  refine (Ar.bytes_ex a0 _ HA.out).mono ?_
  rintro e w' ⟨rfl, rfl⟩
  go_wp2_with fail
  refine wp_loop_rounds 9 ?_
  rw [rounds_succ]
  go_wp2_with fail
  refine (byte_0 a0 _ HA.out).mono ?_
  rintro e w' ⟨rfl, k0, rfl⟩
  go_wp2_with fail
  rw [rounds_succ]
  go_wp2_with fail
  refine (byte_1 a0 _ HA.out).mono ?_
  rintro e w' ⟨rfl, k1, rfl⟩
  go_wp2_with fail
  rw [rounds_succ]
  go_wp2_with fail
  refine (byte_2 a0 _ HA.out).mono ?_
  rintro e w' ⟨rfl, k2, rfl⟩
  go_wp2_with fail
  rw [rounds_succ]
  go_wp2_with fail
  refine (byte_3 a0 _ HA.out).mono ?_
  rintro e w' ⟨rfl, k3, rfl⟩
  go_wp2_with fail
  rw [rounds_succ]
  go_wp2_with fail
  refine (byte_4 a0 _ HA.out).mono ?_
  rintro e w' ⟨rfl, k4, rfl⟩
  go_wp2_with fail
  rw [rounds_succ]
  go_wp2_with fail
  refine (byte_5 a0 _ HA.out).mono ?_
  rintro e w' ⟨rfl, k5, rfl⟩
  go_wp2_with fail
  rw [rounds_succ]
  go_wp2_with fail
  refine (byte_6 a0 _ HA.out).mono ?_
  rintro e w' ⟨rfl, k6, rfl⟩
  go_wp2_with fail
  rw [rounds_succ]
  go_wp2_with fail
  refine (byte_7 a0 _ HA.out).mono ?_
  rintro e w' ⟨rfl, k7, rfl⟩
  go_wp2_with fail
  rw [rounds_succ]
  go_wp2_with fail
  have hs := HS.out
  have hq := HQ.out
  go_region_with (first
    | (go_at_call 17; (with_reducible refine (of_c a0 _ HA.out).mono ?_); rintro e w' ⟨rfl, rfl⟩)
    | (go_at_call 17; (with_reducible refine (Ar.of_ex b0 b1 b2 b3 b4 b5 b6 b7 _ h0 h1 h2 h3 h4 h5 h6 h7).mono ?_); rintro e w' ⟨rfl, rfl⟩)
    | (go_at_call 15; (with_reducible refine (bytes_b b0 b1 b2 b3 b4 b5 b6 b7 _ h0 h1 h2 h3 h4 h5 h6 h7).mono ?_); rintro e w' ⟨rfl, rfl⟩)
    | (go_at_call 12; refine (alive_any _).mono ?_; rintro e w' ⟨rfl, hb⟩))
  all_goals go_wp2
  all_goals go_ret
  all_goals refine ⟨rfl, St.below_then ?_ hb⟩
  all_goals repeat (first | exact Below.refl _ _ | apply below_drewN | apply Below.drew | apply St.below_new)

/-! The row's step. -/
set_option maxRecDepth 100000 in
theorem lifted (os : Os) (started : os.Started) (H : Type) (enc : TypeId × Value → H) :
    ReturnsInHanded {} Try.checked os 8 .any (Rows.wordWholeSpec.pre6 enc Try.prog Try.f8 Rows.wordWholeRow.domain false) (Rows.wordWholeSpec.post enc Try.prog Try.f8 false true false false) := by
  refine returnsInHanded_of_change (C := Try.checked) St.own started (by kernel_rfl) Try.func8
    (ChangeSpec.witness6 (enc := enc) (C := Try.checked) false ⟨#[], #[.int .u64 0, .agg #[.int .u8 0, .int .u8 0, .int .u8 0, .int .u8 0, .int .u8 0, .int .u8 0, .int .u8 0, .int .u8 0]], []⟩ 8 (by kernel_rfl) (by kernel_rfl) (by kernel_rfl) (by kernel_rfl)) ?_
  intro W base args ds gs before hval0 hW hcnd _
  have hval : ∀ (j : Nat) t v, Try.f8.params[j]? = some t → args[j]? = some v → Value.okWide Try.prog W .any base t v := hval0
  have hW' := hW
  obtain ⟨p, q, hA0, hV, rfl, hfz, hnd⟩ := hW
  have hA : DataW.TrodAll enc Try.prog W 0 (fun _ => true) true Try.f8.params.toList args.toList ds p := hA0
  rw [Try.params8] at hA hval
  obtain ⟨v0, vs0, d0, ds0, p0, q0, hargs, rfl, rfl, h0, r0⟩ := trodAll_cons hA
  obtain ⟨v1, vs1, d1, ds1, p1, q1, rfl, rfl, rfl, h1, r1⟩ := trodAll_cons r0
  obtain ⟨rfl, rfl, rfl⟩ := trodAll_nil r1
  obtain rfl : args = #[v0, v1] := by cases args; simp_all
  obtain ⟨a0, rfl, rfl, rfl, w0⟩ := open_int Try.underlying23 (hval 0 23 v0 rfl rfl) h0
  obtain ⟨x10, x11, x12, x13, x14, x15, x16, x17, rfl, g10, g11, g12, g13, g14, g15, g16, g17⟩ := St.open_bytes8 Try.underlying33 Try.underlying5 (by kernel_rfl) (by kernel_rfl) (hval 1 33 v1 rfl rfl) h1
  refine (walk a0 x10 x11 x12 x13 x14 x15 x16 x17 (St.u64_of_wf w0) g10 g11 g12 g13 g14 g15 g16 g17 W).mono fun e W' ⟨he, hb⟩ => ?_
  subst he
  exact St.law_done St.laid (by kernel_rfl) rfl rfl Try.underlying4 rfl hW' hb

theorem over : Rows.wordWholeRow.holds Try.pinned (OpenSpec.ofChange Rows.wordWholeSpec) :=
  OpenClaim.holds_of_wide 8 Try.f8 rfl rfl rfl rfl rfl rfl rfl ⟨rfl, rfl, rfl, rfl, rfl⟩ rfl rfl rfl rfl rfl (by kernel_rfl) Try.func8 (by kernel_rfl)
    (of_decide_eq_true (by kernel_rfl)) (by unfold Func.isWrapper; first | (rw [if_pos (by decide +kernel)]; kernel_rfl) | (rw [if_neg (by decide +kernel)]; exact ⟨rfl, rfl⟩))
    (fun os started H enc _ => lifted os started H enc)
theorem proved : Rows.WordWholeSaid := over
#print axioms proved
end Go.Proofs.Ytnpdjlncfnmipaa.wordWhole
