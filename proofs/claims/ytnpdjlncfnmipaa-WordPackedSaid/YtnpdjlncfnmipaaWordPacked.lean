/-
  The law WordPacked returns true for every word, field, two values and a bit's number; no condition.
-/
import Derived.Test.YtnpdjlncfnmipaaStep
import Derived.Test.YtnpdjlncfnmipaaAlg
namespace Go.Proofs.Ytnpdjlncfnmipaa.wordPacked
open Go.ChangeShapes Go.WideShapes Go.ChangeAt Go.RowKit Go.Proofs.Ytnpdjlncfnmipaa.Wd Go.Proofs.Ytnpdjlncfnmipaa.Lw
set_option linter.unusedVariables false
set_option maxRecDepth 100000
theorem bit_fd {b : Int} (h1 : 0 ≤ b) (h2 : b ≤ 63) : IsFd b 1 := ⟨h1, by omega, by omega, by omega⟩
section
variable (a0 a1 a2 a3 a4 a5 : Int) (w0 : 0 ≤ a0 ∧ a0 < 18446744073709551616) (w3 : 0 ≤ a3 ∧ a3 < 18446744073709551616) (w4 : 0 ≤ a4 ∧ a4 < 18446744073709551616) (w : World)
include w0 w3 w4
set_option maxHeartbeats 2000000 in
theorem walk_inside (h : IsFd a1 a2) (b1 : 0 ≤ a5) (b2 : a5 ≤ 63) (i1 : a1 ≤ a5) (i2 : a5 - a1 < a2) :
    Calls Try.prog 6 #[.int .u64 a0, .int .i64 a1, .int .i64 a2, .int .u64 a3, .int .u64 a4, .int .i64 a5] w fun e w' => e = .returned (.bool true) ∧ Below w.heap.size w w' := by
  have HA := Lib.hid w0
  have HV := Lib.hid w3
  have HU := Lib.hid w4
  have n1 : 1 ≤ a2 := h.2.2.1
  have n2 : a2 ≤ 64 := by have := h.2.2.2; have := h.1; omega
  have hb1 := bit_fd b1 b2
  have VB := cutI_bd a3 a2
  have UB := cutI_bd a4 a2
  have Q1 := Lib.hid (beq_iff_eq.2 (Al.get_set a0 a1 a2 (cutI a3 a2) VB.1 VB.2))
  have Q2 := Lib.hid (beq_iff_eq.2 (show getI (setI a0 a1 a2 (cutI a3 a2)) a5 1 = bits .and .u64 (cutI a3 a2 / 2 ^ (a5 - a1).toNat) 1 from (Al.get_in a0 a1 a2 (cutI a3 a2) a5 h.1 (by omega) i1 (by omega) (Al.cut_u64 a3 a2 n2)).symm))
  have Q3 := Lib.hid (beq_iff_eq.2 (Al.set_set a0 a1 a2 (cutI a3 a2) (cutI a4 a2)))
  have Q4 := Lib.hid (beq_iff_eq.2 (Al.set_own a0 a1 a2 w0.1))
  have X := Lib.hid (setI_bd a0 a1 a2 (cutI a3 a2) w0 h)
  obtain ⟨f1, f2, f3, f4⟩ := id h
  go_enter Try.func6, Try.ntmps6
  go_wp2_with fail
  refine (field_yes a1 a2 _ h).mono ?_
  rintro e w' ⟨rfl, rfl⟩
  go_wp2_with fail
  refine (cut_any a3 a2 _ HV.out n1 n2).mono ?_
  rintro e w' ⟨rfl, rfl⟩
  go_wp2_with fail
  refine (cut_any a4 a2 _ HU.out n1 n2).mono ?_
  rintro e w' ⟨rfl, rfl⟩
  go_wp2_with fail
  refine (set_yes a0 a1 a2 (cutI a3 a2) _ HA.out h VB.1 VB.2).mono ?_
  rintro e w' ⟨rfl, k1, rfl⟩
  go_wp2_with fail
  refine (set_yes (setI a0 a1 a2 (cutI a3 a2)) a1 a2 (cutI a4 a2) _ X.out h UB.1 UB.2).mono ?_
  rintro e w' ⟨rfl, k2, rfl⟩
  go_wp2_with fail
  refine (set_yes a0 a1 a2 (cutI a4 a2) _ HA.out h UB.1 UB.2).mono ?_
  rintro e w' ⟨rfl, k3, rfl⟩
  go_wp2_with fail
  refine (get_yes (setI a0 a1 a2 (cutI a3 a2)) a1 a2 _ X.out h).mono ?_
  rintro e w' ⟨rfl, k4, rfl⟩
  go_wp2_with fail
  refine (get_yes (setI a0 a1 a2 (cutI a3 a2)) a5 1 _ X.out hb1).mono ?_
  rintro e w' ⟨rfl, k5, rfl⟩
  go_wp2_with fail
  refine (get_yes a0 a5 1 _ HA.out hb1).mono ?_
  rintro e w' ⟨rfl, k6, rfl⟩
  go_wp2_with fail
  refine (get_yes a0 a1 a2 _ HA.out h).mono ?_
  rintro e w' ⟨rfl, k7, rfl⟩
  go_wp2_with fail
  refine (set_yes a0 a1 a2 (getI a0 a1 a2) _ HA.out h (getI_bd a0 a1 a2 n2).1 (Al.get_ones a0 a1 a2)).mono ?_
  rintro e w' ⟨rfl, k8, rfl⟩
  have q1 := Q1.out
  have q2 := Q2.out
  have q3 := Q3.out
  have q4 := Q4.out
  go_wp2_with fail
  refine (alive_any _).mono ?_
  rintro e w' ⟨rfl, hb⟩
  go_wp2_with fail
  go_ret
  exact ⟨rfl, (below_drewN (Below.refl _ _) _).trans hb⟩
set_option maxHeartbeats 2000000 in
theorem walk_outside (h : IsFd a1 a2) (b1 : 0 ≤ a5) (b2 : a5 ≤ 63) (i : a5 < a1 ∨ (a1 ≤ a5 ∧ a2 ≤ a5 - a1)) :
    Calls Try.prog 6 #[.int .u64 a0, .int .i64 a1, .int .i64 a2, .int .u64 a3, .int .u64 a4, .int .i64 a5] w fun e w' => e = .returned (.bool true) ∧ Below w.heap.size w w' := by
  have HA := Lib.hid w0
  have HV := Lib.hid w3
  have HU := Lib.hid w4
  have n1 : 1 ≤ a2 := h.2.2.1
  have n2 : a2 ≤ 64 := by have := h.2.2.2; have := h.1; omega
  have hb1 := bit_fd b1 b2
  have VB := cutI_bd a3 a2
  have UB := cutI_bd a4 a2
  have Q1 := Lib.hid (beq_iff_eq.2 (Al.get_set a0 a1 a2 (cutI a3 a2) VB.1 VB.2))
  have Q2 := Lib.hid (beq_iff_eq.2 (show getI (setI a0 a1 a2 (cutI a3 a2)) a5 1 = getI a0 a5 1 from Al.get_far a0 a1 a2 (cutI a3 a2) a5 1 h.1 (by omega) b1 (by omega) (by omega)))
  have Q3 := Lib.hid (beq_iff_eq.2 (Al.set_set a0 a1 a2 (cutI a3 a2) (cutI a4 a2)))
  have Q4 := Lib.hid (beq_iff_eq.2 (Al.set_own a0 a1 a2 w0.1))
  have X := Lib.hid (setI_bd a0 a1 a2 (cutI a3 a2) w0 h)
  obtain ⟨f1, f2, f3, f4⟩ := id h
  rcases i with i | ⟨i1, i2⟩
  all_goals
    go_enter Try.func6, Try.ntmps6
    go_wp2_with fail
    refine (field_yes a1 a2 _ h).mono ?_
    rintro e w' ⟨rfl, rfl⟩
    go_wp2_with fail
    all_goals first | (exfalso; omega) | skip
    refine (cut_any a3 a2 _ HV.out n1 n2).mono ?_
    rintro e w' ⟨rfl, rfl⟩
    go_wp2_with fail
    refine (cut_any a4 a2 _ HU.out n1 n2).mono ?_
    rintro e w' ⟨rfl, rfl⟩
    go_wp2_with fail
    refine (set_yes a0 a1 a2 (cutI a3 a2) _ HA.out h VB.1 VB.2).mono ?_
    rintro e w' ⟨rfl, k1, rfl⟩
    go_wp2_with fail
    refine (set_yes (setI a0 a1 a2 (cutI a3 a2)) a1 a2 (cutI a4 a2) _ X.out h UB.1 UB.2).mono ?_
    rintro e w' ⟨rfl, k2, rfl⟩
    go_wp2_with fail
    refine (set_yes a0 a1 a2 (cutI a4 a2) _ HA.out h UB.1 UB.2).mono ?_
    rintro e w' ⟨rfl, k3, rfl⟩
    go_wp2_with fail
    refine (get_yes (setI a0 a1 a2 (cutI a3 a2)) a1 a2 _ X.out h).mono ?_
    rintro e w' ⟨rfl, k4, rfl⟩
    go_wp2_with fail
    refine (get_yes (setI a0 a1 a2 (cutI a3 a2)) a5 1 _ X.out hb1).mono ?_
    rintro e w' ⟨rfl, k5, rfl⟩
    go_wp2_with fail
    refine (get_yes a0 a5 1 _ HA.out hb1).mono ?_
    rintro e w' ⟨rfl, k6, rfl⟩
    go_wp2_with fail
    refine (get_yes a0 a1 a2 _ HA.out h).mono ?_
    rintro e w' ⟨rfl, k7, rfl⟩
    go_wp2_with fail
    refine (set_yes a0 a1 a2 (getI a0 a1 a2) _ HA.out h (getI_bd a0 a1 a2 n2).1 (Al.get_ones a0 a1 a2)).mono ?_
    rintro e w' ⟨rfl, k8, rfl⟩
    have q1 := Q1.out
    have q2 := Q2.out
    have q3 := Q3.out
    have q4 := Q4.out
    go_wp2_with fail
    refine (alive_any _).mono ?_
    rintro e w' ⟨rfl, hb⟩
    go_wp2_with fail
    go_ret
    exact ⟨rfl, (below_drewN (Below.refl _ _) _).trans hb⟩
end
set_option maxHeartbeats 1000000 in
theorem walk_guard (a0 a1 a2 a3 a4 a5 : Int) (w : World) (h : ¬ IsFd a1 a2 ∨ (IsFd a1 a2 ∧ a5 < 0) ∨ (IsFd a1 a2 ∧ 0 ≤ a5 ∧ 63 < a5)) :
    Calls Try.prog 6 #[.int .u64 a0, .int .i64 a1, .int .i64 a2, .int .u64 a3, .int .u64 a4, .int .i64 a5] w fun e w' => e = .returned (.bool true) ∧ Below w.heap.size w w' := by
  rcases h with h | ⟨h, h2⟩ | ⟨h, h2, h3⟩
  case inl =>
    have H := Lib.hid h
    clear h
    go_enter Try.func6, Try.ntmps6
    go_wp2_with fail
    refine (field_no a1 a2 _ H.out).mono ?_
    rintro e w' ⟨rfl, rfl⟩
    go_wp2_with fail
    refine (alive_any _).mono ?_
    rintro e w' ⟨rfl, hb⟩
    go_wp2_with fail
    go_ret
    exact ⟨rfl, hb⟩
  all_goals
    go_enter Try.func6, Try.ntmps6
    go_wp2_with fail
    refine (field_yes a1 a2 _ h).mono ?_
    rintro e w' ⟨rfl, rfl⟩
    go_wp2_with fail
    all_goals
      refine (alive_any _).mono ?_
      rintro e w' ⟨rfl, hb⟩
      go_wp2_with fail
      go_ret
      exact ⟨rfl, hb⟩
theorem walk (a0 a1 a2 a3 a4 a5 : Int) (w0 : 0 ≤ a0 ∧ a0 < 18446744073709551616) (w1 : -9223372036854775808 ≤ a1 ∧ a1 ≤ 9223372036854775807) (w2 : -9223372036854775808 ≤ a2 ∧ a2 ≤ 9223372036854775807)
    (w3 : 0 ≤ a3 ∧ a3 < 18446744073709551616) (w4 : 0 ≤ a4 ∧ a4 < 18446744073709551616) (w5 : -9223372036854775808 ≤ a5 ∧ a5 ≤ 9223372036854775807) (w : World) :
    Calls Try.prog 6 #[.int .u64 a0, .int .i64 a1, .int .i64 a2, .int .u64 a3, .int .u64 a4, .int .i64 a5] w fun e w' => e = .returned (.bool true) ∧ Below w.heap.size w w' := by
  by_cases h : IsFd a1 a2
  · by_cases b1 : 0 ≤ a5
    · by_cases b2 : a5 ≤ 63
      · by_cases i : a1 ≤ a5 ∧ a5 - a1 < a2
        · exact walk_inside a0 a1 a2 a3 a4 a5 w0 w3 w4 w h b1 b2 i.1 i.2
        · exact walk_outside a0 a1 a2 a3 a4 a5 w0 w3 w4 w h b1 b2 (by omega)
      · exact walk_guard a0 a1 a2 a3 a4 a5 w (.inr (.inr ⟨h, b1, by omega⟩))
    · exact walk_guard a0 a1 a2 a3 a4 a5 w (.inr (.inl ⟨h, by omega⟩))
  · exact walk_guard a0 a1 a2 a3 a4 a5 w (.inl h)

/-! The row's step. -/
set_option maxRecDepth 100000 in
theorem lifted (os : Os) (started : os.Started) (H : Type) (enc : TypeId × Value → H) :
    ReturnsInHanded {} Try.checked os 6 .any (Rows.wordPackedSpec.pre6 enc Try.prog Try.f6 Rows.wordPackedRow.domain false) (Rows.wordPackedSpec.post enc Try.prog Try.f6 false true false false) := by
  refine returnsInHanded_of_change (C := Try.checked) St.own started (by kernel_rfl) Try.func6
    (ChangeSpec.witness6 (enc := enc) (C := Try.checked) false ⟨#[], #[.int .u64 0, .int .i64 0, .int .i64 0, .int .u64 0, .int .u64 0, .int .i64 0], []⟩ 8 (by kernel_rfl) (by kernel_rfl) (by kernel_rfl) (by kernel_rfl)) ?_
  intro W base args ds gs before hval0 hW hcnd _
  have hval : ∀ (j : Nat) t v, Try.f6.params[j]? = some t → args[j]? = some v → Value.okWide Try.prog W .any base t v := hval0
  have hW' := hW
  obtain ⟨p, q, hA0, hV, rfl, hfz, hnd⟩ := hW
  have hA : DataW.TrodAll enc Try.prog W 0 (fun _ => true) true Try.f6.params.toList args.toList ds p := hA0
  rw [Try.params6] at hA hval
  obtain ⟨v0, vs0, d0, ds0, p0, q0, hargs, rfl, rfl, h0, r0⟩ := trodAll_cons hA
  obtain ⟨v1, vs1, d1, ds1, p1, q1, rfl, rfl, rfl, h1, r1⟩ := trodAll_cons r0
  obtain ⟨v2, vs2, d2, ds2, p2, q2, rfl, rfl, rfl, h2, r2⟩ := trodAll_cons r1
  obtain ⟨v3, vs3, d3, ds3, p3, q3, rfl, rfl, rfl, h3, r3⟩ := trodAll_cons r2
  obtain ⟨v4, vs4, d4, ds4, p4, q4, rfl, rfl, rfl, h4, r4⟩ := trodAll_cons r3
  obtain ⟨v5, vs5, d5, ds5, p5, q5, rfl, rfl, rfl, h5, r5⟩ := trodAll_cons r4
  obtain ⟨rfl, rfl, rfl⟩ := trodAll_nil r5
  obtain rfl : args = #[v0, v1, v2, v3, v4, v5] := by cases args; simp_all
  obtain ⟨a0, rfl, rfl, rfl, w0⟩ := open_int Try.underlying23 (hval 0 23 v0 rfl rfl) h0
  obtain ⟨a1, rfl, rfl, rfl, w1⟩ := open_int Try.underlying3 (hval 1 3 v1 rfl rfl) h1
  obtain ⟨a2, rfl, rfl, rfl, w2⟩ := open_int Try.underlying3 (hval 2 3 v2 rfl rfl) h2
  obtain ⟨a3, rfl, rfl, rfl, w3⟩ := open_int Try.underlying23 (hval 3 23 v3 rfl rfl) h3
  obtain ⟨a4, rfl, rfl, rfl, w4⟩ := open_int Try.underlying23 (hval 4 23 v4 rfl rfl) h4
  obtain ⟨a5, rfl, rfl, rfl, w5⟩ := open_int Try.underlying3 (hval 5 3 v5 rfl rfl) h5
  refine (walk a0 a1 a2 a3 a4 a5 (St.u64_of_wf w0) (St.i64_of_wf w1) (St.i64_of_wf w2) (St.u64_of_wf w3) (St.u64_of_wf w4) (St.i64_of_wf w5) W).mono fun e W' ⟨he, hb⟩ => ?_
  subst he
  exact St.law_done St.laid (by kernel_rfl) rfl rfl Try.underlying4 rfl hW' hb

theorem over : Rows.wordPackedRow.holds Try.pinned (OpenSpec.ofChange Rows.wordPackedSpec) :=
  OpenClaim.holds_of_wide 6 Try.f6 rfl rfl rfl rfl rfl rfl rfl ⟨rfl, rfl, rfl, rfl, rfl⟩ rfl rfl rfl rfl rfl (by kernel_rfl) Try.func6 (by kernel_rfl)
    (of_decide_eq_true (by kernel_rfl)) (by unfold Func.isWrapper; first | (rw [if_pos (by decide +kernel)]; kernel_rfl) | (rw [if_neg (by decide +kernel)]; exact ⟨rfl, rfl⟩))
    (fun os started H enc _ => lifted os started H enc)
theorem proved : Rows.WordPackedSaid := over
#print axioms proved
end Go.Proofs.Ytnpdjlncfnmipaa.wordPacked
