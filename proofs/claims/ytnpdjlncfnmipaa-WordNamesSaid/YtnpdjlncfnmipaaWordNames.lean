/-
  The law WordNames returns true: the chapter's examples, the widest fields, and errors; no condition.
-/
import Derived.Test.YtnpdjlncfnmipaaStep
import Derived.Test.YtnpdjlncfnmipaaAlg
import Derived.Deep.QuietTactic
namespace Go.Proofs.Ytnpdjlncfnmipaa.wordNames
open Go.ChangeShapes Go.WideShapes Go.ChangeAt Go.RowKit Go.Proofs.Ytnpdjlncfnmipaa.Wd Go.Proofs.Ytnpdjlncfnmipaa.Lw
set_option linter.unusedVariables false
set_option maxRecDepth 100000
theorem q0 {P : Program} {f : FuncId} {args : Array Value} {w : World} {n : Nat} {v : Value}
    (h : Calls P f args (w.drewN n) fun e w' => e = .returned v ∧ w.drewN n = w') : Calls P f args (w.drewN n) fun e w'' => e = .returned v ∧ ∃ m, w'' = w.drewN m :=
  h.mono fun _ _ h1 => ⟨h1.1, n, h1.2.symm⟩
theorem qa {P : Program} {f : FuncId} {args : Array Value} {w : World} {a n : Nat} {v : Value}
    (h : Calls P f args (w.drewN (a + n)) fun e w' => e = .returned v ∧ w.drewN (a + n) = w') : Calls P f args (w.drewN (a + n)) fun e w'' => e = .returned v ∧ ∃ m, w'' = w.drewN (a + m) :=
  h.mono fun _ _ h1 => ⟨h1.1, n, h1.2.symm⟩
theorem c1 (w : World) :
    Calls Try.prog 10 #[.int .u64 18446744073709551615, .int .i64 0, .int .i64 64] w fun e w' => e = .returned (.tuple #[.int .u64 18446744073709551615, .int .i64 0]) ∧ ∃ k, w.drewN k = w' := by
  have e : getI 18446744073709551615 0 64 = 18446744073709551615 := by decide +kernel
  have h := get_yes 18446744073709551615 0 64 w ⟨by decide, by decide⟩ ⟨by decide, by decide, by decide, by decide⟩
  rw [e] at h
  exact h
theorem c2 (w : World) :
    Calls Try.prog 11 #[.int .u64 5, .int .i64 0, .int .i64 64, .int .u64 18446744073709551615] w fun e w' => e = .returned (.tuple #[.int .u64 18446744073709551615, .int .i64 0]) ∧ ∃ k, w.drewN k = w' := by
  have e : setI 5 0 64 18446744073709551615 = 18446744073709551615 := by decide +kernel
  have o : (18446744073709551615 : Int) ≤ onesI 64 := by decide +kernel
  have h := set_yes 5 0 64 18446744073709551615 w ⟨by decide, by decide⟩ ⟨by decide, by decide, by decide, by decide⟩ (by decide) o
  rw [e] at h
  exact h
theorem c3 (w : World) :
    Calls Try.prog 10 #[.int .u64 9223372036854775808, .int .i64 63, .int .i64 1] w fun e w' => e = .returned (.tuple #[.int .u64 1, .int .i64 0]) ∧ ∃ k, w.drewN k = w' := by
  have e : getI 9223372036854775808 63 1 = 1 := by decide +kernel
  have h := get_yes 9223372036854775808 63 1 w ⟨by decide, by decide⟩ ⟨by decide, by decide, by decide, by decide⟩
  rw [e] at h
  exact h
theorem c4 (w : World) :
    Calls Try.prog 11 #[.int .u64 0, .int .i64 63, .int .i64 1, .int .u64 1] w fun e w' => e = .returned (.tuple #[.int .u64 9223372036854775808, .int .i64 0]) ∧ ∃ k, w.drewN k = w' := by
  have e : setI 0 63 1 1 = 9223372036854775808 := by decide +kernel
  have o : (1 : Int) ≤ onesI 1 := by decide +kernel
  have h := set_yes 0 63 1 1 w ⟨by decide, by decide⟩ ⟨by decide, by decide, by decide, by decide⟩ (by decide) o
  rw [e] at h
  exact h
theorem c5 (w : World) :
    Calls Try.prog 11 #[.int .u64 0, .int .i64 63, .int .i64 1, .int .u64 2] w fun e w' => e = .returned (.tuple #[.int .u64 0, .int .i64 16]) ∧ w = w' := by
  have o : onesI 1 < (2 : Int) := by decide +kernel
  exact set_wide 0 63 1 2 w ⟨by decide, by decide, by decide, by decide⟩ o
theorem c6 (w : World) :
    Calls Try.prog 11 #[.int .u64 0, .int .i64 0, .int .i64 63, .int .u64 9223372036854775808] w fun e w' => e = .returned (.tuple #[.int .u64 0, .int .i64 16]) ∧ w = w' := by
  have o : onesI 63 < (9223372036854775808 : Int) := by decide +kernel
  exact set_wide 0 0 63 9223372036854775808 w ⟨by decide, by decide, by decide, by decide⟩ o
theorem c7 (w : World) :
    Calls Try.prog 11 #[.int .u64 0, .int .i64 1, .int .i64 63, .int .u64 9223372036854775807] w fun e w' => e = .returned (.tuple #[.int .u64 18446744073709551614, .int .i64 0]) ∧ ∃ k, w.drewN k = w' := by
  have e : setI 0 1 63 9223372036854775807 = 18446744073709551614 := by decide +kernel
  have o : (9223372036854775807 : Int) ≤ onesI 63 := by decide +kernel
  have h := set_yes 0 1 63 9223372036854775807 w ⟨by decide, by decide⟩ ⟨by decide, by decide, by decide, by decide⟩ (by decide) o
  rw [e] at h
  exact h

set_option maxHeartbeats 8000000 in
theorem walk (w : World) :
    Calls Try.prog 3 #[] w fun e w' => e = .returned (.bool true) ∧ Below w.heap.size w w' := by
  go_enter Try.func3, Try.ntmps3
  go_wp2_with fail
  refine wp_loop_rounds 10 ?_
  rw [rounds_succ]
  go_wp2_with fail
  go_quiet ((go_at_call 10; exact q0 (get_no _ _ _ _ (by unfold IsFd; omega))))
  go_wp2_with fail
  go_quiet ((go_at_call 11; exact qa (set_no _ _ _ _ _ (by unfold IsFd; omega))))
  go_wp2_with fail
  go_quiet ((go_at_call 11; exact qa (set_no _ _ _ _ _ (by unfold IsFd; omega))))
  go_wp2_with fail
  rw [rounds_succ]
  go_wp2_with fail
  go_quiet ((go_at_call 10; exact qa (get_no _ _ _ _ (by unfold IsFd; omega))))
  go_wp2_with fail
  go_quiet ((go_at_call 11; exact qa (set_no _ _ _ _ _ (by unfold IsFd; omega))))
  go_wp2_with fail
  go_quiet ((go_at_call 11; exact qa (set_no _ _ _ _ _ (by unfold IsFd; omega))))
  go_wp2_with fail
  rw [rounds_succ]
  go_wp2_with fail
  go_quiet ((go_at_call 10; exact qa (get_no _ _ _ _ (by unfold IsFd; omega))))
  go_wp2_with fail
  go_quiet ((go_at_call 11; exact qa (set_no _ _ _ _ _ (by unfold IsFd; omega))))
  go_wp2_with fail
  go_quiet ((go_at_call 11; exact qa (set_no _ _ _ _ _ (by unfold IsFd; omega))))
  go_wp2_with fail
  rw [rounds_succ]
  go_wp2_with fail
  go_quiet ((go_at_call 10; exact qa (get_no _ _ _ _ (by unfold IsFd; omega))))
  go_wp2_with fail
  go_quiet ((go_at_call 11; exact qa (set_no _ _ _ _ _ (by unfold IsFd; omega))))
  go_wp2_with fail
  go_quiet ((go_at_call 11; exact qa (set_no _ _ _ _ _ (by unfold IsFd; omega))))
  go_wp2_with fail
  rw [rounds_succ]
  go_wp2_with fail
  go_quiet ((go_at_call 10; exact qa (get_no _ _ _ _ (by unfold IsFd; omega))))
  go_wp2_with fail
  go_quiet ((go_at_call 11; exact qa (set_no _ _ _ _ _ (by unfold IsFd; omega))))
  go_wp2_with fail
  go_quiet ((go_at_call 11; exact qa (set_no _ _ _ _ _ (by unfold IsFd; omega))))
  go_wp2_with fail
  rw [rounds_succ]
  go_wp2_with fail
  go_quiet ((go_at_call 10; exact qa (get_no _ _ _ _ (by unfold IsFd; omega))))
  go_wp2_with fail
  go_quiet ((go_at_call 11; exact qa (set_no _ _ _ _ _ (by unfold IsFd; omega))))
  go_wp2_with fail
  go_quiet ((go_at_call 11; exact qa (set_no _ _ _ _ _ (by unfold IsFd; omega))))
  go_wp2_with fail
  rw [rounds_succ]
  go_wp2_with fail
  go_quiet ((go_at_call 10; exact qa (get_no _ _ _ _ (by unfold IsFd; omega))))
  go_wp2_with fail
  go_quiet ((go_at_call 11; exact qa (set_no _ _ _ _ _ (by unfold IsFd; omega))))
  go_wp2_with fail
  go_quiet ((go_at_call 11; exact qa (set_no _ _ _ _ _ (by unfold IsFd; omega))))
  go_wp2_with fail
  rw [rounds_succ]
  go_wp2_with fail
  go_quiet ((go_at_call 10; exact qa (get_no _ _ _ _ (by unfold IsFd; omega))))
  go_wp2_with fail
  go_quiet ((go_at_call 11; exact qa (set_no _ _ _ _ _ (by unfold IsFd; omega))))
  go_wp2_with fail
  go_quiet ((go_at_call 11; exact qa (set_no _ _ _ _ _ (by unfold IsFd; omega))))
  go_wp2_with fail
  rw [rounds_succ]
  go_wp2_with fail
  go_quiet ((go_at_call 10; exact qa (get_no _ _ _ _ (by unfold IsFd; omega))))
  go_wp2_with fail
  go_quiet ((go_at_call 11; exact qa (set_no _ _ _ _ _ (by unfold IsFd; omega))))
  go_wp2_with fail
  go_quiet ((go_at_call 11; exact qa (set_no _ _ _ _ _ (by unfold IsFd; omega))))
  go_wp2_with fail
  rw [rounds_succ]
  go_wp2_with fail
  refine (c1 _).mono ?_
  rintro e w' ⟨rfl, k1, rfl⟩
  go_wp2_with fail
  refine (c2 _).mono ?_
  rintro e w' ⟨rfl, k2, rfl⟩
  go_wp2_with fail
  refine (c3 _).mono ?_
  rintro e w' ⟨rfl, k3, rfl⟩
  go_wp2_with fail
  refine (c4 _).mono ?_
  rintro e w' ⟨rfl, k4, rfl⟩
  go_wp2_with fail
  refine (c5 _).mono ?_
  rintro e w' ⟨rfl, rfl⟩
  go_wp2_with fail
  refine (c6 _).mono ?_
  rintro e w' ⟨rfl, rfl⟩
  go_wp2_with fail
  refine (c7 _).mono ?_
  rintro e w' ⟨rfl, k7, rfl⟩
  go_wp2_with fail
  refine (alive_any _).mono ?_
  rintro e w' ⟨rfl, hb⟩
  go_wp2_with fail
  go_ret
  refine ⟨rfl, St.below_then ?_ hb⟩
  repeat (first | exact Below.refl _ _ | apply below_drewN | apply Below.drew | apply St.below_new)

/-! The row's step. -/
set_option maxRecDepth 100000 in
theorem lifted (os : Os) (started : os.Started) (H : Type) (enc : TypeId × Value → H) :
    ReturnsInHanded {} Try.checked os 3 .any (Rows.wordNamesSpec.pre6 enc Try.prog Try.f3 Rows.wordNamesRow.domain false) (Rows.wordNamesSpec.post enc Try.prog Try.f3 false true false false) := by
  refine returnsInHanded_of_change (C := Try.checked) St.own started (by kernel_rfl) Try.func3
    (ChangeSpec.witness6 (enc := enc) (C := Try.checked) false ⟨#[], #[], []⟩ 8 (by kernel_rfl) (by kernel_rfl) (by kernel_rfl) (by kernel_rfl)) ?_
  intro W base args ds gs before hval0 hW hcnd _
  have hW' := hW
  obtain ⟨p, q, hA0, hV, rfl, hfz, hnd⟩ := hW
  have hA : DataW.TrodAll enc Try.prog W 0 (fun _ => true) true Try.f3.params.toList args.toList ds p := hA0
  rw [Try.params3] at hA
  obtain ⟨rfl, rfl, rfl⟩ := trodAll_none hA
  refine (walk  W).mono fun e W' ⟨he, hb⟩ => ?_
  subst he
  exact St.law_done St.laid (by kernel_rfl) rfl rfl Try.underlying4 rfl hW' hb

theorem over : Rows.wordNamesRow.holds Try.pinned (OpenSpec.ofChange Rows.wordNamesSpec) :=
  OpenClaim.holds_of_wide 3 Try.f3 rfl rfl rfl rfl rfl rfl rfl ⟨rfl, rfl, rfl, rfl, rfl⟩ rfl rfl rfl rfl rfl (by kernel_rfl) Try.func3 (by kernel_rfl)
    (of_decide_eq_true (by kernel_rfl)) (by unfold Func.isWrapper; first | (rw [if_pos (by decide +kernel)]; kernel_rfl) | (rw [if_neg (by decide +kernel)]; exact ⟨rfl, rfl⟩))
    (fun os started H enc _ => lifted os started H enc)
theorem proved : Rows.WordNamesSaid := over
#print axioms proved
end Go.Proofs.Ytnpdjlncfnmipaa.wordNames
