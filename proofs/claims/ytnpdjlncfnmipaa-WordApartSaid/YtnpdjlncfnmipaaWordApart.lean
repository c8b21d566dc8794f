/-
  The law WordApart returns true for every word, two fields and two values; no condition.
-/
import Derived.Test.YtnpdjlncfnmipaaStep
import Derived.Test.YtnpdjlncfnmipaaAlg
namespace Go.Proofs.Ytnpdjlncfnmipaa.wordApart
open Go.ChangeShapes Go.WideShapes Go.ChangeAt Go.RowKit Go.Proofs.Ytnpdjlncfnmipaa.Wd Go.Proofs.Ytnpdjlncfnmipaa.Lw
set_option linter.unusedVariables false
set_option maxRecDepth 100000
set_option maxHeartbeats 4000000 in
theorem walk_main (a0 a1 a2 a3 a4 a5 a6 : Int) (w0 : 0 ≤ a0 ∧ a0 < 18446744073709551616) (w5 : 0 ≤ a5 ∧ a5 < 18446744073709551616) (w6 : 0 ≤ a6 ∧ a6 < 18446744073709551616) (w : World)
    (h : IsFd a1 a2) (g : IsFd a3 a4) (d : a1 + a2 ≤ a3 ∨ (a3 < a1 + a2 ∧ a3 + a4 ≤ a1)) :
    Calls Try.prog 7 #[.int .u64 a0, .int .i64 a1, .int .i64 a2, .int .i64 a3, .int .i64 a4, .int .u64 a5, .int .u64 a6] w fun e w' => e = .returned (.bool true) ∧ Below w.heap.size w w' := by
  have HA := Lib.hid w0
  have HV := Lib.hid w5
  have HU := Lib.hid w6
  have n1 : 1 ≤ a2 := h.2.2.1
  have n2 : a2 ≤ 64 := by have := h.2.2.2; have := h.1; omega
  have m1 : 1 ≤ a4 := g.2.2.1
  have m2 : a4 ≤ 64 := by have := g.2.2.2; have := g.1; omega
  have VB := cutI_bd a5 a2
  have UB := cutI_bd a6 a4
  have X := Lib.hid (setI_bd a0 a1 a2 (cutI a5 a2) w0 h)
  have X2 := Lib.hid (setI_bd (setI a0 a1 a2 (cutI a5 a2)) a3 a4 (cutI a6 a4) X.out g)
  have Y := Lib.hid (setI_bd a0 a3 a4 (cutI a6 a4) w0 g)
  have e3 := Al.set_comm a0 a1 a2 (cutI a5 a2) a3 a4 (cutI a6 a4) h.1 (by omega) g.1 (by omega) (by omega)
  have Q3 := Lib.hid (beq_iff_eq.2 e3)
  have Q1 := Lib.hid (beq_iff_eq.2 (show getI (setI (setI a0 a1 a2 (cutI a5 a2)) a3 a4 (cutI a6 a4)) a1 a2 = cutI a5 a2 from by rw [e3, Al.get_set _ _ _ _ VB.1 VB.2]))
  have Q2 := Lib.hid (beq_iff_eq.2 (Al.get_set (setI a0 a1 a2 (cutI a5 a2)) a3 a4 (cutI a6 a4) UB.1 UB.2))
  clear e3
  obtain ⟨f1, f2, f3, f4⟩ := id h
  obtain ⟨g1, g2, g3, g4⟩ := id g
  rcases d with d | ⟨d1, d2⟩
  case inl =>
    go_enter Try.func7, Try.ntmps7
    go_wp2_with fail
    refine (field_yes a1 a2 _ h).mono ?_
    rintro e w' ⟨rfl, rfl⟩
    go_wp2_with fail
    all_goals first | (exfalso; omega) | skip
    refine (field_yes a3 a4 _ g).mono ?_
    rintro e w' ⟨rfl, rfl⟩
    go_wp2_with fail
    all_goals first | (exfalso; omega) | skip
    refine (cut_any a5 a2 _ HV.out n1 n2).mono ?_
    rintro e w' ⟨rfl, rfl⟩
    go_wp2_with fail
    refine (cut_any a6 a4 _ HU.out m1 m2).mono ?_
    rintro e w' ⟨rfl, rfl⟩
    go_wp2_with fail
    refine (set_yes a0 a1 a2 (cutI a5 a2) _ HA.out h VB.1 VB.2).mono ?_
    rintro e w' ⟨rfl, k1, rfl⟩
    go_wp2_with fail
    refine (set_yes (setI a0 a1 a2 (cutI a5 a2)) a3 a4 (cutI a6 a4) _ X.out g UB.1 UB.2).mono ?_
    rintro e w' ⟨rfl, k2, rfl⟩
    go_wp2_with fail
    refine (set_yes a0 a3 a4 (cutI a6 a4) _ HA.out g UB.1 UB.2).mono ?_
    rintro e w' ⟨rfl, k3, rfl⟩
    go_wp2_with fail
    refine (set_yes (setI a0 a3 a4 (cutI a6 a4)) a1 a2 (cutI a5 a2) _ Y.out h VB.1 VB.2).mono ?_
    rintro e w' ⟨rfl, k4, rfl⟩
    go_wp2_with fail
    refine (get_yes (setI (setI a0 a1 a2 (cutI a5 a2)) a3 a4 (cutI a6 a4)) a1 a2 _ X2.out h).mono ?_
    rintro e w' ⟨rfl, k5, rfl⟩
    go_wp2_with fail
    refine (get_yes (setI (setI a0 a1 a2 (cutI a5 a2)) a3 a4 (cutI a6 a4)) a3 a4 _ X2.out g).mono ?_
    rintro e w' ⟨rfl, k6, rfl⟩
    have q1 := Q1.out
    have q2 := Q2.out
    have q3 := Q3.out
    go_wp2_with fail
    all_goals first | (exfalso; omega) | skip
    all_goals
      refine (alive_any _).mono ?_
      rintro e w' ⟨rfl, hb⟩
      go_wp2_with fail
      go_ret
      exact ⟨rfl, (below_drewN (Below.refl _ _) _).trans hb⟩
  case inr =>
    go_enter Try.func7, Try.ntmps7
    go_wp2_with fail
    refine (field_yes a1 a2 _ h).mono ?_
    rintro e w' ⟨rfl, rfl⟩
    go_wp2_with fail
    all_goals first | (exfalso; omega) | skip
    refine (field_yes a3 a4 _ g).mono ?_
    rintro e w' ⟨rfl, rfl⟩
    go_wp2_with fail
    all_goals first | (exfalso; omega) | skip
    refine (cut_any a5 a2 _ HV.out n1 n2).mono ?_
    rintro e w' ⟨rfl, rfl⟩
    go_wp2_with fail
    refine (cut_any a6 a4 _ HU.out m1 m2).mono ?_
    rintro e w' ⟨rfl, rfl⟩
    go_wp2_with fail
    refine (set_yes a0 a1 a2 (cutI a5 a2) _ HA.out h VB.1 VB.2).mono ?_
    rintro e w' ⟨rfl, k1, rfl⟩
    go_wp2_with fail
    refine (set_yes (setI a0 a1 a2 (cutI a5 a2)) a3 a4 (cutI a6 a4) _ X.out g UB.1 UB.2).mono ?_
    rintro e w' ⟨rfl, k2, rfl⟩
    go_wp2_with fail
    refine (set_yes a0 a3 a4 (cutI a6 a4) _ HA.out g UB.1 UB.2).mono ?_
    rintro e w' ⟨rfl, k3, rfl⟩
    go_wp2_with fail
    refine (set_yes (setI a0 a3 a4 (cutI a6 a4)) a1 a2 (cutI a5 a2) _ Y.out h VB.1 VB.2).mono ?_
    rintro e w' ⟨rfl, k4, rfl⟩
    go_wp2_with fail
    refine (get_yes (setI (setI a0 a1 a2 (cutI a5 a2)) a3 a4 (cutI a6 a4)) a1 a2 _ X2.out h).mono ?_
    rintro e w' ⟨rfl, k5, rfl⟩
    go_wp2_with fail
    refine (get_yes (setI (setI a0 a1 a2 (cutI a5 a2)) a3 a4 (cutI a6 a4)) a3 a4 _ X2.out g).mono ?_
    rintro e w' ⟨rfl, k6, rfl⟩
    have q1 := Q1.out
    have q2 := Q2.out
    have q3 := Q3.out
    go_wp2_with fail
    all_goals first | (exfalso; omega) | skip
    all_goals
      refine (alive_any _).mono ?_
      rintro e w' ⟨rfl, hb⟩
      go_wp2_with fail
      go_ret
      exact ⟨rfl, (below_drewN (Below.refl _ _) _).trans hb⟩
set_option maxHeartbeats 2000000 in
theorem walk_guard (a0 a1 a2 a3 a4 a5 a6 : Int) (w : World) (h : ¬ IsFd a1 a2 ∨ (IsFd a1 a2 ∧ ¬ IsFd a3 a4) ∨ (IsFd a1 a2 ∧ IsFd a3 a4 ∧ a3 < a1 + a2 ∧ a1 < a3 + a4)) :
    Calls Try.prog 7 #[.int .u64 a0, .int .i64 a1, .int .i64 a2, .int .i64 a3, .int .i64 a4, .int .u64 a5, .int .u64 a6] w fun e w' => e = .returned (.bool true) ∧ Below w.heap.size w w' := by
  rcases h with h | ⟨h, g⟩ | ⟨h, g, d1, d2⟩
  case inl =>
    have H := Lib.hid h
    clear h
    go_enter Try.func7, Try.ntmps7
    go_wp2_with fail
    refine (field_no a1 a2 _ H.out).mono ?_
    rintro e w' ⟨rfl, rfl⟩
    go_wp2_with fail
    all_goals first | (exfalso; omega) | skip
    all_goals
      refine (alive_any _).mono ?_
      rintro e w' ⟨rfl, hb⟩
      go_wp2_with fail
      go_ret
      exact ⟨rfl, hb⟩
  case inr.inl =>
    have G := Lib.hid g
    clear g
    go_enter Try.func7, Try.ntmps7
    go_wp2_with fail
    refine (field_yes a1 a2 _ h).mono ?_
    rintro e w' ⟨rfl, rfl⟩
    go_wp2_with fail
    refine (field_no a3 a4 _ G.out).mono ?_
    rintro e w' ⟨rfl, rfl⟩
    go_wp2_with fail
    all_goals first | (exfalso; omega) | skip
    all_goals
      refine (alive_any _).mono ?_
      rintro e w' ⟨rfl, hb⟩
      go_wp2_with fail
      go_ret
      exact ⟨rfl, hb⟩
  case inr.inr =>
    obtain ⟨f1, f2, f3, f4⟩ := id h
    obtain ⟨g1, g2, g3, g4⟩ := id g
    go_enter Try.func7, Try.ntmps7
    go_wp2_with fail
    refine (field_yes a1 a2 _ h).mono ?_
    rintro e w' ⟨rfl, rfl⟩
    go_wp2_with fail
    all_goals first | (exfalso; omega) | skip
    refine (field_yes a3 a4 _ g).mono ?_
    rintro e w' ⟨rfl, rfl⟩
    go_wp2_with fail
    all_goals first | (exfalso; omega) | skip
    all_goals
      refine (alive_any _).mono ?_
      rintro e w' ⟨rfl, hb⟩
      go_wp2_with fail
      go_ret
      exact ⟨rfl, hb⟩
theorem walk (a0 a1 a2 a3 a4 a5 a6 : Int) (w0 : 0 ≤ a0 ∧ a0 < 18446744073709551616) (w1 : -9223372036854775808 ≤ a1 ∧ a1 ≤ 9223372036854775807) (w2 : -9223372036854775808 ≤ a2 ∧ a2 ≤ 9223372036854775807)
    (w3 : -9223372036854775808 ≤ a3 ∧ a3 ≤ 9223372036854775807) (w4 : -9223372036854775808 ≤ a4 ∧ a4 ≤ 9223372036854775807) (w5 : 0 ≤ a5 ∧ a5 < 18446744073709551616) (w6 : 0 ≤ a6 ∧ a6 < 18446744073709551616) (w : World) :
    Calls Try.prog 7 #[.int .u64 a0, .int .i64 a1, .int .i64 a2, .int .i64 a3, .int .i64 a4, .int .u64 a5, .int .u64 a6] w fun e w' => e = .returned (.bool true) ∧ Below w.heap.size w w' := by
  by_cases h : IsFd a1 a2
  · by_cases g : IsFd a3 a4
    · by_cases d : a3 < a1 + a2 ∧ a1 < a3 + a4
      · exact walk_guard a0 a1 a2 a3 a4 a5 a6 w (.inr (.inr ⟨h, g, d.1, d.2⟩))
      · exact walk_main a0 a1 a2 a3 a4 a5 a6 w0 w5 w6 w h g (by omega)
    · exact walk_guard a0 a1 a2 a3 a4 a5 a6 w (.inr (.inl ⟨h, g⟩))
  · exact walk_guard a0 a1 a2 a3 a4 a5 a6 w (.inl h)

/-! The row's step. -/
set_option maxRecDepth 100000 in
theorem lifted (os : Os) (started : os.Started) (H : Type) (enc : TypeId × Value → H) :
    ReturnsInHanded {} Try.checked os 7 .any (Rows.wordApartSpec.pre6 enc Try.prog Try.f7 Rows.wordApartRow.domain false) (Rows.wordApartSpec.post enc Try.prog Try.f7 false true false false) := by
  refine returnsInHanded_of_change (C := Try.checked) St.own started (by kernel_rfl) Try.func7
    (ChangeSpec.witness6 (enc := enc) (C := Try.checked) false ⟨#[], #[.int .u64 0, .int .i64 0, .int .i64 0, .int .i64 0, .int .i64 0, .int .u64 0, .int .u64 0], []⟩ 8 (by kernel_rfl) (by kernel_rfl) (by kernel_rfl) (by kernel_rfl)) ?_
  intro W base args ds gs before hval0 hW hcnd _
  have hval : ∀ (j : Nat) t v, Try.f7.params[j]? = some t → args[j]? = some v → Value.okWide Try.prog W .any base t v := hval0
  have hW' := hW
  obtain ⟨p, q, hA0, hV, rfl, hfz, hnd⟩ := hW
  have hA : DataW.TrodAll enc Try.prog W 0 (fun _ => true) true Try.f7.params.toList args.toList ds p := hA0
  rw [Try.params7] at hA hval
  obtain ⟨v0, vs0, d0, ds0, p0, q0, hargs, rfl, rfl, h0, r0⟩ := trodAll_cons hA
  obtain ⟨v1, vs1, d1, ds1, p1, q1, rfl, rfl, rfl, h1, r1⟩ := trodAll_cons r0
  obtain ⟨v2, vs2, d2, ds2, p2, q2, rfl, rfl, rfl, h2, r2⟩ := trodAll_cons r1
  obtain ⟨v3, vs3, d3, ds3, p3, q3, rfl, rfl, rfl, h3, r3⟩ := trodAll_cons r2
  obtain ⟨v4, vs4, d4, ds4, p4, q4, rfl, rfl, rfl, h4, r4⟩ := trodAll_cons r3
  obtain ⟨v5, vs5, d5, ds5, p5, q5, rfl, rfl, rfl, h5, r5⟩ := trodAll_cons r4
  obtain ⟨v6, vs6, d6, ds6, p6, q6, rfl, rfl, rfl, h6, r6⟩ := trodAll_cons r5
  obtain ⟨rfl, rfl, rfl⟩ := trodAll_nil r6
  obtain rfl : args = #[v0, v1, v2, v3, v4, v5, v6] := by cases args; simp_all
  obtain ⟨a0, rfl, rfl, rfl, w0⟩ := open_int Try.underlying23 (hval 0 23 v0 rfl rfl) h0
  obtain ⟨a1, rfl, rfl, rfl, w1⟩ := open_int Try.underlying3 (hval 1 3 v1 rfl rfl) h1
  obtain ⟨a2, rfl, rfl, rfl, w2⟩ := open_int Try.underlying3 (hval 2 3 v2 rfl rfl) h2
  obtain ⟨a3, rfl, rfl, rfl, w3⟩ := open_int Try.underlying3 (hval 3 3 v3 rfl rfl) h3
  obtain ⟨a4, rfl, rfl, rfl, w4⟩ := open_int Try.underlying3 (hval 4 3 v4 rfl rfl) h4
  obtain ⟨a5, rfl, rfl, rfl, w5⟩ := open_int Try.underlying23 (hval 5 23 v5 rfl rfl) h5
  obtain ⟨a6, rfl, rfl, rfl, w6⟩ := open_int Try.underlying23 (hval 6 23 v6 rfl rfl) h6
  refine (walk a0 a1 a2 a3 a4 a5 a6 (St.u64_of_wf w0) (St.i64_of_wf w1) (St.i64_of_wf w2) (St.i64_of_wf w3) (St.i64_of_wf w4) (St.u64_of_wf w5) (St.u64_of_wf w6) W).mono fun e W' ⟨he, hb⟩ => ?_
  subst he
  exact St.law_done St.laid (by kernel_rfl) rfl rfl Try.underlying4 rfl hW' hb

theorem over : Rows.wordApartRow.holds Try.pinned (OpenSpec.ofChange Rows.wordApartSpec) :=
  OpenClaim.holds_of_wide 7 Try.f7 rfl rfl rfl rfl rfl rfl rfl ⟨rfl, rfl, rfl, rfl, rfl⟩ rfl rfl rfl rfl rfl (by kernel_rfl) Try.func7 (by kernel_rfl)
    (of_decide_eq_true (by kernel_rfl)) (by unfold Func.isWrapper; first | (rw [if_pos (by decide +kernel)]; kernel_rfl) | (rw [if_neg (by decide +kernel)]; exact ⟨rfl, rfl⟩))
    (fun os started H enc _ => lifted os started H enc)
theorem proved : Rows.WordApartSaid := over
#print axioms proved
end Go.Proofs.Ytnpdjlncfnmipaa.wordApart
