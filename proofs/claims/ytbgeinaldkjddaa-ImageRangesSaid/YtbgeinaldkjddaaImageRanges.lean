/-
  The law ImageRanges returns true for every words, address, number and list; no condition.
-/
import Derived.Test.YtbgeinaldkjddaaImageu
import Derived.SizedLaws
namespace Go.Proofs.Ytbgeinaldkjddaa.imageRanges
open Go.ChangeShapes Go.WideShapes Go.ChangeAt Go.RowKit Go.Proofs.Ytbgeinaldkjddaa.Sl Go.Proofs.Ytbgeinaldkjddaa.St Go.Proofs.Ytbgeinaldkjddaa.Ir Go.Proofs.Ytbgeinaldkjddaa.Iu
set_option linter.unusedVariables false
set_option maxRecDepth 100000
set_option maxHeartbeats 4000000 in
theorem walk_main (a0 : Option Addr) (n0 c0 : Nat) (xs0 : List Int) (a1 a2 : Int) (a3 : Option Addr) (n3 c3 : Nat) (xs3 : List Int) (w : World)
    (s0 : Sees w .u64 a0 n0 c0 xs0) (s3 : Sees w .u64 a3 n3 c3 xs3) (g0 : n0 ≤ 2100) (g3 : n3 ≤ 2100) :
    Calls Try.prog 4 #[.slice a0 n0 c0, .int .i64 a1, .int .i64 a2, .slice a3 n3 c3] w fun e w' => e = .returned (.bool true) ∧ Below w.heap.size w w' := by
  go_enter Try.func4, Try.ntmps4
  go_wp2_with fail
  refine (great_no _ n0 c0 _ g0).mono ?_
  rintro e w' ⟨rfl, rfl⟩
  go_wp2_with fail
  refine (great_no _ n3 c3 _ g3).mono ?_
  rintro e w' ⟨rfl, rfl⟩
  go_wp2_with fail
  refine (twin_seen _ _ _ xs0 _ s0).mono ?_
  rintro e w' ⟨p1, q1, rfl, t1, b1⟩
  go_wp2_with fail
  refine (twin_seen _ _ _ xs3 _ (s3.keep b1)).mono ?_
  rintro e w' ⟨p2, q2, rfl, t2, b2⟩
  go_wp2_with fail
  refine (get_any _ _ _ a1 a2 xs0 _ (t1.keep b2)).mono ?_
  rintro e w' ⟨p3, m3, q3, rfl, t3, b3⟩
  go_wp2_with fail
  refine (rget_any _ _ _ a1 a2 xs0 _ (((s0.keep b1).keep b2).keep b3)).mono ?_
  rintro e w' ⟨p4, m4, q4, rfl, t4, b4⟩
  go_wp2_with fail
  refine (put_any _ _ _ a1 _ _ _ xs0 xs3 _ (((t1.keep b2).keep b3).keep b4) ((t2.keep b3).keep b4)).mono ?_
  rintro e w' ⟨p5, m5, q5, rfl, t5, b5⟩
  go_wp2_with fail
  refine (rput_any _ _ _ a1 _ _ _ xs0 xs3 _ (((((s0.keep b1).keep b2).keep b3).keep b4).keep b5) (((((s3.keep b1).keep b2).keep b3).keep b4).keep b5)).mono ?_
  rintro e w' ⟨p6, m6, q6, rfl, t6, b6⟩
  go_wp2_with fail
  refine (line_any _ _ _ a1 _).mono ?_
  rintro e w' ⟨rfl, rfl⟩
  go_wp2_with fail
  refine (rline_any _ _ _ a1 _).mono ?_
  rintro e w' ⟨rfl, rfl⟩
  go_wp2_with fail
  refine (check_any _ _ _ _).mono ?_
  rintro e w' ⟨rfl, rfl⟩
  go_wp2_with fail
  refine (rcheck_any _ _ _ _).mono ?_
  rintro e w' ⟨rfl, rfl⟩
  go_wp2_with fail
  refine (same_self _ _ _ _ _ _ _ _ (((t3.keep b4).keep b5).keep b6) ((t4.keep b5).keep b6)).mono ?_
  rintro e w' ⟨rfl, b7⟩
  go_wp2_with fail
  refine (same_self _ _ _ _ _ _ _ _ ((t5.keep b6).keep b7) (t6.keep b7)).mono ?_
  rintro e w' ⟨rfl, b8⟩
  go_wp2_with fail
  refine (same_self _ _ _ _ _ _ _ _ ((((((t1.keep b2).keep b3).keep b4).keep b5).keep b6).keep b7 |>.keep b8) (((((((s0.keep b1).keep b2).keep b3).keep b4).keep b5).keep b6).keep b7 |>.keep b8)).mono ?_
  rintro e w' ⟨rfl, b9⟩
  go_wp2_with fail
  refine (same_self _ _ _ _ _ _ _ _ ((((((t2.keep b3).keep b4).keep b5).keep b6).keep b7).keep b8 |>.keep b9) (((((((s3.keep b1).keep b2).keep b3).keep b4).keep b5).keep b6).keep b7 |>.keep b8 |>.keep b9)).mono ?_
  rintro e w' ⟨rfl, b10⟩
  go_wp2_with fail
  go_ret
  exact ⟨rfl, below_then (below_then (below_then (below_then (below_then (below_then (below_then (below_then (below_then b1 b2) b3) b4) b5) b6) b7) b8) b9) b10⟩
theorem walk (a0 : Option Addr) (n0 c0 : Nat) (xs0 : List Int) (a1 a2 : Int) (a3 : Option Addr) (n3 c3 : Nat) (xs3 : List Int) (w1 : -9223372036854775808 ≤ a1 ∧ a1 ≤ 9223372036854775807) (w2 : -9223372036854775808 ≤ a2 ∧ a2 ≤ 9223372036854775807)
    (w : World) (s0 : Sees w .u64 a0 n0 c0 xs0) (t0 : c0 ≤ 17592186044416) (s3 : Sees w .u64 a3 n3 c3 xs3) (t3 : c3 ≤ 17592186044416) :
    Calls Try.prog 4 #[.slice a0 n0 c0, .int .i64 a1, .int .i64 a2, .slice a3 n3 c3] w fun e w' => e = .returned (.bool true) ∧ Below w.heap.size w w' := by
  by_cases g0 : n0 ≤ 2100
  · by_cases g3 : n3 ≤ 2100
    · exact walk_main a0 n0 c0 xs0 a1 a2 a3 n3 c3 xs3 w s0 s3 g0 g3
    · go_enter Try.func4, Try.ntmps4
      go_wp2_with fail
      refine (great_no _ n0 c0 _ g0).mono ?_
      rintro e w' ⟨rfl, rfl⟩
      go_wp2_with fail
      refine (great_yes _ n3 c3 _ (by omega)).mono ?_
      rintro e w' ⟨rfl, rfl⟩
      go_wp2_with fail
      go_ret
      exact ⟨rfl, Below.refl _ _⟩
  · go_enter Try.func4, Try.ntmps4
    go_wp2_with fail
    refine (great_yes _ n0 c0 _ (by omega)).mono ?_
    rintro e w' ⟨rfl, rfl⟩
    go_wp2_with fail
    go_ret
    exact ⟨rfl, Below.refl _ _⟩

/-! The row's step. -/
set_option maxRecDepth 100000 in
theorem lifted (os : Os) (started : os.Started) (H : Type) (enc : TypeId × Value → H) :
    ReturnsInHanded {} Try.checked os 4 .any (Rows.imageRangesSpec.pre6 enc Try.prog Try.f4 Rows.imageRangesRow.domain false) (Rows.imageRangesSpec.post enc Try.prog Try.f4 false true false false) := by
  refine returnsInHanded_of_change_sized (C := Try.checked) St.own started (by kernel_rfl) Try.func4
    (ChangeSpec.witness6 (enc := enc) (C := Try.checked) false ⟨#[], #[.slice .none 0 0, .int .i64 0, .int .i64 0, .slice .none 0 0], []⟩ 8 (by kernel_rfl) (by kernel_rfl) (by kernel_rfl) (by kernel_rfl)) ?_
  intro W base args ds gs before hval0 hW hcnd hsz0 _
  have hsz : (DataW.weightsEach Try.prog (Try.f4.params.toList ++ Rows.imageRangesSpec.plain.varTypes Try.prog) (ds ++ gs)).all (· ≤ reachBytes) = true := hsz0
  have hval : ∀ (j : Nat) t v, Try.f4.params[j]? = some t → args[j]? = some v → Value.okWide Try.prog W .any base t v := hval0
  have hW' := hW
  obtain ⟨p, q, hA0, hV, rfl, hfz, hnd⟩ := hW
  have hA : DataW.TrodAll enc Try.prog W 0 (fun _ => true) true Try.f4.params.toList args.toList ds p := hA0
  rw [Try.params4] at hA hval hsz
  obtain ⟨v0, vs0, d0, ds0, p0, q0, hargs, rfl, rfl, h0, r0⟩ := trodAll_cons hA
  obtain ⟨v1, vs1, d1, ds1, p1, q1, rfl, rfl, rfl, h1, r1⟩ := trodAll_cons r0
  obtain ⟨v2, vs2, d2, ds2, p2, q2, rfl, rfl, rfl, h2, r2⟩ := trodAll_cons r1
  obtain ⟨v3, vs3, d3, ds3, p3, q3, rfl, rfl, rfl, h3, r3⟩ := trodAll_cons r2
  obtain ⟨rfl, rfl, rfl⟩ := trodAll_nil r3
  obtain rfl : args = #[v0, v1, v2, v3] := by cases args; simp_all
  have z0 : ∀ es sp, d0 = .slice es sp → (es.length + sp.length) * 8 ≤ 140737488351232 := fun es sp e => by
    have := sized_slice hsz (j := 0) (t := 23) (e := 34) rfl (congrArg some e) Try.underlying23
    rw [show Try.prog.bytesOf 34 = 8 from by kernel_rfl] at this
    simpa [reachBytes] using this
  have z3 : ∀ es sp, d3 = .slice es sp → (es.length + sp.length) * 8 ≤ 140737488351232 := fun es sp e => by
    have := sized_slice hsz (j := 3) (t := 23) (e := 34) rfl (congrArg some e) Try.underlying23
    rw [show Try.prog.bytesOf 34 = 8 from by kernel_rfl] at this
    simpa [reachBytes] using this
  obtain ⟨a0, n0, c0, xs0, rfl, s0, t0⟩ := Sl.open_slice Try.underlying23 Try.underlying34 (by kernel_rfl) (hval 0 23 v0 rfl rfl) h0 z0
  obtain ⟨a1, rfl, rfl, rfl, w1⟩ := open_int Try.underlying3 (hval 1 3 v1 rfl rfl) h1
  obtain ⟨a2, rfl, rfl, rfl, w2⟩ := open_int Try.underlying3 (hval 2 3 v2 rfl rfl) h2
  obtain ⟨a3, n3, c3, xs3, rfl, s3, t3⟩ := Sl.open_slice Try.underlying23 Try.underlying34 (by kernel_rfl) (hval 3 23 v3 rfl rfl) h3 z3
  refine (walk a0 n0 c0 xs0 a1 a2 a3 n3 c3 xs3 (St.i64_of_wf w1) (St.i64_of_wf w2) W s0 t0 s3 t3).mono fun e W' ⟨he, hb⟩ => ?_
  subst he
  exact St.law_done St.laid (by kernel_rfl) rfl rfl Try.underlying4 rfl hW' hb

theorem over : Rows.imageRangesRow.holds Try.pinned (OpenSpec.ofChange Rows.imageRangesSpec) :=
  OpenClaim.holds_of_wide 4 Try.f4 rfl rfl rfl rfl rfl rfl rfl ⟨rfl, rfl, rfl, rfl, rfl⟩ rfl rfl rfl rfl rfl (by kernel_rfl) Try.func4 (by kernel_rfl)
    (of_decide_eq_true (by kernel_rfl)) (by unfold Func.isWrapper; first | (rw [if_pos (by decide +kernel)]; kernel_rfl) | (rw [if_neg (by decide +kernel)]; exact ⟨rfl, rfl⟩))
    (fun os started H enc _ => lifted os started H enc)
theorem proved : Rows.ImageRangesSaid := over
#print axioms proved
end Go.Proofs.Ytbgeinaldkjddaa.imageRanges
