/-
  The law ImageDiffs returns true for every number and two lists of words; no condition.
-/
import Derived.Test.YtbgeinaldkjddaaImageu
import Derived.SizedLaws
namespace Go.Proofs.Ytbgeinaldkjddaa.imageDiffs
open Go.ChangeShapes Go.WideShapes Go.ChangeAt Go.RowKit Go.Proofs.Ytbgeinaldkjddaa.Sl Go.Proofs.Ytbgeinaldkjddaa.St Go.Proofs.Ytbgeinaldkjddaa.Ir Go.Proofs.Ytbgeinaldkjddaa.Iu
set_option linter.unusedVariables false
set_option maxRecDepth 100000
set_option maxHeartbeats 4000000 in
theorem walk_main (a0 : Int) (a1 : Option Addr) (n1 c1 : Nat) (xs1 : List Int) (a2 : Option Addr) (n2 c2 : Nat) (xs2 : List Int) (w : World)
    (s1 : Sees w .u64 a1 n1 c1 xs1) (s2 : Sees w .u64 a2 n2 c2 xs2) (g1 : n1 ≤ 2100) (g2 : n2 ≤ 2100) :
    Calls Try.prog 5 #[.int .i64 a0, .slice a1 n1 c1, .slice a2 n2 c2] w fun e w' => e = .returned (.bool true) ∧ Below w.heap.size w w' := by
  go_enter Try.func5, Try.ntmps5
  go_wp2_with fail
  refine (great_no _ n1 c1 _ g1).mono ?_
  rintro e w' ⟨rfl, rfl⟩
  go_wp2_with fail
  refine (great_no _ n2 c2 _ g2).mono ?_
  rintro e w' ⟨rfl, rfl⟩
  go_wp2_with fail
  refine (new_any a0 _).mono ?_
  rintro e w' ⟨p1, m1, q1, rfl, t1, b1⟩
  go_wp2_with fail
  refine (rnew_any a0 _).mono ?_
  rintro e w' ⟨p2, m2, q2, rfl, t2, b2⟩
  go_wp2_with fail
  refine (diff_any _ _ _ _ _ _ xs1 xs2 _ ((s1.keep b1).keep b2) ((s2.keep b1).keep b2)).mono ?_
  rintro e w' ⟨p3, m3, q3, rfl, t3, b3⟩
  go_wp2_with fail
  refine (rdiff_any _ _ _ _ _ _ xs1 xs2 _ (((s1.keep b1).keep b2).keep b3) (((s2.keep b1).keep b2).keep b3)).mono ?_
  rintro e w' ⟨p4, m4, q4, rfl, t4, b4⟩
  go_wp2_with fail
  refine (same_self _ _ _ _ _ _ _ _ (((t1.keep b2).keep b3).keep b4) ((t2.keep b3).keep b4)).mono ?_
  rintro e w' ⟨rfl, b5⟩
  go_wp2_with fail
  refine (sameInts_self _ _ _ _ _ _ _ _ ((t3.keep b4).keep b5) (t4.keep b5)).mono ?_
  rintro e w' ⟨rfl, b6⟩
  go_wp2_with fail
  go_ret
  exact ⟨rfl, below_then (below_then (below_then (below_then (below_then b1 b2) b3) b4) b5) b6⟩
theorem walk (a0 : Int) (a1 : Option Addr) (n1 c1 : Nat) (xs1 : List Int) (a2 : Option Addr) (n2 c2 : Nat) (xs2 : List Int) (w0 : -9223372036854775808 ≤ a0 ∧ a0 ≤ 9223372036854775807)
    (w : World) (s1 : Sees w .u64 a1 n1 c1 xs1) (t1 : c1 ≤ 17592186044416) (s2 : Sees w .u64 a2 n2 c2 xs2) (t2 : c2 ≤ 17592186044416) :
    Calls Try.prog 5 #[.int .i64 a0, .slice a1 n1 c1, .slice a2 n2 c2] w fun e w' => e = .returned (.bool true) ∧ Below w.heap.size w w' := by
  by_cases g1 : n1 ≤ 2100
  · by_cases g2 : n2 ≤ 2100
    · exact walk_main a0 a1 n1 c1 xs1 a2 n2 c2 xs2 w s1 s2 g1 g2
    · go_enter Try.func5, Try.ntmps5
      go_wp2_with fail
      refine (great_no _ n1 c1 _ g1).mono ?_
      rintro e w' ⟨rfl, rfl⟩
      go_wp2_with fail
      refine (great_yes _ n2 c2 _ (by omega)).mono ?_
      rintro e w' ⟨rfl, rfl⟩
      go_wp2_with fail
      go_ret
      exact ⟨rfl, Below.refl _ _⟩
  · go_enter Try.func5, Try.ntmps5
    go_wp2_with fail
    refine (great_yes _ n1 c1 _ (by omega)).mono ?_
    rintro e w' ⟨rfl, rfl⟩
    go_wp2_with fail
    go_ret
    exact ⟨rfl, Below.refl _ _⟩

/-! The row's step. -/
set_option maxRecDepth 100000 in
theorem lifted (os : Os) (started : os.Started) (H : Type) (enc : TypeId × Value → H) :
    ReturnsInHanded {} Try.checked os 5 .any (Rows.imageDiffsSpec.pre6 enc Try.prog Try.f5 Rows.imageDiffsRow.domain false) (Rows.imageDiffsSpec.post enc Try.prog Try.f5 false true false false) := by
  refine returnsInHanded_of_change_sized (C := Try.checked) St.own started (by kernel_rfl) Try.func5
    (ChangeSpec.witness6 (enc := enc) (C := Try.checked) false ⟨#[], #[.int .i64 0, .slice .none 0 0, .slice .none 0 0], []⟩ 8 (by kernel_rfl) (by kernel_rfl) (by kernel_rfl) (by kernel_rfl)) ?_
  intro W base args ds gs before hval0 hW hcnd hsz0 _
  have hsz : (DataW.weightsEach Try.prog (Try.f5.params.toList ++ Rows.imageDiffsSpec.plain.varTypes Try.prog) (ds ++ gs)).all (· ≤ reachBytes) = true := hsz0
  have hval : ∀ (j : Nat) t v, Try.f5.params[j]? = some t → args[j]? = some v → Value.okWide Try.prog W .any base t v := hval0
  have hW' := hW
  obtain ⟨p, q, hA0, hV, rfl, hfz, hnd⟩ := hW
  have hA : DataW.TrodAll enc Try.prog W 0 (fun _ => true) true Try.f5.params.toList args.toList ds p := hA0
  rw [Try.params5] at hA hval hsz
  obtain ⟨v0, vs0, d0, ds0, p0, q0, hargs, rfl, rfl, h0, r0⟩ := trodAll_cons hA
  obtain ⟨v1, vs1, d1, ds1, p1, q1, rfl, rfl, rfl, h1, r1⟩ := trodAll_cons r0
  obtain ⟨v2, vs2, d2, ds2, p2, q2, rfl, rfl, rfl, h2, r2⟩ := trodAll_cons r1
  obtain ⟨rfl, rfl, rfl⟩ := trodAll_nil r2
  obtain rfl : args = #[v0, v1, v2] := by cases args; simp_all
  have z1 : ∀ es sp, d1 = .slice es sp → (es.length + sp.length) * 8 ≤ 140737488351232 := fun es sp e => by
    have := sized_slice hsz (j := 1) (t := 23) (e := 34) rfl (congrArg some e) Try.underlying23
    rw [show Try.prog.bytesOf 34 = 8 from by kernel_rfl] at this
    simpa [reachBytes] using this
  have z2 : ∀ es sp, d2 = .slice es sp → (es.length + sp.length) * 8 ≤ 140737488351232 := fun es sp e => by
    have := sized_slice hsz (j := 2) (t := 23) (e := 34) rfl (congrArg some e) Try.underlying23
    rw [show Try.prog.bytesOf 34 = 8 from by kernel_rfl] at this
    simpa [reachBytes] using this
  obtain ⟨a0, rfl, rfl, rfl, w0⟩ := open_int Try.underlying3 (hval 0 3 v0 rfl rfl) h0
  obtain ⟨a1, n1, c1, xs1, rfl, s1, t1⟩ := Sl.open_slice Try.underlying23 Try.underlying34 (by kernel_rfl) (hval 1 23 v1 rfl rfl) h1 z1
  obtain ⟨a2, n2, c2, xs2, rfl, s2, t2⟩ := Sl.open_slice Try.underlying23 Try.underlying34 (by kernel_rfl) (hval 2 23 v2 rfl rfl) h2 z2
  refine (walk a0 a1 n1 c1 xs1 a2 n2 c2 xs2 (St.i64_of_wf w0) W s1 t1 s2 t2).mono fun e W' ⟨he, hb⟩ => ?_
  subst he
  exact St.law_done St.laid (by kernel_rfl) rfl rfl Try.underlying4 rfl hW' hb

theorem over : Rows.imageDiffsRow.holds Try.pinned (OpenSpec.ofChange Rows.imageDiffsSpec) :=
  OpenClaim.holds_of_wide 5 Try.f5 rfl rfl rfl rfl rfl rfl rfl ⟨rfl, rfl, rfl, rfl, rfl⟩ rfl rfl rfl rfl rfl (by kernel_rfl) Try.func5 (by kernel_rfl)
    (of_decide_eq_true (by kernel_rfl)) (by unfold Func.isWrapper; first | (rw [if_pos (by decide +kernel)]; kernel_rfl) | (rw [if_neg (by decide +kernel)]; exact ⟨rfl, rfl⟩))
    (fun os started H enc _ => lifted os started H enc)
theorem proved : Rows.ImageDiffsSaid := over
#print axioms proved
end Go.Proofs.Ytbgeinaldkjddaa.imageDiffs
