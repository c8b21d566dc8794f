/-
  The law SumWords returns true for every state, words and width; no condition.
-/
import Derived.Test.YtkffnhjchedccaaSal
import Derived.SizedLaws
import Derived.Test.YtkffnhjchedccaaSur
import Derived.Test.YtkffnhjchedccaaIrefb
namespace Go.Proofs.Ytkffnhjchedccaa.sumWords
open Go.Proofs.Ytkffnhjchedccaa.Su Go.ChangeShapes Go.WideShapes Go.ChangeAt Go.RowKit Go.Proofs.Ytkffnhjchedccaa.Sl Go.Proofs.Ytkffnhjchedccaa.St Go.Proofs.Ytkffnhjchedccaa.Bits Go.Proofs.Ytkffnhjchedccaa.Wd Go.Proofs.Ytkffnhjchedccaa.Ir
set_option linter.unusedVariables false
set_option maxRecDepth 100000

set_option maxHeartbeats 1000000 in
theorem walk_main (s : Int) (a : Option Addr) (n c : Nat) (xs : List Int) (t : Int) (w : World) (hu : U64 s) (va : Sees w .u64 a n c xs) (ht : -9223372036854775808 ≤ t ∧ t ≤ 9223372036854775807) (hn : n ≤ 100 ∨ (2048 < n ∧ n ≤ 2100)) (X Y LW E G : Int) (HX : Hid (nextI s xs = X)) (HE : Hid (manyE n = E)) (HY : Hid (nextI firstI xs = Y)) (HL : Hid (lowI xs t = LW)) (HG : Hid (lowE n t = G)) :
    Calls Try.prog 4 #[.int .u64 s, .slice a n c, .int .i64 t] w fun e w' => e = .returned (.bool true) ∧ Below w.heap.size w w' := by
  have htop := va.top
  have hlx := va.len
  rcases hn with hn | ⟨hn, hn2⟩
  all_goals
    go_enter Try.func4, Try.ntmps4
    go_wp2_with fail
    all_goals first | (exfalso; omega) | skip
    refine (twin_any _ _ _ _ _ va).mono ?_
    rintro e w2 ⟨a2, c2, rfl, M2⟩
    have S2 := M2.sees va.wf (by omega)
    have C := M2.2
    rw [hlx]
    rw [hlx] at S2
    clear M2
    go_wp2_with fail
    refine (next_any s _ _ _ xs _ hu S2).mono ?_
    rintro e w3 ⟨rfl, b3⟩
    rw [HX.out, HE.out]
    replace C := below_then C b3
    replace S2 := S2.keep b3
    go_wp2_with fail
    refine (rnext_any s _ _ _ xs _ hu (va.keep C)).mono ?_
    rintro e w4 ⟨rfl, b4⟩
    rw [HX.out, HE.out]
    replace C := below_then C b4
    replace S2 := S2.keep b4
    go_wp2_with fail
    refine (of_any _ _ _ xs _ S2).mono ?_
    rintro e w5 ⟨rfl, b5⟩
    rw [HY.out, HE.out]
    replace C := below_then C b5
    replace S2 := S2.keep b5
    go_wp2_with fail
    refine (rof_any _ _ _ xs _ (va.keep C)).mono ?_
    rintro e w6 ⟨rfl, b6⟩
    rw [HY.out, HE.out]
    replace C := below_then C b6
    replace S2 := S2.keep b6
    go_wp2_with fail
    refine (low_any _ _ _ xs t _ S2 ht).mono ?_
    rintro e w7 ⟨rfl, b7⟩
    rw [HL.out, HG.out]
    replace C := below_then C b7
    replace S2 := S2.keep b7
    go_wp2_with fail
    refine (rlow_any _ _ _ xs t _ (va.keep C) ht).mono ?_
    rintro e w8 ⟨rfl, b8⟩
    rw [HL.out, HG.out]
    replace C := below_then C b8
    replace S2 := S2.keep b8
    go_wp2_with fail
    refine (same_any _ _ _ _ _ _ xs xs _ S2 (va.keep C)).mono ?_
    rintro e w9 ⟨rfl, j, rfl⟩
    rw [decide_eq_true rfl]
    go_wp2
    go_ret
    exact ⟨rfl, below_drewN C _⟩
set_option maxHeartbeats 1000000 in
theorem walk (s : Int) (a : Option Addr) (n c : Nat) (xs : List Int) (t : Int) (hs : 0 ≤ s ∧ s < 18446744073709551616) (ht : -9223372036854775808 ≤ t ∧ t ≤ 9223372036854775807) (w : World) (va : Sees w .u64 a n c xs) (hc : c ≤ 17592186044416) :
    Calls Try.prog 4 #[.int .u64 s, .slice a n c, .int .i64 t] w fun e w' => e = .returned (.bool true) ∧ Below w.heap.size w w' := by
  have hu : U64 s := ⟨hs.1, hs.2⟩
  have htop := va.top
  rcases (by omega : (100 < n ∧ n ≤ 2048) ∨ (2048 < n ∧ 2100 < n) ∨ n ≤ 100 ∨ (2048 < n ∧ n ≤ 2100)) with ⟨h, h2⟩ | ⟨h, h2⟩ | h | ⟨h, h2⟩
  · go_enter Try.func4, Try.ntmps4
    go_wp2_with fail
    all_goals first | (exfalso; omega) | skip
    all_goals go_ret
    all_goals exact ⟨rfl, Below.refl _ _⟩
  · go_enter Try.func4, Try.ntmps4
    go_wp2_with fail
    all_goals first | (exfalso; omega) | skip
    all_goals go_ret
    all_goals exact ⟨rfl, Below.refl _ _⟩
  · exact walk_main s a n c xs t w hu va ht (.inl h) _ _ _ _ _ (Lib.hid rfl) (Lib.hid rfl) (Lib.hid rfl) (Lib.hid rfl) (Lib.hid rfl)
  · exact walk_main s a n c xs t w hu va ht (.inr ⟨h, h2⟩) _ _ _ _ _ (Lib.hid rfl) (Lib.hid rfl) (Lib.hid rfl) (Lib.hid rfl) (Lib.hid rfl)

/-! The row's step. -/
set_option maxRecDepth 100000 in
theorem lifted (os : Os) (started : os.Started) (H : Type) (enc : TypeId × Value → H) :
    ReturnsInHanded {} Try.checked os 4 .any (Rows.sumWordsSpec.pre6 enc Try.prog Try.f4 Rows.sumWordsRow.domain false) (Rows.sumWordsSpec.post enc Try.prog Try.f4 false true false false) := by
  refine returnsInHanded_of_change_sized (C := Try.checked) St.own started (by kernel_rfl) Try.func4
    (ChangeSpec.witness6 (enc := enc) (C := Try.checked) false ⟨#[], #[.int .u64 0, .slice .none 0 0, .int .i64 0], []⟩ 8 (by kernel_rfl) (by kernel_rfl) (by kernel_rfl) (by kernel_rfl)) ?_
  intro W base args ds gs before hval0 hW hcnd hsz0 _
  have hsz : (DataW.weightsEach Try.prog (Try.f4.params.toList ++ Rows.sumWordsSpec.plain.varTypes Try.prog) (ds ++ gs)).all (· ≤ reachBytes) = true := hsz0
  have hval : ∀ (j : Nat) t v, Try.f4.params[j]? = some t → args[j]? = some v → Value.okWide Try.prog W .any base t v := hval0
  have hW' := hW
  obtain ⟨p, q, hA0, hV, rfl, hfz, hnd⟩ := hW
  have hA : DataW.TrodAll enc Try.prog W 0 (fun _ => true) true Try.f4.params.toList args.toList ds p := hA0
  rw [Try.params4] at hA hval hsz
  obtain ⟨v0, vs0, d0, ds0, p0, q0, hargs, rfl, rfl, h0, r0⟩ := trodAll_cons hA
  obtain ⟨v1, vs1, d1, ds1, p1, q1, rfl, rfl, rfl, h1, r1⟩ := trodAll_cons r0
  obtain ⟨v2, vs2, d2, ds2, p2, q2, rfl, rfl, rfl, h2, r2⟩ := trodAll_cons r1
  obtain ⟨rfl, rfl, rfl⟩ := trodAll_nil r2
  obtain rfl : args = #[v0, v1, v2] := by cases args; simp_all
  have z1 : ∀ es sp, d1 = .slice es sp → (es.length + sp.length) * 8 ≤ 140737488351232 := fun es sp e => by
    have := sized_slice hsz (j := 1) (t := 22) (e := 23) rfl (congrArg some e) Try.underlying22
    rw [show Try.prog.bytesOf 23 = 8 from by kernel_rfl] at this
    simpa [reachBytes] using this
  obtain ⟨a0, rfl, rfl, rfl, w0⟩ := open_int Try.underlying23 (hval 0 23 v0 rfl rfl) h0
  obtain ⟨a1, n1, c1, xs1, rfl, s1, t1⟩ := Sl.open_slice Try.underlying22 Try.underlying23 (by kernel_rfl) (hval 1 22 v1 rfl rfl) h1 z1
  obtain ⟨a2, rfl, rfl, rfl, w2⟩ := open_int Try.underlying3 (hval 2 3 v2 rfl rfl) h2
  refine (walk a0 a1 n1 c1 xs1 a2 (St.u64_of_wf w0) (St.i64_of_wf w2) W s1 t1).mono fun e W' ⟨he, hb⟩ => ?_
  subst he
  exact St.law_done St.laid (by kernel_rfl) rfl rfl Try.underlying4 rfl hW' hb

theorem over : Rows.sumWordsRow.holds Try.pinned (OpenSpec.ofChange Rows.sumWordsSpec) :=
  OpenClaim.holds_of_wide 4 Try.f4 rfl rfl rfl rfl rfl rfl rfl ⟨rfl, rfl, rfl, rfl, rfl⟩ rfl rfl rfl rfl rfl (by kernel_rfl) Try.func4 (by kernel_rfl)
    (of_decide_eq_true (by kernel_rfl)) (by unfold Func.isWrapper; first | (rw [if_pos (by decide +kernel)]; kernel_rfl) | (rw [if_neg (by decide +kernel)]; exact ⟨rfl, rfl⟩))
    (fun os started H enc _ => lifted os started H enc)
theorem proved : Rows.SumWordsSaid := over
#print axioms proved
end Go.Proofs.Ytkffnhjchedccaa.sumWords
