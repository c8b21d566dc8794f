/-
  The law SumNames returns true for no argument at all: its examples hold; no condition.
-/
import Derived.Test.YtkffnhjchedccaaSal
import Derived.SizedLaws
namespace Go.Proofs.Ytkffnhjchedccaa.sumNames
open Go.Proofs.Ytkffnhjchedccaa.Su Go.ChangeShapes Go.WideShapes Go.ChangeAt Go.RowKit Go.Proofs.Ytkffnhjchedccaa.Sl Go.Proofs.Ytkffnhjchedccaa.St Go.Proofs.Ytkffnhjchedccaa.Bits Go.Proofs.Ytkffnhjchedccaa.Wd
set_option linter.unusedVariables false
set_option maxRecDepth 100000

theorem zeros_none : ∀ k, zeros 0 k = 0
  | 0 => by rw [zeros]
  | k + 1 => by rw [zeros_succ, zeros_none k, Nat.zero_mul, Nat.zero_mod]
theorem l58 : lowI [] 58 = 284462231761068837 ∧ lowE 0 58 = 0 := by decide +kernel
theorem l7 : lowI [] 7 = 0 ∧ lowE 0 7 = 2 := by decide +kernel
theorem l65 : lowI [] 65 = 0 ∧ lowE 0 65 = 2 := by decide +kernel
theorem lm1 : lowI [] (-1) = 0 ∧ lowE 0 (-1) = 2 := by decide +kernel
theorem l64 : lowI [] 64 = 14695981039346656037 ∧ lowE 0 64 = 0 := by decide +kernel
theorem long_next {xs : List Int} (h : xs.length = 2049) (s : Int) : nextI s xs = 0 ∧ manyE 2049 = 4 :=
  ⟨by unfold nextI; rw [if_pos (by omega)], by decide⟩
theorem long_low {xs : List Int} (h : xs.length = 2049) : lowI xs 7 = 0 ∧ lowE 2049 7 = 4 := by
  have h2 : lowE 2049 7 = 4 := by decide
  refine ⟨?_, h2⟩
  unfold lowI
  rw [h, h2, if_neg (by decide)]
theorem zero_next : behI 0 (List.replicate 2048 0) = 0 := by
  rw [beh_zeros]
  unfold zerosI
  rw [show (0 : Int).toNat = 0 from rfl, zeros_none]
  rfl
theorem take_zeros : (List.replicate 2049 (0 : Int)).take 2048 = List.replicate 2048 0 := by
  rw [List.take_replicate, show min 2048 2049 = 2048 from by decide]
set_option maxHeartbeats 1000000 in
theorem walk (w : World) : Calls Try.prog 3 #[] w fun e w' => e = .returned (.bool true) ∧ Below w.heap.size w w' := by
  obtain ⟨xs, hxs⟩ : ∃ xs, List.replicate 2049 (0 : Int) = xs := ⟨_, rfl⟩
  have HZ := Lib.hid ((congrArg (behI 0) take_zeros).trans zero_next)
  have HL := Lib.hid (show (List.replicate 2049 (0 : Int)).length = 2049 from List.length_replicate)
  have HW := Lib.hid (wf_zeros 2049)
  rw [hxs] at HZ HL HW
  replace hxs := Lib.hid hxs
  go_enter Try.func3, Try.ntmps3
  go_wp2_with (refine wp_makeX rfl (.const (.int .i64 2049)) (.const (.int .i64 2049)) 22 rfl .u64 23 Try.underlying22 info_word w (Below.refl _ _) .i64 .i64 2049 2049 2049 rfl rfl rfl rfl (by decide) xs hxs.out ?_)
  intro w0 G0
  have C := G0.below
  obtain ⟨a0, c0, hv0, s0⟩ := G0.sees HW.out (by rw [HL.out]; decide)
  rw [HL.out] at hv0 s0
  injection hv0 with h1 _ h2
  subst h1 h2
  clear G0
  have hsl := run_upto w.heap.size 0 2049 2049 2048 2048 rfl (by decide) (by decide)
  have su := s0.upto 2048 (by decide)
  go_wp2_with fail
  refine (of_z _ _ _ _ _ s0 _ _ (long_next HL.out _)).mono ?_
  rintro e w1 ⟨rfl, b1⟩
  replace C := below_then C b1
  replace s0 := s0.keep b1
  replace su := su.keep b1
  go_wp2_with fail
  refine (next_z 0 _ _ _ _ _ ⟨by decide, by decide⟩ s0 _ _ (long_next HL.out _)).mono ?_
  rintro e w2 ⟨rfl, b2⟩
  replace C := below_then C b2
  replace s0 := s0.keep b2
  replace su := su.keep b2
  go_wp2_with fail
  refine (low_z _ _ _ _ 7 _ s0 (by decide) _ _ (long_low HL.out)).mono ?_
  rintro e w3 ⟨rfl, b3⟩
  replace C := below_then C b3
  replace su := su.keep b3
  clear s0
  go_wp2_with fail
  refine (next_x 0 _ _ _ _ _ ⟨by decide, by decide⟩ su (by decide) 0 HZ.out).mono ?_
  rintro e w4 ⟨rfl, b4⟩
  replace C := below_then C b4
  clear su
  go_wp2_with fail
  refine (low_z _ _ _ _ 58 _ (sees_none _) (by decide) _ _ l58).mono ?_
  rintro e w5 ⟨rfl, b5⟩
  replace C := below_then C b5
  go_wp2_with fail
  refine (low_z _ _ _ _ 7 _ (sees_none _) (by decide) _ _ l7).mono ?_
  rintro e w6 ⟨rfl, b6⟩
  replace C := below_then C b6
  go_wp2_with fail
  refine (low_z _ _ _ _ 65 _ (sees_none _) (by decide) _ _ l65).mono ?_
  rintro e w7 ⟨rfl, b7⟩
  replace C := below_then C b7
  go_wp2_with fail
  refine (low_z _ _ _ _ (-1) _ (sees_none _) (by decide) _ _ lm1).mono ?_
  rintro e w8 ⟨rfl, b8⟩
  replace C := below_then C b8
  go_wp2_with fail
  refine (low_z _ _ _ _ 64 _ (sees_none _) (by decide) _ _ l64).mono ?_
  rintro e w9 ⟨rfl, b9⟩
  replace C := below_then C b9
  go_wp2_with fail
  refine (sumlive_any _).mono ?_
  rintro e wb ⟨rfl, bb⟩
  go_wp2
  go_ret
  exact ⟨rfl, below_then C bb⟩

/-! The row's step. -/
set_option maxRecDepth 100000 in
theorem lifted (os : Os) (started : os.Started) (H : Type) (enc : TypeId × Value → H) :
    ReturnsInHanded {} Try.checked os 3 .any (Rows.sumNamesSpec.pre6 enc Try.prog Try.f3 Rows.sumNamesRow.domain false) (Rows.sumNamesSpec.post enc Try.prog Try.f3 false true false false) := by
  refine returnsInHanded_of_change (C := Try.checked) St.own started (by kernel_rfl) Try.func3
    (ChangeSpec.witness6 (enc := enc) (C := Try.checked) false ⟨#[], #[], []⟩ 8 (by kernel_rfl) (by kernel_rfl) (by kernel_rfl) (by kernel_rfl)) ?_
  intro W base args ds gs before hval0 hW hcnd _
  have hW' := hW
  obtain ⟨p, q, hA0, hV, rfl, hfz, hnd⟩ := hW
  have hA : DataW.TrodAll enc Try.prog W 0 (fun _ => true) true Try.f3.params.toList args.toList ds p := hA0
  rw [Try.params3] at hA
  obtain ⟨rfl, rfl, rfl⟩ := trodAll_none hA
  refine (walk  W).mono fun e W' ⟨he, hb⟩ => ?_
  subst he
  exact St.law_done St.laid (by kernel_rfl) rfl rfl Try.underlying4 rfl hW' hb

theorem over : Rows.sumNamesRow.holds Try.pinned (OpenSpec.ofChange Rows.sumNamesSpec) :=
  OpenClaim.holds_of_wide 3 Try.f3 rfl rfl rfl rfl rfl rfl rfl ⟨rfl, rfl, rfl, rfl, rfl⟩ rfl rfl rfl rfl rfl (by kernel_rfl) Try.func3 (by kernel_rfl)
    (of_decide_eq_true (by kernel_rfl)) (by unfold Func.isWrapper; first | (rw [if_pos (by decide +kernel)]; kernel_rfl) | (rw [if_neg (by decide +kernel)]; exact ⟨rfl, rfl⟩))
    (fun os started H enc _ => lifted os started H enc)
theorem proved : Rows.SumNamesSaid := over
#print axioms proved
end Go.Proofs.Ytkffnhjchedccaa.sumNames
