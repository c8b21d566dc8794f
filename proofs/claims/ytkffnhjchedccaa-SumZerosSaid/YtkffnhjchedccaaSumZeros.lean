/-
  The law SumZeros returns true for every state and number; no condition.
-/
import Derived.Test.YtkffnhjchedccaaSal
import Derived.SizedLaws
namespace Go.Proofs.Ytkffnhjchedccaa.sumZeros
open Go.Proofs.Ytkffnhjchedccaa.Su Go.ChangeShapes Go.WideShapes Go.ChangeAt Go.RowKit Go.Proofs.Ytkffnhjchedccaa.Sl Go.Proofs.Ytkffnhjchedccaa.St Go.Proofs.Ytkffnhjchedccaa.Bits Go.Proofs.Ytkffnhjchedccaa.Wd
set_option linter.unusedVariables false
set_option maxRecDepth 100000

set_option maxHeartbeats 1000000 in
theorem walk (s n : Int) (hs : 0 ≤ s ∧ s < 18446744073709551616) (hn : -9223372036854775808 ≤ n ∧ n ≤ 9223372036854775807) (w : World) :
    Calls Try.prog 8 #[.int .u64 s, .int .i64 n] w fun e w' => e = .returned (.bool true) ∧ Below w.heap.size w w' := by
  have hu : U64 s := ⟨hs.1, hs.2⟩
  rcases (by omega : n < 0 ∨ (0 ≤ n ∧ 50 < n) ∨ (0 ≤ n ∧ n ≤ 50)) with h | ⟨h, h2⟩ | ⟨h, h2⟩
  · go_enter Try.func8, Try.ntmps8
    go_wp2_with fail
    all_goals first | (exfalso; omega) | skip
    refine (sumlive_any _).mono ?_
    rintro e wb ⟨rfl, bb⟩
    go_wp2
    go_ret
    exact ⟨rfl, bb⟩
  · go_enter Try.func8, Try.ntmps8
    go_wp2_with fail
    all_goals first | (exfalso; omega) | skip
    refine (sumlive_any _).mono ?_
    rintro e wb ⟨rfl, bb⟩
    go_wp2
    go_ret
    exact ⟨rfl, bb⟩
  · obtain ⟨N, rfl⟩ := Int.eq_ofNat_of_zero_le h
    have hZ := Lib.hid (beh_zeros (s := s) N)
    have hz0 : zerosI s.toNat 0 = s := by
      unfold zerosI
      rw [zeros]
      omega
    have HZ0 := Lib.hid hz0
    clear hz0
    go_enter Try.func8, Try.ntmps8
    go_wp2_with (refine wp_make rfl (.tmp 17) (.tmp 17) 22 rfl .u64 23 Try.underlying22 info_word w (Below.refl _ _) .i64 .i64 N N N rfl rfl rfl rfl (by omega) ?_)
    all_goals first | (exfalso; omega) | skip
    intro w0 G0
    obtain ⟨a0, c0, hv0, s0⟩ := G0.sees (wf_zeros N) (by simp; omega)
    have hl : (List.replicate N (0 : Int)).length = N := by simp
    rw [hl] at hv0 s0
    injection hv0 with h3 _ h4
    subst h3 h4
    have C := G0.below
    clear G0 hl
    go_wp2_with fail
    refine (next_x s _ _ _ _ _ hu s0 (by omega) _ hZ.out).mono ?_
    rintro e w1 ⟨rfl, b1⟩
    replace C := below_then C b1
    go_wp2_with fail
    go_loopw [0, 7] (fun x i wr => ∃ k : Nat, k ≤ 8 * N ∧ i = .int .i64 k ∧ x = .int .u64 (zerosI s.toNat k) ∧ Below w.heap.size w wr) (fun _ i _ => 8 * N - (intOf i).toNat)
    case atStart => exact ⟨0, Nat.zero_le _, rfl, by rw [HZ0.out], C⟩
    case round =>
      clear C
      obtain ⟨k, hk, rfl, rfl, C⟩ := hrel
      have hb := zerosI_bd (u64_top hu) k
      have hz := zerosI_succ s.toNat k
      by_cases hlt : k < 8 * N
      · go_wp2
        go_roundw
        case rel => exact ⟨k + 1, by omega, by go_num, by rw [← hz], C⟩
        case measure => simp [intOf]; omega
      · obtain rfl : k = 8 * N := by omega
        clear hz
        go_wp2_with fail
        refine (sumlive_any _).mono ?_
        rintro e wb ⟨rfl, bb⟩
        go_wp2
        go_ret
        exact ⟨rfl, below_then C bb⟩

/-! The row's step. -/
set_option maxRecDepth 100000 in
theorem lifted (os : Os) (started : os.Started) (H : Type) (enc : TypeId × Value → H) :
    ReturnsInHanded {} Try.checked os 8 .any (Rows.sumZerosSpec.pre6 enc Try.prog Try.f8 Rows.sumZerosRow.domain false) (Rows.sumZerosSpec.post enc Try.prog Try.f8 false true false false) := by
  refine returnsInHanded_of_change (C := Try.checked) St.own started (by kernel_rfl) Try.func8
    (ChangeSpec.witness6 (enc := enc) (C := Try.checked) false ⟨#[], #[.int .u64 0, .int .i64 0], []⟩ 8 (by kernel_rfl) (by kernel_rfl) (by kernel_rfl) (by kernel_rfl)) ?_
  intro W base args ds gs before hval0 hW hcnd _
  have hval : ∀ (j : Nat) t v, Try.f8.params[j]? = some t → args[j]? = some v → Value.okWide Try.prog W .any base t v := hval0
  have hW' := hW
  obtain ⟨p, q, hA0, hV, rfl, hfz, hnd⟩ := hW
  have hA : DataW.TrodAll enc Try.prog W 0 (fun _ => true) true Try.f8.params.toList args.toList ds p := hA0
  rw [Try.params8] at hA hval
  obtain ⟨v0, vs0, d0, ds0, p0, q0, hargs, rfl, rfl, h0, r0⟩ := trodAll_cons hA
  obtain ⟨v1, vs1, d1, ds1, p1, q1, rfl, rfl, rfl, h1, r1⟩ := trodAll_cons r0
  obtain ⟨rfl, rfl, rfl⟩ := trodAll_nil r1
  obtain rfl : args = #[v0, v1] := by cases args; simp_all
  obtain ⟨a0, rfl, rfl, rfl, w0⟩ := open_int Try.underlying23 (hval 0 23 v0 rfl rfl) h0
  obtain ⟨a1, rfl, rfl, rfl, w1⟩ := open_int Try.underlying3 (hval 1 3 v1 rfl rfl) h1
  refine (walk a0 a1 (St.u64_of_wf w0) (St.i64_of_wf w1) W).mono fun e W' ⟨he, hb⟩ => ?_
  subst he
  exact St.law_done St.laid (by kernel_rfl) rfl rfl Try.underlying4 rfl hW' hb

theorem over : Rows.sumZerosRow.holds Try.pinned (OpenSpec.ofChange Rows.sumZerosSpec) :=
  OpenClaim.holds_of_wide 8 Try.f8 rfl rfl rfl rfl rfl rfl rfl ⟨rfl, rfl, rfl, rfl, rfl⟩ rfl rfl rfl rfl rfl (by kernel_rfl) Try.func8 (by kernel_rfl)
    (of_decide_eq_true (by kernel_rfl)) (by unfold Func.isWrapper; first | (rw [if_pos (by decide +kernel)]; kernel_rfl) | (rw [if_neg (by decide +kernel)]; exact ⟨rfl, rfl⟩))
    (fun os started H enc _ => lifted os started H enc)
theorem proved : Rows.SumZerosSaid := over
#print axioms proved
end Go.Proofs.Ytkffnhjchedccaa.sumZeros
