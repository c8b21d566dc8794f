/-
  The law SumBack returns true for every state and word; no condition.
-/
import Derived.Test.YtkffnhjchedccaaSal
import Derived.SizedLaws
namespace Go.Proofs.Ytkffnhjchedccaa.sumBack
open Go.Proofs.Ytkffnhjchedccaa.Su Go.ChangeShapes Go.WideShapes Go.ChangeAt Go.RowKit Go.Proofs.Ytkffnhjchedccaa.Sl Go.Proofs.Ytkffnhjchedccaa.St Go.Proofs.Ytkffnhjchedccaa.Bits Go.Proofs.Ytkffnhjchedccaa.Wd
set_option linter.unusedVariables false
set_option maxRecDepth 100000

theorem beh_one {s : Int} (v : Int) : behI s [v] = uptoI s v 8 := by
  unfold behI uptoI
  show ((behind s.toNat [v.toNat] : Nat) : Int) = _
  rw [behind_cons, behind_nil, upto_all]
/-- What the round computes. -/
theorem back_eq {s v : Int} (hs : U64 s) (hv : U64 v) {k : Nat} (hk : k < 8) :
    bits .xor .u64 (IntKind.u64.wrap (uptoI s v (k + 1) * 14886173955864302971)) (bits .and .u64 (v / 2 ^ (8 * k)) 255) = uptoI s v k := by
  obtain ⟨V, rfl⟩ := Int.eq_ofNat_of_zero_le hv.1
  have hV := hv.2
  have hU := upto_lt (u64_top hs) V (k + 1)
  have hback := upto_back (w := V) (u64_top hs) hk
  have hB := byteN_lt V k
  rw [top_num] at hU hback
  unfold uptoI
  rw [Int.toNat_natCast]
  generalize upto s.toNat V (k + 1) = U at hU hback ⊢
  have e1 : IntKind.u64.wrap ((U : Int) * 14886173955864302971) = ((U * inv % 18446744073709551616 : Nat) : Int) := by
    rw [IntKind.wrap_u64]
    unfold inv
    omega
  have e2 : (V : Int) / 2 ^ (8 * k) = ((V / 2 ^ (8 * k) : Nat) : Int) := by simp
  have h2 := Nat.div_le_self V (2 ^ (8 * k))
  have e3 : bits .and .u64 ((V : Int) / 2 ^ (8 * k)) 255 = ((byteN V k : Nat) : Int) := by
    rw [e2]
    unfold byteN
    generalize V / 2 ^ (8 * k) = q at h2
    rw [u64_and _ _ (by omega) (by omega) (by omega) (by omega), Int.toNat_natCast]
    have e : q &&& (255 : Int).toNat = q % 256 := Nat.and_two_pow_sub_one_eq_mod q 8
    rw [e]
  have h3 : U * inv % 18446744073709551616 < 18446744073709551616 := Nat.mod_lt _ (by decide)
  rw [e1, e3, u64_xor _ _ (by omega) (by omega) (by omega) (by omega), Int.toNat_natCast, Int.toNat_natCast, hback]
set_option maxHeartbeats 1000000 in
theorem walk (s v : Int) (hs : 0 ≤ s ∧ s < 18446744073709551616) (hv : 0 ≤ v ∧ v < 18446744073709551616) (w : World) :
    Calls Try.prog 7 #[.int .u64 s, .int .u64 v] w fun e w' => e = .returned (.bool true) ∧ Below w.heap.size w w' := by
  have hu : U64 s := ⟨hs.1, hs.2⟩
  have hw : U64 v := ⟨hv.1, hv.2⟩
  have B0 : Below w.heap.size w (w.alloc (.cells #[.int .u64 v] 23)) := below_new (Below.refl _ _)
  have H0 := Lib.hid (show uptoI s v 0 = s from by unfold uptoI; rw [upto_none]; omega)
  go_enter Try.func7, Try.ntmps7
  go_wp2_with fail
  refine (next_x s _ _ _ _ _ hu (sees_one w .u64 23 v (WalkArith.wf_u64 (by omega))) (by decide) _ (beh_one v)).mono ?_
  rintro e w1 ⟨rfl, b1⟩
  have C := below_then B0 b1
  go_wp2_with fail
  go_loopw [5, 7] (fun x i wr => ∃ k : Nat, k ≤ 8 ∧ i = .int .i64 ((k : Int) - 1) ∧ x = .int .u64 (uptoI s v k) ∧ Below w.heap.size w wr) (fun _ i _ => (intOf i + 1).toNat)
  case atStart => exact ⟨8, by decide, rfl, rfl, C⟩
  case round =>
    clear C
    obtain ⟨k, hk, rfl, rfl, C⟩ := hrel
    by_cases hlt : 0 < k
    · obtain ⟨j, rfl⟩ : ∃ j, k = j + 1 := ⟨k - 1, by omega⟩
      have hb := uptoI_bd hu v (j + 1)
      have he := back_eq hu hw (show j < 8 by omega)
      have hj : ((j + 1 : Nat) : Int) - 1 = j := by omega
      rw [hj]
      have he2 := uptoI_bd hu v j
      go_wp2
      go_roundw
      case rel => exact ⟨j, by omega, by go_num, by rw [← he], C⟩
      case measure => simp [intOf]
    · obtain rfl : k = 0 := by omega
      rw [H0.out]
      go_wp2_with fail
      refine (sumlive_any _).mono ?_
      rintro e wb ⟨rfl, bb⟩
      go_wp2
      go_ret
      exact ⟨rfl, below_then C bb⟩

/-! The row's step. -/
set_option maxRecDepth 100000 in
theorem lifted (os : Os) (started : os.Started) (H : Type) (enc : TypeId × Value → H) :
    ReturnsInHanded {} Try.checked os 7 .any (Rows.sumBackSpec.pre6 enc Try.prog Try.f7 Rows.sumBackRow.domain false) (Rows.sumBackSpec.post enc Try.prog Try.f7 false true false false) := by
  refine returnsInHanded_of_change (C := Try.checked) St.own started (by kernel_rfl) Try.func7
    (ChangeSpec.witness6 (enc := enc) (C := Try.checked) false ⟨#[], #[.int .u64 0, .int .u64 0], []⟩ 8 (by kernel_rfl) (by kernel_rfl) (by kernel_rfl) (by kernel_rfl)) ?_
  intro W base args ds gs before hval0 hW hcnd _
  have hval : ∀ (j : Nat) t v, Try.f7.params[j]? = some t → args[j]? = some v → Value.okWide Try.prog W .any base t v := hval0
  have hW' := hW
  obtain ⟨p, q, hA0, hV, rfl, hfz, hnd⟩ := hW
  have hA : DataW.TrodAll enc Try.prog W 0 (fun _ => true) true Try.f7.params.toList args.toList ds p := hA0
  rw [Try.params7] at hA hval
  obtain ⟨v0, vs0, d0, ds0, p0, q0, hargs, rfl, rfl, h0, r0⟩ := trodAll_cons hA
  obtain ⟨v1, vs1, d1, ds1, p1, q1, rfl, rfl, rfl, h1, r1⟩ := trodAll_cons r0
  obtain ⟨rfl, rfl, rfl⟩ := trodAll_nil r1
  obtain rfl : args = #[v0, v1] := by cases args; simp_all
  obtain ⟨a0, rfl, rfl, rfl, w0⟩ := open_int Try.underlying23 (hval 0 23 v0 rfl rfl) h0
  obtain ⟨a1, rfl, rfl, rfl, w1⟩ := open_int Try.underlying23 (hval 1 23 v1 rfl rfl) h1
  refine (walk a0 a1 (St.u64_of_wf w0) (St.u64_of_wf w1) W).mono fun e W' ⟨he, hb⟩ => ?_
  subst he
  exact St.law_done St.laid (by kernel_rfl) rfl rfl Try.underlying4 rfl hW' hb

theorem over : Rows.sumBackRow.holds Try.pinned (OpenSpec.ofChange Rows.sumBackSpec) :=
  OpenClaim.holds_of_wide 7 Try.f7 rfl rfl rfl rfl rfl rfl rfl ⟨rfl, rfl, rfl, rfl, rfl⟩ rfl rfl rfl rfl rfl (by kernel_rfl) Try.func7 (by kernel_rfl)
    (of_decide_eq_true (by kernel_rfl)) (by unfold Func.isWrapper; first | (rw [if_pos (by decide +kernel)]; kernel_rfl) | (rw [if_neg (by decide +kernel)]; exact ⟨rfl, rfl⟩))
    (fun os started H enc _ => lifted os started H enc)
theorem proved : Rows.SumBackSaid := over
#print axioms proved
end Go.Proofs.Ytkffnhjchedccaa.sumBack
