/-
  The law WordParts returns true for every word, first bit and two widths; no condition.
-/
import Derived.Test.YtnpdjlncfnmipaaStep
import Derived.Test.YtnpdjlncfnmipaaLaw
namespace Go.Proofs.Ytnpdjlncfnmipaa.wordParts
open Go.ChangeShapes Go.WideShapes Go.ChangeAt Go.RowKit Go.Proofs.Ytnpdjlncfnmipaa.Wd
set_option linter.unusedVariables false
theorem fld_parts (w f n m : Nat) : Bits.fld w f n + Bits.fld w (f + n) m * 2 ^ n = Bits.fld w f (n + m) := by
  unfold Bits.fld
  rw [Nat.pow_add 2 n m, Nat.mod_mul, Nat.div_div_eq_div_mul, ← Nat.pow_add, Nat.mul_comm (2 ^ n)]
theorem parts_eq (a f n m : Int) (hn : 1 ≤ n) (hm : 1 ≤ m) (h : IsFd f (n + m)) :
    IntKind.u64.wrap (getI a f n + IntKind.u64.wrap (getI a (f + n) m * 2 ^ n.toNat)) = getI a f (n + m) := by
  obtain ⟨h1, h2, h3, h4⟩ := h
  have e := fld_parts a.toNat f.toNat n.toNat m.toNat
  have b := Bits.fld_lt a.toNat f.toNat (n.toNat + m.toNat)
  have p := pow_le_64 (n := n.toNat + m.toNat) (by omega)
  have c : getI a (f + n) m * 2 ^ n.toNat = ((Bits.fld a.toNat (f.toNat + n.toNat) m.toNat * 2 ^ n.toNat : Nat) : Int) := by
    unfold getI
    rw [show (f + n).toNat = f.toNat + n.toNat from by omega]
    simp
  rw [c]
  unfold getI
  rw [show (n + m).toNat = n.toNat + m.toNat from by omega, ← e, IntKind.wrap_u64, IntKind.wrap_u64]
  rw [← e] at b
  generalize Bits.fld a.toNat (f.toNat + n.toNat) m.toNat * 2 ^ n.toNat = y at *
  generalize Bits.fld a.toNat f.toNat n.toNat = x at *
  omega
theorem fd_left {f n m : Int} (h : IsFd f (n + m)) (hn : 1 ≤ n) (hm : 1 ≤ m) : IsFd f n := by
  obtain ⟨h1, h2, h3, h4⟩ := h
  exact ⟨h1, h2, hn, by omega⟩
theorem fd_right {f n m : Int} (h : IsFd f (n + m)) (hn : 1 ≤ n) (hm : 1 ≤ m) : IsFd (f + n) m := by
  obtain ⟨h1, h2, h3, h4⟩ := h
  exact ⟨by omega, by omega, hm, by omega⟩

set_option maxHeartbeats 1000000 in
theorem walk (a0 a1 a2 a3 : Int) (w0 : 0 ≤ a0 ∧ a0 < 18446744073709551616) (w1 : -9223372036854775808 ≤ a1 ∧ a1 ≤ 9223372036854775807) (w2 : -9223372036854775808 ≤ a2 ∧ a2 ≤ 9223372036854775807)
    (w3 : -9223372036854775808 ≤ a3 ∧ a3 ≤ 9223372036854775807) (w : World) :
    Calls Try.prog 9 #[.int .u64 a0, .int .i64 a1, .int .i64 a2, .int .i64 a3] w fun e w' => e = .returned (.bool true) ∧ Below w.heap.size w w' := by
  have HA := Lib.hid w0
  have hc : a2 < 1 ∨ (1 ≤ a2 ∧ a3 < 1) ∨ (1 ≤ a2 ∧ 1 ≤ a3 ∧ 64 < a2) ∨ (1 ≤ a2 ∧ 1 ≤ a3 ∧ a2 ≤ 64 ∧ 64 < a3) ∨ (1 ≤ a2 ∧ 1 ≤ a3 ∧ a2 ≤ 64 ∧ a3 ≤ 64) := by omega
  rcases hc with c1 | ⟨c1, c2⟩ | ⟨c1, c2, c3⟩ | ⟨c1, c2, c3, c4⟩ | ⟨c1, c2, c3, c4⟩
  case inr.inr.inr.inr =>
    by_cases h : IsFd a1 (a2 + a3)
    · have E := parts_eq a0 a1 a2 a3 c1 c2 h
      have hq : (getI a0 a1 (a2 + a3) == IntKind.u64.wrap (getI a0 a1 a2 + IntKind.u64.wrap (getI a0 (a1 + a2) a3 * 2 ^ a2.toNat))) = true := beq_iff_eq.2 E.symm
      clear E
      have HQ := Lib.hid hq
      clear hq
      obtain ⟨b1, b2, b3, b4⟩ := id h
      go_enter Try.func9, Try.ntmps9
      go_wp2_with fail
      refine (field_yes a1 (a2 + a3) _ h).mono ?_
      rintro e w' ⟨rfl, rfl⟩
      go_wp2_with fail
      refine (get_yes a0 a1 (a2 + a3) _ HA.out h).mono ?_
      rintro e w' ⟨rfl, k1, rfl⟩
      go_wp2_with fail
      refine (get_yes a0 a1 a2 _ HA.out (fd_left h c1 c2)).mono ?_
      rintro e w' ⟨rfl, k2, rfl⟩
      go_wp2_with fail
      refine (get_yes a0 (a1 + a2) a3 _ HA.out (fd_right h c1 c2)).mono ?_
      rintro e w' ⟨rfl, k3, rfl⟩
      have hq := HQ.out
      go_wp2_with fail
      refine (Lw.alive_any _).mono ?_
      rintro e w' ⟨rfl, hb⟩
      go_wp2_with fail
      go_ret
      exact ⟨rfl, (below_drewN (Below.refl _ _) _).trans hb⟩
    · go_enter Try.func9, Try.ntmps9
      go_wp2_with fail
      refine (field_no a1 (a2 + a3) _ h).mono ?_
      rintro e w' ⟨rfl, rfl⟩
      go_wp2_with fail
      refine (Lw.alive_any _).mono ?_
      rintro e w' ⟨rfl, hb⟩
      go_wp2_with fail
      go_ret
      exact ⟨rfl, hb⟩
  all_goals
    go_enter Try.func9, Try.ntmps9
    go_wp2_with fail
    all_goals
      refine (Lw.alive_any _).mono ?_
      rintro e w' ⟨rfl, hb⟩
      go_wp2_with fail
      go_ret
      exact ⟨rfl, hb⟩

/-! The row's step. -/
set_option maxRecDepth 100000 in
theorem lifted (os : Os) (started : os.Started) (H : Type) (enc : TypeId × Value → H) :
    ReturnsInHanded {} Try.checked os 9 .any (Rows.wordPartsSpec.pre6 enc Try.prog Try.f9 Rows.wordPartsRow.domain false) (Rows.wordPartsSpec.post enc Try.prog Try.f9 false true false false) := by
  refine returnsInHanded_of_change (C := Try.checked) St.own started (by kernel_rfl) Try.func9
    (ChangeSpec.witness6 (enc := enc) (C := Try.checked) false ⟨#[], #[.int .u64 0, .int .i64 0, .int .i64 0, .int .i64 0], []⟩ 8 (by kernel_rfl) (by kernel_rfl) (by kernel_rfl) (by kernel_rfl)) ?_
  intro W base args ds gs before hval0 hW hcnd _
  have hval : ∀ (j : Nat) t v, Try.f9.params[j]? = some t → args[j]? = some v → Value.okWide Try.prog W .any base t v := hval0
  have hW' := hW
  obtain ⟨p, q, hA0, hV, rfl, hfz, hnd⟩ := hW
  have hA : DataW.TrodAll enc Try.prog W 0 (fun _ => true) true Try.f9.params.toList args.toList ds p := hA0
  rw [Try.params9] at hA hval
  obtain ⟨v0, vs0, d0, ds0, p0, q0, hargs, rfl, rfl, h0, r0⟩ := trodAll_cons hA
  obtain ⟨v1, vs1, d1, ds1, p1, q1, rfl, rfl, rfl, h1, r1⟩ := trodAll_cons r0
  obtain ⟨v2, vs2, d2, ds2, p2, q2, rfl, rfl, rfl, h2, r2⟩ := trodAll_cons r1
  obtain ⟨v3, vs3, d3, ds3, p3, q3, rfl, rfl, rfl, h3, r3⟩ := trodAll_cons r2
  obtain ⟨rfl, rfl, rfl⟩ := trodAll_nil r3
  obtain rfl : args = #[v0, v1, v2, v3] := by cases args; simp_all
  obtain ⟨a0, rfl, rfl, rfl, w0⟩ := open_int Try.underlying23 (hval 0 23 v0 rfl rfl) h0
  obtain ⟨a1, rfl, rfl, rfl, w1⟩ := open_int Try.underlying3 (hval 1 3 v1 rfl rfl) h1
  obtain ⟨a2, rfl, rfl, rfl, w2⟩ := open_int Try.underlying3 (hval 2 3 v2 rfl rfl) h2
  obtain ⟨a3, rfl, rfl, rfl, w3⟩ := open_int Try.underlying3 (hval 3 3 v3 rfl rfl) h3
  refine (walk a0 a1 a2 a3 (St.u64_of_wf w0) (St.i64_of_wf w1) (St.i64_of_wf w2) (St.i64_of_wf w3) W).mono fun e W' ⟨he, hb⟩ => ?_
  subst he
  exact St.law_done St.laid (by kernel_rfl) rfl rfl Try.underlying4 rfl hW' hb

theorem over : Rows.wordPartsRow.holds Try.pinned (OpenSpec.ofChange Rows.wordPartsSpec) :=
  OpenClaim.holds_of_wide 9 Try.f9 rfl rfl rfl rfl rfl rfl rfl ⟨rfl, rfl, rfl, rfl, rfl⟩ rfl rfl rfl rfl rfl (by kernel_rfl) Try.func9 (by kernel_rfl)
    (of_decide_eq_true (by kernel_rfl)) (by unfold Func.isWrapper; first | (rw [if_pos (by decide +kernel)]; kernel_rfl) | (rw [if_neg (by decide +kernel)]; exact ⟨rfl, rfl⟩))
    (fun os started H enc _ => lifted os started H enc)
theorem proved : Rows.WordPartsSaid := over
#print axioms proved
end Go.Proofs.Ytnpdjlncfnmipaa.wordParts
