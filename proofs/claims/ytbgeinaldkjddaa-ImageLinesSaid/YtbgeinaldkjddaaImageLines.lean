/-
  The law ImageLines returns true for every words and two addresses; no condition.
-/
import Derived.Test.YtbgeinaldkjddaaImagea
import Derived.SizedLaws
namespace Go.Proofs.Ytbgeinaldkjddaa.imageLines
open Go.ChangeShapes Go.WideShapes Go.ChangeAt Go.RowKit Go.Proofs.Ytbgeinaldkjddaa.Sl Go.Proofs.Ytbgeinaldkjddaa.St Go.Proofs.Ytbgeinaldkjddaa.Ir Go.Proofs.Ytbgeinaldkjddaa.Iu
set_option linter.unusedVariables false
set_option maxRecDepth 100000
def lnA (p : Int) : Int := p / 8
def lnB (p : Int) : Int := p - p % 8
theorem ln_facts (p : Int) (h0 : 0 ≤ p) : 0 ≤ lnA p ∧ 0 ≤ lnB p ∧ lnB p ≤ p ∧ p ≤ lnB p + 7 ∧ lnA p ≤ p := by
  unfold lnA lnB
  omega
theorem ln_eq (p : Int) : lnB p = 8 * lnA p := by
  unfold lnA lnB
  omega
theorem ln_mod (p : Int) : (lnB p % 8 != 0) = false := by
  have : lnB p % 8 = 0 := by unfold lnB; omega
  simp [this]
theorem ln_lt (p : Int) (n : Nat) (h : Img n) (hp : p < n) : lnA p < (n : Int) / 8 := by
  have h2 := h.2.2
  unfold lnA
  omega
theorem line_ok (a : Option Addr) (n c : Nat) (p : Int) (w : World) (h : Img n) (h1 : 0 ≤ p) (h2 : p < n) :
    Calls Try.prog 13 #[.slice a n c, .int .i64 p] w fun e w' => e = .returned (.tuple #[.int .i64 (lnA p), .int .i64 (lnB p), .int .i64 0]) ∧ w = w' := Im.line_yes a n c p w h h1 h2
set_option maxHeartbeats 4000000 in
theorem walk_main (a0 : Option Addr) (n0 c0 : Nat) (a1 a2 : Int) (w : World) (h : Img n0) (g1 : 0 ≤ a1) (g2 : a1 < n0) (g3 : 0 ≤ a2) (g4 : a2 < n0) :
    Calls Try.prog 8 #[.slice a0 n0 c0, .int .i64 a1, .int .i64 a2] w fun e w' => e = .returned (.bool true) ∧ Below w.heap.size w w' := by
  have hn : (n0 : Int) ≤ 2048 := h.2.1
  obtain ⟨f1, f2, f3, f4, f5⟩ := ln_facts a1 g1
  obtain ⟨e1, e2, e3, e4, e5⟩ := ln_facts a2 g3
  have m1 := ln_mod a1
  have l1 := ln_lt a1 n0 h g2
  have q1 := ln_eq a1
  have q2 := ln_eq a2
  have E3 : (lnB a1 == 8 * lnA a1) = true := beq_iff_eq.2 q1
  have hc : ((lnA a1 == lnA a2) = true ∧ (lnB a1 == lnB a2) = true ∧ lnB a1 ≤ a2 ∧ a2 ≤ lnB a1 + 7) ∨
      ((lnA a1 == lnA a2) = false ∧ (lnB a1 == lnB a2) = false ∧ a2 < lnB a1) ∨
      ((lnA a1 == lnA a2) = false ∧ (lnB a1 == lnB a2) = false ∧ lnB a1 ≤ a2 ∧ lnB a1 + 7 < a2) := by
    simp only [beq_iff_eq, beq_eq_false_iff_ne]
    omega
  clear q1 q2
  rcases hc with ⟨k1, k2, k3, k4⟩ | ⟨k1, k2, k3⟩ | ⟨k1, k2, k3, k4⟩
  all_goals
    go_enter Try.func8, Try.ntmps8
    go_wp2_with fail
    refine (rcheck_yes _ n0 c0 _ h).mono ?_
    rintro e w' ⟨rfl, rfl⟩
    go_wp2_with fail
    all_goals first | (exfalso; omega) | skip
    refine (line_ok _ n0 c0 a1 _ h g1 g2).mono ?_
    rintro e w' ⟨rfl, rfl⟩
    go_wp2_with fail
    refine (line_ok _ n0 c0 a2 _ h g3 g4).mono ?_
    rintro e w' ⟨rfl, rfl⟩
    go_wp2_with fail
    all_goals first | (exfalso; omega) | skip
    all_goals
      refine (Ia.alive_any _).mono ?_
      rintro e w' ⟨rfl, hb⟩
      go_wp2_with fail
      go_ret
      exact ⟨rfl, hb⟩
set_option maxHeartbeats 2000000 in
theorem walk_guard (a0 : Option Addr) (n0 c0 : Nat) (a1 a2 : Int) (w : World) (hg : ¬ Img n0 ∨ (Img n0 ∧ a1 < 0) ∨ (Img n0 ∧ 0 ≤ a1 ∧ (n0 : Int) ≤ a1) ∨ (Img n0 ∧ 0 ≤ a1 ∧ a1 < n0 ∧ a2 < 0) ∨ (Img n0 ∧ 0 ≤ a1 ∧ a1 < n0 ∧ 0 ≤ a2 ∧ (n0 : Int) ≤ a2)) :
    Calls Try.prog 8 #[.slice a0 n0 c0, .int .i64 a1, .int .i64 a2] w fun e w' => e = .returned (.bool true) ∧ Below w.heap.size w w' := by
  rcases hg with h | ⟨h, g1⟩ | ⟨h, g1, g2⟩ | ⟨h, g1, g2, g3⟩ | ⟨h, g1, g2, g3, g4⟩
  case inl =>
    go_enter Try.func8, Try.ntmps8
    go_wp2_with fail
    refine (rcheck_no _ n0 c0 _ h).mono ?_
    rintro e w' ⟨rfl, rfl⟩
    go_wp2_with fail
    all_goals first | (exfalso; omega) | skip
    all_goals
      refine (Ia.alive_any _).mono ?_
      rintro e w' ⟨rfl, hb⟩
      go_wp2_with fail
      go_ret
      exact ⟨rfl, hb⟩
  all_goals
    have hn : (n0 : Int) ≤ 2048 := h.2.1
    go_enter Try.func8, Try.ntmps8
    go_wp2_with fail
    refine (rcheck_yes _ n0 c0 _ h).mono ?_
    rintro e w' ⟨rfl, rfl⟩
    go_wp2_with fail
    all_goals first | (exfalso; omega) | skip
    all_goals
      refine (Ia.alive_any _).mono ?_
      rintro e w' ⟨rfl, hb⟩
      go_wp2_with fail
      go_ret
      exact ⟨rfl, hb⟩
theorem walk (a0 : Option Addr) (n0 c0 : Nat) (xs0 : List Int) (a1 a2 : Int) (w1 : -9223372036854775808 ≤ a1 ∧ a1 ≤ 9223372036854775807) (w2 : -9223372036854775808 ≤ a2 ∧ a2 ≤ 9223372036854775807)
    (w : World) (s0 : Sees w .u64 a0 n0 c0 xs0) (t0 : c0 ≤ 17592186044416) :
    Calls Try.prog 8 #[.slice a0 n0 c0, .int .i64 a1, .int .i64 a2] w fun e w' => e = .returned (.bool true) ∧ Below w.heap.size w w' := by
  by_cases h : Img n0
  · by_cases g : 0 ≤ a1 ∧ a1 < n0 ∧ 0 ≤ a2 ∧ a2 < n0
    · exact walk_main a0 n0 c0 a1 a2 w h g.1 g.2.1 g.2.2.1 g.2.2.2
    · refine walk_guard a0 n0 c0 a1 a2 w (.inr ?_)
      simp only [h, true_and]
      omega
  · exact walk_guard a0 n0 c0 a1 a2 w (.inl h)

/-! The row's step. -/
set_option maxRecDepth 100000 in
theorem lifted (os : Os) (started : os.Started) (H : Type) (enc : TypeId × Value → H) :
    ReturnsInHanded {} Try.checked os 8 .any (Rows.imageLinesSpec.pre6 enc Try.prog Try.f8 Rows.imageLinesRow.domain false) (Rows.imageLinesSpec.post enc Try.prog Try.f8 false true false false) := by
  refine returnsInHanded_of_change_sized (C := Try.checked) St.own started (by kernel_rfl) Try.func8
    (ChangeSpec.witness6 (enc := enc) (C := Try.checked) false ⟨#[], #[.slice .none 0 0, .int .i64 0, .int .i64 0], []⟩ 8 (by kernel_rfl) (by kernel_rfl) (by kernel_rfl) (by kernel_rfl)) ?_
  intro W base args ds gs before hval0 hW hcnd hsz0 _
  have hsz : (DataW.weightsEach Try.prog (Try.f8.params.toList ++ Rows.imageLinesSpec.plain.varTypes Try.prog) (ds ++ gs)).all (· ≤ reachBytes) = true := hsz0
  have hval : ∀ (j : Nat) t v, Try.f8.params[j]? = some t → args[j]? = some v → Value.okWide Try.prog W .any base t v := hval0
  have hW' := hW
  obtain ⟨p, q, hA0, hV, rfl, hfz, hnd⟩ := hW
  have hA : DataW.TrodAll enc Try.prog W 0 (fun _ => true) true Try.f8.params.toList args.toList ds p := hA0
  rw [Try.params8] at hA hval hsz
  obtain ⟨v0, vs0, d0, ds0, p0, q0, hargs, rfl, rfl, h0, r0⟩ := trodAll_cons hA
  obtain ⟨v1, vs1, d1, ds1, p1, q1, rfl, rfl, rfl, h1, r1⟩ := trodAll_cons r0
  obtain ⟨v2, vs2, d2, ds2, p2, q2, rfl, rfl, rfl, h2, r2⟩ := trodAll_cons r1
  obtain ⟨rfl, rfl, rfl⟩ := trodAll_nil r2
  obtain rfl : args = #[v0, v1, v2] := by cases args; simp_all
  have z0 : ∀ es sp, d0 = .slice es sp → (es.length + sp.length) * 8 ≤ 140737488351232 := fun es sp e => by
    have := sized_slice hsz (j := 0) (t := 23) (e := 34) rfl (congrArg some e) Try.underlying23
    rw [show Try.prog.bytesOf 34 = 8 from by kernel_rfl] at this
    simpa [reachBytes] using this
  obtain ⟨a0, n0, c0, xs0, rfl, s0, t0⟩ := Sl.open_slice Try.underlying23 Try.underlying34 (by kernel_rfl) (hval 0 23 v0 rfl rfl) h0 z0
  obtain ⟨a1, rfl, rfl, rfl, w1⟩ := open_int Try.underlying3 (hval 1 3 v1 rfl rfl) h1
  obtain ⟨a2, rfl, rfl, rfl, w2⟩ := open_int Try.underlying3 (hval 2 3 v2 rfl rfl) h2
  refine (walk a0 n0 c0 xs0 a1 a2 (St.i64_of_wf w1) (St.i64_of_wf w2) W s0 t0).mono fun e W' ⟨he, hb⟩ => ?_
  subst he
  exact St.law_done St.laid (by kernel_rfl) rfl rfl Try.underlying4 rfl hW' hb

theorem over : Rows.imageLinesRow.holds Try.pinned (OpenSpec.ofChange Rows.imageLinesSpec) :=
  OpenClaim.holds_of_wide 8 Try.f8 rfl rfl rfl rfl rfl rfl rfl ⟨rfl, rfl, rfl, rfl, rfl⟩ rfl rfl rfl rfl rfl (by kernel_rfl) Try.func8 (by kernel_rfl)
    (of_decide_eq_true (by kernel_rfl)) (by unfold Func.isWrapper; first | (rw [if_pos (by decide +kernel)]; kernel_rfl) | (rw [if_neg (by decide +kernel)]; exact ⟨rfl, rfl⟩))
    (fun os started H enc _ => lifted os started H enc)
theorem proved : Rows.ImageLinesSaid := over
#print axioms proved
end Go.Proofs.Ytbgeinaldkjddaa.imageLines
