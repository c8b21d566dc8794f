/-
  The law ImageGet returns true for every words, address and two numbers; no condition.
-/
import Derived.Test.YtbgeinaldkjddaaImagea
import Derived.SizedLaws
namespace Go.Proofs.Ytbgeinaldkjddaa.imageGet
open Go.ChangeShapes Go.WideShapes Go.ChangeAt Go.RowKit Go.Proofs.Ytbgeinaldkjddaa.Sl Go.Proofs.Ytbgeinaldkjddaa.St Go.Proofs.Ytbgeinaldkjddaa.Ir Go.Proofs.Ytbgeinaldkjddaa.Iu
set_option linter.unusedVariables false
set_option maxRecDepth 100000
theorem same_selfv (v : Value) (a b : Option Addr) (n c m d : Nat) (xs : List Int) (w : World) (hv : v = .slice a n c) (va : Sees w .u64 a n c xs) (vb : Sees w .u64 b m d xs) :
    Calls Try.prog 16 #[v, .slice b m d] w fun e w' => e = .returned (.bool true) ∧ Below w.heap.size w w' := by
  subst hv
  exact same_self a b n c m d xs w va vb
theorem get_full (a : Option Addr) (n c : Nat) (p k : Int) (A K : Nat) (xs : List Int) (w : World) (va : Sees w .u64 a n c xs) (h : Img n) (hp : p = A) (hk : k = K) (ht : A + K ≤ n) :
    Calls Try.prog 11 #[.slice a n c, .int .i64 p, .int .i64 k] w
      fun e w' => ∃ a' c', e = .returned (.tuple #[.slice a' K c', .int .i64 0]) ∧ Grows .u64 34 w w' (.slice a' K c') ((xs.drop A).take K) ∧ Sees w' .u64 a' K c' ((xs.drop A).take K) := by
  subst hp hk
  have hl := va.len
  have htop := va.top
  have hL : ((xs.drop A).take K).length = K := by rw [List.length_take, List.length_drop]; omega
  refine (Im.get_yes a n c A K xs w va h ht).mono fun _ _ ⟨a', c', he, hm⟩ => ?_
  have hs := hm.sees (wf_cut va.wf A K) (by omega)
  have hg := hm.grows
  rw [hL] at he hs hg
  exact ⟨a', c', he, hg, hs⟩
set_option maxHeartbeats 4000000 in
theorem walk_main (a0 : Option Addr) (n0 c0 : Nat) (xs : List Int) (A N K : Nat) (w : World) (s0 : Sees w .u64 a0 n0 c0 xs) (h : Img n0) (g : A + N + K ≤ n0) :
    Calls Try.prog 9 #[.slice a0 n0 c0, .int .i64 A, .int .i64 N, .int .i64 K] w fun e w' => e = .returned (.bool true) ∧ Below w.heap.size w w' := by
  have hn : (n0 : Int) ≤ 2048 := h.2.1
  have hl := s0.len
  have hL := Lib.hid (show ((xs.drop A).take N).length = N from by rw [List.length_take, List.length_drop]; omega)
  have E1 := Lib.hid (show (xs.drop A).take N ++ (xs.drop (A + N)).take K = (xs.drop A).take (N + K) from by rw [List.take_add, List.drop_drop])
  have E2 := Lib.hid (show (xs.drop 0).take n0 = xs from by rw [List.drop_zero]; exact List.take_of_length_le (by omega))
  clear hl
  go_enter Try.func9, Try.ntmps9
  go_wp2_with fail
  refine (rcheck_yes _ n0 c0 _ h).mono ?_
  rintro e w' ⟨rfl, rfl⟩
  go_wp2_with fail
  all_goals first | (exfalso; omega) | skip
  refine (get_full _ _ _ _ _ A (N + K) xs _ s0 h rfl (by omega) (by omega)).mono ?_
  rintro e w' ⟨p1, q1, rfl, G1, t1⟩
  go_wp2_with fail
  refine (get_full _ _ _ _ _ A N xs _ (s0.keep G1.below) h rfl rfl (by omega)).mono ?_
  rintro e w' ⟨p2, q2, rfl, G2, t2⟩
  go_wp2_with fail
  refine (get_full _ _ _ _ _ (A + N) K xs _ ((s0.keep G1.below).keep G2.below) h (by omega) rfl (by omega)).mono ?_
  rintro e w' ⟨p3, q3, rfl, G3, t3⟩
  go_wp2_with fail
  refine (get_full _ _ _ _ _ 0 n0 xs _ (((s0.keep G1.below).keep G2.below).keep G3.below) h rfl rfl (by omega)).mono ?_
  rintro e w' ⟨p4, q4, rfl, G4, t4⟩
  have AP := Lib.hid (apart_rows G2 G3.below.size G4)
  have b1 := G1.below
  have b2 := G2.below
  have b3 := G3.below
  have b4 := G4.below
  have G := (G2.keep b3).keep b4
  have T3 := t3.keep b4
  rw [E2.out] at t4
  clear G1 G2 G3 G4
  go_wp2_with (at_builtin; refine wp_append2 rfl _ _ 23 rfl .u64 34 Try.underlying23 info_word _ _ _ rfl G _ _ _ _ rfl T3 (by rw [hL.out]; omega) ?_)
  intro v5 w5 G5 g5
  rw [E1.out] at G5
  have R := Lib.hid (G5.sees t1.wf (by rw [t1.len]; exact t1.top))
  have B5 := Lib.hid G5.below
  have B1 := Lib.hid b1
  have T1 := Lib.hid (t1.keep G5.below)
  have T4 := Lib.hid (t4.grown g5 AP.out)
  clear G5 G T3 t1 t2 t3 b1 t4 g5 AP
  go_wp2_with fail
  obtain ⟨a5, c5, e5, t5⟩ := R.out
  refine (same_selfv _ _ _ _ _ _ _ _ _ e5 t5 T1.out).mono ?_
  clear e5 t5
  rintro e w6 ⟨rfl, b6⟩
  go_wp2_with fail
  refine (same_self _ _ _ _ _ _ _ _ (T4.out.keep b6) (((s0.keep B1.out).keep B5.out).keep b6)).mono ?_
  rintro e w7 ⟨rfl, b7⟩
  go_wp2_with fail
  refine (Ia.alive_any _).mono ?_
  rintro e w8 ⟨rfl, b8⟩
  go_wp2_with fail
  go_ret
  exact ⟨rfl, below_then (below_then (below_then (below_then B1.out B5.out) b6) b7) b8⟩
set_option maxHeartbeats 4000000 in
theorem walk_guard (a0 : Option Addr) (n0 c0 : Nat) (a1 a2 a3 : Int) (w : World) (hg : ¬ Img n0 ∨ (Img n0 ∧ (a1 < 0 ∨ (0 ≤ a1 ∧ a2 < 0) ∨ (0 ≤ a1 ∧ 0 ≤ a2 ∧ a3 < 0) ∨ (0 ≤ a1 ∧ 0 ≤ a2 ∧ 0 ≤ a3 ∧ (n0 : Int) < a1) ∨
    (0 ≤ a1 ∧ 0 ≤ a2 ∧ 0 ≤ a3 ∧ a1 ≤ n0 ∧ (n0 : Int) - a1 < a2) ∨ (0 ≤ a1 ∧ 0 ≤ a2 ∧ 0 ≤ a3 ∧ a1 ≤ n0 ∧ a2 ≤ (n0 : Int) - a1 ∧ (n0 : Int) - a1 - a2 < a3)))) :
    Calls Try.prog 9 #[.slice a0 n0 c0, .int .i64 a1, .int .i64 a2, .int .i64 a3] w fun e w' => e = .returned (.bool true) ∧ Below w.heap.size w w' := by
  rcases hg with h | ⟨h, hg⟩
  case inl =>
    go_enter Try.func9, Try.ntmps9
    go_wp2_with fail
    refine (rcheck_no _ n0 c0 _ h).mono ?_
    rintro e w' ⟨rfl, rfl⟩
    go_wp2_with fail
    all_goals first | (exfalso; omega) | skip
    all_goals
      refine (Ia.alive_any _).mono ?_
      rintro e w' ⟨rfl, hb⟩
      go_wp2_with fail
      go_ret
      exact ⟨rfl, hb⟩
  case inr =>
    have hn : (n0 : Int) ≤ 2048 := h.2.1
    rcases hg with g1 | ⟨g1, g2⟩ | ⟨g1, g2, g3⟩ | ⟨g1, g2, g3, g4⟩ | ⟨g1, g2, g3, g4, g5⟩ | ⟨g1, g2, g3, g4, g5, g6⟩
    all_goals
      go_enter Try.func9, Try.ntmps9
      go_wp2_with fail
      refine (rcheck_yes _ n0 c0 _ h).mono ?_
      rintro e w' ⟨rfl, rfl⟩
      go_wp2_with fail
      all_goals first | (exfalso; omega) | skip
      all_goals
        refine (Ia.alive_any _).mono ?_
        rintro e w' ⟨rfl, hb⟩
        go_wp2_with fail
        go_ret
        exact ⟨rfl, hb⟩
theorem walk (a0 : Option Addr) (n0 c0 : Nat) (xs0 : List Int) (a1 a2 a3 : Int) (w1 : -9223372036854775808 ≤ a1 ∧ a1 ≤ 9223372036854775807) (w2 : -9223372036854775808 ≤ a2 ∧ a2 ≤ 9223372036854775807)
    (w3 : -9223372036854775808 ≤ a3 ∧ a3 ≤ 9223372036854775807) (w : World) (s0 : Sees w .u64 a0 n0 c0 xs0) (t0 : c0 ≤ 17592186044416) :
    Calls Try.prog 9 #[.slice a0 n0 c0, .int .i64 a1, .int .i64 a2, .int .i64 a3] w fun e w' => e = .returned (.bool true) ∧ Below w.heap.size w w' := by
  by_cases h : Img n0
  · by_cases g : 0 ≤ a1 ∧ 0 ≤ a2 ∧ 0 ≤ a3 ∧ a1 + a2 + a3 ≤ n0
    · obtain ⟨g1, g2, g3, g4⟩ := g
      obtain ⟨A, rfl⟩ := Int.eq_ofNat_of_zero_le g1
      obtain ⟨N, rfl⟩ := Int.eq_ofNat_of_zero_le g2
      obtain ⟨K, rfl⟩ := Int.eq_ofNat_of_zero_le g3
      exact walk_main a0 n0 c0 xs0 A N K w s0 h (by omega)
    · exact walk_guard a0 n0 c0 a1 a2 a3 w (.inr ⟨h, by omega⟩)
  · exact walk_guard a0 n0 c0 a1 a2 a3 w (.inl h)

/-! The row's step. -/
set_option maxRecDepth 100000 in
theorem lifted (os : Os) (started : os.Started) (H : Type) (enc : TypeId × Value → H) :
    ReturnsInHanded {} Try.checked os 9 .any (Rows.imageGetSpec.pre6 enc Try.prog Try.f9 Rows.imageGetRow.domain false) (Rows.imageGetSpec.post enc Try.prog Try.f9 false true false false) := by
  refine returnsInHanded_of_change_sized (C := Try.checked) St.own started (by kernel_rfl) Try.func9
    (ChangeSpec.witness6 (enc := enc) (C := Try.checked) false ⟨#[], #[.slice .none 0 0, .int .i64 0, .int .i64 0, .int .i64 0], []⟩ 8 (by kernel_rfl) (by kernel_rfl) (by kernel_rfl) (by kernel_rfl)) ?_
  intro W base args ds gs before hval0 hW hcnd hsz0 _
  have hsz : (DataW.weightsEach Try.prog (Try.f9.params.toList ++ Rows.imageGetSpec.plain.varTypes Try.prog) (ds ++ gs)).all (· ≤ reachBytes) = true := hsz0
  have hval : ∀ (j : Nat) t v, Try.f9.params[j]? = some t → args[j]? = some v → Value.okWide Try.prog W .any base t v := hval0
  have hW' := hW
  obtain ⟨p, q, hA0, hV, rfl, hfz, hnd⟩ := hW
  have hA : DataW.TrodAll enc Try.prog W 0 (fun _ => true) true Try.f9.params.toList args.toList ds p := hA0
  rw [Try.params9] at hA hval hsz
  obtain ⟨v0, vs0, d0, ds0, p0, q0, hargs, rfl, rfl, h0, r0⟩ := trodAll_cons hA
  obtain ⟨v1, vs1, d1, ds1, p1, q1, rfl, rfl, rfl, h1, r1⟩ := trodAll_cons r0
  obtain ⟨v2, vs2, d2, ds2, p2, q2, rfl, rfl, rfl, h2, r2⟩ := trodAll_cons r1
  obtain ⟨v3, vs3, d3, ds3, p3, q3, rfl, rfl, rfl, h3, r3⟩ := trodAll_cons r2
  obtain ⟨rfl, rfl, rfl⟩ := trodAll_nil r3
  obtain rfl : args = #[v0, v1, v2, v3] := by cases args; simp_all
  have z0 : ∀ es sp, d0 = .slice es sp → (es.length + sp.length) * 8 ≤ 140737488351232 := fun es sp e => by
    have := sized_slice hsz (j := 0) (t := 23) (e := 34) rfl (congrArg some e) Try.underlying23
    rw [show Try.prog.bytesOf 34 = 8 from by kernel_rfl] at this
    simpa [reachBytes] using this
  obtain ⟨a0, n0, c0, xs0, rfl, s0, t0⟩ := Sl.open_slice Try.underlying23 Try.underlying34 (by kernel_rfl) (hval 0 23 v0 rfl rfl) h0 z0
  obtain ⟨a1, rfl, rfl, rfl, w1⟩ := open_int Try.underlying3 (hval 1 3 v1 rfl rfl) h1
  obtain ⟨a2, rfl, rfl, rfl, w2⟩ := open_int Try.underlying3 (hval 2 3 v2 rfl rfl) h2
  obtain ⟨a3, rfl, rfl, rfl, w3⟩ := open_int Try.underlying3 (hval 3 3 v3 rfl rfl) h3
  refine (walk a0 n0 c0 xs0 a1 a2 a3 (St.i64_of_wf w1) (St.i64_of_wf w2) (St.i64_of_wf w3) W s0 t0).mono fun e W' ⟨he, hb⟩ => ?_
  subst he
  exact St.law_done St.laid (by kernel_rfl) rfl rfl Try.underlying4 rfl hW' hb

theorem over : Rows.imageGetRow.holds Try.pinned (OpenSpec.ofChange Rows.imageGetSpec) :=
  OpenClaim.holds_of_wide 9 Try.f9 rfl rfl rfl rfl rfl rfl rfl ⟨rfl, rfl, rfl, rfl, rfl⟩ rfl rfl rfl rfl rfl (by kernel_rfl) Try.func9 (by kernel_rfl)
    (of_decide_eq_true (by kernel_rfl)) (by unfold Func.isWrapper; first | (rw [if_pos (by decide +kernel)]; kernel_rfl) | (rw [if_neg (by decide +kernel)]; exact ⟨rfl, rfl⟩))
    (fun os started H enc _ => lifted os started H enc)
theorem proved : Rows.ImageGetSaid := over
#print axioms proved
end Go.Proofs.Ytbgeinaldkjddaa.imageGet
