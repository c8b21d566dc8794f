/-
  The law TwinFirst returns true for any two superblocks; no condition.
-/
import Derived.Test.YtepiiiekcmbpaaaDoorTwt
import Derived.Test.YtepiiiekcmbpaaaDoorGl
namespace Go.Proofs.YtepiiiekcmbpaaaDoor.twinFirst
open Go.ChangeShapes Go.WideShapes Go.ChangeAt Go.RowKit Go.Proofs.YtepiiiekcmbpaaaDoor.Gv Go.Proofs.YtepiiiekcmbpaaaDoor.Tw Go.Proofs.YtepiiiekcmbpaaaDoor.Sb Go.Proofs.YtepiiiekcmbpaaaDoor.Sl Go.Proofs.YtepiiiekcmbpaaaDoor.St Go.Proofs.YtepiiiekcmbpaaaDoor.Iu Go.Proofs.YtepiiiekcmbpaaaDoor.Ir Go.Proofs.YtepiiiekcmbpaaaDoor.Dv
set_option linter.unusedVariables false
set_option maxRecDepth 100000

set_option maxHeartbeats 4000000 in
theorem walk_main (n : Nat) (T U : Int) (w : World) (GV : NoSb w) (hg : IsSb n T) (hg' : IsSb n U) (A B X Z : List Int) (L : List En) (s : Bool)
    (HA : Hid (pairI n T n = A)) (HAl : Hid (A.length = n)) (HAf : Hid (∀ x ∈ A, (Lit.int .u64 x).wf = true)) (HB : Hid (pairI n U n = B)) (HBl : Hid (B.length = n)) (HBf : Hid (∀ x ∈ B, (Lit.int .u64 x).wf = true))
    (HX : Hid ((A.drop 0).take 8 = X)) (HZ : Hid (putL B 0 X = Z)) (HR : Hid (twE Z = 0 ∧ twW Z = n ∧ twT Z = T ∧ twA Z 0 = true ∧ twA Z 1 = true)) (HV : Hid (twE Z = 0 ∧ viewL Z = A)) (HL : Hid (twE Z = 0 ∧ healL Z = L))
    (HI : Hid (∀ x ∈ L, 8 ≤ x.p ∧ x.p ≤ 15)) (hs : (s = true ∧ L.length = 0) ∨ (s = false ∧ 0 < L.length)) (HQ : Hid ((T == U) = s)) :
    Calls Tryd.prog 8 #[.agg #[.int .i64 n, .int .i64 T], .agg #[.int .i64 n, .int .i64 U]] w fun e w' => e = .returned (.bool true) ∧ Below w.heap.size w w' := by
  have hi := hg.1
  have hb := img_bd hi
  have hgd := good_bd hg
  have hgd' := good_bd hg'
  have E := Lib.hid (bad_ok hg)
  have E' := Lib.hid (bad_ok hg')
  have C0 := below_new (o := .cells #[.int .i64 n, .int .i64 U] 26) (below_new (o := .cells #[.int .i64 n, .int .i64 T] 26) (Below.refl w.heap.size w))
  have XB := (Box.new w #[.int .i64 n, .int .i64 T] 26).alloc (.cells #[.int .i64 n, .int .i64 U] 26)
  have YB := Box.new1 w (.cells #[.int .i64 n, .int .i64 T] 26) #[.int .i64 n, .int .i64 U] 26
  go_enter Tryd.func8, Tryd.ntmps8
  go_wp2_with fail
  refine (rcheck_x n T _ ⟨by omega, by omega⟩ 0 E.out).mono ?_
  rintro e w1 ⟨rfl, b1⟩
  have C1 := below_then C0 b1
  replace XB := XB.keep b1
  replace YB := YB.keep b1
  obtain ⟨y0, y1⟩ := box_pair YB
  go_wp2_with fail
  refine (rcheck_x n U _ ⟨by omega, by omega⟩ 0 E'.out).mono ?_
  rintro e w2 ⟨rfl, b2⟩
  have C2 := below_then C1 b2
  replace XB := XB.keep b2
  replace YB := YB.keep b2
  clear y0 y1
  obtain ⟨x0, x1⟩ := box_pair XB
  obtain ⟨y0, y1⟩ := box_pair YB
  go_wp2_with fail
  refine (with7_any T n _ hg).mono ?_
  rintro e w3 ⟨g3, c3, rfl, hc3, G3⟩
  rw [HA.out] at G3
  have C3 := below_then C2 G3.below
  have SA := grows_look G3 HAf.out (by rw [HAl.out]; omega)
  replace XB := XB.keep G3.below
  replace YB := YB.keep G3.below
  clear x0 x1 y0 y1
  obtain ⟨y0, y1⟩ := box_pair YB
  go_wp2_with fail
  refine (with7_any U n _ hg').mono ?_
  rintro e w4 ⟨g4, c4, rfl, hc4, G4⟩
  rw [HB.out] at G4
  have C4 := below_then C3 G4.below
  have SB := grows_look G4 HBf.out (by rw [HBl.out]; omega)
  replace SA := SA.keep G4.below
  replace XB := XB.keep G4.below
  replace YB := YB.keep G4.below
  clear y0 y1 G3
  go_wp2_with fail
  refine (get_x _ _ _ 0 8 _ _ SA hi (by omega) X HX.out).mono ?_
  rintro e w5 ⟨a5, c5, rfl, S5, b5⟩
  have C5 := below_then C4 b5
  replace SA := SA.keep b5
  replace SB := SB.keep b5
  replace XB := XB.keep b5
  replace YB := YB.keep b5
  clear G4
  go_wp2_with fail
  refine (put_x _ _ _ 0 _ _ _ _ _ _ SB S5 hi (by decide) (by omega) Z HZ.out).mono ?_
  rintro e w6 ⟨a6, c6, rfl, S6, b6⟩
  have C6 := below_then C5 b6
  replace SA := SA.keep b6
  replace XB := XB.keep b6
  replace YB := YB.keep b6
  go_wp2_with fail
  refine (read_x _ _ _ _ _ S6 (by first | with_reducible exact GV | with_reducible exact GV.keep (by assumption)) n T 0 true true HR.out).mono ?_
  rintro e w7 ⟨rfl, b7⟩
  have X7 := (Box.new w7 #[.int .i64 n, .int .i64 T] 26).alloc (.cells #[.bool true, .bool true] 27)
  have Y7 := Box.new1 w7 (.cells #[.int .i64 n, .int .i64 T] 26) #[.bool true, .bool true] 27
  replace b7 := below_new (o := .cells #[.bool true, .bool true] 27) (below_new (o := .cells #[.int .i64 n, .int .i64 T] 26) b7)
  have C7 := below_then C6 b7
  replace SA := SA.keep b7
  replace S6 := S6.keep b7
  replace XB := XB.keep b7
  replace YB := YB.keep b7
  clear SB S5
  go_wp2_with fail
  refine (view_x _ _ _ _ _ S6 (by first | with_reducible exact GV | with_reducible exact GV.keep (by assumption)) A 0 HV.out).mono ?_
  rintro e w8 ⟨a8, n8, c8, rfl, S8, b8⟩
  have C8 := below_then C7 b8
  replace SA := SA.keep b8
  replace S6 := S6.keep b8
  replace XB := XB.keep b8
  replace YB := YB.keep b8
  replace X7 := X7.keep b8
  replace Y7 := Y7.keep b8
  go_wp2_with fail
  refine (heal_x _ _ _ _ _ S6 (by first | with_reducible exact GV | with_reducible exact GV.keep (by assumption)) L 0 HL.out).mono ?_
  rintro e w9 ⟨a9, n9, c9, rfl, S9, b9⟩
  have C9 := below_then C8 b9
  replace SA := SA.keep b9
  replace S8 := S8.keep b9
  replace XB := XB.keep b9
  replace YB := YB.keep b9
  replace X7 := X7.keep b9
  replace Y7 := Y7.keep b9
  clear b1 b2 b5 b6 b7 b8 b9 C0 C1 C2 C3 C4 C5 C6 C7 C8 S6 HA HAl HAf HB HBl HBf HX HZ HR HV HL E E'
  obtain ⟨u0, u1⟩ := box_pair X7
  obtain ⟨v0, v1⟩ := box_bools Y7
  obtain ⟨x0, x1⟩ := box_pair XB
  have qe := eq_super_self n T
  have qb := eq_bools true true true true
  go_wp2_with fail
  refine (same_x a8 _ _ _ _ _ _ _ _ S8 SA true (decide_eq_true rfl)).mono ?_
  rintro e wa ⟨rfl, ea, hea⟩
  have ka : Below w9.heap.size w9 wa := by rw [← hea]; exact below_drewN (Below.refl _ _) _
  have CA := below_then C9 ka
  clear hea u0 u1 v0 v1 x0 x1 qe qb SA S8 X7 Y7
  obtain ⟨x0, x1⟩ := box_pair (XB.keep ka)
  obtain ⟨y0, y1⟩ := box_pair (YB.keep ka)
  replace S9 := S9.keep ka
  have hl9 := S9.len
  have ht9 := S9.short
  have qe := eq_super n T n U
  have hnn : ((n : Int) == (n : Int)) = true := by simp
  rw [hnn, HQ.out, Bool.true_and] at qe
  clear hnn HQ XB YB ka C9
  rcases hs with ⟨rfl, h0⟩ | ⟨rfl, h0⟩
  · obtain rfl : n9 = 0 := by omega
    go_wp2_with fail
    go_loopw [20] (fun i wr => i = .int .i64 0 ∧ wr = wa) (fun i _ => 0)
    case atStart => exact ⟨rfl, rfl⟩
    case round =>
      obtain ⟨rfl, rfl⟩ := hrel
      go_wp2_with fail
      refine (alive7_any _ (GV.keep CA)).mono ?_
      rintro e wb ⟨rfl, bb⟩
      go_wp2
      go_ret
      exact ⟨rfl, below_then CA bb⟩
  · have hp9 : 0 < n9 := by omega
    have hne : ¬ (n9 : Int) = 0 := by omega
    go_wp2_with fail
    all_goals first | (exfalso; omega) | skip
    go_loopw [20] (fun i wr => ∃ k : Nat, k ≤ n9 ∧ i = .int .i64 k ∧ wr = wa) (fun i _ => n9 - (intOf i).toNat)
    case atStart => exact ⟨0, Nat.zero_le _, rfl, rfl⟩
    case round =>
      obtain ⟨k, hk, rfl, rfl⟩ := hrel
      by_cases hlt : k < n9
      · obtain ⟨b0, o0, rfl⟩ := S9.lies (by omega)
        have hx : k < L.length := by omega
        obtain ⟨z0, z1⟩ := en_at S9 k hx
        obtain ⟨h8, h15⟩ := HI.out L[k] (List.getElem_mem hx)
        generalize L[k] = x at z0 z1 h8 h15
        go_wp2_with fail
        all_goals first | (exfalso; omega) | skip
        go_roundw
        case rel => exact ⟨k + 1, by omega, by go_num, trivial⟩
        case measure => simp [intOf]; omega
      · obtain rfl : k = n9 := by omega
        go_wp2_with fail
        refine (alive7_any _ (GV.keep CA)).mono ?_
        rintro e wb ⟨rfl, bb⟩
        go_wp2
        go_ret
        exact ⟨rfl, below_then CA bb⟩
set_option maxHeartbeats 1000000 in
theorem walk (W T W' U : Int) (hW : -9223372036854775808 ≤ W ∧ W ≤ 9223372036854775807) (hT : -9223372036854775808 ≤ T ∧ T ≤ 9223372036854775807) (hW' : -9223372036854775808 ≤ W' ∧ W' ≤ 9223372036854775807) (hU : -9223372036854775808 ≤ U ∧ U ≤ 9223372036854775807) (w : World) (GV : NoSb w) :
    Calls Tryd.prog 8 #[.agg #[.int .i64 W, .int .i64 T], .agg #[.int .i64 W', .int .i64 U]] w fun e w' => e = .returned (.bool true) ∧ Below w.heap.size w w' := by
  have C0 := below_new (o := .cells #[.int .i64 W', .int .i64 U] 26) (below_new (o := .cells #[.int .i64 W, .int .i64 T] 26) (Below.refl w.heap.size w))
  have XB := (Box.new w #[.int .i64 W, .int .i64 T] 26).alloc (.cells #[.int .i64 W', .int .i64 U] 26)
  have YB := Box.new1 w (.cells #[.int .i64 W, .int .i64 T] 26) #[.int .i64 W', .int .i64 U] 26
  by_cases hg : IsSb W T
  · have E := Lib.hid (bad_ok hg)
    by_cases hg' : IsSb W' U
    · by_cases hww : W = W'
      · subst hww
        have hgd := good_bd hg
        obtain ⟨n, rfl⟩ := Int.eq_ofNat_of_zero_le (show 0 ≤ W from by omega)
        have hA : Two (pairI n T n) n T := two_pair (by omega)
        have hB : Two (pairI n U n) n U := two_pair (by omega)
        have hX : ((pairI n T n).drop 0).take 8 = wordsI n T := by rw [List.drop_zero]; exact (take8_two hA).1
        have hZ : (pairI n T n).drop 16 = (pairI n U n).drop 16 := (both_copy _ _ _).2.2.trans (both_copy _ _ _).2.2.symm
        obtain ⟨r1, r2, r3, r4, r5, r6, r7, r8⟩ := first_two hA hB hZ hg hg'
        refine walk_main n T U w GV hg hg' _ _ (wordsI n T) _ _ (T == U) (Lib.hid rfl) (Lib.hid hA.1) (Lib.hid (pair_wf hg)) (Lib.hid rfl) (Lib.hid hB.1) (Lib.hid (pair_wf hg')) (Lib.hid hX) (Lib.hid rfl) (Lib.hid ⟨r1, r2, r3, r4, r5⟩) (Lib.hid ⟨r1, r6⟩) (Lib.hid ⟨r1, rfl⟩) (Lib.hid r7) ?_ (Lib.hid rfl)
        by_cases hTU : T = U
        · exact .inl ⟨by simpa using hTU, r8.2 hTU⟩
        · exact .inr ⟨by simpa using hTU, by
            have := fun h => hTU (r8.1 h)
            omega⟩
      · have E' := Lib.hid (bad_ok hg')
        go_enter Tryd.func8, Tryd.ntmps8
        go_wp2_with fail
        refine (rcheck_x W T _ hT 0 E.out).mono ?_
        rintro e w1 ⟨rfl, b1⟩
        replace XB := XB.keep b1
        replace YB := YB.keep b1
        obtain ⟨y0, y1⟩ := box_pair YB
        go_wp2_with fail
        refine (rcheck_x W' U _ hU 0 E'.out).mono ?_
        rintro e w2 ⟨rfl, b2⟩
        clear y0 y1
        obtain ⟨x0, x1⟩ := box_pair (XB.keep b2)
        obtain ⟨y0, y1⟩ := box_pair (YB.keep b2)
        go_wp2_with fail
        all_goals first | (exfalso; omega) | skip
        refine (alive7_any _ (GV.keep (below_then (below_then C0 b1) b2))).mono ?_
        rintro e w3 ⟨rfl, b3⟩
        go_wp2
        go_ret
        exact ⟨rfl, below_then (below_then (below_then C0 b1) b2) b3⟩
    · have E' := Lib.hid (bad_no hg')
      go_enter Tryd.func8, Tryd.ntmps8
      go_wp2_with fail
      refine (rcheck_x W T _ hT 0 E.out).mono ?_
      rintro e w1 ⟨rfl, b1⟩
      replace YB := YB.keep b1
      obtain ⟨y0, y1⟩ := box_pair YB
      go_wp2_with fail
      refine (rcheck_x W' U _ hU 8 E'.out).mono ?_
      rintro e w2 ⟨rfl, b2⟩
      go_wp2_with fail
      refine (alive7_any _ (GV.keep (below_then (below_then C0 b1) b2))).mono ?_
      rintro e w3 ⟨rfl, b3⟩
      go_wp2
      go_ret
      exact ⟨rfl, below_then (below_then (below_then C0 b1) b2) b3⟩
  · have E := Lib.hid (bad_no hg)
    go_enter Tryd.func8, Tryd.ntmps8
    go_wp2_with fail
    refine (rcheck_x W T _ hT 8 E.out).mono ?_
    rintro e w1 ⟨rfl, b1⟩
    go_wp2_with fail
    refine (alive7_any _ (GV.keep (below_then C0 b1))).mono ?_
    rintro e w3 ⟨rfl, b3⟩
    go_wp2
    go_ret
    exact ⟨rfl, below_then (below_then C0 b1) b3⟩

/-! The row's step. -/
set_option maxRecDepth 100000 in
theorem lifted (os : Os) (started : os.Started) (H : Type) (enc : TypeId × Value → H) :
    ReturnsInHanded {} Tryd.checked os 8 .any (fun w args => (Rows.twinFirstSpec.pre enc Tryd.prog Tryd.f8 [] false w args ∧ laidMetH Tryd.prog Gv.laid1 w) ∧ sizedMet enc Tryd.prog Tryd.f8 (OpenSpec.ofChange Rows.twinFirstSpec) false w args) (Rows.twinFirstSpec.post enc Tryd.prog Tryd.f8 false true false false) := by
  refine returnsInHanded_of_change_and (C := Tryd.checked) (X := fun w _ => laidMetH Tryd.prog Gv.laid1 w) (fun _ _ _ hh h => h.of_heap hh) St.own started (by kernel_rfl) Tryd.func8
    (ChangeSpec.witness_shaped (enc := enc) (C := Tryd.checked) (os := os) (X := fun w _ => laidMetH Tryd.prog Gv.laid1 w) false (World.doorLaid Tryd.prog 400 os) #[.agg #[.int .i64 0, .int .i64 0], .agg #[.int .i64 0, .int .i64 0]] 8 rfl (World.shaped_of_RefB (by kernel_rfl) (by kernel_rfl)) (by kernel_rfl) (by kernel_rfl) (by kernel_rfl) (Gv.door_met os _)) ?_
  intro W base args ds gs before hval0 hW hcnd hsz0 hL _
  have hval : ∀ (j : Nat) t v, Tryd.f8.params[j]? = some t → args[j]? = some v → Value.okWide Tryd.prog W .any base t v := hval0
  have hW' := hW
  obtain ⟨p, q, hA0, hV, rfl, hfz, hnd⟩ := hW
  have hA : DataW.TrodAll enc Tryd.prog W 0 (fun _ => true) true Tryd.f8.params.toList args.toList ds p := hA0
  rw [Tryd.params8] at hA hval
  obtain ⟨v0, vs0, d0, ds0, p0, q0, hargs, rfl, rfl, h0, r0⟩ := trodAll_cons hA
  obtain ⟨v1, vs1, d1, ds1, p1, q1, rfl, rfl, rfl, h1, r1⟩ := trodAll_cons r0
  obtain ⟨rfl, rfl, rfl⟩ := trodAll_nil r1
  obtain rfl : args = #[v0, v1] := by cases args; simp_all
  obtain ⟨a0, b0, rfl, w0, w0'⟩ := Sb.open_super (hval 0 26 v0 rfl rfl) h0
  obtain ⟨a1, b1, rfl, w1, w1'⟩ := Sb.open_super (hval 1 26 v1 rfl rfl) h1
  refine (walk a0 b0 a1 b1 w0 w0' w1 w1' W (Gv.of_laid hL)).mono fun e W' ⟨he, hb⟩ => ?_
  subst he
  exact St.law_done St.laid (by kernel_rfl) rfl rfl Tryd.underlying4 rfl hW' hb

theorem over : Rows.twinFirstRow.holds Tryd.pinned (OpenSpec.ofChange Rows.twinFirstSpec) :=
  OpenClaim.holds_of_wide 8 Tryd.f8 rfl rfl rfl rfl rfl rfl rfl ⟨rfl, rfl, rfl, rfl, rfl⟩ rfl rfl rfl rfl rfl (by kernel_rfl) Tryd.func8 (by kernel_rfl)
    (of_decide_eq_true (by kernel_rfl)) (by unfold Func.isWrapper; first | (rw [if_pos (by decide +kernel)]; kernel_rfl) | (rw [if_neg (by decide +kernel)]; exact ⟨rfl, rfl⟩))
    (fun os started H enc _ => lifted os started H enc)
theorem proved : Rows.TwinFirstCardSaid :=
  Claim7.holds_tied_plain_at .later [] [.data] true Rows.twinFirstCard.stood.harness false over (fun _ h => by cases h) (by kernel_rfl) (fun _ h => by cases h) twinFirst_row_tie rfl ⟨rfl, rfl⟩ (by kernel_rfl) rfl
    (fun f fn hf hfn => by
      obtain rfl : f = 8 := Option.some.inj ((show Tryd.prog.funcNamed "ballast/ballastlaw07.TwinFirst" = some 8 by kernel_rfl).symm.trans hf) |>.symm
      obtain rfl : fn = Tryd.f8 := (Option.some.inj (Tryd.func8.symm.trans hfn)).symm
      exact ⟨by kernel_rfl, fun j t ht => by
        rw [Tryd.params8] at ht
        have hm : t ∈ [26, 26] := by simpa using Array.mem_of_getElem? ht
        have hall : ([26, 26].all fun u => !Tryd.prog.wantsStandIn u) = true := by kernel_rfl
        exact (show Tryd.prog.wantsStandIn t = false by simpa using List.all_eq_true.1 hall t hm)⟩)
    (by kernel_rfl)
#print axioms proved
end Go.Proofs.YtepiiiekcmbpaaaDoor.twinFirst
