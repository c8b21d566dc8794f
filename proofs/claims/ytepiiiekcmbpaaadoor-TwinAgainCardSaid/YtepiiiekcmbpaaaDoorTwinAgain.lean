/-
  The law TwinAgain returns true for any words; no condition.
-/
import Derived.Test.YtepiiiekcmbpaaaDoorTwt
import Derived.IntWalk
import Derived.Test.YtepiiiekcmbpaaaDoorGl
namespace Go.Proofs.YtepiiiekcmbpaaaDoor.twinAgain
open Go.ChangeShapes Go.WideShapes Go.ChangeAt Go.RowKit Go.Proofs.YtepiiiekcmbpaaaDoor.Gv Go.Proofs.YtepiiiekcmbpaaaDoor.Tw Go.Proofs.YtepiiiekcmbpaaaDoor.Sb Go.Proofs.YtepiiiekcmbpaaaDoor.Sl Go.Proofs.YtepiiiekcmbpaaaDoor.St Go.Proofs.YtepiiiekcmbpaaaDoor.Iu Go.Proofs.YtepiiiekcmbpaaaDoor.Ir Go.Proofs.YtepiiiekcmbpaaaDoor.Dv
set_option linter.unusedVariables false
set_option maxRecDepth 100000

set_option maxHeartbeats 4000000 in
theorem walk_main (a : Option Addr) (n c : Nat) (xs : List Int) (w : World) (GV : NoSb w) (va : Sees w .u64 a n c xs) (hn : n ≤ 2100) (hi : Img n) (W T : Int) (p q : Bool) (V : List Int) (L : List En) (HR : Hid (twE xs = 0 ∧ twW xs = W ∧ twT xs = T ∧ twA xs 0 = p ∧ twA xs 1 = q)) (HV : Hid (twE xs = 0 ∧ viewL xs = V)) (HL : Hid (twE xs = 0 ∧ healL xs = L))
    (HS : Hid (twE V = 0 ∧ twW V = W ∧ twT V = T ∧ twA V 0 = true ∧ twA V 1 = true)) (HN : Hid (twE V = 0 ∧ healL V = [])) (HVl : Hid (V.length = n)) (hpq : p = true ∨ q = true) (D : List Int) (HD : Hid (diffs xs V n = D)) (HLl : Hid (L.length = D.length))
    (B : Int) (hB : B = 0 ∨ B = 8) (HI : Hid (∀ x ∈ D, B ≤ x ∧ x ≤ B + 7)) (HLa : Hid (∀ k (hk : k < L.length), L[k].p = D.getD k 0 ∧ L[k].v = V.getD (D.getD k 0).toNat 0)) :
    Calls Tryd.prog 6 #[.slice a n c] w fun e w' => e = .returned (.bool true) ∧ Below w.heap.size w w' := by
  have htop := va.top
  have hbd := img_bd hi
  go_enter Tryd.func6, Tryd.ntmps6
  go_wp2_with fail
  refine (great_no _ n c _ hn).mono ?_
  rintro e w0 ⟨rfl, rfl⟩
  go_wp2_with fail
  refine (read_x _ _ _ _ _ va (by first | with_reducible exact GV | with_reducible exact GV.keep (by assumption)) W T 0 p q HR.out).mono ?_
  rintro e w2 ⟨rfl, C2⟩
  have X := (Box.new w2 #[.int .i64 W, .int .i64 T] 26).alloc (.cells #[.bool p, .bool q] 27)
  have Y := Box.new1 w2 (.cells #[.int .i64 W, .int .i64 T] 26) #[.bool p, .bool q] 27
  replace C2 := below_new (o := .cells #[.bool p, .bool q] 27) (below_new (o := .cells #[.int .i64 W, .int .i64 T] 26) C2)
  go_wp2_with fail
  refine (view_x _ _ _ _ _ (va.keep C2) (by first | with_reducible exact GV | with_reducible exact GV.keep (by assumption)) V 0 HV.out).mono ?_
  rintro e w4 ⟨a4, n4, c4, rfl, S4, b4⟩
  obtain rfl : n4 = n := by rw [← S4.len, HVl.out]
  have C4 := below_then C2 b4
  replace X := X.keep b4
  replace Y := Y.keep b4
  go_wp2_with fail
  refine (heal_x _ _ _ _ _ (va.keep C4) (by first | with_reducible exact GV | with_reducible exact GV.keep (by assumption)) L 0 HL.out).mono ?_
  rintro e w5 ⟨a5, n5, c5, rfl, S5, b5⟩
  have C5 := below_then C4 b5
  replace S4 := S4.keep b5
  replace X := X.keep b5
  replace Y := Y.keep b5
  go_wp2_with fail
  refine (read_x _ _ _ _ _ S4 (by first | with_reducible exact GV | with_reducible exact GV.keep (by assumption)) W T 0 true true HS.out).mono ?_
  rintro e w6 ⟨rfl, b6⟩
  have X' := (Box.new w6 #[.int .i64 W, .int .i64 T] 26).alloc (.cells #[.bool true, .bool true] 27)
  have Y' := Box.new1 w6 (.cells #[.int .i64 W, .int .i64 T] 26) #[.bool true, .bool true] 27
  replace b6 := below_new (o := .cells #[.bool true, .bool true] 27) (below_new (o := .cells #[.int .i64 W, .int .i64 T] 26) b6)
  have C6 := below_then C5 b6
  replace S4 := S4.keep b6
  replace S5 := S5.keep b6
  replace X := X.keep b6
  replace Y := Y.keep b6
  go_wp2_with fail
  refine (heal_x _ _ _ _ _ S4 (by first | with_reducible exact GV | with_reducible exact GV.keep (by assumption)) [] 0 HN.out).mono ?_
  rintro e w7 ⟨a7, n7, c7, rfl, S7, b7⟩
  obtain rfl : n7 = 0 := by rw [← S7.len]; rfl
  have C7 := below_then C6 b7
  replace S4 := S4.keep b7
  replace S5 := S5.keep b7
  replace X := X.keep b7
  replace Y := Y.keep b7
  replace X' := X'.keep b7
  replace Y' := Y'.keep b7
  go_wp2_with fail
  refine (diff_x _ _ _ _ _ _ _ _ (va.keep C7) S4 hi).mono ?_
  rintro e w8 ⟨a8, n8, c8, rfl, S8, b8⟩
  rw [HD.out] at S8
  have C8 := below_then C7 b8
  replace S4 := S4.keep b8
  replace S5 := S5.keep b8
  replace X := X.keep b8
  replace Y := Y.keep b8
  replace X' := X'.keep b8
  replace Y' := Y'.keep b8
  have hl5 := S5.len
  have hl8 := S8.len
  obtain rfl : n5 = n8 := by rw [← hl5, ← hl8, HLl.out]
  have ht8 := S8.top
  obtain ⟨x0, x1⟩ := box_pair X
  obtain ⟨y0, y1⟩ := box_bools Y
  obtain ⟨x2, x3⟩ := box_pair X'
  obtain ⟨y2, y3⟩ := box_bools Y'
  have qe := eq_super_self W T
  have qb := eq_bools true true true true
  clear b4 b5 b6 b7 b8 C2 C4 C5 C6 C7 HR HV HL HS HN HD HLl S7
  rcases (by cases p <;> cases q <;> simp at hpq ⊢ : p = true ∨ (p = false ∧ q = true)) with rfl | ⟨rfl, rfl⟩
  all_goals
    clear hpq
    go_wp2_with fail
    all_goals first | (exfalso; omega) | skip
    go_loopw [17] (fun i wr => ∃ k j : Nat, k ≤ n5 ∧ i = .int .i64 k ∧ wr = w8.drewN j) (fun i _ => n5 - (intOf i).toNat)
    case atStart => exact ⟨0, 0, Nat.zero_le _, rfl, rfl⟩
    case round =>
      obtain ⟨k, j, hk, rfl, rfl⟩ := hrel
      by_cases hlt : k < n5
      · obtain ⟨b0, o0, rfl⟩ := S5.lies (by omega)
        obtain ⟨b1, o1, rfl⟩ := S8.lies (by omega)
        obtain ⟨b2, o2, rfl⟩ := S4.lies (by omega)
        have hx : k < L.length := by omega
        obtain ⟨z0, z1⟩ := en_at S5 k hx
        obtain ⟨e1, e2⟩ := HLa.out k hx
        rw [e1] at z0
        rw [e2] at z1
        have d0 := S8.at k hlt
        have d1 := S8.at 0 (by omega)
        rw [Nat.add_zero] at d1
        have hp5 : 0 < n5 := by omega
        have hp5' : (0 : Int) < (n5 : Int) := by omega
        have m0 : D.getD k 0 ∈ D := by
          rw [List.getD_eq_getElem?_getD, List.getElem?_eq_getElem (by omega), Option.getD_some]
          exact List.getElem_mem _
        have m1 : D.getD 0 0 ∈ D := by
          rw [List.getD_eq_getElem?_getD, List.getElem?_eq_getElem (by omega), Option.getD_some]
          exact List.getElem_mem _
        obtain ⟨h1, h2⟩ := HI.out _ m0
        obtain ⟨h3, h4⟩ := HI.out _ m1
        have v0 := S4.at (D.getD k 0).toNat (by omega)
        clear m0 m1 e1 e2
        generalize D.getD k 0 = x at z0 z1 d0 h1 h2 v0
        generalize D.getD 0 0 = y at d1 h3 h4
        generalize V.getD x.toNat 0 = v at z1 v0
        have g0 : 0 ≤ x := by omega
        have g1 : x ≤ 15 := by omega
        have g2 : x < n4 := by omega
        obtain ⟨z, q3⟩ : ∃ z, x / 8 = z := ⟨_, rfl⟩
        have q4 : y / 8 = z := by rcases hB with rfl | rfl <;> omega
        have q1 : x.tdiv 8 = z := by rw [Int.tdiv_eq_ediv_of_nonneg g0]; exact q3
        have q2 : y.tdiv 8 = z := by rw [Int.tdiv_eq_ediv_of_nonneg (by omega)]; exact q4
        have wz : IntKind.i64.wrap z = z := IntWalk.i64_in _ (by omega)
        go_wp2_with fail
        go_quiet (fail)
        go_wp2_with fail
        go_roundw
        case rel => exact ⟨k + 1, _, by omega, by go_num, rfl⟩
        case measure => simp [intOf]; omega
      · obtain rfl : k = n5 := by omega
        go_wp2_with fail
        refine (alive7_any _ (GV.keep (below_drewN C8 j))).mono ?_
        rintro e wb ⟨rfl, bb⟩
        go_wp2
        go_ret
        exact ⟨rfl, below_then (below_drewN C8 j) bb⟩
set_option maxHeartbeats 1000000 in
theorem walk_no (a : Option Addr) (n c : Nat) (xs : List Int) (w : World) (GV : NoSb w) (va : Sees w .u64 a n c xs) (hn : n ≤ 2100) (r : Int) (hr : r = 8 ∨ r = 50) (HR : Hid (twE xs = r ∧ twW xs = 0 ∧ twT xs = 0 ∧ twA xs 0 = false ∧ twA xs 1 = false)) (HV : Hid (twE xs = r ∧ viewL xs = [])) (HL : Hid (twE xs = r ∧ healL xs = [])) :
    Calls Tryd.prog 6 #[.slice a n c] w fun e w' => e = .returned (.bool true) ∧ Below w.heap.size w w' := by
  have htop := va.top
  rcases hr with rfl | rfl
  all_goals
    go_enter Tryd.func6, Tryd.ntmps6
    go_wp2_with fail
    refine (great_no _ n c _ hn).mono ?_
    rintro e w0 ⟨rfl, rfl⟩
    go_wp2_with fail
    refine (read_x _ _ _ _ _ va (by first | with_reducible exact GV | with_reducible exact GV.keep (by assumption)) 0 0 _ false false HR.out).mono ?_
    rintro e w2 ⟨rfl, C2⟩
    have X := (Box.new w2 #[.int .i64 0, .int .i64 0] 26).alloc (.cells #[.bool false, .bool false] 27)
    replace C2 := below_new (o := .cells #[.bool false, .bool false] 27) (below_new (o := .cells #[.int .i64 0, .int .i64 0] 26) C2)
    go_wp2_with fail
    refine (view_x _ _ _ _ _ (va.keep C2) (by first | with_reducible exact GV | with_reducible exact GV.keep (by assumption)) [] _ HV.out).mono ?_
    rintro e w4 ⟨a4, n4, c4, rfl, S4, b4⟩
    obtain rfl : n4 = 0 := by rw [← S4.len]; rfl
    have C4 := below_then C2 b4
    replace X := X.keep b4
    go_wp2_with fail
    refine (heal_x _ _ _ _ _ (va.keep C4) (by first | with_reducible exact GV | with_reducible exact GV.keep (by assumption)) [] _ HL.out).mono ?_
    rintro e w5 ⟨a5, n5, c5, rfl, S5, b5⟩
    obtain rfl : n5 = 0 := by rw [← S5.len]; rfl
    have C5 := below_then C4 b5
    obtain ⟨x0, x1⟩ := box_pair (X.keep b5)
    have qe := eq_super_self 0 0
    go_wp2_with fail
    refine (alive7_any _ (GV.keep C5)).mono ?_
    rintro e wb ⟨rfl, bb⟩
    go_wp2
    go_ret
    exact ⟨rfl, below_then C5 bb⟩
theorem walk (a : Option Addr) (n c : Nat) (xs : List Int) (w : World) (GV : NoSb w) (va : Sees w .u64 a n c xs) (hc : c ≤ 17592186044416) :
    Calls Tryd.prog 6 #[.slice a n c] w fun e w' => e = .returned (.bool true) ∧ Below w.heap.size w w' := by
  by_cases hn : 2100 < n
  · go_enter Tryd.func6, Tryd.ntmps6
    go_wp2_with fail
    refine (great_yes _ n c _ hn).mono ?_
    rintro e w0 ⟨rfl, rfl⟩
    go_wp2_with fail
    refine (alive7_any _ (by first | with_reducible exact GV | with_reducible exact GV.keep (by assumption))).mono ?_
    rintro e wb ⟨rfl, bb⟩
    go_wp2
    go_ret
    exact ⟨rfl, bb⟩
  · have hl := va.len
    by_cases h : twE xs = 0
    · have hi : Img n := by
        have := (tw_inv h).1
        rwa [hl] at this
      obtain ⟨v1, v2, v3, v4, v5, v6, v7⟩ := view_tw h
      obtain ⟨ho, B, hB, hI⟩ := tw_one h
      rw [hl] at hI v7
      have hH : healL xs = entsL xs (viewL xs) n := heal_of h rfl hl
      refine walk_main a n c xs w GV va (by omega) hi _ _ _ _ _ _ (Lib.hid ⟨h, rfl, rfl, rfl, rfl⟩) (Lib.hid ⟨h, rfl⟩) (Lib.hid ⟨h, rfl⟩) (Lib.hid ⟨v1, v2, v3, by unfold twA; rw [v1, v4]; rfl, by unfold twA; rw [v1, v5]; rfl⟩) (Lib.hid ⟨v1, heal_none v6⟩) (Lib.hid v7) ho _ (Lib.hid rfl) (Lib.hid (by rw [hH, ents_len])) B hB (Lib.hid hI) (Lib.hid ?_)
      rw [hH]
      exact fun k hk => ents_at hk
    · obtain ⟨z1, z2, z3, z4, z5⟩ := tw_zero h
      have h3 := tw_three xs
      exact walk_no a n c xs w GV va (by omega) _ (by rcases h3 with g | g | g <;> omega) (Lib.hid ⟨rfl, z1, z2, z3 0, z3 1⟩) (Lib.hid ⟨rfl, z4⟩) (Lib.hid ⟨rfl, z5⟩)

/-! The row's step. -/
set_option maxRecDepth 100000 in
theorem lifted (os : Os) (started : os.Started) (H : Type) (enc : TypeId × Value → H) :
    ReturnsInHanded {} Tryd.checked os 6 .any (fun w args => (Rows.twinAgainSpec.pre enc Tryd.prog Tryd.f6 [] false w args ∧ laidMetH Tryd.prog Gv.laid1 w) ∧ sizedMet enc Tryd.prog Tryd.f6 (OpenSpec.ofChange Rows.twinAgainSpec) false w args) (Rows.twinAgainSpec.post enc Tryd.prog Tryd.f6 false true false false) := by
  refine returnsInHanded_of_change_and (C := Tryd.checked) (X := fun w _ => laidMetH Tryd.prog Gv.laid1 w) (fun _ _ _ hh h => h.of_heap hh) St.own started (by kernel_rfl) Tryd.func6
    (ChangeSpec.witness_shaped (enc := enc) (C := Tryd.checked) (os := os) (X := fun w _ => laidMetH Tryd.prog Gv.laid1 w) false (World.doorLaid Tryd.prog 400 os) #[.slice .none 0 0] 8 rfl (World.shaped_of_RefB (by kernel_rfl) (by kernel_rfl)) (by kernel_rfl) (by kernel_rfl) (by kernel_rfl) (Gv.door_met os _)) ?_
  intro W base args ds gs before hval0 hW hcnd hsz0 hL _
  have hsz : (DataW.weightsEach Tryd.prog (Tryd.f6.params.toList ++ Rows.twinAgainSpec.plain.varTypes Tryd.prog) (ds ++ gs)).all (· ≤ reachBytes) = true := hsz0
  have hval : ∀ (j : Nat) t v, Tryd.f6.params[j]? = some t → args[j]? = some v → Value.okWide Tryd.prog W .any base t v := hval0
  have hW' := hW
  obtain ⟨p, q, hA0, hV, rfl, hfz, hnd⟩ := hW
  have hA : DataW.TrodAll enc Tryd.prog W 0 (fun _ => true) true Tryd.f6.params.toList args.toList ds p := hA0
  rw [Tryd.params6] at hA hval hsz
  obtain ⟨v0, vs0, d0, ds0, p0, q0, hargs, rfl, rfl, h0, r0⟩ := trodAll_cons hA
  obtain ⟨rfl, rfl, rfl⟩ := trodAll_nil r0
  obtain rfl : args = #[v0] := by cases args; simp_all
  have z0 : ∀ es sp, d0 = .slice es sp → (es.length + sp.length) * 8 ≤ 140737488351232 := fun es sp e => by
    have := sized_slice hsz (j := 0) (t := 22) (e := 47) rfl (congrArg some e) Tryd.underlying22
    rw [show Tryd.prog.bytesOf 47 = 8 from by kernel_rfl] at this
    simpa [reachBytes] using this
  obtain ⟨a0, n0, c0, xs0, rfl, s0, t0⟩ := Sl.open_slice Tryd.underlying22 Tryd.underlying47 (by kernel_rfl) (hval 0 22 v0 rfl rfl) h0 z0
  refine (walk a0 n0 c0 xs0 W (Gv.of_laid hL) s0 t0).mono fun e W' ⟨he, hb⟩ => ?_
  subst he
  exact St.law_done St.laid (by kernel_rfl) rfl rfl Tryd.underlying4 rfl hW' hb

theorem over : Rows.twinAgainRow.holds Tryd.pinned (OpenSpec.ofChange Rows.twinAgainSpec) :=
  OpenClaim.holds_of_wide 6 Tryd.f6 rfl rfl rfl rfl rfl rfl rfl ⟨rfl, rfl, rfl, rfl, rfl⟩ rfl rfl rfl rfl rfl (by kernel_rfl) Tryd.func6 (by kernel_rfl)
    (of_decide_eq_true (by kernel_rfl)) (by unfold Func.isWrapper; first | (rw [if_pos (by decide +kernel)]; kernel_rfl) | (rw [if_neg (by decide +kernel)]; exact ⟨rfl, rfl⟩))
    (fun os started H enc _ => lifted os started H enc)
theorem proved : Rows.TwinAgainCardSaid :=
  Claim7.holds_tied_plain_at .later [] [.data] true Rows.twinAgainCard.stood.harness false over (fun _ h => by cases h) (by kernel_rfl) (fun _ h => by cases h) twinAgain_row_tie rfl ⟨rfl, rfl⟩ (by kernel_rfl) rfl
    (fun f fn hf hfn => by
      obtain rfl : f = 6 := Option.some.inj ((show Tryd.prog.funcNamed "ballast/ballastlaw07.TwinAgain" = some 6 by kernel_rfl).symm.trans hf) |>.symm
      obtain rfl : fn = Tryd.f6 := (Option.some.inj (Tryd.func6.symm.trans hfn)).symm
      exact ⟨by kernel_rfl, fun j t ht => by
        rw [Tryd.params6] at ht
        have hm : t ∈ [22] := by simpa using Array.mem_of_getElem? ht
        have hall : ([22].all fun u => !Tryd.prog.wantsStandIn u) = true := by kernel_rfl
        exact (show Tryd.prog.wantsStandIn t = false by simpa using List.all_eq_true.1 hall t hm)⟩)
    (by kernel_rfl)
#print axioms proved
end Go.Proofs.YtepiiiekcmbpaaaDoor.twinAgain
