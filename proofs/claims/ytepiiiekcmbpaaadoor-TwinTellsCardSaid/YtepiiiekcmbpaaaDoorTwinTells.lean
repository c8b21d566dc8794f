/-
  The law TwinTells returns true for any words; no condition.
-/
import Derived.Test.YtepiiiekcmbpaaaDoorTwt
import Derived.Test.YtepiiiekcmbpaaaDoorGl
namespace Go.Proofs.YtepiiiekcmbpaaaDoor.twinTells
open Go.ChangeShapes Go.WideShapes Go.ChangeAt Go.RowKit Go.Proofs.YtepiiiekcmbpaaaDoor.Gv Go.Proofs.YtepiiiekcmbpaaaDoor.Tw Go.Proofs.YtepiiiekcmbpaaaDoor.Sb Go.Proofs.YtepiiiekcmbpaaaDoor.Sl Go.Proofs.YtepiiiekcmbpaaaDoor.St Go.Proofs.YtepiiiekcmbpaaaDoor.Iu Go.Proofs.YtepiiiekcmbpaaaDoor.Ir Go.Proofs.YtepiiiekcmbpaaaDoor.Dv
set_option linter.unusedVariables false
set_option maxRecDepth 100000

set_option maxHeartbeats 2000000 in
theorem walk_main (a : Option Addr) (n c : Nat) (xs : List Int) (w : World) (GV : NoSb w) (va : Sees w .u64 a n c xs) (hn : n ≤ 2100) (r W T : Int) (p q : Bool) (V : List Int) (L : List En) (HR : Hid (twE xs = r ∧ twW xs = W ∧ twT xs = T ∧ twA xs 0 = p ∧ twA xs 1 = q)) (HV : Hid (twE xs = r ∧ viewL xs = V)) (HL : Hid (twE xs = r ∧ healL xs = L)) :
    Calls Tryd.prog 4 #[.slice a n c] w fun e w' => e = .returned (.bool true) ∧ Below w.heap.size w w' := by
  have htop := va.top
  go_enter Tryd.func4, Tryd.ntmps4
  go_wp2_with fail
  refine (great_no _ n c _ hn).mono ?_
  rintro e w0 ⟨rfl, rfl⟩
  go_wp2_with fail
  refine (twin_p _ _ _ _ _ va).mono ?_
  rintro e w1 ⟨a1, c1, rfl, S1, C1⟩
  go_wp2_with fail
  refine (read_x _ _ _ _ _ S1 (by first | with_reducible exact GV | with_reducible exact GV.keep (by assumption)) W T r p q HR.out).mono ?_
  rintro e w2 ⟨rfl, b2⟩
  have X := (Box.new w2 #[.int .i64 W, .int .i64 T] 26).alloc (.cells #[.bool p, .bool q] 27)
  have Y := Box.new1 w2 (.cells #[.int .i64 W, .int .i64 T] 26) #[.bool p, .bool q] 27
  replace b2 := below_new (o := .cells #[.bool p, .bool q] 27) (below_new (o := .cells #[.int .i64 W, .int .i64 T] 26) b2)
  have C2 := below_then C1 b2
  replace S1 := S1.keep b2
  go_wp2_with fail
  refine (rread_x _ _ _ _ _ (va.keep C2) W T r p q HR.out).mono ?_
  rintro e w3 ⟨rfl, b3⟩
  have X' := (Box.new w3 #[.int .i64 W, .int .i64 T] 26).alloc (.cells #[.bool p, .bool q] 27)
  have Y' := Box.new1 w3 (.cells #[.int .i64 W, .int .i64 T] 26) #[.bool p, .bool q] 27
  replace b3 := below_new (o := .cells #[.bool p, .bool q] 27) (below_new (o := .cells #[.int .i64 W, .int .i64 T] 26) b3)
  have C3 := below_then C2 b3
  replace S1 := S1.keep b3
  replace X := X.keep b3
  replace Y := Y.keep b3
  go_wp2_with fail
  refine (view_x _ _ _ _ _ S1 (by first | with_reducible exact GV | with_reducible exact GV.keep (by assumption)) V r HV.out).mono ?_
  rintro e w4 ⟨a4, n4, c4, rfl, S4, b4⟩
  have C4 := below_then C3 b4
  replace S1 := S1.keep b4
  replace X := X.keep b4
  replace Y := Y.keep b4
  replace X' := X'.keep b4
  replace Y' := Y'.keep b4
  go_wp2_with fail
  refine (rview_x _ _ _ _ _ (va.keep C4) V r HV.out).mono ?_
  rintro e w5 ⟨a5, n5, c5, rfl, S5, b5⟩
  have C5 := below_then C4 b5
  replace S1 := S1.keep b5
  replace S4 := S4.keep b5
  replace X := X.keep b5
  replace Y := Y.keep b5
  replace X' := X'.keep b5
  replace Y' := Y'.keep b5
  go_wp2_with fail
  refine (heal_x _ _ _ _ _ S1 (by first | with_reducible exact GV | with_reducible exact GV.keep (by assumption)) L r HL.out).mono ?_
  rintro e w6 ⟨a6, n6, c6, rfl, S6, b6⟩
  have C6 := below_then C5 b6
  replace S1 := S1.keep b6
  replace S4 := S4.keep b6
  replace S5 := S5.keep b6
  replace X := X.keep b6
  replace Y := Y.keep b6
  replace X' := X'.keep b6
  replace Y' := Y'.keep b6
  go_wp2_with fail
  refine (rheal_x _ _ _ _ _ (va.keep C6) (by omega) L r HL.out).mono ?_
  rintro e w7 ⟨a7, n7, c7, rfl, S7, b7⟩
  have C7 := below_then C6 b7
  replace S1 := S1.keep b7
  replace S4 := S4.keep b7
  replace S5 := S5.keep b7
  replace S6 := S6.keep b7
  replace X := X.keep b7
  replace Y := Y.keep b7
  replace X' := X'.keep b7
  replace Y' := Y'.keep b7
  have VA := va.keep C7
  have qe := eq_super_self W T
  have qb := eq_bools_self p q
  clear b2 b3 b4 b5 b6 b7 C1 C2 C3 C4 C5 C6 HR HV HL
  obtain ⟨x0, x1⟩ := box_pair X
  obtain ⟨y0, y1⟩ := box_bools Y
  obtain ⟨x2, x3⟩ := box_pair X'
  obtain ⟨y2, y3⟩ := box_bools Y'
  clear X Y X' Y'
  go_wp2_with fail
  refine (same_x a4 a5 _ _ _ _ _ _ _ S4 S5 true (decide_eq_true rfl)).mono ?_
  rintro e w8 ⟨rfl, e8, he8⟩
  have k8 : Below w7.heap.size w7 w8 := by rw [← he8]; exact below_drewN (Below.refl _ _) _
  clear he8 x0 x1 x2 x3 y0 y1 y2 y3
  go_wp2_with fail
  refine (rsame_x a6 _ _ a7 _ _ _ _ _ (S6.keep k8) (S7.keep k8) true (decide_eq_true rfl)).mono ?_
  rintro e w9 ⟨rfl, e9, he9⟩
  have k9 : Below w8.heap.size w8 w9 := by rw [← he9]; exact below_drewN (Below.refl _ _) _
  clear he9
  go_wp2_with fail
  refine (same_x a1 a _ _ _ _ _ _ _ ((S1.keep k8).keep k9) ((VA.keep k8).keep k9) true (decide_eq_true rfl)).mono ?_
  rintro e w10 ⟨rfl, e10, he10⟩
  have k10 : Below w9.heap.size w9 w10 := by rw [← he10]; exact below_drewN (Below.refl _ _) _
  clear he10
  go_wp2
  go_ret
  exact ⟨rfl, below_then (below_then (below_then C7 k8) k9) k10⟩
theorem walk (a : Option Addr) (n c : Nat) (xs : List Int) (w : World) (GV : NoSb w) (va : Sees w .u64 a n c xs) (hc : c ≤ 17592186044416) :
    Calls Tryd.prog 4 #[.slice a n c] w fun e w' => e = .returned (.bool true) ∧ Below w.heap.size w w' := by
  by_cases hn : 2100 < n
  · go_enter Tryd.func4, Tryd.ntmps4
    go_wp2_with fail
    refine (great_yes _ n c _ hn).mono ?_
    rintro e w0 ⟨rfl, rfl⟩
    go_wp2
    go_ret
    exact ⟨rfl, Below.refl _ _⟩
  · exact walk_main a n c xs w GV va (by omega) _ _ _ _ _ _ _ (Lib.hid ⟨rfl, rfl, rfl, rfl, rfl⟩) (Lib.hid ⟨rfl, rfl⟩) (Lib.hid ⟨rfl, rfl⟩)

/-! The row's step. -/
set_option maxRecDepth 100000 in
theorem lifted (os : Os) (started : os.Started) (H : Type) (enc : TypeId × Value → H) :
    ReturnsInHanded {} Tryd.checked os 4 .any (fun w args => (Rows.twinTellsSpec.pre enc Tryd.prog Tryd.f4 [] false w args ∧ laidMetH Tryd.prog Gv.laid1 w) ∧ sizedMet enc Tryd.prog Tryd.f4 (OpenSpec.ofChange Rows.twinTellsSpec) false w args) (Rows.twinTellsSpec.post enc Tryd.prog Tryd.f4 false true false false) := by
  refine returnsInHanded_of_change_and (C := Tryd.checked) (X := fun w _ => laidMetH Tryd.prog Gv.laid1 w) (fun _ _ _ hh h => h.of_heap hh) St.own started (by kernel_rfl) Tryd.func4
    (ChangeSpec.witness_shaped (enc := enc) (C := Tryd.checked) (os := os) (X := fun w _ => laidMetH Tryd.prog Gv.laid1 w) false (World.doorLaid Tryd.prog 400 os) #[.slice .none 0 0] 8 rfl (World.shaped_of_RefB (by kernel_rfl) (by kernel_rfl)) (by kernel_rfl) (by kernel_rfl) (by kernel_rfl) (Gv.door_met os _)) ?_
  intro W base args ds gs before hval0 hW hcnd hsz0 hL _
  have hsz : (DataW.weightsEach Tryd.prog (Tryd.f4.params.toList ++ Rows.twinTellsSpec.plain.varTypes Tryd.prog) (ds ++ gs)).all (· ≤ reachBytes) = true := hsz0
  have hval : ∀ (j : Nat) t v, Tryd.f4.params[j]? = some t → args[j]? = some v → Value.okWide Tryd.prog W .any base t v := hval0
  have hW' := hW
  obtain ⟨p, q, hA0, hV, rfl, hfz, hnd⟩ := hW
  have hA : DataW.TrodAll enc Tryd.prog W 0 (fun _ => true) true Tryd.f4.params.toList args.toList ds p := hA0
  rw [Tryd.params4] at hA hval hsz
  obtain ⟨v0, vs0, d0, ds0, p0, q0, hargs, rfl, rfl, h0, r0⟩ := trodAll_cons hA
  obtain ⟨rfl, rfl, rfl⟩ := trodAll_nil r0
  obtain rfl : args = #[v0] := by cases args; simp_all
  have z0 : ∀ es sp, d0 = .slice es sp → (es.length + sp.length) * 8 ≤ 140737488351232 := fun es sp e => by
    have := sized_slice hsz (j := 0) (t := 22) (e := 47) rfl (congrArg some e) Tryd.underlying22
    rw [show Tryd.prog.bytesOf 47 = 8 from by kernel_rfl] at this
    simpa [reachBytes] using this
  obtain ⟨a0, n0, c0, xs0, rfl, s0, t0⟩ := Sl.open_slice Tryd.underlying22 Tryd.underlying47 (by kernel_rfl) (hval 0 22 v0 rfl rfl) h0 z0
  refine (walk a0 n0 c0 xs0 W (Gv.of_laid hL) s0 t0).mono fun e W' ⟨he, hb⟩ => ?_
  subst he
  exact St.law_done St.laid (by kernel_rfl) rfl rfl Tryd.underlying4 rfl hW' hb

theorem over : Rows.twinTellsRow.holds Tryd.pinned (OpenSpec.ofChange Rows.twinTellsSpec) :=
  OpenClaim.holds_of_wide 4 Tryd.f4 rfl rfl rfl rfl rfl rfl rfl ⟨rfl, rfl, rfl, rfl, rfl⟩ rfl rfl rfl rfl rfl (by kernel_rfl) Tryd.func4 (by kernel_rfl)
    (of_decide_eq_true (by kernel_rfl)) (by unfold Func.isWrapper; first | (rw [if_pos (by decide +kernel)]; kernel_rfl) | (rw [if_neg (by decide +kernel)]; exact ⟨rfl, rfl⟩))
    (fun os started H enc _ => lifted os started H enc)
theorem proved : Rows.TwinTellsCardSaid :=
  Claim7.holds_tied_plain_at .later [] [.data] true Rows.twinTellsCard.stood.harness false over (fun _ h => by cases h) (by kernel_rfl) (fun _ h => by cases h) twinTells_row_tie rfl ⟨rfl, rfl⟩ (by kernel_rfl) rfl
    (fun f fn hf hfn => by
      obtain rfl : f = 4 := Option.some.inj ((show Tryd.prog.funcNamed "ballast/ballastlaw07.TwinTells" = some 4 by kernel_rfl).symm.trans hf) |>.symm
      obtain rfl : fn = Tryd.f4 := (Option.some.inj (Tryd.func4.symm.trans hfn)).symm
      exact ⟨by kernel_rfl, fun j t ht => by
        rw [Tryd.params4] at ht
        have hm : t ∈ [22] := by simpa using Array.mem_of_getElem? ht
        have hall : ([22].all fun u => !Tryd.prog.wantsStandIn u) = true := by kernel_rfl
        exact (show Tryd.prog.wantsStandIn t = false by simpa using List.all_eq_true.1 hall t hm)⟩)
    (by kernel_rfl)
#print axioms proved
end Go.Proofs.YtepiiiekcmbpaaaDoor.twinTells
