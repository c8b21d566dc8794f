/-
  The law TwinApart returns true for any words, an address and a word; no condition.
-/
import Derived.Test.YtepiiiekcmbpaaaDoorTwt
import Derived.Test.YtepiiiekcmbpaaaDoorGl
namespace Go.Proofs.YtepiiiekcmbpaaaDoor.twinApart
open Go.ChangeShapes Go.WideShapes Go.ChangeAt Go.RowKit Go.Proofs.YtepiiiekcmbpaaaDoor.Gv Go.Proofs.YtepiiiekcmbpaaaDoor.Tw Go.Proofs.YtepiiiekcmbpaaaDoor.Sb Go.Proofs.YtepiiiekcmbpaaaDoor.Sl Go.Proofs.YtepiiiekcmbpaaaDoor.St Go.Proofs.YtepiiiekcmbpaaaDoor.Iu Go.Proofs.YtepiiiekcmbpaaaDoor.Ir Go.Proofs.YtepiiiekcmbpaaaDoor.Dv
set_option linter.unusedVariables false
set_option maxRecDepth 100000

set_option maxHeartbeats 2000000 in
theorem walk_main (a : Option Addr) (n c : Nat) (xs : List Int) (t u : Int) (w : World) (GV : NoSb w) (va : Sees w .u64 a n c xs) (hi : Img n) (ht : 16 ≤ t ∧ t < n) (hu : (Lit.int .u64 u).wf = true) (r W T : Int) (p q : Bool) (Z : List Int) (L : List En) (HZ : Hid (putL xs t.toNat [u] = Z))
    (HR : Hid (twE xs = r ∧ twW xs = W ∧ twT xs = T ∧ twA xs 0 = p ∧ twA xs 1 = q)) (HS : Hid (twE Z = r ∧ twW Z = W ∧ twT Z = T ∧ twA Z 0 = p ∧ twA Z 1 = q)) (HL : Hid (twE xs = r ∧ healL xs = L)) (HM : Hid (twE Z = r ∧ healL Z = L)) :
    Calls Tryd.prog 7 #[.slice a n c, .int .i64 t, .int .u64 u] w fun e w' => e = .returned (.bool true) ∧ Below w.heap.size w w' := by
  have htop := va.top
  have hb := img_bd hi
  go_enter Tryd.func7, Tryd.ntmps7
  go_wp2_with fail
  refine (rcheck_yes _ n c _ hi).mono ?_
  rintro e w0 ⟨rfl, rfl⟩
  go_wp2_with fail
  all_goals first | (exfalso; omega) | skip
  have C0 := below_new (o := .cells #[.int .u64 u] 47) (Below.refl w.heap.size w)
  refine (put_x _ _ _ _ _ _ _ _ _ _ (va.keep C0) (sees_one w .u64 47 u hu) hi (by omega) (by omega) Z HZ.out).mono ?_
  rintro e w1 ⟨a1, c1, rfl, S1, b1⟩
  have C1 := below_then C0 b1
  go_wp2_with fail
  refine (read_x _ _ _ _ _ (va.keep C1) (by first | with_reducible exact GV | with_reducible exact GV.keep (by assumption)) W T r p q HR.out).mono ?_
  rintro e w2 ⟨rfl, b2⟩
  have X := (Box.new w2 #[.int .i64 W, .int .i64 T] 26).alloc (.cells #[.bool p, .bool q] 27)
  have Y := Box.new1 w2 (.cells #[.int .i64 W, .int .i64 T] 26) #[.bool p, .bool q] 27
  replace b2 := below_new (o := .cells #[.bool p, .bool q] 27) (below_new (o := .cells #[.int .i64 W, .int .i64 T] 26) b2)
  have C2 := below_then C1 b2
  replace S1 := S1.keep b2
  go_wp2_with fail
  refine (read_x _ _ _ _ _ S1 (by first | with_reducible exact GV | with_reducible exact GV.keep (by assumption)) W T r p q HS.out).mono ?_
  rintro e w3 ⟨rfl, b3⟩
  have X' := (Box.new w3 #[.int .i64 W, .int .i64 T] 26).alloc (.cells #[.bool p, .bool q] 27)
  have Y' := Box.new1 w3 (.cells #[.int .i64 W, .int .i64 T] 26) #[.bool p, .bool q] 27
  replace b3 := below_new (o := .cells #[.bool p, .bool q] 27) (below_new (o := .cells #[.int .i64 W, .int .i64 T] 26) b3)
  have C3 := below_then C2 b3
  replace S1 := S1.keep b3
  replace X := X.keep b3
  replace Y := Y.keep b3
  go_wp2_with fail
  refine (heal_x _ _ _ _ _ (va.keep C3) (by first | with_reducible exact GV | with_reducible exact GV.keep (by assumption)) L r HL.out).mono ?_
  rintro e w4 ⟨a4, n4, c4, rfl, S4, b4⟩
  have C4 := below_then C3 b4
  replace S1 := S1.keep b4
  replace X := X.keep b4
  replace Y := Y.keep b4
  replace X' := X'.keep b4
  replace Y' := Y'.keep b4
  go_wp2_with fail
  refine (heal_x _ _ _ _ _ S1 (by first | with_reducible exact GV | with_reducible exact GV.keep (by assumption)) L r HM.out).mono ?_
  rintro e w5 ⟨a5, n5, c5, rfl, S5, b5⟩
  have C5 := below_then C4 b5
  replace S4 := S4.keep b5
  replace X := X.keep b5
  replace Y := Y.keep b5
  replace X' := X'.keep b5
  replace Y' := Y'.keep b5
  have qe := eq_super_self W T
  have qb := eq_bools_self p q
  obtain ⟨x0, x1⟩ := box_pair X
  obtain ⟨y0, y1⟩ := box_bools Y
  obtain ⟨x2, x3⟩ := box_pair X'
  obtain ⟨y2, y3⟩ := box_bools Y'
  clear b1 b2 b3 b4 b5 C0 C1 C2 C3 C4 HR HS HL HM HZ X Y X' Y' S1
  go_wp2_with fail
  refine (rsame_x a4 _ _ a5 _ _ _ _ _ S4 S5 true (decide_eq_true rfl)).mono ?_
  rintro e w9 ⟨rfl, e9, he9⟩
  have k9 : Below w5.heap.size w5 w9 := by rw [← he9]; exact below_drewN (Below.refl _ _) _
  clear he9
  go_wp2_with fail
  refine (alive7_any _ (GV.keep (below_then C5 k9))).mono ?_
  rintro e wb ⟨rfl, bb⟩
  go_wp2
  go_ret
  exact ⟨rfl, below_then (below_then C5 k9) bb⟩
set_option maxHeartbeats 1000000 in
theorem walk (a : Option Addr) (n c : Nat) (xs : List Int) (t u : Int) (ht : -9223372036854775808 ≤ t ∧ t ≤ 9223372036854775807) (hu : 0 ≤ u ∧ u < 18446744073709551616) (w : World) (GV : NoSb w) (va : Sees w .u64 a n c xs) (hc : c ≤ 17592186044416) :
    Calls Tryd.prog 7 #[.slice a n c, .int .i64 t, .int .u64 u] w fun e w' => e = .returned (.bool true) ∧ Below w.heap.size w w' := by
  have htop := va.top
  by_cases hi : Img n
  · by_cases hm : 16 ≤ t ∧ t < n
    · have hl := va.len
      have hpt : (putL xs t.toNat [u]).take 16 = xs.take 16 := put_take (by omega) (by omega)
      have hpl : (putL xs t.toNat [u]).length = xs.length := by
        rw [len_put hl (by show t.toNat + 1 ≤ n; omega), hl]
      obtain ⟨e1, e2, e3, e4, e5⟩ := tw_same hpl hpt
      exact walk_main a n c xs t u w GV va hi hm (wf_word hu) _ _ _ _ _ _ _ (Lib.hid rfl) (Lib.hid ⟨rfl, rfl, rfl, rfl, rfl⟩) (Lib.hid ⟨e1, e2, e3, e4, e5⟩) (Lib.hid ⟨rfl, rfl⟩) (Lib.hid ⟨e1, heal_same hpl hpt⟩)
    · have hb := img_bd hi
      rcases (by omega : t < 16 ∨ (16 ≤ t ∧ (n : Int) ≤ t)) with h1 | ⟨h1, h2⟩
      all_goals
        go_enter Tryd.func7, Tryd.ntmps7
        go_wp2_with fail
        refine (rcheck_yes _ n c _ hi).mono ?_
        rintro e w0 ⟨rfl, rfl⟩
        go_wp2_with fail
        all_goals first | (exfalso; omega) | skip
        refine (alive7_any _ (by first | with_reducible exact GV | with_reducible exact GV.keep (by assumption))).mono ?_
        rintro e wb ⟨rfl, bb⟩
        go_wp2
        go_ret
        exact ⟨rfl, bb⟩
  · go_enter Tryd.func7, Tryd.ntmps7
    go_wp2_with fail
    refine (rcheck_no _ n c _ hi).mono ?_
    rintro e w0 ⟨rfl, rfl⟩
    go_wp2_with fail
    all_goals first | (exfalso; omega) | skip
    refine (alive7_any _ (by first | with_reducible exact GV | with_reducible exact GV.keep (by assumption))).mono ?_
    rintro e wb ⟨rfl, bb⟩
    go_wp2
    go_ret
    exact ⟨rfl, bb⟩

/-! The row's step. -/
set_option maxRecDepth 100000 in
theorem lifted (os : Os) (started : os.Started) (H : Type) (enc : TypeId × Value → H) :
    ReturnsInHanded {} Tryd.checked os 7 .any (fun w args => (Rows.twinApartSpec.pre enc Tryd.prog Tryd.f7 [] false w args ∧ laidMetH Tryd.prog Gv.laid1 w) ∧ sizedMet enc Tryd.prog Tryd.f7 (OpenSpec.ofChange Rows.twinApartSpec) false w args) (Rows.twinApartSpec.post enc Tryd.prog Tryd.f7 false true false false) := by
  refine returnsInHanded_of_change_and (C := Tryd.checked) (X := fun w _ => laidMetH Tryd.prog Gv.laid1 w) (fun _ _ _ hh h => h.of_heap hh) St.own started (by kernel_rfl) Tryd.func7
    (ChangeSpec.witness_shaped (enc := enc) (C := Tryd.checked) (os := os) (X := fun w _ => laidMetH Tryd.prog Gv.laid1 w) false (World.doorLaid Tryd.prog 400 os) #[.slice .none 0 0, .int .i64 0, .int .u64 0] 8 rfl (World.shaped_of_RefB (by kernel_rfl) (by kernel_rfl)) (by kernel_rfl) (by kernel_rfl) (by kernel_rfl) (Gv.door_met os _)) ?_
  intro W base args ds gs before hval0 hW hcnd hsz0 hL _
  have hsz : (DataW.weightsEach Tryd.prog (Tryd.f7.params.toList ++ Rows.twinApartSpec.plain.varTypes Tryd.prog) (ds ++ gs)).all (· ≤ reachBytes) = true := hsz0
  have hval : ∀ (j : Nat) t v, Tryd.f7.params[j]? = some t → args[j]? = some v → Value.okWide Tryd.prog W .any base t v := hval0
  have hW' := hW
  obtain ⟨p, q, hA0, hV, rfl, hfz, hnd⟩ := hW
  have hA : DataW.TrodAll enc Tryd.prog W 0 (fun _ => true) true Tryd.f7.params.toList args.toList ds p := hA0
  rw [Tryd.params7] at hA hval hsz
  obtain ⟨v0, vs0, d0, ds0, p0, q0, hargs, rfl, rfl, h0, r0⟩ := trodAll_cons hA
  obtain ⟨v1, vs1, d1, ds1, p1, q1, rfl, rfl, rfl, h1, r1⟩ := trodAll_cons r0
  obtain ⟨v2, vs2, d2, ds2, p2, q2, rfl, rfl, rfl, h2, r2⟩ := trodAll_cons r1
  obtain ⟨rfl, rfl, rfl⟩ := trodAll_nil r2
  obtain rfl : args = #[v0, v1, v2] := by cases args; simp_all
  have z0 : ∀ es sp, d0 = .slice es sp → (es.length + sp.length) * 8 ≤ 140737488351232 := fun es sp e => by
    have := sized_slice hsz (j := 0) (t := 22) (e := 47) rfl (congrArg some e) Tryd.underlying22
    rw [show Tryd.prog.bytesOf 47 = 8 from by kernel_rfl] at this
    simpa [reachBytes] using this
  obtain ⟨a0, n0, c0, xs0, rfl, s0, t0⟩ := Sl.open_slice Tryd.underlying22 Tryd.underlying47 (by kernel_rfl) (hval 0 22 v0 rfl rfl) h0 z0
  obtain ⟨a1, rfl, rfl, rfl, w1⟩ := open_int Tryd.underlying3 (hval 1 3 v1 rfl rfl) h1
  obtain ⟨a2, rfl, rfl, rfl, w2⟩ := open_int Tryd.underlying47 (hval 2 47 v2 rfl rfl) h2
  refine (walk a0 n0 c0 xs0 a1 a2 (St.i64_of_wf w1) (St.u64_of_wf w2) W (Gv.of_laid hL) s0 t0).mono fun e W' ⟨he, hb⟩ => ?_
  subst he
  exact St.law_done St.laid (by kernel_rfl) rfl rfl Tryd.underlying4 rfl hW' hb

theorem over : Rows.twinApartRow.holds Tryd.pinned (OpenSpec.ofChange Rows.twinApartSpec) :=
  OpenClaim.holds_of_wide 7 Tryd.f7 rfl rfl rfl rfl rfl rfl rfl ⟨rfl, rfl, rfl, rfl, rfl⟩ rfl rfl rfl rfl rfl (by kernel_rfl) Tryd.func7 (by kernel_rfl)
    (of_decide_eq_true (by kernel_rfl)) (by unfold Func.isWrapper; first | (rw [if_pos (by decide +kernel)]; kernel_rfl) | (rw [if_neg (by decide +kernel)]; exact ⟨rfl, rfl⟩))
    (fun os started H enc _ => lifted os started H enc)
theorem proved : Rows.TwinApartCardSaid :=
  Claim7.holds_tied_plain_at .later [] [.data] true Rows.twinApartCard.stood.harness false over (fun _ h => by cases h) (by kernel_rfl) (fun _ h => by cases h) twinApart_row_tie rfl ⟨rfl, rfl⟩ (by kernel_rfl) rfl
    (fun f fn hf hfn => by
      obtain rfl : f = 7 := Option.some.inj ((show Tryd.prog.funcNamed "ballast/ballastlaw07.TwinApart" = some 7 by kernel_rfl).symm.trans hf) |>.symm
      obtain rfl : fn = Tryd.f7 := (Option.some.inj (Tryd.func7.symm.trans hfn)).symm
      exact ⟨by kernel_rfl, fun j t ht => by
        rw [Tryd.params7] at ht
        have hm : t ∈ [22, 3, 47] := by simpa using Array.mem_of_getElem? ht
        have hall : ([22, 3, 47].all fun u => !Tryd.prog.wantsStandIn u) = true := by kernel_rfl
        exact (show Tryd.prog.wantsStandIn t = false by simpa using List.all_eq_true.1 hall t hm)⟩)
    (by kernel_rfl)
#print axioms proved
end Go.Proofs.YtepiiiekcmbpaaaDoor.twinApart
