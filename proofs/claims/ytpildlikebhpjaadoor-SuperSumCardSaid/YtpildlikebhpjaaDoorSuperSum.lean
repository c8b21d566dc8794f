/-
  The law SuperSum returns true for any superblock; no condition.
-/
import Derived.Test.YtpildlikebhpjaaDoorSbl
import Derived.Test.YtpildlikebhpjaaDoorSbo
import Derived.Test.YtpildlikebhpjaaDoorGl
import Derived.Test.YtpildlikebhpjaaDoorSal
import Derived.Deep.RegionHeld3
namespace Go.Proofs.YtpildlikebhpjaaDoor.superSum
open Go.ChangeShapes Go.WideShapes Go.ChangeAt Go.RowKit Go.Proofs.YtpildlikebhpjaaDoor.Gv Go.Proofs.YtpildlikebhpjaaDoor.Sb Go.Proofs.YtpildlikebhpjaaDoor.Sl Go.Proofs.YtpildlikebhpjaaDoor.St Go.Proofs.YtpildlikebhpjaaDoor.Bits Go.Proofs.YtpildlikebhpjaaDoor.Wd Go.Proofs.YtpildlikebhpjaaDoor.Su Go.Proofs.YtpildlikebhpjaaDoor.Ir
set_option linter.unusedVariables false
set_option maxRecDepth 100000

theorem cells_at {w' : World} {W T : Int} {B g c : Nat} (S : Sees w' .u64 (some ⟨g, 0, none⟩) 8 c (wordsI W T)) (X : Box w' B #[.int .i64 W, .int .i64 T] 23) :
    (w'.cell? ⟨B, 0, none⟩ = some (.int .i64 W) ∧ w'.cell? ⟨B, 1, none⟩ = some (.int .i64 T)) ∧ w'.cell? ⟨g, 2, none⟩ = some (.int .u64 W) ∧ w'.cell? ⟨g, 3, none⟩ = some (.int .u64 T) ∧
      w'.cell? ⟨g, 4, none⟩ = some (.int .u64 0) ∧ w'.cell? ⟨g, 5, none⟩ = some (.int .u64 0) ∧ w'.cell? ⟨g, 6, none⟩ = some (.int .u64 0) ∧ w'.cell? ⟨g, 7, none⟩ = some (.int .u64 (sumS W T)) := by
  have at' : ∀ i v, i < 8 → (wordsI W T).getD i 0 = v → w'.cell? ⟨g, i, none⟩ = some (.int .u64 v) := fun i v hi hv => by
    have := S.at i hi
    rw [Nat.zero_add, hv] at this
    exact this
  exact ⟨⟨X.cell 0, X.cell 1⟩, at' 2 _ (by decide) rfl, at' 3 _ (by decide) rfl, at' 4 _ (by decide) rfl, at' 5 _ (by decide) rfl, at' 6 _ (by decide) rfl, at' 7 _ (by decide) rfl⟩
set_option maxHeartbeats 1000000 in
theorem walk (W T : Int) (hW : -9223372036854775808 ≤ W ∧ W ≤ 9223372036854775807) (hT : -9223372036854775808 ≤ T ∧ T ≤ 9223372036854775807) (w : World) (L : NoSb w) :
    Calls Tryd.prog 8 #[.agg #[.int .i64 W, .int .i64 T]] w fun e w' => e = .returned (.bool true) ∧ Below w.heap.size w w' := by
  have B1 := below_new (o := .cells #[.int .i64 W, .int .i64 T] 23) (Below.refl w.heap.size w)
  have X1 := Box.new w #[.int .i64 W, .int .i64 T] 23
  by_cases hg : IsSb W T
  · have E := Lib.hid (bad_ok hg)
    obtain ⟨hb1, hb2, hb3, hb4⟩ := good_bd hg
    have HS := Lib.hid (show behI firstI ((wordsI W T).take 7) = sumS W T from rfl)
    go_enter Tryd.func8, Tryd.ntmps8
    go_wp2_with fail
    refine (rcheck_x W T _ hT 0 E.out).mono ?_
    rintro e w1 ⟨rfl, b1⟩
    have C1 := below_then B1 b1
    replace X1 := X1.keep b1
    have x0 : w1.cell? ⟨w.heap.size, 0, none⟩ = some (.int .i64 W) := X1.cell 0
    have x1 : w1.cell? ⟨w.heap.size, 1, none⟩ = some (.int .i64 T) := X1.cell 1
    go_wp2_with fail
    refine (write_x W T _ hg _ rfl).mono ?_
    rintro e w2 ⟨g2, c2, rfl, hc2, G2⟩
    have C2 := below_then C1 G2.below
    have S2 := grows_look G2 (words_wf hg) (by rw [words_len]; decide)
    replace X1 := X1.keep G2.below
    clear x0 x1
    go_wp2_with fail
    refine (of_x _ _ _ _ _ (S2.upto 7 (by decide)) (by decide) (sumS W T) HS.out).mono ?_
    rintro e w3 ⟨rfl, b3⟩
    have bd := Below.drew (below_then (Below.refl _ _) b3)
    have C3 := below_then C2 bd
    replace X1 := X1.keep bd
    replace S2 := S2.keep bd
    clear HS
    have iW : I64 W := hW
    have iT : I64 T := hT
    have HW2 : IntKind.u64.wrap W = W := by rw [IntKind.wrap_u64]; omega
    have HT2 : IntKind.u64.wrap T = T := by rw [IntKind.wrap_u64]; omega
    go_wp2_with fail
    go_region_held3 (fun w' => (w'.cell? ⟨w.heap.size, 0, none⟩ = some (.int .i64 W) ∧ w'.cell? ⟨w.heap.size, 1, none⟩ = some (.int .i64 T)) ∧ w'.cell? ⟨g2, 2, none⟩ = some (.int .u64 W) ∧ w'.cell? ⟨g2, 3, none⟩ = some (.int .u64 T) ∧
        w'.cell? ⟨g2, 4, none⟩ = some (.int .u64 0) ∧ w'.cell? ⟨g2, 5, none⟩ = some (.int .u64 0) ∧ w'.cell? ⟨g2, 6, none⟩ = some (.int .u64 0) ∧ w'.cell? ⟨g2, 7, none⟩ = some (.int .u64 (sumS W T)))
      (first | exact cells_at S2 X1 | exact cells_at S4 X4 | exact cells_at S5 X5)
      (first
      | (go_at_call 10
         with_reducible refine (check_x W T _ iW iT 0 E.out).mono ?_
         rintro e w4 ⟨rfl, b4⟩
         have X4 := X1.keep b4
         have S4 := S2.keep b4)
      | (go_at_call 13
         with_reducible refine (alive_any _ (L.keep (below_then C3 b4))).mono ?_
         rintro e w5 ⟨rfl, b5⟩
         have X5 := X4.keep b5
         have S5 := S4.keep b5))
    all_goals
      go_wp2
      go_ret
      exact ⟨rfl, below_then (below_then C3 b4) b5⟩
  · have E := Lib.hid (bad_no hg)
    go_enter Tryd.func8, Tryd.ntmps8
    go_wp2_with fail
    refine (rcheck_x W T _ hT 8 E.out).mono ?_
    rintro e w1 ⟨rfl, b1⟩
    have C1 := below_then B1 b1
    replace X1 := X1.keep b1
    have x0 : w1.cell? ⟨w.heap.size, 0, none⟩ = some (.int .i64 W) := X1.cell 0
    have x1 : w1.cell? ⟨w.heap.size, 1, none⟩ = some (.int .i64 T) := X1.cell 1
    go_wp2_with fail
    refine (check_x W T _ hW hT 8 E.out).mono ?_
    rintro e w2 ⟨rfl, b2⟩
    go_wp2_with fail
    refine (alive_any _ (L.keep (below_then C1 b2))).mono ?_
    rintro e w3 ⟨rfl, b3⟩
    go_wp2
    go_ret
    exact ⟨rfl, below_then (below_then C1 b2) b3⟩

/-! The row's step. -/
set_option maxRecDepth 100000 in
theorem lifted (os : Os) (started : os.Started) (H : Type) (enc : TypeId × Value → H) :
    ReturnsInHanded {} Tryd.checked os 8 .any (fun w args => (Rows.superSumSpec.pre enc Tryd.prog Tryd.f8 [] false w args ∧ laidMetH Tryd.prog Gv.laid1 w) ∧ sizedMet enc Tryd.prog Tryd.f8 (OpenSpec.ofChange Rows.superSumSpec) false w args) (Rows.superSumSpec.post enc Tryd.prog Tryd.f8 false true false false) := by
  refine returnsInHanded_of_change_and (C := Tryd.checked) (X := fun w _ => laidMetH Tryd.prog Gv.laid1 w) (fun _ _ _ hh h => h.of_heap hh) St.own started (by kernel_rfl) Tryd.func8
    (ChangeSpec.witness_shaped (enc := enc) (C := Tryd.checked) (os := os) (X := fun w _ => laidMetH Tryd.prog Gv.laid1 w) false (World.doorLaid Tryd.prog 400 os) #[.agg #[.int .i64 0, .int .i64 0]] 8 rfl (World.shaped_of_RefB (by kernel_rfl) (by kernel_rfl)) (by kernel_rfl) (by kernel_rfl) (by kernel_rfl) (Gv.door_met os _)) ?_
  intro W base args ds gs before hval0 hW hcnd hsz0 hL _
  have hval : ∀ (j : Nat) t v, Tryd.f8.params[j]? = some t → args[j]? = some v → Value.okWide Tryd.prog W .any base t v := hval0
  have hW' := hW
  obtain ⟨p, q, hA0, hV, rfl, hfz, hnd⟩ := hW
  have hA : DataW.TrodAll enc Tryd.prog W 0 (fun _ => true) true Tryd.f8.params.toList args.toList ds p := hA0
  rw [Tryd.params8] at hA hval
  obtain ⟨v0, vs0, d0, ds0, p0, q0, hargs, rfl, rfl, h0, r0⟩ := trodAll_cons hA
  obtain ⟨rfl, rfl, rfl⟩ := trodAll_nil r0
  obtain rfl : args = #[v0] := by cases args; simp_all
  obtain ⟨a0, b0, rfl, w0, w0'⟩ := Sb.open_super (hval 0 23 v0 rfl rfl) h0
  refine (walk a0 b0 w0 w0' W (Gv.of_laid hL)).mono fun e W' ⟨he, hb⟩ => ?_
  subst he
  exact St.law_done St.laid (by kernel_rfl) rfl rfl Tryd.underlying4 rfl hW' hb

theorem over : Rows.superSumRow.holds Tryd.pinned (OpenSpec.ofChange Rows.superSumSpec) :=
  OpenClaim.holds_of_wide 8 Tryd.f8 rfl rfl rfl rfl rfl rfl rfl ⟨rfl, rfl, rfl, rfl, rfl⟩ rfl rfl rfl rfl rfl (by kernel_rfl) Tryd.func8 (by kernel_rfl)
    (of_decide_eq_true (by kernel_rfl)) (by unfold Func.isWrapper; first | (rw [if_pos (by decide +kernel)]; kernel_rfl) | (rw [if_neg (by decide +kernel)]; exact ⟨rfl, rfl⟩))
    (fun os started H enc _ => lifted os started H enc)
theorem proved : Rows.SuperSumCardSaid :=
  Claim7.holds_tied_plain_at .later [] [.data] true Rows.superSumCard.stood.harness false over (fun _ h => by cases h) (by kernel_rfl) (fun _ h => by cases h) superSum_row_tie rfl ⟨rfl, rfl⟩ (by kernel_rfl) rfl
    (fun f fn hf hfn => by
      obtain rfl : f = 8 := Option.some.inj ((show Tryd.prog.funcNamed "ballast/ballastlaw06.SuperSum" = some 8 by kernel_rfl).symm.trans hf) |>.symm
      obtain rfl : fn = Tryd.f8 := (Option.some.inj (Tryd.func8.symm.trans hfn)).symm
      exact ⟨by kernel_rfl, fun j t ht => by
        rw [Tryd.params8] at ht
        have hm : t ∈ [23] := by simpa using Array.mem_of_getElem? ht
        have hall : ([23].all fun u => !Tryd.prog.wantsStandIn u) = true := by kernel_rfl
        exact (show Tryd.prog.wantsStandIn t = false by simpa using List.all_eq_true.1 hall t hm)⟩)
    (by kernel_rfl)
#print axioms proved
end Go.Proofs.YtpildlikebhpjaaDoor.superSum
