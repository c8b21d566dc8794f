/-
  The law SuperBack returns true for any two superblocks; no condition.
-/
import Derived.Test.YtpildlikebhpjaaDoorSbl
import Derived.Test.YtpildlikebhpjaaDoorSbo
import Derived.Test.YtpildlikebhpjaaDoorGl
import Derived.Deep.RegionHeld3
namespace Go.Proofs.YtpildlikebhpjaaDoor.superBack
open Go.ChangeShapes Go.WideShapes Go.ChangeAt Go.RowKit Go.Proofs.YtpildlikebhpjaaDoor.Gv Go.Proofs.YtpildlikebhpjaaDoor.Sb Go.Proofs.YtpildlikebhpjaaDoor.Sl Go.Proofs.YtpildlikebhpjaaDoor.St Go.Proofs.YtpildlikebhpjaaDoor.Bits Go.Proofs.YtpildlikebhpjaaDoor.Wd Go.Proofs.YtpildlikebhpjaaDoor.Su Go.Proofs.YtpildlikebhpjaaDoor.Ir
set_option linter.unusedVariables false
set_option maxRecDepth 100000

theorem eq_super (a b a' b' : Int) (w : World) : (Op.equalIn 10000 23 (.agg #[.int .i64 a, .int .i64 b]) (.agg #[.int .i64 a', .int .i64 b'])).run Tryd.prog w = .ok (a == a' && b == b') w := by
  have u3 := Tryd.underlying3
  have a3 := Tryd.isAgg3
  have z3 := Tryd.sizeOf3
  have hS : Tryd.prog.underlying 23 = some (.struct (Tryd.prog.fieldsOf 23)) := by kernel_rfl
  have hp : Tryd.prog.stoodInHeld 23 = false := by kernel_rfl
  rw [show (10000 : Nat) = 9999 + 1 from rfl, run_equalIn_agg w 9999 23 _ _ hS hp]
  simp only [Program.fieldsOf, Tryd.underlying23]
  go_simp
  by_cases h1 : a = a' <;> by_cases h2 : b = b' <;> simp [h1, h2]
theorem heads (W T W' T' : Int) : (wordsI W T).take 2 = (wordsI W' T').take 2 := rfl
theorem beq_words {W T W' T' : Int} : decide (wordsI W T = wordsI W' T') = (W == W' && T == T') := by
  rw [Bool.eq_iff_iff, Bool.and_eq_true, decide_eq_true_iff, beq_iff_eq, beq_iff_eq]
  exact words_eq
set_option maxHeartbeats 1000000 in
theorem walk_main (W T W' T' : Int) (hg : IsSb W T) (hg' : IsSb W' T') (w : World) (L : NoSb w) (X Y : List Int) (hX : wordsI W T = X) (hY : wordsI W' T' = Y) (r : Bool) (hr : (W == W' && T == T') = r) (h2 : Hid (X.take 2 = Y.take 2)) (hd : Hid (decide (X = Y) = r)) :
    Calls Tryd.prog 5 #[.agg #[.int .i64 W, .int .i64 T], .agg #[.int .i64 W', .int .i64 T']] w fun e w' => e = .returned (.bool true) ∧ Below w.heap.size w w' := by
  have B1 := below_new (o := .cells #[.int .i64 W', .int .i64 T'] 23) (below_new (o := .cells #[.int .i64 W, .int .i64 T] 23) (Below.refl w.heap.size w))
  have X1 := (Box.new w #[.int .i64 W, .int .i64 T] 23).alloc (.cells #[.int .i64 W', .int .i64 T'] 23)
  have Y1 := Box.new1 w (.cells #[.int .i64 W, .int .i64 T] 23) #[.int .i64 W', .int .i64 T'] 23
  have hb := good_bd hg
  have hb' := good_bd hg'
  have hT : I64 T := ⟨by omega, by omega⟩
  have hT' : I64 T' := ⟨by omega, by omega⟩
  clear hb hb'
  have E := Lib.hid (bad_ok hg)
  have E' := Lib.hid (bad_ok hg')
  have HF := Lib.hid (show ∀ x ∈ X, (Lit.int .u64 x).wf = true from by rw [← hX]; exact words_wf hg)
  have HF' := Lib.hid (show ∀ x ∈ Y, (Lit.int .u64 x).wf = true from by rw [← hY]; exact words_wf hg')
  have HL := Lib.hid (show X.length = 8 from by rw [← hX]; rfl)
  have HL' := Lib.hid (show Y.length = 8 from by rw [← hY]; rfl)
  have HR := Lib.hid (show readE X = 0 ∧ readW X = W ∧ readT X = T from by rw [← hX]; exact read_words hg)
  go_enter Tryd.func5, Tryd.ntmps5
  go_wp2_with fail
  refine (rcheck_x W T _ hT 0 E.out).mono ?_
  rintro e w1 ⟨rfl, b1⟩
  have C1 := below_then B1 b1
  replace X1 := X1.keep b1
  replace Y1 := Y1.keep b1
  have y0 : w1.cell? ⟨w.heap.size + 1, 0, none⟩ = some (.int .i64 W') := Y1.cell 0
  have y1 : w1.cell? ⟨w.heap.size + 1, 1, none⟩ = some (.int .i64 T') := Y1.cell 1
  go_wp2_with fail
  refine (rcheck_x W' T' _ hT' 0 E'.out).mono ?_
  rintro e w2 ⟨rfl, b2⟩
  have C2 := below_then C1 b2
  replace X1 := X1.keep b2
  replace Y1 := Y1.keep b2
  clear y0 y1
  have x0 : w2.cell? ⟨w.heap.size, 0, none⟩ = some (.int .i64 W) := X1.cell 0
  have x1 : w2.cell? ⟨w.heap.size, 1, none⟩ = some (.int .i64 T) := X1.cell 1
  go_wp2_with fail
  refine (write_x W T _ hg X hX).mono ?_
  rintro e w3 ⟨g3, c3, rfl, hc3, G3⟩
  have C3 := below_then C2 G3.below
  have S3 := grows_look G3 HF.out (by rw [HL.out]; decide)
  replace X1 := X1.keep G3.below
  replace Y1 := Y1.keep G3.below
  clear x0 x1
  have y0 : w3.cell? ⟨w.heap.size + 1, 0, none⟩ = some (.int .i64 W') := Y1.cell 0
  have y1 : w3.cell? ⟨w.heap.size + 1, 1, none⟩ = some (.int .i64 T') := Y1.cell 1
  go_wp2_with fail
  refine (write_x W' T' _ hg' Y hY).mono ?_
  rintro e w4 ⟨g4, c4, rfl, hc4, G4⟩
  have C4 := below_then C3 G4.below
  have S4 := grows_look G4 HF'.out (by rw [HL'.out]; decide)
  replace S3 := S3.keep G4.below
  replace X1 := X1.keep G4.below
  replace Y1 := Y1.keep G4.below
  clear y0 y1
  go_wp2_with fail
  refine (read_x _ _ _ _ _ S3 (L.keep C4) 0 W T HR.out).mono ?_
  rintro e w5 ⟨rfl, b5⟩
  have bn := below_new (o := .cells #[.int .i64 W, .int .i64 T] 23) b5
  have C5 := below_then C4 bn
  replace S3 := S3.keep bn
  replace S4 := S4.keep bn
  replace X1 := X1.keep bn
  replace Y1 := Y1.keep bn
  have Z1 := Box.new w5 #[.int .i64 W, .int .i64 T] 23
  have x0 : (w5.alloc (.cells #[.int .i64 W, .int .i64 T] 23)).cell? ⟨w.heap.size, 0, none⟩ = some (.int .i64 W) := X1.cell 0
  have x1 : (w5.alloc (.cells #[.int .i64 W, .int .i64 T] 23)).cell? ⟨w.heap.size, 1, none⟩ = some (.int .i64 T) := X1.cell 1
  have bd : Below (w5.alloc (.cells #[.int .i64 W, .int .i64 T] 23)).heap.size (w5.alloc (.cells #[.int .i64 W, .int .i64 T] 23)) (w5.alloc (.cells #[.int .i64 W, .int .i64 T] 23)).drew := Below.drew (Below.refl _ _)
  have C6 := below_then C5 bd
  have T3 := S3.keep bd
  have T4 := S4.keep bd
  have X2 := X1.keep bd
  have Y2 := Y1.keep bd
  clear HF HF' HL HL' HR G3 G4 C1 C2 C3 C4 C5
  go_wp2_with fail
  clear x0 x1 S3 S4 X1 Y1 Z1 bd bn b5 b1 b2 B1
  generalize w5.alloc (.cells #[.int .i64 W, .int .i64 T] 23) = v0 at *
  have q3 := run_upto g3 0 8 c3 2 2 rfl (by decide) hc3
  have q4 := run_upto g4 0 8 c4 2 2 rfl (by decide) hc4
  have qe := fun w => eq_super W T W' T' w
  simp only [hr] at qe
  have hc3' : (2 : Int) ≤ (c3 : Int) := by omega
  have hc4' : (2 : Int) ≤ (c4 : Int) := by omega
  go_region_held3 (fun w' => (w'.cell? ⟨w.heap.size, 0, none⟩ = some (.int .i64 W) ∧ w'.cell? ⟨w.heap.size, 1, none⟩ = some (.int .i64 T)) ∧ (w'.cell? ⟨w.heap.size + 1, 0, none⟩ = some (.int .i64 W') ∧ w'.cell? ⟨w.heap.size + 1, 1, none⟩ = some (.int .i64 T')))
    (first | exact ⟨⟨X2.cell 0, X2.cell 1⟩, ⟨Y2.cell 0, Y2.cell 1⟩⟩ | exact ⟨⟨X3.cell 0, X3.cell 1⟩, ⟨Y3.cell 0, Y3.cell 1⟩⟩ | exact ⟨⟨X4.cell 0, X4.cell 1⟩, ⟨Y4.cell 0, Y4.cell 1⟩⟩ | exact ⟨⟨X5.cell 0, X5.cell 1⟩, ⟨Y5.cell 0, Y5.cell 1⟩⟩)
    (first
    | (go_at_call 18
       with_reducible refine (same_x _ _ 2 _ 2 _ _ _ _ (T3.upto 2 (by decide)) (T4.upto 2 (by decide)) true (decide_eq_true h2.out)).mono ?_
       rintro e v1 ⟨rfl, e1, he1⟩
       have k1 : Below v0.drew.heap.size v0.drew v1 := by rw [← he1]; exact below_drewN (Below.refl _ _) _
       clear he1
       have X3 := X2.keep k1
       have Y3 := Y2.keep k1)
    | (go_at_call 18
       with_reducible refine (same_x _ _ 8 _ 8 _ _ _ _ (T3.keep k1) (T4.keep k1) r hd.out).mono ?_
       rintro e v2 ⟨rfl, e2, he2⟩
       have k2 : Below v1.heap.size v1 v2 := by rw [← he2]; exact below_drewN (Below.refl _ _) _
       clear he2
       have X4 := X3.keep k2
       have Y4 := Y3.keep k2)
    | (go_at_call 13
       refine (alive_any _ (L.keep (below_then (below_then C6 k1) k2))).mono ?_
       rintro e v3 ⟨rfl, k3⟩
       have X5 := X4.keep k3
       have Y5 := Y4.keep k3))
  all_goals
    go_wp2
    go_ret
    exact ⟨rfl, below_then (below_then (below_then C6 k1) k2) k3⟩
set_option maxHeartbeats 1000000 in
theorem walk (W T W' T' : Int) (hW : -9223372036854775808 ≤ W ∧ W ≤ 9223372036854775807) (hT : -9223372036854775808 ≤ T ∧ T ≤ 9223372036854775807) (hW' : -9223372036854775808 ≤ W' ∧ W' ≤ 9223372036854775807) (hT' : -9223372036854775808 ≤ T' ∧ T' ≤ 9223372036854775807) (w : World) (L : NoSb w) :
    Calls Tryd.prog 5 #[.agg #[.int .i64 W, .int .i64 T], .agg #[.int .i64 W', .int .i64 T']] w fun e w' => e = .returned (.bool true) ∧ Below w.heap.size w w' := by
  by_cases hg : IsSb W T
  · by_cases hg' : IsSb W' T'
    · exact walk_main W T W' T' hg hg' w L _ _ rfl rfl _ rfl (Lib.hid (heads W T W' T')) (Lib.hid beq_words)
    · have B1 := below_new (o := .cells #[.int .i64 W', .int .i64 T'] 23) (below_new (o := .cells #[.int .i64 W, .int .i64 T] 23) (Below.refl w.heap.size w))
      have Y1 := Box.new1 w (.cells #[.int .i64 W, .int .i64 T] 23) #[.int .i64 W', .int .i64 T'] 23
      have E := Lib.hid (bad_ok hg)
      have E' := Lib.hid (bad_no hg')
      go_enter Tryd.func5, Tryd.ntmps5
      go_wp2_with fail
      refine (rcheck_x W T _ hT 0 E.out).mono ?_
      rintro e w1 ⟨rfl, b1⟩
      replace Y1 := Y1.keep b1
      have y0 : w1.cell? ⟨w.heap.size + 1, 0, none⟩ = some (.int .i64 W') := Y1.cell 0
      have y1 : w1.cell? ⟨w.heap.size + 1, 1, none⟩ = some (.int .i64 T') := Y1.cell 1
      go_wp2_with fail
      refine (rcheck_x W' T' _ hT' 8 E'.out).mono ?_
      rintro e w2 ⟨rfl, b2⟩
      go_wp2_with fail
      refine (alive_any _ (L.keep (below_then (below_then B1 b1) b2))).mono ?_
      rintro e w3 ⟨rfl, b3⟩
      go_wp2
      go_ret
      exact ⟨rfl, below_then (below_then (below_then B1 b1) b2) b3⟩
  · have B1 := below_new (o := .cells #[.int .i64 W', .int .i64 T'] 23) (below_new (o := .cells #[.int .i64 W, .int .i64 T] 23) (Below.refl w.heap.size w))
    have E := Lib.hid (bad_no hg)
    go_enter Tryd.func5, Tryd.ntmps5
    go_wp2_with fail
    refine (rcheck_x W T _ hT 8 E.out).mono ?_
    rintro e w1 ⟨rfl, b1⟩
    go_wp2_with fail
    refine (alive_any _ (L.keep (below_then B1 b1))).mono ?_
    rintro e w3 ⟨rfl, b3⟩
    go_wp2
    go_ret
    exact ⟨rfl, below_then (below_then B1 b1) b3⟩

/-! The row's step. -/
set_option maxRecDepth 100000 in
theorem lifted (os : Os) (started : os.Started) (H : Type) (enc : TypeId × Value → H) :
    ReturnsInHanded {} Tryd.checked os 5 .any (fun w args => (Rows.superBackSpec.pre enc Tryd.prog Tryd.f5 [] false w args ∧ laidMetH Tryd.prog Gv.laid1 w) ∧ sizedMet enc Tryd.prog Tryd.f5 (OpenSpec.ofChange Rows.superBackSpec) false w args) (Rows.superBackSpec.post enc Tryd.prog Tryd.f5 false true false false) := by
  refine returnsInHanded_of_change_and (C := Tryd.checked) (X := fun w _ => laidMetH Tryd.prog Gv.laid1 w) (fun _ _ _ hh h => h.of_heap hh) St.own started (by kernel_rfl) Tryd.func5
    (ChangeSpec.witness_shaped (enc := enc) (C := Tryd.checked) (os := os) (X := fun w _ => laidMetH Tryd.prog Gv.laid1 w) false (World.doorLaid Tryd.prog 400 os) #[.agg #[.int .i64 0, .int .i64 0], .agg #[.int .i64 0, .int .i64 0]] 8 rfl (World.shaped_of_RefB (by kernel_rfl) (by kernel_rfl)) (by kernel_rfl) (by kernel_rfl) (by kernel_rfl) (Gv.door_met os _)) ?_
  intro W base args ds gs before hval0 hW hcnd hsz0 hL _
  have hval : ∀ (j : Nat) t v, Tryd.f5.params[j]? = some t → args[j]? = some v → Value.okWide Tryd.prog W .any base t v := hval0
  have hW' := hW
  obtain ⟨p, q, hA0, hV, rfl, hfz, hnd⟩ := hW
  have hA : DataW.TrodAll enc Tryd.prog W 0 (fun _ => true) true Tryd.f5.params.toList args.toList ds p := hA0
  rw [Tryd.params5] at hA hval
  obtain ⟨v0, vs0, d0, ds0, p0, q0, hargs, rfl, rfl, h0, r0⟩ := trodAll_cons hA
  obtain ⟨v1, vs1, d1, ds1, p1, q1, rfl, rfl, rfl, h1, r1⟩ := trodAll_cons r0
  obtain ⟨rfl, rfl, rfl⟩ := trodAll_nil r1
  obtain rfl : args = #[v0, v1] := by cases args; simp_all
  obtain ⟨a0, b0, rfl, w0, w0'⟩ := Sb.open_super (hval 0 23 v0 rfl rfl) h0
  obtain ⟨a1, b1, rfl, w1, w1'⟩ := Sb.open_super (hval 1 23 v1 rfl rfl) h1
  refine (walk a0 b0 a1 b1 w0 w0' w1 w1' W (Gv.of_laid hL)).mono fun e W' ⟨he, hb⟩ => ?_
  subst he
  exact St.law_done St.laid (by kernel_rfl) rfl rfl Tryd.underlying4 rfl hW' hb

theorem over : Rows.superBackRow.holds Tryd.pinned (OpenSpec.ofChange Rows.superBackSpec) :=
  OpenClaim.holds_of_wide 5 Tryd.f5 rfl rfl rfl rfl rfl rfl rfl ⟨rfl, rfl, rfl, rfl, rfl⟩ rfl rfl rfl rfl rfl (by kernel_rfl) Tryd.func5 (by kernel_rfl)
    (of_decide_eq_true (by kernel_rfl)) (by unfold Func.isWrapper; first | (rw [if_pos (by decide +kernel)]; kernel_rfl) | (rw [if_neg (by decide +kernel)]; exact ⟨rfl, rfl⟩))
    (fun os started H enc _ => lifted os started H enc)
theorem proved : Rows.SuperBackCardSaid :=
  Claim7.holds_tied_plain_at .later [] [.data] true Rows.superBackCard.stood.harness false over (fun _ h => by cases h) (by kernel_rfl) (fun _ h => by cases h) superBack_row_tie rfl ⟨rfl, rfl⟩ (by kernel_rfl) rfl
    (fun f fn hf hfn => by
      obtain rfl : f = 5 := Option.some.inj ((show Tryd.prog.funcNamed "ballast/ballastlaw06.SuperBack" = some 5 by kernel_rfl).symm.trans hf) |>.symm
      obtain rfl : fn = Tryd.f5 := (Option.some.inj (Tryd.func5.symm.trans hfn)).symm
      exact ⟨by kernel_rfl, fun j t ht => by
        rw [Tryd.params5] at ht
        have hm : t ∈ [23, 23] := by simpa using Array.mem_of_getElem? ht
        have hall : ([23, 23].all fun u => !Tryd.prog.wantsStandIn u) = true := by kernel_rfl
        exact (show Tryd.prog.wantsStandIn t = false by simpa using List.all_eq_true.1 hall t hm)⟩)
    (by kernel_rfl)
#print axioms proved
end Go.Proofs.YtpildlikebhpjaaDoor.superBack
