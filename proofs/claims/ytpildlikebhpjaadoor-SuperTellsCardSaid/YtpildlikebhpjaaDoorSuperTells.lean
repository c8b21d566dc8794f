/-
  The law SuperTells returns true for any superblock and any words; no condition.
-/
import Derived.Test.YtpildlikebhpjaaDoorSbl
import Derived.Test.YtpildlikebhpjaaDoorSbo
import Derived.Test.YtpildlikebhpjaaDoorGl
import Derived.Deep.RegionHeld3
namespace Go.Proofs.YtpildlikebhpjaaDoor.superTells
open Go.ChangeShapes Go.WideShapes Go.ChangeAt Go.RowKit Go.Proofs.YtpildlikebhpjaaDoor.Gv Go.Proofs.YtpildlikebhpjaaDoor.Sb Go.Proofs.YtpildlikebhpjaaDoor.Sl Go.Proofs.YtpildlikebhpjaaDoor.St Go.Proofs.YtpildlikebhpjaaDoor.Bits Go.Proofs.YtpildlikebhpjaaDoor.Wd Go.Proofs.YtpildlikebhpjaaDoor.Su Go.Proofs.YtpildlikebhpjaaDoor.Ir
set_option linter.unusedVariables false
set_option maxRecDepth 100000

theorem write_p (W T : Int) (w : World) (hW : I64 W) (hT : I64 T) (xs : List Int) (r : Int) (hx : wroteI W T = xs) (hr : badE W T = r) :
    Calls Tryd.prog 9 #[.agg #[.int .i64 W, .int .i64 T]] w fun e w' => ∃ a c, e = .returned (.tuple #[.slice a xs.length c, .int .i64 r]) ∧ Sees w' .u64 a xs.length c xs ∧ Below w.heap.size w w' := by
  subst hx hr
  refine (write_any W T w hW hT).mono ?_
  rintro e w' ⟨a, c, rfl, M⟩
  exact ⟨a, c, rfl, M.sees (wrote_wf W T) (Nat.le_trans (wrote_len W T) (by decide)), M.2⟩
theorem rwrite_p (W T : Int) (w : World) (hT : I64 T) (xs : List Int) (r : Int) (hx : wroteI W T = xs) (hr : badE W T = r) :
    Calls Tryd.prog 15 #[.agg #[.int .i64 W, .int .i64 T]] w fun e w' => ∃ a c, e = .returned (.tuple #[.slice a xs.length c, .int .i64 r]) ∧ Sees w' .u64 a xs.length c xs ∧ Below w.heap.size w w' := by
  subst hx hr
  refine (rwrite6_any W T w hT).mono ?_
  rintro e w' ⟨a, c, rfl, M⟩
  exact ⟨a, c, rfl, M.sees (wrote_wf W T) (Nat.le_trans (wrote_len W T) (by decide)), M.2⟩
theorem rread_x (a : Option Addr) (n c : Nat) (xs : List Int) (w : World) (va : Sees w .u64 a n c xs) (r p q : Int) (h : readE xs = r ∧ readW xs = p ∧ readT xs = q) :
    Calls Tryd.prog 16 #[.slice a n c] w fun e w' => e = .returned (.tuple #[.agg #[.int .i64 p, .int .i64 q], .int .i64 r]) ∧ Below w.heap.size w w' := by
  obtain ⟨rfl, rfl, rfl⟩ := h
  exact rread6_any a n c xs w va
theorem eq_super (a b a' b' : Int) (w : World) : (Op.equalIn 10000 23 (.agg #[.int .i64 a, .int .i64 b]) (.agg #[.int .i64 a', .int .i64 b'])).run Tryd.prog w = .ok (a == a' && b == b') w := by
  have u3 := Tryd.underlying3
  have a3 := Tryd.isAgg3
  have z3 := Tryd.sizeOf3
  have hS : Tryd.prog.underlying 23 = some (.struct (Tryd.prog.fieldsOf 23)) := by kernel_rfl
  have hp : Tryd.prog.stoodInHeld 23 = false := by kernel_rfl
  rw [show (10000 : Nat) = 9999 + 1 from rfl, run_equalIn_agg w 9999 23 _ _ hS hp]
  simp only [Program.fieldsOf, Tryd.underlying23]
  go_simp
  by_cases h1 : a = a' <;> by_cases h2 : b = b' <;> simp [h1, h2]
theorem twin_p (a : Option Addr) (n c : Nat) (xs : List Int) (w : World) (va : Sees w .u64 a n c xs) :
    Calls Tryd.prog 14 #[.slice a n c] w fun e w' => ∃ a2 c2, e = .returned (.slice a2 n c2) ∧ Sees w' .u64 a2 n c2 xs ∧ Below w.heap.size w w' := by
  have hl := va.len
  have ht := va.top
  subst hl
  refine (twin_any _ _ _ _ _ va).mono ?_
  rintro e w' ⟨a2, c2, rfl, M⟩
  exact ⟨a2, c2, rfl, M.sees va.wf ht, M.2⟩
set_option maxHeartbeats 2000000 in
theorem walk_main (W T : Int) (a : Option Addr) (n c : Nat) (xs : List Int) (iW : I64 W) (iT : I64 T) (w : World) (L : NoSb w) (va : Sees w .u64 a n c xs) (hn : ¬ 20 < n) (P : List Int) (B r p q : Int) (HP : wroteI W T = P) (HB : badE W T = B) (HR : readE xs = r ∧ readW xs = p ∧ readT xs = q) :
    Calls Tryd.prog 4 #[.agg #[.int .i64 W, .int .i64 T], .slice a n c] w fun e w' => e = .returned (.bool true) ∧ Below w.heap.size w w' := by
  have htop := va.top
  have B1 := below_new (o := .cells #[.int .i64 W, .int .i64 T] 23) (Below.refl w.heap.size w)
  have X1 := Box.new w #[.int .i64 W, .int .i64 T] 23
  go_enter Tryd.func4, Tryd.ntmps4
  go_wp2_with fail
  refine (twin_p _ _ _ _ _ (va.keep B1)).mono ?_
  rintro e w1 ⟨a1, c1, rfl, S1, b1⟩
  have C1 := below_then B1 b1
  replace X1 := X1.keep b1
  have x0 : w1.cell? ⟨w.heap.size, 0, none⟩ = some (.int .i64 W) := X1.cell 0
  have x1 : w1.cell? ⟨w.heap.size, 1, none⟩ = some (.int .i64 T) := X1.cell 1
  go_wp2_with fail
  refine (write_p W T _ iW iT P B HP HB).mono ?_
  rintro e w2 ⟨a2, c2, rfl, S2, b2⟩
  have C2 := below_then C1 b2
  replace S1 := S1.keep b2
  replace X1 := X1.keep b2
  clear x0 x1
  have x0 : w2.cell? ⟨w.heap.size, 0, none⟩ = some (.int .i64 W) := X1.cell 0
  have x1 : w2.cell? ⟨w.heap.size, 1, none⟩ = some (.int .i64 T) := X1.cell 1
  go_wp2_with fail
  refine (rwrite_p W T _ iT P B HP HB).mono ?_
  rintro e w3 ⟨a3, c3, rfl, S3, b3⟩
  have C3 := below_then C2 b3
  replace S1 := S1.keep b3
  replace S2 := S2.keep b3
  replace X1 := X1.keep b3
  clear x0 x1
  go_wp2_with fail
  refine (read_x _ _ _ _ _ S1 (L.keep C3) r p q HR).mono ?_
  rintro e w4 ⟨rfl, b4⟩
  have Y1 := Box.new w4 #[.int .i64 p, .int .i64 q] 23
  replace b4 := below_new (o := .cells #[.int .i64 p, .int .i64 q] 23) b4
  have C4 := below_then C3 b4
  replace S1 := S1.keep b4
  replace S2 := S2.keep b4
  replace S3 := S3.keep b4
  replace X1 := X1.keep b4
  go_wp2_with fail
  refine (rread_x _ _ _ _ _ (va.keep C4) r p q HR).mono ?_
  rintro e w5 ⟨rfl, b5⟩
  have Z1 := Box.new w5 #[.int .i64 p, .int .i64 q] 23
  replace b5 := below_new (o := .cells #[.int .i64 p, .int .i64 q] 23) b5
  have C5 := below_then C4 b5
  replace S1 := S1.keep b5
  replace S2 := S2.keep b5
  replace S3 := S3.keep b5
  replace X1 := X1.keep b5
  replace Y1 := Y1.keep b5
  have V5 := va.keep C5
  go_wp2_with fail
  clear b1 b2 b3 b4 b5 B1 C1 C2 C3 C4
  generalize w5.alloc (.cells #[.int .i64 p, .int .i64 q] 23) = v0 at *
  have bd : Below v0.heap.size v0 v0.drew := Below.drew (Below.refl _ _)
  replace S1 := S1.keep bd
  replace S2 := S2.keep bd
  replace S3 := S3.keep bd
  replace V5 := V5.keep bd
  replace X1 := X1.keep bd
  replace Y1 := Y1.keep bd
  replace Z1 := Z1.keep bd
  have C6 := below_then C5 bd
  clear bd C5
  have qe := fun w => eq_super p q p q w
  have hpq : (p == p && q == q) = true := by simp
  simp only [hpq] at qe
  clear hpq
  go_region_held3 (fun w' => (w'.cell? ⟨w.heap.size, 0, none⟩ = some (.int .i64 W) ∧ w'.cell? ⟨w.heap.size, 1, none⟩ = some (.int .i64 T)) ∧ (w'.cell? ⟨w4.heap.size, 0, none⟩ = some (.int .i64 p) ∧ w'.cell? ⟨w4.heap.size, 1, none⟩ = some (.int .i64 q)) ∧ (w'.cell? ⟨w5.heap.size, 0, none⟩ = some (.int .i64 p) ∧ w'.cell? ⟨w5.heap.size, 1, none⟩ = some (.int .i64 q)))
    (first | with_reducible exact ⟨⟨X1.cell 0, X1.cell 1⟩, ⟨Y1.cell 0, Y1.cell 1⟩, ⟨Z1.cell 0, Z1.cell 1⟩⟩ | exact ⟨⟨X1.cell 0, X1.cell 1⟩, ⟨Y1.cell 0, Y1.cell 1⟩, ⟨Z1.cell 0, Z1.cell 1⟩⟩ | exact ⟨⟨X2.cell 0, X2.cell 1⟩, ⟨Y2.cell 0, Y2.cell 1⟩, ⟨Z2.cell 0, Z2.cell 1⟩⟩ | exact ⟨⟨X3.cell 0, X3.cell 1⟩, ⟨Y3.cell 0, Y3.cell 1⟩, ⟨Z3.cell 0, Z3.cell 1⟩⟩ | exact ⟨⟨X4.cell 0, X4.cell 1⟩, ⟨Y4.cell 0, Y4.cell 1⟩, ⟨Z4.cell 0, Z4.cell 1⟩⟩ | exact ⟨⟨X5.cell 0, X5.cell 1⟩, ⟨Y5.cell 0, Y5.cell 1⟩, ⟨Z5.cell 0, Z5.cell 1⟩⟩)
    (first
    | (go_at_call 10
       with_reducible refine (check_x W T _ iW iT B HB).mono ?_
       rintro e v1 ⟨rfl, k1⟩
       have X2 := X1.keep k1
       have Y2 := Y1.keep k1
       have Z2 := Z1.keep k1
       have C7 := below_then C6 k1)
    | (go_at_call 17
       with_reducible refine (rcheck_x W T _ iT B HB).mono ?_
       rintro e v2 ⟨rfl, k2⟩
       have X3 := X2.keep k2
       have Y3 := Y2.keep k2
       have Z3 := Z2.keep k2
       have C8 := below_then C7 k2)
    | (go_at_call 18
       with_reducible refine (same_x a2 a3 _ c2 _ c3 P P _ ((S2.keep k1).keep k2) ((S3.keep k1).keep k2) true (decide_eq_true rfl)).mono ?_
       rintro e v3 ⟨rfl, e3, he3⟩
       have k3 : Below v2.heap.size v2 v3 := by rw [← he3]; exact below_drewN (Below.refl _ _) _
       clear he3
       have X4 := X3.keep k3
       have Y4 := Y3.keep k3
       have Z4 := Z3.keep k3)
    | (go_at_call 18
       with_reducible refine (same_x a1 a _ c1 _ c xs xs _ (((S1.keep k1).keep k2).keep k3) (((V5.keep k1).keep k2).keep k3) true (decide_eq_true rfl)).mono ?_
       rintro e v4 ⟨rfl, e4, he4⟩
       have k4 : Below v3.heap.size v3 v4 := by rw [← he4]; exact below_drewN (Below.refl _ _) _
       clear he4
       have X5 := X4.keep k4
       have Y5 := Y4.keep k4
       have Z5 := Z4.keep k4))
  all_goals
    go_wp2
    go_ret
    exact ⟨rfl, below_then (below_then C8 k3) k4⟩
theorem walk (W T : Int) (a : Option Addr) (n c : Nat) (xs : List Int) (hW : -9223372036854775808 ≤ W ∧ W ≤ 9223372036854775807) (hT : -9223372036854775808 ≤ T ∧ T ≤ 9223372036854775807) (w : World) (L : NoSb w) (va : Sees w .u64 a n c xs) (hc : c ≤ 17592186044416) :
    Calls Tryd.prog 4 #[.agg #[.int .i64 W, .int .i64 T], .slice a n c] w fun e w' => e = .returned (.bool true) ∧ Below w.heap.size w w' := by
  by_cases hn : 20 < n
  · have htop := va.top
    go_enter Tryd.func4, Tryd.ntmps4
    go_wp2
    go_ret
    exact ⟨rfl, below_new (Below.refl _ _)⟩
  · exact walk_main W T a n c xs hW hT w L va hn _ _ _ _ _ rfl rfl ⟨rfl, rfl, rfl⟩

/-! The row's step. -/
set_option maxRecDepth 100000 in
theorem lifted (os : Os) (started : os.Started) (H : Type) (enc : TypeId × Value → H) :
    ReturnsInHanded {} Tryd.checked os 4 .any (fun w args => (Rows.superTellsSpec.pre enc Tryd.prog Tryd.f4 [] false w args ∧ laidMetH Tryd.prog Gv.laid1 w) ∧ sizedMet enc Tryd.prog Tryd.f4 (OpenSpec.ofChange Rows.superTellsSpec) false w args) (Rows.superTellsSpec.post enc Tryd.prog Tryd.f4 false true false false) := by
  refine returnsInHanded_of_change_and (C := Tryd.checked) (X := fun w _ => laidMetH Tryd.prog Gv.laid1 w) (fun _ _ _ hh h => h.of_heap hh) St.own started (by kernel_rfl) Tryd.func4
    (ChangeSpec.witness_shaped (enc := enc) (C := Tryd.checked) (os := os) (X := fun w _ => laidMetH Tryd.prog Gv.laid1 w) false (World.doorLaid Tryd.prog 400 os) #[.agg #[.int .i64 0, .int .i64 0], .slice .none 0 0] 8 rfl (World.shaped_of_RefB (by kernel_rfl) (by kernel_rfl)) (by kernel_rfl) (by kernel_rfl) (by kernel_rfl) (Gv.door_met os _)) ?_
  intro W base args ds gs before hval0 hW hcnd hsz0 hL _
  have hsz : (DataW.weightsEach Tryd.prog (Tryd.f4.params.toList ++ Rows.superTellsSpec.plain.varTypes Tryd.prog) (ds ++ gs)).all (· ≤ reachBytes) = true := hsz0
  have hval : ∀ (j : Nat) t v, Tryd.f4.params[j]? = some t → args[j]? = some v → Value.okWide Tryd.prog W .any base t v := hval0
  have hW' := hW
  obtain ⟨p, q, hA0, hV, rfl, hfz, hnd⟩ := hW
  have hA : DataW.TrodAll enc Tryd.prog W 0 (fun _ => true) true Tryd.f4.params.toList args.toList ds p := hA0
  rw [Tryd.params4] at hA hval hsz
  obtain ⟨v0, vs0, d0, ds0, p0, q0, hargs, rfl, rfl, h0, r0⟩ := trodAll_cons hA
  obtain ⟨v1, vs1, d1, ds1, p1, q1, rfl, rfl, rfl, h1, r1⟩ := trodAll_cons r0
  obtain ⟨rfl, rfl, rfl⟩ := trodAll_nil r1
  obtain rfl : args = #[v0, v1] := by cases args; simp_all
  have z1 : ∀ es sp, d1 = .slice es sp → (es.length + sp.length) * 8 ≤ 140737488351232 := fun es sp e => by
    have := sized_slice hsz (j := 1) (t := 25) (e := 30) rfl (congrArg some e) Tryd.underlying25
    rw [show Tryd.prog.bytesOf 30 = 8 from by kernel_rfl] at this
    simpa [reachBytes] using this
  obtain ⟨a0, b0, rfl, w0, w0'⟩ := Sb.open_super (hval 0 23 v0 rfl rfl) h0
  obtain ⟨a1, n1, c1, xs1, rfl, s1, t1⟩ := Sl.open_slice Tryd.underlying25 Tryd.underlying30 (by kernel_rfl) (hval 1 25 v1 rfl rfl) h1 z1
  refine (walk a0 b0 a1 n1 c1 xs1 w0 w0' W (Gv.of_laid hL) s1 t1).mono fun e W' ⟨he, hb⟩ => ?_
  subst he
  exact St.law_done St.laid (by kernel_rfl) rfl rfl Tryd.underlying4 rfl hW' hb

theorem over : Rows.superTellsRow.holds Tryd.pinned (OpenSpec.ofChange Rows.superTellsSpec) :=
  OpenClaim.holds_of_wide 4 Tryd.f4 rfl rfl rfl rfl rfl rfl rfl ⟨rfl, rfl, rfl, rfl, rfl⟩ rfl rfl rfl rfl rfl (by kernel_rfl) Tryd.func4 (by kernel_rfl)
    (of_decide_eq_true (by kernel_rfl)) (by unfold Func.isWrapper; first | (rw [if_pos (by decide +kernel)]; kernel_rfl) | (rw [if_neg (by decide +kernel)]; exact ⟨rfl, rfl⟩))
    (fun os started H enc _ => lifted os started H enc)
theorem proved : Rows.SuperTellsCardSaid :=
  Claim7.holds_tied_plain_at .later [] [.data] true Rows.superTellsCard.stood.harness false over (fun _ h => by cases h) (by kernel_rfl) (fun _ h => by cases h) superTells_row_tie rfl ⟨rfl, rfl⟩ (by kernel_rfl) rfl
    (fun f fn hf hfn => by
      obtain rfl : f = 4 := Option.some.inj ((show Tryd.prog.funcNamed "ballast/ballastlaw06.SuperTells" = some 4 by kernel_rfl).symm.trans hf) |>.symm
      obtain rfl : fn = Tryd.f4 := (Option.some.inj (Tryd.func4.symm.trans hfn)).symm
      exact ⟨by kernel_rfl, fun j t ht => by
        rw [Tryd.params4] at ht
        have hm : t ∈ [23, 25] := by simpa using Array.mem_of_getElem? ht
        have hall : ([23, 25].all fun u => !Tryd.prog.wantsStandIn u) = true := by kernel_rfl
        exact (show Tryd.prog.wantsStandIn t = false by simpa using List.all_eq_true.1 hall t hm)⟩)
    (by kernel_rfl)
#print axioms proved
end Go.Proofs.YtpildlikebhpjaaDoor.superTells
