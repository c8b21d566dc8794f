/-
  The law CrashTells returns true for every device, number and mask; no condition but that the program's own variable for a lost word starts as its text lays it (the card ties it).
-/
import Derived.Test.YtkjhpjgdcjccjaaDoorKlaw
import Derived.Test.YtkjhpjgdcjccjaaDoorKlaid
import Derived.Test.YtkjhpjgdcjccjaaDoorDevOpen
import Derived.SizedLaws
namespace Go.Proofs.YtkjhpjgdcjccjaaDoor.crashTells
open Go.Proofs.YtkjhpjgdcjccjaaDoor.Kl Go.Proofs.YtkjhpjgdcjccjaaDoor.Kp Go.Proofs.YtkjhpjgdcjccjaaDoor.Cp Go.Proofs.YtkjhpjgdcjccjaaDoor.Cy Go.Proofs.YtkjhpjgdcjccjaaDoor.Cx Go.ChangeShapes Go.WideShapes Go.ChangeAt Go.RowKit Go.Proofs.YtkjhpjgdcjccjaaDoor.Sl Go.Proofs.YtkjhpjgdcjccjaaDoor.St Go.Proofs.YtkjhpjgdcjccjaaDoor.Ir Go.Proofs.YtkjhpjgdcjccjaaDoor.Dv Go.Proofs.YtkjhpjgdcjccjaaDoor.Cr Go.Proofs.YtkjhpjgdcjccjaaDoor.Cu
set_option linter.unusedVariables false
set_option maxRecDepth 100000
set_option maxHeartbeats 4000000 in
theorem walk_main (a : Option Addr) (n c : Nat) (b : Option Addr) (m d : Nat) (l : Int) (q : Bool) (D : Dev) (t M : Int) (w : World) (L : Lost w) (s : SeesD w a n c b m d l q D) (ht : -9223372036854775808 ≤ t ∧ t ≤ 9223372036854775807) (hM : 0 ≤ M ∧ M < 18446744073709551616) (hg : greatD n m = false)
    (X Y : Dev) (Z : List Int) (k : Nat) (r r' : Int) (HX : Hid (armR D t = X)) (HE : Hid (armE D t = r)) (HY : Hid (crashR D M = Y)) (HZ : Hid (chosR D M = Z)) (HK : Hid (Z.length = k)) (HC : Hid (chk D = r')) :
    Calls Tryd.prog 4 #[dev a n c b m d l q, .int .i64 t, .int .u64 M] w fun e w' => e = .returned (.bool true) ∧ Below w.heap.size w w' := by
  have HT := Lib.hid ht
  have C := below_new (o := box a n c b m d l q) (Below.refl w.heap.size w)
  have Hd := Var.new s
  go_enter Tryd.func4, Tryd.ntmps4
  go_wp2_with fail
  refine (rgreat_any _ _ _ _ _ _ _ _ _ s.dl.short).mono ?_
  rintro e w1 ⟨rfl, b1⟩
  replace Hd := Hd.keep b1
  replace C := below_then C b1
  rw [hg]
  have tx := Hd.box.lt
  obtain ⟨x0, x1, x2, x3⟩ := Hd.cells
  go_wp2_with fail
  refine (twin_v _ _ _ _ _ _ _ _ D _ Hd.sees).mono ?_
  rintro e w2 ⟨a2, n2, c2, g2, m2, d2, l2, q2, rfl, S2, b2⟩
  replace Hd := Hd.keep b2
  replace C := below_then C b2
  have Ndo := Lib.hid (Nat.ne_of_lt Hd.box.lt)
  have Bo : Hid (w.heap.size ≤ w2.heap.size) := Lib.hid C.size
  have Ho := Var.new S2
  have n2' : Below w2.heap.size w2 (w2.alloc (box a2 n2 c2 g2 m2 d2 l2 q2)) := below_new (Below.refl _ _)
  replace Hd := Hd.keep n2'
  replace C := below_then C n2'
  clear S2
  clear tx x0 x1 x2 x3
  go_wp2_with fail
  refine (arm_v _ _ _ _ _ _ _ _ D t _ Ho.sees ht X HX.out r HE.out).mono ?_
  rintro e w3 ⟨a3, n3, c3, g3, m3, d3, l3, q3, rfl, S3, b3⟩
  replace Hd := Hd.keep b3
  replace Ho := Ho.keep b3
  replace C := below_then C b3
  have Nda := Lib.hid (Nat.ne_of_lt Hd.box.lt)
  have Noa := Lib.hid (Nat.ne_of_lt Ho.box.lt)
  have Ba : Hid (w.heap.size ≤ w3.heap.size) := Lib.hid C.size
  have Ha := Var.new S3
  have n3' : Below w3.heap.size w3 (w3.alloc (box a3 n3 c3 g3 m3 d3 l3 q3)) := below_new (Below.refl _ _)
  replace Hd := Hd.keep n3'
  replace Ho := Ho.keep n3'
  replace C := below_then C n3'
  clear S3
  have tx := Hd.box.lt
  obtain ⟨x0, x1, x2, x3⟩ := Hd.cells
  go_wp2_with fail
  refine (rarm_v _ _ _ _ _ _ _ _ D t _ Hd.sees ht X HX.out r HE.out).mono ?_
  rintro e w4 ⟨a4, n4, c4, g4, m4, d4, l4, q4, rfl, S4, b4⟩
  replace Hd := Hd.keep b4
  replace Ho := Ho.keep b4
  replace Ha := Ha.keep b4
  replace C := below_then C b4
  have Ndb := Lib.hid (Nat.ne_of_lt Hd.box.lt)
  have Nob := Lib.hid (Nat.ne_of_lt Ho.box.lt)
  have Nab := Lib.hid (Nat.ne_of_lt Ha.box.lt)
  have Bb : Hid (w.heap.size ≤ w4.heap.size) := Lib.hid C.size
  have Hb := Var.new S4
  have n4' : Below w4.heap.size w4 (w4.alloc (box a4 n4 c4 g4 m4 d4 l4 q4)) := below_new (Below.refl _ _)
  replace Hd := Hd.keep n4'
  replace Ho := Ho.keep n4'
  replace Ha := Ha.keep n4'
  replace C := below_then C n4'
  clear S4
  clear tx x0 x1 x2 x3
  have tx := Ho.box.lt
  obtain ⟨x0, x1, x2, x3⟩ := Ho.cells
  go_wp2_with fail
  refine (crash_v _ _ _ _ _ _ _ _ D M _ Ho.sees hM (L.keep C) Y HY.out r' HC.out).mono ?_
  rintro e w5 ⟨a5, n5, c5, g5, m5, d5, l5, q5, rfl, S5, b5⟩
  replace Hd := Hd.keep b5
  replace Ho := Ho.keep b5
  replace Ha := Ha.keep b5
  replace Hb := Hb.keep b5
  replace C := below_then C b5
  have Ndx := Lib.hid (Nat.ne_of_lt Hd.box.lt)
  have Nox := Lib.hid (Nat.ne_of_lt Ho.box.lt)
  have Nax := Lib.hid (Nat.ne_of_lt Ha.box.lt)
  have Nbx := Lib.hid (Nat.ne_of_lt Hb.box.lt)
  have Bx : Hid (w.heap.size ≤ w5.heap.size) := Lib.hid C.size
  have Hx := Var.new S5
  have n5' : Below w5.heap.size w5 (w5.alloc (box a5 n5 c5 g5 m5 d5 l5 q5)) := below_new (Below.refl _ _)
  replace Hd := Hd.keep n5'
  replace Ho := Ho.keep n5'
  replace Ha := Ha.keep n5'
  replace Hb := Hb.keep n5'
  replace C := below_then C n5'
  clear S5
  clear tx x0 x1 x2 x3
  have tx := Hd.box.lt
  obtain ⟨x0, x1, x2, x3⟩ := Hd.cells
  go_wp2_with fail
  refine (rcrash_v _ _ _ _ _ _ _ _ D M _ Hd.sees hM Y HY.out r' HC.out).mono ?_
  rintro e w6 ⟨a6, n6, c6, g6, m6, d6, l6, q6, rfl, S6, b6⟩
  replace Hd := Hd.keep b6
  replace Ho := Ho.keep b6
  replace Ha := Ha.keep b6
  replace Hb := Hb.keep b6
  replace Hx := Hx.keep b6
  replace C := below_then C b6
  have Ndy := Lib.hid (Nat.ne_of_lt Hd.box.lt)
  have Noy := Lib.hid (Nat.ne_of_lt Ho.box.lt)
  have Nay := Lib.hid (Nat.ne_of_lt Ha.box.lt)
  have Nby := Lib.hid (Nat.ne_of_lt Hb.box.lt)
  have Nxy := Lib.hid (Nat.ne_of_lt Hx.box.lt)
  have By : Hid (w.heap.size ≤ w6.heap.size) := Lib.hid C.size
  have Hy := Var.new S6
  have n6' : Below w6.heap.size w6 (w6.alloc (box a6 n6 c6 g6 m6 d6 l6 q6)) := below_new (Below.refl _ _)
  replace Hd := Hd.keep n6'
  replace Ho := Ho.keep n6'
  replace Ha := Ha.keep n6'
  replace Hb := Hb.keep n6'
  replace Hx := Hx.keep n6'
  replace C := below_then C n6'
  clear S6
  clear tx x0 x1 x2 x3
  have tx := Ho.box.lt
  obtain ⟨x0, x1, x2, x3⟩ := Ho.cells
  go_wp2_with fail
  refine (chosen_v _ _ _ _ _ _ _ _ D M _ Ho.sees hM (L.keep C) Z HZ.out k HK.out r' HC.out).mono ?_
  rintro e w7 ⟨a7, c7, rfl, Zl, b7⟩
  replace Hd := Hd.keep b7
  replace Ho := Ho.keep b7
  replace Ha := Ha.keep b7
  replace Hb := Hb.keep b7
  replace Hx := Hx.keep b7
  replace Hy := Hy.keep b7
  replace C := below_then C b7
  clear tx x0 x1 x2 x3
  have tx := Hd.box.lt
  obtain ⟨x0, x1, x2, x3⟩ := Hd.cells
  go_wp2_with fail
  refine (rchosen_v _ _ _ _ _ _ _ _ D M _ Hd.sees hM Z HZ.out k HK.out r' HC.out).mono ?_
  rintro e w8 ⟨a8, c8, rfl, Zm, b8⟩
  replace Hd := Hd.keep b8
  replace Ho := Ho.keep b8
  replace Ha := Ha.keep b8
  replace Hb := Hb.keep b8
  replace Hx := Hx.keep b8
  replace Hy := Hy.keep b8
  replace Zl := Zl.keep b8
  replace C := below_then C b8
  clear tx x0 x1 x2 x3
  have tx := Ha.box.lt
  obtain ⟨x0, x1, x2, x3⟩ := Ha.cells
  have tz := Hb.box.lt
  obtain ⟨z0, z1, z2, z3⟩ := Hb.cells
  go_wp2_with fail
  refine (same_selfD _ _ _ _ _ _ _ _ _ _ _ _ _ _ _ _ X _ Ha.sees Hb.sees).mono ?_
  rintro e w9 ⟨rfl, b9⟩
  replace Hd := Hd.keep b9
  replace Ho := Ho.keep b9
  replace Ha := Ha.keep b9
  replace Hb := Hb.keep b9
  replace Hx := Hx.keep b9
  replace Hy := Hy.keep b9
  replace Zl := Zl.keep b9
  replace Zm := Zm.keep b9
  replace C := below_then C b9
  clear tx x0 x1 x2 x3 tz z0 z1 z2 z3
  have tx := Hx.box.lt
  obtain ⟨x0, x1, x2, x3⟩ := Hx.cells
  have tz := Hy.box.lt
  obtain ⟨z0, z1, z2, z3⟩ := Hy.cells
  go_wp2_with fail
  refine (same_selfD _ _ _ _ _ _ _ _ _ _ _ _ _ _ _ _ Y _ Hx.sees Hy.sees).mono ?_
  rintro e w10 ⟨rfl, b10⟩
  replace Hd := Hd.keep b10
  replace Ho := Ho.keep b10
  replace Ha := Ha.keep b10
  replace Hb := Hb.keep b10
  replace Hx := Hx.keep b10
  replace Hy := Hy.keep b10
  replace Zl := Zl.keep b10
  replace Zm := Zm.keep b10
  replace C := below_then C b10
  clear tx x0 x1 x2 x3 tz z0 z1 z2 z3
  go_wp2_with fail
  refine (sameInts_self _ _ _ _ _ _ Z _ Zl Zm).mono ?_
  rintro e w11 ⟨rfl, b11⟩
  replace Hd := Hd.keep b11
  replace Ho := Ho.keep b11
  replace Ha := Ha.keep b11
  replace Hb := Hb.keep b11
  replace Hx := Hx.keep b11
  replace Hy := Hy.keep b11
  replace Zl := Zl.keep b11
  replace Zm := Zm.keep b11
  replace C := below_then C b11
  have tx := Ho.box.lt
  obtain ⟨x0, x1, x2, x3⟩ := Ho.cells
  have tz := Hd.box.lt
  obtain ⟨z0, z1, z2, z3⟩ := Hd.cells
  go_wp2_with fail
  refine (same_selfD _ _ _ _ _ _ _ _ _ _ _ _ _ _ _ _ D _ Ho.sees Hd.sees).mono ?_
  rintro e we ⟨rfl, be⟩
  go_wp2
  go_ret
  exact ⟨rfl, below_then C be⟩
set_option maxHeartbeats 4000000 in
theorem walk (a : Option Addr) (n c : Nat) (b : Option Addr) (m d : Nat) (l : Int) (q : Bool) (D : Dev) (t M : Int) (ht : -9223372036854775808 ≤ t ∧ t ≤ 9223372036854775807) (hM : 0 ≤ M ∧ M < 18446744073709551616) (w : World) (L : Lost w) (s : SeesD w a n c b m d l q D) :
    Calls Tryd.prog 4 #[dev a n c b m d l q, .int .i64 t, .int .u64 M] w fun e w' => e = .returned (.bool true) ∧ Below w.heap.size w w' := by
  by_cases hg : greatD n m = true
  · go_enter Tryd.func4, Tryd.ntmps4
    go_wp2_with fail
    refine (rgreat_any _ _ _ _ _ _ _ _ _ s.dl.short).mono ?_
    rintro e w1 ⟨rfl, b1⟩
    rw [hg]
    go_wp2
    go_ret
    exact ⟨rfl, below_then (below_new (o := box a n c b m d l q) (Below.refl w.heap.size w)) b1⟩
  · exact walk_main a n c b m d l q D t M w L s ht hM (by simpa using hg) _ _ _ _ _ _ (Lib.hid rfl) (Lib.hid rfl) (Lib.hid rfl) (Lib.hid rfl) (Lib.hid rfl) (Lib.hid rfl)

/-! The row's step. -/
set_option maxRecDepth 100000 in
theorem lifted (os : Os) (started : os.Started) (H : Type) (enc : TypeId × Value → H) :
    ReturnsInHanded {} Tryd.checked os 4 .any (fun w args => (Rows.crashTellsSpec.pre enc Tryd.prog Tryd.f4 [] false w args ∧ laidMetH Tryd.prog Kp.laid1 w) ∧ sizedMet enc Tryd.prog Tryd.f4 (OpenSpec.ofChange Rows.crashTellsSpec) false w args) (Rows.crashTellsSpec.post enc Tryd.prog Tryd.f4 false true false false) := by
  refine returnsInHanded_of_change_and (C := Tryd.checked) (X := fun w _ => laidMetH Tryd.prog Kp.laid1 w) (fun _ _ _ hh h => h.of_heap hh) St.own started (by kernel_rfl) Tryd.func4
    (ChangeSpec.witness_shaped (enc := enc) (C := Tryd.checked) (os := os) (X := fun w _ => laidMetH Tryd.prog Kp.laid1 w) false (World.doorLaid Tryd.prog 400 os) #[.agg #[.slice .none 0 0, .slice .none 0 0, .int .i64 0, .bool false], .int .i64 0, .int .u64 0] 8 rfl (World.shaped_of_RefB (by kernel_rfl) (by kernel_rfl)) (by kernel_rfl) (by kernel_rfl) (by kernel_rfl) (Kp.door_met os _)) ?_
  intro W base args ds gs before hval0 hW hcnd hsz0 hL _
  have hsz : (DataW.weightsEach Tryd.prog (Tryd.f4.params.toList ++ Rows.crashTellsSpec.plain.varTypes Tryd.prog) (ds ++ gs)).all (· ≤ reachBytes) = true := hsz0
  have hval : ∀ (j : Nat) t v, Tryd.f4.params[j]? = some t → args[j]? = some v → Value.okWide Tryd.prog W .any base t v := hval0
  have hW' := hW
  obtain ⟨p, q, hA0, hV, rfl, hfz, hnd⟩ := hW
  have hA : DataW.TrodAll enc Tryd.prog W 0 (fun _ => true) true Tryd.f4.params.toList args.toList ds p := hA0
  rw [Tryd.params4] at hA hval hsz
  obtain ⟨v0, vs0, d0, ds0, p0, q0, hargs, rfl, rfl, h0, r0⟩ := trodAll_cons hA
  obtain ⟨v1, vs1, d1, ds1, p1, q1, rfl, rfl, rfl, h1, r1⟩ := trodAll_cons r0
  obtain ⟨v2, vs2, d2, ds2, p2, q2, rfl, rfl, rfl, h2, r2⟩ := trodAll_cons r1
  obtain ⟨rfl, rfl, rfl⟩ := trodAll_nil r2
  obtain rfl : args = #[v0, v1, v2] := by cases args; simp_all
  obtain ⟨a0, n0, c0, b0, m0, e0, l0, b0', D0, rfl, s0⟩ := Dv.open_dev (hval 0 25 v0 rfl rfl) h0 (fun n hn => by
    have := List.all_eq_true.1 hsz _ (DataW.weights_mem_each (j := 0) (t := 25) rfl rfl n hn)
    exact of_decide_eq_true this)
  obtain ⟨a1, rfl, rfl, rfl, w1⟩ := open_int Tryd.underlying3 (hval 1 3 v1 rfl rfl) h1
  obtain ⟨a2, rfl, rfl, rfl, w2⟩ := open_int Tryd.underlying30 (hval 2 30 v2 rfl rfl) h2
  refine (walk a0 n0 c0 b0 m0 e0 l0 b0' D0 a1 a2 (St.i64_of_wf w1) (St.u64_of_wf w2) W (Kp.lost_of_laid hL) s0).mono fun e W' ⟨he, hb⟩ => ?_
  subst he
  exact St.law_done St.laid (by kernel_rfl) rfl rfl Tryd.underlying4 rfl hW' hb

theorem over : Rows.crashTellsRow.holds Tryd.pinned (OpenSpec.ofChange Rows.crashTellsSpec) :=
  OpenClaim.holds_of_wide 4 Tryd.f4 rfl rfl rfl rfl rfl rfl rfl ⟨rfl, rfl, rfl, rfl, rfl⟩ rfl rfl rfl rfl rfl (by kernel_rfl) Tryd.func4 (by kernel_rfl)
    (of_decide_eq_true (by kernel_rfl)) (by unfold Func.isWrapper; first | (rw [if_pos (by decide +kernel)]; kernel_rfl) | (rw [if_neg (by decide +kernel)]; exact ⟨rfl, rfl⟩))
    (fun os started H enc _ => lifted os started H enc)
theorem proved : Rows.CrashTellsCardSaid :=
  Claim7.holds_tied_plain_at .later [] [.data] true Rows.crashTellsCard.stood.harness false over (fun _ h => by cases h) (by kernel_rfl) (fun _ h => by cases h) crashTells_row_tie rfl ⟨rfl, rfl⟩ (by kernel_rfl) rfl
    (fun f fn hf hfn => by
      obtain rfl : f = 4 := Option.some.inj ((show Tryd.prog.funcNamed "ballast/ballastlaw04.CrashTells" = some 4 by kernel_rfl).symm.trans hf) |>.symm
      obtain rfl : fn = Tryd.f4 := (Option.some.inj (Tryd.func4.symm.trans hfn)).symm
      exact ⟨by kernel_rfl, fun j t ht => by
        rw [Tryd.params4] at ht
        have hm : t ∈ [25, 3, 30] := by simpa using Array.mem_of_getElem? ht
        have hall : ([25, 3, 30].all fun u => !Tryd.prog.wantsStandIn u) = true := by kernel_rfl
        exact (show Tryd.prog.wantsStandIn t = false by simpa using List.all_eq_true.1 hall t hm)⟩)
    (by kernel_rfl)
#print axioms proved
end Go.Proofs.YtkjhpjgdcjccjaaDoor.crashTells

