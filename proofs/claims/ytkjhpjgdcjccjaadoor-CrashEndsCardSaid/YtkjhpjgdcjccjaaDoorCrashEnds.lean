/-
  The law CrashEnds returns true for every device and two masks; no condition but that the program's own variable for a lost word starts as its text lays it (the card ties it).
-/
import Derived.Test.YtkjhpjgdcjccjaaDoorKlaw
import Derived.Test.YtkjhpjgdcjccjaaDoorKlaid
import Derived.Test.YtkjhpjgdcjccjaaDoorDevOpen
import Derived.SizedLaws
namespace Go.Proofs.YtkjhpjgdcjccjaaDoor.crashEnds
open Go.Proofs.YtkjhpjgdcjccjaaDoor.Kl Go.Proofs.YtkjhpjgdcjccjaaDoor.Kp Go.Proofs.YtkjhpjgdcjccjaaDoor.Cp Go.Proofs.YtkjhpjgdcjccjaaDoor.Cy Go.Proofs.YtkjhpjgdcjccjaaDoor.Cx Go.ChangeShapes Go.WideShapes Go.ChangeAt Go.RowKit Go.Proofs.YtkjhpjgdcjccjaaDoor.Sl Go.Proofs.YtkjhpjgdcjccjaaDoor.St Go.Proofs.YtkjhpjgdcjccjaaDoor.Ir Go.Proofs.YtkjhpjgdcjccjaaDoor.Dv Go.Proofs.YtkjhpjgdcjccjaaDoor.Cr Go.Proofs.YtkjhpjgdcjccjaaDoor.Cu
set_option linter.unusedVariables false
set_option maxRecDepth 100000
set_option maxHeartbeats 4000000 in
theorem walk_main (a : Option Addr) (n c : Nat) (b : Option Addr) (m d : Nat) (l : Int) (q : Bool) (D : Dev) (M N : Int) (w : World) (L : Lost w) (s : SeesD w a n c b m d l q D) (hok : okD D = true) (hM : 0 ≤ M ∧ M < 18446744073709551616) (hN : 0 ≤ N ∧ N < 18446744073709551616) (hg : greatD n m = false)
    (A B X : Dev) (V : List Int) (HA : Hid (crashD D 18446744073709551615 = A)) (HB : Hid (crashD D 0 = B)) (HV : Hid (wordsL D.im D.dl = V)) (HX : Hid (crashD D M = X)) (HY : Hid (crashD X N = X)) (OX : Hid (okD X = true)) (HAV : Hid (A.im = V)) (HBD : Hid (B.im = D.im)) :
    Calls Tryd.prog 6 #[dev a n c b m d l q, .int .u64 M, .int .u64 N] w fun e w' => e = .returned (.bool true) ∧ Below w.heap.size w w' := by
  have HOK := Lib.hid hok
  have HC := Lib.hid (chk_ok hok)
  clear hok
  have C := below_new (o := box a n c b m d l q) (Below.refl w.heap.size w)
  have Hd := Var.new s
  go_enter Tryd.func6, Tryd.ntmps6
  go_wp2_with fail
  refine (rgreat_any _ _ _ _ _ _ _ _ _ s.dl.short).mono ?_
  rintro e w1 ⟨rfl, b1⟩
  replace Hd := Hd.keep b1
  replace C := below_then C b1
  rw [hg]
  have tx := Hd.box.lt
  obtain ⟨x0, x1, x2, x3⟩ := Hd.cells
  go_wp2_with fail
  refine (chk_b _ _ _ _ _ _ _ _ D _ Hd.sees).mono ?_
  rintro e w2 ⟨rfl, b2⟩
  replace Hd := Hd.keep b2
  replace C := below_then C b2
  rw [HC.out]
  clear tx x0 x1 x2 x3
  have tx := Hd.box.lt
  obtain ⟨x0, x1, x2, x3⟩ := Hd.cells
  go_wp2_with fail
  all_goals first | (exfalso; omega) | skip
  refine (crash_x _ _ _ _ _ _ _ _ D 18446744073709551615 _ Hd.sees HOK.out (by decide) (L.keep C) A HA.out).mono ?_
  rintro e w3 ⟨a3, c3, g3, d3, rfl, S3, b3⟩
  replace Hd := Hd.keep b3
  replace C := below_then C b3
  have Nda := Lib.hid (Nat.ne_of_lt Hd.box.lt)
  have Ba : Hid (w.heap.size ≤ w3.heap.size) := Lib.hid C.size
  have Ha := Var.new S3
  have n3' : Below w3.heap.size w3 (w3.alloc (box a3 n c3 g3 0 d3 (-1) false)) := below_new (Below.refl _ _)
  replace Hd := Hd.keep n3'
  replace C := below_then C n3'
  clear S3
  clear tx x0 x1 x2 x3
  have tx := Hd.box.lt
  obtain ⟨x0, x1, x2, x3⟩ := Hd.cells
  go_wp2_with fail
  refine (crash_x _ _ _ _ _ _ _ _ D 0 _ Hd.sees HOK.out (by decide) (L.keep C) B HB.out).mono ?_
  rintro e w4 ⟨a4, c4, g4, d4, rfl, S4, b4⟩
  replace Hd := Hd.keep b4
  replace Ha := Ha.keep b4
  replace C := below_then C b4
  have Ndz := Lib.hid (Nat.ne_of_lt Hd.box.lt)
  have Naz := Lib.hid (Nat.ne_of_lt Ha.box.lt)
  have Bz : Hid (w.heap.size ≤ w4.heap.size) := Lib.hid C.size
  have Hz := Var.new S4
  have n4' : Below w4.heap.size w4 (w4.alloc (box a4 n c4 g4 0 d4 (-1) false)) := below_new (Below.refl _ _)
  replace Hd := Hd.keep n4'
  replace Ha := Ha.keep n4'
  replace C := below_then C n4'
  clear S4
  clear tx x0 x1 x2 x3
  have tx := Hd.box.lt
  obtain ⟨x0, x1, x2, x3⟩ := Hd.cells
  go_wp2_with fail
  refine (view_x _ _ _ _ _ _ _ _ D _ Hd.sees HOK.out V HV.out).mono ?_
  rintro e w5 ⟨a5, c5, rfl, Zv, b5⟩
  replace Hd := Hd.keep b5
  replace Ha := Ha.keep b5
  replace Hz := Hz.keep b5
  replace C := below_then C b5
  clear tx x0 x1 x2 x3
  have tx := Hd.box.lt
  obtain ⟨x0, x1, x2, x3⟩ := Hd.cells
  go_wp2_with fail
  refine (crash_x _ _ _ _ _ _ _ _ D M _ Hd.sees HOK.out hM (L.keep C) X HX.out).mono ?_
  rintro e w6 ⟨a6, c6, g6, d6, rfl, S6, b6⟩
  replace Hd := Hd.keep b6
  replace Ha := Ha.keep b6
  replace Hz := Hz.keep b6
  replace Zv := Zv.keep b6
  replace C := below_then C b6
  have Ndx := Lib.hid (Nat.ne_of_lt Hd.box.lt)
  have Nax := Lib.hid (Nat.ne_of_lt Ha.box.lt)
  have Nzx := Lib.hid (Nat.ne_of_lt Hz.box.lt)
  have Bx : Hid (w.heap.size ≤ w6.heap.size) := Lib.hid C.size
  have Hx := Var.new S6
  have n6' : Below w6.heap.size w6 (w6.alloc (box a6 n c6 g6 0 d6 (-1) false)) := below_new (Below.refl _ _)
  replace Hd := Hd.keep n6'
  replace Ha := Ha.keep n6'
  replace Hz := Hz.keep n6'
  replace Zv := Zv.keep n6'
  replace C := below_then C n6'
  clear S6
  clear tx x0 x1 x2 x3
  go_wp2_with fail
  refine (crash_x _ _ _ _ _ _ _ _ X N _ Hx.sees OX.out hN (L.keep C) X HY.out).mono ?_
  rintro e w7 ⟨a7, c7, g7, d7, rfl, S7, b7⟩
  replace Hd := Hd.keep b7
  replace Ha := Ha.keep b7
  replace Hz := Hz.keep b7
  replace Hx := Hx.keep b7
  replace Zv := Zv.keep b7
  replace C := below_then C b7
  have Ndy := Lib.hid (Nat.ne_of_lt Hd.box.lt)
  have Nay := Lib.hid (Nat.ne_of_lt Ha.box.lt)
  have Nzy := Lib.hid (Nat.ne_of_lt Hz.box.lt)
  have Nxy := Lib.hid (Nat.ne_of_lt Hx.box.lt)
  have By : Hid (w.heap.size ≤ w7.heap.size) := Lib.hid C.size
  have Hy := Var.new S7
  have n7' : Below w7.heap.size w7 (w7.alloc (box a7 n c7 g7 0 d7 (-1) false)) := below_new (Below.refl _ _)
  replace Hd := Hd.keep n7'
  replace Ha := Ha.keep n7'
  replace Hz := Hz.keep n7'
  replace Hx := Hx.keep n7'
  replace Zv := Zv.keep n7'
  replace C := below_then C n7'
  clear S7
  have tx := Ha.box.lt
  obtain ⟨x0, x1, x2, x3⟩ := Ha.cells
  go_wp2_with fail
  refine (same_eq4 _ _ _ _ _ _ _ _ _ Ha.sees.im Zv HAV.out).mono ?_
  rintro e w8 ⟨rfl, b8⟩
  replace Hd := Hd.keep b8
  replace Ha := Ha.keep b8
  replace Hz := Hz.keep b8
  replace Hx := Hx.keep b8
  replace Hy := Hy.keep b8
  replace Zv := Zv.keep b8
  replace C := below_then C b8
  clear tx x0 x1 x2 x3
  have tx := Hz.box.lt
  obtain ⟨x0, x1, x2, x3⟩ := Hz.cells
  have tz := Hd.box.lt
  obtain ⟨z0, z1, z2, z3⟩ := Hd.cells
  go_wp2_with fail
  refine (same_eq4 _ _ _ _ _ _ _ _ _ Hz.sees.im Hd.sees.im HBD.out).mono ?_
  rintro e w9 ⟨rfl, b9⟩
  replace Hd := Hd.keep b9
  replace Ha := Ha.keep b9
  replace Hz := Hz.keep b9
  replace Hx := Hx.keep b9
  replace Hy := Hy.keep b9
  replace Zv := Zv.keep b9
  replace C := below_then C b9
  clear tx x0 x1 x2 x3 tz z0 z1 z2 z3
  have tx := Hx.box.lt
  obtain ⟨x0, x1, x2, x3⟩ := Hx.cells
  have tz := Hy.box.lt
  obtain ⟨z0, z1, z2, z3⟩ := Hy.cells
  go_wp2_with fail
  refine (same_selfD _ _ _ _ _ _ _ _ _ _ _ _ _ _ _ _ X _ Hx.sees Hy.sees).mono ?_
  rintro e w10 ⟨rfl, b10⟩
  replace Hd := Hd.keep b10
  replace Ha := Ha.keep b10
  replace Hz := Hz.keep b10
  replace Hx := Hx.keep b10
  replace Hy := Hy.keep b10
  replace Zv := Zv.keep b10
  replace C := below_then C b10
  clear tx x0 x1 x2 x3 tz z0 z1 z2 z3
  go_wp2_with fail
  refine (live_any _ (L.keep C)).mono ?_
  rintro e wb ⟨rfl, bb⟩
  go_wp2
  go_ret
  exact ⟨rfl, below_then C bb⟩
set_option maxHeartbeats 4000000 in
theorem walk_guard (a : Option Addr) (n c : Nat) (b : Option Addr) (m d : Nat) (l : Int) (q : Bool) (D : Dev) (M N : Int) (w : World) (L : Lost w) (s : SeesD w a n c b m d l q D) (hg : greatD n m = true ∨ (greatD n m = false ∧ okD D = false)) :
    Calls Tryd.prog 6 #[dev a n c b m d l q, .int .u64 M, .int .u64 N] w fun e w' => e = .returned (.bool true) ∧ Below w.heap.size w w' := by
  have C := below_new (o := box a n c b m d l q) (Below.refl w.heap.size w)
  have Hd := Var.new s
  have hnt := s.im.top
  have hmt := s.dl.short
  rcases hg with hg | ⟨hg, hok⟩
  · go_enter Tryd.func6, Tryd.ntmps6
    go_wp2_with fail
    refine (rgreat_any _ _ _ _ _ _ _ _ _ s.dl.short).mono ?_
    rintro e w1 ⟨rfl, b1⟩
    replace C := below_then C b1
    rw [hg]
    go_wp2_with fail
    refine (live_any _ (L.keep C)).mono ?_
    rintro e wb ⟨rfl, bb⟩
    go_wp2
    go_ret
    exact ⟨rfl, below_then C bb⟩
  · have hc : chk D = 8 := chk_bad (by rw [hok]; decide)
    go_enter Tryd.func6, Tryd.ntmps6
    go_wp2_with fail
    refine (rgreat_any _ _ _ _ _ _ _ _ _ s.dl.short).mono ?_
    rintro e w1 ⟨rfl, b1⟩
    replace C := below_then C b1
    rw [hg]
    replace Hd := Hd.keep b1
    have td := Hd.box.lt
    obtain ⟨x0, x1, x2, x3⟩ := Hd.cells
    go_wp2_with fail
    refine (chk_b _ _ _ _ _ _ _ _ D _ Hd.sees).mono ?_
    rintro e w2 ⟨rfl, b2⟩
    replace C := below_then C b2
    rw [hc]
    go_wp2_with fail
    refine (live_any _ (L.keep C)).mono ?_
    rintro e wb ⟨rfl, bb⟩
    go_wp2
    go_ret
    exact ⟨rfl, below_then C bb⟩
theorem walk (a : Option Addr) (n c : Nat) (b : Option Addr) (m d : Nat) (l : Int) (q : Bool) (D : Dev) (M N : Int) (hM : 0 ≤ M ∧ M < 18446744073709551616) (hN : 0 ≤ N ∧ N < 18446744073709551616) (w : World) (L : Lost w) (s : SeesD w a n c b m d l q D) :
    Calls Tryd.prog 6 #[dev a n c b m d l q, .int .u64 M, .int .u64 N] w fun e w' => e = .returned (.bool true) ∧ Below w.heap.size w w' := by
  by_cases hg : greatD n m = true
  · exact walk_guard a n c b m d l q D M N w L s (.inl hg)
  · have hg' : greatD n m = false := by simpa using hg
    by_cases hok : okD D = true
    · exact walk_main a n c b m d l q D M N w L s hok hM hN hg' _ _ _ _ (Lib.hid rfl) (Lib.hid rfl) (Lib.hid rfl) (Lib.hid rfl) (Lib.hid (crash_crash D M N)) (Lib.hid (ok_crash hok)) (Lib.hid (crash_ones D.im D.dl)) (Lib.hid (crash_none D.im D.dl D.dl.length))
    · exact walk_guard a n c b m d l q D M N w L s (.inr ⟨hg', by simpa using hok⟩)

/-! The row's step. -/
set_option maxRecDepth 100000 in
theorem lifted (os : Os) (started : os.Started) (H : Type) (enc : TypeId × Value → H) :
    ReturnsInHanded {} Tryd.checked os 6 .any (fun w args => (Rows.crashEndsSpec.pre enc Tryd.prog Tryd.f6 [] false w args ∧ laidMetH Tryd.prog Kp.laid1 w) ∧ sizedMet enc Tryd.prog Tryd.f6 (OpenSpec.ofChange Rows.crashEndsSpec) false w args) (Rows.crashEndsSpec.post enc Tryd.prog Tryd.f6 false true false false) := by
  refine returnsInHanded_of_change_and (C := Tryd.checked) (X := fun w _ => laidMetH Tryd.prog Kp.laid1 w) (fun _ _ _ hh h => h.of_heap hh) St.own started (by kernel_rfl) Tryd.func6
    (ChangeSpec.witness_shaped (enc := enc) (C := Tryd.checked) (os := os) (X := fun w _ => laidMetH Tryd.prog Kp.laid1 w) false (World.doorLaid Tryd.prog 400 os) #[.agg #[.slice .none 0 0, .slice .none 0 0, .int .i64 0, .bool false], .int .u64 0, .int .u64 0] 8 rfl (World.shaped_of_RefB (by kernel_rfl) (by kernel_rfl)) (by kernel_rfl) (by kernel_rfl) (by kernel_rfl) (Kp.door_met os _)) ?_
  intro W base args ds gs before hval0 hW hcnd hsz0 hL _
  have hsz : (DataW.weightsEach Tryd.prog (Tryd.f6.params.toList ++ Rows.crashEndsSpec.plain.varTypes Tryd.prog) (ds ++ gs)).all (· ≤ reachBytes) = true := hsz0
  have hval : ∀ (j : Nat) t v, Tryd.f6.params[j]? = some t → args[j]? = some v → Value.okWide Tryd.prog W .any base t v := hval0
  have hW' := hW
  obtain ⟨p, q, hA0, hV, rfl, hfz, hnd⟩ := hW
  have hA : DataW.TrodAll enc Tryd.prog W 0 (fun _ => true) true Tryd.f6.params.toList args.toList ds p := hA0
  rw [Tryd.params6] at hA hval hsz
  obtain ⟨v0, vs0, d0, ds0, p0, q0, hargs, rfl, rfl, h0, r0⟩ := trodAll_cons hA
  obtain ⟨v1, vs1, d1, ds1, p1, q1, rfl, rfl, rfl, h1, r1⟩ := trodAll_cons r0
  obtain ⟨v2, vs2, d2, ds2, p2, q2, rfl, rfl, rfl, h2, r2⟩ := trodAll_cons r1
  obtain ⟨rfl, rfl, rfl⟩ := trodAll_nil r2
  obtain rfl : args = #[v0, v1, v2] := by cases args; simp_all
  obtain ⟨a0, n0, c0, b0, m0, e0, l0, b0', D0, rfl, s0⟩ := Dv.open_dev (hval 0 25 v0 rfl rfl) h0 (fun n hn => by
    have := List.all_eq_true.1 hsz _ (DataW.weights_mem_each (j := 0) (t := 25) rfl rfl n hn)
    exact of_decide_eq_true this)
  obtain ⟨a1, rfl, rfl, rfl, w1⟩ := open_int Tryd.underlying30 (hval 1 30 v1 rfl rfl) h1
  obtain ⟨a2, rfl, rfl, rfl, w2⟩ := open_int Tryd.underlying30 (hval 2 30 v2 rfl rfl) h2
  refine (walk a0 n0 c0 b0 m0 e0 l0 b0' D0 a1 a2 (St.u64_of_wf w1) (St.u64_of_wf w2) W (Kp.lost_of_laid hL) s0).mono fun e W' ⟨he, hb⟩ => ?_
  subst he
  exact St.law_done St.laid (by kernel_rfl) rfl rfl Tryd.underlying4 rfl hW' hb

theorem over : Rows.crashEndsRow.holds Tryd.pinned (OpenSpec.ofChange Rows.crashEndsSpec) :=
  OpenClaim.holds_of_wide 6 Tryd.f6 rfl rfl rfl rfl rfl rfl rfl ⟨rfl, rfl, rfl, rfl, rfl⟩ rfl rfl rfl rfl rfl (by kernel_rfl) Tryd.func6 (by kernel_rfl)
    (of_decide_eq_true (by kernel_rfl)) (by unfold Func.isWrapper; first | (rw [if_pos (by decide +kernel)]; kernel_rfl) | (rw [if_neg (by decide +kernel)]; exact ⟨rfl, rfl⟩))
    (fun os started H enc _ => lifted os started H enc)
theorem proved : Rows.CrashEndsCardSaid :=
  Claim7.holds_tied_plain_at .later [] [.data] true Rows.crashEndsCard.stood.harness false over (fun _ h => by cases h) (by kernel_rfl) (fun _ h => by cases h) crashEnds_row_tie rfl ⟨rfl, rfl⟩ (by kernel_rfl) rfl
    (fun f fn hf hfn => by
      obtain rfl : f = 6 := Option.some.inj ((show Tryd.prog.funcNamed "ballast/ballastlaw04.CrashEnds" = some 6 by kernel_rfl).symm.trans hf) |>.symm
      obtain rfl : fn = Tryd.f6 := (Option.some.inj (Tryd.func6.symm.trans hfn)).symm
      exact ⟨by kernel_rfl, fun j t ht => by
        rw [Tryd.params6] at ht
        have hm : t ∈ [25, 30, 30] := by simpa using Array.mem_of_getElem? ht
        have hall : ([25, 30, 30].all fun u => !Tryd.prog.wantsStandIn u) = true := by kernel_rfl
        exact (show Tryd.prog.wantsStandIn t = false by simpa using List.all_eq_true.1 hall t hm)⟩)
    (by kernel_rfl)
#print axioms proved
end Go.Proofs.YtkjhpjgdcjccjaaDoor.crashEnds

