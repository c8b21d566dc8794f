/-
  The law SuperOnce returns true for any words; no condition.
-/
import Derived.Test.YtpildlikebhpjaaDoorSbl
import Derived.Test.YtpildlikebhpjaaDoorSbo
import Derived.Test.YtpildlikebhpjaaDoorGl
namespace Go.Proofs.YtpildlikebhpjaaDoor.superOnce
open Go.ChangeShapes Go.WideShapes Go.ChangeAt Go.RowKit Go.Proofs.YtpildlikebhpjaaDoor.Gv Go.Proofs.YtpildlikebhpjaaDoor.Sb Go.Proofs.YtpildlikebhpjaaDoor.Sl Go.Proofs.YtpildlikebhpjaaDoor.St Go.Proofs.YtpildlikebhpjaaDoor.Bits Go.Proofs.YtpildlikebhpjaaDoor.Wd Go.Proofs.YtpildlikebhpjaaDoor.Su Go.Proofs.YtpildlikebhpjaaDoor.Ir
set_option linter.unusedVariables false
set_option maxRecDepth 100000

set_option maxHeartbeats 1000000 in
theorem walk (a : Option Addr) (n c : Nat) (xs : List Int) (w : World) (L : NoSb w) (va : Sees w .u64 a n c xs) (hc : c ≤ 17592186044416) :
    Calls Tryd.prog 6 #[.slice a n c] w fun e w' => e = .returned (.bool true) ∧ Below w.heap.size w w' := by
  have hlx := va.len
  have htop := va.top
  by_cases hn : 20 < n
  · go_enter Tryd.func6, Tryd.ntmps6
    go_wp2_with fail
    refine (alive_any _ L).mono ?_
    rintro e w6 ⟨rfl, b6⟩
    go_wp2
    go_ret
    exact ⟨rfl, b6⟩
  · rcases read_three xs with ⟨h8, hR⟩ | ⟨h8, hR⟩ | ⟨W, T, hg, hX, hR⟩
    · replace hR := Lib.hid hR
      have hn8 : ¬ (n : Int) = 8 := by omega
      go_enter Tryd.func6, Tryd.ntmps6
      go_wp2_with fail
      refine (read_x _ _ _ _ _ va L 2 0 0 hR.out).mono ?_
      rintro e w1 ⟨rfl, b1⟩
      go_wp2_with fail
      refine (alive_any _ (L.keep (below_new b1))).mono ?_
      rintro e w6 ⟨rfl, b6⟩
      go_wp2
      go_ret
      exact ⟨rfl, below_then (below_new b1) b6⟩
    · replace hR := Lib.hid hR
      obtain rfl : n = 8 := by omega
      go_enter Tryd.func6, Tryd.ntmps6
      go_wp2_with fail
      refine (read_x _ _ _ _ _ va L 50 0 0 hR.out).mono ?_
      rintro e w1 ⟨rfl, b1⟩
      go_wp2_with fail
      refine (alive_any _ (L.keep (below_new b1))).mono ?_
      rintro e w6 ⟨rfl, b6⟩
      go_wp2
      go_ret
      exact ⟨rfl, below_then (below_new b1) b6⟩
    · replace hR := Lib.hid hR
      have E := Lib.hid (bad_ok hg)
      have hb := good_bd hg
      have hX' := Lib.hid hX
      have HF := Lib.hid (show ∀ x ∈ xs, (Lit.int .u64 x).wf = true from va.wf)
      clear hX
      obtain rfl : n = 8 := by
        have := hX'.out
        rw [← hlx, this]
        rfl
      go_enter Tryd.func6, Tryd.ntmps6
      go_wp2_with fail
      refine (read_x _ _ _ _ _ va L 0 W T hR.out).mono ?_
      rintro e w1 ⟨rfl, b1⟩
      have C1 := below_new (o := .cells #[.int .i64 W, .int .i64 T] 23) b1
      have X1 := Box.new w1 #[.int .i64 W, .int .i64 T] 23
      have V1 := va.keep C1
      go_wp2_with fail
      refine (write_x W T _ hg xs hX'.out.symm).mono ?_
      rintro e w2 ⟨g2, c2, rfl, hc2, G2⟩
      have C2 := below_then C1 G2.below
      have S2 := grows_look G2 HF.out (by omega)
      have V2 := V1.keep G2.below
      have X2 := X1.keep G2.below
      go_wp2_with fail
      refine (same_x _ _ _ _ _ _ _ _ _ (by first | exact S2 | exact V2) (by first | exact V2 | exact S2) true (decide_eq_true rfl)).mono ?_
      rintro e w3 ⟨rfl, j, rfl⟩
      have X3 := X2.draws j
      have C3 := below_drewN C2 j
      generalize w2.drewN j = w3 at X3 C3 ⊢
      have x0 : w3.cell? ⟨w1.heap.size, 0, none⟩ = some (.int .i64 W) := X3.cell 0
      have x1 : w3.cell? ⟨w1.heap.size, 1, none⟩ = some (.int .i64 T) := X3.cell 1
      go_wp2_with fail
      refine (rcheck_x W T _ ⟨by omega, by omega⟩ 0 E.out).mono ?_
      rintro e w4 ⟨rfl, b4⟩
      go_wp2_with fail
      refine (alive_any _ (L.keep (below_then C3 b4))).mono ?_
      rintro e w6 ⟨rfl, b6⟩
      go_wp2
      go_ret
      exact ⟨rfl, below_then (below_then C3 b4) b6⟩

/-! The row's step. -/
set_option maxRecDepth 100000 in
theorem lifted (os : Os) (started : os.Started) (H : Type) (enc : TypeId × Value → H) :
    ReturnsInHanded {} Tryd.checked os 6 .any (fun w args => (Rows.superOnceSpec.pre enc Tryd.prog Tryd.f6 [] false w args ∧ laidMetH Tryd.prog Gv.laid1 w) ∧ sizedMet enc Tryd.prog Tryd.f6 (OpenSpec.ofChange Rows.superOnceSpec) false w args) (Rows.superOnceSpec.post enc Tryd.prog Tryd.f6 false true false false) := by
  refine returnsInHanded_of_change_and (C := Tryd.checked) (X := fun w _ => laidMetH Tryd.prog Gv.laid1 w) (fun _ _ _ hh h => h.of_heap hh) St.own started (by kernel_rfl) Tryd.func6
    (ChangeSpec.witness_shaped (enc := enc) (C := Tryd.checked) (os := os) (X := fun w _ => laidMetH Tryd.prog Gv.laid1 w) false (World.doorLaid Tryd.prog 400 os) #[.slice .none 0 0] 8 rfl (World.shaped_of_RefB (by kernel_rfl) (by kernel_rfl)) (by kernel_rfl) (by kernel_rfl) (by kernel_rfl) (Gv.door_met os _)) ?_
  intro W base args ds gs before hval0 hW hcnd hsz0 hL _
  have hsz : (DataW.weightsEach Tryd.prog (Tryd.f6.params.toList ++ Rows.superOnceSpec.plain.varTypes Tryd.prog) (ds ++ gs)).all (· ≤ reachBytes) = true := hsz0
  have hval : ∀ (j : Nat) t v, Tryd.f6.params[j]? = some t → args[j]? = some v → Value.okWide Tryd.prog W .any base t v := hval0
  have hW' := hW
  obtain ⟨p, q, hA0, hV, rfl, hfz, hnd⟩ := hW
  have hA : DataW.TrodAll enc Tryd.prog W 0 (fun _ => true) true Tryd.f6.params.toList args.toList ds p := hA0
  rw [Tryd.params6] at hA hval hsz
  obtain ⟨v0, vs0, d0, ds0, p0, q0, hargs, rfl, rfl, h0, r0⟩ := trodAll_cons hA
  obtain ⟨rfl, rfl, rfl⟩ := trodAll_nil r0
  obtain rfl : args = #[v0] := by cases args; simp_all
  have z0 : ∀ es sp, d0 = .slice es sp → (es.length + sp.length) * 8 ≤ 140737488351232 := fun es sp e => by
    have := sized_slice hsz (j := 0) (t := 25) (e := 30) rfl (congrArg some e) Tryd.underlying25
    rw [show Tryd.prog.bytesOf 30 = 8 from by kernel_rfl] at this
    simpa [reachBytes] using this
  obtain ⟨a0, n0, c0, xs0, rfl, s0, t0⟩ := Sl.open_slice Tryd.underlying25 Tryd.underlying30 (by kernel_rfl) (hval 0 25 v0 rfl rfl) h0 z0
  refine (walk a0 n0 c0 xs0 W (Gv.of_laid hL) s0 t0).mono fun e W' ⟨he, hb⟩ => ?_
  subst he
  exact St.law_done St.laid (by kernel_rfl) rfl rfl Tryd.underlying4 rfl hW' hb

theorem over : Rows.superOnceRow.holds Tryd.pinned (OpenSpec.ofChange Rows.superOnceSpec) :=
  OpenClaim.holds_of_wide 6 Tryd.f6 rfl rfl rfl rfl rfl rfl rfl ⟨rfl, rfl, rfl, rfl, rfl⟩ rfl rfl rfl rfl rfl (by kernel_rfl) Tryd.func6 (by kernel_rfl)
    (of_decide_eq_true (by kernel_rfl)) (by unfold Func.isWrapper; first | (rw [if_pos (by decide +kernel)]; kernel_rfl) | (rw [if_neg (by decide +kernel)]; exact ⟨rfl, rfl⟩))
    (fun os started H enc _ => lifted os started H enc)
theorem proved : Rows.SuperOnceCardSaid :=
  Claim7.holds_tied_plain_at .later [] [.data] true Rows.superOnceCard.stood.harness false over (fun _ h => by cases h) (by kernel_rfl) (fun _ h => by cases h) superOnce_row_tie rfl ⟨rfl, rfl⟩ (by kernel_rfl) rfl
    (fun f fn hf hfn => by
      obtain rfl : f = 6 := Option.some.inj ((show Tryd.prog.funcNamed "ballast/ballastlaw06.SuperOnce" = some 6 by kernel_rfl).symm.trans hf) |>.symm
      obtain rfl : fn = Tryd.f6 := (Option.some.inj (Tryd.func6.symm.trans hfn)).symm
      exact ⟨by kernel_rfl, fun j t ht => by
        rw [Tryd.params6] at ht
        have hm : t ∈ [25] := by simpa using Array.mem_of_getElem? ht
        have hall : ([25].all fun u => !Tryd.prog.wantsStandIn u) = true := by kernel_rfl
        exact (show Tryd.prog.wantsStandIn t = false by simpa using List.all_eq_true.1 hall t hm)⟩)
    (by kernel_rfl)
#print axioms proved
end Go.Proofs.YtpildlikebhpjaaDoor.superOnce
