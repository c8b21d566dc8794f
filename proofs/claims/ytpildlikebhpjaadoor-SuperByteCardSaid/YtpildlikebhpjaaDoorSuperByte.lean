/-
  The law SuperByte returns true for any superblock, index, number of a byte, and change; no condition.
-/
import Derived.Test.YtpildlikebhpjaaDoorSbl
import Derived.Test.YtpildlikebhpjaaDoorSbo
import Derived.Test.YtpildlikebhpjaaDoorGl
namespace Go.Proofs.YtpildlikebhpjaaDoor.superByte
open Go.ChangeShapes Go.WideShapes Go.ChangeAt Go.RowKit Go.Proofs.YtpildlikebhpjaaDoor.Gv Go.Proofs.YtpildlikebhpjaaDoor.Sb Go.Proofs.YtpildlikebhpjaaDoor.Sl Go.Proofs.YtpildlikebhpjaaDoor.St Go.Proofs.YtpildlikebhpjaaDoor.Bits Go.Proofs.YtpildlikebhpjaaDoor.Wd Go.Proofs.YtpildlikebhpjaaDoor.Su Go.Proofs.YtpildlikebhpjaaDoor.Ir
set_option linter.unusedVariables false
set_option maxRecDepth 100000

set_option maxHeartbeats 1000000 in
theorem walk_main (W T p g : Int) (K : Nat) (w : World) (L : NoSb w) (hW : -9223372036854775808 ≤ W ∧ W ≤ 9223372036854775807) (hT : -9223372036854775808 ≤ T ∧ T ≤ 9223372036854775807) (hg : IsSb W T) (hp : 0 ≤ p ∧ p ≤ 7) (hk : K ≤ 7) (hc : 0 ≤ g ∧ g < 256)
    (X : List Int) (hX : wordsI W T = X) (v v' r a b : Int) (hv : Hid (X.getD p.toNat 0 = v)) (HVE : Hid (bits .xor .u64 v (IntKind.u64.wrap (g * 2 ^ (8 * K))) = v')) (HR : Hid (readE (X.set p.toNat v') = r ∧ readW (X.set p.toNat v') = a ∧ readT (X.set p.toNat v') = b))
    (hr : (g = 0 ∧ r = 0) ∨ (g ≠ 0 ∧ r = 50)) (HVU : Hid (U64 v')) :
    Calls Tryd.prog 7 #[.agg #[.int .i64 W, .int .i64 T], .int .i64 p, .int .i64 K, .int .u8 g] w fun e w' => e = .returned (.bool true) ∧ Below w.heap.size w w' := by
  have B1 := below_new (o := .cells #[.int .i64 W, .int .i64 T] 23) (Below.refl w.heap.size w)
  have X1 := Box.new w #[.int .i64 W, .int .i64 T] 23
  have E := Lib.hid (bad_ok hg)
  have HL := Lib.hid (show X.length = 8 from by rw [← hX]; rfl)
  have HF := Lib.hid (show ∀ x ∈ X, (Lit.int .u64 x).wf = true from by rw [← hX]; exact words_wf hg)
  go_enter Tryd.func7, Tryd.ntmps7
  go_wp2_with fail
  refine (rcheck_x W T _ hT 0 E.out).mono ?_
  rintro e w1 ⟨rfl, b1⟩
  have C1 := below_then B1 b1
  replace X1 := X1.keep b1
  have x0 : w1.cell? ⟨w.heap.size, 0, none⟩ = some (.int .i64 W) := X1.cell 0
  have x1 : w1.cell? ⟨w.heap.size, 1, none⟩ = some (.int .i64 T) := X1.cell 1
  go_wp2_with fail
  all_goals first | (exfalso; omega) | skip
  refine (write_x W T _ hg X hX).mono ?_
  rintro e w2 ⟨g2, c2, rfl, hc2, G2⟩
  have C2 := below_then C1 G2.below
  have S2 := grows_look G2 HF.out (by rw [HL.out]; decide)
  clear x0 x1 X1
  go_wp2_with fail
  refine (twin_x _ _ _ _ _ S2 (by decide)).mono ?_
  rintro e w3 ⟨g3, c3, rfl, hg3, G⟩
  have C3 := below_then C2 G.below
  have Gd := G.keep (Below.drew (Below.refl _ _))
  obtain ⟨r1, r2⟩ := Gd.cellAt p.toNat (by rw [HL.out]; omega)
  rw [hv.out] at r1
  have GS := (G.stored p.toNat v').keep (Below.drew (Below.refl _ _))
  have hs3 := C2.size
  have C4 := Below.drew (Below.setCell (p := ⟨g3, p.toNat, none⟩) C3 (Nat.le_trans hs3 hg3) (.int .u64 v'))
  clear G Gd G2 S2 C3 C2 C1
  go_wp2_with fail
  go_region
  rw [HVE.out]
  have S4 := grows_look GS (wfs_set HF.out (wf_word ⟨HVU.out.1, HVU.out.2⟩)) (by rw [List.length_set, HL.out]; decide)
  clear GS r1 r2 HVE hv
  generalize ((w3.setCell ⟨g3, p.toNat, none⟩ (.int .u64 v')).drew) = w4 at S4 C4 ⊢
  go_wp2_with fail
  refine (read_x _ _ _ _ _ S4 (L.keep C4) r a b HR.out).mono ?_
  rintro e w5 ⟨rfl, b5⟩
  have C5 := below_then C4 b5
  clear HR S4 HL HF HVU
  rcases hr with ⟨h0, rfl⟩ | ⟨h0, rfl⟩
  · go_wp2_with fail
    all_goals first | (exfalso; omega) | skip
    refine (alive_any _ (L.keep (below_new C5))).mono ?_
    rintro e w6 ⟨rfl, b6⟩
    go_wp2
    go_ret
    exact ⟨rfl, below_then (below_new C5) b6⟩
  · go_wp2_with fail
    all_goals first | (exfalso; omega) | skip
    refine (alive_any _ (L.keep (below_new C5))).mono ?_
    rintro e w6 ⟨rfl, b6⟩
    go_wp2
    go_ret
    exact ⟨rfl, below_then (below_new C5) b6⟩
theorem read_of {xs : List Int} {r : Int} (h : readE xs = r) : readE xs = r ∧ readW xs = readW xs ∧ readT xs = readT xs := ⟨h, rfl, rfl⟩
set_option maxHeartbeats 1000000 in
theorem walk (W T p k g : Int) (hW : -9223372036854775808 ≤ W ∧ W ≤ 9223372036854775807) (hT : -9223372036854775808 ≤ T ∧ T ≤ 9223372036854775807) (hp : -9223372036854775808 ≤ p ∧ p ≤ 9223372036854775807) (hk : -9223372036854775808 ≤ k ∧ k ≤ 9223372036854775807) (hc : 0 ≤ g ∧ g < 256) (w : World) (L : NoSb w) :
    Calls Tryd.prog 7 #[.agg #[.int .i64 W, .int .i64 T], .int .i64 p, .int .i64 k, .int .u8 g] w fun e w' => e = .returned (.bool true) ∧ Below w.heap.size w w' := by
  have B1 := below_new (o := .cells #[.int .i64 W, .int .i64 T] 23) (Below.refl w.heap.size w)
  by_cases hg : IsSb W T
  · have E := Lib.hid (bad_ok hg)
    by_cases hm : 0 ≤ p ∧ p ≤ 7 ∧ 0 ≤ k ∧ k ≤ 7
    · obtain ⟨h1, h2, h3, h4⟩ := hm
      obtain ⟨K, rfl⟩ := Int.eq_ofNat_of_zero_le h3
      have hi : p.toNat < 8 := by omega
      have hl : p.toNat < (wordsI W T).length := hi
      have hu : U64 ((wordsI W T).getD p.toNat 0) := small_wf (xs := wordsI W T) rfl hi (words_wf hg)
      have hf := read_flip (g := g) (K := K) hg hi hc (by omega) _ rfl _ rfl
      refine walk_main W T p g K w L hW hT hg ⟨h1, h2⟩ (by omega) hc _ rfl _ _ _ _ _ (Lib.hid rfl) (Lib.hid rfl) (Lib.hid ⟨hf, rfl, rfl⟩) ?_ (Lib.hid (val_u64 hu hc (by omega)))
      by_cases h0 : g = 0
      · rw [if_pos h0]
        exact .inl ⟨h0, rfl⟩
      · rw [if_neg h0]
        exact .inr ⟨h0, rfl⟩
    rcases (by omega : p < 0 ∨ (0 ≤ p ∧ 7 < p) ∨ (0 ≤ p ∧ p ≤ 7 ∧ k < 0) ∨ (0 ≤ p ∧ p ≤ 7 ∧ 0 ≤ k ∧ 7 < k)) with h1 | ⟨h1, h2⟩ | ⟨h1, h2, h3⟩ | ⟨h1, h2, h3, h4⟩
    all_goals
      go_enter Tryd.func7, Tryd.ntmps7
      go_wp2_with fail
      refine (rcheck_x W T _ hT 0 E.out).mono ?_
      rintro e w1 ⟨rfl, b1⟩
      go_wp2_with fail
      all_goals first | (exfalso; omega) | skip
      refine (alive_any _ (L.keep (below_then B1 b1))).mono ?_
      rintro e w6 ⟨rfl, b6⟩
      go_wp2
      go_ret
      exact ⟨rfl, below_then (below_then B1 b1) b6⟩
  · have E := Lib.hid (bad_no hg)
    go_enter Tryd.func7, Tryd.ntmps7
    go_wp2_with fail
    refine (rcheck_x W T _ hT 8 E.out).mono ?_
    rintro e w1 ⟨rfl, b1⟩
    go_wp2_with fail
    refine (alive_any _ (L.keep (below_then B1 b1))).mono ?_
    rintro e w6 ⟨rfl, b6⟩
    go_wp2
    go_ret
    exact ⟨rfl, below_then (below_then B1 b1) b6⟩

/-! The row's step. -/
set_option maxRecDepth 100000 in
theorem lifted (os : Os) (started : os.Started) (H : Type) (enc : TypeId × Value → H) :
    ReturnsInHanded {} Tryd.checked os 7 .any (fun w args => (Rows.superByteSpec.pre enc Tryd.prog Tryd.f7 [] false w args ∧ laidMetH Tryd.prog Gv.laid1 w) ∧ sizedMet enc Tryd.prog Tryd.f7 (OpenSpec.ofChange Rows.superByteSpec) false w args) (Rows.superByteSpec.post enc Tryd.prog Tryd.f7 false true false false) := by
  refine returnsInHanded_of_change_and (C := Tryd.checked) (X := fun w _ => laidMetH Tryd.prog Gv.laid1 w) (fun _ _ _ hh h => h.of_heap hh) St.own started (by kernel_rfl) Tryd.func7
    (ChangeSpec.witness_shaped (enc := enc) (C := Tryd.checked) (os := os) (X := fun w _ => laidMetH Tryd.prog Gv.laid1 w) false (World.doorLaid Tryd.prog 400 os) #[.agg #[.int .i64 0, .int .i64 0], .int .i64 0, .int .i64 0, .int .u8 0] 8 rfl (World.shaped_of_RefB (by kernel_rfl) (by kernel_rfl)) (by kernel_rfl) (by kernel_rfl) (by kernel_rfl) (Gv.door_met os _)) ?_
  intro W base args ds gs before hval0 hW hcnd hsz0 hL _
  have hval : ∀ (j : Nat) t v, Tryd.f7.params[j]? = some t → args[j]? = some v → Value.okWide Tryd.prog W .any base t v := hval0
  have hW' := hW
  obtain ⟨p, q, hA0, hV, rfl, hfz, hnd⟩ := hW
  have hA : DataW.TrodAll enc Tryd.prog W 0 (fun _ => true) true Tryd.f7.params.toList args.toList ds p := hA0
  rw [Tryd.params7] at hA hval
  obtain ⟨v0, vs0, d0, ds0, p0, q0, hargs, rfl, rfl, h0, r0⟩ := trodAll_cons hA
  obtain ⟨v1, vs1, d1, ds1, p1, q1, rfl, rfl, rfl, h1, r1⟩ := trodAll_cons r0
  obtain ⟨v2, vs2, d2, ds2, p2, q2, rfl, rfl, rfl, h2, r2⟩ := trodAll_cons r1
  obtain ⟨v3, vs3, d3, ds3, p3, q3, rfl, rfl, rfl, h3, r3⟩ := trodAll_cons r2
  obtain ⟨rfl, rfl, rfl⟩ := trodAll_nil r3
  obtain rfl : args = #[v0, v1, v2, v3] := by cases args; simp_all
  obtain ⟨a0, b0, rfl, w0, w0'⟩ := Sb.open_super (hval 0 23 v0 rfl rfl) h0
  obtain ⟨a1, rfl, rfl, rfl, w1⟩ := open_int Tryd.underlying3 (hval 1 3 v1 rfl rfl) h1
  obtain ⟨a2, rfl, rfl, rfl, w2⟩ := open_int Tryd.underlying3 (hval 2 3 v2 rfl rfl) h2
  obtain ⟨a3, rfl, rfl, rfl, w3⟩ := open_int Tryd.underlying5 (hval 3 5 v3 rfl rfl) h3
  refine (walk a0 b0 a1 a2 a3 w0 w0' (St.i64_of_wf w1) (St.i64_of_wf w2) (St.u8_of_wf w3) W (Gv.of_laid hL)).mono fun e W' ⟨he, hb⟩ => ?_
  subst he
  exact St.law_done St.laid (by kernel_rfl) rfl rfl Tryd.underlying4 rfl hW' hb

theorem over : Rows.superByteRow.holds Tryd.pinned (OpenSpec.ofChange Rows.superByteSpec) :=
  OpenClaim.holds_of_wide 7 Tryd.f7 rfl rfl rfl rfl rfl rfl rfl ⟨rfl, rfl, rfl, rfl, rfl⟩ rfl rfl rfl rfl rfl (by kernel_rfl) Tryd.func7 (by kernel_rfl)
    (of_decide_eq_true (by kernel_rfl)) (by unfold Func.isWrapper; first | (rw [if_pos (by decide +kernel)]; kernel_rfl) | (rw [if_neg (by decide +kernel)]; exact ⟨rfl, rfl⟩))
    (fun os started H enc _ => lifted os started H enc)
theorem proved : Rows.SuperByteCardSaid :=
  Claim7.holds_tied_plain_at .later [] [.data] true Rows.superByteCard.stood.harness false over (fun _ h => by cases h) (by kernel_rfl) (fun _ h => by cases h) superByte_row_tie rfl ⟨rfl, rfl⟩ (by kernel_rfl) rfl
    (fun f fn hf hfn => by
      obtain rfl : f = 7 := Option.some.inj ((show Tryd.prog.funcNamed "ballast/ballastlaw06.SuperByte" = some 7 by kernel_rfl).symm.trans hf) |>.symm
      obtain rfl : fn = Tryd.f7 := (Option.some.inj (Tryd.func7.symm.trans hfn)).symm
      exact ⟨by kernel_rfl, fun j t ht => by
        rw [Tryd.params7] at ht
        have hm : t ∈ [23, 3, 3, 5] := by simpa using Array.mem_of_getElem? ht
        have hall : ([23, 3, 3, 5].all fun u => !Tryd.prog.wantsStandIn u) = true := by kernel_rfl
        exact (show Tryd.prog.wantsStandIn t = false by simpa using List.all_eq_true.1 hall t hm)⟩)
    (by kernel_rfl)
#print axioms proved
end Go.Proofs.YtpildlikebhpjaaDoor.superByte
