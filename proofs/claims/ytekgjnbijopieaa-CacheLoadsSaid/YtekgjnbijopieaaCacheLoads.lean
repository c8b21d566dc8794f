/-
  The law CacheLoads returns true for every device and address; no condition.
-/
import Derived.Test.YtekgjnbijopieaaCacheu
import Derived.Test.YtekgjnbijopieaaDevOpen
import Derived.SizedLaws
import Derived.Deep.RegionHeld3
namespace Go.Proofs.Ytekgjnbijopieaa.cacheLoads
open Go.ChangeShapes Go.WideShapes Go.ChangeAt Go.RowKit Go.Proofs.Ytekgjnbijopieaa.Sl Go.Proofs.Ytekgjnbijopieaa.St Go.Proofs.Ytekgjnbijopieaa.Ir Go.Proofs.Ytekgjnbijopieaa.Dv Go.Proofs.Ytekgjnbijopieaa.Cr Go.Proofs.Ytekgjnbijopieaa.Cu
set_option linter.unusedVariables false
set_option maxRecDepth 100000
set_option maxHeartbeats 4000000 in
theorem walk_main (a : Option Addr) (n c : Nat) (b : Option Addr) (m d : Nat) (l : Int) (q : Bool) (D : Dev) (p : Int) (w : World) (s : SeesD w a n c b m d l q D) (hp : -9223372036854775808 ≤ p ∧ p ≤ 9223372036854775807) (hg : greatD n m = false) :
    Calls Try.prog 4 #[dev a n c b m d l q, .int .i64 p] w fun e w' => e = .returned (.bool true) ∧ Below w.heap.size w w' := by
  have hf := s.fine
  have B1 : Below w.heap.size w (w.alloc (box a n c b m d l q)) := below_new (Below.refl _ _)
  have X1 := Box.new w #[.slice a n c, .slice b m d, .int .i64 l, .bool q] 25
  go_enter Try.func4, Try.ntmps4
  go_wp2_with fail
  refine (rgreat_any _ _ _ _ _ _ _ _ _ s.dl.short).mono ?_
  rintro e w2 ⟨rfl, b2⟩
  have C2 := below_then B1 b2
  have X2 := X1.keep b2
  have t2 := X2.lt
  obtain ⟨⟨x0, x1, x2, x3⟩, f0, f1, f2, f3⟩ := X2.open4
  go_wp2_with fail
  refine (rtwin_any _ _ _ _ _ _ _ _ D _ (s.keep C2)).mono ?_
  rintro e w3 ⟨v3, rfl, M3⟩
  obtain ⟨a3, c3, b3, d3, rfl, S3, b3'⟩ := seenD M3 hf
  clear M3
  have C3 := below_then C2 b3'
  have X3 := X2.keep b3'
  have t3 := X3.lt
  clear x0 x1 x2 x3 f0 f1 f2 f3
  obtain ⟨⟨x0, x1, x2, x3⟩, f0, f1, f2, f3⟩ := X3.open4
  have Z3 := Box.new w3 #[.slice a3 D.im.length c3, .slice b3 D.dl.length d3, .int .i64 D.left, .bool D.down] 25
  have bn : Below w3.heap.size w3 (w3.alloc (box a3 D.im.length c3 b3 D.dl.length d3 D.left D.down)) := below_new (Below.refl _ _)
  have S4 := S3.keep bn
  have X4 := X3.keep bn
  have C4 := below_then C3 bn
  go_wp2_with fail
  refine (Ca.load_any _ _ _ _ _ _ _ _ D p _ S4 hp).mono ?_
  rintro e w5 ⟨rfl, b5⟩
  have X5 := X4.keep b5
  have Z5 := Z3.keep b5
  have C5 := below_then C4 b5
  have t5 := X5.lt
  have t5' := Z5.lt
  have S5 := S4.keep b5
  clear x0 x1 x2 x3 f0 f1 f2 f3
  obtain ⟨⟨x0, x1, x2, x3⟩, f0, f1, f2, f3⟩ := X5.open4
  obtain ⟨⟨z0, z1, z2, z3⟩, g0, g1, g2, g3⟩ := Z5.open4
  go_wp2_with fail
  refine (rload_any _ _ _ _ _ _ _ _ D p _ (s.keep C5)).mono ?_
  rintro e w6 ⟨rfl, b6⟩
  have X6 := X5.keep b6
  have Z6 := Z5.keep b6
  have C6 := below_then C5 b6
  have t6 := X6.lt
  have t6' := Z6.lt
  have S6 := S5.keep b6
  clear x0 x1 x2 x3 f0 f1 f2 f3 z0 z1 z2 z3 g0 g1 g2 g3
  obtain ⟨⟨x0, x1, x2, x3⟩, f0, f1, f2, f3⟩ := X6.open4
  obtain ⟨⟨z0, z1, z2, z3⟩, g0, g1, g2, g3⟩ := Z6.open4
  go_wp2_with fail
  refine (Ca.view_any _ _ _ _ _ _ _ _ D _ S6).mono ?_
  intro e w7 hV7
  obtain ⟨a7, c7, rfl, V7, b7⟩ := seenW hV7 (wf_view hf) (len_view hf)
  clear hV7
  have X7 := X6.keep b7
  have Z7 := Z6.keep b7
  have C7 := below_then C6 b7
  have t7 := X7.lt
  have t7' := Z7.lt
  have S7 := S6.keep b7
  clear x0 x1 x2 x3 f0 f1 f2 f3 z0 z1 z2 z3 g0 g1 g2 g3
  obtain ⟨⟨x0, x1, x2, x3⟩, f0, f1, f2, f3⟩ := X7.open4
  obtain ⟨⟨z0, z1, z2, z3⟩, g0, g1, g2, g3⟩ := Z7.open4
  go_wp2_with fail
  refine (rview_any _ _ _ _ _ _ _ _ D _ (s.keep C7)).mono ?_
  intro e w8 hV8
  obtain ⟨a8, c8, rfl, V8, b8⟩ := seenW hV8 (wf_view hf) (len_view hf)
  clear hV8
  have X8 := X7.keep b8
  have Z8 := Z7.keep b8
  have C8 := below_then C7 b8
  have t8 := X8.lt
  have t8' := Z8.lt
  have S8 := S7.keep b8
  have V7' := V7.keep b8
  clear x0 x1 x2 x3 f0 f1 f2 f3 z0 z1 z2 z3 g0 g1 g2 g3
  obtain ⟨⟨x0, x1, x2, x3⟩, f0, f1, f2, f3⟩ := X8.open4
  obtain ⟨⟨z0, z1, z2, z3⟩, g0, g1, g2, g3⟩ := Z8.open4
  clear X2 X3 X4 X5 X6 X7 Z3 Z5 Z6 Z7 S3 S4 S5 S6 S7 V7 C2 C3 C4 C5 C6 C7 b2 b3' bn b5 b6 b7 b8 B1 t2 t3 t5 t6 t7 t5' t6' t7'
  have bd : Below w8.heap.size w8 w8.drew := Below.drew (Below.refl _ _)
  have Xd := X8.keep bd
  have Zd := Z8.keep bd
  have Sd := S8.keep bd
  have Cd := below_then C8 bd
  have V7d := V7'.keep bd
  have V8d := V8.keep bd
  go_wp2_with fail
  clear x0 x1 x2 x3 f0 f1 f2 f3 z0 z1 z2 z3 g0 g1 g2 g3 X8 Z8 S8 C8 V7' V8
  go_region_held3 (fun w' => (w'.cell? ⟨w.heap.size, 0, none⟩ = some (.slice a n c) ∧ w'.cell? ⟨w.heap.size, 1, none⟩ = some (.slice b m d) ∧ w'.cell? ⟨w.heap.size, 2, none⟩ = some (.int .i64 l) ∧ w'.cell? ⟨w.heap.size, 3, none⟩ = some (.bool q)) ∧
      (w'.cell? ⟨w3.heap.size, 0, none⟩ = some (.slice a3 D.im.length c3) ∧ w'.cell? ⟨w3.heap.size, 1, none⟩ = some (.slice b3 D.dl.length d3) ∧ w'.cell? ⟨w3.heap.size, 2, none⟩ = some (.int .i64 D.left) ∧ w'.cell? ⟨w3.heap.size, 3, none⟩ = some (.bool D.down)))
    (first | exact ⟨Xd.open4.1, Zd.open4.1⟩ | exact ⟨X9.open4.1, Z9.open4.1⟩ | exact ⟨X10.open4.1, Z10.open4.1⟩ | exact ⟨X11.open4.1, Z11.open4.1⟩ | exact ⟨X12.open4.1, Z12.open4.1⟩)
    (first
    | (go_at_call 15
       refine (Ca.check_any _ _ _ _ _ _ _ _ D _ Sd).mono ?_
       rintro e w9 ⟨rfl, b9⟩
       have X9 := Xd.keep b9
       have Z9 := Zd.keep b9)
    | (go_at_call 23
       refine (rchk_any _ _ _ _ _ _ _ _ D _ (s.keep (below_then Cd b9))).mono ?_
       rintro e w10 ⟨rfl, o, j, hj⟩
       have b10 : Below w9.heap.size w9 w10 := by
         rw [← hj]
         exact below_drewN (below_new (Below.refl _ _)) _
       clear hj
       have X10 := X9.keep b10
       have Z10 := Z9.keep b10)
    | (go_at_call 24
       refine (same_self _ _ _ _ _ _ _ _ ((V7d.keep b9).keep b10) ((V8d.keep b9).keep b10)).mono ?_
       rintro e w11 ⟨rfl, b11⟩
       have X11 := X10.keep b11
       have Z11 := Z10.keep b11)
    | (go_at_call 17
       refine (same_selfD _ _ _ _ _ _ _ _ _ _ _ _ _ _ _ _ D _ (((Sd.keep b9).keep b10).keep b11) (s.keep (below_then (below_then (below_then Cd b9) b10) b11))).mono ?_
       rintro e w12 ⟨rfl, b12⟩
       have X12 := X11.keep b12
       have Z12 := Z11.keep b12))
  all_goals
    go_wp2
    go_ret
    exact ⟨rfl, below_then (below_then (below_then (below_then Cd b9) b10) b11) b12⟩
theorem walk (a : Option Addr) (n c : Nat) (b : Option Addr) (m d : Nat) (l : Int) (q : Bool) (D : Dev) (p : Int) (hp : -9223372036854775808 ≤ p ∧ p ≤ 9223372036854775807) (w : World) (s : SeesD w a n c b m d l q D) :
    Calls Try.prog 4 #[dev a n c b m d l q, .int .i64 p] w fun e w' => e = .returned (.bool true) ∧ Below w.heap.size w w' := by
  cases hg : greatD n m
  · exact walk_main a n c b m d l q D p w s hp hg
  · go_enter Try.func4, Try.ntmps4
    go_wp2_with fail
    refine (rgreat_any _ _ _ _ _ _ _ _ _ s.dl.short).mono ?_
    rintro e w2 ⟨rfl, b2⟩
    go_wp2_with fail
    go_ret
    exact ⟨rfl, below_then (below_new (Below.refl _ _)) b2⟩

/-! The row's step. -/
set_option maxRecDepth 100000 in
theorem lifted (os : Os) (started : os.Started) (H : Type) (enc : TypeId × Value → H) :
    ReturnsInHanded {} Try.checked os 4 .any (Rows.cacheLoadsSpec.pre6 enc Try.prog Try.f4 Rows.cacheLoadsRow.domain false) (Rows.cacheLoadsSpec.post enc Try.prog Try.f4 false true false false) := by
  refine returnsInHanded_of_change_sized (C := Try.checked) St.own started (by kernel_rfl) Try.func4
    (ChangeSpec.witness6 (enc := enc) (C := Try.checked) false ⟨#[], #[.agg #[.slice .none 0 0, .slice .none 0 0, .int .i64 0, .bool false], .int .i64 0], []⟩ 8 (by kernel_rfl) (by kernel_rfl) (by kernel_rfl) (by kernel_rfl)) ?_
  intro W base args ds gs before hval0 hW hcnd hsz0 _
  have hsz : (DataW.weightsEach Try.prog (Try.f4.params.toList ++ Rows.cacheLoadsSpec.plain.varTypes Try.prog) (ds ++ gs)).all (· ≤ reachBytes) = true := hsz0
  have hval : ∀ (j : Nat) t v, Try.f4.params[j]? = some t → args[j]? = some v → Value.okWide Try.prog W .any base t v := hval0
  have hW' := hW
  obtain ⟨p, q, hA0, hV, rfl, hfz, hnd⟩ := hW
  have hA : DataW.TrodAll enc Try.prog W 0 (fun _ => true) true Try.f4.params.toList args.toList ds p := hA0
  rw [Try.params4] at hA hval hsz
  obtain ⟨v0, vs0, d0, ds0, p0, q0, hargs, rfl, rfl, h0, r0⟩ := trodAll_cons hA
  obtain ⟨v1, vs1, d1, ds1, p1, q1, rfl, rfl, rfl, h1, r1⟩ := trodAll_cons r0
  obtain ⟨rfl, rfl, rfl⟩ := trodAll_nil r1
  obtain rfl : args = #[v0, v1] := by cases args; simp_all
  obtain ⟨a0, n0, c0, b0, m0, e0, l0, b0', D0, rfl, s0⟩ := Dv.open_dev (hval 0 25 v0 rfl rfl) h0 (fun n hn => by
    have := List.all_eq_true.1 hsz _ (DataW.weights_mem_each (j := 0) (t := 25) rfl rfl n hn)
    exact of_decide_eq_true this)
  obtain ⟨a1, rfl, rfl, rfl, w1⟩ := open_int Try.underlying3 (hval 1 3 v1 rfl rfl) h1
  refine (walk a0 n0 c0 b0 m0 e0 l0 b0' D0 a1 (St.i64_of_wf w1) W s0).mono fun e W' ⟨he, hb⟩ => ?_
  subst he
  exact St.law_done St.laid (by kernel_rfl) rfl rfl Try.underlying4 rfl hW' hb

theorem over : Rows.cacheLoadsRow.holds Try.pinned (OpenSpec.ofChange Rows.cacheLoadsSpec) :=
  OpenClaim.holds_of_wide 4 Try.f4 rfl rfl rfl rfl rfl rfl rfl ⟨rfl, rfl, rfl, rfl, rfl⟩ rfl rfl rfl rfl rfl (by kernel_rfl) Try.func4 (by kernel_rfl)
    (of_decide_eq_true (by kernel_rfl)) (by unfold Func.isWrapper; first | (rw [if_pos (by decide +kernel)]; kernel_rfl) | (rw [if_neg (by decide +kernel)]; exact ⟨rfl, rfl⟩))
    (fun os started H enc _ => lifted os started H enc)
theorem proved : Rows.CacheLoadsSaid := over
#print axioms proved
end Go.Proofs.Ytekgjnbijopieaa.cacheLoads
