/-
  The law CacheStores returns true for every device, address and word; no condition.
-/
import Derived.Test.YtekgjnbijopieaaCacheu
import Derived.Test.YtekgjnbijopieaaDevOpen
import Derived.SizedLaws
import Derived.Deep.RegionHeld3
namespace Go.Proofs.Ytekgjnbijopieaa.cacheStores
open Go.ChangeShapes Go.WideShapes Go.ChangeAt Go.RowKit Go.Proofs.Ytekgjnbijopieaa.Sl Go.Proofs.Ytekgjnbijopieaa.St Go.Proofs.Ytekgjnbijopieaa.Ir Go.Proofs.Ytekgjnbijopieaa.Dv Go.Proofs.Ytekgjnbijopieaa.Cr Go.Proofs.Ytekgjnbijopieaa.Cu
set_option linter.unusedVariables false
set_option maxRecDepth 100000
set_option maxHeartbeats 4000000 in
theorem walk_main (a : Option Addr) (n c : Nat) (b : Option Addr) (m d : Nat) (l : Int) (q : Bool) (D : Dev) (p u : Int) (w : World) (s : SeesD w a n c b m d l q D) (hp : -9223372036854775808 ≤ p ∧ p ≤ 9223372036854775807) (hu : 0 ≤ u ∧ u < 18446744073709551616) (hg : greatD n m = false) :
    Calls Try.prog 5 #[dev a n c b m d l q, .int .i64 p, .int .u64 u] w fun e w' => e = .returned (.bool true) ∧ Below w.heap.size w w' := by
  have hf := s.fine
  have C := below_new (o := box a n c b m d l q) (Below.refl w.heap.size w)
  have Hd := Var.new s
  go_enter Try.func5, Try.ntmps5
  go_wp2_with fail
  refine (rgreat_any _ _ _ _ _ _ _ _ _ s.dl.short).mono ?_
  rintro e w1 ⟨rfl, b1⟩
  replace Hd := Hd.keep b1
  replace C := below_then C b1
  have td := Hd.box.lt
  obtain ⟨x0, x1, x2, x3⟩ := Hd.cells
  go_wp2_with fail
  clear td
  refine (rtwin_any _ _ _ _ _ _ _ _ D _ Hd.sees).mono ?_
  rintro e w2 ⟨v2, rfl, M2⟩
  obtain ⟨a2, c2, b2', d2, rfl, S2, b2⟩ := seenD M2 hf
  clear M2
  replace Hd := Hd.keep b2
  replace C := below_then C b2
  clear x0 x1 x2 x3
  have td := Hd.box.lt
  obtain ⟨x0, x1, x2, x3⟩ := Hd.cells
  have Ho := Var.new S2
  have n2 : Below w2.heap.size w2 (w2.alloc (box a2 (D).im.length c2 b2' (D).dl.length d2 (D).left (D).down)) := below_new (Below.refl _ _)
  replace Hd := Hd.keep n2
  replace C := below_then C n2
  clear S2
  go_wp2_with fail
  clear td
  refine (Ca.new_any _ _ _ _ _ Ho.sees.im).mono ?_
  rintro e w3 ⟨v3, rfl, M3⟩
  obtain ⟨a3, c3, b3', d3, rfl, S3, b3⟩ := seenD M3 (fine_new hf.im hf.li)
  clear M3
  replace Hd := Hd.keep b3
  replace Ho := Ho.keep b3
  replace C := below_then C b3
  clear x0 x1 x2 x3
  have td := Hd.box.lt
  have to := Ho.box.lt
  obtain ⟨x0, x1, x2, x3⟩ := Hd.cells
  have Hn := Var.new S3
  have n3 : Below w3.heap.size w3 (w3.alloc (box a3 (newD D.im).im.length c3 b3' (newD D.im).dl.length d3 (newD D.im).left (newD D.im).down)) := below_new (Below.refl _ _)
  replace Hd := Hd.keep n3
  replace Ho := Ho.keep n3
  replace C := below_then C n3
  clear S3
  go_wp2_with fail
  clear td to
  refine (rnew3_any _ _ _ _ _ Hd.sees.im).mono ?_
  rintro e w4 ⟨v4, rfl, M4⟩
  obtain ⟨a4, c4, b4', d4, rfl, S4, b4⟩ := seenD M4 (fine_new hf.im hf.li)
  clear M4
  replace Hd := Hd.keep b4
  replace Ho := Ho.keep b4
  replace Hn := Hn.keep b4
  replace C := below_then C b4
  clear x0 x1 x2 x3
  have td := Hd.box.lt
  have to := Ho.box.lt
  have tn := Hn.box.lt
  obtain ⟨x0, x1, x2, x3⟩ := Ho.cells
  have Hm := Var.new S4
  have n4 : Below w4.heap.size w4 (w4.alloc (box a4 (newD D.im).im.length c4 b4' (newD D.im).dl.length d4 (newD D.im).left (newD D.im).down)) := below_new (Below.refl _ _)
  replace Hd := Hd.keep n4
  replace Ho := Ho.keep n4
  replace Hn := Hn.keep n4
  replace C := below_then C n4
  clear S4
  go_wp2_with fail
  clear td to tn
  refine (Ca.store_any _ _ _ _ _ _ _ _ D p u _ Ho.sees hp hu).mono ?_
  rintro e w5 ⟨v5, rfl, M5⟩
  obtain ⟨a5, c5, b5', d5, rfl, S5, b5⟩ := seenD M5 (fine_store hf hp hu)
  clear M5
  replace Hd := Hd.keep b5
  replace Ho := Ho.keep b5
  replace Hn := Hn.keep b5
  replace Hm := Hm.keep b5
  replace C := below_then C b5
  clear x0 x1 x2 x3
  have td := Hd.box.lt
  have to := Ho.box.lt
  have tn := Hn.box.lt
  have tm := Hm.box.lt
  obtain ⟨x0, x1, x2, x3⟩ := Hd.cells
  have Ha := Var.new S5
  have n5 : Below w5.heap.size w5 (w5.alloc (box a5 (storeD D p u).im.length c5 b5' (storeD D p u).dl.length d5 (storeD D p u).left (storeD D p u).down)) := below_new (Below.refl _ _)
  replace Hd := Hd.keep n5
  replace Ho := Ho.keep n5
  replace Hn := Hn.keep n5
  replace Hm := Hm.keep n5
  replace C := below_then C n5
  clear S5
  go_wp2_with fail
  clear td to tn tm
  refine (rstore_any _ _ _ _ _ _ _ _ D p u _ Hd.sees).mono ?_
  rintro e w6 ⟨v6, rfl, M6⟩
  obtain ⟨a6, c6, b6', d6, rfl, S6, b6⟩ := seenD M6 (fine_store hf hp hu)
  clear M6
  replace Hd := Hd.keep b6
  replace Ho := Ho.keep b6
  replace Hn := Hn.keep b6
  replace Hm := Hm.keep b6
  replace Ha := Ha.keep b6
  replace C := below_then C b6
  clear x0 x1 x2 x3
  have td := Hd.box.lt
  have to := Ho.box.lt
  have tn := Hn.box.lt
  have tm := Hm.box.lt
  have ta := Ha.box.lt
  obtain ⟨x0, x1, x2, x3⟩ := Ho.cells
  have Hb := Var.new S6
  have n6 : Below w6.heap.size w6 (w6.alloc (box a6 (storeD D p u).im.length c6 b6' (storeD D p u).dl.length d6 (storeD D p u).left (storeD D p u).down)) := below_new (Below.refl _ _)
  replace Hd := Hd.keep n6
  replace Ho := Ho.keep n6
  replace Hn := Hn.keep n6
  replace Hm := Hm.keep n6
  replace Ha := Ha.keep n6
  replace C := below_then C n6
  clear S6
  go_wp2_with fail
  clear td to tn tm ta
  refine (Ca.flush_any _ _ _ _ _ _ _ _ D p _ Ho.sees hp).mono ?_
  rintro e w7 ⟨v7, rfl, M7⟩
  obtain ⟨a7, c7, b7', d7, rfl, S7, b7⟩ := seenD M7 (fine_flush hf)
  clear M7
  replace Hd := Hd.keep b7
  replace Ho := Ho.keep b7
  replace Hn := Hn.keep b7
  replace Hm := Hm.keep b7
  replace Ha := Ha.keep b7
  replace Hb := Hb.keep b7
  replace C := below_then C b7
  clear x0 x1 x2 x3
  have td := Hd.box.lt
  have to := Ho.box.lt
  have tn := Hn.box.lt
  have tm := Hm.box.lt
  have ta := Ha.box.lt
  have tb := Hb.box.lt
  obtain ⟨x0, x1, x2, x3⟩ := Hd.cells
  have Hx := Var.new S7
  have n7 : Below w7.heap.size w7 (w7.alloc (box a7 (flushD D p).im.length c7 b7' (flushD D p).dl.length d7 (flushD D p).left (flushD D p).down)) := below_new (Below.refl _ _)
  replace Hd := Hd.keep n7
  replace Ho := Ho.keep n7
  replace Hn := Hn.keep n7
  replace Hm := Hm.keep n7
  replace Ha := Ha.keep n7
  replace Hb := Hb.keep n7
  replace C := below_then C n7
  clear S7
  go_wp2_with fail
  clear td to tn tm ta tb
  refine (rflush_any _ _ _ _ _ _ _ _ D p _ Hd.sees hp).mono ?_
  rintro e w8 ⟨v8, rfl, M8⟩
  obtain ⟨a8, c8, b8', d8, rfl, S8, b8⟩ := seenD M8 (fine_flush hf)
  clear M8
  replace Hd := Hd.keep b8
  replace Ho := Ho.keep b8
  replace Hn := Hn.keep b8
  replace Hm := Hm.keep b8
  replace Ha := Ha.keep b8
  replace Hb := Hb.keep b8
  replace Hx := Hx.keep b8
  replace C := below_then C b8
  clear x0 x1 x2 x3
  have td := Hd.box.lt
  have to := Ho.box.lt
  have tn := Hn.box.lt
  have tm := Hm.box.lt
  have ta := Ha.box.lt
  have tb := Hb.box.lt
  have tx := Hx.box.lt
  obtain ⟨x0, x1, x2, x3⟩ := Ho.cells
  have Hy := Var.new S8
  have n8 : Below w8.heap.size w8 (w8.alloc (box a8 (flushD D p).im.length c8 b8' (flushD D p).dl.length d8 (flushD D p).left (flushD D p).down)) := below_new (Below.refl _ _)
  replace Hd := Hd.keep n8
  replace Ho := Ho.keep n8
  replace Hn := Hn.keep n8
  replace Hm := Hm.keep n8
  replace Ha := Ha.keep n8
  replace Hb := Hb.keep n8
  replace Hx := Hx.keep n8
  replace C := below_then C n8
  clear S8
  go_wp2_with fail
  clear td to tn tm ta tb tx
  refine (Ca.fence_any _ _ _ _ _ _ _ _ D _ Ho.sees).mono ?_
  rintro e w9 ⟨v9, rfl, M9⟩
  obtain ⟨a9, c9, b9', d9, rfl, S9, b9⟩ := seenD M9 (fine_fence hf)
  clear M9
  replace Hd := Hd.keep b9
  replace Ho := Ho.keep b9
  replace Hn := Hn.keep b9
  replace Hm := Hm.keep b9
  replace Ha := Ha.keep b9
  replace Hb := Hb.keep b9
  replace Hx := Hx.keep b9
  replace Hy := Hy.keep b9
  replace C := below_then C b9
  clear x0 x1 x2 x3
  have td := Hd.box.lt
  have to := Ho.box.lt
  have tn := Hn.box.lt
  have tm := Hm.box.lt
  have ta := Ha.box.lt
  have tb := Hb.box.lt
  have tx := Hx.box.lt
  have ty := Hy.box.lt
  obtain ⟨x0, x1, x2, x3⟩ := Hd.cells
  have Hp := Var.new S9
  have n9 : Below w9.heap.size w9 (w9.alloc (box a9 (fenceD D).im.length c9 b9' (fenceD D).dl.length d9 (fenceD D).left (fenceD D).down)) := below_new (Below.refl _ _)
  replace Hd := Hd.keep n9
  replace Ho := Ho.keep n9
  replace Hn := Hn.keep n9
  replace Hm := Hm.keep n9
  replace Ha := Ha.keep n9
  replace Hb := Hb.keep n9
  replace Hx := Hx.keep n9
  replace Hy := Hy.keep n9
  replace C := below_then C n9
  clear S9
  go_wp2_with fail
  clear td to tn tm ta tb tx ty
  refine (rfence_any _ _ _ _ _ _ _ _ D _ Hd.sees).mono ?_
  rintro e w10 ⟨v10, rfl, M10⟩
  obtain ⟨a10, c10, b10', d10, rfl, S10, b10⟩ := seenD M10 (fine_fence hf)
  clear M10
  replace Hd := Hd.keep b10
  replace Ho := Ho.keep b10
  replace Hn := Hn.keep b10
  replace Hm := Hm.keep b10
  replace Ha := Ha.keep b10
  replace Hb := Hb.keep b10
  replace Hx := Hx.keep b10
  replace Hy := Hy.keep b10
  replace Hp := Hp.keep b10
  replace C := below_then C b10
  clear x0 x1 x2 x3
  have td := Hd.box.lt
  have to := Ho.box.lt
  have tn := Hn.box.lt
  have tm := Hm.box.lt
  have ta := Ha.box.lt
  have tb := Hb.box.lt
  have tx := Hx.box.lt
  have ty := Hy.box.lt
  have tp := Hp.box.lt
  obtain ⟨x0, x1, x2, x3⟩ := Hn.cells
  obtain ⟨z0, z1, z2, z3⟩ := Hm.cells
  have Hq := Var.new S10
  have n10 : Below w10.heap.size w10 (w10.alloc (box a10 (fenceD D).im.length c10 b10' (fenceD D).dl.length d10 (fenceD D).left (fenceD D).down)) := below_new (Below.refl _ _)
  replace Hd := Hd.keep n10
  replace Ho := Ho.keep n10
  replace Hn := Hn.keep n10
  replace Hm := Hm.keep n10
  replace Ha := Ha.keep n10
  replace Hb := Hb.keep n10
  replace Hx := Hx.keep n10
  replace Hy := Hy.keep n10
  replace Hp := Hp.keep n10
  replace C := below_then C n10
  clear S10
  go_wp2_with fail
  clear td to tn tm ta tb tx ty tp
  refine (same_selfD _ _ _ _ _ _ _ _ _ _ _ _ _ _ _ _ (newD D.im) _ Hn.sees Hm.sees).mono ?_
  rintro e w11 ⟨rfl, b11⟩
  replace Hd := Hd.keep b11
  replace Ho := Ho.keep b11
  replace Hn := Hn.keep b11
  replace Hm := Hm.keep b11
  replace Ha := Ha.keep b11
  replace Hb := Hb.keep b11
  replace Hx := Hx.keep b11
  replace Hy := Hy.keep b11
  replace Hp := Hp.keep b11
  replace Hq := Hq.keep b11
  replace C := below_then C b11
  clear x0 x1 x2 x3 z0 z1 z2 z3
  have td := Hd.box.lt
  have to := Ho.box.lt
  have tn := Hn.box.lt
  have tm := Hm.box.lt
  have ta := Ha.box.lt
  have tb := Hb.box.lt
  have tx := Hx.box.lt
  have ty := Hy.box.lt
  have tp := Hp.box.lt
  have tq := Hq.box.lt
  obtain ⟨x0, x1, x2, x3⟩ := Ha.cells
  obtain ⟨z0, z1, z2, z3⟩ := Hb.cells
  go_wp2_with fail
  clear td to tn tm ta tb tx ty tp tq
  refine (same_selfD _ _ _ _ _ _ _ _ _ _ _ _ _ _ _ _ (storeD D p u) _ Ha.sees Hb.sees).mono ?_
  rintro e w12 ⟨rfl, b12⟩
  replace Hd := Hd.keep b12
  replace Ho := Ho.keep b12
  replace Hn := Hn.keep b12
  replace Hm := Hm.keep b12
  replace Ha := Ha.keep b12
  replace Hb := Hb.keep b12
  replace Hx := Hx.keep b12
  replace Hy := Hy.keep b12
  replace Hp := Hp.keep b12
  replace Hq := Hq.keep b12
  replace C := below_then C b12
  clear x0 x1 x2 x3 z0 z1 z2 z3
  have td := Hd.box.lt
  have to := Ho.box.lt
  have tn := Hn.box.lt
  have tm := Hm.box.lt
  have ta := Ha.box.lt
  have tb := Hb.box.lt
  have tx := Hx.box.lt
  have ty := Hy.box.lt
  have tp := Hp.box.lt
  have tq := Hq.box.lt
  obtain ⟨x0, x1, x2, x3⟩ := Hx.cells
  obtain ⟨z0, z1, z2, z3⟩ := Hy.cells
  go_wp2_with fail
  clear td to tn tm ta tb tx ty tp tq
  refine (same_selfD _ _ _ _ _ _ _ _ _ _ _ _ _ _ _ _ (flushD D p) _ Hx.sees Hy.sees).mono ?_
  rintro e w13 ⟨rfl, b13⟩
  replace Hd := Hd.keep b13
  replace Ho := Ho.keep b13
  replace Hn := Hn.keep b13
  replace Hm := Hm.keep b13
  replace Ha := Ha.keep b13
  replace Hb := Hb.keep b13
  replace Hx := Hx.keep b13
  replace Hy := Hy.keep b13
  replace Hp := Hp.keep b13
  replace Hq := Hq.keep b13
  replace C := below_then C b13
  clear x0 x1 x2 x3 z0 z1 z2 z3
  have td := Hd.box.lt
  have to := Ho.box.lt
  have tn := Hn.box.lt
  have tm := Hm.box.lt
  have ta := Ha.box.lt
  have tb := Hb.box.lt
  have tx := Hx.box.lt
  have ty := Hy.box.lt
  have tp := Hp.box.lt
  have tq := Hq.box.lt
  obtain ⟨x0, x1, x2, x3⟩ := Hp.cells
  obtain ⟨z0, z1, z2, z3⟩ := Hq.cells
  go_wp2_with fail
  clear td to tn tm ta tb tx ty tp tq
  refine (same_selfD _ _ _ _ _ _ _ _ _ _ _ _ _ _ _ _ (fenceD D) _ Hp.sees Hq.sees).mono ?_
  rintro e w14 ⟨rfl, b14⟩
  replace Hd := Hd.keep b14
  replace Ho := Ho.keep b14
  replace Hn := Hn.keep b14
  replace Hm := Hm.keep b14
  replace Ha := Ha.keep b14
  replace Hb := Hb.keep b14
  replace Hx := Hx.keep b14
  replace Hy := Hy.keep b14
  replace Hp := Hp.keep b14
  replace Hq := Hq.keep b14
  replace C := below_then C b14
  clear x0 x1 x2 x3 z0 z1 z2 z3
  have td := Hd.box.lt
  have to := Ho.box.lt
  have tn := Hn.box.lt
  have tm := Hm.box.lt
  have ta := Ha.box.lt
  have tb := Hb.box.lt
  have tx := Hx.box.lt
  have ty := Hy.box.lt
  have tp := Hp.box.lt
  have tq := Hq.box.lt
  obtain ⟨x0, x1, x2, x3⟩ := Ho.cells
  obtain ⟨z0, z1, z2, z3⟩ := Hd.cells
  go_wp2_with fail
  clear td to tn tm ta tb tx ty tp tq
  refine (same_selfD _ _ _ _ _ _ _ _ _ _ _ _ _ _ _ _ (D) _ Ho.sees Hd.sees).mono ?_
  rintro e w15 ⟨rfl, b15⟩
  replace Hd := Hd.keep b15
  replace Ho := Ho.keep b15
  replace Hn := Hn.keep b15
  replace Hm := Hm.keep b15
  replace Ha := Ha.keep b15
  replace Hb := Hb.keep b15
  replace Hx := Hx.keep b15
  replace Hy := Hy.keep b15
  replace Hp := Hp.keep b15
  replace Hq := Hq.keep b15
  replace C := below_then C b15
  go_wp2
  go_ret
  exact ⟨rfl, C⟩
theorem walk (a : Option Addr) (n c : Nat) (b : Option Addr) (m d : Nat) (l : Int) (q : Bool) (D : Dev) (p u : Int) (hp : -9223372036854775808 ≤ p ∧ p ≤ 9223372036854775807) (hu : 0 ≤ u ∧ u < 18446744073709551616) (w : World) (s : SeesD w a n c b m d l q D) :
    Calls Try.prog 5 #[dev a n c b m d l q, .int .i64 p, .int .u64 u] w fun e w' => e = .returned (.bool true) ∧ Below w.heap.size w w' := by
  cases hg : greatD n m
  · exact walk_main a n c b m d l q D p u w s hp hu hg
  · go_enter Try.func5, Try.ntmps5
    go_wp2_with fail
    refine (rgreat_any _ _ _ _ _ _ _ _ _ s.dl.short).mono ?_
    rintro e w2 ⟨rfl, b2⟩
    go_wp2_with fail
    go_ret
    exact ⟨rfl, below_then (below_new (Below.refl _ _)) b2⟩

/-! The row's step. -/
set_option maxRecDepth 100000 in
theorem lifted (os : Os) (started : os.Started) (H : Type) (enc : TypeId × Value → H) :
    ReturnsInHanded {} Try.checked os 5 .any (Rows.cacheStoresSpec.pre6 enc Try.prog Try.f5 Rows.cacheStoresRow.domain false) (Rows.cacheStoresSpec.post enc Try.prog Try.f5 false true false false) := by
  refine returnsInHanded_of_change_sized (C := Try.checked) St.own started (by kernel_rfl) Try.func5
    (ChangeSpec.witness6 (enc := enc) (C := Try.checked) false ⟨#[], #[.agg #[.slice .none 0 0, .slice .none 0 0, .int .i64 0, .bool false], .int .i64 0, .int .u64 0], []⟩ 8 (by kernel_rfl) (by kernel_rfl) (by kernel_rfl) (by kernel_rfl)) ?_
  intro W base args ds gs before hval0 hW hcnd hsz0 _
  have hsz : (DataW.weightsEach Try.prog (Try.f5.params.toList ++ Rows.cacheStoresSpec.plain.varTypes Try.prog) (ds ++ gs)).all (· ≤ reachBytes) = true := hsz0
  have hval : ∀ (j : Nat) t v, Try.f5.params[j]? = some t → args[j]? = some v → Value.okWide Try.prog W .any base t v := hval0
  have hW' := hW
  obtain ⟨p, q, hA0, hV, rfl, hfz, hnd⟩ := hW
  have hA : DataW.TrodAll enc Try.prog W 0 (fun _ => true) true Try.f5.params.toList args.toList ds p := hA0
  rw [Try.params5] at hA hval hsz
  obtain ⟨v0, vs0, d0, ds0, p0, q0, hargs, rfl, rfl, h0, r0⟩ := trodAll_cons hA
  obtain ⟨v1, vs1, d1, ds1, p1, q1, rfl, rfl, rfl, h1, r1⟩ := trodAll_cons r0
  obtain ⟨v2, vs2, d2, ds2, p2, q2, rfl, rfl, rfl, h2, r2⟩ := trodAll_cons r1
  obtain ⟨rfl, rfl, rfl⟩ := trodAll_nil r2
  obtain rfl : args = #[v0, v1, v2] := by cases args; simp_all
  obtain ⟨a0, n0, c0, b0, m0, e0, l0, b0', D0, rfl, s0⟩ := Dv.open_dev (hval 0 25 v0 rfl rfl) h0 (fun n hn => by
    have := List.all_eq_true.1 hsz _ (DataW.weights_mem_each (j := 0) (t := 25) rfl rfl n hn)
    exact of_decide_eq_true this)
  obtain ⟨a1, rfl, rfl, rfl, w1⟩ := open_int Try.underlying3 (hval 1 3 v1 rfl rfl) h1
  obtain ⟨a2, rfl, rfl, rfl, w2⟩ := open_int Try.underlying26 (hval 2 26 v2 rfl rfl) h2
  refine (walk a0 n0 c0 b0 m0 e0 l0 b0' D0 a1 a2 (St.i64_of_wf w1) (St.u64_of_wf w2) W s0).mono fun e W' ⟨he, hb⟩ => ?_
  subst he
  exact St.law_done St.laid (by kernel_rfl) rfl rfl Try.underlying4 rfl hW' hb

theorem over : Rows.cacheStoresRow.holds Try.pinned (OpenSpec.ofChange Rows.cacheStoresSpec) :=
  OpenClaim.holds_of_wide 5 Try.f5 rfl rfl rfl rfl rfl rfl rfl ⟨rfl, rfl, rfl, rfl, rfl⟩ rfl rfl rfl rfl rfl (by kernel_rfl) Try.func5 (by kernel_rfl)
    (of_decide_eq_true (by kernel_rfl)) (by unfold Func.isWrapper; first | (rw [if_pos (by decide +kernel)]; kernel_rfl) | (rw [if_neg (by decide +kernel)]; exact ⟨rfl, rfl⟩))
    (fun os started H enc _ => lifted os started H enc)
theorem proved : Rows.CacheStoresSaid := over
#print axioms proved
end Go.Proofs.Ytekgjnbijopieaa.cacheStores
