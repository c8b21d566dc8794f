/-
  The law TwinHeals returns true for any superblock, copy, words, address and word; no condition.
-/
import Derived.Test.YtepiiiekcmbpaaaDoorTwt
import Derived.Test.YtepiiiekcmbpaaaDoorGl
namespace Go.Proofs.YtepiiiekcmbpaaaDoor.twinHeals
open Go.ChangeShapes Go.WideShapes Go.ChangeAt Go.RowKit Go.Proofs.YtepiiiekcmbpaaaDoor.Gv Go.Proofs.YtepiiiekcmbpaaaDoor.Tw Go.Proofs.YtepiiiekcmbpaaaDoor.Sb Go.Proofs.YtepiiiekcmbpaaaDoor.Sl Go.Proofs.YtepiiiekcmbpaaaDoor.St Go.Proofs.YtepiiiekcmbpaaaDoor.Iu Go.Proofs.YtepiiiekcmbpaaaDoor.Ir Go.Proofs.YtepiiiekcmbpaaaDoor.Dv
set_option linter.unusedVariables false
set_option maxRecDepth 100000
set_option maxHeartbeats 4000000 in
theorem walk_0 (n : Nat) (T : Int) (a : Option Addr) (m c : Nat) (ls : List Int) (t u : Int) (w : World) (GV : NoSb w) (hg : IsSb n T) (va : Sees w .u64 a m c ls) (hm : m = 8) (ht : 16 ≤ t ∧ t < n) (hu : (Lit.int .u64 u).wf = true) (Y X Z : List Int) (r W' T' : Int) (q : Bool)
    (HY : Hid (pairI n T n = Y)) (HYl : Hid (Y.length = n)) (HYf : Hid (∀ x ∈ Y, (Lit.int .u64 x).wf = true)) (HX : Hid (Y.set t.toNat u = X)) (HZ : Hid (putL X 0 ls = Z)) (HL : Hid (readE ls = r ∧ readW ls = W' ∧ readT ls = T'))
    (HR : ¬ (r = 0 ∧ W' = n) → Hid (twE Z = 0 ∧ twW Z = n ∧ twT Z = T ∧ twA Z 0 = false ∧ twA Z 1 = true) ∧ Hid (twE Z = 0 ∧ viewL Z = X)) :
    Calls Tryd.prog 5 #[.agg #[.int .i64 n, .int .i64 T], .int .i64 0, .slice a m c, .int .i64 t, .int .u64 u] w fun e w' => e = .returned (.bool true) ∧ Below w.heap.size w w' := by
  have hi := hg.1
  have hb := img_bd hi
  have hgd := good_bd hg
  have E := Lib.hid (bad_ok hg)
  have B0 := below_new (o := .cells #[.int .i64 n, .int .i64 T] 26) (Below.refl w.heap.size w)
  have XB := Box.new w #[.int .i64 n, .int .i64 T] 26
  subst hm
  go_enter Tryd.func5, Tryd.ntmps5
  go_wp2_with fail
  refine (rcheck_x n T _ ⟨by omega, by omega⟩ 0 E.out).mono ?_
  rintro e w1 ⟨rfl, b1⟩
  have C1 := below_then B0 b1
  replace XB := XB.keep b1
  obtain ⟨x0, x1⟩ := box_pair XB
  go_wp2_with fail
  all_goals first | (exfalso; omega) | skip
  refine (with7_any T n _ hg).mono ?_
  rintro e w2 ⟨g2, c2, rfl, hc2, G2⟩
  rw [HY.out] at G2
  obtain ⟨r1, r2⟩ := G2.cellAt t.toNat (by rw [HYl.out]; omega)
  have GS := G2.stored t.toNat u
  rw [HX.out] at GS
  have C2 := below_then C1 GS.below
  replace XB := XB.keep GS.below
  have hXl : X.length = n := by rw [← HX.out, List.length_set, HYl.out]
  have S2 := grows_look GS (by rw [← HX.out]; exact wfs_set HYf.out hu) (by rw [hXl]; omega)
  clear x0 x1 GS
  go_wp2_with fail
  all_goals first | (exfalso; omega) | skip
  refine (put_x _ _ _ 0 _ _ _ _ _ _ S2 (va.keep C2) hi (by decide) (by omega) Z HZ.out).mono ?_
  rintro e w3 ⟨a3, c3, rfl, S3, b3⟩
  have C3 := below_then C2 b3
  replace XB := XB.keep b3
  replace S2 := S2.keep b3
  clear r1 r2
  go_wp2_with fail
  refine (Sb.read_x _ _ _ _ _ (va.keep C3) (by first | with_reducible exact GV | with_reducible exact GV.keep (by assumption)) r W' T' HL.out).mono ?_
  rintro e w4 ⟨rfl, b4⟩
  have XB4 := XB.keep b4
  have lx := XB4.lt
  obtain ⟨x0, x1⟩ := box_pair XB4
  replace b4 := below_new (o := .cells #[.int .i64 W', .int .i64 T'] 26) b4
  have C4 := below_then C3 b4
  replace XB := XB.keep b4
  replace S2 := S2.keep b4
  replace S3 := S3.keep b4
  clear b1 b3 b4 C1 C2 C3 B0 G2 HY HYl HYf HX HZ HL XB4
  rcases (by
    by_cases r0 : r = 0
    · by_cases p0 : W' = n
      · exact .inl ⟨r0, p0⟩
      · exact .inr (.inl ⟨r0, p0⟩)
    · exact .inr (.inr r0) : (r = 0 ∧ W' = (n : Int)) ∨ (r = 0 ∧ ¬ W' = (n : Int)) ∨ ¬ r = 0) with ⟨r0, p0⟩ | ⟨r0, p0⟩ | r0
  · clear HR
    subst p0
    go_wp2_with fail
    all_goals first | (exfalso; omega) | skip
    refine (alive7_any _ (GV.keep C4)).mono ?_
    rintro e wb ⟨rfl, bb⟩
    go_wp2
    go_ret
    exact ⟨rfl, below_then C4 bb⟩
  · obtain ⟨hr, hv⟩ := HR (by exact fun h => p0 h.2)
    clear HR
    go_wp2_with fail
    all_goals first | (exfalso; omega) | skip
    refine (read_x _ _ _ _ _ S3 (by first | with_reducible exact GV | with_reducible exact GV.keep (by assumption)) n T 0 false true hr.out).mono ?_
    rintro e w6 ⟨rfl, b6⟩
    have Y6 := (Box.new w6 #[.int .i64 n, .int .i64 T] 26).alloc (.cells #[.bool false, .bool true] 27)
    have Z6 := Box.new1 w6 (.cells #[.int .i64 n, .int .i64 T] 26) #[.bool false, .bool true] 27
    replace b6 := below_new (o := .cells #[.bool false, .bool true] 27) (below_new (o := .cells #[.int .i64 n, .int .i64 T] 26) b6)
    have C6 := below_then C4 b6
    replace XB := XB.keep b6
    replace S2 := S2.keep b6
    replace S3 := S3.keep b6
    clear x0 x1 lx b6
    go_wp2_with fail
    refine (view_x _ _ _ _ _ S3 (by first | with_reducible exact GV | with_reducible exact GV.keep (by assumption)) X 0 hv.out).mono ?_
    rintro e w7 ⟨a7, n7, c7, rfl, S7, b7⟩
    have C7 := below_then C6 b7
    replace XB := XB.keep b7
    replace Y6 := Y6.keep b7
    replace Z6 := Z6.keep b7
    replace S2 := S2.keep b7
    obtain ⟨x0, x1⟩ := box_pair XB
    obtain ⟨y0, y1⟩ := box_pair Y6
    obtain ⟨z0, z1⟩ := box_bools Z6
    have qe := eq_super_self n T
    clear b7 C6 hr hv
    go_wp2_with fail
    refine (same_x a7 _ _ _ _ _ _ _ _ S7 S2 true (decide_eq_true rfl)).mono ?_
    rintro e w9 ⟨rfl, e9, he9⟩
    have k9 : Below w7.heap.size w7 w9 := by rw [← he9]; exact below_drewN (Below.refl _ _) _
    clear he9
    go_wp2_with fail
    refine (alive7_any _ (GV.keep (below_then C7 k9))).mono ?_
    rintro e wb ⟨rfl, bb⟩
    go_wp2
    go_ret
    exact ⟨rfl, below_then (below_then C7 k9) bb⟩
  · obtain ⟨hr, hv⟩ := HR (by exact fun h => r0 h.1)
    clear HR
    go_wp2_with fail
    all_goals first | (exfalso; omega) | skip
    refine (read_x _ _ _ _ _ S3 (by first | with_reducible exact GV | with_reducible exact GV.keep (by assumption)) n T 0 false true hr.out).mono ?_
    rintro e w6 ⟨rfl, b6⟩
    have Y6 := (Box.new w6 #[.int .i64 n, .int .i64 T] 26).alloc (.cells #[.bool false, .bool true] 27)
    have Z6 := Box.new1 w6 (.cells #[.int .i64 n, .int .i64 T] 26) #[.bool false, .bool true] 27
    replace b6 := below_new (o := .cells #[.bool false, .bool true] 27) (below_new (o := .cells #[.int .i64 n, .int .i64 T] 26) b6)
    have C6 := below_then C4 b6
    replace XB := XB.keep b6
    replace S2 := S2.keep b6
    replace S3 := S3.keep b6
    clear x0 x1 lx b6
    go_wp2_with fail
    refine (view_x _ _ _ _ _ S3 (by first | with_reducible exact GV | with_reducible exact GV.keep (by assumption)) X 0 hv.out).mono ?_
    rintro e w7 ⟨a7, n7, c7, rfl, S7, b7⟩
    have C7 := below_then C6 b7
    replace XB := XB.keep b7
    replace Y6 := Y6.keep b7
    replace Z6 := Z6.keep b7
    replace S2 := S2.keep b7
    obtain ⟨x0, x1⟩ := box_pair XB
    obtain ⟨y0, y1⟩ := box_pair Y6
    obtain ⟨z0, z1⟩ := box_bools Z6
    have qe := eq_super_self n T
    clear b7 C6 hr hv
    go_wp2_with fail
    refine (same_x a7 _ _ _ _ _ _ _ _ S7 S2 true (decide_eq_true rfl)).mono ?_
    rintro e w9 ⟨rfl, e9, he9⟩
    have k9 : Below w7.heap.size w7 w9 := by rw [← he9]; exact below_drewN (Below.refl _ _) _
    clear he9
    go_wp2_with fail
    refine (alive7_any _ (GV.keep (below_then C7 k9))).mono ?_
    rintro e wb ⟨rfl, bb⟩
    go_wp2
    go_ret
    exact ⟨rfl, below_then (below_then C7 k9) bb⟩
set_option maxHeartbeats 4000000 in
theorem walk_1 (n : Nat) (T : Int) (a : Option Addr) (m c : Nat) (ls : List Int) (t u : Int) (w : World) (GV : NoSb w) (hg : IsSb n T) (va : Sees w .u64 a m c ls) (hm : m = 8) (ht : 16 ≤ t ∧ t < n) (hu : (Lit.int .u64 u).wf = true) (Y X Z : List Int) (r W' T' : Int) (q : Bool)
    (HY : Hid (pairI n T n = Y)) (HYl : Hid (Y.length = n)) (HYf : Hid (∀ x ∈ Y, (Lit.int .u64 x).wf = true)) (HX : Hid (Y.set t.toNat u = X)) (HZ : Hid (putL X 8 ls = Z)) (HL : Hid (readE ls = r ∧ readW ls = W' ∧ readT ls = T'))
    (HR : ¬ (False) → Hid (twE Z = 0 ∧ twW Z = n ∧ twT Z = T ∧ twA Z 0 = true ∧ twA Z 1 = q) ∧ Hid (twE Z = 0 ∧ viewL Z = X)) :
    Calls Tryd.prog 5 #[.agg #[.int .i64 n, .int .i64 T], .int .i64 1, .slice a m c, .int .i64 t, .int .u64 u] w fun e w' => e = .returned (.bool true) ∧ Below w.heap.size w w' := by
  have hi := hg.1
  have hb := img_bd hi
  have hgd := good_bd hg
  have E := Lib.hid (bad_ok hg)
  have B0 := below_new (o := .cells #[.int .i64 n, .int .i64 T] 26) (Below.refl w.heap.size w)
  have XB := Box.new w #[.int .i64 n, .int .i64 T] 26
  subst hm
  go_enter Tryd.func5, Tryd.ntmps5
  go_wp2_with fail
  refine (rcheck_x n T _ ⟨by omega, by omega⟩ 0 E.out).mono ?_
  rintro e w1 ⟨rfl, b1⟩
  have C1 := below_then B0 b1
  replace XB := XB.keep b1
  obtain ⟨x0, x1⟩ := box_pair XB
  go_wp2_with fail
  all_goals first | (exfalso; omega) | skip
  refine (with7_any T n _ hg).mono ?_
  rintro e w2 ⟨g2, c2, rfl, hc2, G2⟩
  rw [HY.out] at G2
  obtain ⟨r1, r2⟩ := G2.cellAt t.toNat (by rw [HYl.out]; omega)
  have GS := G2.stored t.toNat u
  rw [HX.out] at GS
  have C2 := below_then C1 GS.below
  replace XB := XB.keep GS.below
  have hXl : X.length = n := by rw [← HX.out, List.length_set, HYl.out]
  have S2 := grows_look GS (by rw [← HX.out]; exact wfs_set HYf.out hu) (by rw [hXl]; omega)
  clear x0 x1 GS
  go_wp2_with fail
  all_goals first | (exfalso; omega) | skip
  refine (put_x _ _ _ 8 _ _ _ _ _ _ S2 (va.keep C2) hi (by decide) (by omega) Z HZ.out).mono ?_
  rintro e w3 ⟨a3, c3, rfl, S3, b3⟩
  have C3 := below_then C2 b3
  replace XB := XB.keep b3
  replace S2 := S2.keep b3
  clear r1 r2
  go_wp2_with fail
  refine (Sb.read_x _ _ _ _ _ (va.keep C3) (by first | with_reducible exact GV | with_reducible exact GV.keep (by assumption)) r W' T' HL.out).mono ?_
  rintro e w4 ⟨rfl, b4⟩
  have XB4 := XB.keep b4
  have lx := XB4.lt
  obtain ⟨x0, x1⟩ := box_pair XB4
  replace b4 := below_new (o := .cells #[.int .i64 W', .int .i64 T'] 26) b4
  have C4 := below_then C3 b4
  replace XB := XB.keep b4
  replace S2 := S2.keep b4
  replace S3 := S3.keep b4
  clear b1 b3 b4 C1 C2 C3 B0 G2 HY HYl HYf HX HZ HL XB4
  by_cases r0 : r = 0
  · obtain ⟨hr, hv⟩ := HR (by exact id)
    clear HR
    go_wp2_with fail
    all_goals first | (exfalso; omega) | skip
    refine (read_x _ _ _ _ _ S3 (by first | with_reducible exact GV | with_reducible exact GV.keep (by assumption)) n T 0 true q hr.out).mono ?_
    rintro e w6 ⟨rfl, b6⟩
    have Y6 := (Box.new w6 #[.int .i64 n, .int .i64 T] 26).alloc (.cells #[.bool true, .bool q] 27)
    have Z6 := Box.new1 w6 (.cells #[.int .i64 n, .int .i64 T] 26) #[.bool true, .bool q] 27
    replace b6 := below_new (o := .cells #[.bool true, .bool q] 27) (below_new (o := .cells #[.int .i64 n, .int .i64 T] 26) b6)
    have C6 := below_then C4 b6
    replace XB := XB.keep b6
    replace S2 := S2.keep b6
    replace S3 := S3.keep b6
    clear x0 x1 lx b6
    go_wp2_with fail
    refine (view_x _ _ _ _ _ S3 (by first | with_reducible exact GV | with_reducible exact GV.keep (by assumption)) X 0 hv.out).mono ?_
    rintro e w7 ⟨a7, n7, c7, rfl, S7, b7⟩
    have C7 := below_then C6 b7
    replace XB := XB.keep b7
    replace Y6 := Y6.keep b7
    replace Z6 := Z6.keep b7
    replace S2 := S2.keep b7
    obtain ⟨x0, x1⟩ := box_pair XB
    obtain ⟨y0, y1⟩ := box_pair Y6
    obtain ⟨z0, z1⟩ := box_bools Z6
    have qe := eq_super_self n T
    clear b7 C6 hr hv
    go_wp2_with fail
    refine (same_x a7 _ _ _ _ _ _ _ _ S7 S2 true (decide_eq_true rfl)).mono ?_
    rintro e w9 ⟨rfl, e9, he9⟩
    have k9 : Below w7.heap.size w7 w9 := by rw [← he9]; exact below_drewN (Below.refl _ _) _
    clear he9
    go_wp2_with fail
    refine (alive7_any _ (GV.keep (below_then C7 k9))).mono ?_
    rintro e wb ⟨rfl, bb⟩
    go_wp2
    go_ret
    exact ⟨rfl, below_then (below_then C7 k9) bb⟩
  · obtain ⟨hr, hv⟩ := HR (by exact id)
    clear HR
    go_wp2_with fail
    all_goals first | (exfalso; omega) | skip
    refine (read_x _ _ _ _ _ S3 (by first | with_reducible exact GV | with_reducible exact GV.keep (by assumption)) n T 0 true q hr.out).mono ?_
    rintro e w6 ⟨rfl, b6⟩
    have Y6 := (Box.new w6 #[.int .i64 n, .int .i64 T] 26).alloc (.cells #[.bool true, .bool q] 27)
    have Z6 := Box.new1 w6 (.cells #[.int .i64 n, .int .i64 T] 26) #[.bool true, .bool q] 27
    replace b6 := below_new (o := .cells #[.bool true, .bool q] 27) (below_new (o := .cells #[.int .i64 n, .int .i64 T] 26) b6)
    have C6 := below_then C4 b6
    replace XB := XB.keep b6
    replace S2 := S2.keep b6
    replace S3 := S3.keep b6
    clear x0 x1 lx b6
    go_wp2_with fail
    refine (view_x _ _ _ _ _ S3 (by first | with_reducible exact GV | with_reducible exact GV.keep (by assumption)) X 0 hv.out).mono ?_
    rintro e w7 ⟨a7, n7, c7, rfl, S7, b7⟩
    have C7 := below_then C6 b7
    replace XB := XB.keep b7
    replace Y6 := Y6.keep b7
    replace Z6 := Z6.keep b7
    replace S2 := S2.keep b7
    obtain ⟨x0, x1⟩ := box_pair XB
    obtain ⟨y0, y1⟩ := box_pair Y6
    obtain ⟨z0, z1⟩ := box_bools Z6
    have qe := eq_super_self n T
    clear b7 C6 hr hv
    go_wp2_with fail
    refine (same_x a7 _ _ _ _ _ _ _ _ S7 S2 true (decide_eq_true rfl)).mono ?_
    rintro e w9 ⟨rfl, e9, he9⟩
    have k9 : Below w7.heap.size w7 w9 := by rw [← he9]; exact below_drewN (Below.refl _ _) _
    clear he9
    go_wp2_with fail
    refine (alive7_any _ (GV.keep (below_then C7 k9))).mono ?_
    rintro e wb ⟨rfl, bb⟩
    go_wp2
    go_ret
    exact ⟨rfl, below_then (below_then C7 k9) bb⟩
theorem walk (W T k : Int) (a : Option Addr) (m c : Nat) (ls : List Int) (t u : Int) (hW : -9223372036854775808 ≤ W ∧ W ≤ 9223372036854775807) (hT : -9223372036854775808 ≤ T ∧ T ≤ 9223372036854775807) (hk : -9223372036854775808 ≤ k ∧ k ≤ 9223372036854775807) (ht : -9223372036854775808 ≤ t ∧ t ≤ 9223372036854775807) (hu : 0 ≤ u ∧ u < 18446744073709551616) (w : World) (GV : NoSb w) (va : Sees w .u64 a m c ls) (hc : c ≤ 17592186044416) :
    Calls Tryd.prog 5 #[.agg #[.int .i64 W, .int .i64 T], .int .i64 k, .slice a m c, .int .i64 t, .int .u64 u] w fun e w' => e = .returned (.bool true) ∧ Below w.heap.size w w' := by
  have B0 := below_new (o := .cells #[.int .i64 W, .int .i64 T] 26) (Below.refl w.heap.size w)
  have XB := Box.new w #[.int .i64 W, .int .i64 T] 26
  by_cases hg : IsSb W T
  · have hgd := good_bd hg
    have htop := va.top
    by_cases hm : 0 ≤ k ∧ k ≤ 1 ∧ m = 8 ∧ 16 ≤ t ∧ t < W
    · obtain ⟨h1, h2, h3, h4, h5⟩ := hm
      obtain ⟨n, rfl⟩ := Int.eq_ofNat_of_zero_le (show 0 ≤ W from by omega)
      have hl : ls.length = 8 := by rw [va.len, h3]
      have h2' : Two (pairI n T n) n T := two_pair (by omega)
      have h2s := two_set h2' (i := t.toNat) (by omega) u
      rcases (by omega : k = 0 ∨ k = 1) with rfl | rfl
      · refine walk_0 n T a m c ls t u w GV hg va h3 ⟨h4, h5⟩ (wf_word hu) _ _ _ _ _ _ false (Lib.hid rfl) (Lib.hid h2'.1) (Lib.hid (pair_wf hg)) (Lib.hid rfl) (Lib.hid rfl) (Lib.hid ⟨rfl, rfl, rfl⟩) fun hno => ?_
        obtain ⟨g1, g2, g3, g4, g5, g6⟩ := spoil_first h2s hg hl hno
        exact ⟨Lib.hid ⟨g1, g2, g3, g4, g5⟩, Lib.hid ⟨g1, g6⟩⟩
      · refine walk_1 n T a m c ls t u w GV hg va h3 ⟨h4, h5⟩ (wf_word hu) _ _ _ _ _ _ (twA (putL ((pairI n T n).set t.toNat u) 8 ls) 1) (Lib.hid rfl) (Lib.hid h2'.1) (Lib.hid (pair_wf hg)) (Lib.hid rfl) (Lib.hid rfl) (Lib.hid ⟨rfl, rfl, rfl⟩) fun _ => ?_
        obtain ⟨g1, g2, g3, g4, g6⟩ := spoil_second h2s hg hl
        exact ⟨Lib.hid ⟨g1, g2, g3, g4, rfl⟩, Lib.hid ⟨g1, g6⟩⟩
    · have E := Lib.hid (bad_ok hg)
      rcases (by omega : k < 0 ∨ (0 ≤ k ∧ 1 < k) ∨ (0 ≤ k ∧ k ≤ 1 ∧ ¬ (m : Int) = 8) ∨ (0 ≤ k ∧ k ≤ 1 ∧ (m : Int) = 8 ∧ t < 16) ∨ (0 ≤ k ∧ k ≤ 1 ∧ (m : Int) = 8 ∧ 16 ≤ t ∧ W ≤ t)) with h1 | ⟨h1, h2⟩ | ⟨h1, h2, h3⟩ | ⟨h1, h2, h3, h4⟩ | ⟨h1, h2, h3, h4, h5⟩
      all_goals
        go_enter Tryd.func5, Tryd.ntmps5
        go_wp2_with fail
        refine (rcheck_x W T _ hT 0 E.out).mono ?_
        rintro e w1 ⟨rfl, b1⟩
        obtain ⟨x0, x1⟩ := box_pair (XB.keep b1)
        go_wp2_with fail
        all_goals first | (exfalso; omega) | skip
        refine (alive7_any _ (GV.keep (below_then B0 b1))).mono ?_
        rintro e wb ⟨rfl, bb⟩
        go_wp2
        go_ret
        exact ⟨rfl, below_then (below_then B0 b1) bb⟩
  · have E := Lib.hid (bad_no hg)
    go_enter Tryd.func5, Tryd.ntmps5
    go_wp2_with fail
    refine (rcheck_x W T _ hT 8 E.out).mono ?_
    rintro e w1 ⟨rfl, b1⟩
    obtain ⟨x0, x1⟩ := box_pair (XB.keep b1)
    go_wp2_with fail
    refine (alive7_any _ (GV.keep (below_then B0 b1))).mono ?_
    rintro e wb ⟨rfl, bb⟩
    go_wp2
    go_ret
    exact ⟨rfl, below_then (below_then B0 b1) bb⟩

/-! The row's step. -/
set_option maxRecDepth 100000 in
theorem lifted (os : Os) (started : os.Started) (H : Type) (enc : TypeId × Value → H) :
    ReturnsInHanded {} Tryd.checked os 5 .any (fun w args => (Rows.twinHealsSpec.pre enc Tryd.prog Tryd.f5 [] false w args ∧ laidMetH Tryd.prog Gv.laid1 w) ∧ sizedMet enc Tryd.prog Tryd.f5 (OpenSpec.ofChange Rows.twinHealsSpec) false w args) (Rows.twinHealsSpec.post enc Tryd.prog Tryd.f5 false true false false) := by
  refine returnsInHanded_of_change_and (C := Tryd.checked) (X := fun w _ => laidMetH Tryd.prog Gv.laid1 w) (fun _ _ _ hh h => h.of_heap hh) St.own started (by kernel_rfl) Tryd.func5
    (ChangeSpec.witness_shaped (enc := enc) (C := Tryd.checked) (os := os) (X := fun w _ => laidMetH Tryd.prog Gv.laid1 w) false (World.doorLaid Tryd.prog 400 os) #[.agg #[.int .i64 0, .int .i64 0], .int .i64 0, .slice .none 0 0, .int .i64 0, .int .u64 0] 8 rfl (World.shaped_of_RefB (by kernel_rfl) (by kernel_rfl)) (by kernel_rfl) (by kernel_rfl) (by kernel_rfl) (Gv.door_met os _)) ?_
  intro W base args ds gs before hval0 hW hcnd hsz0 hL _
  have hsz : (DataW.weightsEach Tryd.prog (Tryd.f5.params.toList ++ Rows.twinHealsSpec.plain.varTypes Tryd.prog) (ds ++ gs)).all (· ≤ reachBytes) = true := hsz0
  have hval : ∀ (j : Nat) t v, Tryd.f5.params[j]? = some t → args[j]? = some v → Value.okWide Tryd.prog W .any base t v := hval0
  have hW' := hW
  obtain ⟨p, q, hA0, hV, rfl, hfz, hnd⟩ := hW
  have hA : DataW.TrodAll enc Tryd.prog W 0 (fun _ => true) true Tryd.f5.params.toList args.toList ds p := hA0
  rw [Tryd.params5] at hA hval hsz
  obtain ⟨v0, vs0, d0, ds0, p0, q0, hargs, rfl, rfl, h0, r0⟩ := trodAll_cons hA
  obtain ⟨v1, vs1, d1, ds1, p1, q1, rfl, rfl, rfl, h1, r1⟩ := trodAll_cons r0
  obtain ⟨v2, vs2, d2, ds2, p2, q2, rfl, rfl, rfl, h2, r2⟩ := trodAll_cons r1
  obtain ⟨v3, vs3, d3, ds3, p3, q3, rfl, rfl, rfl, h3, r3⟩ := trodAll_cons r2
  obtain ⟨v4, vs4, d4, ds4, p4, q4, rfl, rfl, rfl, h4, r4⟩ := trodAll_cons r3
  obtain ⟨rfl, rfl, rfl⟩ := trodAll_nil r4
  obtain rfl : args = #[v0, v1, v2, v3, v4] := by cases args; simp_all
  have z2 : ∀ es sp, d2 = .slice es sp → (es.length + sp.length) * 8 ≤ 140737488351232 := fun es sp e => by
    have := sized_slice hsz (j := 2) (t := 22) (e := 47) rfl (congrArg some e) Tryd.underlying22
    rw [show Tryd.prog.bytesOf 47 = 8 from by kernel_rfl] at this
    simpa [reachBytes] using this
  obtain ⟨a0, b0, rfl, w0, w0'⟩ := Sb.open_super (hval 0 26 v0 rfl rfl) h0
  obtain ⟨a1, rfl, rfl, rfl, w1⟩ := open_int Tryd.underlying3 (hval 1 3 v1 rfl rfl) h1
  obtain ⟨a2, n2, c2, xs2, rfl, s2, t2⟩ := Sl.open_slice Tryd.underlying22 Tryd.underlying47 (by kernel_rfl) (hval 2 22 v2 rfl rfl) h2 z2
  obtain ⟨a3, rfl, rfl, rfl, w3⟩ := open_int Tryd.underlying3 (hval 3 3 v3 rfl rfl) h3
  obtain ⟨a4, rfl, rfl, rfl, w4⟩ := open_int Tryd.underlying47 (hval 4 47 v4 rfl rfl) h4
  refine (walk a0 b0 a1 a2 n2 c2 xs2 a3 a4 w0 w0' (St.i64_of_wf w1) (St.i64_of_wf w3) (St.u64_of_wf w4) W (Gv.of_laid hL) s2 t2).mono fun e W' ⟨he, hb⟩ => ?_
  subst he
  exact St.law_done St.laid (by kernel_rfl) rfl rfl Tryd.underlying4 rfl hW' hb

theorem over : Rows.twinHealsRow.holds Tryd.pinned (OpenSpec.ofChange Rows.twinHealsSpec) :=
  OpenClaim.holds_of_wide 5 Tryd.f5 rfl rfl rfl rfl rfl rfl rfl ⟨rfl, rfl, rfl, rfl, rfl⟩ rfl rfl rfl rfl rfl (by kernel_rfl) Tryd.func5 (by kernel_rfl)
    (of_decide_eq_true (by kernel_rfl)) (by unfold Func.isWrapper; first | (rw [if_pos (by decide +kernel)]; kernel_rfl) | (rw [if_neg (by decide +kernel)]; exact ⟨rfl, rfl⟩))
    (fun os started H enc _ => lifted os started H enc)
theorem proved : Rows.TwinHealsCardSaid :=
  Claim7.holds_tied_plain_at .later [] [.data] true Rows.twinHealsCard.stood.harness false over (fun _ h => by cases h) (by kernel_rfl) (fun _ h => by cases h) twinHeals_row_tie rfl ⟨rfl, rfl⟩ (by kernel_rfl) rfl
    (fun f fn hf hfn => by
      obtain rfl : f = 5 := Option.some.inj ((show Tryd.prog.funcNamed "ballast/ballastlaw07.TwinHeals" = some 5 by kernel_rfl).symm.trans hf) |>.symm
      obtain rfl : fn = Tryd.f5 := (Option.some.inj (Tryd.func5.symm.trans hfn)).symm
      exact ⟨by kernel_rfl, fun j t ht => by
        rw [Tryd.params5] at ht
        have hm : t ∈ [26, 3, 22, 3, 47] := by simpa using Array.mem_of_getElem? ht
        have hall : ([26, 3, 22, 3, 47].all fun u => !Tryd.prog.wantsStandIn u) = true := by kernel_rfl
        exact (show Tryd.prog.wantsStandIn t = false by simpa using List.all_eq_true.1 hall t hm)⟩)
    (by kernel_rfl)
#print axioms proved
end Go.Proofs.YtepiiiekcmbpaaaDoor.twinHeals
