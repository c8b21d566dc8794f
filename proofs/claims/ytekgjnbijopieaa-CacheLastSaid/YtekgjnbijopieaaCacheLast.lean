/-
  The law CacheLast returns true for every device, two addresses and a word; no condition.
-/
import Derived.Test.YtekgjnbijopieaaCachex
import Derived.Test.YtekgjnbijopieaaDevOpen
import Derived.SizedLaws
namespace Go.Proofs.Ytekgjnbijopieaa.cacheLast
open Go.Proofs.Ytekgjnbijopieaa.Cx Go.ChangeShapes Go.WideShapes Go.ChangeAt Go.RowKit Go.Proofs.Ytekgjnbijopieaa.Sl Go.Proofs.Ytekgjnbijopieaa.St Go.Proofs.Ytekgjnbijopieaa.Ir Go.Proofs.Ytekgjnbijopieaa.Dv Go.Proofs.Ytekgjnbijopieaa.Cr Go.Proofs.Ytekgjnbijopieaa.Cu
set_option linter.unusedVariables false
set_option maxRecDepth 100000


set_option maxHeartbeats 4000000 in
theorem walk_up (a : Option Addr) (n c : Nat) (b : Option Addr) (m d : Nat) (D : Dev) (p o u : Int) (w : World) (s : SeesD w a n c b m d (0) false D) (hok : okD D = true) (hp : 0 ≤ p ∧ p < n) (ho : 0 ≤ o ∧ o < n) (hu : 0 ≤ u ∧ u < 18446744073709551616) (hg : greatD n m = false)
    (X Y Z : Dev) (LD : Int) (V : List Int) (HX : Hid (storedD D p u = X)) (HY : Hid (flushedD X o = Y)) (HZ : Hid (fencedD Y = Z)) (OX : Hid (okD X = true)) (OY : Hid (okD Y = true)) (OZ : Hid (okD Z = true))
    (ry rz : Bool) (HR : Hid (X.down = true)) (HRY : Hid (Y.down = ry)) (HRZ : Hid (Z.down = rz)) (HLD : Hid (loadR D o = LD)) (HLX : Hid (loadR X o = LD)) (HV : Hid (wordsL X.im X.dl = V)) (HVZ : Hid (wordsL Z.im Z.dl = V)) :
    Calls Try.prog 6 #[dev a n c b m d (0) false, .int .i64 p, .int .i64 o, .int .u64 u] w fun e w' => e = .returned (.bool true) ∧ Below w.heap.size w w' := by
  have HOK := Lib.hid hok
  have HC := Lib.hid (chk_ok hok)
  have HP := Lib.hid hp
  have HO := Lib.hid ho
  have hnt := s.im.top
  clear hok

  have C := below_new (o := box a n c b m d (0) false) (Below.refl w.heap.size w)
  have Hd := Var.new s
  go_enter Try.func6, Try.ntmps6
  go_wp2_with fail
  refine (rgreat_any _ _ _ _ _ _ _ _ _ s.dl.short).mono ?_
  rintro e w1 ⟨rfl, b1⟩
  replace Hd := Hd.keep b1
  replace C := below_then C b1
  rw [hg]
  have tx := Hd.box.lt
  obtain ⟨x0, x1, x2, x3⟩ := Hd.cells
  go_wp2_with fail
  refine (chk_b _ _ _ _ _ _ _ _ D _ Hd.sees).mono ?_
  rintro e w2 ⟨rfl, b2⟩
  replace Hd := Hd.keep b2
  replace C := below_then C b2
  rw [HC.out]
  clear tx x0 x1 x2 x3
  have tx := Hd.box.lt
  obtain ⟨x0, x1, x2, x3⟩ := Hd.cells
  go_wp2_with fail
  all_goals first | (exfalso; omega) | skip
  refine (store_x _ _ _ _ _ _ _ _ D p u _ Hd.sees HOK.out HP.out hu X HX.out true HR.out).mono ?_
  rintro e w3 ⟨a3, c3, g3, m3, d3, l3, rfl, S3, b3⟩
  replace Hd := Hd.keep b3
  replace C := below_then C b3
  have Hx := Var.new S3
  have n3 : Below w3.heap.size w3 (w3.alloc (box a3 n c3 g3 m3 d3 l3 true)) := below_new (Below.refl _ _)
  replace Hd := Hd.keep n3
  replace C := below_then C n3
  clear S3
  clear tx x0 x1 x2 x3
  have tx := Hd.box.lt
  obtain ⟨x0, x1, x2, x3⟩ := Hd.cells
  go_wp2_with fail
  refine (load_x _ _ _ _ _ _ _ _ D o _ Hd.sees HOK.out HO.out LD HLD.out).mono ?_
  rintro e w4 ⟨rfl, b4⟩
  replace Hd := Hd.keep b4
  replace Hx := Hx.keep b4
  replace C := below_then C b4
  clear tx x0 x1 x2 x3
  have tx := Hx.box.lt
  obtain ⟨x0, x1, x2, x3⟩ := Hx.cells
  go_wp2_with fail
  refine (load_x _ _ _ _ _ _ _ _ X o _ Hx.sees OX.out HO.out LD HLX.out).mono ?_
  rintro e w5 ⟨rfl, b5⟩
  replace Hd := Hd.keep b5
  replace Hx := Hx.keep b5
  replace C := below_then C b5
  clear tx x0 x1 x2 x3
  have tx := Hd.box.lt
  obtain ⟨x0, x1, x2, x3⟩ := Hd.cells
  have tz := Hx.box.lt
  obtain ⟨z0, z1, z2, z3⟩ := Hx.cells
  go_wp2_with fail
  refine (flush_x _ _ _ _ _ _ _ _ X o _ Hx.sees OX.out HO.out Y HY.out ry HRY.out).mono ?_
  rintro e w6 ⟨a6, c6, g6, m6, d6, l6, rfl, S6, b6⟩
  replace Hd := Hd.keep b6
  replace Hx := Hx.keep b6
  replace C := below_then C b6
  have Hy := Var.new S6
  have n6 : Below w6.heap.size w6 (w6.alloc (box a6 n c6 g6 m6 d6 l6 ry)) := below_new (Below.refl _ _)
  replace Hd := Hd.keep n6
  replace Hx := Hx.keep n6
  replace C := below_then C n6
  clear S6
  clear tx x0 x1 x2 x3 tz z0 z1 z2 z3
  have tx := Hx.box.lt
  obtain ⟨x0, x1, x2, x3⟩ := Hx.cells
  go_wp2_with fail
  refine (fence_x _ _ _ _ _ _ _ _ Y _ Hy.sees OY.out Z HZ.out rz HRZ.out).mono ?_
  rintro e w7 ⟨a7, c7, g7, m7, d7, l7, rfl, S7, b7⟩
  replace Hd := Hd.keep b7
  replace Hx := Hx.keep b7
  replace Hy := Hy.keep b7
  replace C := below_then C b7
  have Hz := Var.new S7
  have n7 : Below w7.heap.size w7 (w7.alloc (box a7 n c7 g7 m7 d7 l7 rz)) := below_new (Below.refl _ _)
  replace Hd := Hd.keep n7
  replace Hx := Hx.keep n7
  replace Hy := Hy.keep n7
  replace C := below_then C n7
  clear S7
  clear tx x0 x1 x2 x3
  have tx := Hx.box.lt
  obtain ⟨x0, x1, x2, x3⟩ := Hx.cells
  go_wp2_with fail
  refine (view_x _ _ _ _ _ _ _ _ X _ Hx.sees OX.out V HV.out).mono ?_
  rintro e w8 ⟨a8, c8, rfl, VX, b8⟩
  replace Hd := Hd.keep b8
  replace Hx := Hx.keep b8
  replace Hy := Hy.keep b8
  replace Hz := Hz.keep b8
  replace C := below_then C b8
  clear tx x0 x1 x2 x3
  have tx := Hz.box.lt
  obtain ⟨x0, x1, x2, x3⟩ := Hz.cells
  go_wp2_with fail
  refine (view_x _ _ _ _ _ _ _ _ Z _ Hz.sees OZ.out V HVZ.out).mono ?_
  rintro e w9 ⟨a9, c9, rfl, VZ, b9⟩
  replace Hd := Hd.keep b9
  replace Hx := Hx.keep b9
  replace Hy := Hy.keep b9
  replace Hz := Hz.keep b9
  replace VX := VX.keep b9
  replace C := below_then C b9
  clear tx x0 x1 x2 x3
  go_wp2_with fail
  refine (same_self _ _ _ _ _ _ _ _ VX VZ).mono ?_
  rintro e wa ⟨rfl, ba⟩
  replace C := below_then C ba
  go_wp2_with fail
  refine (Al.alive_any _).mono ?_
  rintro e wb ⟨rfl, bb⟩
  go_wp2
  go_ret
  exact ⟨rfl, below_then C bb⟩

set_option maxHeartbeats 4000000 in
theorem walk_down (a : Option Addr) (n c : Nat) (b : Option Addr) (m d : Nat) (D : Dev) (p o u : Int) (w : World) (s : SeesD w a n c b m d (0) true D) (hok : okD D = true) (hp : 0 ≤ p ∧ p < n) (ho : 0 ≤ o ∧ o < n) (hu : 0 ≤ u ∧ u < 18446744073709551616) (hg : greatD n m = false)
    (X Y Z : Dev) (LD : Int) (V : List Int) (HX : Hid (storedD D p u = X)) (HY : Hid (flushedD X o = Y)) (HZ : Hid (fencedD Y = Z)) (OX : Hid (okD X = true)) (OY : Hid (okD Y = true)) (OZ : Hid (okD Z = true))
    (ry rz : Bool) (HR : Hid (X.down = true)) (HRY : Hid (Y.down = ry)) (HRZ : Hid (Z.down = rz)) (HLD : Hid (loadR D o = LD)) (HLX : Hid (loadR X o = LD)) (HV : Hid (wordsL X.im X.dl = V)) (HVZ : Hid (wordsL Z.im Z.dl = V)) :
    Calls Try.prog 6 #[dev a n c b m d (0) true, .int .i64 p, .int .i64 o, .int .u64 u] w fun e w' => e = .returned (.bool true) ∧ Below w.heap.size w w' := by
  have HOK := Lib.hid hok
  have HC := Lib.hid (chk_ok hok)
  have HP := Lib.hid hp
  have HO := Lib.hid ho
  have hnt := s.im.top
  clear hok

  have C := below_new (o := box a n c b m d (0) true) (Below.refl w.heap.size w)
  have Hd := Var.new s
  go_enter Try.func6, Try.ntmps6
  go_wp2_with fail
  refine (rgreat_any _ _ _ _ _ _ _ _ _ s.dl.short).mono ?_
  rintro e w1 ⟨rfl, b1⟩
  replace Hd := Hd.keep b1
  replace C := below_then C b1
  rw [hg]
  have tx := Hd.box.lt
  obtain ⟨x0, x1, x2, x3⟩ := Hd.cells
  go_wp2_with fail
  refine (chk_b _ _ _ _ _ _ _ _ D _ Hd.sees).mono ?_
  rintro e w2 ⟨rfl, b2⟩
  replace Hd := Hd.keep b2
  replace C := below_then C b2
  rw [HC.out]
  clear tx x0 x1 x2 x3
  have tx := Hd.box.lt
  obtain ⟨x0, x1, x2, x3⟩ := Hd.cells
  go_wp2_with fail
  all_goals first | (exfalso; omega) | skip
  refine (store_x _ _ _ _ _ _ _ _ D p u _ Hd.sees HOK.out HP.out hu X HX.out true HR.out).mono ?_
  rintro e w3 ⟨a3, c3, g3, m3, d3, l3, rfl, S3, b3⟩
  replace Hd := Hd.keep b3
  replace C := below_then C b3
  have Hx := Var.new S3
  have n3 : Below w3.heap.size w3 (w3.alloc (box a3 n c3 g3 m3 d3 l3 true)) := below_new (Below.refl _ _)
  replace Hd := Hd.keep n3
  replace C := below_then C n3
  clear S3
  clear tx x0 x1 x2 x3
  have tx := Hd.box.lt
  obtain ⟨x0, x1, x2, x3⟩ := Hd.cells
  go_wp2_with fail
  refine (load_x _ _ _ _ _ _ _ _ D o _ Hd.sees HOK.out HO.out LD HLD.out).mono ?_
  rintro e w4 ⟨rfl, b4⟩
  replace Hd := Hd.keep b4
  replace Hx := Hx.keep b4
  replace C := below_then C b4
  clear tx x0 x1 x2 x3
  have tx := Hx.box.lt
  obtain ⟨x0, x1, x2, x3⟩ := Hx.cells
  go_wp2_with fail
  refine (load_x _ _ _ _ _ _ _ _ X o _ Hx.sees OX.out HO.out LD HLX.out).mono ?_
  rintro e w5 ⟨rfl, b5⟩
  replace Hd := Hd.keep b5
  replace Hx := Hx.keep b5
  replace C := below_then C b5
  clear tx x0 x1 x2 x3
  have tx := Hd.box.lt
  obtain ⟨x0, x1, x2, x3⟩ := Hd.cells
  have tz := Hx.box.lt
  obtain ⟨z0, z1, z2, z3⟩ := Hx.cells
  go_wp2_with fail
  refine (flush_x _ _ _ _ _ _ _ _ X o _ Hx.sees OX.out HO.out Y HY.out ry HRY.out).mono ?_
  rintro e w6 ⟨a6, c6, g6, m6, d6, l6, rfl, S6, b6⟩
  replace Hd := Hd.keep b6
  replace Hx := Hx.keep b6
  replace C := below_then C b6
  have Hy := Var.new S6
  have n6 : Below w6.heap.size w6 (w6.alloc (box a6 n c6 g6 m6 d6 l6 ry)) := below_new (Below.refl _ _)
  replace Hd := Hd.keep n6
  replace Hx := Hx.keep n6
  replace C := below_then C n6
  clear S6
  clear tx x0 x1 x2 x3 tz z0 z1 z2 z3
  have tx := Hx.box.lt
  obtain ⟨x0, x1, x2, x3⟩ := Hx.cells
  go_wp2_with fail
  refine (fence_x _ _ _ _ _ _ _ _ Y _ Hy.sees OY.out Z HZ.out rz HRZ.out).mono ?_
  rintro e w7 ⟨a7, c7, g7, m7, d7, l7, rfl, S7, b7⟩
  replace Hd := Hd.keep b7
  replace Hx := Hx.keep b7
  replace Hy := Hy.keep b7
  replace C := below_then C b7
  have Hz := Var.new S7
  have n7 : Below w7.heap.size w7 (w7.alloc (box a7 n c7 g7 m7 d7 l7 rz)) := below_new (Below.refl _ _)
  replace Hd := Hd.keep n7
  replace Hx := Hx.keep n7
  replace Hy := Hy.keep n7
  replace C := below_then C n7
  clear S7
  clear tx x0 x1 x2 x3
  have tx := Hx.box.lt
  obtain ⟨x0, x1, x2, x3⟩ := Hx.cells
  go_wp2_with fail
  refine (view_x _ _ _ _ _ _ _ _ X _ Hx.sees OX.out V HV.out).mono ?_
  rintro e w8 ⟨a8, c8, rfl, VX, b8⟩
  replace Hd := Hd.keep b8
  replace Hx := Hx.keep b8
  replace Hy := Hy.keep b8
  replace Hz := Hz.keep b8
  replace C := below_then C b8
  clear tx x0 x1 x2 x3
  have tx := Hz.box.lt
  obtain ⟨x0, x1, x2, x3⟩ := Hz.cells
  go_wp2_with fail
  refine (view_x _ _ _ _ _ _ _ _ Z _ Hz.sees OZ.out V HVZ.out).mono ?_
  rintro e w9 ⟨a9, c9, rfl, VZ, b9⟩
  replace Hd := Hd.keep b9
  replace Hx := Hx.keep b9
  replace Hy := Hy.keep b9
  replace Hz := Hz.keep b9
  replace VX := VX.keep b9
  replace C := below_then C b9
  clear tx x0 x1 x2 x3
  go_wp2_with fail
  refine (same_self _ _ _ _ _ _ _ _ VX VZ).mono ?_
  rintro e wa ⟨rfl, ba⟩
  replace C := below_then C ba
  go_wp2_with fail
  refine (Al.alive_any _).mono ?_
  rintro e wb ⟨rfl, bb⟩
  go_wp2
  go_ret
  exact ⟨rfl, below_then C bb⟩

set_option maxHeartbeats 4000000 in
theorem walk_same (a : Option Addr) (n c : Nat) (b : Option Addr) (m d : Nat) (l : Int) (D : Dev) (p o u : Int) (w : World) (s : SeesD w a n c b m d (l) false D) (hok : okD D = true) (hp : 0 ≤ p ∧ p < n) (ho : 0 ≤ o ∧ o < n) (hu : 0 ≤ u ∧ u < 18446744073709551616) (hg : greatD n m = false)
    (X Y Z : Dev) (LD : Int) (V : List Int) (HX : Hid (storedD D p u = X)) (HY : Hid (flushedD X o = Y)) (HZ : Hid (fencedD Y = Z)) (OX : Hid (okD X = true)) (OY : Hid (okD Y = true)) (OZ : Hid (okD Z = true))
    (ry rz : Bool) (HR : Hid (X.down = false)) (HRY : Hid (Y.down = ry)) (HRZ : Hid (Z.down = rz)) (HLD : Hid (loadR D o = LD)) (HLX : Hid (loadR X o = u)) (HV : Hid (wordsL X.im X.dl = V)) (HVZ : Hid (wordsL Z.im Z.dl = V)) (hl : l ≠ 0) (hop : o = p) :
    Calls Try.prog 6 #[dev a n c b m d (l) false, .int .i64 p, .int .i64 o, .int .u64 u] w fun e w' => e = .returned (.bool true) ∧ Below w.heap.size w w' := by
  have HOK := Lib.hid hok
  have HC := Lib.hid (chk_ok hok)
  have HP := Lib.hid hp
  have HO := Lib.hid ho
  have hnt := s.im.top
  clear hok
  have hb1 : (l != 0) = true := by simpa using hl
  have hb2 : (o == p) = true := by simpa using hop
  replace hop := Lib.hid hop
  clear hl
  have C := below_new (o := box a n c b m d (l) false) (Below.refl w.heap.size w)
  have Hd := Var.new s
  go_enter Try.func6, Try.ntmps6
  go_wp2_with fail
  refine (rgreat_any _ _ _ _ _ _ _ _ _ s.dl.short).mono ?_
  rintro e w1 ⟨rfl, b1⟩
  replace Hd := Hd.keep b1
  replace C := below_then C b1
  rw [hg]
  have tx := Hd.box.lt
  obtain ⟨x0, x1, x2, x3⟩ := Hd.cells
  go_wp2_with fail
  refine (chk_b _ _ _ _ _ _ _ _ D _ Hd.sees).mono ?_
  rintro e w2 ⟨rfl, b2⟩
  replace Hd := Hd.keep b2
  replace C := below_then C b2
  rw [HC.out]
  clear tx x0 x1 x2 x3
  have tx := Hd.box.lt
  obtain ⟨x0, x1, x2, x3⟩ := Hd.cells
  go_wp2_with fail
  all_goals first | (exfalso; omega) | skip
  refine (store_x _ _ _ _ _ _ _ _ D p u _ Hd.sees HOK.out HP.out hu X HX.out false HR.out).mono ?_
  rintro e w3 ⟨a3, c3, g3, m3, d3, l3, rfl, S3, b3⟩
  replace Hd := Hd.keep b3
  replace C := below_then C b3
  have Hx := Var.new S3
  have n3 : Below w3.heap.size w3 (w3.alloc (box a3 n c3 g3 m3 d3 l3 false)) := below_new (Below.refl _ _)
  replace Hd := Hd.keep n3
  replace C := below_then C n3
  clear S3
  clear tx x0 x1 x2 x3
  have tx := Hd.box.lt
  obtain ⟨x0, x1, x2, x3⟩ := Hd.cells
  go_wp2_with fail
  refine (load_x _ _ _ _ _ _ _ _ D o _ Hd.sees HOK.out HO.out LD HLD.out).mono ?_
  rintro e w4 ⟨rfl, b4⟩
  replace Hd := Hd.keep b4
  replace Hx := Hx.keep b4
  replace C := below_then C b4
  clear tx x0 x1 x2 x3
  have tx := Hx.box.lt
  obtain ⟨x0, x1, x2, x3⟩ := Hx.cells
  go_wp2_with fail
  refine (load_x _ _ _ _ _ _ _ _ X o _ Hx.sees OX.out HO.out u HLX.out).mono ?_
  rintro e w5 ⟨rfl, b5⟩
  replace Hd := Hd.keep b5
  replace Hx := Hx.keep b5
  replace C := below_then C b5
  clear tx x0 x1 x2 x3
  have tx := Hd.box.lt
  obtain ⟨x0, x1, x2, x3⟩ := Hd.cells
  have tz := Hx.box.lt
  obtain ⟨z0, z1, z2, z3⟩ := Hx.cells
  go_wp2_with fail
  refine (flush_x _ _ _ _ _ _ _ _ X o _ Hx.sees OX.out HO.out Y HY.out ry HRY.out).mono ?_
  rintro e w6 ⟨a6, c6, g6, m6, d6, l6, rfl, S6, b6⟩
  replace Hd := Hd.keep b6
  replace Hx := Hx.keep b6
  replace C := below_then C b6
  have Hy := Var.new S6
  have n6 : Below w6.heap.size w6 (w6.alloc (box a6 n c6 g6 m6 d6 l6 ry)) := below_new (Below.refl _ _)
  replace Hd := Hd.keep n6
  replace Hx := Hx.keep n6
  replace C := below_then C n6
  clear S6
  clear tx x0 x1 x2 x3 tz z0 z1 z2 z3
  have tx := Hx.box.lt
  obtain ⟨x0, x1, x2, x3⟩ := Hx.cells
  go_wp2_with fail
  refine (fence_x _ _ _ _ _ _ _ _ Y _ Hy.sees OY.out Z HZ.out rz HRZ.out).mono ?_
  rintro e w7 ⟨a7, c7, g7, m7, d7, l7, rfl, S7, b7⟩
  replace Hd := Hd.keep b7
  replace Hx := Hx.keep b7
  replace Hy := Hy.keep b7
  replace C := below_then C b7
  have Hz := Var.new S7
  have n7 : Below w7.heap.size w7 (w7.alloc (box a7 n c7 g7 m7 d7 l7 rz)) := below_new (Below.refl _ _)
  replace Hd := Hd.keep n7
  replace Hx := Hx.keep n7
  replace Hy := Hy.keep n7
  replace C := below_then C n7
  clear S7
  clear tx x0 x1 x2 x3
  have tx := Hx.box.lt
  obtain ⟨x0, x1, x2, x3⟩ := Hx.cells
  go_wp2_with fail
  refine (view_x _ _ _ _ _ _ _ _ X _ Hx.sees OX.out V HV.out).mono ?_
  rintro e w8 ⟨a8, c8, rfl, VX, b8⟩
  replace Hd := Hd.keep b8
  replace Hx := Hx.keep b8
  replace Hy := Hy.keep b8
  replace Hz := Hz.keep b8
  replace C := below_then C b8
  clear tx x0 x1 x2 x3
  have tx := Hz.box.lt
  obtain ⟨x0, x1, x2, x3⟩ := Hz.cells
  go_wp2_with fail
  refine (view_x _ _ _ _ _ _ _ _ Z _ Hz.sees OZ.out V HVZ.out).mono ?_
  rintro e w9 ⟨a9, c9, rfl, VZ, b9⟩
  replace Hd := Hd.keep b9
  replace Hx := Hx.keep b9
  replace Hy := Hy.keep b9
  replace Hz := Hz.keep b9
  replace VX := VX.keep b9
  replace C := below_then C b9
  clear tx x0 x1 x2 x3
  go_wp2_with fail
  refine (same_self _ _ _ _ _ _ _ _ VX VZ).mono ?_
  rintro e wa ⟨rfl, ba⟩
  replace C := below_then C ba
  go_wp2_with fail
  refine (Al.alive_any _).mono ?_
  rintro e wb ⟨rfl, bb⟩
  go_wp2
  go_ret
  exact ⟨rfl, below_then C bb⟩

set_option maxHeartbeats 4000000 in
theorem walk_other (a : Option Addr) (n c : Nat) (b : Option Addr) (m d : Nat) (l : Int) (D : Dev) (p o u : Int) (w : World) (s : SeesD w a n c b m d (l) false D) (hok : okD D = true) (hp : 0 ≤ p ∧ p < n) (ho : 0 ≤ o ∧ o < n) (hu : 0 ≤ u ∧ u < 18446744073709551616) (hg : greatD n m = false)
    (X Y Z : Dev) (LD : Int) (V : List Int) (HX : Hid (storedD D p u = X)) (HY : Hid (flushedD X o = Y)) (HZ : Hid (fencedD Y = Z)) (OX : Hid (okD X = true)) (OY : Hid (okD Y = true)) (OZ : Hid (okD Z = true))
    (ry rz : Bool) (HR : Hid (X.down = false)) (HRY : Hid (Y.down = ry)) (HRZ : Hid (Z.down = rz)) (HLD : Hid (loadR D o = LD)) (HLX : Hid (loadR X o = LD)) (HV : Hid (wordsL X.im X.dl = V)) (HVZ : Hid (wordsL Z.im Z.dl = V)) (hl : l ≠ 0) (hop : o ≠ p) :
    Calls Try.prog 6 #[dev a n c b m d (l) false, .int .i64 p, .int .i64 o, .int .u64 u] w fun e w' => e = .returned (.bool true) ∧ Below w.heap.size w w' := by
  have HOK := Lib.hid hok
  have HC := Lib.hid (chk_ok hok)
  have HP := Lib.hid hp
  have HO := Lib.hid ho
  have hnt := s.im.top
  clear hok
  have hb1 : (l != 0) = true := by simpa using hl
  have hb2 : (o == p) = false := by simpa using hop
  clear hop hl
  have C := below_new (o := box a n c b m d (l) false) (Below.refl w.heap.size w)
  have Hd := Var.new s
  go_enter Try.func6, Try.ntmps6
  go_wp2_with fail
  refine (rgreat_any _ _ _ _ _ _ _ _ _ s.dl.short).mono ?_
  rintro e w1 ⟨rfl, b1⟩
  replace Hd := Hd.keep b1
  replace C := below_then C b1
  rw [hg]
  have tx := Hd.box.lt
  obtain ⟨x0, x1, x2, x3⟩ := Hd.cells
  go_wp2_with fail
  refine (chk_b _ _ _ _ _ _ _ _ D _ Hd.sees).mono ?_
  rintro e w2 ⟨rfl, b2⟩
  replace Hd := Hd.keep b2
  replace C := below_then C b2
  rw [HC.out]
  clear tx x0 x1 x2 x3
  have tx := Hd.box.lt
  obtain ⟨x0, x1, x2, x3⟩ := Hd.cells
  go_wp2_with fail
  all_goals first | (exfalso; omega) | skip
  refine (store_x _ _ _ _ _ _ _ _ D p u _ Hd.sees HOK.out HP.out hu X HX.out false HR.out).mono ?_
  rintro e w3 ⟨a3, c3, g3, m3, d3, l3, rfl, S3, b3⟩
  replace Hd := Hd.keep b3
  replace C := below_then C b3
  have Hx := Var.new S3
  have n3 : Below w3.heap.size w3 (w3.alloc (box a3 n c3 g3 m3 d3 l3 false)) := below_new (Below.refl _ _)
  replace Hd := Hd.keep n3
  replace C := below_then C n3
  clear S3
  clear tx x0 x1 x2 x3
  have tx := Hd.box.lt
  obtain ⟨x0, x1, x2, x3⟩ := Hd.cells
  go_wp2_with fail
  refine (load_x _ _ _ _ _ _ _ _ D o _ Hd.sees HOK.out HO.out LD HLD.out).mono ?_
  rintro e w4 ⟨rfl, b4⟩
  replace Hd := Hd.keep b4
  replace Hx := Hx.keep b4
  replace C := below_then C b4
  clear tx x0 x1 x2 x3
  have tx := Hx.box.lt
  obtain ⟨x0, x1, x2, x3⟩ := Hx.cells
  go_wp2_with fail
  refine (load_x _ _ _ _ _ _ _ _ X o _ Hx.sees OX.out HO.out LD HLX.out).mono ?_
  rintro e w5 ⟨rfl, b5⟩
  replace Hd := Hd.keep b5
  replace Hx := Hx.keep b5
  replace C := below_then C b5
  clear tx x0 x1 x2 x3
  have tx := Hd.box.lt
  obtain ⟨x0, x1, x2, x3⟩ := Hd.cells
  have tz := Hx.box.lt
  obtain ⟨z0, z1, z2, z3⟩ := Hx.cells
  go_wp2_with fail
  refine (flush_x _ _ _ _ _ _ _ _ X o _ Hx.sees OX.out HO.out Y HY.out ry HRY.out).mono ?_
  rintro e w6 ⟨a6, c6, g6, m6, d6, l6, rfl, S6, b6⟩
  replace Hd := Hd.keep b6
  replace Hx := Hx.keep b6
  replace C := below_then C b6
  have Hy := Var.new S6
  have n6 : Below w6.heap.size w6 (w6.alloc (box a6 n c6 g6 m6 d6 l6 ry)) := below_new (Below.refl _ _)
  replace Hd := Hd.keep n6
  replace Hx := Hx.keep n6
  replace C := below_then C n6
  clear S6
  clear tx x0 x1 x2 x3 tz z0 z1 z2 z3
  have tx := Hx.box.lt
  obtain ⟨x0, x1, x2, x3⟩ := Hx.cells
  go_wp2_with fail
  refine (fence_x _ _ _ _ _ _ _ _ Y _ Hy.sees OY.out Z HZ.out rz HRZ.out).mono ?_
  rintro e w7 ⟨a7, c7, g7, m7, d7, l7, rfl, S7, b7⟩
  replace Hd := Hd.keep b7
  replace Hx := Hx.keep b7
  replace Hy := Hy.keep b7
  replace C := below_then C b7
  have Hz := Var.new S7
  have n7 : Below w7.heap.size w7 (w7.alloc (box a7 n c7 g7 m7 d7 l7 rz)) := below_new (Below.refl _ _)
  replace Hd := Hd.keep n7
  replace Hx := Hx.keep n7
  replace Hy := Hy.keep n7
  replace C := below_then C n7
  clear S7
  clear tx x0 x1 x2 x3
  have tx := Hx.box.lt
  obtain ⟨x0, x1, x2, x3⟩ := Hx.cells
  go_wp2_with fail
  refine (view_x _ _ _ _ _ _ _ _ X _ Hx.sees OX.out V HV.out).mono ?_
  rintro e w8 ⟨a8, c8, rfl, VX, b8⟩
  replace Hd := Hd.keep b8
  replace Hx := Hx.keep b8
  replace Hy := Hy.keep b8
  replace Hz := Hz.keep b8
  replace C := below_then C b8
  clear tx x0 x1 x2 x3
  have tx := Hz.box.lt
  obtain ⟨x0, x1, x2, x3⟩ := Hz.cells
  go_wp2_with fail
  refine (view_x _ _ _ _ _ _ _ _ Z _ Hz.sees OZ.out V HVZ.out).mono ?_
  rintro e w9 ⟨a9, c9, rfl, VZ, b9⟩
  replace Hd := Hd.keep b9
  replace Hx := Hx.keep b9
  replace Hy := Hy.keep b9
  replace Hz := Hz.keep b9
  replace VX := VX.keep b9
  replace C := below_then C b9
  clear tx x0 x1 x2 x3
  go_wp2_with fail
  refine (same_self _ _ _ _ _ _ _ _ VX VZ).mono ?_
  rintro e wa ⟨rfl, ba⟩
  replace C := below_then C ba
  go_wp2_with fail
  refine (Al.alive_any _).mono ?_
  rintro e wb ⟨rfl, bb⟩
  go_wp2
  go_ret
  exact ⟨rfl, below_then C bb⟩

set_option maxHeartbeats 4000000 in
theorem walk_guard (a : Option Addr) (n c : Nat) (b : Option Addr) (m d : Nat) (l : Int) (q : Bool) (D : Dev) (p o u : Int) (w : World) (s : SeesD w a n c b m d l q D) (hg : greatD n m = true ∨ (greatD n m = false ∧ okD D = false) ∨ (greatD n m = false ∧ okD D = true ∧ (p < 0 ∨ (0 ≤ p ∧ (n : Int) ≤ p) ∨ (0 ≤ p ∧ p < n ∧ o < 0) ∨ (0 ≤ p ∧ p < n ∧ 0 ≤ o ∧ (n : Int) ≤ o)))) :
    Calls Try.prog 6 #[dev a n c b m d l q, .int .i64 p, .int .i64 o, .int .u64 u] w fun e w' => e = .returned (.bool true) ∧ Below w.heap.size w w' := by
  have C := below_new (o := box a n c b m d l q) (Below.refl w.heap.size w)
  have Hd := Var.new s
  have hnt := s.im.top
  rcases hg with hg | ⟨hg, hok⟩ | ⟨hg, hok, hr⟩
  · go_enter Try.func6, Try.ntmps6
    go_wp2_with fail
    refine (rgreat_any _ _ _ _ _ _ _ _ _ s.dl.short).mono ?_
    rintro e w1 ⟨rfl, b1⟩
    go_wp2_with fail
    refine (Al.alive_any _).mono ?_
    rintro e wb ⟨rfl, bb⟩
    go_wp2
    go_ret
    exact ⟨rfl, below_then (below_then C b1) bb⟩
  · have hc : chk D = 8 := chk_bad (by rw [hok]; decide)
    go_enter Try.func6, Try.ntmps6
    go_wp2_with fail
    refine (rgreat_any _ _ _ _ _ _ _ _ _ s.dl.short).mono ?_
    rintro e w1 ⟨rfl, b1⟩
    replace Hd := Hd.keep b1
    have td := Hd.box.lt
    obtain ⟨x0, x1, x2, x3⟩ := Hd.cells
    go_wp2_with fail
    refine (chk_b _ _ _ _ _ _ _ _ D _ Hd.sees).mono ?_
    rintro e w2 ⟨rfl, b2⟩
    go_wp2_with fail
    refine (Al.alive_any _).mono ?_
    rintro e wb ⟨rfl, bb⟩
    go_wp2
    go_ret
    exact ⟨rfl, below_then (below_then (below_then C b1) b2) bb⟩
  · have hc : chk D = 0 := chk_ok hok
    rcases hr with h1 | ⟨h1, h2⟩ | ⟨h1, h2, h3⟩ | ⟨h1, h2, h3, h4⟩
    all_goals
      go_enter Try.func6, Try.ntmps6
      go_wp2_with fail
      refine (rgreat_any _ _ _ _ _ _ _ _ _ s.dl.short).mono ?_
      rintro e w1 ⟨rfl, b1⟩
      replace Hd := Hd.keep b1
      have td := Hd.box.lt
      obtain ⟨x0, x1, x2, x3⟩ := Hd.cells
      go_wp2_with fail
      refine (chk_b _ _ _ _ _ _ _ _ D _ Hd.sees).mono ?_
      rintro e w2 ⟨rfl, b2⟩
      replace Hd := Hd.keep b2
      clear x0 x1 x2 x3 td
      have td := Hd.box.lt
      obtain ⟨x0, x1, x2, x3⟩ := Hd.cells
      go_wp2_with fail
      all_goals first | (exfalso; omega) | skip
      all_goals
        refine (Al.alive_any _).mono ?_
        rintro e wb ⟨rfl, bb⟩
        go_wp2
        go_ret
        exact ⟨rfl, below_then (below_then (below_then C b1) b2) bb⟩


theorem walk (a : Option Addr) (n c : Nat) (b : Option Addr) (m d : Nat) (l : Int) (q : Bool) (D : Dev) (p o u : Int) (hp : -9223372036854775808 ≤ p ∧ p ≤ 9223372036854775807) (ho : -9223372036854775808 ≤ o ∧ o ≤ 9223372036854775807) (hu : 0 ≤ u ∧ u < 18446744073709551616) (w : World) (s : SeesD w a n c b m d l q D) :
    Calls Try.prog 6 #[dev a n c b m d l q, .int .i64 p, .int .i64 o, .int .u64 u] w fun e w' => e = .returned (.bool true) ∧ Below w.heap.size w w' := by
  have hn := s.im.len
  by_cases hg : greatD n m = true
  · exact walk_guard a n c b m d l q D p o u w s (.inl hg)
  · have hg' : greatD n m = false := by simpa using hg
    by_cases hok : okD D = true
    · by_cases hr : 0 ≤ p ∧ p < n ∧ 0 ≤ o ∧ o < n
      · have h1 : 0 ≤ p ∧ p < D.im.length := by omega
        have h2 : 0 ≤ o ∧ o < D.im.length := by omega
        have hX := ok_stored (v := u) hok h1
        have hY := ok_flushed (p := o) hX
        have hZ := ok_fenced hY
        have hld := load_stored (u := u) hok h1 h2
        have hds := down_stored (p := p) (u := u) hok
        have hleft := s.left
        have hdown := s.down
        obtain ⟨⟨-, -, -, h3⟩, -⟩ := ok_parts hok
        have hVZ : wordsL (fencedD (flushedD (storedD D p u) o)).im (fencedD (flushedD (storedD D p u) o)).dl = wordsL (storedD D p u).im (storedD D p u).dl := by rw [words_fenced hY, words_flushed]
        by_cases h0 : D.left = 0
        · have hm : made D = false := by unfold made; rw [decide_eq_true h0]; rfl
          rw [hm] at hld hds
          rw [if_neg (by simp)] at hld
          obtain rfl : l = 0 := by omega
          cases hq : q
          · subst hq
            exact walk_up a n c b m d D p o u w s hok ⟨h1.1, by omega⟩ ⟨h2.1, by omega⟩ hu hg' _ _ _ _ _ (Lib.hid rfl) (Lib.hid rfl) (Lib.hid rfl) (Lib.hid hX) (Lib.hid hY) (Lib.hid hZ) _ _ (Lib.hid hds) (Lib.hid rfl) (Lib.hid rfl) (Lib.hid rfl) (Lib.hid hld) (Lib.hid rfl) (Lib.hid hVZ)
          · subst hq
            exact walk_down a n c b m d D p o u w s hok ⟨h1.1, by omega⟩ ⟨h2.1, by omega⟩ hu hg' _ _ _ _ _ (Lib.hid rfl) (Lib.hid rfl) (Lib.hid rfl) (Lib.hid hX) (Lib.hid hY) (Lib.hid hZ) _ _ (Lib.hid hds) (Lib.hid rfl) (Lib.hid rfl) (Lib.hid rfl) (Lib.hid hld) (Lib.hid rfl) (Lib.hid hVZ)
        · have hm : made D = true := by unfold made; rw [decide_eq_false h0]; rfl
          rw [hm] at hld hds
          have hq : q = false := by
            cases hq : q
            · rfl
            · exact absurd (h3 (hdown.trans hq)) h0
          subst hq
          by_cases h4 : o = p
          · rw [if_pos ⟨rfl, h4⟩] at hld
            exact walk_same a n c b m d l D p o u w s hok ⟨h1.1, by omega⟩ ⟨h2.1, by omega⟩ hu hg' _ _ _ _ _ (Lib.hid rfl) (Lib.hid rfl) (Lib.hid rfl) (Lib.hid hX) (Lib.hid hY) (Lib.hid hZ) _ _ (Lib.hid hds) (Lib.hid rfl) (Lib.hid rfl) (Lib.hid rfl) (Lib.hid hld) (Lib.hid rfl) (Lib.hid hVZ) (by omega) h4
          · rw [if_neg (fun h => h4 h.2)] at hld
            exact walk_other a n c b m d l D p o u w s hok ⟨h1.1, by omega⟩ ⟨h2.1, by omega⟩ hu hg' _ _ _ _ _ (Lib.hid rfl) (Lib.hid rfl) (Lib.hid rfl) (Lib.hid hX) (Lib.hid hY) (Lib.hid hZ) _ _ (Lib.hid hds) (Lib.hid rfl) (Lib.hid rfl) (Lib.hid rfl) (Lib.hid hld) (Lib.hid rfl) (Lib.hid hVZ) (by omega) h4
      · exact walk_guard a n c b m d l q D p o u w s (.inr (.inr ⟨hg', hok, by omega⟩))
    · exact walk_guard a n c b m d l q D p o u w s (.inr (.inl ⟨hg', by simpa using hok⟩))

/-! The row's step. -/
set_option maxRecDepth 100000 in
theorem lifted (os : Os) (started : os.Started) (H : Type) (enc : TypeId × Value → H) :
    ReturnsInHanded {} Try.checked os 6 .any (Rows.cacheLastSpec.pre6 enc Try.prog Try.f6 Rows.cacheLastRow.domain false) (Rows.cacheLastSpec.post enc Try.prog Try.f6 false true false false) := by
  refine returnsInHanded_of_change_sized (C := Try.checked) St.own started (by kernel_rfl) Try.func6
    (ChangeSpec.witness6 (enc := enc) (C := Try.checked) false ⟨#[], #[.agg #[.slice .none 0 0, .slice .none 0 0, .int .i64 0, .bool false], .int .i64 0, .int .i64 0, .int .u64 0], []⟩ 8 (by kernel_rfl) (by kernel_rfl) (by kernel_rfl) (by kernel_rfl)) ?_
  intro W base args ds gs before hval0 hW hcnd hsz0 _
  have hsz : (DataW.weightsEach Try.prog (Try.f6.params.toList ++ Rows.cacheLastSpec.plain.varTypes Try.prog) (ds ++ gs)).all (· ≤ reachBytes) = true := hsz0
  have hval : ∀ (j : Nat) t v, Try.f6.params[j]? = some t → args[j]? = some v → Value.okWide Try.prog W .any base t v := hval0
  have hW' := hW
  obtain ⟨p, q, hA0, hV, rfl, hfz, hnd⟩ := hW
  have hA : DataW.TrodAll enc Try.prog W 0 (fun _ => true) true Try.f6.params.toList args.toList ds p := hA0
  rw [Try.params6] at hA hval hsz
  obtain ⟨v0, vs0, d0, ds0, p0, q0, hargs, rfl, rfl, h0, r0⟩ := trodAll_cons hA
  obtain ⟨v1, vs1, d1, ds1, p1, q1, rfl, rfl, rfl, h1, r1⟩ := trodAll_cons r0
  obtain ⟨v2, vs2, d2, ds2, p2, q2, rfl, rfl, rfl, h2, r2⟩ := trodAll_cons r1
  obtain ⟨v3, vs3, d3, ds3, p3, q3, rfl, rfl, rfl, h3, r3⟩ := trodAll_cons r2
  obtain ⟨rfl, rfl, rfl⟩ := trodAll_nil r3
  obtain rfl : args = #[v0, v1, v2, v3] := by cases args; simp_all
  obtain ⟨a0, n0, c0, b0, m0, e0, l0, b0', D0, rfl, s0⟩ := Dv.open_dev (hval 0 25 v0 rfl rfl) h0 (fun n hn => by
    have := List.all_eq_true.1 hsz _ (DataW.weights_mem_each (j := 0) (t := 25) rfl rfl n hn)
    exact of_decide_eq_true this)
  obtain ⟨a1, rfl, rfl, rfl, w1⟩ := open_int Try.underlying3 (hval 1 3 v1 rfl rfl) h1
  obtain ⟨a2, rfl, rfl, rfl, w2⟩ := open_int Try.underlying3 (hval 2 3 v2 rfl rfl) h2
  obtain ⟨a3, rfl, rfl, rfl, w3⟩ := open_int Try.underlying26 (hval 3 26 v3 rfl rfl) h3
  refine (walk a0 n0 c0 b0 m0 e0 l0 b0' D0 a1 a2 a3 (St.i64_of_wf w1) (St.i64_of_wf w2) (St.u64_of_wf w3) W s0).mono fun e W' ⟨he, hb⟩ => ?_
  subst he
  exact St.law_done St.laid (by kernel_rfl) rfl rfl Try.underlying4 rfl hW' hb

theorem over : Rows.cacheLastRow.holds Try.pinned (OpenSpec.ofChange Rows.cacheLastSpec) :=
  OpenClaim.holds_of_wide 6 Try.f6 rfl rfl rfl rfl rfl rfl rfl ⟨rfl, rfl, rfl, rfl, rfl⟩ rfl rfl rfl rfl rfl (by kernel_rfl) Try.func6 (by kernel_rfl)
    (of_decide_eq_true (by kernel_rfl)) (by unfold Func.isWrapper; first | (rw [if_pos (by decide +kernel)]; kernel_rfl) | (rw [if_neg (by decide +kernel)]; exact ⟨rfl, rfl⟩))
    (fun os started H enc _ => lifted os started H enc)
theorem proved : Rows.CacheLastSaid := over
#print axioms proved
end Go.Proofs.Ytekgjnbijopieaa.cacheLast

