/-
  Contracts of ballastref07: Copy, Read.
-/
import Derived.Test.YtepiiiekcmbpaaaDoorTwd
import Derived.Test.YtepiiiekcmbpaaaDoorSbr
import Derived.LoopN
import Derived.Handy
import Derived.IntWalk
namespace Go.Proofs.YtepiiiekcmbpaaaDoor.Tw
open Go.RowKit Go.Proofs.YtepiiiekcmbpaaaDoor.Sl Go.Proofs.YtepiiiekcmbpaaaDoor.St Go.Proofs.YtepiiiekcmbpaaaDoor.Bits Go.Proofs.YtepiiiekcmbpaaaDoor.Wd Go.Proofs.YtepiiiekcmbpaaaDoor.Su Go.Proofs.YtepiiiekcmbpaaaDoor.Ir Go.Proofs.YtepiiiekcmbpaaaDoor.Sb Go.Proofs.YtepiiiekcmbpaaaDoor.Iu Go.Proofs.YtepiiiekcmbpaaaDoor.Dv
set_option maxRecDepth 100000

theorem rread6_x (a : Option Addr) (n c : Nat) (xs : List Int) (w : World) (va : Sees w .u64 a n c xs) (r p q : Int) (h : readE xs = r ∧ readW xs = p ∧ readT xs = q) :
    Calls Tryd.prog 40 #[.slice a n c] w fun e w' => e = .returned (.tuple #[.agg #[.int .i64 p, .int .i64 q], .int .i64 r]) ∧ Below w.heap.size w w' := by
  obtain ⟨rfl, rfl, rfl⟩ := h
  exact rread6_any a n c xs w va
set_option maxHeartbeats 1000000 in
theorem rcopy_0 (a : Option Addr) (n c : Nat) (xs : List Int) (w : World) (va : Sees w .u64 a n c xs) (hn : 16 ≤ n) :
    Calls Tryd.prog 31 #[.slice a n c, .int .i64 0] w fun e w' => e = .returned (.tuple #[.agg #[.int .i64 (cpW xs 0), .int .i64 (cpT xs 0)], .bool (okI xs 0)]) ∧ Below w.heap.size w w' := by
  have htop := va.top
  have hle := va.le
  have hlx := va.len
  obtain ⟨b, off, rfl⟩ := va.lies (by omega)
  obtain ⟨ad, had, hrun⟩ := run_cut b off n c 0 8 0 8 rfl rfl (by omega) hle
  have B1 := below_new (o := .cells #[.int .i64 0, .int .i64 0] 26) (Below.refl w.heap.size w)
  have V := (va.keep B1).cut 0 8 (by omega) had
  clear had
  have h3 := cp_three (xs := xs) (k := 0)
  have hc : (xs.drop 0).take 8 = copyI xs 0 := rfl
  rw [hc] at V
  rw [hlx] at h3
  clear hc
  have X1 := Box.new w #[.int .i64 0, .int .i64 0] 26
  generalize hR : readE (copyI xs 0) = r at h3
  generalize hP : readW (copyI xs 0) = p at h3
  generalize hQ : readT (copyI xs 0) = q at h3
  rcases (by
    by_cases r0 : r = 0
    · by_cases p0 : p = n
      · exact .inl ⟨r0, p0⟩
      · exact .inr (.inl ⟨r0, p0⟩)
    · exact .inr (.inr r0) : (r = 0 ∧ p = (n : Int)) ∨ (r = 0 ∧ ¬ p = (n : Int)) ∨ ¬ r = 0) with ⟨r0, p0⟩ | ⟨r0, p0⟩ | r0
  · obtain ⟨e1, e2, e3⟩ : okI xs 0 = true ∧ cpW xs 0 = p ∧ cpT xs 0 = q := by
      rcases h3 with ⟨g1, g2, g3, g4, g5⟩ | ⟨g1, g2, _⟩
      · exact ⟨g1, g4, g5⟩
      · exact absurd p0 (g2 r0)
    replace e1 := Lib.hid e1
    replace e2 := Lib.hid e2
    replace e3 := Lib.hid e3
    clear h3
    go_enter Tryd.func31, Tryd.ntmps31
    go_wp2_with fail
    refine (rread6_x _ _ _ _ _ V r p q ⟨hR, hP, hQ⟩).mono ?_
    rintro e w1 ⟨rfl, b1⟩
    have C0 := below_then B1 b1
    have X2 := X1.keep b1
    have hl := X2.lt
    have y0 : w1.cell? ⟨w.heap.size, 0, none⟩ = some (Value.int .i64 0) := X2.cell 0
    have y1 : w1.cell? ⟨w.heap.size, 1, none⟩ = some (Value.int .i64 0) := X2.cell 1
    have f0 := X2.soft 0
    have f1 := X2.soft 1
    go_wp2_with fail
    all_goals first | (exfalso; omega) | skip
    refine bodyPost_ret (by simp [results, Tryd.results31, go_sem, hl, y0, y1]; try rfl) rfl ?_
    rw [e1.out, e2.out, e3.out]
    refine ⟨by first | rfl | rw [p0], ?_⟩
    repeat' (first | (with_reducible refine Below.setCell ?_ (by simp) _) | (with_reducible refine below_new ?_) | with_reducible exact C0)
  all_goals
    obtain ⟨e1, e2, e3⟩ : okI xs 0 = false ∧ cpW xs 0 = 0 ∧ cpT xs 0 = 0 := by
      rcases h3 with ⟨g1, g2, g3, g4, g5⟩ | ⟨g1, g2, g3, g4⟩
      · first | exact absurd g2 r0 | exact absurd g3 p0
      · exact ⟨g1, g3, g4⟩
    replace e1 := Lib.hid e1
    replace e2 := Lib.hid e2
    replace e3 := Lib.hid e3
    clear h3
    go_enter Tryd.func31, Tryd.ntmps31
    go_wp2_with fail
    refine (rread6_x _ _ _ _ _ V r p q ⟨hR, hP, hQ⟩).mono ?_
    rintro e w1 ⟨rfl, b1⟩
    have C0 := below_then B1 b1
    have X2 := X1.keep b1
    have hl := X2.lt
    have y0 : w1.cell? ⟨w.heap.size, 0, none⟩ = some (Value.int .i64 0) := X2.cell 0
    have y1 : w1.cell? ⟨w.heap.size, 1, none⟩ = some (Value.int .i64 0) := X2.cell 1
    have f0 := X2.soft 0
    have f1 := X2.soft 1
    go_wp2_with fail
    all_goals first | (exfalso; omega) | skip
    refine bodyPost_ret (by simp [results, Tryd.results31, go_sem, hl, y0, y1]; try rfl) rfl ?_
    rw [e1.out, e2.out, e3.out]
    refine ⟨by first | rfl | rw [p0], ?_⟩
    repeat' (first | (with_reducible refine Below.setCell ?_ (by simp) _) | (with_reducible refine below_new ?_) | with_reducible exact C0)
set_option maxHeartbeats 1000000 in
theorem rcopy_1 (a : Option Addr) (n c : Nat) (xs : List Int) (w : World) (va : Sees w .u64 a n c xs) (hn : 16 ≤ n) :
    Calls Tryd.prog 31 #[.slice a n c, .int .i64 1] w fun e w' => e = .returned (.tuple #[.agg #[.int .i64 (cpW xs 1), .int .i64 (cpT xs 1)], .bool (okI xs 1)]) ∧ Below w.heap.size w w' := by
  have htop := va.top
  have hle := va.le
  have hlx := va.len
  obtain ⟨b, off, rfl⟩ := va.lies (by omega)
  obtain ⟨ad, had, hrun⟩ := run_cut b off n c 8 8 8 16 rfl rfl (by omega) hle
  have B1 := below_new (o := .cells #[.int .i64 0, .int .i64 0] 26) (Below.refl w.heap.size w)
  have V := (va.keep B1).cut 8 8 (by omega) had
  clear had
  have h3 := cp_three (xs := xs) (k := 1)
  have hc : (xs.drop 8).take 8 = copyI xs 1 := rfl
  rw [hc] at V
  rw [hlx] at h3
  clear hc
  have X1 := Box.new w #[.int .i64 0, .int .i64 0] 26
  generalize hR : readE (copyI xs 1) = r at h3
  generalize hP : readW (copyI xs 1) = p at h3
  generalize hQ : readT (copyI xs 1) = q at h3
  rcases (by
    by_cases r0 : r = 0
    · by_cases p0 : p = n
      · exact .inl ⟨r0, p0⟩
      · exact .inr (.inl ⟨r0, p0⟩)
    · exact .inr (.inr r0) : (r = 0 ∧ p = (n : Int)) ∨ (r = 0 ∧ ¬ p = (n : Int)) ∨ ¬ r = 0) with ⟨r0, p0⟩ | ⟨r0, p0⟩ | r0
  · obtain ⟨e1, e2, e3⟩ : okI xs 1 = true ∧ cpW xs 1 = p ∧ cpT xs 1 = q := by
      rcases h3 with ⟨g1, g2, g3, g4, g5⟩ | ⟨g1, g2, _⟩
      · exact ⟨g1, g4, g5⟩
      · exact absurd p0 (g2 r0)
    replace e1 := Lib.hid e1
    replace e2 := Lib.hid e2
    replace e3 := Lib.hid e3
    clear h3
    go_enter Tryd.func31, Tryd.ntmps31
    go_wp2_with fail
    refine (rread6_x _ _ _ _ _ V r p q ⟨hR, hP, hQ⟩).mono ?_
    rintro e w1 ⟨rfl, b1⟩
    have C0 := below_then B1 b1
    have X2 := X1.keep b1
    have hl := X2.lt
    have y0 : w1.cell? ⟨w.heap.size, 0, none⟩ = some (Value.int .i64 0) := X2.cell 0
    have y1 : w1.cell? ⟨w.heap.size, 1, none⟩ = some (Value.int .i64 0) := X2.cell 1
    have f0 := X2.soft 0
    have f1 := X2.soft 1
    go_wp2_with fail
    all_goals first | (exfalso; omega) | skip
    refine bodyPost_ret (by simp [results, Tryd.results31, go_sem, hl, y0, y1]; try rfl) rfl ?_
    rw [e1.out, e2.out, e3.out]
    refine ⟨by first | rfl | rw [p0], ?_⟩
    repeat' (first | (with_reducible refine Below.setCell ?_ (by simp) _) | (with_reducible refine below_new ?_) | with_reducible exact C0)
  all_goals
    obtain ⟨e1, e2, e3⟩ : okI xs 1 = false ∧ cpW xs 1 = 0 ∧ cpT xs 1 = 0 := by
      rcases h3 with ⟨g1, g2, g3, g4, g5⟩ | ⟨g1, g2, g3, g4⟩
      · first | exact absurd g2 r0 | exact absurd g3 p0
      · exact ⟨g1, g3, g4⟩
    replace e1 := Lib.hid e1
    replace e2 := Lib.hid e2
    replace e3 := Lib.hid e3
    clear h3
    go_enter Tryd.func31, Tryd.ntmps31
    go_wp2_with fail
    refine (rread6_x _ _ _ _ _ V r p q ⟨hR, hP, hQ⟩).mono ?_
    rintro e w1 ⟨rfl, b1⟩
    have C0 := below_then B1 b1
    have X2 := X1.keep b1
    have hl := X2.lt
    have y0 : w1.cell? ⟨w.heap.size, 0, none⟩ = some (Value.int .i64 0) := X2.cell 0
    have y1 : w1.cell? ⟨w.heap.size, 1, none⟩ = some (Value.int .i64 0) := X2.cell 1
    have f0 := X2.soft 0
    have f1 := X2.soft 1
    go_wp2_with fail
    all_goals first | (exfalso; omega) | skip
    refine bodyPost_ret (by simp [results, Tryd.results31, go_sem, hl, y0, y1]; try rfl) rfl ?_
    rw [e1.out, e2.out, e3.out]
    refine ⟨by first | rfl | rw [p0], ?_⟩
    repeat' (first | (with_reducible refine Below.setCell ?_ (by simp) _) | (with_reducible refine below_new ?_) | with_reducible exact C0)

set_option maxHeartbeats 1000000 in
theorem rread_any (a : Option Addr) (n c : Nat) (xs : List Int) (w : World) (va : Sees w .u64 a n c xs) :
    Calls Tryd.prog 17 #[.slice a n c] w fun e w' => e = .returned (.tuple #[.agg #[.int .i64 (twW xs), .int .i64 (twT xs)], .agg #[.bool (twA xs 0), .bool (twA xs 1)], .int .i64 (twE xs)]) ∧ Below w.heap.size w w' := by
  have hlx := va.len
  have B1 := below_new (o := .cells #[.bool false, .bool false] 27) (below_new (o := .cells #[.int .i64 0, .int .i64 0] 26) (Below.refl w.heap.size w))
  have X1 := (Box.new w #[.int .i64 0, .int .i64 0] 26).alloc (.cells #[.bool false, .bool false] 27)
  have Y1 := Box.new1 w (.cells #[.int .i64 0, .int .i64 0] 26) #[.bool false, .bool false] 27
  by_cases hi : Img n
  · have hn := img_bd hi
    have hi' : Img xs.length := by rw [hlx]; exact hi
    have r0 := fun w' (V : Sees w' .u64 a n c xs) => rcopy_0 a n c xs w' V (by omega)
    have r1 := fun w' (V : Sees w' .u64 a n c xs) => rcopy_1 a n c xs w' V (by omega)
    have HT := tw_all hi'
    generalize hA : cpW xs 0 = A at r0 HT
    generalize hB : cpT xs 0 = B at r0 HT
    generalize hC : cpW xs 1 = C at r1 HT
    generalize hD : cpT xs 1 = D at r1 HT
    generalize hO : okI xs 0 = o at r0 HT
    generalize hP : okI xs 1 = p at r1 HT
    obtain ⟨t1, t2, t3, t4, t5⟩ := HT
    replace t1 := Lib.hid t1
    replace t2 := Lib.hid t2
    replace t3 := Lib.hid t3
    replace t4 := Lib.hid t4
    replace t5 := Lib.hid t5
    clear hA hB hC hD hO hP hi' hn
    cases o <;> cases p
    all_goals
      go_enter Tryd.func17, Tryd.ntmps17
      go_wp2_with fail
      refine (rcheck_yes _ n c _ hi).mono ?_
      rintro e w1 ⟨rfl, rfl⟩
      go_wp2_with fail
      refine (r0 _ (va.keep B1)).mono ?_
      rintro e w2 ⟨rfl, b2⟩
      have C2 := below_new (o := .cells #[.int .i64 A, .int .i64 B] 26) (below_then B1 b2)
      have X2 := (X1.keep b2).alloc (.cells #[.int .i64 A, .int .i64 B] 26)
      have Y2 := (Y1.keep b2).alloc (.cells #[.int .i64 A, .int .i64 B] 26)
      have Z2 := Box.new w2 #[.int .i64 A, .int .i64 B] 26
      go_wp2_with fail
      refine (r1 _ (va.keep C2)).mono ?_
      rintro e w3 ⟨rfl, b3⟩
      have C3 := below_then C2 b3
      have X3 := X2.keep b3
      have Y3 := Y2.keep b3
      have Z3 := Z2.keep b3
      clear X1 Y1 X2 Y2 Z2 C2 b2 b3 r0 r1 B1
      have lx := X3.lt
      have ly := Y3.lt
      have lz := Z3.lt
      have x0 : w3.cell? ⟨w.heap.size, 0, none⟩ = some (Value.int .i64 0) := X3.cell 0
      have x1 : w3.cell? ⟨w.heap.size, 1, none⟩ = some (Value.int .i64 0) := X3.cell 1
      have y0 : w3.cell? ⟨w.heap.size + 1, 0, none⟩ = some (Value.bool false) := Y3.cell 0
      have y1 : w3.cell? ⟨w.heap.size + 1, 1, none⟩ = some (Value.bool false) := Y3.cell 1
      have z0 : w3.cell? ⟨w2.heap.size, 0, none⟩ = some (Value.int .i64 A) := Z3.cell 0
      have z1 : w3.cell? ⟨w2.heap.size, 1, none⟩ = some (Value.int .i64 B) := Z3.cell 1
      have f0 := X3.soft 0
      have f1 := X3.soft 1
      have g0 := Y3.soft 0
      have g1 := Y3.soft 1
      go_wp2_with fail
      refine bodyPost_ret (by simp [results, Tryd.results17, go_sem, lx, ly, x0, x1, y0, y1]; try rfl) rfl ?_
      rw [t1.out, t2.out, t3.out, t4.out, t5.out]
      refine ⟨rfl, ?_⟩
      repeat' (first | (with_reducible refine Below.setCell ?_ (by simp) _) | (with_reducible refine below_new ?_) | with_reducible exact C3)
  · have hE := Lib.hid (tw_bad (xs := xs) (by rw [hlx]; exact hi))
    obtain ⟨z1, z2, z3, _, _⟩ := tw_zero (xs := xs) (by rw [hE.out]; decide)
    have z4 := z3 0
    have z5 := z3 1
    replace z1 := Lib.hid z1
    replace z2 := Lib.hid z2
    replace z4 := Lib.hid z4
    replace z5 := Lib.hid z5
    clear z3
    go_enter Tryd.func17, Tryd.ntmps17
    go_wp2_with fail
    refine (rcheck_no _ n c _ hi).mono ?_
    rintro e w1 ⟨rfl, rfl⟩
    go_wp2_with fail
    refine bodyPost_ret (by simp [results, Tryd.results17, go_sem]; try rfl) rfl ?_
    rw [hE.out, z1.out, z2.out, z4.out, z5.out]
    refine ⟨rfl, ?_⟩
    repeat' (first | (with_reducible refine Below.setCell ?_ (by simp) _) | (with_reducible refine below_new ?_) | with_reducible exact Below.refl _ _)
end Go.Proofs.YtepiiiekcmbpaaaDoor.Tw
