/-
  The chapter's examples hold.
-/
import Derived.Test.YtbgeinaldkjddaaImageu
namespace Go.Proofs.Ytbgeinaldkjddaa.Ia
open Go.RowKit Go.Proofs.Ytbgeinaldkjddaa.Sl Go.Proofs.Ytbgeinaldkjddaa.St Go.Proofs.Ytbgeinaldkjddaa.Ir Go.Proofs.Ytbgeinaldkjddaa.Iu
set_option maxRecDepth 100000

theorem sees_two (W : World) (k : IntKind) (e : TypeId) (x y : Int) (hx : (Lit.int k x).wf = true) (hy : (Lit.int k y).wf = true) :
    Sees (W.alloc (.cells #[.int k x, .int k y] e)) k (some ⟨W.heap.size, 0, none⟩) 2 2 [x, y] := by
  refine ⟨rfl, Nat.le_refl _, by omega, by simp [hx, hy], fun h => by simp at h, .inr ⟨_, _, rfl, fun i hi => ?_⟩⟩
  rcases (by omega : i = 0 ∨ i = 1) with rfl | rfl <;> simp

theorem img256 : Img 256 := by decide
theorem new256 (w : World) : Calls Try.prog 10 #[.int .i64 256] w
    fun e w' => ∃ a c, e = .returned (.tuple #[.slice a 256 c, .int .i64 0]) ∧ Sees w' .u64 a 256 c (List.replicate 256 0) ∧ Below w.heap.size w w' :=
  (Im.new_yes 256 w img256).mono fun _ _ ⟨a, c, h, hm⟩ => ⟨a, c, h, hm.sees (wf_zero 256) (by decide), hm.2⟩
theorem line17 (a : Option Addr) (c : Nat) (w : World) : Calls Try.prog 13 #[.slice a 256 c, .int .i64 17] w
    fun e w' => e = .returned (.tuple #[.int .i64 2, .int .i64 16, .int .i64 0]) ∧ w = w' := Im.line_yes a 256 c 17 w img256 (by decide) (by decide)
theorem put9 (a : Option Addr) (c : Nat) (b : Option Addr) (d : Nat) (w : World) (va : Sees w .u64 a 256 c (List.replicate 256 0)) (vb : Sees w .u64 b 2 d [5, 6]) :
    Calls Try.prog 12 #[.slice a 256 c, .int .i64 9, .slice b 2 d] w
      fun e w' => ∃ a c, e = .returned (.tuple #[.slice a 256 c, .int .i64 0]) ∧ Sees w' .u64 a 256 c (putL (List.replicate 256 0) 9 [5, 6]) ∧ Below w.heap.size w w' := by
  refine (Im.put_yes a 256 c 9 b 2 d _ _ w va vb img256 (by decide)).mono fun _ _ ⟨a, c, h, hm⟩ => ?_
  have hl : (putL (List.replicate 256 0) 9 [5, 6]).length = 256 := len_put (by decide) (by decide)
  have hs := hm.sees (wf_put va.wf vb.wf 9) (by rw [hl]; decide)
  rw [hl] at h hs
  exact ⟨a, c, h, hs, hm.2⟩
theorem diff9 : diffs (List.replicate 256 0) (putL (List.replicate 256 0) 9 [5, 6]) 256 = [9, 10] := by decide +kernel
theorem diff_9 (a : Option Addr) (c : Nat) (b : Option Addr) (d : Nat) (w : World) (va : Sees w .u64 a 256 c (List.replicate 256 0)) (vb : Sees w .u64 b 256 d (putL (List.replicate 256 0) 9 [5, 6])) :
    Calls Try.prog 14 #[.slice a 256 c, .slice b 256 d] w
      fun e w' => ∃ a c, e = .returned (.tuple #[.slice a 2 c, .int .i64 0]) ∧ Sees w' .i64 a 2 c [9, 10] ∧ Below w.heap.size w w' := by
  refine (Im.diff_yes a b 256 c d _ _ w va vb img256).mono fun _ _ h => ?_
  rw [diff9] at h
  obtain ⟨a, c, h, hm⟩ := h
  exact ⟨a, c, h, hm.sees (by decide) (by decide), hm.2⟩

set_option maxHeartbeats 1000000 in
theorem alive_any (w : World) :
    Calls Try.prog 17 #[] w fun e w' => e = .returned (.bool true) ∧ Below w.heap.size w w' := by
  go_enter Try.func17, Try.ntmps17
  go_wp2_with fail
  refine (new256 _).mono ?_
  rintro e w1 ⟨p1, q1, rfl, t1, b1⟩
  go_wp2_with fail
  refine (line17 _ _ _).mono ?_
  rintro e w2 ⟨rfl, rfl⟩
  go_wp2_with fail
  have bn : Below w1.heap.size w1 (w1.alloc (.cells #[.int .u64 5, .int .u64 6] 34)) := below_new (Below.refl _ _)
  refine (put9 _ _ _ _ _ (t1.keep bn) (sees_two _ _ _ _ _ (by decide) (by decide))).mono ?_
  rintro e w3 ⟨p3, q3, rfl, t3, b3⟩
  go_wp2_with fail
  refine (diff_9 _ _ _ _ _ ((t1.keep bn).keep b3) t3).mono ?_
  rintro e w4 ⟨p4, q4, rfl, t4, b4⟩
  go_wp2_with fail
  have bm : Below w4.heap.size w4 (w4.alloc (.cells #[.int .i64 9, .int .i64 10] 3)) := below_new (Below.refl _ _)
  refine (sameInts_self _ _ _ _ _ _ _ _ (t4.keep bm) (sees_two _ _ _ _ _ (by decide) (by decide))).mono ?_
  rintro e w5 ⟨rfl, b5⟩
  go_wp2_with fail
  go_ret
  exact ⟨rfl, below_then (below_then (below_then (below_then (below_then b1 bn) b3) b4) bm) b5⟩
end Go.Proofs.Ytbgeinaldkjddaa.Ia
