/-
  The chapter's examples hold.
-/
import Derived.Test.YtepiiiekcmbpaaaDoorImageu
namespace Go.Proofs.YtepiiiekcmbpaaaDoor.Ia
open Go.RowKit Go.Proofs.YtepiiiekcmbpaaaDoor.Sl Go.Proofs.YtepiiiekcmbpaaaDoor.St Go.Proofs.YtepiiiekcmbpaaaDoor.Ir Go.Proofs.YtepiiiekcmbpaaaDoor.Iu
set_option maxRecDepth 100000

theorem sees_two (W : World) (k : IntKind) (e : TypeId) (x y : Int) (hx : (Lit.int k x).wf = true) (hy : (Lit.int k y).wf = true) :
    Sees (W.alloc (.cells #[.int k x, .int k y] e)) k (some ⟨W.heap.size, 0, none⟩) 2 2 [x, y] := by
  refine ⟨rfl, Nat.le_refl _, by omega, by simp [hx, hy], fun h => by simp at h, .inr ⟨_, _, rfl, fun i hi => ?_⟩⟩
  rcases (by omega : i = 0 ∨ i = 1) with rfl | rfl <;> simp

theorem img256 : Img 256 := by decide
theorem new256 (w : World) : Calls Tryd.prog 27 #[.int .i64 256] w
    fun e w' => ∃ a c, e = .returned (.tuple #[.slice a 256 c, .int .i64 0]) ∧ Sees w' .u64 a 256 c (List.replicate 256 0) ∧ Below w.heap.size w w' :=
  (Im.new_yes 256 w img256).mono fun _ _ ⟨a, c, h, hm⟩ => ⟨a, c, h, hm.sees (wf_zero 256) (by decide), hm.2⟩
theorem put9 (a : Option Addr) (c : Nat) (b : Option Addr) (d : Nat) (w : World) (va : Sees w .u64 a 256 c (List.replicate 256 0)) (vb : Sees w .u64 b 2 d [5, 6]) :
    Calls Tryd.prog 22 #[.slice a 256 c, .int .i64 9, .slice b 2 d] w
      fun e w' => ∃ a c, e = .returned (.tuple #[.slice a 256 c, .int .i64 0]) ∧ Sees w' .u64 a 256 c (putL (List.replicate 256 0) 9 [5, 6]) ∧ Below w.heap.size w w' := by
  refine (Im.put_yes a 256 c 9 b 2 d _ _ w va vb img256 (by decide)).mono fun _ _ ⟨a, c, h, hm⟩ => ?_
  have hl : (putL (List.replicate 256 0) 9 [5, 6]).length = 256 := len_put (by decide) (by decide)
  have hs := hm.sees (wf_put va.wf vb.wf 9) (by rw [hl]; decide)
  rw [hl] at h hs
  exact ⟨a, c, h, hs, hm.2⟩
theorem diff9 : diffs (List.replicate 256 0) (putL (List.replicate 256 0) 9 [5, 6]) 256 = [9, 10] := by decide +kernel
theorem diff_9 (a : Option Addr) (c : Nat) (b : Option Addr) (d : Nat) (w : World) (va : Sees w .u64 a 256 c (List.replicate 256 0)) (vb : Sees w .u64 b 256 d (putL (List.replicate 256 0) 9 [5, 6])) :
    Calls Tryd.prog 24 #[.slice a 256 c, .slice b 256 d] w
      fun e w' => ∃ a c, e = .returned (.tuple #[.slice a 2 c, .int .i64 0]) ∧ Sees w' .i64 a 2 c [9, 10] ∧ Below w.heap.size w w' := by
  refine (Im.diff_yes a b 256 c d _ _ w va vb img256).mono fun _ _ h => ?_
  rw [diff9] at h
  obtain ⟨a, c, h, hm⟩ := h
  exact ⟨a, c, h, hm.sees (by decide) (by decide), hm.2⟩

end Go.Proofs.YtepiiiekcmbpaaaDoor.Ia
