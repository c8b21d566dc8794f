/-
  The chapter's examples hold; what Next, Of and Low return on lists that are not too long, told by variables.
-/
import Derived.Test.YtepiiiekcmbpaaaDoorSun
import Derived.Test.YtepiiiekcmbpaaaDoorOwn
import Derived.Test.YtepiiiekcmbpaaaDoorCut
import Derived.LoopN
import Derived.Handy
import Derived.IntWalk
namespace Go.Proofs.YtepiiiekcmbpaaaDoor.Su
open Go.RowKit Go.Proofs.YtepiiiekcmbpaaaDoor.Sl Go.Proofs.YtepiiiekcmbpaaaDoor.St Go.Proofs.YtepiiiekcmbpaaaDoor.Bits Go.Proofs.YtepiiiekcmbpaaaDoor.Wd
set_option maxRecDepth 100000

theorem next_x (s : Int) (a : Option Addr) (n c : Nat) (xs : List Int) (w : World) (hs : U64 s) (va : Sees w .u64 a n c xs) (hn : n ≤ 2048) (X : Int) (hX : behI s xs = X) :
    Calls Tryd.prog 44 #[.int .u64 s, .slice a n c] w fun e w' => e = .returned (.tuple #[.int .u64 X, .int .i64 0]) ∧ Below w.heap.size w w' := by
  subst hX
  refine (next_any s a n c xs w hs va).mono ?_
  rintro e w' ⟨rfl, h⟩
  exact ⟨by rw [next_ok (by rw [va.len]; exact hn), many_ok hn], h⟩
theorem of_x (a : Option Addr) (n c : Nat) (xs : List Int) (w : World) (va : Sees w .u64 a n c xs) (hn : n ≤ 2048) (X : Int) (hX : behI firstI xs = X) :
    Calls Tryd.prog 42 #[.slice a n c] w fun e w' => e = .returned (.tuple #[.int .u64 X, .int .i64 0]) ∧ Below w.heap.size w w' := by
  subst hX
  refine (of_any a n c xs w va).mono ?_
  rintro e w' ⟨rfl, h⟩
  exact ⟨by rw [next_ok (by rw [va.len]; exact hn), many_ok hn], h⟩
theorem next_z (s : Int) (a : Option Addr) (n c : Nat) (xs : List Int) (w : World) (hs : U64 s) (va : Sees w .u64 a n c xs) (X r : Int) (h : nextI s xs = X ∧ manyE n = r) :
    Calls Tryd.prog 44 #[.int .u64 s, .slice a n c] w fun e w' => e = .returned (.tuple #[.int .u64 X, .int .i64 r]) ∧ Below w.heap.size w w' := by
  obtain ⟨rfl, rfl⟩ := h
  exact next_any s a n c xs w hs va
theorem of_z (a : Option Addr) (n c : Nat) (xs : List Int) (w : World) (va : Sees w .u64 a n c xs) (X r : Int) (h : nextI firstI xs = X ∧ manyE n = r) :
    Calls Tryd.prog 42 #[.slice a n c] w fun e w' => e = .returned (.tuple #[.int .u64 X, .int .i64 r]) ∧ Below w.heap.size w w' := by
  obtain ⟨rfl, rfl⟩ := h
  exact of_any a n c xs w va
theorem sees_none (w : World) : Sees w .u64 none 0 0 [] := ⟨rfl, Nat.le_refl _, by decide, by simp, fun _ => ⟨rfl, rfl⟩, .inl rfl⟩

/-- So many bytes 0, over the model's integers. -/
def zerosI (s k : Nat) : Int := ((zeros s k : Nat) : Int)
theorem zerosI_bd {s : Nat} (hs : s < top) (k : Nat) : 0 ≤ zerosI s k ∧ zerosI s k < 18446744073709551616 := by
  have h := zeros_lt hs k
  rw [top_num] at h
  unfold zerosI
  omega
theorem zerosI_succ (s k : Nat) : IntKind.u64.wrap (zerosI s k * 1099511628211) = zerosI s (k + 1) := by
  unfold zerosI
  rw [zeros_succ, IntKind.wrap_u64, top_num]
  unfold prime
  omega
theorem wf_zeros (N : Nat) : ∀ x ∈ List.replicate N (0 : Int), (Lit.int .u64 x).wf = true := fun x hx => by
  rw [List.eq_of_mem_replicate hx]
  decide
theorem beh_zeros {s : Int} (N : Nat) : behI s (List.replicate N 0) = zerosI s.toNat (8 * N) := by
  unfold behI zerosI
  rw [toN_zeros, behind_zeros]
theorem example_none : behI firstI [] = 14695981039346656037 := by decide +kernel
theorem example_five : behI 5 [] = 5 := by decide +kernel
theorem example_a : behI firstI [97] = zerosI 12638187200555641996 7 := by decide +kernel
theorem want_top : 12638187200555641996 < top := by decide +kernel
end Go.Proofs.YtepiiiekcmbpaaaDoor.Su
