/-
  The chapter's examples hold; what Next, Of and Low return on lists that are not too long, told by variables.
-/
import Derived.Test.YtkffnhjchedccaaSun
import Derived.Test.YtkffnhjchedccaaOwn
import Derived.Test.YtkffnhjchedccaaCut
import Derived.LoopN
import Derived.Handy
import Derived.IntWalk
namespace Go.Proofs.Ytkffnhjchedccaa.Su
open Go.RowKit Go.Proofs.Ytkffnhjchedccaa.Sl Go.Proofs.Ytkffnhjchedccaa.St Go.Proofs.Ytkffnhjchedccaa.Bits Go.Proofs.Ytkffnhjchedccaa.Wd
set_option maxRecDepth 100000

theorem next_x (s : Int) (a : Option Addr) (n c : Nat) (xs : List Int) (w : World) (hs : U64 s) (va : Sees w .u64 a n c xs) (hn : n ≤ 2048) (X : Int) (hX : behI s xs = X) :
    Calls Try.prog 10 #[.int .u64 s, .slice a n c] w fun e w' => e = .returned (.tuple #[.int .u64 X, .int .i64 0]) ∧ Below w.heap.size w w' := by
  subst hX
  refine (next_any s a n c xs w hs va).mono ?_
  rintro e w' ⟨rfl, h⟩
  exact ⟨by rw [next_ok (by rw [va.len]; exact hn), many_ok hn], h⟩
theorem of_x (a : Option Addr) (n c : Nat) (xs : List Int) (w : World) (va : Sees w .u64 a n c xs) (hn : n ≤ 2048) (X : Int) (hX : behI firstI xs = X) :
    Calls Try.prog 9 #[.slice a n c] w fun e w' => e = .returned (.tuple #[.int .u64 X, .int .i64 0]) ∧ Below w.heap.size w w' := by
  subst hX
  refine (of_any a n c xs w va).mono ?_
  rintro e w' ⟨rfl, h⟩
  exact ⟨by rw [next_ok (by rw [va.len]; exact hn), many_ok hn], h⟩
theorem low_x (a : Option Addr) (n c : Nat) (xs : List Int) (t : Int) (w : World) (va : Sees w .u64 a n c xs) (hn : n ≤ 2048) (ht : 8 ≤ t ∧ t ≤ 64) (X : Int) (hX : ((behind firstI.toNat (toN xs) % 2 ^ t.toNat : Nat) : Int) = X) :
    Calls Try.prog 11 #[.slice a n c, .int .i64 t] w fun e w' => e = .returned (.tuple #[.int .u64 X, .int .i64 0]) ∧ Below w.heap.size w w' := by
  subst hX
  refine (low_any a n c xs t w va (by omega)).mono ?_
  rintro e w' ⟨rfl, h⟩
  exact ⟨by rw [low_ok (by rw [va.len]; exact hn) ht, lowE_ok hn ht], h⟩
theorem next_z (s : Int) (a : Option Addr) (n c : Nat) (xs : List Int) (w : World) (hs : U64 s) (va : Sees w .u64 a n c xs) (X r : Int) (h : nextI s xs = X ∧ manyE n = r) :
    Calls Try.prog 10 #[.int .u64 s, .slice a n c] w fun e w' => e = .returned (.tuple #[.int .u64 X, .int .i64 r]) ∧ Below w.heap.size w w' := by
  obtain ⟨rfl, rfl⟩ := h
  exact next_any s a n c xs w hs va
theorem of_z (a : Option Addr) (n c : Nat) (xs : List Int) (w : World) (va : Sees w .u64 a n c xs) (X r : Int) (h : nextI firstI xs = X ∧ manyE n = r) :
    Calls Try.prog 9 #[.slice a n c] w fun e w' => e = .returned (.tuple #[.int .u64 X, .int .i64 r]) ∧ Below w.heap.size w w' := by
  obtain ⟨rfl, rfl⟩ := h
  exact of_any a n c xs w va
theorem low_z (a : Option Addr) (n c : Nat) (xs : List Int) (t : Int) (w : World) (va : Sees w .u64 a n c xs) (ht : -9223372036854775808 ≤ t ∧ t ≤ 9223372036854775807) (X r : Int) (h : lowI xs t = X ∧ lowE n t = r) :
    Calls Try.prog 11 #[.slice a n c, .int .i64 t] w fun e w' => e = .returned (.tuple #[.int .u64 X, .int .i64 r]) ∧ Below w.heap.size w w' := by
  obtain ⟨rfl, rfl⟩ := h
  exact low_any a n c xs t w va ht
theorem sees_none (w : World) : Sees w .u64 none 0 0 [] := ⟨rfl, Nat.le_refl _, by decide, by simp, fun _ => ⟨rfl, rfl⟩, .inl rfl⟩

/-- So many bytes 0, over the model's integers. -/
def zerosI (s k : Nat) : Int := ((zeros s k : Nat) : Int)
theorem zerosI_bd {s : Nat} (hs : s < top) (k : Nat) : 0 ≤ zerosI s k ∧ zerosI s k < 18446744073709551616 := by
  have h := zeros_lt hs k
  rw [top_num] at h
  unfold zerosI
  omega
theorem zerosI_succ (s k : Nat) : IntKind.u64.wrap (zerosI s k * 1099511628211) = zerosI s (k + 1) := by
  unfold zerosI
  rw [zeros_succ, IntKind.wrap_u64, top_num]
  unfold prime
  omega
theorem wf_zeros (N : Nat) : ∀ x ∈ List.replicate N (0 : Int), (Lit.int .u64 x).wf = true := fun x hx => by
  rw [List.eq_of_mem_replicate hx]
  decide
theorem beh_zeros {s : Int} (N : Nat) : behI s (List.replicate N 0) = zerosI s.toNat (8 * N) := by
  unfold behI zerosI
  rw [toN_zeros, behind_zeros]
theorem example_none : behI firstI [] = 14695981039346656037 := by decide +kernel
theorem example_five : behI 5 [] = 5 := by decide +kernel
theorem example_a : behI firstI [97] = zerosI 12638187200555641996 7 := by decide +kernel
theorem want_top : 12638187200555641996 < top := by decide +kernel
set_option maxHeartbeats 1000000 in
theorem sumlive_any (w : World) : Calls Try.prog 12 #[] w fun e w' => e = .returned (.bool true) ∧ Below w.heap.size w w' := by
  go_enter Try.func12, Try.ntmps12
  go_wp2_with fail
  refine (of_x _ _ _ _ _ (sees_none _) (by decide) _ example_none).mono ?_
  rintro e w1 ⟨rfl, b1⟩
  have B1 : Below w1.heap.size w1 (w1.alloc (.cells #[.int .u64 97] 23)) := below_new (Below.refl _ _)
  go_wp2_with fail
  refine (next_x 14695981039346656037 _ _ _ _ _ first_u64 (sees_one w1 .u64 23 97 (by decide)) (by decide) _ example_a).mono ?_
  rintro e w2 ⟨rfl, b2⟩
  have C := below_then (below_then b1 B1) b2
  go_wp2_with fail
  go_loopw [5, 6] (fun x i wr => ∃ k : Nat, k ≤ 7 ∧ i = .int .i64 k ∧ x = .int .u64 (zerosI 12638187200555641996 k) ∧ wr = w2) (fun _ i _ => 7 - (intOf i).toNat)
  case atStart => exact ⟨0, Nat.zero_le _, rfl, rfl, rfl⟩
  case round =>
    obtain ⟨k, hk, rfl, rfl, rfl⟩ := hrel
    have hb := zerosI_bd want_top k
    have hz := zerosI_succ 12638187200555641996 k
    by_cases hlt : k < 7
    · go_wp2
      go_roundw
      case rel => exact ⟨k + 1, by omega, by go_num, by rw [← hz], trivial⟩
      case measure => simp [intOf]; omega
    · obtain rfl : k = 7 := by omega
      clear hz
      go_wp2_with fail
      refine (next_x 5 _ _ _ _ _ ⟨by decide, by decide⟩ (sees_none _) (by decide) _ example_five).mono ?_
      rintro e w4 ⟨rfl, b4⟩
      go_wp2
      go_ret
      exact ⟨rfl, below_then C b4⟩
end Go.Proofs.Ytkffnhjchedccaa.Su
