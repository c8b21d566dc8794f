/-
  slices.Clone, of words and of dirty words: the list again, in memory of the call's own.
-/
import Derived.Test.YtpdgefmchoonnaaDev
import Derived.Lib.SliceRun
namespace Go.Proofs.Ytpdgefmchoonnaa.Cn
open Go.RowKit Go.Proofs.Ytpdgefmchoonnaa.Sl Go.Proofs.Ytpdgefmchoonnaa.St Go.Proofs.Ytpdgefmchoonnaa.Ir Go.Proofs.Ytpdgefmchoonnaa.Dv
set_option maxRecDepth 100000
set_option maxHeartbeats 4000000

theorem cloneW_any (a : Option Addr) (n c : Nat) (xs : List Int) (w : World) (va : Sees w .u64 a n c xs) :
    Calls Try.prog 24 #[.slice a n c] w fun e w' => ∃ v, e = .returned v ∧ Grows .u64 31 w w' v xs := by
  have htop := va.top
  have q22 : ∀ (w : World) (a : Option Addr) (n c n' c' : Nat), (binOp .eql 22 (.slice a n c) (.slice none n' c')).run Try.prog w = .ok (.bool a.isNone) w := fun w a n c n' c' => Lib.run_eql_slice_nil w _ _ a n c n' c' Try.underlying22
  cases a with
  | none =>
    obtain ⟨rfl, rfl⟩ := va.nil rfl
    obtain rfl := va.empty
    go_enter Try.func24, Try.ntmps24
    go_wp2
    go_ret
    exact ⟨_, rfl, Grows.nil _ _ _⟩
  | some ad =>
    go_enter Try.func24, Try.ntmps24
    go_wp2_with (refine wp_append rfl (.tmp 5) (.tmp 6) 22 rfl .u64 31 Try.underlying22 info_word w (.slice (some ⟨w.heap.size, 0, none⟩) 0 0) [] rfl (Grows.lit0 _ _ (Below.refl _ _)) (some ad) n c xs rfl (va.keep (below_new (Below.refl _ _))) (by simpa using htop) ?_)
    intro v1 w1 G1
    go_wp2
    go_ret
    exact ⟨_, rfl, G1⟩
theorem cloneD_any (a : Option Addr) (n c : Nat) (xs : List Dw) (w : World) (va : SeesR dw w a n c xs) :
    Calls Try.prog 26 #[.slice a n c] w fun e w' => ∃ v, e = .returned v ∧ GrowsR dw 44 w w' v xs := by
  have htop := va.top
  have q22 : ∀ (w : World) (a : Option Addr) (n c n' c' : Nat), (binOp .eql 23 (.slice a n c) (.slice none n' c')).run Try.prog w = .ok (.bool a.isNone) w := fun w a n c n' c' => Lib.run_eql_slice_nil w _ _ a n c n' c' Try.underlying23
  cases a with
  | none =>
    obtain ⟨rfl, rfl⟩ := va.nil rfl
    obtain rfl := va.empty
    go_enter Try.func26, Try.ntmps26
    go_wp2
    go_ret
    exact ⟨_, rfl, GrowsR.nil _ _ _⟩
  | some ad =>
    go_enter Try.func26, Try.ntmps26
    go_wp2_with (refine wp_appendR rfl (.tmp 5) (.tmp 6) 23 rfl dw 44 Try.underlying23 _ 24 info_dirty rfl (by decide) w (.slice (some ⟨w.heap.size, 0, none⟩) 0 0) [] rfl (GrowsR.lit0 _ _ (Below.refl _ _)) (some ad) n c xs rfl (va.keep (below_new (Below.refl _ _))) (by simpa using htop) ?_)
    intro v1 w1 G1
    go_wp2
    go_ret
    exact ⟨_, rfl, G1⟩
end Go.Proofs.Ytpdgefmchoonnaa.Cn
