/-
  Contracts of the functions of package image: what each returns for every argument that its type allows.
-/
import Derived.Test.YtpdgefmchoonnaaIrefd
namespace Go.Proofs.Ytpdgefmchoonnaa.Im
open Go.RowKit Go.Proofs.Ytpdgefmchoonnaa.Sl Go.Proofs.Ytpdgefmchoonnaa.St Go.Proofs.Ytpdgefmchoonnaa.Ir
set_option maxRecDepth 100000
set_option maxHeartbeats 1000000

theorem isize_yes (n : Int) (w : World) (h : Img n) :
    Calls Try.prog 33 #[.int .i64 n] w fun e w' => e = .returned (.bool true) ∧ w = w' := by
  obtain ⟨h1, h2, h3⟩ := h
  have hb : (n % 8 == 0) = true := by simp; omega
  clear h3
  go_enter Try.func33, Try.ntmps33
  go_wp2_with fail
  go_ret
  exact ⟨rfl, rfl⟩
theorem isize_no (n : Int) (w : World) (h : ¬ Img n) :
    Calls Try.prog 33 #[.int .i64 n] w fun e w' => e = .returned (.bool false) ∧ w = w' := by
  have h' : n < 256 ∨ (256 ≤ n ∧ 2048 < n) ∨ (256 ≤ n ∧ n ≤ 2048 ∧ ¬ n % 8 = 0) := by unfold Img at h; omega
  clear h
  rcases h' with h | ⟨h1, h2⟩ | ⟨h1, h2, h3⟩
  case' inr.inr => have hb : (n % 8 == 0) = false := by simpa using h3
  all_goals go_enter Try.func33, Try.ntmps33
  all_goals go_wp2_with fail
  all_goals first | (exfalso; omega) | skip
  all_goals go_ret
  all_goals exact ⟨rfl, rfl⟩
theorem check_yes (a : Option Addr) (n c : Nat) (w : World) (h : Img n) :
    Calls Try.prog 23 #[.slice a n c] w fun e w' => e = .returned (.int .i64 0) ∧ w = w' := by
  go_enter Try.func23, Try.ntmps23
  go_wp2_with fail
  refine (isize_yes n _ h).mono ?_
  rintro e w' ⟨rfl, rfl⟩
  go_wp2_with fail
  go_ret
  exact ⟨rfl, rfl⟩
theorem check_no (a : Option Addr) (n c : Nat) (w : World) (h : ¬ Img n) :
    Calls Try.prog 23 #[.slice a n c] w fun e w' => e = .returned (.int .i64 8) ∧ w = w' := by
  go_enter Try.func23, Try.ntmps23
  go_wp2_with fail
  refine (isize_no n _ h).mono ?_
  rintro e w' ⟨rfl, rfl⟩
  go_wp2_with fail
  go_ret
  exact ⟨rfl, rfl⟩
theorem line_bad (a : Option Addr) (n c : Nat) (p : Int) (w : World) (h : ¬ Img n) :
    Calls Try.prog 25 #[.slice a n c, .int .i64 p] w fun e w' => e = .returned (.tuple #[.int .i64 0, .int .i64 0, .int .i64 8]) ∧ w = w' := by
  go_enter Try.func25, Try.ntmps25
  go_wp2_with fail
  refine (check_no _ n c _ h).mono ?_
  rintro e w' ⟨rfl, rfl⟩
  go_wp2_with fail
  go_ret3
  exact ⟨rfl, rfl⟩
theorem has_yes (a : Option Addr) (n c : Nat) (p k : Int) (w : World) (hn : n ≤ 17592186044416) (h : There n p k) :
    Calls Try.prog 34 #[.slice a n c, .int .i64 p, .int .i64 k] w fun e w' => e = .returned (.bool true) ∧ w = w' := by
  obtain ⟨h1, h2, h3, h4⟩ := h
  go_enter Try.func34, Try.ntmps34
  go_wp2_with fail
  all_goals first | (exfalso; omega) | skip
  all_goals go_ret
  all_goals first | exact ⟨rfl, rfl⟩ | exact ⟨by simp; omega, rfl⟩
theorem has_no (a : Option Addr) (n c : Nat) (p k : Int) (w : World) (hn : n ≤ 17592186044416) (h : ¬ There n p k) :
    Calls Try.prog 34 #[.slice a n c, .int .i64 p, .int .i64 k] w fun e w' => e = .returned (.bool false) ∧ w = w' := by
  have h' : p < 0 ∨ (0 ≤ p ∧ k < 0) ∨ (0 ≤ p ∧ 0 ≤ k ∧ (n : Int) < p) ∨ (0 ≤ p ∧ 0 ≤ k ∧ p ≤ n ∧ (n : Int) - p < k) := by unfold There at h; omega
  clear h
  rcases h' with h | ⟨h1, h2⟩ | ⟨h1, h2, h3⟩ | ⟨h1, h2, h3, h4⟩
  all_goals go_enter Try.func34, Try.ntmps34
  all_goals go_wp2_with fail
  all_goals first | (exfalso; omega) | skip
  all_goals go_ret
  all_goals first | exact ⟨rfl, rfl⟩ | exact ⟨by simp; omega, rfl⟩
theorem line_arg (a : Option Addr) (n c : Nat) (p : Int) (w : World) (h : Img n) (hp : p < 0 ∨ (0 ≤ p ∧ (n : Int) ≤ p)) :
    Calls Try.prog 25 #[.slice a n c, .int .i64 p] w fun e w' => e = .returned (.tuple #[.int .i64 0, .int .i64 0, .int .i64 2]) ∧ w = w' := by
  have ht : ¬ There n p 1 := by unfold There; omega
  go_enter Try.func25, Try.ntmps25
  go_wp2_with fail
  refine (check_yes _ n c _ h).mono ?_
  rintro e w' ⟨rfl, rfl⟩
  go_wp2_with fail
  refine (has_no _ n c _ _ _ (by have := h.2.1; omega) ht).mono ?_
  rintro e w' ⟨rfl, rfl⟩
  go_wp2_with fail
  go_ret3
  exact ⟨rfl, rfl⟩
theorem line_yes (a : Option Addr) (n c : Nat) (p : Int) (w : World) (h : Img n) (h1 : 0 ≤ p) (h2 : p < n) :
    Calls Try.prog 25 #[.slice a n c, .int .i64 p] w fun e w' => e = .returned (.tuple #[.int .i64 (p / 8), .int .i64 (p - p % 8), .int .i64 0]) ∧ w = w' := by
  obtain ⟨g1, g2, g3⟩ := id h
  clear g3
  have ht : There n p 1 := ⟨h1, by omega, by omega, by omega⟩
  have E := Lib.hid (show p - p % 8 = p / 8 * 8 from by omega)
  go_enter Try.func25, Try.ntmps25
  go_wp2_with fail
  refine (check_yes _ n c _ h).mono ?_
  rintro e w' ⟨rfl, rfl⟩
  go_wp2_with fail
  refine (has_yes _ n c _ _ _ (by omega) ht).mono ?_
  rintro e w' ⟨rfl, rfl⟩
  go_wp2_with fail
  all_goals first | (exfalso; omega) | skip
  all_goals go_ret3
  all_goals rw [E.out]
  all_goals exact ⟨rfl, rfl⟩
end Go.Proofs.Ytpdgefmchoonnaa.Im
