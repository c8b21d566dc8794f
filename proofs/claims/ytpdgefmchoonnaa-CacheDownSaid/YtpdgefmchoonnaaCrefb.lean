/-
  Contracts of the reference of package cache, continued: sizes, addresses, what an operation begins with, new devices.
-/
import Derived.Test.YtpdgefmchoonnaaCref
namespace Go.Proofs.Ytpdgefmchoonnaa.Cr
open Go.RowKit Go.Proofs.Ytpdgefmchoonnaa.Sl Go.Proofs.Ytpdgefmchoonnaa.St Go.Proofs.Ytpdgefmchoonnaa.Ir Go.Proofs.Ytpdgefmchoonnaa.Dv
set_option maxRecDepth 100000
set_option maxHeartbeats 1000000

theorem chk_ok {D : Dev} (h : okD D = true) : chk D = 0 := by unfold chk code8; rw [if_pos h]
theorem chk_bad {D : Dev} (h : ¬ okD D = true) : chk D = 8 := by unfold chk code8; rw [if_neg h]
theorem asked_bad {D : Dev} {p : Int} (h : ¬ okD D = true) : asked D p = 8 := by unfold asked; rw [if_neg h]
theorem asked_arg {D : Dev} {p : Int} (h : okD D = true) (hp : p < 0 ∨ (D.im.length : Int) ≤ p) : asked D p = 2 := by unfold asked; rw [if_pos h, if_pos hp]
theorem asked_ok {D : Dev} {p : Int} (h : okD D = true) (h0 : 0 ≤ p) (h1 : p < D.im.length) : asked D p = 0 := by unfold asked; rw [if_pos h, if_neg (by omega)]

theorem asked_parts {D : Dev} {p : Int} (h : asked D p = 0) : okD D = true ∧ (0 ≤ p ∧ p < D.im.length) := by
  have hok : okD D = true := by
    by_cases hk : okD D = true
    · exact hk
    · rw [asked_bad hk] at h
      cases h
  refine ⟨hok, ?_⟩
  rcases (by omega : (p < 0 ∨ (D.im.length : Int) ≤ p) ∨ (0 ≤ p ∧ p < D.im.length)) with h1 | h1
  · rw [asked_arg hok h1] at h
    cases h
  · exact h1
/-- A device is great. -/
def greatD (n m : Nat) : Bool := decide (2100 < n) || decide (2100 < m)
theorem rgreat_any (a : Option Addr) (n c : Nat) (b : Option Addr) (m d : Nat) (l : Int) (q : Bool) (w : World) (hm : m ≤ 17592186044416) :
    Calls Try.prog 4 #[dev a n c b m d l q] w fun e w' => e = .returned (.bool (greatD n m)) ∧ Below w.heap.size w w' := by
  by_cases h : 2100 < n
  · have HG := Lib.hid (show greatD n m = true from by unfold greatD; rw [decide_eq_true h]; rfl)
    go_enter Try.func4, Try.ntmps4
    go_wp2_with fail
    refine (great_yes _ n c _ h).mono ?_
    rintro e w' ⟨rfl, rfl⟩
    go_wp2_with fail
    go_ret
    rw [HG.out]
    exact ⟨rfl, below_new (Below.refl _ _)⟩
  · have HG := Lib.hid (show greatD n m = decide ((2100 : Int) < (m : Int)) from by
      unfold greatD
      rw [decide_eq_false h, Bool.false_or]
      exact decide_eq_decide.2 (by omega))
    go_enter Try.func4, Try.ntmps4
    go_wp2_with fail
    refine (great_no _ n c _ (by omega)).mono ?_
    rintro e w' ⟨rfl, rfl⟩
    by_cases h2 : (2100 : Int) < (m : Int)
    · have hb : decide ((2100 : Int) < (m : Int)) = true := decide_eq_true h2
      go_wp2_with fail
      go_ret
      rw [HG.out, hb]
      exact ⟨rfl, below_new (Below.refl _ _)⟩
    · have hb : decide ((2100 : Int) < (m : Int)) = false := decide_eq_false h2
      go_wp2_with fail
      go_ret
      rw [HG.out, hb]
      exact ⟨rfl, below_new (Below.refl _ _)⟩
theorem spent_none {D : Dev} (h : D.left = 0) : spent D = { D with down := true } := by unfold spent; rw [if_pos h]
theorem spent_one {D : Dev} (h : 0 < D.left) : spent D = { D with left := D.left - 1 } := by unfold spent; rw [if_neg (by omega), if_pos h]
theorem spent_any {D : Dev} (h : D.left < 0) : spent D = D := by unfold spent; rw [if_neg (by omega), if_neg (by omega)]
end Go.Proofs.Ytpdgefmchoonnaa.Cr
