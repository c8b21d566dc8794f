/-
  Contracts of the reference of package image, continued: sizes, ranges, copies.
-/
import Derived.Test.YtepiiiekcmbpaaaDoorIref
import Derived.Test.YtepiiiekcmbpaaaDoorCut
namespace Go.Proofs.YtepiiiekcmbpaaaDoor.Ir
open Go.RowKit Go.Proofs.YtepiiiekcmbpaaaDoor.Sl Go.Proofs.YtepiiiekcmbpaaaDoor.St
set_option maxRecDepth 100000
set_option maxHeartbeats 1000000

/-- So many words are an image. -/
def Img (n : Int) : Prop := 256 ≤ n ∧ n ≤ 2048 ∧ n % 8 = 0
theorem size_yes (n : Int) (w : World) (h : Img n) :
    Calls Tryd.prog 33 #[.int .i64 n] w fun e w' => e = .returned (.bool true) ∧ w = w' := by
  obtain ⟨h1, h2, h3⟩ := h
  have hb : (n % 8 == 0) = true := by simp; omega
  clear h3
  go_enter Tryd.func33, Tryd.ntmps33
  go_wp2_with fail
  go_ret
  exact ⟨rfl, rfl⟩
theorem size_no (n : Int) (w : World) (h : ¬ Img n) :
    Calls Tryd.prog 33 #[.int .i64 n] w fun e w' => e = .returned (.bool false) ∧ w = w' := by
  have h' : n < 256 ∨ (256 ≤ n ∧ 2048 < n) ∨ (256 ≤ n ∧ n ≤ 2048 ∧ ¬ n % 8 = 0) := by unfold Img at h; omega
  clear h
  rcases h' with h | ⟨h1, h2⟩ | ⟨h1, h2, h3⟩
  case' inr.inr => have hb : (n % 8 == 0) = false := by simpa using h3
  all_goals go_enter Tryd.func33, Tryd.ntmps33
  all_goals go_wp2_with fail
  all_goals first | (exfalso; omega) | skip
  all_goals go_ret
  all_goals exact ⟨rfl, rfl⟩
theorem rcheck_yes (a : Option Addr) (n c : Nat) (w : World) (h : Img n) :
    Calls Tryd.prog 25 #[.slice a n c] w fun e w' => e = .returned (.int .i64 0) ∧ w = w' := by
  go_enter Tryd.func25, Tryd.ntmps25
  go_wp2_with fail
  refine (size_yes n _ h).mono ?_
  rintro e w' ⟨rfl, rfl⟩
  go_wp2_with fail
  go_ret
  exact ⟨rfl, rfl⟩
theorem rcheck_no (a : Option Addr) (n c : Nat) (w : World) (h : ¬ Img n) :
    Calls Tryd.prog 25 #[.slice a n c] w fun e w' => e = .returned (.int .i64 8) ∧ w = w' := by
  go_enter Tryd.func25, Tryd.ntmps25
  go_wp2_with fail
  refine (size_no n _ h).mono ?_
  rintro e w' ⟨rfl, rfl⟩
  go_wp2_with fail
  go_ret
  exact ⟨rfl, rfl⟩
theorem great_yes (a : Option Addr) (n c : Nat) (w : World) (h : 2100 < n) :
    Calls Tryd.prog 15 #[.slice a n c] w fun e w' => e = .returned (.bool true) ∧ w = w' := by
  have hb : decide ((2100 : Int) < (n : Int)) = true := by simp; omega
  go_enter Tryd.func15, Tryd.ntmps15
  go_wp2_with fail
  go_ret
  exact ⟨rfl, rfl⟩
theorem great_no (a : Option Addr) (n c : Nat) (w : World) (h : n ≤ 2100) :
    Calls Tryd.prog 15 #[.slice a n c] w fun e w' => e = .returned (.bool false) ∧ w = w' := by
  have hb : decide ((2100 : Int) < (n : Int)) = false := by simp; omega
  go_enter Tryd.func15, Tryd.ntmps15
  go_wp2_with fail
  go_ret
  exact ⟨rfl, rfl⟩

/-- There is the range. -/
def There (n at' k : Int) : Prop := 0 ≤ at' ∧ 0 ≤ k ∧ at' ≤ n ∧ k ≤ n - at'
/-- The ending of a call that returns a new list. -/
def GivesList (k : IntKind) (e : TypeId) (w : World) (xs : List Int) (en : Ending) (w' : World) : Prop := ∃ a c, en = .returned (.slice a xs.length c) ∧ Made k e w xs a c w'
/-- The ending of a call that returns a new list and a number. -/
def GivesPair (k : IntKind) (e : TypeId) (w : World) (xs : List Int) (r : Int) (en : Ending) (w' : World) : Prop := ∃ a c, en = .returned (.tuple #[.slice a xs.length c, .int .i64 r]) ∧ Made k e w xs a c w'
theorem gives_list {k : IntKind} {e : TypeId} {w W : World} {v : Value} {zs : List Int} (h : Grows k e w W v zs) : GivesList k e w zs (.returned v) W := by
  obtain ⟨a, c, rfl, hm⟩ := h.made
  exact ⟨a, c, rfl, hm⟩
theorem gives_pair {k : IntKind} {e : TypeId} {w W : World} {v : Value} {zs xs : List Int} {r : Int} (h : Grows k e w W v zs) (hx : zs = xs) : GivesPair k e w xs r (.returned (.tuple #[v, .int .i64 r])) W := by
  subst hx
  obtain ⟨a, c, rfl, hm⟩ := h.made
  exact ⟨a, c, rfl, hm⟩

theorem twin_any (a : Option Addr) (n c : Nat) (xs : List Int) (w : World) (va : Sees w .u64 a n c xs) :
    Calls Tryd.prog 16 #[.slice a n c] w (GivesList .u64 47 w xs) := by
  have htop := va.top
  have G0 := Grows.lit0 .u64 47 (Below.refl w.heap.size w)
  have V := va.keep (below_new (o := .cells #[] 47) (Below.refl _ _))
  go_enter Tryd.func16, Tryd.ntmps16
  go_wp2_with (at_builtin; refine wp_append rfl _ _ 22 rfl .u64 47 Tryd.underlying22 info_word w _ [] rfl G0 a n c xs rfl V (by simpa using htop) ?_)
  intro v1 w1 G1
  go_wp2
  go_ret
  exact gives_list G1

/-- The image with some words in the place of a range. -/
def putL (xs : List Int) (A : Nat) (ys : List Int) : List Int := xs.take A ++ (ys ++ xs.drop (A + ys.length))
end Go.Proofs.YtepiiiekcmbpaaaDoor.Ir
