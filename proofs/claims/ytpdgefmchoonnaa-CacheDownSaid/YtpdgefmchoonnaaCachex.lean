/-
  Operations of package cache on a valid device, as the laws use them: a device that comes back is told by variables alone.
-/
import Derived.Test.YtpdgefmchoonnaaCachew
import Derived.Test.YtpdgefmchoonnaaCachev
namespace Go.Proofs.Ytpdgefmchoonnaa.Cx
open Go.RowKit Go.Proofs.Ytpdgefmchoonnaa.Sl Go.Proofs.Ytpdgefmchoonnaa.St Go.Proofs.Ytpdgefmchoonnaa.Ir Go.Proofs.Ytpdgefmchoonnaa.Dv Go.Proofs.Ytpdgefmchoonnaa.Cr Go.Proofs.Ytpdgefmchoonnaa.Cu
set_option maxRecDepth 100000

/-- A call has returned a device with so many words and no error. -/
def Gives (n : Nat) (w : World) (X : Dev) (q : Bool) (e : Ending) (w' : World) : Prop :=
  ∃ a c b m d l, e = .returned (.tuple #[dev a n c b m d l q, .int .i64 0]) ∧ SeesD w' a n c b m d l q X ∧ Below w.heap.size w w'
theorem gives {w w' : World} {X : Dev} {v : Value} {n : Nat} {q : Bool} (h : MadeD w X v w') (hf : Fine X) (hn : X.im.length = n) (hq : X.down = q) : Gives n w X q (.returned (.tuple #[v, .int .i64 0])) w' := by
  subst hn hq
  obtain ⟨a, c, b, d, rfl, hs, hb⟩ := seenD h hf
  exact ⟨a, c, b, _, d, _, rfl, hs, hb⟩
theorem store_x (a : Option Addr) (n c : Nat) (b : Option Addr) (m d : Nat) (l : Int) (q : Bool) (D : Dev) (p u : Int) (w : World) (va : SeesD w a n c b m d l q D) (hok : okD D = true) (hp : 0 ≤ p ∧ p < n) (hu : 0 ≤ u ∧ u < 18446744073709551616) (X : Dev) (hX : storedD D p u = X) (r : Bool) (hr : X.down = r) :
    Calls Try.prog 7 #[dev a n c b m d l q, .int .i64 p, .int .u64 u] w (Gives n w X r) := by
  have hn := va.im.len
  subst hX hn
  refine (store_in _ _ _ _ _ _ _ _ D p u w va hok hp hu).mono ?_
  rintro e w' ⟨v, rfl, h⟩
  exact gives h (fine_stored hok hp va.fine hu) len_stored hr
theorem flush_x (a : Option Addr) (n c : Nat) (b : Option Addr) (m d : Nat) (l : Int) (q : Bool) (D : Dev) (p : Int) (w : World) (va : SeesD w a n c b m d l q D) (hok : okD D = true) (hp : 0 ≤ p ∧ p < n) (X : Dev) (hX : flushedD D p = X) (r : Bool) (hr : X.down = r) :
    Calls Try.prog 8 #[dev a n c b m d l q, .int .i64 p] w (Gives n w X r) := by
  have hn := va.im.len
  subst hX hn
  refine (flush_in _ _ _ _ _ _ _ _ D p w va hok hp).mono ?_
  rintro e w' ⟨v, rfl, h⟩
  exact gives h (fine_flushed hok hp va.fine) len_flushed hr
theorem fence_x (a : Option Addr) (n c : Nat) (b : Option Addr) (m d : Nat) (l : Int) (q : Bool) (D : Dev) (w : World) (va : SeesD w a n c b m d l q D) (hok : okD D = true) (X : Dev) (hX : fencedD D = X) (r : Bool) (hr : X.down = r) :
    Calls Try.prog 9 #[dev a n c b m d l q] w (Gives n w X r) := by
  have hn := va.im.len
  subst hX hn
  refine (fence_in _ _ _ _ _ _ _ _ D w va hok).mono ?_
  rintro e w' ⟨v, rfl, h⟩
  exact gives h (fine_fenced hok va.fine) len_fenced hr
theorem load_x (a : Option Addr) (n c : Nat) (b : Option Addr) (m d : Nat) (l : Int) (q : Bool) (D : Dev) (p : Int) (w : World) (va : SeesD w a n c b m d l q D) (hok : okD D = true) (hp : 0 ≤ p ∧ p < n) (L : Int) (hL : loadR D p = L) :
    Calls Try.prog 14 #[dev a n c b m d l q, .int .i64 p] w fun e w' => e = .returned (.tuple #[.int .u64 L, .int .i64 0]) ∧ Below w.heap.size w w' := by
  have hn := va.im.len
  subst hL hn
  exact load_in _ _ _ _ _ _ _ _ D p w va hok hp
theorem down_spent {D : Dev} (hok : okD D = true) : (spent D).down = !made D := by
  obtain ⟨⟨-, -, -, h3⟩, -⟩ := ok_parts hok
  unfold spent made
  by_cases h0 : D.left = 0
  · rw [if_pos h0, decide_eq_true h0]
    rfl
  · rw [if_neg h0, decide_eq_false h0]
    have hd : D.down = false := by
      cases hq : D.down
      · rfl
      · exact absurd (h3 hq) h0
    split <;> rw [← hd] <;> simp [hd]
theorem down_flushed {D : Dev} {p : Int} (hok : okD D = true) : (flushedD D p).down = !made D := by
  rw [← down_spent hok]
  unfold flushedD
  split <;> rfl
theorem down_fenced {D : Dev} (hok : okD D = true) : (fencedD D).down = !made D := by
  rw [← down_spent hok]
  unfold fencedD
  split <;> rfl
end Go.Proofs.Ytpdgefmchoonnaa.Cx
