/-
  Operations of package cache on a valid device at an address of it, as the laws use them.
-/
import Derived.Test.YtpdgefmchoonnaaCachev
import Derived.Test.YtpdgefmchoonnaaPure
namespace Go.Proofs.Ytpdgefmchoonnaa.Cu
open Go.RowKit Go.Proofs.Ytpdgefmchoonnaa.Sl Go.Proofs.Ytpdgefmchoonnaa.St Go.Proofs.Ytpdgefmchoonnaa.Ir Go.Proofs.Ytpdgefmchoonnaa.Dv Go.Proofs.Ytpdgefmchoonnaa.Cr
set_option maxRecDepth 100000

theorem ask0 {D : Dev} {p : Int} (h : okD D = true) (hp : 0 ≤ p ∧ p < D.im.length) : asked D p = 0 := asked_ok h hp.1 hp.2
theorem chk_b (a : Option Addr) (n c : Nat) (b : Option Addr) (m d : Nat) (l : Int) (q : Bool) (D : Dev) (w : World) (va : SeesD w a n c b m d l q D) :
    Calls Try.prog 5 #[dev a n c b m d l q] w fun e w' => e = .returned (.int .i64 (chk D)) ∧ Below w.heap.size w w' := by
  refine (rchk_any a n c b m d l q D w va).mono ?_
  rintro e w' ⟨rfl, o, j, rfl⟩
  exact ⟨rfl, below_drewN (below_new (Below.refl _ _)) _⟩
theorem fine_stored {D : Dev} {p u : Int} (hok : okD D = true) (hp : 0 ≤ p ∧ p < D.im.length) (h : Fine D) (hu : 0 ≤ u ∧ u < 18446744073709551616) : Fine (storedD D p u) := by
  have h1 := fine_store (p := p) h (by have := h.li; omega) hu
  unfold storeD at h1
  rwa [if_pos (ask0 hok hp)] at h1
theorem fine_flushed {D : Dev} {p : Int} (hok : okD D = true) (hp : 0 ≤ p ∧ p < D.im.length) (h : Fine D) : Fine (flushedD D p) := by
  have h1 := fine_flush (p := p) h
  unfold flushD at h1
  rwa [if_pos (ask0 hok hp)] at h1
theorem fine_fenced {D : Dev} (hok : okD D = true) (h : Fine D) : Fine (fencedD D) := by
  have h1 := fine_fence h
  unfold fenceD at h1
  rwa [if_pos hok] at h1
theorem store_in (a : Option Addr) (n c : Nat) (b : Option Addr) (m d : Nat) (l : Int) (q : Bool) (D : Dev) (p u : Int) (w : World) (va : SeesD w a n c b m d l q D) (hok : okD D = true) (hp : 0 ≤ p ∧ p < D.im.length) (hu : 0 ≤ u ∧ u < 18446744073709551616) :
    Calls Try.prog 7 #[dev a n c b m d l q, .int .i64 p, .int .u64 u] w fun e w' => ∃ v, e = .returned (.tuple #[v, .int .i64 0]) ∧ MadeD w (storedD D p u) v w' := by
  have hl := va.fine.li
  refine (Ca.store_any a n c b m d l q D p u w va (by omega) hu).mono ?_
  rintro e w' ⟨v, rfl, h⟩
  have h0 := ask0 hok hp
  unfold storeD at h
  rw [if_pos h0] at h
  rw [h0]
  exact ⟨v, rfl, h⟩
theorem flush_in (a : Option Addr) (n c : Nat) (b : Option Addr) (m d : Nat) (l : Int) (q : Bool) (D : Dev) (p : Int) (w : World) (va : SeesD w a n c b m d l q D) (hok : okD D = true) (hp : 0 ≤ p ∧ p < D.im.length) :
    Calls Try.prog 8 #[dev a n c b m d l q, .int .i64 p] w fun e w' => ∃ v, e = .returned (.tuple #[v, .int .i64 0]) ∧ MadeD w (flushedD D p) v w' := by
  have hl := va.fine.li
  refine (Ca.flush_any a n c b m d l q D p w va (by omega)).mono ?_
  rintro e w' ⟨v, rfl, h⟩
  have h0 := ask0 hok hp
  unfold flushD at h
  rw [if_pos h0] at h
  rw [h0]
  exact ⟨v, rfl, h⟩
theorem fence_in (a : Option Addr) (n c : Nat) (b : Option Addr) (m d : Nat) (l : Int) (q : Bool) (D : Dev) (w : World) (va : SeesD w a n c b m d l q D) (hok : okD D = true) :
    Calls Try.prog 9 #[dev a n c b m d l q] w fun e w' => ∃ v, e = .returned (.tuple #[v, .int .i64 0]) ∧ MadeD w (fencedD D) v w' := by
  refine (Ca.fence_any a n c b m d l q D w va).mono ?_
  rintro e w' ⟨v, rfl, h⟩
  unfold fenceD at h
  rw [if_pos hok] at h
  rw [chk_ok hok]
  exact ⟨v, rfl, h⟩
theorem load_in (a : Option Addr) (n c : Nat) (b : Option Addr) (m d : Nat) (l : Int) (q : Bool) (D : Dev) (p : Int) (w : World) (va : SeesD w a n c b m d l q D) (hok : okD D = true) (hp : 0 ≤ p ∧ p < D.im.length) :
    Calls Try.prog 14 #[dev a n c b m d l q, .int .i64 p] w fun e w' => e = .returned (.tuple #[.int .u64 (loadR D p), .int .i64 0]) ∧ Below w.heap.size w w' := by
  have hl := va.fine.li
  refine (Ca.load_any a n c b m d l q D p w va (by omega)).mono ?_
  rintro e w' ⟨rfl, h⟩
  rw [ask0 hok hp]
  exact ⟨rfl, h⟩
theorem load_words {D : Dev} {p : Int} (hok : okD D = true) (hp : 0 ≤ p ∧ p < D.im.length) : loadR D p = (wordsL D.im D.dl).getD p.toNat 0 := by
  unfold loadR
  rw [if_pos (ask0 hok hp)]
/-- What is loaded behind storing. -/
theorem load_stored {D : Dev} {p o u : Int} (hok : okD D = true) (hp : 0 ≤ p ∧ p < D.im.length) (ho : 0 ≤ o ∧ o < D.im.length) : loadR (storedD D p u) o = if made D = true ∧ o = p then u else loadR D o := by
  rw [load_words (ok_stored hok hp) (by rw [len_stored]; exact ho), load_words hok ho, words_stored hok hp.1]
  cases hm : made D
  · simp
  · by_cases h : o = p
    · subst h
      have hl := wordsL_len D.dl D.im
      have hlt : o.toNat < (wordsL D.im D.dl).length := by omega
      simp [List.getD_eq_getElem?_getD, hlt]
    · have hne : p.toNat ≠ o.toNat := by omega
      simp [List.getD_eq_getElem?_getD, h, hne]
theorem down_stored {D : Dev} {p u : Int} (hok : okD D = true) : (storedD D p u).down = !made D := by
  obtain ⟨⟨-, -, -, h3⟩, -⟩ := ok_parts hok
  have h : (storedD D p u).down = (spent D).down := by unfold storedD; split <;> rfl
  rw [h]
  unfold spent made
  by_cases h0 : D.left = 0
  · rw [if_pos h0, decide_eq_true h0]
    rfl
  · rw [if_neg h0, decide_eq_false h0]
    have hd : D.down = false := by
      cases hq : D.down
      · rfl
      · exact absurd (h3 hq) h0
    split <;> rw [← hd] <;> simp [hd]
end Go.Proofs.Ytpdgefmchoonnaa.Cu
