/-
  An image with some words put: what is got back, and where it differs. Lists only.
-/
import Derived.Test.YtepiiiekcmbpaaaDoorImagea
namespace Go.Proofs.YtepiiiekcmbpaaaDoor.Ip
open Go.RowKit Go.Proofs.YtepiiiekcmbpaaaDoor.Sl Go.Proofs.YtepiiiekcmbpaaaDoor.St Go.Proofs.YtepiiiekcmbpaaaDoor.Ir Go.Proofs.YtepiiiekcmbpaaaDoor.Iu

theorem getD_put {xs ys : List Int} {A n : Nat} (hx : xs.length = n) (h : A + ys.length ≤ n) (k : Nat) :
    (putL xs A ys).getD k 0 = if k < A then xs.getD k 0 else if k < A + ys.length then ys.getD (k - A) 0 else xs.getD k 0 := by
  unfold putL
  have l1 : (xs.take A).length = A := by rw [List.length_take]; omega
  simp only [List.getD_eq_getElem?_getD]
  by_cases h1 : k < A
  · rw [if_pos h1, List.getElem?_append_left (by omega), List.getElem?_take, if_pos h1]
  · rw [if_neg h1, List.getElem?_append_right (by omega), l1]
    by_cases h2 : k < A + ys.length
    · rw [if_pos h2, List.getElem?_append_left (by omega)]
    · rw [if_neg h2, List.getElem?_append_right (by omega), List.getElem?_drop, show A + ys.length + (k - A - ys.length) = k from by omega]
theorem back_put {xs ys : List Int} {A n : Nat} (hx : xs.length = n) (h : A + ys.length ≤ n) : ((putL xs A ys).drop A).take ys.length = ys := by
  unfold putL
  have l1 : (xs.take A).length = A := by rw [List.length_take]; omega
  rw [List.drop_left' l1, List.take_left' rfl]
theorem diffs_stay {xs zs : List Int} {j : Nat} : ∀ {k : Nat}, j ≤ k → (∀ i, j ≤ i → i < k → xs.getD i 0 = zs.getD i 0) → diffs xs zs k = diffs xs zs j
  | 0, h, _ => by rw [show j = 0 from by omega]
  | k + 1, h, hs => by
    by_cases hj : j = k + 1
    · rw [hj]
    · rw [diffs_same (hs k (by omega) (by omega))]
      exact diffs_stay (by omega) (fun i h1 h2 => hs i h1 (by omega))
theorem diffs_prefix {xs zs : List Int} {j : Nat} : ∀ {k : Nat}, j ≤ k → ∃ t, diffs xs zs k = diffs xs zs j ++ t
  | 0, h => ⟨[], by rw [show j = 0 from by omega]; rfl⟩
  | k + 1, h => by
    by_cases hj : j = k + 1
    · exact ⟨[], by rw [hj, List.append_nil]⟩
    · obtain ⟨t, ht⟩ := diffs_prefix (xs := xs) (zs := zs) (show j ≤ k by omega)
      by_cases he : xs.getD k 0 = zs.getD k 0
      · exact ⟨t, by rw [diffs_same he, ht]⟩
      · exact ⟨t ++ [(k : Int)], by rw [diffs_other he, ht, List.append_assoc]⟩
/-- The next difference stands next in the list of all. -/
theorem diffs_next {xs zs : List Int} {k n : Nat} (hk : k < n) (he : ¬ xs.getD k 0 = zs.getD k 0) : (diffs xs zs k).length < (diffs xs zs n).length ∧ (diffs xs zs n).getD (diffs xs zs k).length 0 = (k : Int) := by
  obtain ⟨t, ht⟩ := diffs_prefix (xs := xs) (zs := zs) (show k + 1 ≤ n by omega)
  rw [ht, diffs_other he]
  refine ⟨by simp, ?_⟩
  rw [List.append_assoc, List.getD_eq_getElem?_getD, List.getElem?_append_right (Nat.le_refl _), Nat.sub_self]
  rfl

/-- How many of the first words that were put differ. -/
def cnt (xs : List Int) (A : Nat) (ys : List Int) (k : Nat) : Nat := (diffs xs (putL xs A ys) (A + k)).length
section
variable {xs ys : List Int} {A n : Nat} (hx : xs.length = n) (h : A + ys.length ≤ n)
include hx h
theorem cnt_zero : cnt xs A ys 0 = 0 := by
  have e : diffs xs (putL xs A ys) A = diffs xs (putL xs A ys) 0 := diffs_stay (Nat.zero_le _) (fun i _ h2 => by rw [getD_put hx h, if_pos h2])
  unfold cnt
  rw [Nat.add_zero, e]
  rfl
theorem cnt_same {k : Nat} (hk : k < ys.length) (he : xs.getD (A + k) 0 = ys.getD k 0) : cnt xs A ys (k + 1) = cnt xs A ys k := by
  unfold cnt
  rw [← Nat.add_assoc, diffs_same]
  rw [getD_put hx h, if_neg (by omega), if_pos (by omega), show A + k - A = k from by omega]
  exact he
theorem cnt_other {k : Nat} (hk : k < ys.length) (he : ¬ xs.getD (A + k) 0 = ys.getD k 0) :
    cnt xs A ys (k + 1) = cnt xs A ys k + 1 ∧ cnt xs A ys k < (diffs xs (putL xs A ys) n).length ∧ (diffs xs (putL xs A ys) n).getD (cnt xs A ys k) 0 = ((A + k : Nat) : Int) := by
  have he' : ¬ xs.getD (A + k) 0 = (putL xs A ys).getD (A + k) 0 := by
    rw [getD_put hx h, if_neg (by omega), if_pos (by omega), show A + k - A = k from by omega]
    exact he
  refine ⟨?_, diffs_next (by omega) he'⟩
  unfold cnt
  rw [← Nat.add_assoc, diffs_other he', List.length_append]
  rfl
theorem cnt_all : cnt xs A ys ys.length = (diffs xs (putL xs A ys) n).length := by
  unfold cnt
  rw [diffs_stay h (fun i h1 _ => by rw [getD_put hx h, if_neg (by omega), if_neg (by omega)])]
end
theorem cnt_le {xs ys : List Int} {A n : Nat} (h : A + ys.length ≤ n) (k : Nat) (hk : k ≤ ys.length) : cnt xs A ys k ≤ (diffs xs (putL xs A ys) n).length := by
  unfold cnt
  obtain ⟨t, ht⟩ := diffs_prefix (xs := xs) (zs := putL xs A ys) (show A + k ≤ n by omega)
  rw [ht, List.length_append]
  omega
end Go.Proofs.YtepiiiekcmbpaaaDoor.Ip
