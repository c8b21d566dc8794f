/-
  One list turned into another one, difference by difference. Lists only.
-/
import Derived.Test.YtepiiiekcmbpaaaDoorImagep
namespace Go.Proofs.YtepiiiekcmbpaaaDoor.Iq
open Go.RowKit Go.Proofs.YtepiiiekcmbpaaaDoor.Ir Go.Proofs.YtepiiiekcmbpaaaDoor.Iu Go.Proofs.YtepiiiekcmbpaaaDoor.Ip

theorem diffs_sym (xs ys : List Int) : ∀ n, diffs xs ys n = diffs ys xs n
  | 0 => rfl
  | n + 1 => by
    by_cases h : xs.getD n 0 = ys.getD n 0
    · rw [diffs_same h, diffs_same h.symm, diffs_sym xs ys n]
    · rw [diffs_other h, diffs_other (fun g => h g.symm), diffs_sym xs ys n]
theorem diffs_le {xs ys : List Int} {i n : Nat} (h : i ≤ n) : (diffs xs ys i).length ≤ (diffs xs ys n).length := by
  obtain ⟨t, ht⟩ := diffs_prefix (xs := xs) (zs := ys) h
  rw [ht, List.length_append]
  omega
theorem same_between {xs ys : List Int} {t n : Nat} (h : (diffs xs ys n).length ≤ (diffs xs ys t).length) (i : Nat) (h1 : t ≤ i) (h2 : i < n) : xs.getD i 0 = ys.getD i 0 := by
  by_cases he : xs.getD i 0 = ys.getD i 0
  · exact he
  · have := (diffs_next h2 he).1
    have := diffs_le (xs := xs) (ys := ys) h1
    omega
theorem next_diff {xs ys : List Int} {t : Nat} : ∀ {n : Nat}, t ≤ n → (diffs xs ys t).length < (diffs xs ys n).length → ∃ t', t ≤ t' ∧ t' < n ∧ (∀ i, t ≤ i → i < t' → xs.getD i 0 = ys.getD i 0) ∧ ¬ xs.getD t' 0 = ys.getD t' 0
  | 0, h, hl => by
    rw [show t = 0 from by omega] at hl
    omega
  | n + 1, h, hl => by
    by_cases htn : t = n + 1
    · rw [htn] at hl
      omega
    · by_cases h1 : (diffs xs ys t).length < (diffs xs ys n).length
      · obtain ⟨t', a, b, c, d⟩ := next_diff (show t ≤ n by omega) h1
        exact ⟨t', a, by omega, c, d⟩
      · refine ⟨n, by omega, by omega, fun i h2 h3 => same_between (by omega) i h2 h3, fun he => ?_⟩
        rw [diffs_same he] at hl
        exact h1 hl
theorem len_at {xs ys : List Int} {t t' : Nat} (h : t ≤ t') (hs : ∀ i, t ≤ i → i < t' → xs.getD i 0 = ys.getD i 0) : diffs xs ys t' = diffs xs ys t := diffs_stay h hs
theorem prev_lt {xs ys : List Int} {t n k : Nat} (h : t ≤ n) (hk : (diffs xs ys t).length = k) (h0 : 0 < k) : 0 ≤ (diffs xs ys n).getD (k - 1) 0 ∧ (diffs xs ys n).getD (k - 1) 0 < t := by
  obtain ⟨s, hs⟩ := diffs_prefix (xs := xs) (zs := ys) h
  rw [hs, List.getD_eq_getElem?_getD, List.getElem?_append_left (by omega), List.getElem?_eq_getElem (by omega)]
  exact mem_diffs (List.getElem_mem _)
theorem none_same {xs ys : List Int} {n : Nat} (hx : xs.length = n) (hy : ys.length = n) (h : (diffs xs ys n).length = 0) : xs = ys := by
  apply List.ext_getElem? 
  intro i
  by_cases hi : i < n
  · have := same_between (t := 0) (by omega : (diffs xs ys n).length ≤ (diffs xs ys 0).length) i (Nat.zero_le _) hi
    rw [List.getD_eq_getElem?_getD, List.getD_eq_getElem?_getD, List.getElem?_eq_getElem (by omega), List.getElem?_eq_getElem (by omega)] at this
    rw [List.getElem?_eq_getElem (by omega), List.getElem?_eq_getElem (by omega)]
    simpa using this
  · rw [List.getElem?_eq_none (by omega), List.getElem?_eq_none (by omega)]
theorem diffs_self (xs : List Int) : ∀ n, diffs xs xs n = []
  | 0 => rfl
  | n + 1 => by rw [diffs_same rfl, diffs_self xs n]

/-- The second list up to an address, the first one from there on. -/
def mix (xs ys : List Int) (t : Nat) : List Int := ys.take t ++ xs.drop t
theorem mix_zero (xs ys : List Int) : mix xs ys 0 = xs := by simp [mix]
theorem mix_all {xs ys : List Int} {n : Nat} (hx : xs.length = n) (hy : ys.length = n) : mix xs ys n = ys := by
  unfold mix
  rw [List.take_of_length_le (by omega), List.drop_of_length_le (by omega), List.append_nil]
theorem mix_next {xs ys : List Int} {n t : Nat} (hx : xs.length = n) (hy : ys.length = n) (ht : t < n) (he : xs.getD t 0 = ys.getD t 0) : mix xs ys t = mix xs ys (t + 1) := by
  unfold mix
  rw [List.getD_eq_getElem?_getD, List.getD_eq_getElem?_getD, List.getElem?_eq_getElem (by omega), List.getElem?_eq_getElem (by omega)] at he
  rw [List.take_succ_eq_append_getElem (by omega), List.append_assoc, List.drop_eq_getElem_cons (by omega)]
  simp only [Option.getD_some] at he
  rw [he]
  rfl
theorem mix_stay {xs ys : List Int} {n t : Nat} (hx : xs.length = n) (hy : ys.length = n) : ∀ {t' : Nat}, t ≤ t' → t' ≤ n → (∀ i, t ≤ i → i < t' → xs.getD i 0 = ys.getD i 0) → mix xs ys t = mix xs ys t'
  | 0, h, _, _ => by rw [show t = 0 from by omega]
  | t' + 1, h, hn, hs => by
    by_cases htt : t = t' + 1
    · rw [htt]
    · rw [mix_stay hx hy (show t ≤ t' by omega) (by omega) (fun i h1 h2 => hs i h1 (by omega)), mix_next hx hy (by omega) (hs t' (by omega) (by omega))]
theorem put_mix {xs ys : List Int} {n t : Nat} (hy : ys.length = n) (ht : t < n) : putL (mix xs ys t) t ((ys.drop t).take 1) = mix xs ys (t + 1) := by
  unfold putL mix
  have l1 : (ys.take t).length = t := by rw [List.length_take]; omega
  have l2 : ((ys.drop t).take 1).length = 1 := by rw [List.length_take, List.length_drop]; omega
  have e : (ys.take t ++ xs.drop t).drop (t + 1) = xs.drop (t + 1) := by
    rw [List.drop_append, List.drop_of_length_le (show (ys.take t).length ≤ t + 1 by omega), l1, List.nil_append, List.drop_drop, show t + (t + 1 - t) = t + 1 from by omega]
  rw [List.take_left' l1, l2, e, ← List.append_assoc, ← List.take_add]
end Go.Proofs.YtepiiiekcmbpaaaDoor.Iq
