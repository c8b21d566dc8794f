/-
  The examples of the law TwinNames, on lists.
-/
import Derived.Test.YtepiiiekcmbpaaaDoorTwt
namespace Go.Proofs.YtepiiiekcmbpaaaDoor.Tw
open Go.RowKit Go.Proofs.YtepiiiekcmbpaaaDoor.Sl Go.Proofs.YtepiiiekcmbpaaaDoor.St Go.Proofs.YtepiiiekcmbpaaaDoor.Bits Go.Proofs.YtepiiiekcmbpaaaDoor.Wd Go.Proofs.YtepiiiekcmbpaaaDoor.Su Go.Proofs.YtepiiiekcmbpaaaDoor.Ir Go.Proofs.YtepiiiekcmbpaaaDoor.Sb Go.Proofs.YtepiiiekcmbpaaaDoor.Iu Go.Proofs.YtepiiiekcmbpaaaDoor.Ip Go.Proofs.YtepiiiekcmbpaaaDoor.Iq Go.Proofs.YtepiiiekcmbpaaaDoor.Dv
set_option maxRecDepth 100000

theorem good1 : IsSb ((256 : Nat) : Int) 1 := ⟨⟨by decide, by decide, by decide⟩, by decide, by decide⟩
theorem good2 : IsSb ((256 : Nat) : Int) 2 := ⟨⟨by decide, by decide, by decide⟩, by decide, by decide⟩
theorem good3 : IsSb ((264 : Nat) : Int) 1 := ⟨⟨by decide, by decide, by decide⟩, by decide, by decide⟩
theorem sums_apart : sumS 256 2 ≠ sumS 256 1 := by decide +kernel
/-- Two right copies: two words of the second one differ. -/
theorem two_heal {A B : List Int} (ha : Two A 256 1) (hb : Two B 256 2) (hz : A.drop 16 = B.drop 16) : (diffs (wordsI 256 1 ++ B.drop 8) A 256).length = 2 := by
  have eA := two_eq ha
  have eB := two_eq hb
  have hB8 : B.drop 8 = wordsI 256 2 ++ B.drop 16 := by
    rw [← eB]
    rfl
  have hA : A = wordsI 256 1 ++ (wordsI 256 1 ++ A.drop 16) := eA.symm
  have hZ : wordsI 256 1 ++ B.drop 8 = wordsI 256 1 ++ (wordsI 256 2 ++ A.drop 16) := by rw [hB8, hz]
  rw [hZ, hA]
  have hd : (wordsI 256 1 ++ (wordsI 256 1 ++ A.drop 16)).drop 16 = A.drop 16 := rfl
  rw [hd]
  generalize A.drop 16 = R
  have same : ∀ i, ¬ i = 11 → ¬ i = 15 → (wordsI 256 1 ++ (wordsI 256 2 ++ R)).getD i 0 = (wordsI 256 1 ++ (wordsI 256 1 ++ R)).getD i 0 := by
    intro i h1 h2
    rcases (by omega : 16 ≤ i ∨ i = 0 ∨ i = 1 ∨ i = 2 ∨ i = 3 ∨ i = 4 ∨ i = 5 ∨ i = 6 ∨ i = 7 ∨ i = 8 ∨ i = 9 ∨ i = 10 ∨ i = 12 ∨ i = 13 ∨ i = 14) with h | rfl | rfl | rfl | rfl | rfl | rfl | rfl | rfl | rfl | rfl | rfl | rfl | rfl | rfl
    · exact getD_drop (xs := wordsI 256 1 ++ (wordsI 256 2 ++ R)) (ys := wordsI 256 1 ++ (wordsI 256 1 ++ R)) rfl h
    all_goals rfl
  have n11 : ¬ (wordsI 256 1 ++ (wordsI 256 2 ++ R)).getD 11 0 = (wordsI 256 1 ++ (wordsI 256 1 ++ R)).getD 11 0 := by
    show ¬ (2 : Int) = 1
    decide
  have n15 : ¬ (wordsI 256 1 ++ (wordsI 256 2 ++ R)).getD 15 0 = (wordsI 256 1 ++ (wordsI 256 1 ++ R)).getD 15 0 := sums_apart
  rw [diffs_stay (j := 16) (k := 256) (by decide) (fun i h1 _ => same i (by omega) (by omega)), diffs_other n15, diffs_stay (j := 12) (k := 15) (by decide) (fun i h1 h2 => same i (by omega) (by omega)), diffs_other n11, diffs_stay (j := 0) (k := 11) (by decide) (fun i _ h2 => same i (by omega) (by omega))]
  rfl
theorem zeros_none : twE (List.replicate 256 0) = 50 := by
  have hl : (List.replicate 256 (0 : Int)).length = 256 := List.length_replicate
  have hr : ∀ k, k ≤ 1 → readE (copyI (List.replicate 256 0) k) ≠ 0 := fun k hk => by
    have hc : copyI (List.replicate 256 0) k = [0, 0, 0, 0, 0, 0, 0, 0] := by
      unfold copyI
      rw [List.drop_replicate, List.take_replicate, Nat.min_eq_left (by omega)]
      rfl
    rw [hc, (read_none rfl fun W T hg he => by
      unfold wordsI at he
      simp only [List.cons.injEq] at he
      omega : readE [0, 0, 0, 0, 0, 0, 0, 0] = 50 ∧ _ ∧ _).1]
    decide
  exact tw_none (by rw [hl]; exact good1.1) (not_ok (hr 0 (by decide))) (not_ok (hr 1 (by decide)))
/-- What is not right tells nothing. -/
theorem tw_nothing {xs : List Int} {r : Int} (h : twE xs = r) (hr : r ≠ 0) : (twE xs = r ∧ twW xs = 0 ∧ twT xs = 0 ∧ twA xs 0 = false ∧ twA xs 1 = false) ∧ (twE xs = r ∧ viewL xs = []) ∧ (twE xs = r ∧ healL xs = []) := by
  obtain ⟨z1, z2, z3, z4, z5⟩ := tw_zero (xs := xs) (by rw [h]; exact hr)
  exact ⟨⟨h, z1, z2, z3 0, z3 1⟩, ⟨h, z4⟩, ⟨h, z5⟩⟩
theorem short_none {A C : List Int} (ha : Two A 256 1) (hc : Two C 264 1) : twE (C.take 16 ++ A.drop 16) = 50 := by
  have hl : (C.take 16 ++ A.drop 16).length = 256 := by
    rw [List.length_append, List.length_take, List.length_drop, ha.1, hc.1]
    rfl
  rw [hc.2] at hl ⊢
  have hr : ∀ k, k = 0 ∨ k = 1 → okI ((wordsI (264 : Nat) 1 ++ wordsI (264 : Nat) 1) ++ A.drop 16) k = false := fun k hk => by
    have e : copyI ((wordsI (264 : Nat) 1 ++ wordsI (264 : Nat) 1) ++ A.drop 16) k = wordsI (264 : Nat) 1 := by
      rcases hk with rfl | rfl <;> rfl
    refine decide_eq_false fun h => ?_
    rw [e, (read_words good3).2.1, hl] at h
    exact absurd h.2 (by decide)
  exact tw_none (by rw [hl]; exact good1.1) (hr 0 (.inl rfl)) (hr 1 (.inr rfl))
/-- All that the law asks of its three images. -/
theorem names_all {A B C : List Int} (ha : Two A 256 1) (hb : Two B 256 2) (hc : Two C 264 1) (hz : A.drop 16 = B.drop 16) :
    (twE (A.take 8 ++ (B.drop 8).take 248) = 0 ∧ twW (A.take 8 ++ (B.drop 8).take 248) = 256 ∧ twT (A.take 8 ++ (B.drop 8).take 248) = 1 ∧ twA (A.take 8 ++ (B.drop 8).take 248) 0 = true ∧ twA (A.take 8 ++ (B.drop 8).take 248) 1 = true) ∧
    viewL (A.take 8 ++ (B.drop 8).take 248) = A ∧ (healL (A.take 8 ++ (B.drop 8).take 248)).length = 2 ∧
    (twE (C.take 8 ++ (B.drop 8).take 248) = 0 ∧ twW (C.take 8 ++ (B.drop 8).take 248) = 256 ∧ twT (C.take 8 ++ (B.drop 8).take 248) = 2 ∧ twA (C.take 8 ++ (B.drop 8).take 248) 0 = false ∧ twA (C.take 8 ++ (B.drop 8).take 248) 1 = true) ∧
    twE (C.take 16 ++ (A.drop 16).take 240) = 50 ∧ twE (A.take 255) = 8 ∧ (twE A = 0 ∧ healL A = []) := by
  have hB8 : (B.drop 8).take 248 = B.drop 8 := List.take_of_length_le (by rw [List.length_drop, hb.1]; decide)
  have hA16 : (A.drop 16).take 240 = A.drop 16 := List.take_of_length_le (by rw [List.length_drop, ha.1]; decide)
  have hp := fun l (hl : l.length = 8) => put_first (xs := B) (l := l) hl
  obtain ⟨f1, f2, f3, f4, f5, f6, f7, f8⟩ := first_two ha hb hz good1 good2
  rw [hp _ (words_len _ _)] at f1 f2 f3 f4 f5 f6 f7 f8
  obtain ⟨g1, g2, g3, g4, g5, _⟩ := spoil_first hb good2 (l := wordsI (264 : Nat) 1) (words_len _ _) (fun h => by
    rw [(read_words good3).2.1] at h
    exact absurd h.2 (by decide))
  rw [hp _ (words_len _ _)] at g1 g2 g3 g4 g5
  rw [hB8, hA16, (take8_two ha).1, (take8_two hc).1]
  have hlen : (wordsI (256 : Nat) 1 ++ B.drop 8).length = 256 := by
    rw [List.length_append, words_len, List.length_drop, hb.1]
  refine ⟨⟨f1, f2, f3, f4, f5⟩, f6, ?_, ⟨g1, g2, g3, g4, g5⟩, short_none ha hc, ?_, ?_⟩
  · rw [heal_of f1 f6 hlen, ents_len]
    exact two_heal ha hb hz
  · refine tw_bad fun h => ?_
    rw [List.length_take, ha.1] at h
    exact absurd h.2.2 (by decide)
  · have hi : Img A.length := by rw [ha.1]; exact good1.1
    have e : bothI (256 : Nat) 1 A = A := two_eq ha
    obtain ⟨b1, b2, b3, b4, b5, b6⟩ := both_tw (W := ((256 : Nat) : Int)) (T := 1) hi (by rw [ha.1]) good1
    rw [e] at b1 b6
    exact ⟨b1, heal_none b6⟩
end Go.Proofs.YtepiiiekcmbpaaaDoor.Tw
