/-
  What is put in the place of a copy, on lists.
-/
import Derived.Test.YtepiiiekcmbpaaaDoorTwq
namespace Go.Proofs.YtepiiiekcmbpaaaDoor.Tw
open Go.RowKit Go.Proofs.YtepiiiekcmbpaaaDoor.Sl Go.Proofs.YtepiiiekcmbpaaaDoor.St Go.Proofs.YtepiiiekcmbpaaaDoor.Bits Go.Proofs.YtepiiiekcmbpaaaDoor.Wd Go.Proofs.YtepiiiekcmbpaaaDoor.Su Go.Proofs.YtepiiiekcmbpaaaDoor.Ir Go.Proofs.YtepiiiekcmbpaaaDoor.Sb Go.Proofs.YtepiiiekcmbpaaaDoor.Iu Go.Proofs.YtepiiiekcmbpaaaDoor.Ip Go.Proofs.YtepiiiekcmbpaaaDoor.Iq Go.Proofs.YtepiiiekcmbpaaaDoor.Dv
set_option maxRecDepth 100000

/-- An image with two copies of a superblock. -/
def Two (xs : List Int) (n : Nat) (T : Int) : Prop := xs.length = n ∧ xs.take 16 = wordsI n T ++ wordsI n T
theorem two_eq {xs : List Int} {n : Nat} {T : Int} (h : Two xs n T) : wordsI n T ++ (wordsI n T ++ xs.drop 16) = xs := by
  rw [← List.append_assoc, ← h.2, List.take_append_drop]
theorem two_copy {xs : List Int} {n : Nat} {T : Int} (h : Two xs n T) : copyI xs 0 = wordsI n T ∧ copyI xs 1 = wordsI n T := by
  have e := two_eq h
  constructor <;> (rw [← e]; rfl)
theorem two_set {xs : List Int} {n : Nat} {T : Int} (h : Two xs n T) {i : Nat} (hi : 16 ≤ i) (u : Int) : Two (xs.set i u) n T := by
  refine ⟨by rw [List.length_set]; exact h.1, ?_⟩
  rw [List.take_set, List.set_eq_of_length_le (by rw [List.length_take]; omega)]
  exact h.2
theorem put_first {xs l : List Int} (hl : l.length = 8) : putL xs 0 l = l ++ xs.drop 8 := by
  unfold putL
  rw [hl]
  rfl
theorem put_second {xs l : List Int} (hl : l.length = 8) : putL xs 8 l = xs.take 8 ++ (l ++ xs.drop 16) := by
  unfold putL
  rw [hl]
theorem take8_two {xs : List Int} {n : Nat} {T : Int} (h : Two xs n T) : xs.take 8 = wordsI n T ∧ (xs.drop 8).take 8 = wordsI n T ∧ (xs.drop 8).drop 8 = xs.drop 16 := by
  have e := two_copy h
  unfold copyI at e
  rw [Nat.mul_zero, List.drop_zero, Nat.mul_one] at e
  exact ⟨e.1, e.2, by rw [List.drop_drop]⟩
/-- Whatever else is in the place of the first copy. -/
theorem spoil_first {xs l : List Int} {n : Nat} {T : Int} (h : Two xs n T) (hg : IsSb n T) (hl : l.length = 8) (hno : ¬ (readE l = 0 ∧ readW l = n)) :
    twE (putL xs 0 l) = 0 ∧ twW (putL xs 0 l) = n ∧ twT (putL xs 0 l) = T ∧ twA (putL xs 0 l) 0 = false ∧ twA (putL xs 0 l) 1 = true ∧ viewL (putL xs 0 l) = xs := by
  have hb := img_bd hg.1
  obtain ⟨t1, t2, t3⟩ := take8_two h
  have e := put_first (xs := xs) hl
  have hlen : (putL xs 0 l).length = n := len_put h.1 (by omega)
  have c0 : copyI (putL xs 0 l) 0 = l := by
    unfold copyI
    rw [e, Nat.mul_zero, List.drop_zero, List.take_left' hl]
  have c1 : copyI (putL xs 0 l) 1 = wordsI n T := by
    unfold copyI
    rw [e, Nat.mul_one, List.drop_left' hl, t2]
  have d16 : (putL xs 0 l).drop 16 = xs.drop 16 := by
    rw [e, ← t3, show (16 : Nat) = 8 + 8 from rfl, ← List.drop_drop, List.drop_left' hl]
  have ho : okI (putL xs 0 l) 0 = false := decide_eq_false (by rw [c0, hlen]; exact hno)
  obtain ⟨a, b, c, d, f⟩ := tw_second (xs := putL xs 0 l) (T := T) (by rw [hlen]; exact hg.1) (by rw [hlen]; exact hg) ho (by rw [hlen]; exact c1)
  rw [hlen] at b
  refine ⟨a, b, c, d, f, ?_⟩
  rw [view_of a b c]
  unfold bothI
  rw [d16]
  exact two_eq h
/-- Whatever is in the place of the second copy. -/
theorem spoil_second {xs l : List Int} {n : Nat} {T : Int} (h : Two xs n T) (hg : IsSb n T) (hl : l.length = 8) :
    twE (putL xs 8 l) = 0 ∧ twW (putL xs 8 l) = n ∧ twT (putL xs 8 l) = T ∧ twA (putL xs 8 l) 0 = true ∧ viewL (putL xs 8 l) = xs := by
  have hb := img_bd hg.1
  obtain ⟨t1, t2, t3⟩ := take8_two h
  have e := put_second (xs := xs) hl
  have hlen : (putL xs 8 l).length = n := len_put h.1 (by omega)
  have c0 : copyI (putL xs 8 l) 0 = wordsI n T := by
    unfold copyI
    rw [e, Nat.mul_zero, List.drop_zero, t1, List.take_left' (words_len _ _)]
  have d16 : (putL xs 8 l).drop 16 = xs.drop 16 := by
    rw [e, t1, show (16 : Nat) = 8 + 8 from rfl, ← List.drop_drop, List.drop_left' (words_len _ _), List.drop_left' hl]
  obtain ⟨a, b, c, d, _⟩ := tw_first (xs := putL xs 8 l) (T := T) (by rw [hlen]; exact hg.1) (by rw [hlen]; exact hg) (by rw [hlen]; exact c0)
  rw [hlen] at b
  refine ⟨a, b, c, d, ?_⟩
  rw [view_of a b c]
  unfold bothI
  rw [d16]
  exact two_eq h
/-- Healing an image whose first copy is right changes the second one alone. -/
theorem heal_first {xs : List Int} (h : twE xs = 0) (hx : copyI xs 0 = wordsI xs.length (twT xs)) : ∀ x ∈ diffs xs (viewL xs) xs.length, 8 ≤ x ∧ x ≤ 15 := by
  obtain ⟨hW, hg, _⟩ := tw_sb h
  have e : viewL xs = bothI (twW xs) (twT xs) xs := if_pos h
  obtain ⟨c0, c1, c2⟩ := both_copy (twW xs) (twT xs) xs
  rw [← e] at c0 c1 c2
  intro x hx'
  obtain ⟨i, rfl, h2, h3⟩ := diffs_mem hx'
  rcases (by omega : i < 8 ∨ (8 ≤ i ∧ i ≤ 15) ∨ 16 ≤ i) with h4 | h4 | h4
  · exact absurd (getD_copy (k := 0) (by rw [c0, hx, hW]) (by omega) (by omega)) h3
  · omega
  · exact absurd (getD_drop c2.symm h4) h3
/-- Two right copies of different superblocks. -/
theorem first_two {ks ms : List Int} {n : Nat} {T S : Int} (ha : Two ks n T) (hb : Two ms n S) (hz : ks.drop 16 = ms.drop 16) (hg : IsSb n T) (hg' : IsSb n S) :
    twE (putL ms 0 (wordsI n T)) = 0 ∧ twW (putL ms 0 (wordsI n T)) = n ∧ twT (putL ms 0 (wordsI n T)) = T ∧ twA (putL ms 0 (wordsI n T)) 0 = true ∧ twA (putL ms 0 (wordsI n T)) 1 = true ∧ viewL (putL ms 0 (wordsI n T)) = ks ∧
      (∀ x ∈ healL (putL ms 0 (wordsI n T)), 8 ≤ x.p ∧ x.p ≤ 15) ∧ ((healL (putL ms 0 (wordsI n T))).length = 0 ↔ T = S) := by
  have hbd := img_bd hg.1
  obtain ⟨t1, t2, t3⟩ := take8_two hb
  have e := put_first (xs := ms) (words_len n T)
  have hlen : (putL ms 0 (wordsI n T)).length = n := len_put hb.1 (by rw [words_len]; omega)
  have c0 : copyI (putL ms 0 (wordsI n T)) 0 = wordsI n T := by
    unfold copyI
    rw [e, Nat.mul_zero, List.drop_zero, List.take_left' (words_len _ _)]
  have c1 : copyI (putL ms 0 (wordsI n T)) 1 = wordsI n S := by
    unfold copyI
    rw [e, Nat.mul_one, List.drop_left' (words_len _ _), t2]
  have d16 : (putL ms 0 (wordsI n T)).drop 16 = ms.drop 16 := by
    rw [e, ← t3, show (16 : Nat) = 8 + 8 from rfl, ← List.drop_drop, List.drop_left' (words_len _ _)]
  obtain ⟨a, b, c, d, f⟩ := tw_first (xs := putL ms 0 (wordsI n T)) (T := T) (by rw [hlen]; exact hg.1) (by rw [hlen]; exact hg) (by rw [hlen]; exact c0)
  rw [hlen] at b
  have hv : viewL (putL ms 0 (wordsI n T)) = ks := by
    rw [view_of a b c]
    unfold bothI
    rw [d16, ← hz]
    exact two_eq ha
  have o1 := (ok_of (xs := putL ms 0 (wordsI n T)) (k := 1) (T := S) (by rw [hlen]; exact hg') (by rw [hlen]; exact c1)).1
  have hh : healL (putL ms 0 (wordsI n T)) = entsL (putL ms 0 (wordsI n T)) ks n := heal_of a hv hlen
  refine ⟨a, b, c, d, by rw [f, o1], hv, ?_, ?_⟩
  · intro x hx
    rw [hh] at hx
    unfold entsL at hx
    obtain ⟨i, hi, rfl⟩ := List.mem_map.1 hx
    have := heal_first a (by rw [c, hlen]; exact c0) i (by rw [hv, hlen]; exact hi)
    exact this
  · rw [hh, ents_len]
    constructor
    · intro h0
      have he := none_same hlen ha.1 h0
      have k1 := (two_copy ha).2
      rw [← he, c1] at k1
      exact ((words_eq.1 k1).2).symm
    · rintro rfl
      have he : putL ms 0 (wordsI n T) = ks := by
        rw [e, ← two_eq ha, hz, ← t3]
        have h3 : wordsI n T ++ (ms.drop 8).drop 8 = ms.drop 8 := by
          rw [← t2, List.take_append_drop]
        rw [h3]
      rw [he, diffs_self]
      rfl
end Go.Proofs.YtepiiiekcmbpaaaDoor.Tw
