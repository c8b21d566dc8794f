/-
  Two copies of the superblock, on lists: which are right, the view, and what healing changes.
-/
import Derived.Test.YtepiiiekcmbpaaaDoorSbp
import Derived.Test.YtepiiiekcmbpaaaDoorImageq
import Derived.Test.YtepiiiekcmbpaaaDoorEnr
namespace Go.Proofs.YtepiiiekcmbpaaaDoor.Tw
open Go.RowKit Go.Proofs.YtepiiiekcmbpaaaDoor.Sl Go.Proofs.YtepiiiekcmbpaaaDoor.St Go.Proofs.YtepiiiekcmbpaaaDoor.Bits Go.Proofs.YtepiiiekcmbpaaaDoor.Wd Go.Proofs.YtepiiiekcmbpaaaDoor.Su Go.Proofs.YtepiiiekcmbpaaaDoor.Ir Go.Proofs.YtepiiiekcmbpaaaDoor.Sb Go.Proofs.YtepiiiekcmbpaaaDoor.Iu Go.Proofs.YtepiiiekcmbpaaaDoor.Ip Go.Proofs.YtepiiiekcmbpaaaDoor.Iq Go.Proofs.YtepiiiekcmbpaaaDoor.Dv
set_option maxRecDepth 100000

/-- A copy. -/
def copyI (xs : List Int) (k : Nat) : List Int := (xs.drop (8 * k)).take 8
def okI (xs : List Int) (k : Nat) : Bool := decide (readE (copyI xs k) = 0 ∧ readW (copyI xs k) = xs.length)
/-- The superblock of a copy, if it is right. -/
def cpW (xs : List Int) (k : Nat) : Int := if okI xs k = true then readW (copyI xs k) else 0
def cpT (xs : List Int) (k : Nat) : Int := if okI xs k = true then readT (copyI xs k) else 0
def twE (xs : List Int) : Int := if ¬ Img xs.length then 8 else if (okI xs 0 || okI xs 1) = true then 0 else 50
def twW (xs : List Int) : Int := if twE xs = 0 then (if okI xs 0 = true then cpW xs 0 else cpW xs 1) else 0
def twT (xs : List Int) : Int := if twE xs = 0 then (if okI xs 0 = true then cpT xs 0 else cpT xs 1) else 0
def twA (xs : List Int) (k : Nat) : Bool := decide (twE xs = 0) && okI xs k
def bothI (W T : Int) (xs : List Int) : List Int := wordsI W T ++ (wordsI W T ++ xs.drop 16)
def viewL (xs : List Int) : List Int := if twE xs = 0 then bothI (twW xs) (twT xs) xs else []
/-- An entry for each address at which lists differ. -/
def entsL (xs vs : List Int) (n : Nat) : List En := (diffs xs vs n).map fun i => ⟨i, vs.getD i.toNat 0⟩
def healL (xs : List Int) : List En := if twE xs = 0 then entsL xs (viewL xs) xs.length else []

/-- A right copy. -/
theorem ok_iff {xs : List Int} {k : Nat} : okI xs k = true ↔ ∃ T, IsSb xs.length T ∧ copyI xs k = wordsI xs.length T := by
  unfold okI
  rw [decide_eq_true_iff]
  constructor
  · rintro ⟨h1, h2⟩
    rcases read_three (copyI xs k) with ⟨_, h, _⟩ | ⟨_, h, _⟩ | ⟨W, T, hg, hx, _, hw, _⟩
    · omega
    · omega
    · rw [hw] at h2
      subst h2
      exact ⟨T, hg, hx⟩
  · rintro ⟨T, hg, hx⟩
    rw [hx]
    exact ⟨(read_words hg).1, (read_words hg).2.1⟩
theorem ok_of {xs : List Int} {k : Nat} {T : Int} (hg : IsSb xs.length T) (hx : copyI xs k = wordsI xs.length T) : okI xs k = true ∧ cpW xs k = xs.length ∧ cpT xs k = T := by
  have h := ok_iff.2 ⟨T, hg, hx⟩
  refine ⟨h, ?_, ?_⟩
  · unfold cpW
    rw [if_pos h, hx]
    exact (read_words hg).2.1
  · unfold cpT
    rw [if_pos h, hx]
    exact (read_words hg).2.2
theorem copy_len {xs : List Int} {k : Nat} (h : 8 * k + 8 ≤ xs.length) : (copyI xs k).length = 8 := by
  unfold copyI
  rw [List.length_take, List.length_drop]
  omega
theorem tw_bad {xs : List Int} (h : ¬ Img xs.length) : twE xs = 8 := by
  unfold twE
  rw [if_pos h]
theorem tw_zero {xs : List Int} (h : twE xs ≠ 0) : twW xs = 0 ∧ twT xs = 0 ∧ (∀ k, twA xs k = false) ∧ viewL xs = [] ∧ healL xs = [] := by
  unfold twW twT twA viewL healL
  rw [if_neg h, if_neg h, if_neg h, if_neg h, decide_eq_false h]
  exact ⟨rfl, rfl, fun _ => rfl, rfl, rfl⟩
theorem tw_none {xs : List Int} (hi : Img xs.length) (h0 : okI xs 0 = false) (h1 : okI xs 1 = false) : twE xs = 50 := by
  unfold twE
  rw [if_neg (fun h => h hi), h0, h1]
  rfl
theorem tw_ok {xs : List Int} (hi : Img xs.length) (h : okI xs 0 = true ∨ okI xs 1 = true) : twE xs = 0 := by
  unfold twE
  rw [if_neg (fun h => h hi), if_pos (by rcases h with h | h <;> simp [h])]
theorem tw_inv {xs : List Int} (h : twE xs = 0) : Img xs.length ∧ (okI xs 0 = true ∨ okI xs 1 = true) := by
  unfold twE at h
  by_cases hi : Img xs.length
  · rw [if_neg (fun g => g hi)] at h
    by_cases ho : (okI xs 0 || okI xs 1) = true
    · exact ⟨hi, by simpa using ho⟩
    · rw [if_neg ho] at h
      omega
  · rw [if_pos hi] at h
    omega
theorem tw_three (xs : List Int) : twE xs = 0 ∨ twE xs = 8 ∨ twE xs = 50 := by
  unfold twE
  by_cases hi : Img xs.length
  · rw [if_neg (fun g => g hi)]
    by_cases ho : (okI xs 0 || okI xs 1) = true
    · rw [if_pos ho]
      exact .inl rfl
    · rw [if_neg ho]
      exact .inr (.inr rfl)
  · rw [if_pos hi]
    exact .inr (.inl rfl)
/-- The superblock of an image: that of its right copy. -/
theorem tw_sb {xs : List Int} (h : twE xs = 0) : twW xs = xs.length ∧ IsSb xs.length (twT xs) ∧ ((okI xs 0 = true ∧ copyI xs 0 = wordsI xs.length (twT xs)) ∨ (okI xs 0 = false ∧ okI xs 1 = true ∧ copyI xs 1 = wordsI xs.length (twT xs))) := by
  obtain ⟨hi, ho⟩ := tw_inv h
  unfold twW twT
  rw [if_pos h, if_pos h]
  by_cases h0 : okI xs 0 = true
  · obtain ⟨T, hg, hx⟩ := ok_iff.1 h0
    obtain ⟨_, e1, e2⟩ := ok_of hg hx
    rw [if_pos h0, if_pos h0, e1, e2]
    exact ⟨rfl, hg, .inl ⟨h0, hx⟩⟩
  · have h1 : okI xs 1 = true := by simpa [h0] using ho
    obtain ⟨T, hg, hx⟩ := ok_iff.1 h1
    obtain ⟨_, e1, e2⟩ := ok_of hg hx
    rw [if_neg h0, if_neg h0, e1, e2]
    exact ⟨rfl, hg, .inr ⟨by simpa using h0, h1, hx⟩⟩
theorem both_len {W T : Int} {xs : List Int} (h : 16 ≤ xs.length) : (bothI W T xs).length = xs.length := by
  unfold bothI
  rw [List.length_append, List.length_append, words_len, List.length_drop]
  omega
theorem img_bd {n : Nat} (h : Img n) : 256 ≤ n ∧ n ≤ 2048 := ⟨by have := h.1; omega, by have := h.2.1; omega⟩
theorem both_copy (W T : Int) (xs : List Int) : copyI (bothI W T xs) 0 = wordsI W T ∧ copyI (bothI W T xs) 1 = wordsI W T ∧ (bothI W T xs).drop 16 = xs.drop 16 := ⟨rfl, rfl, rfl⟩
/-- An image in three parts. -/
theorem three_parts (xs : List Int) : xs = copyI xs 0 ++ (copyI xs 1 ++ xs.drop 16) := by
  unfold copyI
  rw [Nat.mul_zero, List.drop_zero, Nat.mul_one]
  have h1 : (xs.drop 8).drop 8 = xs.drop 16 := by rw [List.drop_drop]
  rw [← h1, List.take_append_drop, List.take_append_drop]
/-- Two right copies of a superblock. -/
theorem both_tw {W T : Int} {xs : List Int} (hi : Img xs.length) (hW : W = xs.length) (hg : IsSb W T) :
    twE (bothI W T xs) = 0 ∧ twW (bothI W T xs) = W ∧ twT (bothI W T xs) = T ∧ okI (bothI W T xs) 0 = true ∧ okI (bothI W T xs) 1 = true ∧ viewL (bothI W T xs) = bothI W T xs := by
  have hb := img_bd hi
  have hl := both_len (W := W) (T := T) (xs := xs) (by omega)
  obtain ⟨c0, c1, c2⟩ := both_copy W T xs
  have hl' : ((bothI W T xs).length : Int) = W := by rw [hl, hW]
  have hg' : IsSb ((bothI W T xs).length : Int) T := by rw [hl']; exact hg
  have d0 : copyI (bothI W T xs) 0 = wordsI ((bothI W T xs).length : Int) T := by rw [hl']; exact c0
  have d1 : copyI (bothI W T xs) 1 = wordsI ((bothI W T xs).length : Int) T := by rw [hl']; exact c1
  obtain ⟨o0, w0, t0⟩ := ok_of hg' d0
  obtain ⟨o1, w1, t1⟩ := ok_of hg' d1
  have he := tw_ok (by rw [hl]; exact hi) (.inl o0)
  have eW : twW (bothI W T xs) = W := by
    unfold twW
    rw [if_pos he, if_pos o0, w0, hl']
  have eT : twT (bothI W T xs) = T := by
    unfold twT
    rw [if_pos he, if_pos o0, t0]
  refine ⟨he, eW, eT, o0, o1, ?_⟩
  unfold viewL
  rw [if_pos he, eW, eT]
  rfl
theorem view_tw {xs : List Int} (h : twE xs = 0) : twE (viewL xs) = 0 ∧ twW (viewL xs) = twW xs ∧ twT (viewL xs) = twT xs ∧ okI (viewL xs) 0 = true ∧ okI (viewL xs) 1 = true ∧ viewL (viewL xs) = viewL xs ∧ (viewL xs).length = xs.length := by
  obtain ⟨hi, _⟩ := tw_inv h
  obtain ⟨hW, hg, _⟩ := tw_sb h
  have e : viewL xs = bothI (twW xs) (twT xs) xs := if_pos h
  have hb := img_bd hi
  rw [e]
  obtain ⟨a, b, c, d, f, g⟩ := both_tw hi hW (by rw [hW]; exact hg)
  exact ⟨a, b, c, d, f, g, both_len (by omega)⟩
theorem ents_self (xs : List Int) (n : Nat) : entsL xs xs n = [] := by
  unfold entsL
  rw [diffs_self]
  rfl
theorem heal_none {xs : List Int} (h : viewL xs = xs) : healL xs = [] := by
  unfold healL
  rw [h, ents_self]
  split <;> rfl
theorem getD_drop {xs ys : List Int} (h : xs.drop 16 = ys.drop 16) {i : Nat} (hi : 16 ≤ i) : xs.getD i 0 = ys.getD i 0 := by
  have : (xs.drop 16).getD (i - 16) 0 = (ys.drop 16).getD (i - 16) 0 := by rw [h]
  rw [List.getD_eq_getElem?_getD, List.getD_eq_getElem?_getD, List.getElem?_drop, List.getElem?_drop, show 16 + (i - 16) = i from by omega, ← List.getD_eq_getElem?_getD, ← List.getD_eq_getElem?_getD] at this
  exact this
theorem getD_copy {xs ys : List Int} {k : Nat} (h : copyI xs k = copyI ys k) {i : Nat} (h1 : 8 * k ≤ i) (h2 : i < 8 * k + 8) : xs.getD i 0 = ys.getD i 0 := by
  have : (copyI xs k)[i - 8 * k]? = (copyI ys k)[i - 8 * k]? := by rw [h]
  unfold copyI at this
  rw [List.getElem?_take, List.getElem?_take, if_pos (by omega), if_pos (by omega), List.getElem?_drop, List.getElem?_drop, show 8 * k + (i - 8 * k) = i from by omega] at this
  rw [List.getD_eq_getElem?_getD, List.getD_eq_getElem?_getD, this]
/-- Where lists differ, they do. -/
theorem diffs_mem {xs vs : List Int} {x : Int} : ∀ {n : Nat}, x ∈ diffs xs vs n → ∃ i : Nat, x = (i : Int) ∧ i < n ∧ ¬ xs.getD i 0 = vs.getD i 0
  | 0, h => by simp [diffs] at h
  | n + 1, h => by
    by_cases he : xs.getD n 0 = vs.getD n 0
    · rw [diffs_same he] at h
      obtain ⟨i, h1, h2, h3⟩ := diffs_mem h
      exact ⟨i, h1, by omega, h3⟩
    · rw [diffs_other he] at h
      rcases List.mem_append.1 h with h | h
      · obtain ⟨i, h1, h2, h3⟩ := diffs_mem h
        exact ⟨i, h1, by omega, h3⟩
      · exact ⟨n, List.mem_singleton.1 h, by omega, he⟩
/-- Healing changes words of one copy alone. -/
theorem heal_one {xs : List Int} (h : twE xs = 0) : (∀ x ∈ diffs xs (viewL xs) xs.length, 8 ≤ x ∧ x ≤ 15) ∨ (∀ x ∈ diffs xs (viewL xs) xs.length, 0 ≤ x ∧ x ≤ 7) := by
  obtain ⟨hi, _⟩ := tw_inv h
  obtain ⟨hW, hg, hc⟩ := tw_sb h
  have e : viewL xs = bothI (twW xs) (twT xs) xs := if_pos h
  obtain ⟨c0, c1, c2⟩ := both_copy (twW xs) (twT xs) xs
  rw [← e] at c0 c1 c2
  rcases hc with ⟨_, hx⟩ | ⟨_, _, hx⟩
  · refine .inl fun x hx' => ?_
    obtain ⟨i, rfl, h2, h3⟩ := diffs_mem hx'
    rcases (by omega : i < 8 ∨ (8 ≤ i ∧ i ≤ 15) ∨ 16 ≤ i) with h4 | h4 | h4
    · exact absurd (getD_copy (k := 0) (by rw [c0, hx, hW]) (by omega) (by omega)) h3
    · omega
    · exact absurd (getD_drop c2.symm h4) h3
  · refine .inr fun x hx' => ?_
    obtain ⟨i, rfl, h2, h3⟩ := diffs_mem hx'
    rcases (by omega : i < 8 ∨ (8 ≤ i ∧ i ≤ 15) ∨ 16 ≤ i) with h4 | h4 | h4
    · omega
    · exact absurd (getD_copy (k := 1) (by rw [c1, hx, hW]) (by omega) (by omega)) h3
    · exact absurd (getD_drop c2.symm h4) h3
theorem ents_len (xs vs : List Int) (n : Nat) : (entsL xs vs n).length = (diffs xs vs n).length := List.length_map _
theorem ents_at {xs vs : List Int} {n k : Nat} (hk : k < (entsL xs vs n).length) : (entsL xs vs n)[k].p = (diffs xs vs n).getD k 0 ∧ (entsL xs vs n)[k].v = vs.getD ((diffs xs vs n).getD k 0).toNat 0 := by
  have hk' : k < (diffs xs vs n).length := by rw [← ents_len]; exact hk
  have e : (entsL xs vs n)[k] = ⟨(diffs xs vs n)[k], vs.getD (diffs xs vs n)[k].toNat 0⟩ := List.getElem_map (f := fun i => (⟨i, vs.getD i.toNat 0⟩ : En)) (l := diffs xs vs n) (h := hk)
  have g : (diffs xs vs n).getD k 0 = (diffs xs vs n)[k] := by rw [List.getD_eq_getElem?_getD, List.getElem?_eq_getElem hk', Option.getD_some]
  rw [e, g]
  exact ⟨rfl, rfl⟩
theorem ents_same {xs vs : List Int} {k : Nat} (h : xs.getD k 0 = vs.getD k 0) : entsL xs vs (k + 1) = entsL xs vs k := by
  unfold entsL
  rw [diffs_same h]
theorem ents_other {xs vs : List Int} {k : Nat} (h : ¬ xs.getD k 0 = vs.getD k 0) : entsL xs vs (k + 1) = entsL xs vs k ++ [⟨(k : Int), vs.getD k 0⟩] := by
  unfold entsL
  rw [diffs_other h, List.map_append]
  rfl
end Go.Proofs.YtepiiiekcmbpaaaDoor.Tw
