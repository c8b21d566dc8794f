/-
  Crashes as data: which dirty words a mask keeps, the image after a crash, and what follows of words that are old or new. No function of the program.
-/
import Derived.Test.YtkjhpjgdcjccjaaDoorPure
namespace Go.Proofs.YtkjhpjgdcjccjaaDoor.Cp
open Go.Proofs.YtkjhpjgdcjccjaaDoor.Sl Go.Proofs.YtkjhpjgdcjccjaaDoor.Ir Go.Proofs.YtkjhpjgdcjccjaaDoor.Dv

/-- A mask keeps the dirty word with an index. -/
def keep (M : Int) (i : Nat) : Bool := decide (M.toNat / 2 ^ (i % 64) % 2 = 1)
/-- The indices that a mask keeps, of the first ones. -/
def chosen (M : Int) : Nat → List Int
  | 0 => []
  | k + 1 => if keep M k = true then chosen M k ++ [(k : Int)] else chosen M k
theorem chosen_yes {M : Int} {k : Nat} (h : keep M k = true) : chosen M (k + 1) = chosen M k ++ [(k : Int)] := by rw [chosen, if_pos h]
theorem chosen_no {M : Int} {k : Nat} (h : keep M k = false) : chosen M (k + 1) = chosen M k := by rw [chosen, if_neg (by rw [h]; decide)]
theorem chosen_len (M : Int) : ∀ k, (chosen M k).length ≤ k
  | 0 => Nat.le_refl _
  | k + 1 => by
    have := chosen_len M k
    unfold chosen
    split
    · simp
      omega
    · omega
theorem chosen_mem {M : Int} {z : Int} : ∀ {k : Nat}, z ∈ chosen M k → ∃ j : Nat, j < k ∧ keep M j = true ∧ z = (j : Int)
  | 0, h => by simp [chosen] at h
  | k + 1, h => by
    unfold chosen at h
    split at h
    · next hk =>
      rcases List.mem_append.1 h with h1 | h1
      · obtain ⟨j, h2, h3⟩ := chosen_mem h1
        exact ⟨j, by omega, h3⟩
      · exact ⟨k, by omega, hk, by simpa using h1⟩
    · obtain ⟨j, h2, h3⟩ := chosen_mem h
      exact ⟨j, by omega, h3⟩
theorem mem_chosen {M : Int} {j : Nat} : ∀ {k : Nat}, j < k → keep M j = true → (j : Int) ∈ chosen M k
  | k + 1, h, hj => by
    rcases (by omega : j < k ∨ j = k) with h1 | h1
    · have h2 := mem_chosen h1 hj
      unfold chosen
      split
      · exact List.mem_append_left _ h2
      · exact h2
    · subst h1
      rw [chosen_yes hj]
      simp
theorem chosen_wf {M : Int} {k : Nat} (hk : k ≤ 17592186044416) : ∀ x ∈ chosen M k, (Lit.int .i64 x).wf = true := by
  intro x hx
  obtain ⟨j, hj, -, rfl⟩ := chosen_mem hx
  exact WalkArith.wf_i64 (by omega)
/-- The list of the first indices is the beginning of that of more. -/
theorem chosen_upto (M : Int) (k : Nat) : ∀ c, ∃ r, chosen M (k + c) = chosen M k ++ r
  | 0 => ⟨[], by simp⟩
  | c + 1 => by
    obtain ⟨r, h⟩ := chosen_upto M k c
    rw [← Nat.add_assoc]
    cases hk : keep M (k + c)
    · exact ⟨r, by rw [chosen_no hk, h]⟩
    · exact ⟨r ++ [((k + c : Nat) : Int)], by rw [chosen_yes hk, h, List.append_assoc]⟩
/-- A kept index stands where as many stand ahead of it. -/
theorem chosen_at {M : Int} {i m : Nat} (hi : i < m) (h : keep M i = true) : (chosen M i).length < (chosen M m).length ∧ (chosen M m).getD (chosen M i).length 0 = (i : Int) := by
  obtain ⟨r, hr⟩ := chosen_upto M (i + 1) (m - (i + 1))
  rw [show i + 1 + (m - (i + 1)) = m from by omega, chosen_yes h, List.append_assoc] at hr
  rw [hr]
  refine ⟨by simp, ?_⟩
  simp [List.getD_eq_getElem?_getD]
theorem chosen_off {M : Int} {i m k : Nat} (h : keep M i = false) (hk : k < (chosen M m).length) : ¬ (chosen M m).getD k 0 = (i : Int) := by
  intro he
  have h1 : (chosen M m).getD k 0 ∈ chosen M m := by
    rw [List.getD_eq_getElem?_getD, List.getElem?_eq_getElem hk]
    exact List.getElem_mem _
  obtain ⟨j, -, h2, h3⟩ := chosen_mem h1
  have : j = i := by omega
  subst this
  rw [h] at h2
  cases h2

/-- One word of a list of dirty words, into an image. -/
def into (dl : List Dw) (zs : List Int) (i : Int) : List Int := match dl[i.toNat]? with
  | some x => zs.set x.p.toNat x.v
  | none => zs
theorem into_at {dl : List Dw} {zs : List Int} {i : Nat} (hi : i < dl.length) : into dl zs (i : Int) = zs.set dl[i].p.toNat dl[i].v := by
  unfold into
  rw [Int.toNat_natCast, List.getElem?_eq_getElem hi]
theorem into_len (dl : List Dw) (zs : List Int) (i : Int) : (into dl zs i).length = zs.length := by
  unfold into
  split
  · rw [List.length_set]
  · rfl
def intos (dl : List Dw) (zs : List Int) (l : List Int) : List Int := l.foldl (into dl) zs
theorem intos_len (dl : List Dw) : ∀ (l zs : List Int), (intos dl zs l).length = zs.length
  | [], _ => rfl
  | i :: l, zs => by
    show (intos dl (into dl zs i) l).length = _
    rw [intos_len dl l, into_len]
theorem intos_snoc (dl : List Dw) (zs l : List Int) (i : Int) : intos dl zs (l ++ [i]) = into dl (intos dl zs l) i := by
  unfold intos
  rw [List.foldl_append]
  rfl
theorem intos_take {dl : List Dw} {zs l : List Int} {j : Nat} (hj : j < l.length) : intos dl zs (l.take (j + 1)) = into dl (intos dl zs (l.take j)) l[j] := by
  rw [List.take_succ_eq_append_getElem hj, intos_snoc]
/-- The image after a crash, as far as the first words go. -/
def crashL (M : Int) (zs : List Int) (dl : List Dw) (k : Nat) : List Int := intos dl zs (chosen M k)
theorem crashL_len (M : Int) (zs : List Int) (dl : List Dw) (k : Nat) : (crashL M zs dl k).length = zs.length := intos_len _ _ _
theorem crashL_zero (M : Int) (zs : List Int) (dl : List Dw) : crashL M zs dl 0 = zs := rfl
theorem crashL_yes {M : Int} {zs : List Int} {dl : List Dw} {k : Nat} (h : keep M k = true) (hk : k < dl.length) : crashL M zs dl (k + 1) = (crashL M zs dl k).set dl[k].p.toNat dl[k].v := by
  unfold crashL
  rw [chosen_yes h, intos_snoc, into_at hk]
theorem crashL_no {M : Int} {zs : List Int} {dl : List Dw} {k : Nat} (h : keep M k = false) : crashL M zs dl (k + 1) = crashL M zs dl k := by
  unfold crashL
  rw [chosen_no h]
theorem crashL_wf {M : Int} {zs : List Int} {dl : List Dw} (hz : ∀ x ∈ zs, (Lit.int .u64 x).wf = true) (hd : ∀ x ∈ dl, dw.good x) : ∀ k, k ≤ dl.length → ∀ x ∈ crashL M zs dl k, (Lit.int .u64 x).wf = true
  | 0, _ => hz
  | k + 1, hk => by
    have ih := crashL_wf (M := M) hz hd k (by omega)
    cases h : keep M k
    · rw [crashL_no h]
      exact ih
    · rw [crashL_yes h (by omega)]
      intro x hx
      rcases List.mem_or_eq_of_mem_set hx with h1 | h1
      · exact ih x h1
      · subst h1
        have h2 := (hd dl[k] (List.getElem_mem _)).2
        exact WalkArith.wf_u64 (by omega)

theorem okDl_rise {n : Int} : ∀ {xs : List Dw} {l : Int} {i j : Nat} (_ : okDl n l xs = true) (_ : i < j) (hj : j < xs.length), xs[i].p < xs[j].p
  | x :: xs, l, 0, j + 1, h, _, hj => by
    simp only [okDl, Bool.and_eq_true, decide_eq_true_eq] at h
    exact (okDl_at h.2.2 (by simpa using hj)).1
  | x :: xs, l, i + 1, j + 1, h, hi, hj => by
    simp only [okDl, Bool.and_eq_true, decide_eq_true_eq] at h
    exact okDl_rise (i := i) (j := j) h.2.2 (by omega) (by simpa using hj)
theorem getD_set_ne {zs : List Int} {a b : Nat} {v : Int} (h : a ≠ b) : (zs.set a v).getD b 0 = zs.getD b 0 := by
  simp only [List.getD_eq_getElem?_getD]
  rw [List.getElem?_set_ne h]
theorem getD_set_eq {zs : List Int} {a : Nat} {v : Int} (h : a < zs.length) : (zs.set a v).getD a 0 = v := by
  simp only [List.getD_eq_getElem?_getD]
  rw [List.getElem?_set_self h]
  rfl
/-- A word whose address no kept word has stays. -/
theorem crash_other {M : Int} {zs : List Int} {dl : List Dw} {a : Nat} : ∀ {k : Nat} (_ : k ≤ dl.length), (∀ j (hj : j < dl.length), j < k → keep M j = true → dl[j].p.toNat ≠ a) → (crashL M zs dl k).getD a 0 = zs.getD a 0
  | 0, _, _ => rfl
  | k + 1, hk, h => by
    have ih := crash_other (M := M) (zs := zs) (a := a) (k := k) (by omega) (fun j hj hjk => h j hj (by omega))
    cases hm : keep M k
    · rw [crashL_no hm, ih]
    · rw [crashL_yes hm (by omega), getD_set_ne (h k (by omega) (by omega) hm), ih]
/-- A kept word is new. -/
theorem crash_kept {M : Int} {zs : List Int} {dl : List Dw} (hok : okDl zs.length (-1) dl = true) {j : Nat} (hj : j < dl.length) (hm : keep M j = true) : ∀ {k : Nat}, j < k → k ≤ dl.length → (crashL M zs dl k).getD dl[j].p.toNat 0 = dl[j].v
  | k + 1, h, hk => by
    obtain ⟨p1, p2⟩ := okDl_at hok hj
    rcases (by omega : j < k ∨ j = k) with h1 | h1
    · have ih := crash_kept hok hj hm h1 (by omega)
      cases hn : keep M k
      · rw [crashL_no hn, ih]
      · have hr := okDl_rise hok h1 (by omega)
        rw [crashL_yes hn (by omega), getD_set_ne (by omega), ih]
    · subst h1
      rw [crashL_yes hm (by omega), getD_set_eq (by rw [crashL_len]; omega)]
/-- A word that is not kept is old. -/
theorem crash_lost {M : Int} {zs : List Int} {dl : List Dw} (hok : okDl zs.length (-1) dl = true) {j : Nat} (hj : j < dl.length) (hm : keep M j = false) {k : Nat} (hk : k ≤ dl.length) : (crashL M zs dl k).getD dl[j].p.toNat 0 = zs.getD dl[j].p.toNat 0 := by
  refine crash_other hk fun i hi _ hki => ?_
  have p1 := okDl_at hok hj
  have p2 := okDl_at hok hi
  rcases (by omega : i < j ∨ i = j ∨ j < i) with h | h | h
  · have := okDl_rise hok h hj
    omega
  · subst h
    rw [hm] at hki
    cases hki
  · have := okDl_rise hok h hi
    omega

/-- A mask of ones keeps all. -/
theorem keep_ones (k : Nat) : keep 18446744073709551615 k = true := by
  unfold keep
  have h : k % 64 < 64 := Nat.mod_lt _ (by decide)
  generalize k % 64 = r at h
  have hall : ∀ r : Fin 64, decide ((18446744073709551615 : Int).toNat / 2 ^ r.val % 2 = 1) = true := by decide +kernel
  exact hall ⟨r, h⟩
theorem keep_none (k : Nat) : keep 0 k = false := by
  unfold keep
  simp
theorem words_snoc (x : Dw) : ∀ (xs : List Dw) (zs : List Int), wordsL zs (xs ++ [x]) = (wordsL zs xs).set x.p.toNat x.v
  | [], _ => rfl
  | y :: xs, zs => words_snoc x xs (zs.set y.p.toNat y.v)
theorem crash_ones_upto (zs : List Int) (dl : List Dw) : ∀ k, k ≤ dl.length → crashL 18446744073709551615 zs dl k = wordsL zs (dl.take k)
  | 0, _ => rfl
  | k + 1, hk => by
    rw [crashL_yes (keep_ones k) (by omega), crash_ones_upto zs dl k (by omega), List.take_succ_eq_append_getElem (by omega), words_snoc]
/-- With a mask of ones the image is what was loaded; with 0 it is the image. -/
theorem crash_ones (zs : List Int) (dl : List Dw) : crashL 18446744073709551615 zs dl dl.length = wordsL zs dl := by
  rw [crash_ones_upto zs dl dl.length (Nat.le_refl _), List.take_of_length_le (Nat.le_refl _)]
theorem crash_none (zs : List Int) (dl : List Dw) : ∀ k, crashL 0 zs dl k = zs
  | 0 => rfl
  | k + 1 => by rw [crashL_no (keep_none k), crash_none zs dl k]
theorem words_at {zs : List Int} {dl : List Dw} (hok : okDl zs.length (-1) dl = true) {j : Nat} (hj : j < dl.length) : (wordsL zs dl).getD dl[j].p.toNat 0 = dl[j].v := by
  rw [← crash_ones]
  exact crash_kept hok hj (keep_ones j) hj (Nat.le_refl _)
/-- Each word is old or new. -/
theorem old_or_new {M : Int} {zs : List Int} {dl : List Dw} (hok : okDl zs.length (-1) dl = true) (a : Nat) : (crashL M zs dl dl.length).getD a 0 = zs.getD a 0 ∨ (crashL M zs dl dl.length).getD a 0 = (wordsL zs dl).getD a 0 := by
  by_cases h : ∃ j, ∃ hj : j < dl.length, keep M j = true ∧ dl[j].p.toNat = a
  · obtain ⟨j, hj, hm, rfl⟩ := h
    right
    rw [crash_kept hok hj hm hj (Nat.le_refl _), words_at hok hj]
  · left
    exact crash_other (Nat.le_refl _) fun j hj _ hm he => h ⟨j, hj, hm, he⟩

/-- Two masks together. -/
theorem keep_or (a b : Nat) (k : Nat) : keep ((a ||| b : Nat) : Int) k = (keep (a : Int) k || keep (b : Int) k) := by
  have h : ∀ x r : Nat, decide (x / 2 ^ r % 2 = 1) = x.testBit r := fun x r => by rw [Nat.testBit_eq_decide_div_mod_eq]
  unfold keep
  rw [Int.toNat_natCast, Int.toNat_natCast, Int.toNat_natCast, h, h, h, Nat.testBit_or]

/-- A device after a crash. -/
def crashD (D : Dev) (M : Int) : Dev := ⟨crashL M D.im D.dl D.dl.length, [], -1, false⟩
def crashR (D : Dev) (M : Int) : Dev := if okD D = true then crashD D M else zdev
def chosR (D : Dev) (M : Int) : List Int := if okD D = true then chosen M D.dl.length else []
/-- A device with another number. -/
def armD (D : Dev) (l : Int) : Dev := ⟨D.im, D.dl, l, false⟩
def Num (l : Int) : Prop := -1 ≤ l ∧ l ≤ 1000000
instance (l : Int) : Decidable (Num l) := inferInstanceAs (Decidable (_ ∧ _))
def armR (D : Dev) (l : Int) : Dev := if okD D = true ∧ Num l then armD D l else zdev
def armE (D : Dev) (l : Int) : Int := if okD D = true then (if Num l then 0 else 2) else 8
theorem ok_crash {D : Dev} {M : Int} (h : okD D = true) : okD (crashD D M) = true := by
  obtain ⟨⟨h0, -, -, -⟩, -⟩ := ok_parts h
  refine ok_mk ⟨?_, by show (-1 : Int) ≤ -1; omega, by show (-1 : Int) ≤ 1000000; omega, fun hq => by cases hq⟩ rfl
  show Img (crashL M D.im D.dl D.dl.length).length
  rw [crashL_len]
  exact h0
theorem ok_arm {D : Dev} {l : Int} (h : okD D = true) (hl : Num l) : okD (armD D l) = true := by
  obtain ⟨⟨h0, -, -, -⟩, h1⟩ := ok_parts h
  exact ok_mk ⟨h0, hl.1, hl.2, fun hq => by cases hq⟩ h1
theorem fine_crash {D : Dev} {M : Int} (h : Fine D) : Fine (crashD D M) :=
  ⟨crashL_wf h.im h.dl _ (Nat.le_refl _), by simp [crashD], by show (crashL M D.im D.dl D.dl.length).length ≤ _; rw [crashL_len]; exact h.li, by simp [crashD], by show (-9223372036854775808 : Int) ≤ -1; decide, by show (-1 : Int) ≤ 9223372036854775807; decide⟩
theorem fine_arm {D : Dev} {l : Int} (h : Fine D) (hl : Num l) : Fine (armD D l) := by
  obtain ⟨h1, h2⟩ := hl
  exact ⟨h.im, h.dl, h.li, h.ll, by show _ ≤ l; omega, by show l ≤ _; omega⟩
theorem crash_crash (D : Dev) (M N : Int) : crashD (crashD D M) N = crashD D M := rfl
theorem crash_arm (D : Dev) (l M : Int) : crashD (armD D l) M = crashD D M := rfl
theorem crash_len {D : Dev} {M : Int} : (crashD D M).im.length = D.im.length := crashL_len _ _ _ _

/-- A word that was stored, flushed and fenced is safe: no dirty word has its address, and the image has it. -/
theorem ins_flush {p v : Int} : ∀ {xs : List Dw} {n l : Int}, okDl n l xs = true → ∀ x ∈ (ins p v xs).map (flushW p), x.p = p → x.f = true
  | [], _, _, _, x, hx, hp => by
    simp [ins, flushW] at hx
    rw [hx]
  | y :: xs, n, l, h, x, hx, hp => by
    obtain ⟨z, hz, rfl⟩ := List.mem_map.1 hx
    have h1 : (flushW p z).p = z.p := by unfold flushW; split <;> rfl
    rw [h1] at hp
    unfold flushW
    rw [if_pos (by rw [hp])]
theorem safe_off {D : Dev} {p v : Int} (hok : okD D = true) (hl : D.left = -1) : ∀ x ∈ (fencedD (flushedD (storedD D p v) p)).dl, x.p ≠ p := by
  have m0 : made D = true := by unfold made; rw [hl]; rfl
  have s1 : storedD D p v = { D with dl := ins p v D.dl } := by
    unfold storedD
    rw [if_pos m0]
    unfold spent
    rw [if_neg (by omega), if_neg (by omega)]
  have m1 : made (storedD D p v) = true := by rw [s1]; exact m0
  have s2 : flushedD (storedD D p v) p = { D with dl := (ins p v D.dl).map (flushW p) } := by
    unfold flushedD
    rw [if_pos m1]
    unfold spent
    rw [s1]
    simp only [hl]
    rfl
  have m2 : made (flushedD (storedD D p v) p) = true := by rw [s2]; exact m0
  intro x hx he
  unfold fencedD at hx
  rw [if_pos m2, s2] at hx
  obtain ⟨h1, h2⟩ := List.mem_filter.1 hx
  rw [ins_flush (ok_parts hok).2 x h1 he] at h2
  cases h2
theorem crash_off {M : Int} {D : Dev} {p : Int} (hok : okD D = true) (h : ∀ x ∈ D.dl, x.p ≠ p) (hp : 0 ≤ p) : (crashD D M).im.getD p.toNat 0 = (wordsL D.im D.dl).getD p.toNat 0 := by
  have hd := (ok_parts hok).2
  have key : ∀ N : Int, (crashL N D.im D.dl D.dl.length).getD p.toNat 0 = D.im.getD p.toNat 0 := fun N => crash_other (Nat.le_refl _) fun j hj _ _ he => by
    have h1 := okDl_at hd hj
    exact h _ (List.getElem_mem hj) (by omega)
  show (crashL M D.im D.dl D.dl.length).getD p.toNat 0 = _
  rw [key M, ← crash_ones, key]
end Go.Proofs.YtkjhpjgdcjccjaaDoor.Cp
