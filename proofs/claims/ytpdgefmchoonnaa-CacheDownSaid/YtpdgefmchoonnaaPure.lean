/-
  Facts on devices as data: operations keep a device valid; what is loaded after storing, flushing, fencing. No function of the program.
-/
import Derived.Test.YtpdgefmchoonnaaDev
namespace Go.Proofs.Ytpdgefmchoonnaa.Dv
open Go.Proofs.Ytpdgefmchoonnaa.Sl Go.Proofs.Ytpdgefmchoonnaa.Ir

theorem okDl_mono {n : Int} : ∀ {xs : List Dw} {l l' : Int}, okDl n l xs = true → l' ≤ l → okDl n l' xs = true
  | [], _, _, _, _ => rfl
  | x :: xs, l, l', h, hl => by
    simp only [okDl, Bool.and_eq_true, decide_eq_true_eq] at h ⊢
    exact ⟨by omega, h.2⟩
theorem okDl_ins {n p v : Int} (hp : p < n) : ∀ {xs : List Dw} {l : Int}, okDl n l xs = true → l < p → okDl n l (ins p v xs) = true
  | [], l, _, hl => by simp [ins, okDl, hl, hp]
  | x :: xs, l, h, hl => by
    simp only [okDl, Bool.and_eq_true, decide_eq_true_eq] at h
    unfold ins
    split
    · next h1 =>
      simp only [okDl, Bool.and_eq_true, decide_eq_true_eq]
      exact ⟨h.1, h.2.1, okDl_ins hp h.2.2 h1⟩
    · split
      · next h1 =>
        simp only [okDl, Bool.and_eq_true, decide_eq_true_eq]
        rw [h1] at h
        exact ⟨hl, hp, h.2.2⟩
      · simp only [okDl, Bool.and_eq_true, decide_eq_true_eq]
        exact ⟨hl, hp, by omega, h.2.1, h.2.2⟩
theorem okDl_flush {n p : Int} : ∀ {xs : List Dw} {l : Int}, okDl n l xs = true → okDl n l (xs.map (flushW p)) = true
  | [], _, _ => rfl
  | x :: xs, l, h => by
    simp only [okDl, Bool.and_eq_true, decide_eq_true_eq] at h
    have hx : (flushW p x).p = x.p := by unfold flushW; split <;> rfl
    simp only [List.map_cons, okDl, hx, Bool.and_eq_true, decide_eq_true_eq]
    exact ⟨h.1, h.2.1, okDl_flush h.2.2⟩
theorem okDl_filter {n : Int} (f : Dw → Bool) : ∀ {xs : List Dw} {l : Int}, okDl n l xs = true → okDl n l (xs.filter f) = true
  | [], _, _ => rfl
  | x :: xs, l, h => by
    simp only [okDl, Bool.and_eq_true, decide_eq_true_eq] at h
    rw [List.filter_cons]
    split
    · simp only [okDl, Bool.and_eq_true, decide_eq_true_eq]
      exact ⟨h.1, h.2.1, okDl_filter f h.2.2⟩
    · exact okDl_mono (okDl_filter f h.2.2) (by omega)
theorem head_spent {n : Int} {D : Dev} (h : Head n D.left D.down) : Head n (spent D).left (spent D).down := by
  obtain ⟨h0, h1, h2, h3⟩ := h
  unfold spent
  split
  · next h4 => exact ⟨h0, h1, h2, fun _ => h4⟩
  · split
    · next h4 h5 => exact ⟨h0, by show -1 ≤ D.left - 1; omega, by show D.left - 1 ≤ 1000000; omega, fun hq => absurd (h3 hq) h4⟩
    · exact ⟨h0, h1, h2, h3⟩
theorem ok_mk {D : Dev} (h : Head D.im.length D.left D.down) (hd : okDl D.im.length (-1) D.dl = true) : okD D = true := by
  unfold okD
  rw [decide_eq_true h, hd]
  rfl
theorem ok_spent {D : Dev} (h : okD D = true) : okD (spent D) = true := by
  obtain ⟨h1, h2⟩ := ok_parts h
  have h3 := head_spent h1
  refine ok_mk ?_ ?_
  · rw [spent_im]; exact h3
  · rw [spent_im, spent_dl]; exact h2
theorem ok_stored {D : Dev} {p v : Int} (h : okD D = true) (hp : 0 ≤ p ∧ p < D.im.length) : okD (storedD D p v) = true := by
  obtain ⟨h1, h2⟩ := ok_parts h
  unfold storedD
  split
  · refine ok_mk ?_ ?_
    · show Head (spent D).im.length _ _
      rw [spent_im]
      exact head_spent h1
    · show okDl (spent D).im.length (-1) (ins p v D.dl) = true
      rw [spent_im]
      exact okDl_ins hp.2 h2 (by omega)
  · exact ok_spent h
theorem ok_flushed {D : Dev} {p : Int} (h : okD D = true) : okD (flushedD D p) = true := by
  obtain ⟨h1, h2⟩ := ok_parts h
  unfold flushedD
  split
  · refine ok_mk ?_ ?_
    · show Head (spent D).im.length _ _
      rw [spent_im]
      exact head_spent h1
    · show okDl (spent D).im.length (-1) (D.dl.map (flushW p)) = true
      rw [spent_im]
      exact okDl_flush h2
  · exact ok_spent h
theorem ok_fenced {D : Dev} (h : okD D = true) : okD (fencedD D) = true := by
  obtain ⟨h1, h2⟩ := ok_parts h
  unfold fencedD
  split
  · refine ok_mk ?_ ?_
    · show Head (fenceL D.im D.dl).length _ _
      rw [fenceL_len]
      exact head_spent h1
    · show okDl (fenceL D.im D.dl).length (-1) (D.dl.filter fun x => !x.f) = true
      rw [fenceL_len]
      exact okDl_filter _ h2
  · exact ok_spent h
theorem len_stored {D : Dev} {p v : Int} : (storedD D p v).im.length = D.im.length := by
  unfold storedD
  split
  · show (spent D).im.length = _
    rw [spent_im]
  · rw [spent_im]
theorem len_flushed {D : Dev} {p : Int} : (flushedD D p).im.length = D.im.length := by
  unfold flushedD
  split
  · show (spent D).im.length = _
    rw [spent_im]
  · rw [spent_im]
theorem len_fenced {D : Dev} : (fencedD D).im.length = D.im.length := by
  unfold fencedD
  split
  · show (fenceL D.im D.dl).length = _
    rw [fenceL_len]
  · rw [spent_im]

/-- A word that lies before all of them may be set before or behind. -/
theorem words_set {n p : Int} (v : Int) (hp : 0 ≤ p) : ∀ {xs : List Dw} {zs : List Int}, okDl n p xs = true → wordsL (zs.set p.toNat v) xs = (wordsL zs xs).set p.toNat v
  | [], _, _ => rfl
  | x :: xs, zs, h => by
    simp only [okDl, Bool.and_eq_true, decide_eq_true_eq] at h
    have hne : p.toNat ≠ x.p.toNat := by omega
    show wordsL ((zs.set p.toNat v).set x.p.toNat x.v) xs = (wordsL (zs.set x.p.toNat x.v) xs).set p.toNat v
    rw [List.set_comm _ _ hne]
    exact words_set v hp (okDl_mono h.2.2 (by omega))
theorem fence_set {n p : Int} (v : Int) (hp : 0 ≤ p) : ∀ {xs : List Dw} {zs : List Int}, okDl n p xs = true → fenceL (zs.set p.toNat v) xs = (fenceL zs xs).set p.toNat v
  | [], _, _ => rfl
  | x :: xs, zs, h => by
    simp only [okDl, Bool.and_eq_true, decide_eq_true_eq] at h
    have hne : p.toNat ≠ x.p.toNat := by omega
    unfold fenceL
    split
    · rw [List.set_comm _ _ hne]
      exact fence_set v hp (okDl_mono h.2.2 (by omega))
    · exact fence_set v hp (okDl_mono h.2.2 (by omega))
theorem words_ins {n p v : Int} (hp : 0 ≤ p) : ∀ {xs : List Dw} {l : Int} {zs : List Int}, okDl n l xs = true → -1 ≤ l → wordsL zs (ins p v xs) = (wordsL zs xs).set p.toNat v
  | [], _, _, _, _ => rfl
  | x :: xs, l, zs, h, hl => by
    have h' := h
    simp only [okDl, Bool.and_eq_true, decide_eq_true_eq] at h
    unfold ins
    split
    · next h1 => exact words_ins hp h.2.2 (by omega)
    · split
      · next h1 =>
        have h2 := h.2.2
        rw [h1] at h2
        show wordsL (zs.set p.toNat v) xs = (wordsL (zs.set x.p.toNat x.v) xs).set p.toNat v
        rw [h1, words_set v hp h2, words_set x.v hp h2, List.set_set]
      · next h1 h2 =>
        show wordsL (zs.set p.toNat v) (x :: xs) = _
        refine words_set (n := n) v hp ?_
        simp only [okDl, Bool.and_eq_true, decide_eq_true_eq]
        exact ⟨by omega, h.2⟩
theorem words_flush {p : Int} : ∀ {xs : List Dw} {zs : List Int}, wordsL zs (xs.map (flushW p)) = wordsL zs xs
  | [], _ => rfl
  | x :: xs, zs => by
    have hx : (flushW p x).p = x.p ∧ (flushW p x).v = x.v := by unfold flushW; split <;> exact ⟨rfl, rfl⟩
    show wordsL (zs.set (flushW p x).p.toNat (flushW p x).v) (xs.map (flushW p)) = _
    rw [hx.1, hx.2, words_flush]
    rfl
theorem words_fence {n : Int} : ∀ {xs : List Dw} {l : Int} {zs : List Int}, okDl n l xs = true → -1 ≤ l → wordsL (fenceL zs xs) (xs.filter fun x => !x.f) = wordsL zs xs
  | [], _, _, _, _ => rfl
  | x :: xs, l, zs, h, hl => by
    simp only [okDl, Bool.and_eq_true, decide_eq_true_eq] at h
    have ih := fun zs => words_fence (zs := zs) h.2.2 (by omega)
    rw [List.filter_cons]
    unfold fenceL
    cases hf : x.f
    · show wordsL ((fenceL zs xs).set x.p.toNat x.v) (xs.filter fun x => !x.f) = wordsL (zs.set x.p.toNat x.v) xs
      rw [← fence_set x.v (by omega) h.2.2]
      exact ih _
    · exact ih _
theorem words_stored {D : Dev} {p v : Int} (h : okD D = true) (hp : 0 ≤ p) : wordsL (storedD D p v).im (storedD D p v).dl = if made D = true then (wordsL D.im D.dl).set p.toNat v else wordsL D.im D.dl := by
  obtain ⟨h1, h2⟩ := ok_parts h
  unfold storedD
  split
  · show wordsL (spent D).im (ins p v D.dl) = _
    rw [spent_im, words_ins hp h2 (by omega)]
  · rw [spent_im, spent_dl]
theorem words_flushed {D : Dev} {p : Int} : wordsL (flushedD D p).im (flushedD D p).dl = wordsL D.im D.dl := by
  unfold flushedD
  split
  · show wordsL (spent D).im (D.dl.map (flushW p)) = _
    rw [spent_im, words_flush]
  · rw [spent_im, spent_dl]
theorem words_fenced {D : Dev} (h : okD D = true) : wordsL (fencedD D).im (fencedD D).dl = wordsL D.im D.dl := by
  obtain ⟨h1, h2⟩ := ok_parts h
  unfold fencedD
  split
  · exact words_fence h2 (by omega)
  · rw [spent_im, spent_dl]
end Go.Proofs.Ytpdgefmchoonnaa.Dv
