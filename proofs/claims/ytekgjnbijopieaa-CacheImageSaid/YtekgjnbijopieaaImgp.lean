/-
  Facts on devices as data, continued: operations on a device that does not crash; the image behind a fence, word by word; flushing the lines of all dirty words. No function of the program.
-/
import Derived.Test.YtekgjnbijopieaaFlush
import Derived.Test.YtekgjnbijopieaaLoad
namespace Go.Proofs.Ytekgjnbijopieaa.Dv
open Go.Proofs.Ytekgjnbijopieaa.Sl Go.Proofs.Ytekgjnbijopieaa.Ir Go.Proofs.Ytekgjnbijopieaa.Cr Go.Proofs.Ytekgjnbijopieaa.Fd Go.Proofs.Ytekgjnbijopieaa.Ca

theorem calm {D : Dev} (h : D.left = -1) : spent D = D ∧ made D = true := ⟨spent_any (by omega), by unfold made; rw [decide_eq_false (by omega)]; rfl⟩
theorem stored_calm {D : Dev} (h : D.left = -1) (p u : Int) : storedD D p u = { D with dl := ins p u D.dl } := by
  unfold storedD
  rw [(calm h).2, (calm h).1]
  rfl
theorem flushed_calm {D : Dev} (h : D.left = -1) (p : Int) : flushedD D p = { D with dl := D.dl.map (flushW p) } := by
  unfold flushedD
  rw [(calm h).2, (calm h).1]
  rfl
theorem fenced_calm {D : Dev} (h : D.left = -1) : fencedD D = { D with im := fenceL D.im D.dl, dl := D.dl.filter fun x => !x.f } := by
  unfold fencedD
  rw [(calm h).2, (calm h).1]
  rfl
theorem low_behind {n t : Int} : ∀ {xs : List Dw}, okDl n t xs = true → lowN (t + 1) xs = 0
  | [], _ => rfl
  | x :: xs, h => by
    simp only [okDl, Bool.and_eq_true, decide_eq_true_eq] at h
    unfold lowN
    rw [if_neg (by omega)]
theorem low_next {n t : Int} : ∀ {xs : List Dw} {l : Int}, okDl n l xs = true → lowN (t + 1) xs = lowN t xs + (if hasN t xs = true then 1 else 0)
  | [], _, _ => rfl
  | x :: xs, l, h => by
    simp only [okDl, Bool.and_eq_true, decide_eq_true_eq] at h
    have ih := low_next (t := t) h.2.2
    by_cases h1 : x.p < t
    · have h2 : x.p < t + 1 := by omega
      unfold lowN hasN
      rw [if_pos h1, if_pos h1, if_pos h2, ih]
      omega
    · by_cases h3 : x.p = t
      · have h2 : x.p < t + 1 := by omega
        have h4 := h.2.2
        rw [h3] at h4
        unfold lowN hasN
        rw [if_neg h1, if_neg h1, if_pos h2, low_behind h4, decide_eq_true h3]
        rfl
      · have h2 : ¬ x.p < t + 1 := by omega
        unfold lowN hasN
        rw [if_neg h1, if_neg h1, if_neg h2, decide_eq_false h3]
        rfl
theorem has_of {t : Int} : ∀ {xs : List Dw} (h : lowN t xs < xs.length), xs[lowN t xs].p = t → hasN t xs = true
  | x :: xs, h, hp => by
    by_cases h1 : x.p < t
    · have e : lowN t (x :: xs) = lowN t xs + 1 := by conv => lhs; unfold lowN; rw [if_pos h1]
      simp only [e, List.getElem_cons_succ] at hp
      have h2 : lowN t xs < xs.length := by rw [e] at h; simpa using h
      unfold hasN
      rw [if_pos h1]
      exact has_of h2 hp
    · have e : lowN t (x :: xs) = 0 := by conv => lhs; unfold lowN; rw [if_neg h1]
      simp only [e, List.getElem_cons_zero] at hp
      unfold hasN
      rw [if_neg h1, decide_eq_true hp]
theorem fence_below {n p : Int} : ∀ {xs : List Dw} {zs : List Int}, okDl n p xs = true → 0 ≤ p → (fenceL zs xs).getD p.toNat 0 = zs.getD p.toNat 0
  | [], _, _, _ => rfl
  | x :: xs, zs, h, hp => by
    simp only [okDl, Bool.and_eq_true, decide_eq_true_eq] at h
    unfold fenceL
    rw [fence_below (okDl_mono h.2.2 (by omega)) hp]
    split
    · simp only [List.getD_eq_getElem?_getD]
      rw [List.getElem?_set_ne (by omega)]
    · rfl
theorem fence_hit {n p : Int} (hp : 0 ≤ p) : ∀ {xs : List Dw} {l : Int} {zs : List Int}, okDl n l xs = true → -1 ≤ l → p < zs.length → ∀ (h : lowN p xs < xs.length), xs[lowN p xs].p = p →
    (fenceL zs xs).getD p.toNat 0 = if xs[lowN p xs].f = true then xs[lowN p xs].v else zs.getD p.toNat 0
  | x :: xs, l, zs, hok, hl, hz, h, he => by
    simp only [okDl, Bool.and_eq_true, decide_eq_true_eq] at hok
    by_cases h1 : x.p < p
    · have e : lowN p (x :: xs) = lowN p xs + 1 := by conv => lhs; unfold lowN; rw [if_pos h1]
      have h2 : lowN p xs < xs.length := by rw [e] at h; simpa using h
      simp only [e, List.getElem_cons_succ] at he ⊢
      have hz' : p < (if x.f = true then zs.set x.p.toNat x.v else zs).length := by split <;> simp [hz]
      have ih := fence_hit hp (zs := if x.f = true then zs.set x.p.toNat x.v else zs) hok.2.2 (by omega) hz' h2 he
      show (fenceL (if x.f = true then zs.set x.p.toNat x.v else zs) xs).getD p.toNat 0 = _
      rw [ih]
      have e2 : (if x.f = true then zs.set x.p.toNat x.v else zs).getD p.toNat 0 = zs.getD p.toNat 0 := by
        split
        · simp only [List.getD_eq_getElem?_getD]
          rw [List.getElem?_set_ne (by omega)]
        · rfl
      rw [e2]
    · have e : lowN p (x :: xs) = 0 := by conv => lhs; unfold lowN; rw [if_neg h1]
      simp only [e, List.getElem_cons_zero] at he ⊢
      have h3 := hok.2.2
      rw [he] at h3
      show (fenceL (if x.f = true then zs.set x.p.toNat x.v else zs) xs).getD p.toNat 0 = _
      rw [fence_below h3 hp, he]
      cases x.f
      · rfl
      · simp only [if_true, List.getD_eq_getElem?_getD]
        rw [List.getElem?_set_self (by omega)]
        rfl
theorem fence_miss {n p : Int} (hp : 0 ≤ p) : ∀ {xs : List Dw} {l : Int} {zs : List Int}, okDl n l xs = true → -1 ≤ l → hasN p xs = false → (fenceL zs xs).getD p.toNat 0 = zs.getD p.toNat 0
  | [], _, _, _, _, _ => rfl
  | x :: xs, l, zs, hok, hl, hh => by
    simp only [okDl, Bool.and_eq_true, decide_eq_true_eq] at hok
    have e2 : x.p ≠ p → (if x.f = true then zs.set x.p.toNat x.v else zs).getD p.toNat 0 = zs.getD p.toNat 0 := fun hne => by
      split
      · simp only [List.getD_eq_getElem?_getD]
        rw [List.getElem?_set_ne (by omega)]
      · rfl
    show (fenceL (if x.f = true then zs.set x.p.toNat x.v else zs) xs).getD p.toNat 0 = _
    unfold hasN at hh
    by_cases h1 : x.p < p
    · rw [if_pos h1] at hh
      rw [fence_miss hp hok.2.2 (by omega) hh, e2 (by omega)]
    · rw [if_neg h1] at hh
      have h2 : x.p ≠ p := by simpa using hh
      rw [fence_below (okDl_mono hok.2.2 (by omega)) hp, e2 h2]

/-- What stays of dirty words while lines are flushed. -/
def pv (x : Dw) : Int × Int := (x.p, x.v)
structure AllF (D A : Dev) (k : Nat) : Prop where
  ok : okD A = true
  left : A.left = -1
  im : A.im = D.im
  same : A.dl.map pv = D.dl.map pv
  flag : ∀ j (h : j < A.dl.length), j < k → A.dl[j].f = true
theorem AllF.start {D : Dev} (h : okD D = true) (hl : D.left = -1) : AllF D D 0 := ⟨h, hl, rfl, rfl, fun _ _ hj => absurd hj (Nat.not_lt_zero _)⟩
theorem AllF.len {D A : Dev} {k : Nat} (h : AllF D A k) : A.dl.length = D.dl.length := by
  have := congrArg List.length h.same
  simpa using this
theorem pv_flush (p : Int) (x : Dw) : pv (flushW p x) = pv x := by
  unfold flushW pv
  split <;> rfl
theorem AllF.step {D A : Dev} {k : Nat} (h : AllF D A k) (hk : k < D.dl.length) : AllF D (flushedD A D.dl[k].p) (k + 1) := by
  have e := flushed_calm h.left D.dl[k].p
  have hl := h.len
  refine ⟨ok_flushed h.ok, by rw [e]; exact h.left, by rw [e]; exact h.im, ?_, ?_⟩
  · rw [e]
    show (A.dl.map (flushW D.dl[k].p)).map pv = _
    rw [List.map_map, ← h.same]
    refine List.map_congr_left fun x _ => pv_flush _ x
  · rw [e]
    intro j hj hjk
    have hj' : j < A.dl.length := by simpa using hj
    show ((A.dl.map (flushW D.dl[k].p))[j]'hj).f = true
    rw [List.getElem_map]
    rcases (by omega : j < k ∨ j = k) with h1 | h1
    · have h2 := h.flag j hj' h1
      unfold flushW
      split
      · rfl
      · exact h2
    · subst h1
      have h3 : pv A.dl[j] = pv D.dl[j] := by
        have h4 := congrArg (fun l => l[j]?) h.same
        simp only [List.getElem?_map, List.getElem?_eq_getElem hj', List.getElem?_eq_getElem hk, Option.map_some, Option.some.injEq] at h4
        exact h4
      have h5 : A.dl[j].p = D.dl[j].p := congrArg Prod.fst h3
      unfold flushW
      rw [if_pos (by rw [h5])]
theorem words_pv : ∀ {xs ys : List Dw} {zs : List Int}, xs.map pv = ys.map pv → wordsL zs xs = wordsL zs ys
  | [], [], _, _ => rfl
  | [], y :: ys, _, h => by simp at h
  | x :: xs, [], _, h => by simp at h
  | x :: xs, y :: ys, zs, h => by
    simp only [List.map_cons, List.cons.injEq] at h
    have h1 : x.p = y.p := congrArg Prod.fst h.1
    have h2 : x.v = y.v := congrArg Prod.snd h.1
    show wordsL (zs.set x.p.toNat x.v) xs = wordsL (zs.set y.p.toNat y.v) ys
    rw [h1, h2]
    exact words_pv h.2
theorem fence_all : ∀ {xs : List Dw} {zs : List Int}, (∀ x ∈ xs, x.f = true) → fenceL zs xs = wordsL zs xs
  | [], _, _ => rfl
  | x :: xs, zs, h => by
    show fenceL (if x.f = true then zs.set x.p.toNat x.v else zs) xs = wordsL (zs.set x.p.toNat x.v) xs
    rw [if_pos (h x List.mem_cons_self)]
    exact fence_all fun y hy => h y (List.mem_cons_of_mem _ hy)
theorem AllF.finish {D A : Dev} {k : Nat} (h : AllF D A k) (hk : D.dl.length ≤ k) : (fencedD A).dl = [] ∧ (fencedD A).im = wordsL D.im D.dl := by
  have hl := h.len
  have hf : ∀ x ∈ A.dl, x.f = true := fun x hx => by
    obtain ⟨j, hj, rfl⟩ := List.getElem_of_mem hx
    exact h.flag j hj (by omega)
  rw [fenced_calm h.left]
  refine ⟨?_, ?_⟩
  · show A.dl.filter (fun x => !x.f) = []
    rw [List.filter_eq_nil_iff]
    intro x hx
    simp [hf x hx]
  · show fenceL A.im A.dl = _
    rw [fence_all hf, h.im, words_pv h.same]
end Go.Proofs.Ytekgjnbijopieaa.Dv
