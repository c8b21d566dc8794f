/-
  One copy that is spoilt, on lists.
-/
import Derived.Test.YtepiiiekcmbpaaaDoorTwp
namespace Go.Proofs.YtepiiiekcmbpaaaDoor.Tw
open Go.RowKit Go.Proofs.YtepiiiekcmbpaaaDoor.Sl Go.Proofs.YtepiiiekcmbpaaaDoor.St Go.Proofs.YtepiiiekcmbpaaaDoor.Bits Go.Proofs.YtepiiiekcmbpaaaDoor.Wd Go.Proofs.YtepiiiekcmbpaaaDoor.Su Go.Proofs.YtepiiiekcmbpaaaDoor.Ir Go.Proofs.YtepiiiekcmbpaaaDoor.Sb Go.Proofs.YtepiiiekcmbpaaaDoor.Iu Go.Proofs.YtepiiiekcmbpaaaDoor.Ip Go.Proofs.YtepiiiekcmbpaaaDoor.Iq Go.Proofs.YtepiiiekcmbpaaaDoor.Dv
set_option maxRecDepth 100000

theorem diffs_set {V : List Int} {i n : Nat} {v : Int} (hi : i < n) (hl : n ≤ V.length) (hv : ¬ v = V.getD i 0) : diffs (V.set i v) V n = [(i : Int)] := by
  have hs : ∀ j, ¬ j = i → (V.set i v).getD j 0 = V.getD j 0 := fun j hj => by
    rw [List.getD_eq_getElem?_getD, List.getD_eq_getElem?_getD, List.getElem?_set_ne (fun h => hj h.symm)]
  have hi' : (V.set i v).getD i 0 = v := by
    rw [List.getD_eq_getElem?_getD, List.getElem?_set_self (by omega)]
    rfl
  rw [diffs_stay (j := i + 1) (by omega) (fun j h1 _ => hs j (by omega)), diffs_other (by rw [hi']; exact hv), diffs_stay (j := 0) (k := i) (by omega) (fun j _ h2 => hs j (by omega))]
  rfl
/-- The superblock of an image whose first copy is right. -/
theorem tw_first {xs : List Int} {T : Int} (hi : Img xs.length) (hg : IsSb xs.length T) (h : copyI xs 0 = wordsI xs.length T) :
    twE xs = 0 ∧ twW xs = xs.length ∧ twT xs = T ∧ twA xs 0 = true ∧ twA xs 1 = okI xs 1 := by
  obtain ⟨o0, w0, t0⟩ := ok_of hg h
  have he := tw_ok hi (.inl o0)
  unfold twW twT twA
  rw [if_pos he, if_pos he, if_pos o0, if_pos o0, w0, t0, o0, he]
  exact ⟨rfl, rfl, rfl, rfl, by simp⟩
/-- The superblock of an image whose second copy alone is right. -/
theorem tw_second {xs : List Int} {T : Int} (hi : Img xs.length) (hg : IsSb xs.length T) (h0 : okI xs 0 = false) (h : copyI xs 1 = wordsI xs.length T) :
    twE xs = 0 ∧ twW xs = xs.length ∧ twT xs = T ∧ twA xs 0 = false ∧ twA xs 1 = true := by
  obtain ⟨o1, w1, t1⟩ := ok_of hg h
  have he := tw_ok hi (.inr o1)
  have hn : ¬ okI xs 0 = true := by rw [h0]; decide
  unfold twW twT twA
  rw [if_pos he, if_pos he, if_neg hn, if_neg hn, w1, t1, o1, h0, he]
  exact ⟨rfl, rfl, rfl, rfl, rfl⟩
theorem view_of {xs : List Int} {W T : Int} (h : twE xs = 0) (hW : twW xs = W) (hT : twT xs = T) : viewL xs = bothI W T xs := by
  unfold viewL
  rw [if_pos h, hW, hT]
theorem heal_of {xs V : List Int} {n : Nat} (h : twE xs = 0) (hV : viewL xs = V) (hn : xs.length = n) : healL xs = entsL xs V n := by
  unfold healL
  rw [if_pos h, hV, hn]
theorem not_ok {xs : List Int} {k : Nat} (h : readE (copyI xs k) ≠ 0) : okI xs k = false := decide_eq_false fun hh => h hh.1
theorem copy_set0 {xs : List Int} {i : Nat} {v : Int} : copyI (xs.set i v) 0 = (copyI xs 0).set i v := by
  unfold copyI
  rw [Nat.mul_zero, List.drop_zero, List.drop_zero, List.take_set]

/-! Words behind the copies do not matter. -/
theorem copy_take {xs : List Int} {k : Nat} (hk : k ≤ 1) : copyI xs k = copyI (xs.take 16) k := by
  unfold copyI
  rw [List.drop_take, List.take_take, Nat.min_eq_left (by omega)]
theorem getD_take {xs : List Int} {i : Nat} (hi : i < 16) : xs.getD i 0 = (xs.take 16).getD i 0 := by
  rw [List.getD_eq_getElem?_getD, List.getD_eq_getElem?_getD, List.getElem?_take, if_pos hi]
theorem put_take {xs ys : List Int} {A : Nat} (hA : 16 ≤ A) (hl : A ≤ xs.length) : (putL xs A ys).take 16 = xs.take 16 := by
  unfold putL
  rw [List.take_append_of_le_length (by rw [List.length_take]; omega), List.take_take, Nat.min_eq_left hA]
theorem ok_same {xs ys : List Int} {k : Nat} (hk : k ≤ 1) (hl : xs.length = ys.length) (ht : xs.take 16 = ys.take 16) : okI xs k = okI ys k ∧ cpW xs k = cpW ys k ∧ cpT xs k = cpT ys k := by
  have hc : copyI xs k = copyI ys k := by rw [copy_take hk, ht, ← copy_take hk]
  have ho : okI xs k = okI ys k := by
    unfold okI
    rw [hc, hl]
  unfold cpW cpT
  rw [ho, hc]
  exact ⟨rfl, rfl, rfl⟩
theorem tw_same {xs ys : List Int} (hl : xs.length = ys.length) (ht : xs.take 16 = ys.take 16) : twE xs = twE ys ∧ twW xs = twW ys ∧ twT xs = twT ys ∧ twA xs 0 = twA ys 0 ∧ twA xs 1 = twA ys 1 := by
  obtain ⟨a0, b0, c0⟩ := ok_same (k := 0) (by decide) hl ht
  obtain ⟨a1, b1, c1⟩ := ok_same (k := 1) (by decide) hl ht
  have he : twE xs = twE ys := by
    unfold twE
    rw [hl, a0, a1]
  unfold twW twT twA
  rw [he, a0, a1, b0, b1, c0, c1]
  exact ⟨rfl, rfl, rfl, rfl, rfl⟩
theorem diffs_same2 {xs ys vs us : List Int} (h1 : ∀ i, i < 16 → xs.getD i 0 = ys.getD i 0) (h2 : ∀ i, i < 16 → vs.getD i 0 = us.getD i 0) : ∀ k, k ≤ 16 → diffs xs vs k = diffs ys us k
  | 0, _ => rfl
  | k + 1, hk => by
    have ih := diffs_same2 h1 h2 k (by omega)
    by_cases he : xs.getD k 0 = vs.getD k 0
    · rw [diffs_same he, diffs_same (by rw [← h1 k (by omega), ← h2 k (by omega)]; exact he), ih]
    · rw [diffs_other he, diffs_other (by rw [← h1 k (by omega), ← h2 k (by omega)]; exact he), ih]
theorem view_drop {xs : List Int} (h : twE xs = 0) : (viewL xs).drop 16 = xs.drop 16 ∧ (viewL xs).take 16 = wordsI (twW xs) (twT xs) ++ wordsI (twW xs) (twT xs) := by
  have e : viewL xs = bothI (twW xs) (twT xs) xs := if_pos h
  rw [e]
  exact ⟨rfl, rfl⟩
theorem heal_16 {xs : List Int} (h : twE xs = 0) : healL xs = entsL xs (viewL xs) 16 := by
  obtain ⟨hi, _⟩ := tw_inv h
  have hb := img_bd hi
  have e : healL xs = entsL xs (viewL xs) xs.length := if_pos h
  rw [e]
  unfold entsL
  rw [diffs_stay (j := 16) (by omega) (fun i h1 _ => getD_drop (view_drop h).1.symm h1)]
theorem heal_same {xs ys : List Int} (hl : xs.length = ys.length) (ht : xs.take 16 = ys.take 16) : healL xs = healL ys := by
  obtain ⟨he, hW, hT, _, _⟩ := tw_same hl ht
  by_cases h : twE xs = 0
  · have h' : twE ys = 0 := by rw [← he]; exact h
    rw [heal_16 h, heal_16 h']
    have hv : (viewL xs).take 16 = (viewL ys).take 16 := by rw [(view_drop h).2, (view_drop h').2, hW, hT]
    have g1 : ∀ i, i < 16 → xs.getD i 0 = ys.getD i 0 := fun i hi => by rw [getD_take hi, ht, ← getD_take hi]
    have g2 : ∀ i, i < 16 → (viewL xs).getD i 0 = (viewL ys).getD i 0 := fun i hi => by rw [getD_take hi, hv, ← getD_take hi]
    unfold entsL
    rw [diffs_same2 g1 g2 16 (Nat.le_refl _)]
    refine List.map_congr_left fun x hx => ?_
    obtain ⟨h1, h2⟩ := mem_diffs hx
    rw [g2 x.toNat (by omega)]
  · rw [(tw_zero h).2.2.2.2, (tw_zero (by rw [← he]; exact h)).2.2.2.2]
end Go.Proofs.YtepiiiekcmbpaaaDoor.Tw
