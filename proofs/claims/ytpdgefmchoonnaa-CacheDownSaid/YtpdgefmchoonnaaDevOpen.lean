/-
  A device that comes in: its value written out, and what it is read as.
-/
import Derived.Test.YtpdgefmchoonnaaDev
import Derived.SizedLaws
import Derived.Lib.SmallJoins
import Derived.Deep.Slices
import Derived.Deep.Strs
namespace Go.Proofs.Ytpdgefmchoonnaa.Dv
open Go.RowKit Go.WideShapes Go.ChangeShapes Go.Joins Go.Deep Go.Proofs.Ytpdgefmchoonnaa.Sl Go.Proofs.Ytpdgefmchoonnaa.St
set_option maxRecDepth 100000

section
variable {H : Type} {enc : TypeId × Value → H}

theorem open_words_cell {W : World} {b fuel : Nat} {hd : Bool} {v : Value} {x : DataW H × List MemPlace} (h : DataW.trod enc Try.prog W b (fun _ => true) hd fuel 22 [v] = some x)
    (hsz : ∀ es sp, x.1 = .slice es sp → (es.length + sp.length) * 8 ≤ 140737488351232) : ∃ a n c xs, v = .slice a n c ∧ Sees W .u64 a n c xs := by
  rcases open_ints Try.underlying22 Try.underlying31 (by kernel_rfl) h with ⟨hcs, _⟩ | ⟨ad, len, cap, zs, hcs, _, hl, _, hz, hx, hcell, hwz⟩
  · simp only [List.cons.injEq, and_true] at hcs
    subst hcs
    exact ⟨none, 0, 0, [], rfl, rfl, Nat.le_refl _, by omega, by simp, fun _ => ⟨rfl, rfl⟩, .inl rfl⟩
  · simp only [List.cons.injEq, and_true] at hcs
    subst hcs
    simp only [if_true] at hz
    have hb := hsz _ _ (congrArg Prod.fst hx)
    simp only [lits, List.length_map, List.length_take, List.length_drop] at hb
    refine ⟨_, len, cap, zs.take len, rfl, by simp; omega, hl, by omega, fun x hx => hwz x (List.mem_of_mem_take hx), fun h => by simp at h, ?_⟩
    by_cases hn : len = 0
    · exact .inl hn
    · obtain ⟨bb, off, rfl, hcc⟩ := ints_at hcell (by omega)
      refine .inr ⟨bb, off, rfl, fun i hi => ?_⟩
      rw [hcc i (by omega)]
      simp [List.getD_eq_getElem?_getD, hi]
theorem cells3 {w : World} {a : Addr} {cs : List Value} (h : w.cells? 0 a 3 = some cs) : ∃ x y z, cs = [x, y, z] ∧ w.cell? (a.add 0) = some x ∧ w.cell? (a.add 1) = some y ∧ w.cell? (a.add 2) = some z := by
  unfold World.cells? at h
  rw [if_pos (Nat.zero_le _)] at h
  cases h0 : w.cell? (a.add 0) <;> cases h1 : w.cell? (a.add 1) <;> cases h2 : w.cell? (a.add 2) <;> simp [List.range_succ, h0, h1, h2] at h
  exact ⟨_, _, _, h.symm, rfl, rfl, rfl⟩
theorem open_dirty_cell {W : World} {fuel : Nat} {hd : Bool} {v : Value} {x : DataW H × List MemPlace} (h : DataW.trod enc Try.prog W 0 (fun _ => true) hd fuel 23 [v] = some x)
    (hsz : ∀ es sp, x.1 = .slice es sp → (es.length + sp.length) * 24 ≤ 140737488351232) : ∃ a n c xs, v = .slice a n c ∧ SeesR dw W a n c xs := by
  rcases Deep.open_slice Try.underlying23 h with ⟨hcs, _⟩ | ⟨ad, len, cap, m, n, D, Pl, hcs, _, hl, _, hm, hx, hel⟩
  · simp only [List.cons.injEq, and_true] at hcs
    subst hcs
    exact ⟨none, 0, 0, [], rfl, rfl, Nat.le_refl _, by decide, by simp, fun _ => ⟨rfl, rfl⟩, .inl rfl⟩
  · simp only [List.cons.injEq, and_true] at hcs
    subst hcs
    simp only [if_true] at hm
    subst hm
    have hb := hsz _ _ (congrArg Prod.fst hx)
    simp only [List.length_map, List.length_range] at hb
    have hc3 : Try.prog.cellsOf 44 = 3 := by kernel_rfl
    rw [hc3] at hel
    have each : ∀ i, i < m → ∃ y : Dw, dw.good y ∧ W.cell? (ad.add (i * 3)) = some (.int .i64 y.p) ∧ W.cell? (ad.add (i * 3 + 1)) = some (.int .u64 y.v) ∧ W.cell? (ad.add (i * 3 + 2)) = some (.bool y.f) := by
      intro i hi
      obtain ⟨cs', h1, h2⟩ := hel i hi
      obtain ⟨c0, c1, c2, rfl, k0, k1, k2⟩ := cells3 h1
      obtain ⟨y0, y1, y2, n', _, _, t0, t1, t2⟩ := Deep.trod_struct3 Try.underlying44 h2
      have e0 : Try.prog.cellsOf 3 = 1 := by kernel_rfl
      have e1 : Try.prog.cellsOf 31 = 1 := by kernel_rfl
      have e2 : Try.prog.cellsOf 4 = 1 := by kernel_rfl
      simp only [e0, e1, e2, List.drop_zero, List.drop_succ_cons, List.take_succ_cons, List.take_zero] at t0 t1 t2
      obtain ⟨p, q0, _, w0⟩ := DataW.trod_int Try.underlying3 t0
      obtain ⟨u, q1, _, w1⟩ := DataW.trod_int Try.underlying31 t1
      obtain ⟨f, q2, _⟩ := DataW.trod_bool Try.underlying4 t2
      simp only [List.cons.injEq, and_true] at q0 q1 q2
      subst q0 q1 q2
      have hspot := World.cell?_spot k0
      refine ⟨⟨p, u, f⟩, ⟨St.i64_of_wf w0, St.u64_of_wf w1⟩, ?_, ?_, ?_⟩
      · simpa [add_add] using k0
      · simpa [add_add] using k1
      · simpa [add_add] using k2
    obtain ⟨Y, hY⟩ := choose_lt each
    have hlen : ((List.range len).map Y).length = len := by simp
    refine ⟨_, len, m, (List.range len).map Y, rfl, hlen, hl, by simp [dw]; omega, ?_, fun h => by simp at h, ?_⟩
    · intro x hx
      obtain ⟨i, hi, rfl⟩ := List.mem_map.1 hx
      exact (hY i (by have := List.mem_range.1 hi; omega)).1
    · by_cases hn : len = 0
      · exact .inl hn
      · obtain ⟨bb, off, spot⟩ := ad
        have hspot : spot = none := by simpa [Addr.add] using World.cell?_spot (hY 0 (by omega)).2.1
        subst hspot
        refine .inr ⟨bb, off, rfl, fun j u hj => ?_⟩
        have hjl : j < len * 3 := by
          have h1 := (List.getElem?_eq_some_iff.1 hj).1
          rw [dw.flat_len, hlen] at h1
          exact h1
        have hi : j / 3 < ((List.range len).map Y).length := by rw [hlen]; omega
        have hr : j % 3 < dw.sz := Nat.mod_lt _ (by decide)
        have hf := dw.flat_at _ (j / 3) (j % 3) hi hr
        have hj3 : j / 3 * dw.sz + j % 3 = j := by show j / 3 * 3 + j % 3 = j; omega
        rw [hj3, hj, List.getElem_map, List.getElem_range] at hf
        obtain ⟨_, k0, k1, k2⟩ := hY (j / 3) (by omega)
        simp only [add_plain] at k0 k1 k2
        rcases (by omega : j % 3 = 0 ∨ j % 3 = 1 ∨ j % 3 = 2) with h | h | h
        · rw [h] at hf
          injection hf with hf
          rw [show off + j = off + j / 3 * 3 by omega, hf]
          exact k0
        · rw [h] at hf
          injection hf with hf
          rw [show off + j = off + (j / 3 * 3 + 1) by omega, hf]
          exact k1
        · rw [h] at hf
          injection hf with hf
          rw [show off + j = off + (j / 3 * 3 + 2) by omega, hf]
          exact k2
/-- A device by value. -/
theorem open_dev {W : World} {base : Nat} {r : Reach} {hd : Bool} {v : Value} {d : DataW H} {ps : List MemPlace} (hv : Value.okWide Try.prog W r base 25 v) (h : DataW.Trod enc Try.prog W 0 (fun _ => true) hd 25 v d ps)
    (hsz : ∀ n ∈ d.weights Try.prog 25, n ≤ 140737488351232) : ∃ a n c b m e l q D, v = dev a n c b m e l q ∧ SeesD W a n c b m e l q D := by
  obtain ⟨v0, v1, v2, v3, y0, y1, y2, y3, m, rfl, rfl, _, t0, t1, t2, t3⟩ := open_agg4 Try.underlying25 (by kernel_rfl) (by kernel_rfl) hv h
  obtain ⟨l, q2, _, w2⟩ := DataW.trod_int Try.underlying3 t2
  obtain ⟨q, q3, _⟩ := DataW.trod_bool Try.underlying4 t3
  simp only [List.cons.injEq, and_true] at q2 q3
  subst q2 q3
  obtain ⟨a, n, c, xs, rfl, s0⟩ := open_words_cell t0 (fun es sp he => by
    refine hsz _ ?_
    have hb : Try.prog.bytesOf 31 = 8 := by kernel_rfl
    rw [← hb]
    simp [DataW.weights, DataW.weightsEach, Try.underlying25, Try.underlying22, he])
  obtain ⟨b, m', e, ys, rfl, s1⟩ := open_dirty_cell t1 (fun es sp he => by
    refine hsz _ ?_
    have hb : Try.prog.bytesOf 44 = 24 := by kernel_rfl
    rw [← hb]
    simp [DataW.weights, DataW.weightsEach, Try.underlying25, Try.underlying23, he])
  have hb := St.i64_of_wf w2
  exact ⟨a, n, c, b, m', e, l, q, ⟨xs, ys, l, q⟩, rfl, s0, s1, rfl, rfl, hb.1, hb.2⟩
end
end Go.Proofs.Ytpdgefmchoonnaa.Dv
