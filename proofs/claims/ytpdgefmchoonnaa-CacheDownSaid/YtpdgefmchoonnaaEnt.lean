/-
  Entries as data: an address and a word; a slice of entries that comes in.
-/
import Derived.Test.YtpdgefmchoonnaaDevOpen
namespace Go.Proofs.Ytpdgefmchoonnaa.Dv
open Go.RowKit Go.WideShapes Go.ChangeShapes Go.Joins Go.Deep Go.Proofs.Ytpdgefmchoonnaa.Sl Go.Proofs.Ytpdgefmchoonnaa.St
set_option maxRecDepth 100000

/-- An entry. -/
structure En where
  p : Int
  v : Int
  deriving DecidableEq, Inhabited
def en : Rec En where
  sz := 2
  cells x := [.int .i64 x.p, .int .u64 x.v]
  good x := (-9223372036854775808 ≤ x.p ∧ x.p ≤ 9223372036854775807) ∧ (0 ≤ x.v ∧ x.v < 18446744073709551616)
  len _ := rfl
  one x u h := by
    simp at h
    rcases h with rfl | rfl <;> rfl
  pos := by decide
theorem en_at {w : World} {b off m d : Nat} {xs : List En} (h : SeesR en w (some ⟨b, off, none⟩) m d xs) (k : Nat) (hk : k < xs.length) :
    w.cell? ⟨b, off + k * 2, none⟩ = some (.int .i64 xs[k].p) ∧ w.cell? ⟨b, off + k * 2 + 1, none⟩ = some (.int .u64 xs[k].v) :=
  ⟨h.at k hk 0 _ rfl, h.at k hk 1 _ rfl⟩
section
variable {H : Type} {enc : TypeId × Value → H}
theorem cells2 {w : World} {a : Addr} {cs : List Value} (h : w.cells? 0 a 2 = some cs) : ∃ x y, cs = [x, y] ∧ w.cell? (a.add 0) = some x ∧ w.cell? (a.add 1) = some y := by
  unfold World.cells? at h
  rw [if_pos (Nat.zero_le _)] at h
  cases h0 : w.cell? (a.add 0) <;> cases h1 : w.cell? (a.add 1) <;> simp [List.range_succ, h0, h1] at h
  exact ⟨_, _, h.symm, rfl, rfl⟩
theorem open_ents_cell {W : World} {fuel : Nat} {hd : Bool} {v : Value} {x : DataW H × List MemPlace} (h : DataW.trod enc Try.prog W 0 (fun _ => true) hd fuel 26 [v] = some x)
    (hsz : ∀ es sp, x.1 = .slice es sp → (es.length + sp.length) * 16 ≤ 140737488351232) : ∃ a n c xs, v = .slice a n c ∧ SeesR en W a n c xs := by
  rcases Deep.open_slice Try.underlying26 h with ⟨hcs, _⟩ | ⟨ad, len, cap, m, n, D, Pl, hcs, _, hl, _, hm, hx, hel⟩
  · simp only [List.cons.injEq, and_true] at hcs
    subst hcs
    exact ⟨none, 0, 0, [], rfl, rfl, Nat.le_refl _, by decide, by simp, fun _ => ⟨rfl, rfl⟩, .inl rfl⟩
  · simp only [List.cons.injEq, and_true] at hcs
    subst hcs
    simp only [if_true] at hm
    subst hm
    have hb := hsz _ _ (congrArg Prod.fst hx)
    simp only [List.length_map, List.length_range] at hb
    have hc3 : Try.prog.cellsOf 33 = 2 := by kernel_rfl
    rw [hc3] at hel
    have each : ∀ i, i < m → ∃ y : En, en.good y ∧ W.cell? (ad.add (i * 2)) = some (.int .i64 y.p) ∧ W.cell? (ad.add (i * 2 + 1)) = some (.int .u64 y.v) := by
      intro i hi
      obtain ⟨cs', h1, h2⟩ := hel i hi
      obtain ⟨c0, c1, rfl, k0, k1⟩ := cells2 h1
      obtain ⟨y0, y1, n', _, _, t0, t1⟩ := trod_struct2 Try.underlying33 h2
      have e0 : Try.prog.cellsOf 3 = 1 := by kernel_rfl
      have e1 : Try.prog.cellsOf 31 = 1 := by kernel_rfl
      simp only [e0, e1, List.drop_zero, List.drop_succ_cons, List.take_succ_cons, List.take_zero] at t0 t1
      obtain ⟨p, q0, _, w0⟩ := DataW.trod_int Try.underlying3 t0
      obtain ⟨u, q1, _, w1⟩ := DataW.trod_int Try.underlying31 t1
      simp only [List.cons.injEq, and_true] at q0 q1
      subst q0 q1
      have hspot := World.cell?_spot k0
      refine ⟨⟨p, u⟩, ⟨St.i64_of_wf w0, St.u64_of_wf w1⟩, ?_, ?_⟩
      · simpa [add_add] using k0
      · simpa [add_add] using k1
    obtain ⟨Y, hY⟩ := choose_lt each
    have hlen : ((List.range len).map Y).length = len := by simp
    refine ⟨_, len, m, (List.range len).map Y, rfl, hlen, hl, by simp [en]; omega, ?_, fun h => by simp at h, ?_⟩
    · intro x hx
      obtain ⟨i, hi, rfl⟩ := List.mem_map.1 hx
      exact (hY i (by have := List.mem_range.1 hi; omega)).1
    · by_cases hn : len = 0
      · exact .inl hn
      · obtain ⟨bb, off, spot⟩ := ad
        have hspot : spot = none := by simpa [Addr.add] using World.cell?_spot (hY 0 (by omega)).2.1
        subst hspot
        refine .inr ⟨bb, off, rfl, fun j u hj => ?_⟩
        have hjl : j < len * 2 := by
          have h1 := (List.getElem?_eq_some_iff.1 hj).1
          rw [en.flat_len, hlen] at h1
          exact h1
        have hi : j / 2 < ((List.range len).map Y).length := by rw [hlen]; omega
        have hr : j % 2 < en.sz := Nat.mod_lt _ (by decide)
        have hf := en.flat_at _ (j / 2) (j % 2) hi hr
        have hj3 : j / 2 * en.sz + j % 2 = j := by show j / 2 * 2 + j % 2 = j; omega
        rw [hj3, hj, List.getElem_map, List.getElem_range] at hf
        obtain ⟨_, k0, k1⟩ := hY (j / 2) (by omega)
        simp only [add_plain] at k0 k1
        rcases (by omega : j % 2 = 0 ∨ j % 2 = 1) with h | h
        · rw [h] at hf
          injection hf with hf
          rw [show off + j = off + j / 2 * 2 by omega, hf]
          exact k0
        · rw [h] at hf
          injection hf with hf
          rw [show off + j = off + (j / 2 * 2 + 1) by omega, hf]
          exact k1
/-- A slice of entries that comes in. -/
theorem open_ents {W : World} {base : Nat} {r : Reach} {hd : Bool} {v : Value} {d : DataW H} {ps : List MemPlace} (hv : Value.okWide Try.prog W r base 26 v) (h : DataW.Trod enc Try.prog W 0 (fun _ => true) hd 26 v d ps)
    (hsz : ∀ es sp, d = .slice es sp → (es.length + sp.length) * 16 ≤ 140737488351232) : ∃ a n c xs, v = .slice a n c ∧ SeesR en W a n c xs := by
  obtain ⟨a, n, c, rfl⟩ := okWide_slice Try.underlying26 hv
  obtain ⟨fuel, hf⟩ := h
  exact open_ents_cell (x := (d, ps)) (by simpa [Value.cells] using hf) hsz
end
end Go.Proofs.Ytpdgefmchoonnaa.Dv
