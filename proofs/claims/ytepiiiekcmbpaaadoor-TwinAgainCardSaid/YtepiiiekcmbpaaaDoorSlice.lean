/-
  Slices of numbers as lists: what it means that a slice value is read as a list of numbers in a world, and that this stays where nothing that was there has turned. Plain facts on worlds; no function of the program.
-/
import Derived.Test.YtepiiiekcmbpaaaDoorStep
import Derived.WalkSmall
import Derived.Deep.QuietTactic
namespace Go.Proofs.YtepiiiekcmbpaaaDoor.Sl
open Go.RowKit Go.WideShapes Go.ChangeShapes Go.Proofs.YtepiiiekcmbpaaaDoor.St

/-- The slice value with address a, length n and capacity c is read as the list xs of numbers of the kind k. -/
structure Sees (w : World) (k : IntKind) (a : Option Addr) (n c : Nat) (xs : List Int) : Prop where
  len : xs.length = n
  le : n ≤ c
  top : n ≤ 17592186044416
  wf : ∀ x ∈ xs, (Lit.int k x).wf = true
  nil : a = none → n = 0 ∧ c = 0
  row : n = 0 ∨ ∃ b off, a = some ⟨b, off, none⟩ ∧ ∀ i, i < n → w.cell? ⟨b, off + i, none⟩ = some (.int k (xs.getD i 0))

theorem Sees.keep {w w' : World} {k : IntKind} {a : Option Addr} {n c : Nat} {xs : List Int} (h : Sees w k a n c xs) (hb : Below w.heap.size w w') : Sees w' k a n c xs := by
  refine ⟨h.len, h.le, h.top, h.wf, h.nil, ?_⟩
  rcases h.row with h0 | ⟨b, off, ha, hc⟩
  · exact .inl h0
  · refine .inr ⟨b, off, ha, fun i hi => ?_⟩
    rw [hb.cell (p := ⟨b, off + i, none⟩) (World.block_lt_of_cell? w _ (hc i hi))]
    exact hc i hi
theorem Sees.draws {w : World} {k : IntKind} {a : Option Addr} {n c : Nat} {xs : List Int} (h : Sees w k a n c xs) (m : Nat) : Sees (w.drewN m) k a n c xs :=
  ⟨h.len, h.le, h.top, h.wf, h.nil, h.row⟩
theorem Sees.at {w : World} {k : IntKind} {b off n c : Nat} {xs : List Int} (h : Sees w k (some ⟨b, off, none⟩) n c xs) (i : Nat) (hi : i < n) : w.cell? ⟨b, off + i, none⟩ = some (.int k (xs.getD i 0)) := by
  rcases h.row with h0 | ⟨b', off', ha, hc⟩
  · omega
  · injection ha with ha
    injection ha with h1 h2
    subst h1 h2
    exact hc i hi
/-- A slice that is not empty lies somewhere. -/
theorem Sees.lies {w : World} {k : IntKind} {a : Option Addr} {n c : Nat} {xs : List Int} (h : Sees w k a n c xs) (hn : 0 < n) : ∃ b off, a = .some ⟨b, off, none⟩ := by
  rcases h.row with h0 | ⟨b, off, ha, _⟩
  · omega
  · exact ⟨b, off, ha⟩
theorem Sees.empty {w : World} {k : IntKind} {a : Option Addr} {c : Nat} {xs : List Int} (h : Sees w k a 0 c xs) : xs = [] := List.eq_nil_of_length_eq_zero h.len
theorem Sees.num {w : World} {k : IntKind} {a : Option Addr} {n c : Nat} {xs : List Int} (h : Sees w k a n c xs) {i : Nat} (hi : i < n) : (Lit.int k (xs.getD i 0)).wf = true := by
  apply h.wf
  rw [List.getD_eq_getElem?_getD, List.getElem?_eq_getElem (by rw [h.len]; exact hi)]
  exact List.getElem_mem _

/-- What an owned row holds is what it is read as. -/
theorem sees_of_owns {w : World} {base e n : Nat} {k : IntKind} {v : Value} {xs : List Int} (h : w.ownsRow base e 1 v n (xs.map (Value.int k))) (hw : ∀ x ∈ xs, (Lit.int k x).wf = true) (ht : n ≤ 17592186044416) :
    ∃ a c, v = .slice a n c ∧ Sees w k a n c xs := by
  have hl : xs.length = n := by have := h.1; simpa using this
  rcases h.2 with ⟨rfl, rfl⟩ | ⟨g, cap, cur, rfl, hg, hh, hle, hm, hs, hx⟩
  · exact ⟨none, 0, rfl, hl, Nat.le_refl _, ht, hw, fun _ => ⟨rfl, rfl⟩, .inl rfl⟩
  · refine ⟨_, cap, rfl, hl, hle, ht, hw, fun h => by simp at h, .inr ⟨g, 0, rfl, fun i hi => ?_⟩⟩
    have h1 := h.cellAt i (by omega)
    rw [Nat.zero_add, h1, List.getElem?_map, List.getElem?_eq_getElem (by omega), List.getD_eq_getElem?_getD, List.getElem?_eq_getElem (by omega)]
    rfl
theorem owns_kept {w w' : World} {base e n : Nat} {v : Value} {xs : List Value} (h : w.ownsRow base e 1 v n xs) (hb : Below w.heap.size w w') : w'.ownsRow base e 1 v n xs := by
  refine ⟨h.1, ?_⟩
  rcases h.2 with h0 | ⟨g, cap, cur, hv, hg, hh, hle, hm, hs, hx⟩
  · exact .inl h0
  · refine .inr ⟨g, cap, cur, hv, hg, ?_, hle, hm, hs, hx⟩
    rw [hb.block g ?_]
    · exact hh
    · exact Nat.lt_of_not_le fun hlt => by rw [Array.getElem?_eq_none hlt] at hh; simp at hh

/-- A call has made a list: the value is new, and nothing that was there has turned. -/
def Made (k : IntKind) (e : TypeId) (w : World) (xs : List Int) (a : Option Addr) (c : Nat) (w' : World) : Prop :=
  w'.ownsRow w.heap.size e 1 (.slice a xs.length c) xs.length (xs.map (Value.int k)) ∧ Below w.heap.size w w'
theorem Made.sees {k : IntKind} {e : TypeId} {w w' : World} {xs : List Int} {a : Option Addr} {c : Nat} (h : Made k e w xs a c w') (hw : ∀ x ∈ xs, (Lit.int k x).wf = true) (ht : xs.length ≤ 17592186044416) :
    Sees w' k a xs.length c xs := by
  obtain ⟨a', c', e, hs⟩ := sees_of_owns h.1 hw ht
  injection e with e1 e2 e3
  subst e1 e3
  exact hs

/-- A slice of numbers that comes in. -/
theorem open_slice {H : Type} {enc : TypeId × Value → H} {P : Program} {t e : TypeId} {k : IntKind} {W : World} {base b : Nat} {v : Value} {d : DataW H} {ps : List MemPlace} {hd : Bool} {m : Reach}
    (ht : P.underlying t = some (.slice e)) (he : P.underlying e = some (.int k)) (hc : P.cellsOf e = 1)
    (hv : Value.okWide P W m base t v) (h : DataW.Trod enc P W b (fun _ => true) hd t v d ps) (hsz : ∀ es sp, d = .slice es sp → (es.length + sp.length) * 8 ≤ 140737488351232) :
    ∃ a n c xs, v = .slice a n c ∧ Sees W k a n c xs ∧ c ≤ 17592186044416 := by
  obtain ⟨a, n, c, rfl⟩ := okWide_slice ht hv
  obtain ⟨fuel, hf⟩ := h
  rcases open_ints ht he hc hf with ⟨hcs, _⟩ | ⟨ad, len, cap, zs, hcs, _, hl, _, hz, hx, hcell, hwz⟩
  · simp [Value.cells] at hcs
    obtain ⟨rfl, rfl, rfl⟩ := hcs
    exact ⟨none, 0, 0, [], rfl, ⟨rfl, Nat.le_refl _, by omega, by simp, fun _ => ⟨rfl, rfl⟩, .inl rfl⟩, by omega⟩
  · simp [Value.cells] at hcs
    obtain ⟨rfl, rfl, rfl⟩ := hcs
    simp only [if_true] at hz
    simp only [Prod.mk.injEq] at hx
    have hb := hsz _ _ hx.1
    simp only [lits, List.length_map, List.length_take, List.length_drop] at hb
    refine ⟨_, n, c, zs.take n, rfl, ⟨by simp; omega, hl, by omega, fun x hx => hwz x (List.mem_of_mem_take hx), fun h => by simp at h, ?_⟩, by omega⟩
    by_cases hn : n = 0
    · exact .inl hn
    · obtain ⟨bb, off, rfl, hcc⟩ := ints_at hcell (by omega)
      refine .inr ⟨bb, off, rfl, fun i hi => ?_⟩
      rw [hcc i (by omega)]
      simp [List.getD_eq_getElem?_getD, hi]
end Go.Proofs.YtepiiiekcmbpaaaDoor.Sl
