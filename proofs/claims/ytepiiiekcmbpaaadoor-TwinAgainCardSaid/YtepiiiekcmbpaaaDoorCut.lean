/-
  Cuts of a slice of words: m[a:b], m[a:], m[:b] within its length, and what the cut is read as. No function of the program.
-/
import Derived.Test.YtepiiiekcmbpaaaDoorOwn
import Derived.WalkLawsBesides
namespace Go.Proofs.YtepiiiekcmbpaaaDoor.Sl
open Go.RowKit Go.WideShapes Go.Proofs.YtepiiiekcmbpaaaDoor.St

theorem info_word : (Tryd.prog.info? 47).map (fun i => (i.zero, i.size, i.bytes)) = some (some (.int .u64 0), 1, 8) := by kernel_rfl
theorem size_word : (Tryd.prog.info? 47).map (·.size) = some 1 := by kernel_rfl

theorem run_cut (b off n c A K : Nat) (L H : Int) (hL : L = A) (hH : H = A + K) (h : A + K ≤ n) (hc : n ≤ c) : ∃ ad : Addr, (0 < K → ad = ⟨b, off + A, .none⟩) ∧
    ∀ w : World, (Instr.slice 22 (.slice (some ⟨b, off, .none⟩) n c) (some (.int .i64 L)) (some (.int .i64 H)) .none).run Tryd.prog w = .ok (.slice (some ad) K (c - A)) w := by
  subst hL hH
  have e : ((A : Int) + (K : Int)).toNat - A = K := by omega
  by_cases hca : c = A
  · refine ⟨⟨b, off, .none⟩, fun hk => by omega, fun w => ?_⟩
    subst hca
    obtain rfl : K = 0 := by omega
    go_simp
    all_goals rw [if_pos (by omega), if_pos (by omega)]
  · refine ⟨⟨b, off + A, .none⟩, fun hk => rfl, fun w => ?_⟩
    go_simp
    all_goals rw [if_pos (by omega), if_pos (by omega)]
theorem run_from (b off n c A : Nat) (L : Int) (hL : L = A) (h : A ≤ n) (hc : n ≤ c) : ∃ ad : Addr, (0 < n - A → ad = ⟨b, off + A, .none⟩) ∧
    ∀ w : World, (Instr.slice 22 (.slice (some ⟨b, off, .none⟩) n c) (some (.int .i64 L)) .none .none).run Tryd.prog w = .ok (.slice (some ad) (n - A) (c - A)) w := by
  subst hL
  by_cases hca : c = A
  · refine ⟨⟨b, off, .none⟩, fun hk => by omega, fun w => ?_⟩
    subst hca
    obtain rfl : n = c := by omega
    go_simp
  · refine ⟨⟨b, off + A, .none⟩, fun hk => rfl, fun w => ?_⟩
    go_simp
    all_goals rw [if_pos (by omega)]
theorem run_upto (b off n c K : Nat) (H : Int) (hH : H = K) (h : K ≤ n) (hc : n ≤ c) :
    ∀ w : World, (Instr.slice 22 (.slice (some ⟨b, off, .none⟩) n c) .none (some (.int .i64 H)) .none).run Tryd.prog w = .ok (.slice (some ⟨b, off, .none⟩) K c) w := by
  subst hH
  intro w
  have hk : ¬ c < K := by omega
  go_simp
  all_goals (intro h1; exact absurd h1 hk)

/-- A cut is read as the part of the list. -/
theorem Sees.cut {w : World} {k : IntKind} {b off n c : Nat} {xs : List Int} (h : Sees w k (some ⟨b, off, .none⟩) n c xs) (A K : Nat) (hA : A + K ≤ n) {ad : Addr} (had : 0 < K → ad = ⟨b, off + A, .none⟩) :
    Sees w k (some ad) K (c - A) ((xs.drop A).take K) := by
  have hl := h.len
  have hc := h.le
  have ht := h.top
  refine ⟨by rw [List.length_take, List.length_drop]; omega, by omega, by omega, fun x hx => h.wf x (List.mem_of_mem_drop (List.mem_of_mem_take hx)), fun h => by simp at h, ?_⟩
  rcases Nat.eq_zero_or_pos K with h0 | h0
  · exact .inl h0
  · refine .inr ⟨b, off + A, by rw [had h0], fun i hi => ?_⟩
    rw [Nat.add_assoc, h.at (A + i) (by omega)]
    simp [List.getD_eq_getElem?_getD, hi]
theorem Sees.upto {w : World} {k : IntKind} {b off n c : Nat} {xs : List Int} (h : Sees w k (some ⟨b, off, .none⟩) n c xs) (K : Nat) (hK : K ≤ n) : Sees w k (some ⟨b, off, .none⟩) K c (xs.take K) := by
  have := h.cut 0 K (by omega) (ad := ⟨b, off, .none⟩) (fun _ => rfl)
  simpa using this
end Go.Proofs.YtepiiiekcmbpaaaDoor.Sl
