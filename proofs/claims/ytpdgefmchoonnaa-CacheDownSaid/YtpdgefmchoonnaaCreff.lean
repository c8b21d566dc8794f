/-
  Contracts of the reference of package cache, continued: flushing.
-/
import Derived.Test.YtpdgefmchoonnaaCrefb
import Derived.Test.YtpdgefmchoonnaaRecb
import Derived.LoopN
namespace Go.Proofs.Ytpdgefmchoonnaa.Cr
open Go.RowKit Go.Proofs.Ytpdgefmchoonnaa.Sl Go.Proofs.Ytpdgefmchoonnaa.St Go.Proofs.Ytpdgefmchoonnaa.Ir Go.Proofs.Ytpdgefmchoonnaa.Dv
set_option maxRecDepth 100000
set_option maxHeartbeats 4000000

/-- A list of which the first k are turned. -/
def mix (h : Dw → Dw) (xs : List Dw) (k : Nat) : List Dw := (xs.take k).map h ++ xs.drop k
theorem mix_len (h : Dw → Dw) (xs : List Dw) (k : Nat) : (mix h xs k).length = xs.length := by
  unfold mix
  rw [List.length_append, List.length_map, List.length_take, List.length_drop]
  omega
theorem mix_at (h : Dw → Dw) (xs : List Dw) (k : Nat) (hk : k < xs.length) : (mix h xs k)[k]? = some xs[k] := by
  unfold mix
  have e : ((xs.take k).map h).length = k := by rw [List.length_map, List.length_take]; omega
  rw [List.drop_eq_getElem_cons hk, List.getElem?_append_right (by omega), e, Nat.sub_self]
  rfl
theorem mix_set (h : Dw → Dw) (xs : List Dw) (k : Nat) (hk : k < xs.length) : (mix h xs k).set k (h xs[k]) = mix h xs (k + 1) := by
  unfold mix
  have e : ((xs.take k).map h).length = k := by rw [List.length_map, List.length_take]; omega
  rw [List.drop_eq_getElem_cons hk, List.set_append_right _ _ (by omega), e, Nat.sub_self, List.set_cons_zero, List.take_succ_eq_append_getElem hk, List.map_append, List.append_assoc]
  rfl
theorem mix_same (h : Dw → Dw) (xs : List Dw) (k : Nat) (hk : k < xs.length) (he : h xs[k] = xs[k]) : mix h xs k = mix h xs (k + 1) := by
  unfold mix
  rw [List.drop_eq_getElem_cons hk, List.take_succ_eq_append_getElem hk, List.map_append, List.append_assoc]
  simp [he]
theorem mix_all (h : Dw → Dw) (xs : List Dw) (k : Nat) (hk : xs.length ≤ k) : mix h xs k = xs.map h := by
  unfold mix
  rw [List.take_of_length_le hk, List.drop_of_length_le hk, List.append_nil]
end Go.Proofs.Ytpdgefmchoonnaa.Cr
