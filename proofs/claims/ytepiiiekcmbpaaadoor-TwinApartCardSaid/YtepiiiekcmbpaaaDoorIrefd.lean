/-
  Contract of the reference's Diff: the addresses in which two lists differ, in order.
-/
import Derived.Test.YtepiiiekcmbpaaaDoorIrefb
namespace Go.Proofs.YtepiiiekcmbpaaaDoor.Ir
open Go.RowKit Go.Proofs.YtepiiiekcmbpaaaDoor.Sl Go.Proofs.YtepiiiekcmbpaaaDoor.St
set_option maxRecDepth 100000
set_option maxHeartbeats 1000000

theorem info_int : (Tryd.prog.info? 3).map (fun i => (i.zero, i.size, i.bytes)) = some (some (.int .i64 0), 1, 8) := by kernel_rfl
/-- The first addresses in which two lists differ. -/
def diffs (xs ys : List Int) : Nat → List Int
  | 0 => []
  | k + 1 => if xs.getD k 0 = ys.getD k 0 then diffs xs ys k else diffs xs ys k ++ [(k : Int)]
theorem diffs_len (xs ys : List Int) : ∀ k, (diffs xs ys k).length ≤ k
  | 0 => Nat.le_refl _
  | k + 1 => by
    have := diffs_len xs ys k
    unfold diffs
    split
    · omega
    · rw [List.length_append]
      simp
      omega
theorem diffs_same {xs ys : List Int} {k : Nat} (h : xs.getD k 0 = ys.getD k 0) : diffs xs ys (k + 1) = diffs xs ys k := by rw [diffs, if_pos h]
theorem diffs_other {xs ys : List Int} {k : Nat} (h : ¬ xs.getD k 0 = ys.getD k 0) : diffs xs ys (k + 1) = diffs xs ys k ++ [(k : Int)] := by rw [diffs, if_neg h]

end Go.Proofs.YtepiiiekcmbpaaaDoor.Ir
