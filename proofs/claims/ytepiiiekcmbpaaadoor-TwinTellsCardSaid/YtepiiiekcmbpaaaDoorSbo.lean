/-
  A superblock that comes in: its value written out.
-/
import Derived.Test.YtepiiiekcmbpaaaDoorStep
import Derived.SizedLaws
import Derived.Lib.SmallJoins
namespace Go.Proofs.YtepiiiekcmbpaaaDoor.Sb
open Go.RowKit Go.WideShapes Go.ChangeShapes Go.Joins Go.Proofs.YtepiiiekcmbpaaaDoor.St
set_option maxRecDepth 100000
theorem open_super {H : Type} {enc : TypeId × Value → H} {W : World} {base : Nat} {r : Reach} {hd : Bool} {v : Value} {d : DataW H} {ps : List MemPlace} (hv : Value.okWide Tryd.prog W r base 26 v) (h : DataW.Trod enc Tryd.prog W 0 (fun _ => true) hd 26 v d ps) :
    ∃ a b, v = .agg #[.int .i64 a, .int .i64 b] ∧ (-9223372036854775808 ≤ a ∧ a ≤ 9223372036854775807) ∧ (-9223372036854775808 ≤ b ∧ b ≤ 9223372036854775807) := by
  obtain ⟨v0, v1, y0, y1, m, rfl, rfl, _, t0, t1⟩ := open_agg2 Tryd.underlying26 (by kernel_rfl) (by kernel_rfl) hv h
  obtain ⟨a, q0, _, w0⟩ := DataW.trod_int Tryd.underlying3 t0
  obtain ⟨b, q1, _, w1⟩ := DataW.trod_int Tryd.underlying3 t1
  simp only [List.cons.injEq, and_true] at q0 q1
  subst q0 q1
  exact ⟨a, b, rfl, St.i64_of_wf w0, St.i64_of_wf w1⟩
end Go.Proofs.YtepiiiekcmbpaaaDoor.Sb
