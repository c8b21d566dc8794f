/-
  Package-level variables, as their initialisers lay them: what their cells hold, and that this stays.
-/
import Derived.Test.YtepiiiekcmbpaaaDoorStep
namespace Go.Proofs.YtepiiiekcmbpaaaDoor.Gv
open Go.RowKit Go.WideShapes Go.ChangeShapes Go.Proofs.YtepiiiekcmbpaaaDoor.St

theorem cell_stays {w w' : World} (hb : Below w.heap.size w w') {b o : Nat} {v : Value} (h : w.cell? ⟨b, o, none⟩ = some v) : w'.cell? ⟨b, o, none⟩ = some v := by
  rw [hb.cell (p := ⟨b, o, none⟩) (World.block_lt_of_cell? w _ h)]
  exact h
/-- The variable of package super for no superblock. -/
structure NoSb (w : World) : Prop where
  c0 : w.cell? ⟨0, 0, none⟩ = some (.int .i64 0)
  c1 : w.cell? ⟨0, 1, none⟩ = some (.int .i64 0)
theorem NoSb.keep {w w' : World} (h : NoSb w) (hb : Below w.heap.size w w') : NoSb w' := by
  exact ⟨cell_stays hb h.c0, cell_stays hb h.c1⟩
end Go.Proofs.YtepiiiekcmbpaaaDoor.Gv
