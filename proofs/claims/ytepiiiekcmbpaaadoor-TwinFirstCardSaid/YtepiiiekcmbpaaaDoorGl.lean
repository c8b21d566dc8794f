/-
  The variable that the rows list, read off their condition; a start that meets it.
-/
import Derived.Test.YtepiiiekcmbpaaaDoorGv
import Derived.Test.YtepiiiekcmbpaaaDoorTie
import Derived.Test.YtepiiiekcmbpaaaDoorCards
import Derived.LaidMore
import Derived.SevenTiedAt
import Derived.Lib.SmallJoins
namespace Go.Proofs.YtepiiiekcmbpaaaDoor.Gv
open Go.ChangeShapes Go.WideShapes Go.ChangeAt Go.RowKit Go.Joins
set_option maxRecDepth 100000

abbrev laid1 : List (String × DataW Unit) := [("ballast/super.none", Rows.laid_ballast_super_none)]
theorem gNoSb : Tryd.prog.globalNamed "ballast/super.none" = some 0 := by kernel_rfl
theorem tNoSb : (Tryd.prog.globals[0]?).map (·.type) = some 26 := by kernel_rfl
theorem door_met (os : Os) (args : Array Value) : laidMetH Tryd.prog laid1 ((World.doorLaid Tryd.prog 400 os).forCall (fun _ _ => 0) ⟨#[], args, []⟩).memory :=
  laidMetH_of_parts3 (fuel := 8) (laidMet_of_run' 8 (by kernel_rfl) (by kernel_rfl)) (by kernel_rfl) (by kernel_rfl)
theorem of_laid {W : World} (h : laidMetH Tryd.prog laid1 W) : NoSb W := by
  rw [MakeChecks.laidMetH_plain _ _ _ (by kernel_rfl)] at h
  obtain ⟨ps, ⟨g0, t0, cs0, f0, p0, q0, hg0, ht0, hv0, hd0, _, _⟩, _, _⟩ := h
  obtain rfl := Option.some.inj (gNoSb.symm.trans hg0)
  obtain rfl := Option.some.inj (tNoSb.symm.trans ht0)
  obtain ⟨y0, y1, n', hd, hx, u0, u1⟩ := trod_struct2 Tryd.underlying26 hd0
  have e0 : Tryd.prog.cellsOf 3 = 1 := by kernel_rfl
  have e3 : Tryd.prog.cellsOf 26 = 2 := by kernel_rfl
  have k : ∀ i : Nat, W.cell? ⟨0, i, none⟩ = cs0[i]? := fun i => by simpa using World.var?_cell hg0 hv0 i
  rw [e3] at hx
  obtain ⟨l⟩ := cs0
  match l, hx with
  | [c0, c1], _ =>
  simp only [e0, List.drop_zero, List.drop_succ_cons, List.take_succ_cons, List.take_zero] at u0 u1
  obtain ⟨p, q0, z0, _⟩ := DataW.trod_int Tryd.underlying3 u0
  obtain ⟨u, q1, z1, _⟩ := DataW.trod_int Tryd.underlying3 u1
  simp only [List.cons.injEq, and_true] at q0 q1
  subst q0 q1 z0 z1
  simp only [Rows.laid_ballast_super_none, Prod.mk.injEq, DataW.agg.injEq, List.cons.injEq, DataW.lit.injEq, Lit.int.injEq, and_true, true_and] at hd
  obtain ⟨⟨rfl, rfl⟩, _⟩ := hd
  exact ⟨k 0, k 1⟩
end Go.Proofs.YtepiiiekcmbpaaaDoor.Gv
