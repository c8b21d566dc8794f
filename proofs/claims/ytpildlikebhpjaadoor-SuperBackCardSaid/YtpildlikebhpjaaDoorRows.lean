/-
  NARROWER THAN 'FOR EVERY INPUT', by the rows' own cells (each row's printed sentence says how): SuperNames: laid · SuperTells: laid · SuperBack: laid · SuperOnce: laid · SuperByte: laid · SuperSum: laid.
  DERIVED. THE GIVEN ROWS OF THIS SEAT. 6 by the template 'for every input the law returns true; each argument reads behind the call as it read before'; 0 by the template 'total and deterministic' (their statements: YtpildlikebhpjaaDoorTotals.lean).
  GIVEN WITH THE SEED: the statements are not yours to turn. If you find one false, say at which input.
  Laid BY PROGRAM, IN A SANDBOX (cutbox-rows.mjs): the forced cells as the released guide's own fill.sh prints them over the translation 5e28603216a97394… (all of the seat's roots in one cut). By AI agents, Wed Nov 11 2026. No macro, syntax, notation, axiom, sorry.
-/
import Derived.Test.YtpildlikebhpjaaDoorChecked
import GoSem.Claim
import GoSem.ClaimJoined
import GoSem.ClaimMapViews
import Derived.JoinedTies
import Derived.KernelRfl
namespace Go.Proofs.YtpildlikebhpjaaDoor
/- THE CELL 'sum', in the pinned program and in every row, IS THE sha256 OF THE DUMP (.gsa) THAT YtpildlikebhpjaaDoorProg.lean LOADS. Nothing in Lean hashes anything: it is a label: what it is worth is what the hold of that sum in a sandbox is worth. -/
noncomputable def Tryd.pinned : Pinned := { name := "ytpildlikebhpjaadoor", sum := "5e28603216a9739445bf7112cd8cd707aaf1cee1ce9050457393a21cbec06485", checked := Tryd.checked }
namespace Rows
def none {H : Type} : Left H := { results := [], args := [] }

/- WHAT THE LISTED PACKAGE-LEVEL VARIABLES READ AS WHEN THE CALL BEGINS. Each datum BY PROGRAM (the guide's laid-datum.mjs) off the statement by which the dump's own 'gosem.cut.vars' lays the variable. In a bare row this is a premise. The card (YtpildlikebhpjaaDoorCards.lean) ties it to the program's text. -/
def laid_ballast_super_none {H : Type} : DataW H := .agg [.lit (.int .i64 0), .lit (.int .i64 0)]

/-- 'ballastlaw06.SuperNames': WHATEVER THE INPUT: true; the input reads as it did. -/
def superNamesSpec : ChangeSpec := { name := "superNames", fn := fun _ => fun
  | [] => { results := [.lit (.bool true)], args := [] }
  | _ => none }
def superNamesRow : OpenClaim := { program := "ytpildlikebhpjaadoor", sum := "5e28603216a9739445bf7112cd8cd707aaf1cee1ce9050457393a21cbec06485", func := "ballast/ballastlaw06.SuperNames", spec := "superNames", named := ["ballast/super.none"], apart := false, laid := [("ballast/super.none", laid_ballast_super_none)] }
def SuperNamesSaid : Prop := superNamesRow.holds Tryd.pinned (OpenSpec.ofChange superNamesSpec)

/-- ITS FALSE NEIGHBOUR: 'it returns false'. Refute it at one input. -/
def superNamesWrong : ChangeSpec := { name := "superNames", fn := fun _ => fun
  | [] => { results := [.lit (.bool false)], args := [] }
  | _ => none }
def SuperNamesWrongFalsely : Prop := superNamesRow.holds Tryd.pinned (OpenSpec.ofChange superNamesWrong)

/-- 'ballastlaw06.SuperTells': WHATEVER THE INPUT: true; the input reads as it did. -/
def superTellsSpec : ChangeSpec := { name := "superTells", fn := fun _ => fun
  | [d1, d2] => { results := [.lit (.bool true)], args := [d1, d2] }
  | _ => none }
def superTellsRow : OpenClaim := { program := "ytpildlikebhpjaadoor", sum := "5e28603216a9739445bf7112cd8cd707aaf1cee1ce9050457393a21cbec06485", func := "ballast/ballastlaw06.SuperTells", spec := "superTells", named := ["ballast/super.none"], apart := false, laid := [("ballast/super.none", laid_ballast_super_none)] }
def SuperTellsSaid : Prop := superTellsRow.holds Tryd.pinned (OpenSpec.ofChange superTellsSpec)

/-- ITS FALSE NEIGHBOUR: 'it returns false'. Refute it at one input. -/
def superTellsWrong : ChangeSpec := { name := "superTells", fn := fun _ => fun
  | [d1, d2] => { results := [.lit (.bool false)], args := [d1, d2] }
  | _ => none }
def SuperTellsWrongFalsely : Prop := superTellsRow.holds Tryd.pinned (OpenSpec.ofChange superTellsWrong)

/-- 'ballastlaw06.SuperBack': WHATEVER THE INPUT: true; the input reads as it did. -/
def superBackSpec : ChangeSpec := { name := "superBack", fn := fun _ => fun
  | [d1, d2] => { results := [.lit (.bool true)], args := [d1, d2] }
  | _ => none }
def superBackRow : OpenClaim := { program := "ytpildlikebhpjaadoor", sum := "5e28603216a9739445bf7112cd8cd707aaf1cee1ce9050457393a21cbec06485", func := "ballast/ballastlaw06.SuperBack", spec := "superBack", named := ["ballast/super.none"], apart := false, laid := [("ballast/super.none", laid_ballast_super_none)] }
def SuperBackSaid : Prop := superBackRow.holds Tryd.pinned (OpenSpec.ofChange superBackSpec)

/-- ITS FALSE NEIGHBOUR: 'it returns false'. Refute it at one input. -/
def superBackWrong : ChangeSpec := { name := "superBack", fn := fun _ => fun
  | [d1, d2] => { results := [.lit (.bool false)], args := [d1, d2] }
  | _ => none }
def SuperBackWrongFalsely : Prop := superBackRow.holds Tryd.pinned (OpenSpec.ofChange superBackWrong)

/-- 'ballastlaw06.SuperOnce': WHATEVER THE INPUT: true; the input reads as it did. -/
def superOnceSpec : ChangeSpec := { name := "superOnce", fn := fun _ => fun
  | [d] => { results := [.lit (.bool true)], args := [d] }
  | _ => none }
def superOnceRow : OpenClaim := { program := "ytpildlikebhpjaadoor", sum := "5e28603216a9739445bf7112cd8cd707aaf1cee1ce9050457393a21cbec06485", func := "ballast/ballastlaw06.SuperOnce", spec := "superOnce", named := ["ballast/super.none"], apart := false, laid := [("ballast/super.none", laid_ballast_super_none)] }
def SuperOnceSaid : Prop := superOnceRow.holds Tryd.pinned (OpenSpec.ofChange superOnceSpec)

/-- ITS FALSE NEIGHBOUR: 'it returns false'. Refute it at one input. -/
def superOnceWrong : ChangeSpec := { name := "superOnce", fn := fun _ => fun
  | [d] => { results := [.lit (.bool false)], args := [d] }
  | _ => none }
def SuperOnceWrongFalsely : Prop := superOnceRow.holds Tryd.pinned (OpenSpec.ofChange superOnceWrong)

/-- 'ballastlaw06.SuperByte': WHATEVER THE INPUT: true; the input reads as it did. -/
def superByteSpec : ChangeSpec := { name := "superByte", fn := fun _ => fun
  | [d1, d2, d3, d4] => { results := [.lit (.bool true)], args := [d1, d2, d3, d4] }
  | _ => none }
def superByteRow : OpenClaim := { program := "ytpildlikebhpjaadoor", sum := "5e28603216a9739445bf7112cd8cd707aaf1cee1ce9050457393a21cbec06485", func := "ballast/ballastlaw06.SuperByte", spec := "superByte", named := ["ballast/super.none"], apart := false, laid := [("ballast/super.none", laid_ballast_super_none)] }
def SuperByteSaid : Prop := superByteRow.holds Tryd.pinned (OpenSpec.ofChange superByteSpec)

/-- ITS FALSE NEIGHBOUR: 'it returns false'. Refute it at one input. -/
def superByteWrong : ChangeSpec := { name := "superByte", fn := fun _ => fun
  | [d1, d2, d3, d4] => { results := [.lit (.bool false)], args := [d1, d2, d3, d4] }
  | _ => none }
def SuperByteWrongFalsely : Prop := superByteRow.holds Tryd.pinned (OpenSpec.ofChange superByteWrong)

/-- 'ballastlaw06.SuperSum': WHATEVER THE INPUT: true; the input reads as it did. -/
def superSumSpec : ChangeSpec := { name := "superSum", fn := fun _ => fun
  | [d] => { results := [.lit (.bool true)], args := [d] }
  | _ => none }
def superSumRow : OpenClaim := { program := "ytpildlikebhpjaadoor", sum := "5e28603216a9739445bf7112cd8cd707aaf1cee1ce9050457393a21cbec06485", func := "ballast/ballastlaw06.SuperSum", spec := "superSum", named := ["ballast/super.none"], apart := false, laid := [("ballast/super.none", laid_ballast_super_none)] }
def SuperSumSaid : Prop := superSumRow.holds Tryd.pinned (OpenSpec.ofChange superSumSpec)

/-- ITS FALSE NEIGHBOUR: 'it returns false'. Refute it at one input. -/
def superSumWrong : ChangeSpec := { name := "superSum", fn := fun _ => fun
  | [d] => { results := [.lit (.bool false)], args := [d] }
  | _ => none }
def SuperSumWrongFalsely : Prop := superSumRow.holds Tryd.pinned (OpenSpec.ofChange superSumWrong)

/- THE SECOND FORM. 'bulk': how many values and letters a reading holds, each counted each time it is reached (what is shared counts as often as it is met; a slice's spare places count too). A statement '..UptoSaid' is the law's where the arguments, and the package variables that the reading takes, are together of bulk at most 1048576: NARROWER than '..Said'. Prove '..Said' where nothing that the law and all that it calls make is longer than what came in: it says more and counts as full. Else prove '..UptoSaid'. A law counts once. -/
mutual
def uptoBulk {H : Type} : DataW H → Nat
  | .lit (.string bytes) => bytes.length + 1
  | .lit _ => 1
  | .nil => 1
  | .ptr d => uptoBulk d + 1
  | .slice elems spare => uptoBulkAll elems + uptoBulkAll spare + 1
  | .agg parts => uptoBulkAll parts + 1
  | .iface _ d => uptoBulk d + 1
  | .map entries => uptoBulkEntries entries + 1
  | .held _ => 1
def uptoBulkAll {H : Type} : List (DataW H) → Nat
  | [] => 0
  | d :: r => uptoBulk d + uptoBulkAll r
def uptoBulkEntries {H : Type} : List (Lit × DataW H) → Nat
  | [] => 0
  | x :: r => uptoBulkEntry x + uptoBulkEntries r
def uptoBulkEntry {H : Type} : Lit × DataW H → Nat
  | (.string bytes, d) => bytes.length + uptoBulk d + 1
  | (_, d) => uptoBulk d + 1
 end
def uptoSmall : (H : Type) → List (DataW H) → Bool := fun _ ds => decide (uptoBulkAll ds ≤ 1048576)
def OpenSpec.upto (s : _root_.Go.ChangeSpec) : _root_.Go.OpenSpec := { _root_.Go.OpenSpec.ofChange s with cond := some uptoSmall }

/-- 'ballastlaw06.SuperNames', WHERE WHAT IT READS IS OF BULK AT MOST 1048576: true; the input reads as it did. -/
def superNamesUptoRow : OpenClaim := { program := "ytpildlikebhpjaadoor", sum := "5e28603216a9739445bf7112cd8cd707aaf1cee1ce9050457393a21cbec06485", func := "ballast/ballastlaw06.SuperNames", spec := "superNames", named := ["ballast/super.none"], apart := false, laid := [("ballast/super.none", laid_ballast_super_none)], narrowed := true }
def SuperNamesUptoSaid : Prop := superNamesUptoRow.holds Tryd.pinned (OpenSpec.upto superNamesSpec)

/-- 'ballastlaw06.SuperTells', WHERE WHAT IT READS IS OF BULK AT MOST 1048576: true; the input reads as it did. -/
def superTellsUptoRow : OpenClaim := { program := "ytpildlikebhpjaadoor", sum := "5e28603216a9739445bf7112cd8cd707aaf1cee1ce9050457393a21cbec06485", func := "ballast/ballastlaw06.SuperTells", spec := "superTells", named := ["ballast/super.none"], apart := false, laid := [("ballast/super.none", laid_ballast_super_none)], narrowed := true }
def SuperTellsUptoSaid : Prop := superTellsUptoRow.holds Tryd.pinned (OpenSpec.upto superTellsSpec)

/-- 'ballastlaw06.SuperBack', WHERE WHAT IT READS IS OF BULK AT MOST 1048576: true; the input reads as it did. -/
def superBackUptoRow : OpenClaim := { program := "ytpildlikebhpjaadoor", sum := "5e28603216a9739445bf7112cd8cd707aaf1cee1ce9050457393a21cbec06485", func := "ballast/ballastlaw06.SuperBack", spec := "superBack", named := ["ballast/super.none"], apart := false, laid := [("ballast/super.none", laid_ballast_super_none)], narrowed := true }
def SuperBackUptoSaid : Prop := superBackUptoRow.holds Tryd.pinned (OpenSpec.upto superBackSpec)

/-- 'ballastlaw06.SuperOnce', WHERE WHAT IT READS IS OF BULK AT MOST 1048576: true; the input reads as it did. -/
def superOnceUptoRow : OpenClaim := { program := "ytpildlikebhpjaadoor", sum := "5e28603216a9739445bf7112cd8cd707aaf1cee1ce9050457393a21cbec06485", func := "ballast/ballastlaw06.SuperOnce", spec := "superOnce", named := ["ballast/super.none"], apart := false, laid := [("ballast/super.none", laid_ballast_super_none)], narrowed := true }
def SuperOnceUptoSaid : Prop := superOnceUptoRow.holds Tryd.pinned (OpenSpec.upto superOnceSpec)

/-- 'ballastlaw06.SuperByte', WHERE WHAT IT READS IS OF BULK AT MOST 1048576: true; the input reads as it did. -/
def superByteUptoRow : OpenClaim := { program := "ytpildlikebhpjaadoor", sum := "5e28603216a9739445bf7112cd8cd707aaf1cee1ce9050457393a21cbec06485", func := "ballast/ballastlaw06.SuperByte", spec := "superByte", named := ["ballast/super.none"], apart := false, laid := [("ballast/super.none", laid_ballast_super_none)], narrowed := true }
def SuperByteUptoSaid : Prop := superByteUptoRow.holds Tryd.pinned (OpenSpec.upto superByteSpec)

/-- 'ballastlaw06.SuperSum', WHERE WHAT IT READS IS OF BULK AT MOST 1048576: true; the input reads as it did. -/
def superSumUptoRow : OpenClaim := { program := "ytpildlikebhpjaadoor", sum := "5e28603216a9739445bf7112cd8cd707aaf1cee1ce9050457393a21cbec06485", func := "ballast/ballastlaw06.SuperSum", spec := "superSum", named := ["ballast/super.none"], apart := false, laid := [("ballast/super.none", laid_ballast_super_none)], narrowed := true }
def SuperSumUptoSaid : Prop := superSumUptoRow.holds Tryd.pinned (OpenSpec.upto superSumSpec)

end Rows
end Go.Proofs.YtpildlikebhpjaaDoor
