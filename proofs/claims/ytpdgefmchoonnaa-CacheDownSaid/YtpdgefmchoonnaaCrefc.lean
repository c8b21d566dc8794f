/-
  Contracts of the reference of package cache, continued: all words, loading, new devices.
-/
import Derived.Test.YtpdgefmchoonnaaCrefb
namespace Go.Proofs.Ytpdgefmchoonnaa.Cr
open Go.RowKit Go.Proofs.Ytpdgefmchoonnaa.Sl Go.Proofs.Ytpdgefmchoonnaa.St Go.Proofs.Ytpdgefmchoonnaa.Ir Go.Proofs.Ytpdgefmchoonnaa.Dv
set_option maxRecDepth 100000
set_option maxHeartbeats 1000000

/-- Load. -/
def loadR (D : Dev) (p : Int) : Int := if asked D p = 0 then (wordsL D.im D.dl).getD p.toNat 0 else 0
/-- View. -/
def viewR (D : Dev) : List Int := if okD D = true then wordsL D.im D.dl else []
/-- A new device. -/
def newD (xs : List Int) : Dev := if Img xs.length then ⟨xs, [], -1, false⟩ else zdev
def newE (xs : List Int) : Int := if Img xs.length then 0 else 8
end Go.Proofs.Ytpdgefmchoonnaa.Cr
