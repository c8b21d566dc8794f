/-
  Contracts of the reference of package cache, continued: storing.
-/
import Derived.Test.YtpdgefmchoonnaaCrefb
import Derived.Test.YtpdgefmchoonnaaRecb
namespace Go.Proofs.Ytpdgefmchoonnaa.Cr
open Go.RowKit Go.Proofs.Ytpdgefmchoonnaa.Sl Go.Proofs.Ytpdgefmchoonnaa.St Go.Proofs.Ytpdgefmchoonnaa.Ir Go.Proofs.Ytpdgefmchoonnaa.Dv
set_option maxRecDepth 100000
set_option maxHeartbeats 4000000

/-- A device variable behind w3, with a list of dirty words that the call makes. -/
structure Ring (w3 wr : World) (y0 : Value) (L : Int) (Q : Bool) (zs : List Dw) (av : Option Addr) (cv : Nat) : Prop where
  below : Below w3.heap.size w3 wr
  box : Box wr w3.heap.size #[y0, .slice av zs.length cv, .int .i64 L, .bool Q] 25
  own : wr.ownsRow (w3.heap.size + 1) 44 dw.sz (.slice av zs.length cv) zs.length (zs.flatMap dw.cells)
theorem Ring.push {w3 w1 w5 : World} {y0 : Value} {L : Int} {Q : Bool} {zs : List Dw} {vv : Value} {g cap : Nat} {X : Dw} (hB : Below w3.heap.size w3 w1) (h5 : Below (w3.heap.size + 1) w1 w5)
    (hT : Box w5 w3.heap.size #[y0, vv, .int .i64 L, .bool Q] 25) (hO : OwnsL dw 44 (w3.heap.size + 1) w5 g cap (zs ++ [X])) :
    Ring w3 (w5.setCell ⟨w3.heap.size, 1, none⟩ (.slice (some ⟨g, 0, none⟩) (zs.length + 1) cap)) y0 L Q (zs ++ [X]) (some ⟨g, 0, none⟩) cap := by
  have hL : (zs ++ [X]).length = zs.length + 1 := by simp
  have e1 := hT.set 1 (.slice (some ⟨g, 0, none⟩) (zs.length + 1) cap)
  unfold OwnsL at hO
  have e2 := ownsRow_setCell_below hO (a := ⟨w3.heap.size, 1, none⟩) (Nat.lt_succ_self _) (.slice (some ⟨g, 0, none⟩) (zs.length + 1) cap)
  refine ⟨(hB.trans (h5.mono (Nat.le_succ _))).setCell (Nat.le_refl _) _, ?_, ?_⟩
  · rw [hL]
    exact e1
  · rw [hL] at e2 ⊢
    exact e2
theorem Ring.apart {w3 wr : World} {y0 : Value} {L : Int} {Q : Bool} {zs : List Dw} {av : Option Addr} {cv : Nat} (h : Ring w3 wr y0 L Q zs av cv) : (Value.slice av zs.length cv).ownBlock ≠ some w3.heap.size := fun hv => by
  have := (h.own.lt _ hv).1
  omega
end Go.Proofs.Ytpdgefmchoonnaa.Cr
