/-
  Contracts of the reference of package cache, continued: fencing.
-/
import Derived.Test.YtpdgefmchoonnaaCrefb
import Derived.Test.YtpdgefmchoonnaaRecb
import Derived.LoopN
namespace Go.Proofs.Ytpdgefmchoonnaa.Cr
open Go.RowKit Go.Proofs.Ytpdgefmchoonnaa.Sl Go.Proofs.Ytpdgefmchoonnaa.St Go.Proofs.Ytpdgefmchoonnaa.Ir Go.Proofs.Ytpdgefmchoonnaa.Dv
set_option maxRecDepth 100000
set_option maxHeartbeats 4000000

/-- What lies beside each other while a device is fenced. -/
structure Fr (w w3 wr : World) (cs : Array Value) (g N c : Nat) (zs : List Int) (L : Int) (Q : Bool) (ys : List Dw) (av : Option Addr) (cv : Nat) : Prop where
  below : Below w.heap.size w wr
  arg : Box wr w.heap.size cs 25
  res : Box wr (w.heap.size + 1) #[.slice none 0 0, .slice none 0 0, .int .i64 0, .bool false] 25
  var : Box wr w3.heap.size #[.slice (some ⟨g, 0, none⟩) N c, .slice av ys.length cv, .int .i64 L, .bool Q] 25
  im : wr.ownsRow (w.heap.size + 2) 31 1 (.slice (some ⟨g, 0, none⟩) N c) N (zs.map (Value.int .u64))
  dl : wr.ownsRow (w3.heap.size + 1) 44 dw.sz (.slice av ys.length cv) ys.length (ys.flatMap dw.cells)
  lo : w.heap.size + 2 ≤ g
  hi : g < w3.heap.size
theorem Fr.put {w w3 wr : World} {cs : Array Value} {g N c : Nat} {zs : List Int} {L : Int} {Q : Bool} {ys : List Dw} {av : Option Addr} {cv : Nat} (h : Fr w w3 wr cs g N c zs L Q ys av cv) (i : Nat) (x : Int) :
    Fr w w3 (wr.setCell ⟨g, i, none⟩ (.int .u64 x)).drew cs g N c (zs.set i x) L Q ys av cv := by
  have h1 := h.lo
  have h2 := h.hi
  refine ⟨(h.below.setCell (by show _ ≤ g; omega) _).drew, (h.arg.other (a := ⟨g, i, none⟩) (by show _ ≠ g; omega) _).drew, (h.res.other (a := ⟨g, i, none⟩) (by show _ ≠ g; omega) _).drew, (h.var.other (a := ⟨g, i, none⟩) (by show _ ≠ g; omega) _).drew, ?_,
    (ownsRow_setCell_below h.dl (a := ⟨g, i, none⟩) (by show g < _; omega) _).drew, h1, h2⟩
  have h3 := (h.im.stored i (.int .u64 x)).1
  rw [← List.map_set] at h3
  exact h3.drew
theorem Fr.push {w w3 wr w5 : World} {cs : Array Value} {g N c : Nat} {zs : List Int} {L : Int} {Q : Bool} {ys : List Dw} {av : Option Addr} {cv g5 cap : Nat} {X : Dw} {o : Obj} {vv : Value} (h : Fr w w3 wr cs g N c zs L Q ys av cv) (h5 : Below (w3.heap.size + 1) (wr.alloc o).drew w5)
    (hw : w.heap.size + 1 < w3.heap.size) (hT : Box w5 w3.heap.size #[.slice (some ⟨g, 0, none⟩) N c, vv, .int .i64 L, .bool Q] 25) (hO : OwnsL dw 44 (w3.heap.size + 1) w5 g5 cap (ys ++ [X])) :
    Fr w w3 (w5.setCell ⟨w3.heap.size, 1, none⟩ (.slice (some ⟨g5, 0, none⟩) (ys.length + 1) cap)) cs g N c zs L Q (ys ++ [X]) (some ⟨g5, 0, none⟩) cap := by
  have h1 := h.lo
  have h2 := h.hi
  have hL : (ys ++ [X]).length = ys.length + 1 := by simp
  have e1 := hT.set 1 (.slice (some ⟨g5, 0, none⟩) (ys.length + 1) cap)
  unfold OwnsL at hO
  have e2 := ownsRow_setCell_below hO (a := ⟨w3.heap.size, 1, none⟩) (Nat.lt_succ_self _) (.slice (some ⟨g5, 0, none⟩) (ys.length + 1) cap)
  refine ⟨((below_new (o := o) h.below).drew.trans (h5.mono (by omega))).setCell (by show _ ≤ w3.heap.size; omega) _, ?_, ?_, ?_, ?_, ?_, h1, h2⟩
  · exact ((h.arg.alloc o).drew.under (by omega) h5).other (a := ⟨w3.heap.size, 1, none⟩) (by show _ ≠ w3.heap.size; omega) _
  · exact ((h.res.alloc o).drew.under (by omega) h5).other (a := ⟨w3.heap.size, 1, none⟩) (by show _ ≠ w3.heap.size; omega) _
  · rw [hL]
    exact e1
  · refine ownsRow_setCell_other (owns_under (B := w3.heap.size + 1) (h.im.alloc o).drew (fun g' hg' => ?_) h5) (a := ⟨w3.heap.size, 1, none⟩) (fun hg' => ?_) _
    · simp only [Value.ownBlock, Option.some.injEq] at hg'
      omega
    · simp only [Value.ownBlock, Option.some.injEq] at hg'
      omega
  · rw [hL] at e2 ⊢
    exact e2
theorem filter_drop {xs : List Dw} {k : Nat} (hk : k < xs.length) : (xs.drop k).filter (fun x => !x.f) = (if xs[k].f = true then [] else [xs[k]]) ++ (xs.drop (k + 1)).filter (fun x => !x.f) := by
  rw [List.drop_eq_getElem_cons hk, List.filter_cons]
  cases h : xs[k].f <;> simp
end Go.Proofs.Ytpdgefmchoonnaa.Cr
