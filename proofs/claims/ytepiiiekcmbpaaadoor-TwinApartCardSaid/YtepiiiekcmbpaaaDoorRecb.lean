/-
  append of one record to a list of the call's own, while a variable's block lies beside it: at a step of a region that draws its order, and in a plain one. No function of the program.
-/
import Derived.Test.YtepiiiekcmbpaaaDoorRec
import Derived.Deep.AppendLies
import Derived.Deep.RegionLaw
import Derived.Lib.Hide
namespace Go.Proofs.YtepiiiekcmbpaaaDoor.Sl
open Go.RowKit Go.WideShapes Go.ChangeShapes Go.Proofs.YtepiiiekcmbpaaaDoor.St

variable {α : Type}

theorem Box.grown {w w' : World} {B : Nat} {cs : Array Value} {e : TypeId} {row : Option Nat} (h : Box w B cs e) (hg : w.grownBy w' row) (hne : row ≠ some B) : Box w' B cs e := (hg.block B h.lt (fun he => hne he.symm)).trans h
/-- A list of the call's own, written out. -/
def OwnsL (R : Rec α) (e N : Nat) (w : World) (g cap : Nat) (zs : List α) : Prop := w.ownsRow N e R.sz (.slice (some ⟨g, 0, none⟩) zs.length cap) zs.length (zs.flatMap R.cells)
/-- What the walk wants to know of a block of four cells. -/
def Open4 (w : World) (B : Nat) (y0 y1 y2 y3 : Value) : Prop :=
  (w.cell? ⟨B, 0, none⟩ = some y0 ∧ w.cell? ⟨B, 1, none⟩ = some y1 ∧ w.cell? ⟨B, 2, none⟩ = some y2 ∧ w.cell? ⟨B, 3, none⟩ = some y3) ∧
    (w.frozen? ⟨B, 0, none⟩ = false ∧ w.frozen? ⟨B, 1, none⟩ = false ∧ w.frozen? ⟨B, 2, none⟩ = false ∧ w.frozen? ⟨B, 3, none⟩ = false)

/-- Lists of elements of two types do not lie in one block. -/
theorem owns_apart {w : World} {b1 b2 e1 e2 s1 s2 n1 n2 : Nat} {v1 v2 : Value} {x1 x2 : List Value} {g : Nat} (h1 : w.ownsRow b1 e1 s1 v1 n1 x1) (h2 : w.ownsRow b2 e2 s2 v2 n2 x2) (he : e1 ≠ e2) (hg : v2.ownBlock = some g) : v1.ownBlock ≠ some g := by
  intro hg1
  rcases h1.2 with ⟨rfl, _⟩ | ⟨g1, _, cur1, rfl, _, hh1, _⟩
  · simp [Value.ownBlock] at hg1
  · rcases h2.2 with ⟨rfl, _⟩ | ⟨g2, _, cur2, rfl, _, hh2, _⟩
    · simp [Value.ownBlock] at hg
    · simp only [Value.ownBlock, Option.some.injEq] at hg hg1
      subst hg hg1
      rw [hh1] at hh2
      simp only [Option.some.injEq, Obj.cells.injEq] at hh2
      exact he hh2.2.1
/-- A store into a record of the call's own list, wherever it was made. -/
theorem owns_stored {R : Rec α} {w : World} {base e g n cap : Nat} {zs : List α} (h : w.ownsRow base e R.sz (.slice (some ⟨g, 0, none⟩) n cap) n (zs.flatMap R.cells)) (i j : Nat) (hi : i < zs.length) (hj : j < R.sz) (u : Value) (y : α)
    (hy : R.cells y = (R.cells zs[i]).set j u) : (w.setCell ⟨g, i * R.sz + j, none⟩ u).ownsRow base e R.sz (.slice (some ⟨g, 0, none⟩) n cap) n ((zs.set i y).flatMap R.cells) := by
  have h1 := (h.stored (i * R.sz + j) u).1
  rwa [R.flat_set zs i j hi u y hj hy] at h1
theorem owns_under {B : Nat} {w w' : World} {base e sz n : Nat} {v : Value} {xs : List Value} (h : w.ownsRow base e sz v n xs) (hlt : ∀ g, v.ownBlock = some g → g < B) (hb : Below B w w') : w'.ownsRow base e sz v n xs := by
  refine ⟨h.1, ?_⟩
  rcases h.2 with h0 | ⟨g, cap, cur, hv, hg, hh, r⟩
  · exact .inl h0
  · exact .inr ⟨g, cap, cur, hv, hg, (hb.block g (hlt g (by rw [hv]; rfl))).trans hh, r⟩
theorem Box.under {w w' : World} {B N : Nat} {cs : Array Value} {e : TypeId} (h : Box w B cs e) (hB : B < N) (hb : Below N w w') : Box w' B cs e := (hb.block B hB).trans h
theorem owns_len {w : World} {b e sz n n' : Nat} {v : Value} {xs xs' : List Value} (h : w.ownsRow b e sz v n xs) (hn : n = n') (hx : xs = xs') : w.ownsRow b e sz v n' xs' := by
  subst hn hx
  exact h
theorem owns_at0 {w : World} {base e sz n c m : Nat} {a : Option Addr} {xs : List Value} (h : w.ownsRow base e sz (.slice a n c) m xs) (hn : 0 < n) : ∃ g, a = some ⟨g, 0, none⟩ ∧ base ≤ g ∧ g < w.heap.size := by
  rcases h.2 with ⟨hv, h0⟩ | ⟨g, cap, cur, hv, hg, hh, _⟩
  · injection hv with hv h1 h2
    omega
  · injection hv with hv
    exact ⟨g, hv, hg, (Array.getElem?_eq_some_iff.1 hh).1⟩

theorem wp_appendB {P : Program} {W : World} {o : Oper} {a : Act} {K : Act → World → Prop} {Q : Exit → Act → World → Prop} (s x : Operand) (t : TypeId)
    (ho : o.op = .call { callee := .builtin .append, args := #[s, x], argTypes := #[t, t] }) (R : Rec α) (e : TypeId) (ht : P.underlying t = some (.slice e))
    (z : Value) (bytes : Nat) (hinfo : (P.info? e).map (fun i => (i.zero, i.size, i.bytes)) = some (some z, R.sz, bytes)) (hzc : z.cells.size = R.sz) (hby : bytes ≤ 8 * R.sz)
    (N : Nat) (v : Value) (zs : List α) (hs : a.eval s = v) (hown : W.ownsRow N e R.sz v zs.length (zs.flatMap R.cells)) (hN : N ≤ W.heap.size)
    (y : α) (B : Nat) (cs : Array Value) (hx : a.eval x = .slice (some ⟨B, 0, none⟩) 1 1) (hB : Box W B cs e) (hcs : cs.toList = R.cells y) (hnm : (zs.length + 1) * R.sz ≤ 17592186044416)
    (T : Nat) (y0 y1 y2 y3 : Value) (tb : TypeId) (hT : Box W T #[y0, y1, y2, y3] tb) (hne : v.ownBlock ≠ some T)
    (h : ∀ g cap w', OwnsL R e N w' g cap (zs ++ [y]) → Below N W w' → (v.ownBlock = some g ∨ W.heap.size ≤ g) → Box w' T #[y0, y1, y2, y3] tb → Open4 w' T y0 y1 y2 y3 → T < w'.heap.size →
      K (a.put o.dst (.slice (some ⟨g, 0, none⟩) (zs.length + 1) cap)) w') : o.wp P a W K Q := by
  obtain ⟨i0, hi, hz0, hz1, hz2⟩ := info_parts hinfo
  have h8 : (zs.length + 1) * bytes ≤ 140737488355328 := by
    have h1 : (zs.length + 1) * bytes ≤ (zs.length + 1) * (8 * R.sz) := Nat.mul_le_mul_left _ hby
    have h2 : (zs.length + 1) * (8 * R.sz) = 8 * ((zs.length + 1) * R.sz) := by rw [Nat.mul_left_comm]
    omega
  have h9 : zs.length + 1 ≤ 17592186044416 := Nat.le_trans (Nat.le_mul_of_pos_right _ R.pos) hnm
  refine wp_append_lies _ s x t ho N e i0 z R.sz bytes ht hi hz0 hz1 hz2 hzc R.pos v zs.length _ hs hown ⟨B, 0, none⟩ 1 1 (R.cells y) hx (by rw [R.len]; omega) ?_ (R.one y) (by omega)
    (by unfold maxLen; omega) h8 hN W.heap.size rfl ?_
  · intro j u hj
    rw [add_plain, Nat.zero_add, hB.cell j]
    rw [← hcs] at hj
    simpa using hj
  · intro g cap w' h1 h2 h3 _
    have hb : Below N W w' := ⟨h2.os, h2.tape, h2.output, h2.size, fun k hk => h2.block k (by omega) (fun he => by
      have := (hown.lt k he.symm).1
      omega)⟩
    have hT' := hT.grown h2 hne
    refine h g cap w' ?_ hb (h3.imp id (fun e => by omega)) hT' hT'.open4 hT'.lt
    unfold OwnsL
    rw [List.length_append, List.length_singleton, List.flatMap_append, List.flatMap_singleton]
    exact h1
theorem step_appendB {P : Program} {W : World} {ops : Array Oper} {o : Oper} {a : Act} {K : Act → World → Prop} {Q : Exit → Act → World → Prop} {E : Prop} (hgd : o.guard = none) (s x : Operand) (t : TypeId)
    (ho : o.op = .call { callee := .builtin .append, args := #[s, x], argTypes := #[t, t] }) (R : Rec α) (e : TypeId) (ht : P.underlying t = some (.slice e))
    (z : Value) (bytes : Nat) (hinfo : (P.info? e).map (fun i => (i.zero, i.size, i.bytes)) = some (some z, R.sz, bytes)) (hzc : z.cells.size = R.sz) (hby : bytes ≤ 8 * R.sz)
    (N : Nat) (v : Value) (zs : List α) (hs : a.eval s = v) (hown : W.ownsRow N e R.sz v zs.length (zs.flatMap R.cells)) (hN : N ≤ W.heap.size)
    (y : α) (B : Nat) (cs : Array Value) (hx : a.eval x = .slice (some ⟨B, 0, none⟩) 1 1) (hB : Box W B cs e) (hcs : cs.toList = R.cells y) (hnm : (zs.length + 1) * R.sz ≤ 17592186044416)
    (T : Nat) (y0 y1 y2 y3 : Value) (tb : TypeId) (hT : Box W T #[y0, y1, y2, y3] tb) (hne : v.ownBlock ≠ some T)
    (h : ∀ g cap w', OwnsL R e N w' g cap (zs ++ [y]) → Below N W w' → (v.ownBlock = some g ∨ W.heap.size ≤ g) → Box w' T #[y0, y1, y2, y3] tb → Open4 w' T y0 y1 y2 y3 → T < w'.heap.size →
      K (a.put o.dst (.slice (some ⟨g, 0, none⟩) (zs.length + 1) cap)) w') : if Region.wanted o (yielded ops a.tmps) = true then Oper.wp P o a W K Q else E := by
  have hw : Region.wanted o (yielded ops a.tmps) = true := by simp [Region.wanted, hgd]
  rw [if_pos hw]
  exact wp_appendB s x t ho R e ht z bytes hinfo hzc hby N v zs hs hown hN y B cs hx hB hcs hnm T y0 y1 y2 y3 tb hT hne h
theorem wpList_appendB {P : Program} {W : World} {ops : Array Oper} {rest : List Oper} {o : Oper} {a : Act} {Q : Exit → Act → World → Prop} (hgd : o.guard = none) (s x : Operand) (t : TypeId)
    (ho : o.op = .call { callee := .builtin .append, args := #[s, x], argTypes := #[t, t] }) (R : Rec α) (e : TypeId) (ht : P.underlying t = some (.slice e))
    (z : Value) (bytes : Nat) (hinfo : (P.info? e).map (fun i => (i.zero, i.size, i.bytes)) = some (some z, R.sz, bytes)) (hzc : z.cells.size = R.sz) (hby : bytes ≤ 8 * R.sz)
    (N : Nat) (v : Value) (zs : List α) (hs : a.eval s = v) (hown : W.ownsRow N e R.sz v zs.length (zs.flatMap R.cells)) (hN : N ≤ W.heap.size)
    (y : α) (B : Nat) (cs : Array Value) (hx : a.eval x = .slice (some ⟨B, 0, none⟩) 1 1) (hB : Box W B cs e) (hcs : cs.toList = R.cells y) (hnm : (zs.length + 1) * R.sz ≤ 17592186044416)
    (T : Nat) (y0 y1 y2 y3 : Value) (tb : TypeId) (hT : Box W T #[y0, y1, y2, y3] tb) (hne : v.ownBlock ≠ some T)
    (h : ∀ g cap w', OwnsL R e N w' g cap (zs ++ [y]) → Below N W w' → (v.ownBlock = some g ∨ W.heap.size ≤ g) → Box w' T #[y0, y1, y2, y3] tb → Open4 w' T y0 y1 y2 y3 → T < w'.heap.size →
      wpList P ops Q rest (a.put o.dst (.slice (some ⟨g, 0, none⟩) (zs.length + 1) cap)) w') : wpList P ops Q (o :: rest) a W :=
  wpList_plain hgd fun _ hK => wp_appendB s x t ho R e ht z bytes hinfo hzc hby N v zs hs hown hN y B cs hx hB hcs hnm T y0 y1 y2 y3 tb hT hne fun g cap w' h1 h2 h3 h4 h5 h6 => hK _ _ (h g cap w' h1 h2 h3 h4 h5 h6)
end Go.Proofs.YtepiiiekcmbpaaaDoor.Sl
