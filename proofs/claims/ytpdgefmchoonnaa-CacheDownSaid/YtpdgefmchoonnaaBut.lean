/-
  Worlds in which of all blocks that there were one alone may have turned; what stays where it lies elsewhere; append of one record to a list of the call's own. No function of the program.
-/
import Derived.Test.YtpdgefmchoonnaaRecb
namespace Go.Proofs.Ytpdgefmchoonnaa.Sl
open Go.RowKit Go.WideShapes Go.ChangeShapes Go.Proofs.Ytpdgefmchoonnaa.St

variable {α : Type}

theorem but_refl (w : World) (r : Option Nat) : w.grownBy w r := ⟨rfl, rfl, rfl, Nat.le_refl _, fun _ _ _ => rfl⟩
theorem but_alloc {w w' : World} {r : Option Nat} (h : w.grownBy w' r) (o : Obj) : w.grownBy (w'.alloc o) r :=
  ⟨h.os, h.tape, h.output, Nat.le_trans h.size (by simp), fun k hk hne => (Below.heap_alloc w' o k (Nat.lt_of_lt_of_le hk h.size)).trans (h.block k hk hne)⟩
theorem but_set {w w' : World} {r : Option Nat} (h : w.grownBy w' r) {p : Addr} (hp : r = some p.block ∨ w.heap.size ≤ p.block) (u : Value) : w.grownBy (w'.setCell p u) r :=
  ⟨h.os, h.tape, h.output, Nat.le_trans h.size (by simp [World.setCell]), fun k hk hne => (Below.heap_setCell w' p u k (by
    rcases hp with hp | hp
    · intro he
      subst he
      exact hne hp.symm
    · omega)).trans (h.block k hk hne)⟩
theorem but_below {w w' w'' : World} {r : Option Nat} (h : w.grownBy w' r) (hb : Below w'.heap.size w' w'') : w.grownBy w'' r :=
  ⟨hb.os.trans h.os, hb.tape.trans h.tape, hb.output.trans h.output, Nat.le_trans h.size hb.size, fun k hk hne => (hb.block k (Nat.lt_of_lt_of_le hk h.size)).trans (h.block k hk hne)⟩
theorem but_grown {w w' w'' : World} {r s : Option Nat} (h : w.grownBy w' r) (k : w'.grownBy w'' s) (hs : ∀ j, s = some j → r = some j ∨ w.heap.size ≤ j) : w.grownBy w'' r :=
  ⟨k.os.trans h.os, k.tape.trans h.tape, k.output.trans h.output, Nat.le_trans h.size k.size, fun i hi hne => (k.block i (Nat.lt_of_lt_of_le hi h.size) (fun he => by
    rcases hs i he.symm with h1 | h1
    · exact hne h1.symm
    · omega)).trans (h.block i hi hne)⟩
theorem but_drew {w w' : World} {r : Option Nat} (h : w.grownBy w' r) : w.grownBy w'.drew r := ⟨h.os, h.tape, h.output, h.size, h.block⟩
theorem below_but {w w' : World} (h : Below w.heap.size w w') (r : Option Nat) : w.grownBy w' r := ⟨h.os, h.tape, h.output, h.size, fun k hk _ => h.block k hk⟩
/-- The row lies above N: all below N is as it was. -/
theorem but_under {N : Nat} {w w' : World} {r : Option Nat} (h : w.grownBy w' r) (hN : N ≤ w.heap.size) (hr : ∀ j, r = some j → N ≤ j) : Below N w w' :=
  ⟨h.os, h.tape, h.output, h.size, fun k hk => h.block k (by omega) (fun he => by
    have := hr k he.symm
    omega)⟩
theorem SeesR.grown {R : Rec α} {W w' : World} {a : Option Addr} {n c : Nat} {xs : List α} {row : Option Nat} (h : SeesR R W a n c xs) (hg : W.grownBy w' row) (hne : ∀ b off, a = some ⟨b, off, .none⟩ → some b ≠ row) : SeesR R w' a n c xs := by
  refine ⟨h.len, h.le, h.top, h.good, h.nil, ?_⟩
  rcases h.row with h0 | ⟨b, off, ha, hc⟩
  · exact .inl h0
  · refine .inr ⟨b, off, ha, fun j u hj => ?_⟩
    have h1 := hc j u hj
    rw [World.cell?_of_block (hg.block b (World.block_lt_of_cell? W _ h1) (hne b off ha))]
    exact h1
theorem owns_other {w w' : World} {base e sz n : Nat} {v : Value} {xs : List Value} {row : Option Nat} (h : w.ownsRow base e sz v n xs) (hg : w.grownBy w' row) (hne : ∀ j, row = some j → v.ownBlock ≠ some j) : w'.ownsRow base e sz v n xs := by
  refine ⟨h.1, ?_⟩
  rcases h.2 with h0 | ⟨g, cap, cur, hv, hb, hh, r⟩
  · exact .inl h0
  · refine .inr ⟨g, cap, cur, hv, hb, ?_, r⟩
    rw [hg.block g (Array.getElem?_eq_some_iff.1 hh).1 (fun he => hne g he.symm (by rw [hv]; rfl))]
    exact hh

/-- A list does not lie in a block of another type. -/
theorem owns_off {w : World} {b e e' sz n : Nat} {v : Value} {xs : List Value} {B : Nat} {cs : Array Value} (h : w.ownsRow b e sz v n xs) (hB : Box w B cs e') (he : e ≠ e') : v.ownBlock ≠ some B := by
  intro hv
  unfold Box at hB
  rcases h.2 with ⟨rfl, _⟩ | ⟨g, cap, cur, rfl, _, hh, _⟩
  · simp [Value.ownBlock] at hv
  · simp only [Value.ownBlock, Option.some.injEq] at hv
    subst hv
    rw [hh] at hB
    simp only [Option.some.injEq, Obj.cells.injEq] at hB
    exact he hB.2.1
/-- append(out, x): out a list of the call's own wherever it was made, x one record in a block of its own. -/
theorem wpList_appendG {P : Program} {W : World} {ops : Array Oper} {rest : List Oper} {o : Oper} {a : Act} {Q : Exit → Act → World → Prop} (hgd : o.guard = none) (s x : Operand) (t : TypeId)
    (ho : o.op = .call { callee := .builtin .append, args := #[s, x], argTypes := #[t, t] }) (R : Rec α) (e : TypeId) (ht : P.underlying t = some (.slice e))
    (z : Value) (bytes : Nat) (hinfo : (P.info? e).map (fun i => (i.zero, i.size, i.bytes)) = some (some z, R.sz, bytes)) (hzc : z.cells.size = R.sz) (hby : bytes ≤ 8 * R.sz)
    (N : Nat) (v : Value) (zs : List α) (hs : a.eval s = v) (hown : W.ownsRow N e R.sz v zs.length (zs.flatMap R.cells)) (hN : N ≤ W.heap.size)
    (y : α) (B : Nat) (cs : Array Value) (hx : a.eval x = .slice (some ⟨B, 0, none⟩) 1 1) (hB : Box W B cs e) (hcs : cs.toList = R.cells y) (hnm : (zs.length + 1) * R.sz ≤ 17592186044416)
    (h : ∀ g cap w', OwnsL R e N w' g cap (zs ++ [y]) → W.grownBy w' v.ownBlock → (v.ownBlock = some g ∨ W.heap.size ≤ g) →
      wpList P ops Q rest (a.put o.dst (.slice (some ⟨g, 0, none⟩) (zs.length + 1) cap)) w') : wpList P ops Q (o :: rest) a W := by
  obtain ⟨i0, hi, hz0, hz1, hz2⟩ := info_parts hinfo
  have h8 : (zs.length + 1) * bytes ≤ 140737488355328 := by
    have h1 : (zs.length + 1) * bytes ≤ (zs.length + 1) * (8 * R.sz) := Nat.mul_le_mul_left _ hby
    have h2 : (zs.length + 1) * (8 * R.sz) = 8 * ((zs.length + 1) * R.sz) := by rw [Nat.mul_left_comm]
    omega
  have h9 : zs.length + 1 ≤ 17592186044416 := Nat.le_trans (Nat.le_mul_of_pos_right _ R.pos) hnm
  refine wpList_append_lies _ hgd s x t ho N e i0 z R.sz bytes ht hi hz0 hz1 hz2 hzc R.pos v zs.length _ hs hown ⟨B, 0, none⟩ 1 1 (R.cells y) hx (by rw [R.len]; omega) ?_ (R.one y) (by omega)
    (by unfold maxLen; omega) h8 hN W.heap.size rfl ?_
  · intro j u hj
    rw [add_plain, Nat.zero_add, hB.cell j]
    rw [← hcs] at hj
    simpa using hj
  · intro g cap w' h1 h2 h3 _
    refine h g cap w' ?_ h2 (h3.imp id (fun e => by omega))
    unfold OwnsL
    rw [List.length_append, List.length_singleton, List.flatMap_append, List.flatMap_singleton]
    exact h1
end Go.Proofs.Ytpdgefmchoonnaa.Sl
