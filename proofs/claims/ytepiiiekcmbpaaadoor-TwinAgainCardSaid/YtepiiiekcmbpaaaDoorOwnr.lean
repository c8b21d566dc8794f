/-
  Append in a region that draws its order.
-/
import Derived.Test.YtepiiiekcmbpaaaDoorOwn
namespace Go.Proofs.YtepiiiekcmbpaaaDoor.Sl
open Go.RowKit Go.Proofs.YtepiiiekcmbpaaaDoor.St
set_option maxRecDepth 100000

theorem oper_append {P : Program} {W : World} {o : Oper} {a : Act} {K : Act → World → Prop} {Q : Exit → Act → World → Prop} (s x : Operand) (t : TypeId)
    (ho : o.op = .call { callee := .builtin .append, args := #[s, x], argTypes := #[t, t] }) (k : IntKind) (e : TypeId) (ht : P.underlying t = some (.slice e))
    (hinfo : (P.info? e).map (fun i => (i.zero, i.size, i.bytes)) = some (some (.int k 0), 1, 8)) (w : World) (v : Value) (zs : List Int) (hs : a.eval s = v) (hown : Grows k e w W v zs)
    (ad : Option Addr) (m c : Nat) (ys : List Int) (hx : a.eval x = .slice ad m c) (vy : Sees W k ad m c ys) (hnm : zs.length + m ≤ 17592186044416)
    (h : ∀ v' w', Grows k e w w' v' (zs ++ ys) → K (a.put o.dst v') w') : o.wp P a W K Q := by
  obtain ⟨i0, hi, hz0, hz1, hz2⟩ := info_parts hinfo
  have hm := vy.len
  subst hm
  cases ad with
  | none =>
    obtain ⟨h0, rfl⟩ := vy.nil rfl
    obtain rfl := List.eq_nil_of_length_eq_zero h0
    have hrun := run_append_owned_none (P := P) (w := W) w.heap.size t o.type e i0 1 ht hi v zs.length _ hown.own
    unfold Oper.wp
    have hx' : a.eval x = .slice .none 0 0 := hx
    simp [execOp, ho, resolve, invoke, builtin, hs, hx', hrun, Result.andThen]
    exact h v W (by rw [List.append_nil]; exact hown)
  | some ad =>
    refine wp_append_own _ s x t ho w.heap.size e i0 (.int k 0) 1 8 ht hi hz0 hz1 hz2 rfl (by decide) v zs.length _ hs hown.own ad ys.length c (ys.map (Value.int k)) hx (by simp) (cells_news vy) (one_cells _ _)
      (by unfold maxLen; omega) (by omega) hown.below.size ?_
    intro v' w' h1 h2 _
    refine h v' w' ⟨?_, ?_⟩
    · rw [List.length_append, List.map_append]
      exact h1
    · exact hown.below.grown h2 hown.below.size (fun g hg => (hown.own.lt g hg).1)
theorem step_append {P : Program} {W : World} {ops : Array Oper} {o : Oper} {a : Act} {K : Act → World → Prop} {Q : Exit → Act → World → Prop} {E : Prop} (hgd : o.guard = none) (s x : Operand) (t : TypeId)
    (ho : o.op = .call { callee := .builtin .append, args := #[s, x], argTypes := #[t, t] }) (k : IntKind) (e : TypeId) (ht : P.underlying t = some (.slice e))
    (hinfo : (P.info? e).map (fun i => (i.zero, i.size, i.bytes)) = some (some (.int k 0), 1, 8)) (w : World) (v : Value) (zs : List Int) (hs : a.eval s = v) (hown : Grows k e w W v zs)
    (ad : Option Addr) (m c : Nat) (ys : List Int) (hx : a.eval x = .slice ad m c) (vy : Sees W k ad m c ys) (hnm : zs.length + m ≤ 17592186044416)
    (h : ∀ v' w', Grows k e w w' v' (zs ++ ys) → K (a.put o.dst v') w') : if Region.wanted o (yielded ops a.tmps) = true then Oper.wp P o a W K Q else E := by
  have hw : Region.wanted o (yielded ops a.tmps) = true := by simp [Region.wanted, hgd]
  rw [if_pos hw]
  exact oper_append s x t ho k e ht hinfo w v zs hs hown ad m c ys hx vy hnm h
end Go.Proofs.YtepiiiekcmbpaaaDoor.Sl
