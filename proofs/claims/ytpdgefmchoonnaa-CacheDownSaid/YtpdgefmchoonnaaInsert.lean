/-
  slices.Insert of one dirty word into a list of the call's own: what stood before the place, the word, what stood from the place on.
-/
import Derived.Test.YtpdgefmchoonnaaBut
import Derived.Test.YtpdgefmchoonnaaDev
import Derived.Lib.AppendZerosOnto
import Derived.Lib.Overlaps
import Derived.Shelf.Spec.SlicesInsert
import Derived.Laws.NewBlocks
namespace Go.Proofs.Ytpdgefmchoonnaa.In
open Go.RowKit Go.Proofs.Ytpdgefmchoonnaa.Sl Go.Proofs.Ytpdgefmchoonnaa.St Go.Proofs.Ytpdgefmchoonnaa.Ir Go.Proofs.Ytpdgefmchoonnaa.Dv
set_option maxRecDepth 100000
set_option maxHeartbeats 4000000

theorem splice_app (A R Y : List Value) : splice (A ++ R) A.length Y = A ++ (Y ++ R.drop Y.length) := by
  unfold splice
  rw [List.take_left' rfl, List.drop_append, List.drop_of_length_le (Nat.le_add_right _ _), Nat.add_sub_cancel_left, List.nil_append]
/-- Two copies into a new row. -/
theorem splice_new (R A Y C : List Value) (h : R.take A.length = A) : (splice (splice R A.length Y) (A.length + Y.length) C).take (A.length + (Y.length + C.length)) = A ++ (Y ++ C) := by
  have e : R = A ++ R.drop A.length := by
    conv => lhs; rw [← List.take_append_drop A.length R, h]
  generalize R.drop A.length = R' at e
  subst e
  have e2 := splice_app (A ++ Y) (R'.drop Y.length) C
  rw [List.length_append, List.append_assoc, List.append_assoc] at e2
  rw [splice_app, e2, ← List.append_assoc Y, ← List.append_assoc A, List.take_left' (by simp [List.length_append])]
/-- Two copies within a row. -/
theorem splice_in (R A Y C : List Value) (h : R.take (A.length + C.length) = A ++ C) (hl : A.length + (Y.length + C.length) ≤ R.length) :
    (splice (splice R (A.length + Y.length) C) A.length Y).take (A.length + (Y.length + C.length)) = A ++ (Y ++ C) := by
  have hA : R.take A.length = A := by
    have h1 : (R.take (A.length + C.length)).take A.length = A := by rw [h, List.take_left' rfl]
    rwa [List.take_take, Nat.min_eq_left (Nat.le_add_right _ _)] at h1
  have e : splice R (A.length + Y.length) C = A ++ ((R.take (A.length + Y.length)).drop A.length ++ (C ++ R.drop (A.length + Y.length + C.length))) := by
    unfold splice
    have h2 : R.take (A.length + Y.length) = A ++ (R.take (A.length + Y.length)).drop A.length := by
      conv => lhs; rw [← List.take_append_drop A.length (R.take (A.length + Y.length)), List.take_take, Nat.min_eq_left (Nat.le_add_right _ _), hA]
    conv => lhs; rw [h2, List.append_assoc]
  have l1 : ((R.take (A.length + Y.length)).drop A.length).length = Y.length := by
    rw [List.length_drop, List.length_take]
    omega
  rw [e, splice_app, List.drop_left' l1, ← List.append_assoc Y, ← List.append_assoc A, List.take_left' (by simp [List.length_append])]

/-- copy(d, s), elements of whatever size: d in a row that is known whole. -/
theorem run_copyR {P : Program} (w : World) (dT sT ty elem : TypeId) (sz g o dLen dCap : Nat) (a : Addr) (sLen sCap : Nat) (cur : Array Value) (t : TypeId) (cs : List Value)
    (hu : P.underlying dT = some (.slice elem)) (hs : (P.info? elem).map (·.size) = some sz) (hg : w.heap[g]? = some (.cells cur t (0, 0))) (hn : cs.length = Nat.min sLen dLen * sz)
    (hsrc : ∀ j v, cs[j]? = some v → w.cell? (a.add j) = some v) (hfit : o + cs.length ≤ cur.size) (h1 : ∀ v ∈ cs, v.oneCell' = true) :
    (Builtin.copy_ #[dT, sT] ty #[.slice (some ⟨g, o, none⟩) dLen dCap, .slice (some a) sLen sCap]).run P w = .ok (goInt (Nat.min sLen dLen)) (w.setRow g (splice cur.toList o cs).toArray) := by
  have hl := run_loadCells_list (P := P) w a cs hsrc
  have hst := run_storeCells_at P g o t cs 0 cur w hg (by simpa using hfit) h1
  cases hq : P.info? elem with
  | none => simp [hq] at hs
  | some i =>
    have hi : i.size = sz := by simpa [hq] using hs
    simp only [Nat.add_zero] at hst
    simp [Builtin.copy_, run_underlying hu, Builtin.lenOf, Builtin.firstCells, sizeOf, typeInfo, hq, hi, ← hn, hl, hst, splice]

/-- The same as laws for the walk: the world behind it is one in which the row alone has turned. -/
theorem but_setRow (w : World) (g : Nat) (cs : Array Value) : w.grownBy (w.setRow g cs) (some g) :=
  ⟨rfl, rfl, rfl, by simp [World.setRow], fun k _ hne => setRow_other w g k cs (fun he => hne (by rw [he]))⟩
theorem wpList_copyR {P : Program} {w : World} {ops : Array Oper} {rest : List Oper} {o : Oper} {a : Act} {Q : Exit → Act → World → Prop} (hgd : o.guard = none) (d s : Operand) (T : TypeId)
    (ho : o.op = .call { callee := .builtin .copy, args := #[d, s], argTypes := #[T, T] }) (elem : TypeId) (sz : Nat) (hu : P.underlying T = some (.slice elem)) (hsz : (P.info? elem).map (·.size) = some sz)
    (g off dLen dCap : Nat) (ad : Addr) (sLen sCap : Nat) (hd : a.eval d = .slice (some ⟨g, off, none⟩) dLen dCap) (hs : a.eval s = .slice (some ad) sLen sCap)
    (cur : Array Value) (t : TypeId) (hg : w.heap[g]? = some (.cells cur t (0, 0))) (cs : List Value) (k : Nat) (hk : Nat.min sLen dLen = k) (hn : cs.length = k * sz)
    (hsrc : ∀ j v, cs[j]? = some v → w.cell? (ad.add j) = some v) (hfit : off + cs.length ≤ cur.size) (h1 : ∀ v ∈ cs, v.oneCell' = true)
    (h : ∀ w', Hid (w'.heap[g]? = some (.cells (splice cur.toList off cs).toArray t (0, 0))) → w.grownBy w' (some g) → wpList P ops Q rest (a.put o.dst (goInt k)) w') : wpList P ops Q (o :: rest) a w := by
  subst hk
  refine Go.Proofs.wpList_copy_runI w hgd d s T T ho _ _ hd hs (run_copyR w T T o.type elem sz g off dLen dCap ad sLen sCap cur t cs hu hsz hg hn hsrc hfit h1) ?_
  exact h _ (Lib.hid (setRow_heap w g _ _ t _ hg)) (but_setRow w g _)
theorem step_copyR {P : Program} {ops : Array Oper} {o : Oper} {a : Act} {w : World} {K : Act → World → Prop} {Q : Exit → Act → World → Prop} {E : Prop} (hgd : o.guard = none) (d s : Operand) (T : TypeId)
    (ho : o.op = Op.call { callee := Callee.builtin Builtin.copy, args := #[d, s], argTypes := #[T, T] }) (elem : TypeId) (sz : Nat) (hu : P.underlying T = some (.slice elem)) (hsz : (P.info? elem).map (·.size) = some sz)
    (g off dLen dCap : Nat) (ad : Addr) (sLen sCap : Nat) (hd : a.eval d = .slice (some ⟨g, off, none⟩) dLen dCap) (hs : a.eval s = .slice (some ad) sLen sCap)
    (cur : Array Value) (t : TypeId) (hg : w.heap[g]? = some (.cells cur t (0, 0))) (cs : List Value) (k : Nat) (hk : Nat.min sLen dLen = k) (hn : cs.length = k * sz)
    (hsrc : ∀ j v, cs[j]? = some v → w.cell? (ad.add j) = some v) (hfit : off + cs.length ≤ cur.size) (h1 : ∀ v ∈ cs, v.oneCell' = true)
    (h : ∀ w', Hid (w'.heap[g]? = some (.cells (splice cur.toList off cs).toArray t (0, 0))) → w.grownBy w' (some g) → K (a.put o.dst (goInt k)) w') :
    if Region.wanted o (yielded ops a.tmps) = true then Oper.wp P o a w K Q else E := by
  subst hk
  refine Go.Proofs.step_copy_runI hgd d s T T ho _ _ hd hs (run_copyR w T T o.type elem sz g off dLen dCap ad sLen sCap cur t cs hu hsz hg hn hsrc hfit h1) ?_
  exact h _ (Lib.hid (setRow_heap w g _ _ t _ hg)) (but_setRow w g _)

theorem size_dirty : (Try.prog.info? 44).map (·.size) = some dw.sz := by kernel_rfl
theorem run_fromD (g off n c A : Nat) (L : Int) (hL : L = A) (h : A < c) (h2 : A ≤ n) (w : World) :
    (Instr.slice 23 (.slice (some ⟨g, off, .none⟩) n c) (some (.int .i64 L)) .none .none).run Try.prog w = .ok (.slice (some ⟨g, off + A * 3, .none⟩) (n - A) (c - A)) w := by
  subst hL
  have h3 : ¬ c = A := by omega
  go_simp
  all_goals rw [if_pos (by omega)]
theorem run_endD (g off n c : Nat) (hc : n ≤ c) : ∃ r : Value, ∀ w : World, (Instr.slice 23 (.slice (some ⟨g, off, .none⟩) n c) (some (.int .i64 (n : Int))) .none .none).run Try.prog w = .ok r w := by
  by_cases h : n < c
  · exact ⟨_, fun w => run_fromD g off n c n n rfl h (Nat.le_refl _) w⟩
  · obtain rfl : n = c := by omega
    refine ⟨.slice (some ⟨g, off, .none⟩) 0 0, fun w => ?_⟩
    go_simp
theorem run_uptoD (b off n c K : Nat) (H : Int) (hH : H = K) (h : K ≤ c) (w : World) :
    (Instr.slice 23 (.slice (some ⟨b, off, .none⟩) n c) .none (some (.int .i64 H)) .none).run Try.prog w = .ok (.slice (some ⟨b, off, .none⟩) K c) w := by
  subst hH
  have hk : ¬ c < K := by omega
  go_simp
  all_goals (intro h1; exact absurd h1 hk)
theorem run_noneD (w : World) : (Instr.slice 23 (.slice .none 0 0) (some (.int .i64 0)) .none .none).run Try.prog w = .ok (.slice .none 0 0) w := by
  go_simp
end Go.Proofs.Ytpdgefmchoonnaa.In
