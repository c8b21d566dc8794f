/-
  Lists of entries: one in a new block, none, and contracts of ballastref07's Same (entries compared).
-/
import Derived.Test.YtepiiiekcmbpaaaDoorEnr
import Derived.Test.YtepiiiekcmbpaaaDoorRecb
import Derived.LoopN
import Derived.Handy
import Derived.IntWalk
import Derived.SizedLaws
namespace Go.Proofs.YtepiiiekcmbpaaaDoor.Dv
open Go.RowKit Go.Proofs.YtepiiiekcmbpaaaDoor.Sl Go.Proofs.YtepiiiekcmbpaaaDoor.St
set_option maxRecDepth 100000

/-- The ending of a call that returns entries and a number. -/
def GivesEnts (w : World) (xs : List En) (r : Int) (e : Ending) (w' : World) : Prop := ∃ a n c, e = .returned (.tuple #[.slice a n c, .int .i64 r]) ∧ SeesR en w' a n c xs ∧ Below w.heap.size w w'
theorem info_entry : (Tryd.prog.info? 57).map (fun i => (i.zero, i.size, i.bytes)) = some (some (.agg #[.int .i64 0, .int .u64 0]), en.sz, 16) := by kernel_rfl
/-- One entry in a new block. -/
theorem sees_entry (W : World) (x : En) (hx : en.good x) : SeesR en (W.alloc (.cells #[.int .i64 x.p, .int .u64 x.v] 57)) (some ⟨W.heap.size, 0, none⟩) 1 1 [x] := by
  refine ⟨rfl, Nat.le_refl _, by decide, by simpa using hx, fun h => by simp at h, .inr ⟨_, _, rfl, fun j u hj => ?_⟩⟩
  have hb := Box.new W #[.int .i64 x.p, .int .u64 x.v] 57
  simp only [List.flatMap_cons, List.flatMap_nil, List.append_nil] at hj
  rw [Nat.zero_add, hb.cell j, ← hj]
  show (#[Value.int .i64 x.p, Value.int .u64 x.v])[j]? = [Value.int .i64 x.p, Value.int .u64 x.v][j]?
  simp
theorem sees_noents (w : World) : SeesR en w none 0 0 [] := ⟨rfl, Nat.le_refl _, by decide, by simp, fun _ => ⟨rfl, rfl⟩, .inl rfl⟩
/-- Comparing entries. -/
theorem eq_entry (a b a' b' : Int) (w : World) : (Op.equalIn 10000 57 (.agg #[.int .i64 a, .int .u64 b]) (.agg #[.int .i64 a', .int .u64 b'])).run Tryd.prog w = .ok (a == a' && b == b') w := by
  have u3 := Tryd.underlying3
  have a3 := Tryd.isAgg3
  have z3 := Tryd.sizeOf3
  have u6 := Tryd.underlying47
  have a6 := Tryd.isAgg47
  have z6 := Tryd.sizeOf47
  have hS : Tryd.prog.underlying 57 = some (.struct (Tryd.prog.fieldsOf 57)) := by kernel_rfl
  have hp : Tryd.prog.stoodInHeld 57 = false := by kernel_rfl
  rw [show (10000 : Nat) = 9999 + 1 from rfl, run_equalIn_agg w 9999 57 _ _ hS hp]
  simp only [Program.fieldsOf, Tryd.underlying57]
  go_simp
  by_cases h1 : a = a' <;> by_cases h2 : b = b' <;> simp [h1, h2]
theorem take_nextE {xs ys : List En} {k : Nat} (h1 : k < xs.length) (h2 : k < ys.length) (ht : xs.take k = ys.take k) (he : xs[k] = ys[k]) : xs.take (k + 1) = ys.take (k + 1) := by
  rw [List.take_succ_eq_append_getElem h1, List.take_succ_eq_append_getElem h2, ht, he]
theorem en_ne {x y : En} (h : x ≠ y) : (x.p == y.p && x.v == y.v) = false := by
  obtain ⟨a, b⟩ := x
  obtain ⟨a', b'⟩ := y
  show (a == a' && b == b') = false
  by_cases h1 : a = a'
  · subst h1
    have h2 : ¬ b = b' := fun hb => h (by rw [hb])
    simp [h2]
  · simp [h1]
theorem en_eq (x : En) : (x.p == x.p && x.v == x.v) = true := by simp
set_option maxHeartbeats 1000000 in
/-- Same compares the entries that its arguments are read as. -/
theorem rsame_any (a : Option Addr) (n c : Nat) (b : Option Addr) (m d : Nat) (xs ys : List En) (w : World) (va : SeesR en w a n c xs) (vb : SeesR en w b m d ys) :
    Calls Tryd.prog 20 #[.slice a n c, .slice b m d] w fun e w' => e = .returned (.bool (decide (xs = ys))) ∧ ∃ j, w.drewN j = w' := by
  have hn := va.short
  have hm := vb.short
  have hl := va.len
  have hl' := vb.len
  by_cases h4 : n = m
  · subst h4
    go_enter Tryd.func20, Tryd.ntmps20
    go_wp2_with fail
    go_loopw [5] (fun i wr => ∃ k j : Nat, k ≤ n ∧ i = .int .i64 k ∧ Hid (xs.take k = ys.take k) ∧ wr = w.drewN j) (fun i _ => n - (intOf i).toNat)
    case atStart => exact ⟨0, 0, Nat.zero_le _, rfl, Lib.hid rfl, rfl⟩
    case round =>
      obtain ⟨k, j, hk, rfl, ht, rfl⟩ := hrel
      by_cases hlt : k < n
      · obtain ⟨b0, o0, rfl⟩ := va.lies (by omega)
        obtain ⟨b1, o1, rfl⟩ := vb.lies (by omega)
        have hx : k < xs.length := by omega
        have hy : k < ys.length := by omega
        obtain ⟨c1, c2⟩ := en_at va k hx
        obtain ⟨d1, d2⟩ := en_at vb k hy
        have HQ := eq_entry xs[k].p xs[k].v ys[k].p ys[k].v
        by_cases he : xs[k] = ys[k]
        · have HT := Lib.hid (take_nextE hx hy ht.out he)
          have hz := en_eq xs[k]
          rw [← he] at d1 d2 HQ
          rw [hz] at HQ
          clear he hz ht
          generalize xs[k] = x at c1 c2 d1 d2 HQ
          go_wp2_with fail
          go_quiet (fail)
          go_wp2
          go_roundw
          case rel => exact ⟨k + 1, _, by omega, by go_num, HT, rfl⟩
          case measure => simp [intOf]; omega
        · have HN := Lib.hid (show decide (xs = ys) = false from decide_eq_false fun h => he (by simp only [h]))
          have hz := en_ne he
          rw [hz] at HQ
          clear he hz ht
          generalize xs[k] = x at c1 c2 HQ
          generalize ys[k] = y at d1 d2 HQ
          go_wp2_with fail
          go_quiet (fail)
          go_wp2
          go_ret
          rw [HN.out]
          exact ⟨rfl, j + nq, by rw [World.drewN_drewN]⟩
      · obtain rfl : k = n := by omega
        have HD := Lib.hid (show decide (xs = ys) = true from decide_eq_true (by
          have := ht.out
          rwa [List.take_of_length_le (by omega), List.take_of_length_le (by omega)] at this))
        go_wp2_with fail
        go_ret
        rw [HD.out]
        exact ⟨rfl, _, rfl⟩
  · have HN := Lib.hid (show decide (xs = ys) = false from decide_eq_false fun h => h4 (by rw [← hl, ← hl', h]))
    have hne : ¬ (n : Int) = (m : Int) := by omega
    go_enter Tryd.func20, Tryd.ntmps20
    go_wp2_with fail
    go_ret
    rw [HN.out]
    exact ⟨rfl, 0, rfl⟩
end Go.Proofs.YtepiiiekcmbpaaaDoor.Dv
