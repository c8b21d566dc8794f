/-
  Contracts of the reference of package cache, continued: comparing devices.
-/
import Derived.Test.YtpdgefmchoonnaaCrefb
import Derived.Laws.StructEq
namespace Go.Proofs.Ytpdgefmchoonnaa.Cr
open Go.RowKit Go.Proofs.Ytpdgefmchoonnaa.Sl Go.Proofs.Ytpdgefmchoonnaa.St Go.Proofs.Ytpdgefmchoonnaa.Ir Go.Proofs.Ytpdgefmchoonnaa.Dv
set_option maxRecDepth 100000
set_option maxHeartbeats 1000000

/-- Comparing dirty words. -/
theorem eq_dirty (a b : Int) (c : Bool) (a' b' : Int) (c' : Bool) (w : World) : (Op.equalIn 10000 44 (.agg #[.int .i64 a, .int .u64 b, .bool c]) (.agg #[.int .i64 a', .int .u64 b', .bool c'])).run Try.prog w = .ok (a == a' && (b == b' && c == c')) w := by
  have u3 := Try.underlying3
  have a3 := Try.isAgg3
  have z3 := Try.sizeOf3
  have u6 := Try.underlying31
  have a6 := Try.isAgg31
  have z6 := Try.sizeOf31
  have u4 := Try.underlying4
  have a4 := Try.isAgg4
  have z4 := Try.sizeOf4
  have hS : Try.prog.underlying 44 = some (.struct (Try.prog.fieldsOf 44)) := by kernel_rfl
  have hp : Try.prog.stoodInHeld 44 = false := by kernel_rfl
  rw [show (10000 : Nat) = 9999 + 1 from rfl, run_equalIn_agg w 9999 44 _ _ hS hp]
  simp only [Program.fieldsOf, Try.underlying44]
  go_simp
  by_cases h1 : a = a' <;> by_cases h2 : b = b' <;> cases c <;> cases c' <;> simp [h1, h2]
theorem take_nextD {xs ys : List Dw} {k : Nat} (h1 : k < xs.length) (h2 : k < ys.length) (ht : xs.take k = ys.take k) (he : xs[k] = ys[k]) : xs.take (k + 1) = ys.take (k + 1) := by
  rw [List.take_succ_eq_append_getElem h1, List.take_succ_eq_append_getElem h2, ht, he]
theorem dw_ne {x y : Dw} (h : x ≠ y) : (x.p == y.p && (x.v == y.v && x.f == y.f)) = false := by
  obtain ⟨a, b, c⟩ := x
  obtain ⟨a', b', c'⟩ := y
  show (a == a' && (b == b' && c == c')) = false
  by_cases h1 : a = a'
  · by_cases h2 : b = b'
    · subst h1 h2
      cases c <;> cases c' <;> simp_all
    · simp [h2]
  · simp [h1]
theorem dw_eq (x : Dw) : (x.p == x.p && (x.v == x.v && x.f == x.f)) = true := by simp
/-- Same compares the devices that its arguments are read as. -/
theorem rsame_any (a : Option Addr) (n c : Nat) (b : Option Addr) (m d : Nat) (l : Int) (q : Bool) (a' : Option Addr) (n' c' : Nat) (b' : Option Addr) (m' d' : Nat) (l' : Int) (q' : Bool) (D E : Dev) (w : World) (va : SeesD w a n c b m d l q D) (vb : SeesD w a' n' c' b' m' d' l' q' E) :
    Calls Try.prog 10 #[dev a n c b m d l q, dev a' n' c' b' m' d' l' q'] w fun e w' => e = .returned (.bool (decide (D = E))) ∧ Below w.heap.size w w' := by
  have B2 : Below w.heap.size w ((w.alloc (box a n c b m d l q)).alloc (box a' n' c' b' m' d' l' q')) := below_new (below_new (Below.refl _ _))
  have hm := va.dl.short
  have hm' := vb.dl.short
  have hl := va.dl.len
  have hl' := vb.dl.len
  have e1 := va.left
  have e2 := va.down
  have e3 := vb.left
  have e4 := vb.down
  by_cases h1 : l = l'
  · subst h1
    have hb1 : (l != l) = false := by simp
    by_cases h2 : q = q'
    · subst h2
      have hb2 : (q != q) = false := by simp
      by_cases h3 : D.im = E.im
      · have hd3 := decide_eq_true h3
        by_cases h4 : m = m'
        · subst h4
          have HA := Lib.hid (show ∀ (_ : D.dl = E.dl), D = E from fun h5 => by
            cases D
            cases E
            simp_all)
          have HB := Lib.hid (show ∀ (_ : D = E), D.dl = E.dl from fun h => by rw [h])
          have HD := Lib.hid hd3
          clear h3 hd3 e1 e2 e3 e4
          go_enter Try.func10, Try.ntmps10
          go_wp2_with fail
          refine (same_any _ _ _ _ _ _ _ _ _ (va.keep B2).im (vb.keep B2).im).mono ?_
          rintro e w' ⟨rfl, j0, rfl⟩
          rw [HD.out]
          go_wp2_with fail
          go_loopw [5] (fun i wr => ∃ k j : Nat, k ≤ m ∧ i = .int .i64 k ∧ Hid (D.dl.take k = E.dl.take k) ∧ wr = ((w.alloc (box a n c b m d l q)).alloc (box a' n' c' b' m d' l q)).drewN j) (fun i _ => m - (intOf i).toNat)
          case atStart => exact ⟨0, j0, Nat.zero_le _, rfl, Lib.hid rfl, rfl⟩
          case round =>
            obtain ⟨k, j, hk, rfl, ht, rfl⟩ := hrel
            by_cases hlt : k < m
            · obtain ⟨b0, o0, rfl⟩ := va.dl.lies (by omega)
              obtain ⟨b1, o1, rfl⟩ := vb.dl.lies (by omega)
              have hx : k < D.dl.length := by omega
              have hy : k < E.dl.length := by omega
              obtain ⟨c1, c2, c3⟩ := dw_at (va.keep B2).dl k hx
              obtain ⟨d1, d2, d3⟩ := dw_at (vb.keep B2).dl k hy
              have HQ := eq_dirty D.dl[k].p D.dl[k].v D.dl[k].f E.dl[k].p E.dl[k].v E.dl[k].f
              by_cases he : D.dl[k] = E.dl[k]
              · have HT := Lib.hid (take_nextD hx hy ht.out he)
                have hz := dw_eq D.dl[k]
                rw [← he] at d1 d2 d3 HQ
                rw [hz] at HQ
                clear he hz ht
                generalize D.dl[k] = x at c1 c2 c3 d1 d2 d3 HQ
                go_wp2_with fail
                go_quiet (fail)
                go_wp2
                go_roundw
                case rel => exact ⟨k + 1, _, by omega, by go_num, HT.out, rfl⟩
                case measure => simp [intOf]; omega
              · have HN := Lib.hid (show decide (D = E) = false from decide_eq_false fun h => he (by
                  have h' := HB.out h
                  simp only [h']))
                have hz := dw_ne he
                rw [hz] at HQ
                clear he hz ht
                generalize D.dl[k] = x at c1 c2 c3 HQ
                generalize E.dl[k] = y at d1 d2 d3 HQ
                go_wp2_with fail
                go_quiet (fail)
                go_wp2
                go_ret
                rw [HN.out]
                exact ⟨rfl, below_drewN (below_drewN B2 _) _⟩
            · have HE := Lib.hid (show decide (D = E) = true from decide_eq_true (HA.out (by
                have h := ht.out
                rwa [List.take_of_length_le (by omega), List.take_of_length_le (by omega)] at h)))
              go_wp2
              go_ret
              rw [HE.out]
              exact ⟨rfl, below_drewN B2 _⟩
        · have hb4 : ((m : Int) != (m' : Int)) = true := by simp; omega
          have HN := Lib.hid (show decide (D = E) = false from decide_eq_false fun h => h4 (by rw [← hl, ← hl', h]))
          have HD := Lib.hid hd3
          clear h3 hd3 h4 e1 e2 e3 e4
          go_enter Try.func10, Try.ntmps10
          go_wp2_with fail
          refine (same_any _ _ _ _ _ _ _ _ _ (va.keep B2).im (vb.keep B2).im).mono ?_
          rintro e w' ⟨rfl, j0, rfl⟩
          rw [HD.out]
          go_wp2_with fail
          go_ret
          rw [HN.out]
          exact ⟨rfl, below_drewN B2 _⟩
      · have HD := Lib.hid (decide_eq_false h3)
        have HN := Lib.hid (show decide (D = E) = false from decide_eq_false fun h => h3 (by rw [h]))
        clear h3 e1 e2 e3 e4
        go_enter Try.func10, Try.ntmps10
        go_wp2_with fail
        refine (same_any _ _ _ _ _ _ _ _ _ (va.keep B2).im (vb.keep B2).im).mono ?_
        rintro e w' ⟨rfl, j0, rfl⟩
        rw [HD.out]
        go_wp2_with fail
        go_ret
        rw [HN.out]
        exact ⟨rfl, below_drewN B2 _⟩
    · have HN := Lib.hid (show decide (D = E) = false from decide_eq_false fun h => h2 (by rw [← e2, ← e4, h]))
      clear e1 e2 e3 e4
      rcases (show (q = true ∧ q' = false) ∨ (q = false ∧ q' = true) from by cases q <;> cases q' <;> simp_all) with ⟨rfl, rfl⟩ | ⟨rfl, rfl⟩
      all_goals
        clear h2
        go_enter Try.func10, Try.ntmps10
        go_wp2_with fail
        go_ret
        rw [HN.out]
        exact ⟨rfl, B2⟩
  · have hb1 : (l != l') = true := by simpa using h1
    have HN := Lib.hid (show decide (D = E) = false from decide_eq_false fun h => h1 (by rw [← e1, ← e3, h]))
    clear h1 e1 e2 e3 e4
    go_enter Try.func10, Try.ntmps10
    go_wp2_with fail
    go_ret
    rw [HN.out]
    exact ⟨rfl, B2⟩
end Go.Proofs.Ytpdgefmchoonnaa.Cr
