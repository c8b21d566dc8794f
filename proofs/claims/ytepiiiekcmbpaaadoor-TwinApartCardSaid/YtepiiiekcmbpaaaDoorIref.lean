/-
  Contracts of the reference of package image: sizes, comparing lists. What each returns for every argument that its type allows.
-/
import Derived.Test.YtepiiiekcmbpaaaDoorSlice
import Derived.WalkKit
import Derived.BigQuiet
import Derived.BigGuardPart
import Derived.Outline
import Derived.Lib.Hide
import Derived.WalkLawsBesides
import Derived.LoopN
import Derived.Handy
namespace Go.Proofs.YtepiiiekcmbpaaaDoor.Ir
open Go.RowKit Go.Proofs.YtepiiiekcmbpaaaDoor.Sl
set_option maxRecDepth 100000
set_option maxHeartbeats 1000000

theorem take_next (xs ys : List Int) (k n : Nat) (h1 : xs.length = n) (h2 : ys.length = n) (h : k < n) (ht : xs.take k = ys.take k) (he : xs.getD k 0 = ys.getD k 0) : xs.take (k + 1) = ys.take (k + 1) := by
  rw [List.take_succ_eq_append_getElem (by omega), List.take_succ_eq_append_getElem (by omega), ht]
  rw [List.getD_eq_getElem?_getD, List.getD_eq_getElem?_getD, List.getElem?_eq_getElem (by omega), List.getElem?_eq_getElem (by omega)] at he
  simp only [Option.getD_some] at he
  rw [he]
theorem take_all (xs ys : List Int) (k n : Nat) (h1 : xs.length = n) (h2 : ys.length = n) (h : n ≤ k) (ht : xs.take k = ys.take k) : xs = ys := by
  rwa [List.take_of_length_le (by omega), List.take_of_length_le (by omega)] at ht
/-- Same compares the lists that its slices are read as. -/
theorem same_any (a b : Option Addr) (n c m d : Nat) (xs ys : List Int) (w : World) (va : Sees w .u64 a n c xs) (vb : Sees w .u64 b m d ys) :
    Calls Tryd.prog 13 #[.slice a n c, .slice b m d] w fun e w' => e = .returned (.bool (decide (xs = ys))) ∧ ∃ j, w.drewN j = w' := by
  have hn := va.top
  have hm := vb.top
  have ln := va.len
  have lm := vb.len
  by_cases hl : n = m
  · subst hl
    by_cases h0 : n = 0
    · subst h0
      obtain rfl := va.empty
      obtain rfl := vb.empty
      go_enter Tryd.func13, Tryd.ntmps13
      go_wp2_with fail
      refine wp_loop_rounds 1 ?_
      rw [rounds_succ]
      go_wp2_with fail
      go_ret
      exact ⟨rfl, 0, rfl⟩
    · obtain ⟨ba, oa, rfl⟩ := va.lies (by omega)
      obtain ⟨bb, ob, rfl⟩ := vb.lies (by omega)
      have LN := Lib.hid ln
      have LM := Lib.hid lm
      clear ln lm h0
      go_enter Tryd.func13, Tryd.ntmps13
      go_wp2_with fail
      go_loopw [5] (fun i wr => ∃ k j : Nat, k ≤ n ∧ i = .int .i64 k ∧ Hid (xs.take k = ys.take k) ∧ wr = w.drewN j) (fun i _ => n - (intOf i).toNat)
      case atStart => exact ⟨0, 0, Nat.zero_le _, rfl, Lib.hid rfl, rfl⟩
      case round =>
        obtain ⟨k, j, hk, rfl, ht, rfl⟩ := hrel
        by_cases hlt : k < n
        · have c1 := va.at k hlt
          have c2 := vb.at k hlt
          by_cases he : xs.getD k 0 = ys.getD k 0
          · have HT := Lib.hid (take_next xs ys k n LN.out LM.out hlt ht.out he)
            rw [he] at c1
            clear he
            generalize ys.getD k 0 = y at c1 c2
            go_wp2_with fail
            go_quiet (fail)
            go_wp2_with fail
            go_roundw
            case rel => exact ⟨k + 1, _, by omega, by go_num, HT.out, rfl⟩
            case measure => simp [intOf]; omega
          · have HN := Lib.hid (show decide (xs = ys) = false from decide_eq_false (fun h => he (by rw [h])))
            have hb : (xs.getD k 0 != ys.getD k 0) = true := by simpa using he
            clear he
            generalize xs.getD k 0 = x at c1 hb
            generalize ys.getD k 0 = y at c2 hb
            go_wp2_with fail
            go_quiet (fail)
            go_wp2_with fail
            go_ret
            rw [HN.out]
            exact ⟨rfl, j + nq, by rw [World.drewN_drewN]⟩
        · have HE := Lib.hid (show decide (xs = ys) = true from decide_eq_true (take_all xs ys k n LN.out LM.out (by omega) ht.out))
          go_wp2_with fail
          go_ret
          rw [HE.out]
          exact ⟨rfl, _, rfl⟩
  · have HN := Lib.hid (show decide (xs = ys) = false from decide_eq_false (fun h => hl (by rw [← ln, ← lm, h])))
    have hb : ((n : Int) != (m : Int)) = true := by simp; omega
    clear ln lm hl
    go_enter Tryd.func13, Tryd.ntmps13
    go_wp2_with fail
    go_ret
    rw [HN.out]
    exact ⟨rfl, 0, rfl⟩
end Go.Proofs.YtepiiiekcmbpaaaDoor.Ir
