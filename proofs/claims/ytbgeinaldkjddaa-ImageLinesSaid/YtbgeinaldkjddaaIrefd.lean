/-
  Contract of the reference's Diff: the addresses in which two lists differ, in order.
-/
import Derived.Test.YtbgeinaldkjddaaIrefb
namespace Go.Proofs.Ytbgeinaldkjddaa.Ir
open Go.RowKit Go.Proofs.Ytbgeinaldkjddaa.Sl Go.Proofs.Ytbgeinaldkjddaa.St
set_option maxRecDepth 100000
set_option maxHeartbeats 1000000

theorem info_int : (Try.prog.info? 3).map (fun i => (i.zero, i.size, i.bytes)) = some (some (.int .i64 0), 1, 8) := by kernel_rfl
/-- The first addresses in which two lists differ. -/
def diffs (xs ys : List Int) : Nat → List Int
  | 0 => []
  | k + 1 => if xs.getD k 0 = ys.getD k 0 then diffs xs ys k else diffs xs ys k ++ [(k : Int)]
theorem diffs_len (xs ys : List Int) : ∀ k, (diffs xs ys k).length ≤ k
  | 0 => Nat.le_refl _
  | k + 1 => by
    have := diffs_len xs ys k
    unfold diffs
    split
    · omega
    · rw [List.length_append]
      simp
      omega
theorem diffs_same {xs ys : List Int} {k : Nat} (h : xs.getD k 0 = ys.getD k 0) : diffs xs ys (k + 1) = diffs xs ys k := by rw [diffs, if_pos h]
theorem diffs_other {xs ys : List Int} {k : Nat} (h : ¬ xs.getD k 0 = ys.getD k 0) : diffs xs ys (k + 1) = diffs xs ys k ++ [(k : Int)] := by rw [diffs, if_neg h]

theorem rdiff_bad (a b : Option Addr) (n c m d : Nat) (w : World) (h : ¬ Img n ∨ (Img n ∧ ¬ Img m)) :
    Calls Try.prog 25 #[.slice a n c, .slice b m d] w fun e w' => e = .returned (.tuple #[.slice none 0 0, .int .i64 8]) ∧ w = w' := by
  rcases h with h | ⟨h, g⟩
  · go_enter Try.func25, Try.ntmps25
    go_wp2_with fail
    refine (rcheck_no _ n c _ h).mono ?_
    rintro e w' ⟨rfl, rfl⟩
    go_wp2_with fail
    go_ret2
    exact ⟨rfl, rfl⟩
  · go_enter Try.func25, Try.ntmps25
    go_wp2_with fail
    refine (rcheck_yes _ n c _ h).mono ?_
    rintro e w' ⟨rfl, rfl⟩
    go_wp2_with fail
    refine (rcheck_no _ m d _ g).mono ?_
    rintro e w' ⟨rfl, rfl⟩
    go_wp2_with fail
    go_ret2
    exact ⟨rfl, rfl⟩
theorem rdiff_arg (a b : Option Addr) (n c m d : Nat) (w : World) (h : Img n) (g : Img m) (hnm : n ≠ m) :
    Calls Try.prog 25 #[.slice a n c, .slice b m d] w fun e w' => e = .returned (.tuple #[.slice none 0 0, .int .i64 2]) ∧ w = w' := by
  have hb : ((n : Int) != (m : Int)) = true := by simp; omega
  clear hnm
  go_enter Try.func25, Try.ntmps25
  go_wp2_with fail
  refine (rcheck_yes _ n c _ h).mono ?_
  rintro e w' ⟨rfl, rfl⟩
  go_wp2_with fail
  refine (rcheck_yes _ m d _ g).mono ?_
  rintro e w' ⟨rfl, rfl⟩
  go_wp2_with fail
  go_ret2
  exact ⟨rfl, rfl⟩
theorem rdiff_yes (a b : Option Addr) (n c d : Nat) (xs ys : List Int) (w : World) (va : Sees w .u64 a n c xs) (vb : Sees w .u64 b n d ys) (h : Img n) :
    Calls Try.prog 25 #[.slice a n c, .slice b n d] w (GivesPair .i64 3 w (diffs xs ys n) 0) := by
  have hn := va.top
  obtain ⟨b0, o0, rfl⟩ := va.lies (by have := h.1; omega)
  obtain ⟨b1, o1, rfl⟩ := vb.lies (by have := h.1; omega)
  go_enter Try.func25, Try.ntmps25
  go_wp2_with fail
  refine (rcheck_yes _ n c _ h).mono ?_
  rintro e w' ⟨rfl, rfl⟩
  go_wp2_with fail
  refine (rcheck_yes _ n d _ h).mono ?_
  rintro e w' ⟨rfl, rfl⟩
  go_wp2_with fail
  go_loopw [6, 7] (fun v i wr => ∃ k : Nat, k ≤ n ∧ i = .int .i64 k ∧ Grows .i64 3 w wr v (diffs xs ys k)) (fun _ i _ => n - (intOf i).toNat)
  case atStart => exact ⟨0, Nat.zero_le _, rfl, Grows.nil _ _ _⟩
  case round =>
    obtain ⟨k, hk, rfl, hG⟩ := hrel
    by_cases hlt : k < n
    · have c1 := (va.keep hG.below).at k hlt
      have c2 := (vb.keep hG.below).at k hlt
      have hdl := diffs_len xs ys k
      by_cases he : xs.getD k 0 = ys.getD k 0
      · have HE := Lib.hid (diffs_same he)
        rw [he] at c1
        clear he
        generalize ys.getD k 0 = y at c1 c2
        go_wp2_with fail
        go_quiet (fail)
        go_wp2_with fail
        go_roundw
        case rel => exact ⟨k + 1, by omega, by go_num, by rw [HE.out]; exact hG.keep (below_drewN (Below.refl _ _) _)⟩
        case measure => simp [intOf]; omega
      · have HE := Lib.hid (diffs_other he)
        have hb : (xs.getD k 0 != ys.getD k 0) = true := by simpa using he
        clear he
        generalize xs.getD k 0 = x at c1 hb
        generalize ys.getD k 0 = y at c2 hb
        have wk : (Lit.int .i64 (k : Int)).wf = true := WalkArith.wf_i64 (by omega)
        go_wp2_with fail
        go_quiet (fail)
        go_wp2_with (at_builtin; refine wp_append rfl (.tmp 36) (.tmp 38) 22 rfl .i64 3 Try.underlying22 info_int w _ (diffs xs ys k) rfl (hG.keep (below_new (below_drewN (Below.refl _ _) _))) _ 1 1 [(k : Int)] rfl (sees_one (wr.drewN nq) .i64 3 (k : Int) wk) (by omega) ?_)
        intro v1 w1 G1
        go_wp2
        go_roundw
        case rel => exact ⟨k + 1, by omega, by go_num, by rw [HE.out]; exact G1⟩
        case measure => simp [intOf]; omega
    · obtain rfl : k = n := by omega
      go_wp2_with fail
      go_ret2
      exact gives_pair hG rfl
end Go.Proofs.Ytbgeinaldkjddaa.Ir
