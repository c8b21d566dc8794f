/-
  Contracts of the functions of package image: what each returns for every argument that its type allows.
-/
import Derived.Test.YtepiiiekcmbpaaaDoorIrefd
namespace Go.Proofs.YtepiiiekcmbpaaaDoor.Im
open Go.RowKit Go.Proofs.YtepiiiekcmbpaaaDoor.Sl Go.Proofs.YtepiiiekcmbpaaaDoor.St Go.Proofs.YtepiiiekcmbpaaaDoor.Ir
set_option maxRecDepth 100000
set_option maxHeartbeats 1000000

theorem isize_yes (n : Int) (w : World) (h : Img n) :
    Calls Tryd.prog 37 #[.int .i64 n] w fun e w' => e = .returned (.bool true) ∧ w = w' := by
  obtain ⟨h1, h2, h3⟩ := h
  have hb : (n % 8 == 0) = true := by simp; omega
  clear h3
  go_enter Tryd.func37, Tryd.ntmps37
  go_wp2_with fail
  go_ret
  exact ⟨rfl, rfl⟩
theorem isize_no (n : Int) (w : World) (h : ¬ Img n) :
    Calls Tryd.prog 37 #[.int .i64 n] w fun e w' => e = .returned (.bool false) ∧ w = w' := by
  have h' : n < 256 ∨ (256 ≤ n ∧ 2048 < n) ∨ (256 ≤ n ∧ n ≤ 2048 ∧ ¬ n % 8 = 0) := by unfold Img at h; omega
  clear h
  rcases h' with h | ⟨h1, h2⟩ | ⟨h1, h2, h3⟩
  case' inr.inr => have hb : (n % 8 == 0) = false := by simpa using h3
  all_goals go_enter Tryd.func37, Tryd.ntmps37
  all_goals go_wp2_with fail
  all_goals first | (exfalso; omega) | skip
  all_goals go_ret
  all_goals exact ⟨rfl, rfl⟩
theorem check_yes (a : Option Addr) (n c : Nat) (w : World) (h : Img n) :
    Calls Tryd.prog 29 #[.slice a n c] w fun e w' => e = .returned (.int .i64 0) ∧ w = w' := by
  go_enter Tryd.func29, Tryd.ntmps29
  go_wp2_with fail
  refine (isize_yes n _ h).mono ?_
  rintro e w' ⟨rfl, rfl⟩
  go_wp2_with fail
  go_ret
  exact ⟨rfl, rfl⟩
theorem check_no (a : Option Addr) (n c : Nat) (w : World) (h : ¬ Img n) :
    Calls Tryd.prog 29 #[.slice a n c] w fun e w' => e = .returned (.int .i64 8) ∧ w = w' := by
  go_enter Tryd.func29, Tryd.ntmps29
  go_wp2_with fail
  refine (isize_no n _ h).mono ?_
  rintro e w' ⟨rfl, rfl⟩
  go_wp2_with fail
  go_ret
  exact ⟨rfl, rfl⟩
theorem new_no (n : Int) (w : World) (h : ¬ Img n) :
    Calls Tryd.prog 27 #[.int .i64 n] w fun e w' => e = .returned (.tuple #[.slice none 0 0, .int .i64 2]) ∧ w = w' := by
  go_enter Tryd.func27, Tryd.ntmps27
  go_wp2_with fail
  refine (isize_no n _ h).mono ?_
  rintro e w' ⟨rfl, rfl⟩
  go_wp2_with fail
  go_ret2
  exact ⟨rfl, rfl⟩
theorem new_yes (n : Nat) (w : World) (h : Img n) :
    Calls Tryd.prog 27 #[.int .i64 n] w (GivesPair .u64 47 w (List.replicate n 0) 0) := by
  obtain ⟨g1, g2, g3⟩ := id h
  clear g3
  go_enter Tryd.func27, Tryd.ntmps27
  go_wp2_with fail
  refine (isize_yes n _ h).mono ?_
  rintro e w' ⟨rfl, rfl⟩
  go_wp2_with (refine wp_make rfl (.tmp 7) (.tmp 7) 22 rfl .u64 47 Tryd.underlying22 info_word w (Below.refl _ _) .i64 .i64 n n n rfl rfl rfl rfl (by omega) ?_)
  intro w1 G1
  go_wp2
  go_ret2
  exact gives_pair G1 rfl
/-- clone copies. -/
theorem clone_any (a : Option Addr) (n c : Nat) (xs : List Int) (w : World) (va : Sees w .u64 a n c xs) :
    Calls Tryd.prog 35 #[.slice a n c] w fun e w' => ∃ g, e = .returned (.slice (some ⟨g, 0, none⟩) n n) ∧ Grows .u64 47 w w' (.slice (some ⟨g, 0, none⟩) n n) xs := by
  have htop := va.top
  have E := Lib.hid (show xs.take n = xs from List.take_of_length_le (by rw [va.len]; exact Nat.le_refl _))
  go_enter Tryd.func35, Tryd.ntmps35
  go_wp2_with (refine wp_make rfl (.tmp 5) (.tmp 5) 22 rfl .u64 47 Tryd.underlying22 info_word w (Below.refl _ _) .i64 .i64 n n n rfl rfl rfl rfl htop ?_)
  intro w1 G1
  go_wp2_with (refine wp_copy rfl (.tmp 7) (.tmp 8) 22 rfl .u64 47 Tryd.underlying22 size_word w w.heap.size n n (List.replicate n 0) G1 _ _ n n n c xs rfl rfl (va.keep G1.below) 0 (fun _ => rfl) (by simp) ?_)
  intro w2 G2
  clear G1
  go_wp2
  go_ret
  rw [E.out] at G2
  exact ⟨_, rfl, G2⟩
theorem get_bad (a : Option Addr) (n c : Nat) (p k : Int) (w : World) (h : ¬ Img n) :
    Calls Tryd.prog 26 #[.slice a n c, .int .i64 p, .int .i64 k] w fun e w' => e = .returned (.tuple #[.slice none 0 0, .int .i64 8]) ∧ w = w' := by
  go_enter Tryd.func26, Tryd.ntmps26
  go_wp2_with fail
  refine (check_no _ n c _ h).mono ?_
  rintro e w' ⟨rfl, rfl⟩
  go_wp2_with fail
  go_ret2
  exact ⟨rfl, rfl⟩
theorem put_bad (a : Option Addr) (n c : Nat) (p : Int) (b : Option Addr) (m d : Nat) (w : World) (h : ¬ Img n) :
    Calls Tryd.prog 22 #[.slice a n c, .int .i64 p, .slice b m d] w fun e w' => e = .returned (.tuple #[.slice none 0 0, .int .i64 8]) ∧ w = w' := by
  go_enter Tryd.func22, Tryd.ntmps22
  go_wp2_with fail
  refine (check_no _ n c _ h).mono ?_
  rintro e w' ⟨rfl, rfl⟩
  go_wp2_with fail
  go_ret2
  exact ⟨rfl, rfl⟩
theorem has_yes (a : Option Addr) (n c : Nat) (p k : Int) (w : World) (hn : n ≤ 17592186044416) (h : There n p k) :
    Calls Tryd.prog 34 #[.slice a n c, .int .i64 p, .int .i64 k] w fun e w' => e = .returned (.bool true) ∧ w = w' := by
  obtain ⟨h1, h2, h3, h4⟩ := h
  go_enter Tryd.func34, Tryd.ntmps34
  go_wp2_with fail
  all_goals first | (exfalso; omega) | skip
  all_goals go_ret
  all_goals first | exact ⟨rfl, rfl⟩ | exact ⟨by simp; omega, rfl⟩
theorem has_no (a : Option Addr) (n c : Nat) (p k : Int) (w : World) (hn : n ≤ 17592186044416) (h : ¬ There n p k) :
    Calls Tryd.prog 34 #[.slice a n c, .int .i64 p, .int .i64 k] w fun e w' => e = .returned (.bool false) ∧ w = w' := by
  have h' : p < 0 ∨ (0 ≤ p ∧ k < 0) ∨ (0 ≤ p ∧ 0 ≤ k ∧ (n : Int) < p) ∨ (0 ≤ p ∧ 0 ≤ k ∧ p ≤ n ∧ (n : Int) - p < k) := by unfold There at h; omega
  clear h
  rcases h' with h | ⟨h1, h2⟩ | ⟨h1, h2, h3⟩ | ⟨h1, h2, h3, h4⟩
  all_goals go_enter Tryd.func34, Tryd.ntmps34
  all_goals go_wp2_with fail
  all_goals first | (exfalso; omega) | skip
  all_goals go_ret
  all_goals first | exact ⟨rfl, rfl⟩ | exact ⟨by simp; omega, rfl⟩
theorem get_arg (a : Option Addr) (n c : Nat) (p k : Int) (w : World) (h : Img n) (ht : ¬ There n p k) :
    Calls Tryd.prog 26 #[.slice a n c, .int .i64 p, .int .i64 k] w fun e w' => e = .returned (.tuple #[.slice none 0 0, .int .i64 2]) ∧ w = w' := by
  go_enter Tryd.func26, Tryd.ntmps26
  go_wp2_with fail
  refine (check_yes _ n c _ h).mono ?_
  rintro e w' ⟨rfl, rfl⟩
  go_wp2_with fail
  refine (has_no _ n c _ _ _ (by have := h.2.1; omega) ht).mono ?_
  rintro e w' ⟨rfl, rfl⟩
  go_wp2_with fail
  go_ret2
  exact ⟨rfl, rfl⟩
theorem put_arg (a : Option Addr) (n c : Nat) (p : Int) (b : Option Addr) (m d : Nat) (w : World) (_hm : m ≤ 17592186044416) (h : Img n) (ht : ¬ There n p m) :
    Calls Tryd.prog 22 #[.slice a n c, .int .i64 p, .slice b m d] w fun e w' => e = .returned (.tuple #[.slice none 0 0, .int .i64 2]) ∧ w = w' := by
  go_enter Tryd.func22, Tryd.ntmps22
  go_wp2_with fail
  refine (check_yes _ n c _ h).mono ?_
  rintro e w' ⟨rfl, rfl⟩
  go_wp2_with fail
  refine (has_no _ n c _ _ _ (by have := h.2.1; omega) ht).mono ?_
  rintro e w' ⟨rfl, rfl⟩
  go_wp2_with fail
  go_ret2
  exact ⟨rfl, rfl⟩
theorem get_yes (a : Option Addr) (n c : Nat) (A K : Nat) (xs : List Int) (w : World) (va : Sees w .u64 a n c xs) (h : Img n) (ht : A + K ≤ n) :
    Calls Tryd.prog 26 #[.slice a n c, .int .i64 A, .int .i64 K] w (GivesPair .u64 47 w ((xs.drop A).take K) 0) := by
  have htop := va.top
  have hle := va.le
  obtain ⟨b, off, rfl⟩ := va.lies (by have := h.1; omega)
  obtain ⟨ad, had, hsl⟩ := run_cut b off n c A K A (A + K) rfl rfl ht hle
  have V := va.cut A K ht had
  have HT : There n A K := ⟨by omega, by omega, by omega, by omega⟩
  clear had
  go_enter Tryd.func26, Tryd.ntmps26
  go_wp2_with fail
  refine (check_yes _ n c _ h).mono ?_
  rintro e w' ⟨rfl, rfl⟩
  go_wp2_with fail
  refine (has_yes _ n c _ _ _ htop HT).mono ?_
  rintro e w' ⟨rfl, rfl⟩
  go_wp2_with fail
  refine (clone_any _ _ _ _ _ V).mono ?_
  rintro e w' ⟨g, rfl, G1⟩
  go_wp2
  go_ret2
  exact gives_pair G1 rfl
theorem put_yes (a : Option Addr) (n c : Nat) (A : Nat) (b : Option Addr) (m d : Nat) (xs ys : List Int) (w : World) (va : Sees w .u64 a n c xs) (vb : Sees w .u64 b m d ys) (h : Img n) (ht : A + m ≤ n) :
    Calls Tryd.prog 22 #[.slice a n c, .int .i64 A, .slice b m d] w (GivesPair .u64 47 w (putL xs A ys) 0) := by
  have htop := va.top
  have hlx := va.len
  have hly := vb.len
  have HT : There n A m := ⟨by omega, by omega, by omega, by omega⟩
  have hmin : Nat.min m (n - A) = m := Nat.min_eq_left (by omega)
  have E := Lib.hid (show xs.take A ++ (ys.take (Nat.min m (n - A)) ++ xs.drop (A + Nat.min m (n - A))) = putL xs A ys from by
    unfold putL
    rw [hmin, hly, List.take_of_length_le (l := ys) (by omega)])
  have F := Lib.hid (show A + Nat.min m (n - A) ≤ xs.length from by rw [hmin, hlx]; exact ht)
  have M := Lib.hid (show Nat.min m (n - A) ≤ n - A from Nat.min_le_right _ _)
  clear hmin hlx hly
  go_enter Tryd.func22, Tryd.ntmps22
  go_wp2_with fail
  refine (check_yes _ n c _ h).mono ?_
  rintro e w' ⟨rfl, rfl⟩
  go_wp2_with fail
  refine (has_yes _ n c _ _ _ htop HT).mono ?_
  rintro e w' ⟨rfl, rfl⟩
  go_wp2_with fail
  refine (clone_any _ _ _ _ _ va).mono ?_
  rintro e w1 ⟨g, rfl, G1⟩
  obtain ⟨ad, had, hsl⟩ := run_from g 0 n n A A rfl (by omega) (Nat.le_refl _)
  have AD := Lib.hid (show 0 < Nat.min m (n - A) → some ad = some (⟨g, A, none⟩ : Addr) from fun hm => by rw [had (Nat.lt_of_lt_of_le hm M.out), Nat.zero_add])
  clear had
  go_wp2_with (refine wp_copy rfl (.tmp 25) (.tmp 26) 22 rfl .u64 47 Tryd.underlying22 size_word w g n n xs G1 _ _ (n - A) (n - A) m d ys rfl rfl (vb.keep G1.below) A AD.out F.out ?_)
  intro w2 G2
  clear G1
  go_wp2
  go_ret2
  exact gives_pair G2 E.out
theorem diff_bad (a b : Option Addr) (n c m d : Nat) (w : World) (h : ¬ Img n ∨ (Img n ∧ ¬ Img m)) :
    Calls Tryd.prog 24 #[.slice a n c, .slice b m d] w fun e w' => e = .returned (.tuple #[.slice none 0 0, .int .i64 8]) ∧ w = w' := by
  rcases h with h | ⟨h, g⟩
  · go_enter Tryd.func24, Tryd.ntmps24
    go_wp2_with fail
    refine (check_no _ n c _ h).mono ?_
    rintro e w' ⟨rfl, rfl⟩
    go_wp2_with fail
    go_ret2
    exact ⟨rfl, rfl⟩
  · go_enter Tryd.func24, Tryd.ntmps24
    go_wp2_with fail
    refine (check_yes _ n c _ h).mono ?_
    rintro e w' ⟨rfl, rfl⟩
    go_wp2_with fail
    refine (check_no _ m d _ g).mono ?_
    rintro e w' ⟨rfl, rfl⟩
    go_wp2_with fail
    go_ret2
    exact ⟨rfl, rfl⟩
theorem diff_arg (a b : Option Addr) (n c m d : Nat) (w : World) (h : Img n) (g : Img m) (hnm : n ≠ m) :
    Calls Tryd.prog 24 #[.slice a n c, .slice b m d] w fun e w' => e = .returned (.tuple #[.slice none 0 0, .int .i64 2]) ∧ w = w' := by
  have hb : ((n : Int) != (m : Int)) = true := by simp; omega
  clear hnm
  go_enter Tryd.func24, Tryd.ntmps24
  go_wp2_with fail
  refine (check_yes _ n c _ h).mono ?_
  rintro e w' ⟨rfl, rfl⟩
  go_wp2_with fail
  refine (check_yes _ m d _ g).mono ?_
  rintro e w' ⟨rfl, rfl⟩
  go_wp2_with fail
  go_ret2
  exact ⟨rfl, rfl⟩
theorem diff_yes (a b : Option Addr) (n c d : Nat) (xs ys : List Int) (w : World) (va : Sees w .u64 a n c xs) (vb : Sees w .u64 b n d ys) (h : Img n) :
    Calls Tryd.prog 24 #[.slice a n c, .slice b n d] w (GivesPair .i64 3 w (diffs xs ys n) 0) := by
  have hn := va.top
  obtain ⟨b0, o0, rfl⟩ := va.lies (by have := h.1; omega)
  obtain ⟨b1, o1, rfl⟩ := vb.lies (by have := h.1; omega)
  go_enter Tryd.func24, Tryd.ntmps24
  go_wp2_with fail
  refine (check_yes _ n c _ h).mono ?_
  rintro e w' ⟨rfl, rfl⟩
  go_wp2_with fail
  refine (check_yes _ n d _ h).mono ?_
  rintro e w' ⟨rfl, rfl⟩
  go_wp2_with fail
  go_loopw [8, 27] (fun v i wr => ∃ k : Nat, k ≤ n ∧ i = .int .i64 k ∧ Grows .i64 3 w wr v (diffs xs ys k)) (fun _ i _ => n - (intOf i).toNat)
  case atStart => exact ⟨0, Nat.zero_le _, rfl, Grows.nil _ _ _⟩
  case round =>
    obtain ⟨k, hk, rfl, hG⟩ := hrel
    by_cases hlt : k < n
    · have c1 := (va.keep hG.below).at k hlt
      have c2 := (vb.keep hG.below).at k hlt
      have hdl := diffs_len xs ys k
      by_cases he : xs.getD k 0 = ys.getD k 0
      · have HE := Lib.hid (diffs_same he)
        rw [he] at c1
        clear he
        generalize ys.getD k 0 = y at c1 c2
        go_wp2_with fail
        go_quiet (fail)
        go_wp2_with fail
        go_roundw
        case rel => exact ⟨k + 1, by omega, by go_num, by rw [HE.out]; exact hG.keep (below_drewN (Below.refl _ _) _)⟩
        case measure => simp [intOf]; omega
      · have HE := Lib.hid (diffs_other he)
        have hb : (xs.getD k 0 != ys.getD k 0) = true := by simpa using he
        clear he
        generalize xs.getD k 0 = x at c1 hb
        generalize ys.getD k 0 = y at c2 hb
        have wk : (Lit.int .i64 (k : Int)).wf = true := WalkArith.wf_i64 (by omega)
        go_wp2_with fail
        go_quiet (fail)
        go_wp2_with (at_builtin; refine wp_append rfl (.tmp 39) (.tmp 41) 53 rfl .i64 3 Tryd.underlying53 info_int w _ (diffs xs ys k) rfl (hG.keep (below_new (below_drewN (Below.refl _ _) _))) _ 1 1 [(k : Int)] rfl (sees_one (wr.drewN nq) .i64 3 (k : Int) wk) (by omega) ?_)
        intro v1 w1 G1
        go_wp2
        go_roundw
        case rel => exact ⟨k + 1, by omega, by go_num, by rw [HE.out]; exact G1⟩
        case measure => simp [intOf]; omega
    · obtain rfl : k = n := by omega
      go_wp2_with fail
      go_ret2
      exact gives_pair hG rfl
end Go.Proofs.YtepiiiekcmbpaaaDoor.Im
