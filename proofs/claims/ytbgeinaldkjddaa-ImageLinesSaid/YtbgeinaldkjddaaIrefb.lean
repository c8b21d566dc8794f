/-
  Contracts of the reference of package image, continued: sizes, ranges, copies.
-/
import Derived.Test.YtbgeinaldkjddaaIref
import Derived.Test.YtbgeinaldkjddaaCut
namespace Go.Proofs.Ytbgeinaldkjddaa.Ir
open Go.RowKit Go.Proofs.Ytbgeinaldkjddaa.Sl Go.Proofs.Ytbgeinaldkjddaa.St
set_option maxRecDepth 100000
set_option maxHeartbeats 1000000

/-- So many words are an image. -/
def Img (n : Int) : Prop := 256 ≤ n ∧ n ≤ 2048 ∧ n % 8 = 0
theorem size_yes (n : Int) (w : World) (h : Img n) :
    Calls Try.prog 31 #[.int .i64 n] w fun e w' => e = .returned (.bool true) ∧ w = w' := by
  obtain ⟨h1, h2, h3⟩ := h
  have hb : (n % 8 == 0) = true := by simp; omega
  clear h3
  go_enter Try.func31, Try.ntmps31
  go_wp2_with fail
  go_ret
  exact ⟨rfl, rfl⟩
theorem size_no (n : Int) (w : World) (h : ¬ Img n) :
    Calls Try.prog 31 #[.int .i64 n] w fun e w' => e = .returned (.bool false) ∧ w = w' := by
  have h' : n < 256 ∨ (256 ≤ n ∧ 2048 < n) ∨ (256 ≤ n ∧ n ≤ 2048 ∧ ¬ n % 8 = 0) := by unfold Img at h; omega
  clear h
  rcases h' with h | ⟨h1, h2⟩ | ⟨h1, h2, h3⟩
  case' inr.inr => have hb : (n % 8 == 0) = false := by simpa using h3
  all_goals go_enter Try.func31, Try.ntmps31
  all_goals go_wp2_with fail
  all_goals first | (exfalso; omega) | skip
  all_goals go_ret
  all_goals exact ⟨rfl, rfl⟩
theorem rcheck_yes (a : Option Addr) (n c : Nat) (w : World) (h : Img n) :
    Calls Try.prog 23 #[.slice a n c] w fun e w' => e = .returned (.int .i64 0) ∧ w = w' := by
  go_enter Try.func23, Try.ntmps23
  go_wp2_with fail
  refine (size_yes n _ h).mono ?_
  rintro e w' ⟨rfl, rfl⟩
  go_wp2_with fail
  go_ret
  exact ⟨rfl, rfl⟩
theorem rcheck_no (a : Option Addr) (n c : Nat) (w : World) (h : ¬ Img n) :
    Calls Try.prog 23 #[.slice a n c] w fun e w' => e = .returned (.int .i64 8) ∧ w = w' := by
  go_enter Try.func23, Try.ntmps23
  go_wp2_with fail
  refine (size_no n _ h).mono ?_
  rintro e w' ⟨rfl, rfl⟩
  go_wp2_with fail
  go_ret
  exact ⟨rfl, rfl⟩
theorem great_yes (a : Option Addr) (n c : Nat) (w : World) (h : 2100 < n) :
    Calls Try.prog 18 #[.slice a n c] w fun e w' => e = .returned (.bool true) ∧ w = w' := by
  have hb : decide ((2100 : Int) < (n : Int)) = true := by simp; omega
  go_enter Try.func18, Try.ntmps18
  go_wp2_with fail
  go_ret
  exact ⟨rfl, rfl⟩
theorem great_no (a : Option Addr) (n c : Nat) (w : World) (h : n ≤ 2100) :
    Calls Try.prog 18 #[.slice a n c] w fun e w' => e = .returned (.bool false) ∧ w = w' := by
  have hb : decide ((2100 : Int) < (n : Int)) = false := by simp; omega
  go_enter Try.func18, Try.ntmps18
  go_wp2_with fail
  go_ret
  exact ⟨rfl, rfl⟩

/-- There is the range. -/
def There (n at' k : Int) : Prop := 0 ≤ at' ∧ 0 ≤ k ∧ at' ≤ n ∧ k ≤ n - at'
theorem there_yes (a : Option Addr) (n c : Nat) (at' k : Int) (w : World) (hn : n ≤ 17592186044416) (h : There n at' k) :
    Calls Try.prog 30 #[.slice a n c, .int .i64 at', .int .i64 k] w fun e w' => e = .returned (.bool true) ∧ w = w' := by
  obtain ⟨h1, h2, h3, h4⟩ := h
  go_enter Try.func30, Try.ntmps30
  go_wp2_with fail
  all_goals first | (exfalso; omega) | skip
  go_ret
  exact ⟨rfl, rfl⟩
theorem there_no (a : Option Addr) (n c : Nat) (at' k : Int) (w : World) (hn : n ≤ 17592186044416) (h : ¬ There n at' k) :
    Calls Try.prog 30 #[.slice a n c, .int .i64 at', .int .i64 k] w fun e w' => e = .returned (.bool false) ∧ w = w' := by
  have h' : at' < 0 ∨ (0 ≤ at' ∧ k < 0) ∨ (0 ≤ at' ∧ 0 ≤ k ∧ (n : Int) < at') ∨ (0 ≤ at' ∧ 0 ≤ k ∧ at' ≤ n ∧ (n : Int) - at' < k) := by unfold There at h; omega
  clear h
  rcases h' with h | ⟨h1, h2⟩ | ⟨h1, h2, h3⟩ | ⟨h1, h2, h3, h4⟩
  all_goals go_enter Try.func30, Try.ntmps30
  all_goals go_wp2_with fail
  all_goals first | (exfalso; omega) | skip
  all_goals go_ret
  all_goals first | exact ⟨rfl, rfl⟩ | exact ⟨by simp; omega, rfl⟩
/-- The ending of a call that returns a new list. -/
def GivesList (k : IntKind) (e : TypeId) (w : World) (xs : List Int) (en : Ending) (w' : World) : Prop := ∃ a c, en = .returned (.slice a xs.length c) ∧ Made k e w xs a c w'
/-- The ending of a call that returns a new list and a number. -/
def GivesPair (k : IntKind) (e : TypeId) (w : World) (xs : List Int) (r : Int) (en : Ending) (w' : World) : Prop := ∃ a c, en = .returned (.tuple #[.slice a xs.length c, .int .i64 r]) ∧ Made k e w xs a c w'
theorem gives_list {k : IntKind} {e : TypeId} {w W : World} {v : Value} {zs : List Int} (h : Grows k e w W v zs) : GivesList k e w zs (.returned v) W := by
  obtain ⟨a, c, rfl, hm⟩ := h.made
  exact ⟨a, c, rfl, hm⟩
theorem gives_pair {k : IntKind} {e : TypeId} {w W : World} {v : Value} {zs xs : List Int} {r : Int} (h : Grows k e w W v zs) (hx : zs = xs) : GivesPair k e w xs r (.returned (.tuple #[v, .int .i64 r])) W := by
  subst hx
  obtain ⟨a, c, rfl, hm⟩ := h.made
  exact ⟨a, c, rfl, hm⟩

theorem twin_any (a : Option Addr) (n c : Nat) (xs : List Int) (w : World) (va : Sees w .u64 a n c xs) :
    Calls Try.prog 19 #[.slice a n c] w (GivesList .u64 34 w xs) := by
  have htop := va.top
  have G0 := Grows.lit0 .u64 34 (Below.refl w.heap.size w)
  have V := va.keep (below_new (o := .cells #[] 34) (Below.refl _ _))
  go_enter Try.func19, Try.ntmps19
  go_wp2_with (at_builtin; refine wp_append rfl _ _ 23 rfl .u64 34 Try.underlying23 info_word w _ [] rfl G0 a n c xs rfl V (by simpa using htop) ?_)
  intro v1 w1 G1
  go_wp2
  go_ret
  exact gives_list G1

theorem rget_bad (a : Option Addr) (n c : Nat) (p k : Int) (w : World) (h : ¬ Img n) :
    Calls Try.prog 20 #[.slice a n c, .int .i64 p, .int .i64 k] w fun e w' => e = .returned (.tuple #[.slice none 0 0, .int .i64 8]) ∧ w = w' := by
  go_enter Try.func20, Try.ntmps20
  go_wp2_with fail
  refine (rcheck_no _ n c _ h).mono ?_
  rintro e w' ⟨rfl, rfl⟩
  go_wp2_with fail
  go_ret2
  exact ⟨rfl, rfl⟩
theorem rget_arg (a : Option Addr) (n c : Nat) (p k : Int) (w : World) (h : Img n) (ht : ¬ There n p k) :
    Calls Try.prog 20 #[.slice a n c, .int .i64 p, .int .i64 k] w fun e w' => e = .returned (.tuple #[.slice none 0 0, .int .i64 2]) ∧ w = w' := by
  go_enter Try.func20, Try.ntmps20
  go_wp2_with fail
  refine (rcheck_yes _ n c _ h).mono ?_
  rintro e w' ⟨rfl, rfl⟩
  go_wp2_with fail
  refine (there_no _ n c _ _ _ (by have := h.2.1; omega) ht).mono ?_
  rintro e w' ⟨rfl, rfl⟩
  go_wp2_with fail
  go_ret2
  exact ⟨rfl, rfl⟩
theorem rget_yes (a : Option Addr) (n c : Nat) (A K : Nat) (xs : List Int) (w : World) (va : Sees w .u64 a n c xs) (h : Img n) (ht : A + K ≤ n) :
    Calls Try.prog 20 #[.slice a n c, .int .i64 A, .int .i64 K] w (GivesPair .u64 34 w ((xs.drop A).take K) 0) := by
  have htop := va.top
  have hle := va.le
  obtain ⟨b, off, rfl⟩ := va.lies (by have := h.1; omega)
  obtain ⟨ad, had, hsl⟩ := run_cut b off n c A K A (A + K) rfl rfl ht hle
  have G0 := Grows.lit0 .u64 34 (Below.refl w.heap.size w)
  have V := (va.cut A K ht had).keep (below_new (o := .cells #[] 34) (Below.refl _ _))
  have HT : There n A K := ⟨by omega, by omega, by omega, by omega⟩
  clear had
  go_enter Try.func20, Try.ntmps20
  go_wp2_with fail
  refine (rcheck_yes _ n c _ h).mono ?_
  rintro e w' ⟨rfl, rfl⟩
  go_wp2_with fail
  refine (there_yes _ n c _ _ _ htop HT).mono ?_
  rintro e w' ⟨rfl, rfl⟩
  go_wp2_with (at_builtin; refine wp_append rfl _ _ 23 rfl .u64 34 Try.underlying23 info_word w _ [] rfl G0 (some ad) K (c - A) ((xs.drop A).take K) rfl V (by simp; omega) ?_)
  intro v1 w1 G1
  go_wp2
  go_ret2
  exact gives_pair G1 rfl

theorem rput_bad (a : Option Addr) (n c : Nat) (p : Int) (b : Option Addr) (m d : Nat) (w : World) (h : ¬ Img n) :
    Calls Try.prog 21 #[.slice a n c, .int .i64 p, .slice b m d] w fun e w' => e = .returned (.tuple #[.slice none 0 0, .int .i64 8]) ∧ w = w' := by
  go_enter Try.func21, Try.ntmps21
  go_wp2_with fail
  refine (rcheck_no _ n c _ h).mono ?_
  rintro e w' ⟨rfl, rfl⟩
  go_wp2_with fail
  go_ret2
  exact ⟨rfl, rfl⟩
theorem rput_arg (a : Option Addr) (n c : Nat) (p : Int) (b : Option Addr) (m d : Nat) (w : World) (h : Img n) (ht : ¬ There n p m) :
    Calls Try.prog 21 #[.slice a n c, .int .i64 p, .slice b m d] w fun e w' => e = .returned (.tuple #[.slice none 0 0, .int .i64 2]) ∧ w = w' := by
  go_enter Try.func21, Try.ntmps21
  go_wp2_with fail
  refine (rcheck_yes _ n c _ h).mono ?_
  rintro e w' ⟨rfl, rfl⟩
  go_wp2_with fail
  refine (there_no _ n c _ _ _ (by have := h.2.1; omega) ht).mono ?_
  rintro e w' ⟨rfl, rfl⟩
  go_wp2_with fail
  go_ret2
  exact ⟨rfl, rfl⟩
/-- The image with some words in the place of a range. -/
def putL (xs : List Int) (A : Nat) (ys : List Int) : List Int := xs.take A ++ (ys ++ xs.drop (A + ys.length))
theorem rput_yes (a : Option Addr) (n c : Nat) (A : Nat) (b : Option Addr) (m d : Nat) (xs ys : List Int) (w : World) (va : Sees w .u64 a n c xs) (vb : Sees w .u64 b m d ys) (h : Img n) (ht : A + m ≤ n) :
    Calls Try.prog 21 #[.slice a n c, .int .i64 A, .slice b m d] w (GivesPair .u64 34 w (putL xs A ys) 0) := by
  have htop := va.top
  have hle := va.le
  have hlx := va.len
  have hly := vb.len
  obtain ⟨b0, off, rfl⟩ := va.lies (by have := h.1; omega)
  have hu := run_upto b0 off n c A A rfl (by omega) hle
  obtain ⟨ad, had, hsl⟩ := run_from b0 off n c (A + m) (A + m) (by omega) ht hle
  have G0 := Grows.lit0 .u64 34 (Below.refl w.heap.size w)
  have V1 := (va.upto A (by omega)).keep (below_new (o := .cells #[] 34) (Below.refl _ _))
  have V3 := va.cut (A + m) (n - (A + m)) (by omega) had
  have HT : There n A m := ⟨by omega, by omega, by omega, by omega⟩
  have e1 : (xs.drop (A + m)).take (n - (A + m)) = xs.drop (A + m) := List.take_of_length_le (by rw [List.length_drop]; omega)
  have E := Lib.hid (show xs.take A ++ (ys ++ (xs.drop (A + m)).take (n - (A + m))) = putL xs A ys from by
    unfold putL
    rw [hly, e1])
  clear e1
  have l1 : (xs.take A).length = A := by rw [List.length_take]; omega
  have l2 : (xs.take A ++ ys).length = A + m := by rw [List.length_append]; omega
  have L1 := Lib.hid l1
  have L2 := Lib.hid l2
  clear had hlx hly l1 l2
  go_enter Try.func21, Try.ntmps21
  go_wp2_with fail
  refine (rcheck_yes _ n c _ h).mono ?_
  rintro e w' ⟨rfl, rfl⟩
  go_wp2_with fail
  refine (there_yes _ n c _ _ _ htop HT).mono ?_
  rintro e w' ⟨rfl, rfl⟩
  go_wp2_with (at_builtin; refine wp_append rfl (.tmp 18) (.tmp 21) 23 rfl .u64 34 Try.underlying23 info_word w _ [] rfl G0 _ A c (xs.take A) rfl V1 (by simp; omega) ?_)
  intro v1 w1 G1
  go_wp2_with (at_builtin; refine wp_append rfl (.tmp 23) (.tmp 24) 23 rfl .u64 34 Try.underlying23 info_word w v1 (xs.take A) rfl G1 b m d ys rfl (vb.keep G1.below) (by rw [L1.out]; omega) ?_)
  intro v2 w2 G2
  clear G1
  go_wp2_with (at_builtin; refine wp_append rfl (.tmp 26) (.tmp 32) 23 rfl .u64 34 Try.underlying23 info_word w v2 _ rfl G2 _ _ _ _ rfl (V3.keep G2.below) (by rw [L2.out]; omega) ?_)
  intro v3 w3 G3
  clear G2
  go_wp2
  go_ret2
  exact gives_pair G3 E.out

theorem rline_bad (a : Option Addr) (n c : Nat) (p : Int) (w : World) (h : ¬ Img n) :
    Calls Try.prog 22 #[.slice a n c, .int .i64 p] w fun e w' => e = .returned (.tuple #[.int .i64 0, .int .i64 0, .int .i64 8]) ∧ w = w' := by
  go_enter Try.func22, Try.ntmps22
  go_wp2_with fail
  refine (rcheck_no _ n c _ h).mono ?_
  rintro e w' ⟨rfl, rfl⟩
  go_wp2_with fail
  go_ret3
  exact ⟨rfl, rfl⟩
theorem rline_arg (a : Option Addr) (n c : Nat) (p : Int) (w : World) (h : Img n) (hp : p < 0 ∨ (0 ≤ p ∧ (n : Int) ≤ p)) :
    Calls Try.prog 22 #[.slice a n c, .int .i64 p] w fun e w' => e = .returned (.tuple #[.int .i64 0, .int .i64 0, .int .i64 2]) ∧ w = w' := by
  rcases hp with hp | ⟨hp1, hp2⟩
  all_goals
    go_enter Try.func22, Try.ntmps22
    go_wp2_with fail
    refine (rcheck_yes _ n c _ h).mono ?_
    rintro e w' ⟨rfl, rfl⟩
    go_wp2_with fail
    all_goals first | (exfalso; omega) | skip
    all_goals go_ret3
    all_goals exact ⟨rfl, rfl⟩
theorem rline_yes (a : Option Addr) (n c : Nat) (p : Int) (w : World) (h : Img n) (h1 : 0 ≤ p) (h2 : p < n) :
    Calls Try.prog 22 #[.slice a n c, .int .i64 p] w fun e w' => e = .returned (.tuple #[.int .i64 (p / 8), .int .i64 (p - p % 8), .int .i64 0]) ∧ w = w' := by
  obtain ⟨g1, g2, g3⟩ := id h
  clear g3
  go_enter Try.func22, Try.ntmps22
  go_wp2_with fail
  refine (rcheck_yes _ n c _ h).mono ?_
  rintro e w' ⟨rfl, rfl⟩
  go_wp2_with fail
  all_goals first | (exfalso; omega) | skip
  all_goals go_ret3
  all_goals exact ⟨rfl, rfl⟩

theorem rnew_no (n : Int) (w : World) (h : ¬ Img n) :
    Calls Try.prog 24 #[.int .i64 n] w fun e w' => e = .returned (.tuple #[.slice none 0 0, .int .i64 2]) ∧ w = w' := by
  go_enter Try.func24, Try.ntmps24
  go_wp2_with fail
  refine (size_no n _ h).mono ?_
  rintro e w' ⟨rfl, rfl⟩
  go_wp2_with fail
  go_ret2
  exact ⟨rfl, rfl⟩
theorem rnew_yes (n : Nat) (w : World) (h : Img n) :
    Calls Try.prog 24 #[.int .i64 n] w (GivesPair .u64 34 w (List.replicate n 0) 0) := by
  obtain ⟨g1, g2, g3⟩ := id h
  clear g3
  go_enter Try.func24, Try.ntmps24
  go_wp2_with fail
  refine (size_yes n _ h).mono ?_
  rintro e w' ⟨rfl, rfl⟩
  go_wp2_with (refine wp_make rfl (.tmp 7) (.tmp 7) 23 rfl .u64 34 Try.underlying23 info_word w (Below.refl _ _) .i64 .i64 n n n rfl rfl rfl rfl (by omega) ?_)
  intro w1 G1
  go_wp2
  go_ret2
  exact gives_pair G1 rfl
end Go.Proofs.Ytbgeinaldkjddaa.Ir
