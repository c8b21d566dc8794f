/-
  Searching among dirty words by their addresses: how numbers are compared, the binary search of Go's library, and what it returns on a list whose addresses increase.
-/
import Derived.Test.YtpdgefmchoonnaaDev
namespace Go.Proofs.Ytpdgefmchoonnaa.Fd
open Go.RowKit Go.Proofs.Ytpdgefmchoonnaa.Sl Go.Proofs.Ytpdgefmchoonnaa.St Go.Proofs.Ytpdgefmchoonnaa.Ir Go.Proofs.Ytpdgefmchoonnaa.Dv
set_option maxRecDepth 100000
set_option maxHeartbeats 4000000

/-- How many words lie before an address, and whether the next one has it. -/
def lowN (t : Int) : List Dw → Nat
  | [] => 0
  | x :: xs => if x.p < t then lowN t xs + 1 else 0
def hasN (t : Int) : List Dw → Bool
  | [] => false
  | x :: xs => if x.p < t then hasN t xs else decide (x.p = t)
theorem lowN_le (t : Int) : ∀ xs : List Dw, lowN t xs ≤ xs.length
  | [] => Nat.le_refl _
  | x :: xs => by
    unfold lowN
    split
    · have := lowN_le t xs
      simp
      omega
    · omega
theorem low_here {t : Int} : ∀ {xs : List Dw} {k : Nat}, (∀ i (h : i < xs.length), i < k → xs[i].p < t) → k < xs.length → (∀ h : k < xs.length, t ≤ xs[k].p) → lowN t xs = k ∧ ∀ h : k < xs.length, hasN t xs = decide (xs[k].p = t)
  | x :: xs, 0, _, _, h3 => by
    have h0 := h3 (by simp)
    simp only [List.getElem_cons_zero] at h0
    refine ⟨by unfold lowN; rw [if_neg (by omega)], fun _ => by unfold hasN; rw [if_neg (by omega)]; rfl⟩
  | x :: xs, k + 1, h1, h2, h3 => by
    have h0 := h1 0 (by simp) (by omega)
    simp only [List.getElem_cons_zero] at h0
    obtain ⟨e1, e2⟩ := low_here (xs := xs) (k := k) (fun i h hk => h1 (i + 1) (by simp; omega) (by omega)) (by simpa using h2) (fun h => h3 (by simp; omega))
    refine ⟨by unfold lowN; rw [if_pos h0, e1], fun h => by unfold hasN; rw [if_pos h0]; exact e2 (by simpa using h)⟩
theorem low_end {t : Int} : ∀ {xs : List Dw}, (∀ i (h : i < xs.length), xs[i].p < t) → lowN t xs = xs.length ∧ hasN t xs = false
  | [], _ => ⟨rfl, rfl⟩
  | x :: xs, h1 => by
    have h0 := h1 0 (by simp)
    simp only [List.getElem_cons_zero] at h0
    obtain ⟨e1, e2⟩ := low_end (xs := xs) (fun i h => h1 (i + 1) (by simp; omega))
    refine ⟨by unfold lowN; rw [if_pos h0, e1]; rfl, by unfold hasN; rw [if_pos h0]; exact e2⟩
theorem okDl_lt {n : Int} : ∀ {xs : List Dw} {l : Int} {i j : Nat} (_ : okDl n l xs = true) (_ : i < j) (hj : j < xs.length), xs[i].p < xs[j].p
  | x :: xs, l, 0, j + 1, h, _, hj => by
    simp only [okDl, Bool.and_eq_true, decide_eq_true_eq] at h
    exact (okDl_at h.2.2 (by simpa using hj)).1
  | x :: xs, l, i + 1, j + 1, h, hi, hj => by
    simp only [okDl, Bool.and_eq_true, decide_eq_true_eq] at h
    exact okDl_lt (i := i) (j := j) h.2.2 (by omega) (by simpa using hj)

def cmpI (a b : Int) : Int := if a < b then -1 else if b < a then 1 else 0
theorem cmpI_lt {a b : Int} (h : a < b) : cmpI a b = -1 := by unfold cmpI; rw [if_pos h]
theorem cmpI_gt {a b : Int} (h : b < a) : cmpI a b = 1 := by unfold cmpI; rw [if_neg (by omega), if_pos h]
theorem cmpI_eq {a b : Int} (h : a = b) : cmpI a b = 0 := by unfold cmpI; rw [if_neg (by omega), if_neg (by omega)]
theorem nan_any (a : Int) (w : World) : Calls Try.prog 37 #[.int .i64 a] w fun e w' => e = .returned (.bool false) ∧ w = w' := by
  have hb : (a != a) = false := by simp
  go_enter Try.func37, Try.ntmps37
  go_wp2
  go_ret
  exact ⟨rfl, rfl⟩
theorem cmp_any (a b : Int) (w : World) : Calls Try.prog 30 #[.int .i64 a, .int .i64 b] w fun e w' => e = .returned (.int .i64 (cmpI a b)) ∧ w = w' := by
  rcases (by omega : a < b ∨ (b < a ∧ ¬ a < b) ∨ (a = b ∧ ¬ a < b ∧ ¬ b < a)) with h | ⟨h, h'⟩ | ⟨h, h1, h2⟩
  case' inl => have HC := Lib.hid (cmpI_lt h)
  case' inr.inl => have HC := Lib.hid (cmpI_gt h)
  case' inr.inr =>
    have HC := Lib.hid (cmpI_eq h)
    clear h
  all_goals
    go_enter Try.func30, Try.ntmps30
    go_wp2_with fail
    refine (nan_any _ _).mono ?_
    rintro e w' ⟨rfl, rfl⟩
    go_wp2_with fail
    refine (nan_any _ _).mono ?_
    rintro e w' ⟨rfl, rfl⟩
    go_wp2_with fail
    all_goals first | (exfalso; omega) | skip
    all_goals go_ret
    all_goals rw [HC.out]
    all_goals exact ⟨rfl, rfl⟩
/-- The function that find hands to the search. -/
theorem clo_any (p v : Int) (f : Bool) (t : Int) (w : World) : Calls Try.prog 29 #[.agg #[.int .i64 p, .int .u64 v, .bool f], .int .i64 t] w fun e w' => e = .returned (.int .i64 (cmpI p t)) ∧ Below w.heap.size w w' := by
  go_enter Try.func29, Try.ntmps29
  go_wp2_with fail
  refine (cmp_any _ _ _).mono ?_
  rintro e w' ⟨rfl, rfl⟩
  go_wp2_with fail
  go_ret
  exact ⟨rfl, below_new (Below.refl _ _)⟩
theorem search_any (b : Option Addr) (m d : Nat) (xs : List Dw) (n l t : Int) (w : World) (va : SeesR dw w b m d xs) (hok : okDl n l xs = true) :
    Calls Try.prog 28 #[.slice b m d, .int .i64 t, .func (.func 29) #[] #[]] w fun e w' =>
      e = .returned (.tuple #[.int .i64 (lowN t xs), .bool (hasN t xs)]) ∧ Below w.heap.size w w' := by
  have hll := va.len
  have hm := va.short
  have HOK := Lib.hid hok
  clear hok
  go_enter Try.func28, Try.ntmps28
  go_wp2_with fail
  go_loopw [9, 10] (fun s9 s10 wr => ∃ lo hi : Nat, s9 = .int .i64 lo ∧ s10 = .int .i64 hi ∧ lo ≤ hi ∧ hi ≤ m ∧ Hid (∀ i (h : i < xs.length), i < lo → xs[i].p < t) ∧ Hid (∀ i (h : i < xs.length), hi ≤ i → t ≤ xs[i].p) ∧ Below w.heap.size w wr)
    (fun s9 s10 _ => (intOf s10).toNat - (intOf s9).toNat)
  case atStart => exact ⟨0, m, rfl, rfl, Nat.zero_le _, Nat.le_refl _, Lib.hid (fun i _ h => absurd h (Nat.not_lt_zero _)), Lib.hid (fun i h h' => by omega), Below.refl _ _⟩
  case round =>
    obtain ⟨lo, hi, rfl, rfl, hlh, hin, HL, HH, BW⟩ := hrel
    by_cases hlt : lo < hi
    · obtain ⟨b0, o0, rfl⟩ := va.lies (by omega)
      have hk : (lo + hi) / 2 < xs.length := by omega
      obtain ⟨c1, c2, c4⟩ := dw_at (va.keep BW) ((lo + hi) / 2) hk
      generalize hX : xs[(lo + hi) / 2] = X at c1 c2 c4
      rcases (by omega : X.p < t ∨ (t ≤ X.p ∧ X.p = t) ∨ (t < X.p)) with hc | hc | hc
      case' inl =>
        have hcmp := cmpI_lt hc
        have HN := Lib.hid (show ∀ i (h : i < xs.length), i < (lo + hi) / 2 + 1 → xs[i].p < t from fun i h hi' => by
          rcases (by omega : i < (lo + hi) / 2 ∨ i = (lo + hi) / 2) with h1 | h1
          · have := okDl_lt HOK.out h1 hk
            rw [hX] at this
            omega
          · subst h1
            rw [hX]
            exact hc)
      case' inr.inl => have hcmp := cmpI_eq hc.2
      case' inr.inr => have hcmp := cmpI_gt hc
      case' inr.inl | inr.inr =>
        have HN := Lib.hid (show ∀ i (h : i < xs.length), (lo + hi) / 2 ≤ i → t ≤ xs[i].p from fun i h hi' => by
          rcases (by omega : (lo + hi) / 2 < i ∨ i = (lo + hi) / 2) with h1 | h1
          · have := okDl_lt HOK.out h1 h
            rw [hX] at this
            omega
          · subst h1
            rw [hX]
            omega)
      all_goals
        clear hc hX
        go_wp2_with fail
        refine (clo_any X.p X.v X.f t _).mono ?_
        rintro e w2 ⟨rfl, b2⟩
        rw [hcmp]
        go_wp2_with fail
        go_roundw
        case rel => first | exact ⟨(lo + hi) / 2 + 1, hi, by go_num, rfl, by omega, hin, HN, HH, below_then BW b2⟩ | exact ⟨lo, (lo + hi) / 2, rfl, by go_num, by omega, by omega, HL, HN, below_then BW b2⟩
        case measure => simp [intOf]; omega
    · obtain rfl : lo = hi := by omega
      by_cases hlo : lo < m
      · obtain ⟨b0, o0, rfl⟩ := va.lies (by omega)
        have hk : lo < xs.length := by omega
        obtain ⟨c1, c2, c4⟩ := dw_at (va.keep BW) lo hk
        obtain ⟨e1, e2⟩ := low_here HL.out hk (fun h => HH.out lo h (Nat.le_refl _))
        have HX := HH.out lo hk (Nat.le_refl _)
        have E1 := Lib.hid e1
        have E2 := Lib.hid (e2 hk)
        clear e1 e2
        generalize xs[lo] = X at c1 c2 c4 E2 HX
        rcases (by omega : X.p = t ∨ t < X.p) with hc | hc
        case' inl =>
          have hcmp := cmpI_eq hc
          have E3 := Lib.hid (E2.out.trans (decide_eq_true hc))
        case' inr =>
          have hcmp := cmpI_gt hc
          have E3 := Lib.hid (E2.out.trans (decide_eq_false (by omega)))
        all_goals
          clear hc HX E2
          go_wp2_with fail
          refine (clo_any X.p X.v X.f t _).mono ?_
          rintro e w2 ⟨rfl, b2⟩
          rw [hcmp]
          go_wp2_with fail
          go_ret2
          rw [E1.out, E3.out]
          exact ⟨rfl, below_then BW b2⟩
      · obtain ⟨e1, e2⟩ := low_end (xs := xs) (t := t) (fun i h => HL.out i h (by omega))
        have E1 := Lib.hid (show lowN t xs = lo from e1.trans (by omega))
        have E2 := Lib.hid e2
        clear e1 e2
        go_wp2_with fail
        go_ret2
        rw [E1.out, E2.out]
        exact ⟨rfl, BW⟩
/-- find, on words whose addresses increase. -/
theorem find_any (b : Option Addr) (m d : Nat) (xs : List Dw) (n l t : Int) (w : World) (va : SeesR dw w b m d xs) (hok : okDl n l xs = true) :
    Calls Try.prog 18 #[.slice b m d, .int .i64 t] w fun e w' => e = .returned (.tuple #[.int .i64 (lowN t xs), .bool (hasN t xs)]) ∧ Below w.heap.size w w' := by
  have HOK := Lib.hid hok
  clear hok
  go_enter Try.func18, Try.ntmps18
  go_wp2_with fail
  refine (search_any b m d xs n l t _ va HOK.out).mono ?_
  rintro e w' ⟨rfl, B⟩
  go_wp2_with fail
  go_ret2
  exact ⟨rfl, B⟩
end Go.Proofs.Ytpdgefmchoonnaa.Fd
