/-
  Contracts of the reference of package cache, continued: sizes, addresses, what an operation begins with, new devices.
-/
import Derived.Test.YtekgjnbijopieaaCref
namespace Go.Proofs.Ytekgjnbijopieaa.Cr
open Go.RowKit Go.Proofs.Ytekgjnbijopieaa.Sl Go.Proofs.Ytekgjnbijopieaa.St Go.Proofs.Ytekgjnbijopieaa.Ir Go.Proofs.Ytekgjnbijopieaa.Dv
set_option maxRecDepth 100000
set_option maxHeartbeats 1000000

theorem chk_ok {D : Dev} (h : okD D = true) : chk D = 0 := by unfold chk code8; rw [if_pos h]
theorem chk_bad {D : Dev} (h : ¬ okD D = true) : chk D = 8 := by unfold chk code8; rw [if_neg h]
theorem asked_bad {D : Dev} {p : Int} (h : ¬ okD D = true) : asked D p = 8 := by unfold asked; rw [if_neg h]
theorem asked_arg {D : Dev} {p : Int} (h : okD D = true) (hp : p < 0 ∨ (D.im.length : Int) ≤ p) : asked D p = 2 := by unfold asked; rw [if_pos h, if_pos hp]
theorem asked_ok {D : Dev} {p : Int} (h : okD D = true) (h0 : 0 ≤ p) (h1 : p < D.im.length) : asked D p = 0 := by unfold asked; rw [if_pos h, if_neg (by omega)]

theorem asked_parts {D : Dev} {p : Int} (h : asked D p = 0) : okD D = true ∧ (0 ≤ p ∧ p < D.im.length) := by
  have hok : okD D = true := by
    by_cases hk : okD D = true
    · exact hk
    · rw [asked_bad hk] at h
      cases h
  refine ⟨hok, ?_⟩
  rcases (by omega : (p < 0 ∨ (D.im.length : Int) ≤ p) ∨ (0 ≤ p ∧ p < D.im.length)) with h1 | h1
  · rw [asked_arg hok h1] at h
    cases h
  · exact h1
/-- A device is great. -/
def greatD (n m : Nat) : Bool := decide (2100 < n) || decide (2100 < m)
theorem rgreat_any (a : Option Addr) (n c : Nat) (b : Option Addr) (m d : Nat) (l : Int) (q : Bool) (w : World) (hm : m ≤ 17592186044416) :
    Calls Try.prog 19 #[dev a n c b m d l q] w fun e w' => e = .returned (.bool (greatD n m)) ∧ Below w.heap.size w w' := by
  by_cases h : 2100 < n
  · have HG := Lib.hid (show greatD n m = true from by unfold greatD; rw [decide_eq_true h]; rfl)
    go_enter Try.func19, Try.ntmps19
    go_wp2_with fail
    refine (great_yes _ n c _ h).mono ?_
    rintro e w' ⟨rfl, rfl⟩
    go_wp2_with fail
    go_ret
    rw [HG.out]
    exact ⟨rfl, below_new (Below.refl _ _)⟩
  · have HG := Lib.hid (show greatD n m = decide ((2100 : Int) < (m : Int)) from by
      unfold greatD
      rw [decide_eq_false h, Bool.false_or]
      exact decide_eq_decide.2 (by omega))
    go_enter Try.func19, Try.ntmps19
    go_wp2_with fail
    refine (great_no _ n c _ (by omega)).mono ?_
    rintro e w' ⟨rfl, rfl⟩
    by_cases h2 : (2100 : Int) < (m : Int)
    · have hb : decide ((2100 : Int) < (m : Int)) = true := decide_eq_true h2
      go_wp2_with fail
      go_ret
      rw [HG.out, hb]
      exact ⟨rfl, below_new (Below.refl _ _)⟩
    · have hb : decide ((2100 : Int) < (m : Int)) = false := decide_eq_false h2
      go_wp2_with fail
      go_ret
      rw [HG.out, hb]
      exact ⟨rfl, below_new (Below.refl _ _)⟩
theorem rask_any (a : Option Addr) (n c : Nat) (b : Option Addr) (m d : Nat) (l : Int) (q : Bool) (D : Dev) (p : Int) (w : World) (va : SeesD w a n c b m d l q D) :
    Calls Try.prog 40 #[dev a n c b m d l q, .int .i64 p] w fun e w' => e = .returned (.int .i64 (asked D p)) ∧ Below w.heap.size w w' := by
  have hl := va.im.len
  have hnt := va.im.top
  have V := va.keep (below_new (o := box a n c b m d l q) (Below.refl w.heap.size w))
  by_cases h : okD D = true
  · have hc := chk_ok h
    rcases (by omega : p < 0 ∨ (0 ≤ p ∧ (n : Int) ≤ p) ∨ (0 ≤ p ∧ p < n)) with h1 | ⟨h1, h2⟩ | ⟨h1, h2⟩
    case' inl => have HA := Lib.hid (asked_arg (p := p) h (.inl h1))
    case' inr.inl => have HA := Lib.hid (asked_arg (p := p) h (.inr (by omega)))
    case' inr.inr => have HA := Lib.hid (asked_ok (p := p) h h1 (by omega))
    all_goals
      go_enter Try.func40, Try.ntmps40
      go_wp2_with fail
      refine (rchk_any _ _ _ _ _ _ _ _ D _ V).mono ?_
      rintro e w' ⟨rfl, o, j, rfl⟩
      go_wp2_with fail
      all_goals first | (exfalso; omega) | skip
      all_goals go_ret
      all_goals rw [HA.out]
      all_goals exact ⟨rfl, below_drewN (below_new (below_new (Below.refl _ _))) _⟩
  · have hc := chk_bad h
    have HA := Lib.hid (asked_bad (p := p) h)
    go_enter Try.func40, Try.ntmps40
    go_wp2_with fail
    refine (rchk_any _ _ _ _ _ _ _ _ D _ V).mono ?_
    rintro e w' ⟨rfl, o, j, rfl⟩
    go_wp2_with fail
    go_ret
    rw [HA.out]
    exact ⟨rfl, below_drewN (below_new (below_new (Below.refl _ _))) _⟩

theorem spent_none {D : Dev} (h : D.left = 0) : spent D = { D with down := true } := by unfold spent; rw [if_pos h]
theorem spent_one {D : Dev} (h : 0 < D.left) : spent D = { D with left := D.left - 1 } := by unfold spent; rw [if_neg (by omega), if_pos h]
theorem spent_any {D : Dev} (h : D.left < 0) : spent D = D := by unfold spent; rw [if_neg (by omega), if_neg (by omega)]
theorem rspent_any (a : Option Addr) (n c : Nat) (b : Option Addr) (m d : Nat) (l : Int) (q : Bool) (D : Dev) (w : World) (va : SeesD w a n c b m d l q D) :
    Calls Try.prog 54 #[dev a n c b m d l q] w fun e w' => ∃ v, e = .returned (.tuple #[v, .bool (made D)]) ∧ MadeD w (spent D) v w' := by
  obtain rfl := va.left
  obtain rfl := va.down
  have hlo := va.lo
  have hhi := va.hi
  have B2 : Below w.heap.size w ((w.alloc (box a n c b m d D.left D.down)).alloc zbox) := below_new (below_new (Below.refl _ _))
  have X1 := (Box.new w #[.slice a n c, .slice b m d, .int .i64 D.left, .bool D.down] 25).alloc zbox
  have X2 := Box.new1 w (box a n c b m d D.left D.down) #[.slice none 0 0, .slice none 0 0, .int .i64 0, .bool false] 25
  rcases (by omega : D.left = 0 ∨ 0 < D.left ∨ D.left < 0) with hl | hl | hl
  case' inl =>
    have HS := Lib.hid (spent_none hl)
    have HM := Lib.hid (show made D = false from by unfold made; rw [decide_eq_true hl]; rfl)
    have hb : (D.left == 0) = true := by simp [hl]
    replace hl := Lib.hid hl
  case' inr.inl =>
    have HS := Lib.hid (spent_one hl)
    have HM := Lib.hid (show made D = true from by unfold made; rw [decide_eq_false (by omega)]; rfl)
    have hb : (D.left == 0) = false := by simp; omega
  case' inr.inr =>
    have HS := Lib.hid (spent_any hl)
    have HM := Lib.hid (show made D = true from by unfold made; rw [decide_eq_false (by omega)]; rfl)
    have hb : (D.left == 0) = false := by simp; omega
  all_goals
    go_enter Try.func54, Try.ntmps54
    go_wp2_with fail
    refine (rtwin_any _ _ _ _ _ _ _ _ D _ (va.keep B2)).mono ?_
    rintro e w3 ⟨v3, rfl, M3⟩
    have C3 := below_then B2 M3.below
    have t1 := (X1.keep M3.below).lt
    have t2 := (X2.keep M3.below).lt
    obtain ⟨⟨x0, x1, x2, x3⟩, f0, f1, f2, f3⟩ := (X1.keep M3.below).open4
    obtain ⟨⟨y0, y1, y2, y3⟩, g0, g1, g2, g3⟩ := (X2.keep M3.below).open4
    obtain ⟨a3, c3, b3, d3, rfl, O1, O2⟩ := M3.lay
    have P1 := owns_mono O1 (show w.heap.size + 2 ≤ _ by simp)
    have P2 := owns_mono O2 (show w.heap.size + 2 ≤ _ by simp)
    clear X1 X2 O1 O2 M3 B2
    go_wp2
    refine bodyPost_ret (by simp [results, Try.results54, go_sem, t2, y0, y1, y2, y3]; try rfl) rfl ?_
    rw [HS.out, HM.out]
    refine ⟨_, rfl, MadeD.mk (w.heap.size + 2) ?_ (by omega) (owns_mid P1 (Nat.le_refl _) ?_ (Nat.le_refl _)) (owns_mid P2 (Nat.le_refl _) ?_ (Nat.le_refl _)) rfl rfl⟩
    · repeat' (first | (with_reducible refine Below.setCell ?_ (by simp) _) | (with_reducible refine below_new ?_) | with_reducible exact C3)
    · repeat' (first | (with_reducible refine Mid.set ?_ (by left; simp) _) | (with_reducible refine Mid.alloc ?_ _) | with_reducible exact Mid.refl _ _)
    · repeat' (first | (with_reducible refine Mid.set ?_ (by left; simp) _) | (with_reducible refine Mid.alloc ?_ _) | with_reducible exact Mid.refl _ _)
end Go.Proofs.Ytekgjnbijopieaa.Cr
