/-
  Operations of package crash as the laws use them: devices that come back are told by variables, or by numbers; the chapter's example, and that it holds.
-/
import Derived.Test.YtkjhpjgdcjccjaaDoorKarm
import Derived.Test.YtkjhpjgdcjccjaaDoorKref
import Derived.Test.YtkjhpjgdcjccjaaDoorCachey
namespace Go.Proofs.YtkjhpjgdcjccjaaDoor.Kl
open Go.RowKit Go.Proofs.YtkjhpjgdcjccjaaDoor.Sl Go.Proofs.YtkjhpjgdcjccjaaDoor.St Go.Proofs.YtkjhpjgdcjccjaaDoor.Ir Go.Proofs.YtkjhpjgdcjccjaaDoor.Dv Go.Proofs.YtkjhpjgdcjccjaaDoor.Cr Go.Proofs.YtkjhpjgdcjccjaaDoor.Cu Go.Proofs.YtkjhpjgdcjccjaaDoor.Cx Go.Proofs.YtkjhpjgdcjccjaaDoor.Cy Go.Proofs.YtkjhpjgdcjccjaaDoor.Cp Go.Proofs.YtkjhpjgdcjccjaaDoor.Kp
set_option maxRecDepth 100000

/-- A call has returned a device and an error, told by variables alone. -/
def GivesV (r : Int) (w : World) (X : Dev) (e : Ending) (w' : World) : Prop :=
  ∃ a n c b m d l q, e = .returned (.tuple #[dev a n c b m d l q, .int .i64 r]) ∧ SeesD w' a n c b m d l q X ∧ Below w.heap.size w w'
theorem givesV {w w' : World} {X : Dev} {v : Value} {r : Int} (h : MadeD w X v w') (hf : Fine X) : GivesV r w X (.returned (.tuple #[v, .int .i64 r])) w' := by
  obtain ⟨a, c, b, d, rfl, hs, hb⟩ := seenD h hf
  exact ⟨a, _, c, b, _, d, _, _, rfl, hs, hb⟩
/-- A call has returned a list of numbers and an error. -/
def GivesL (k : Nat) (r : Int) (w : World) (Z : List Int) (e : Ending) (w' : World) : Prop :=
  ∃ a c, e = .returned (.tuple #[.slice a k c, .int .i64 r]) ∧ Sees w' .i64 a k c Z ∧ Below w.heap.size w w'
theorem fine_armR {D : Dev} {t : Int} (h : Fine D) : Fine (armR D t) := by
  unfold armR
  split
  · next h1 => exact fine_arm h h1.2
  · exact fine_zero
theorem fine_crashR {D : Dev} {M : Int} (h : Fine D) : Fine (crashR D M) := by
  unfold crashR
  split
  · exact fine_crash h
  · exact fine_zero
theorem chosR_ok {D : Dev} {M : Int} (h : Fine D) : (∀ x ∈ chosR D M, (Lit.int .i64 x).wf = true) ∧ (chosR D M).length ≤ 17592186044416 := by
  have hl := h.ll
  unfold chosR
  split
  · have h1 := chosen_len M D.dl.length
    exact ⟨chosen_wf (by omega), by omega⟩
  · exact ⟨by simp, by simp⟩

/-! Any device. -/
theorem arm_v (a : Option Addr) (n c : Nat) (b : Option Addr) (m d : Nat) (l : Int) (q : Bool) (D : Dev) (t : Int) (w : World) (va : SeesD w a n c b m d l q D) (ht : -9223372036854775808 ≤ t ∧ t ≤ 9223372036854775807) (X : Dev) (hX : armR D t = X) (r : Int) (hr : armE D t = r) :
    Calls Tryd.prog 9 #[dev a n c b m d l q, .int .i64 t] w (GivesV r w X) := by
  subst hX hr
  refine (arm_any _ _ _ _ _ _ _ _ D t w va ht).mono ?_
  rintro e w' ⟨v, rfl, h⟩
  exact givesV h (fine_armR va.fine)
theorem rarm_v (a : Option Addr) (n c : Nat) (b : Option Addr) (m d : Nat) (l : Int) (q : Bool) (D : Dev) (t : Int) (w : World) (va : SeesD w a n c b m d l q D) (ht : -9223372036854775808 ≤ t ∧ t ≤ 9223372036854775807) (X : Dev) (hX : armR D t = X) (r : Int) (hr : armE D t = r) :
    Calls Tryd.prog 17 #[dev a n c b m d l q, .int .i64 t] w (GivesV r w X) := by
  subst hX hr
  refine (Kr.rarm_any _ _ _ _ _ _ _ _ D t w va ht).mono ?_
  rintro e w' ⟨v, rfl, h⟩
  exact givesV h (fine_armR va.fine)
theorem crash_v (a : Option Addr) (n c : Nat) (b : Option Addr) (m d : Nat) (l : Int) (q : Bool) (D : Dev) (M : Int) (w : World) (va : SeesD w a n c b m d l q D) (hM : 0 ≤ M ∧ M < 18446744073709551616) (L : Lost w) (X : Dev) (hX : crashR D M = X) (r : Int) (hr : chk D = r) :
    Calls Tryd.prog 10 #[dev a n c b m d l q, .int .u64 M] w (GivesV r w X) := by
  subst hX hr
  refine (crash_any _ _ _ _ _ _ _ _ D M w va hM L).mono ?_
  rintro e w' ⟨v, rfl, h⟩
  exact givesV h (fine_crashR va.fine)
theorem rcrash_v (a : Option Addr) (n c : Nat) (b : Option Addr) (m d : Nat) (l : Int) (q : Bool) (D : Dev) (M : Int) (w : World) (va : SeesD w a n c b m d l q D) (hM : 0 ≤ M ∧ M < 18446744073709551616) (X : Dev) (hX : crashR D M = X) (r : Int) (hr : chk D = r) :
    Calls Tryd.prog 18 #[dev a n c b m d l q, .int .u64 M] w (GivesV r w X) := by
  subst hX hr
  refine (Kr.rcrash_any _ _ _ _ _ _ _ _ D M w va hM).mono ?_
  rintro e w' ⟨v, rfl, h⟩
  exact givesV h (fine_crashR va.fine)
theorem givesL {w w' : World} {Z : List Int} {r : Int} {e : Ending} (h : GivesPair .i64 3 w Z r e w') (hw : ∀ x ∈ Z, (Lit.int .i64 x).wf = true) (ht : Z.length ≤ 17592186044416) (k : Nat) (hk : Z.length = k) : GivesL k r w Z e w' := by
  subst hk
  obtain ⟨a, c, rfl, hm⟩ := h
  exact ⟨a, c, rfl, hm.sees hw ht, hm.2⟩
theorem chosen_v (a : Option Addr) (n c : Nat) (b : Option Addr) (m d : Nat) (l : Int) (q : Bool) (D : Dev) (M : Int) (w : World) (va : SeesD w a n c b m d l q D) (hM : 0 ≤ M ∧ M < 18446744073709551616) (L : Lost w) (Z : List Int) (hZ : chosR D M = Z) (k : Nat) (hk : Z.length = k) (r : Int) (hr : chk D = r) :
    Calls Tryd.prog 11 #[dev a n c b m d l q, .int .u64 M] w (GivesL k r w Z) := by
  have hf := chosR_ok (M := M) va.fine
  subst hZ hr
  exact (chosen_any _ _ _ _ _ _ _ _ D M w va hM L).mono fun e w' h => givesL h hf.1 hf.2 k hk
theorem rchosen_v (a : Option Addr) (n c : Nat) (b : Option Addr) (m d : Nat) (l : Int) (q : Bool) (D : Dev) (M : Int) (w : World) (va : SeesD w a n c b m d l q D) (hM : 0 ≤ M ∧ M < 18446744073709551616) (Z : List Int) (hZ : chosR D M = Z) (k : Nat) (hk : Z.length = k) (r : Int) (hr : chk D = r) :
    Calls Tryd.prog 19 #[dev a n c b m d l q, .int .u64 M] w (GivesL k r w Z) := by
  have hf := chosR_ok (M := M) va.fine
  subst hZ hr
  exact (Kr.rchosen_any _ _ _ _ _ _ _ _ D M w va hM).mono fun e w' h => givesL h hf.1 hf.2 k hk

theorem twin_v (a : Option Addr) (n c : Nat) (b : Option Addr) (m d : Nat) (l : Int) (q : Bool) (D : Dev) (w : World) (va : SeesD w a n c b m d l q D) :
    Calls Tryd.prog 16 #[dev a n c b m d l q] w fun e w' => ∃ a n c b m d l q, e = .returned (dev a n c b m d l q) ∧ SeesD w' a n c b m d l q D ∧ Below w.heap.size w w' := by
  refine (rtwin_any _ _ _ _ _ _ _ _ D w va).mono ?_
  rintro e w' ⟨v, rfl, h⟩
  obtain ⟨a, c, b, d, rfl, hs, hb⟩ := seenD h va.fine
  exact ⟨a, _, c, b, _, d, _, _, rfl, hs, hb⟩
theorem sameInts_self (a b : Option Addr) (n c m d : Nat) (xs : List Int) (w : World) (va : Sees w .i64 a n c xs) (vb : Sees w .i64 b m d xs) :
    Calls Tryd.prog 13 #[.slice a n c, .slice b m d] w fun e w' => e = .returned (.bool true) ∧ Below w.heap.size w w' := by
  refine (sameInts_any a b n c m d xs xs w va vb).mono ?_
  rintro e w' ⟨rfl, j, rfl⟩
  exact ⟨by rw [decide_eq_true rfl], below_drewN (Below.refl _ _) _⟩
theorem same_eq4 (a : Option Addr) (n c : Nat) (b : Option Addr) (m d : Nat) (xs ys : List Int) (w : World) (va : Sees w .u64 a n c xs) (vb : Sees w .u64 b m d ys) (h : xs = ys) :
    Calls Tryd.prog 23 #[.slice a n c, .slice b m d] w fun e w' => e = .returned (.bool true) ∧ Below w.heap.size w w' := by
  subst h
  exact same_self a n c b m d xs w va vb

/-! A valid device. -/
theorem crash_x (a : Option Addr) (n c : Nat) (b : Option Addr) (m d : Nat) (l : Int) (q : Bool) (D : Dev) (M : Int) (w : World) (va : SeesD w a n c b m d l q D) (hok : okD D = true) (hM : 0 ≤ M ∧ M < 18446744073709551616) (L : Lost w) (X : Dev) (hX : crashD D M = X) :
    Calls Tryd.prog 10 #[dev a n c b m d l q, .int .u64 M] w (GivesK n 0 (-1) false 0 w X) := by
  have hn := va.im.len
  subst hX
  refine (crash_any _ _ _ _ _ _ _ _ D M w va hM L).mono ?_
  rintro e w' ⟨v, rfl, h⟩
  unfold crashR at h
  rw [if_pos hok] at h
  rw [chk_ok hok]
  exact givesK h (fine_crash va.fine) (crash_len.trans hn) rfl rfl rfl
theorem arm_x (a : Option Addr) (n c : Nat) (b : Option Addr) (m d : Nat) (l : Int) (q : Bool) (D : Dev) (t : Int) (w : World) (va : SeesD w a n c b m d l q D) (hok : okD D = true) (ht : Num t) (X : Dev) (hX : armD D t = X) :
    Calls Tryd.prog 9 #[dev a n c b m d l q, .int .i64 t] w (GivesK n m t false 0 w X) := by
  have hn := va.im.len
  have hm := va.dl.len
  subst hX
  obtain ⟨h1, h2⟩ := id ht
  refine (arm_any _ _ _ _ _ _ _ _ D t w va (by omega)).mono ?_
  rintro e w' ⟨v, rfl, h⟩
  unfold armR at h
  rw [if_pos ⟨hok, ht⟩] at h
  have he : armE D t = 0 := by unfold armE; rw [if_pos hok, if_pos ht]
  rw [he]
  exact givesK h (fine_arm va.fine ht) hn hm rfl rfl
theorem chosen_x (a : Option Addr) (n c : Nat) (b : Option Addr) (m d : Nat) (l : Int) (q : Bool) (D : Dev) (M : Int) (w : World) (va : SeesD w a n c b m d l q D) (hok : okD D = true) (hM : 0 ≤ M ∧ M < 18446744073709551616) (L : Lost w) (Z : List Int) (hZ : chosen M m = Z) (k : Nat) (hk : Z.length = k) :
    Calls Tryd.prog 11 #[dev a n c b m d l q, .int .u64 M] w (GivesL k 0 w Z) := by
  have hm := va.dl.len
  refine chosen_v _ _ _ _ _ _ _ _ D M w va hM L Z ?_ k hk 0 (chk_ok hok)
  unfold chosR
  rw [if_pos hok, hm, hZ]

/-! The example. -/
def z256 : List Int := List.replicate 256 0
def ex : Dev := ⟨z256, [⟨9, 5, false⟩, ⟨12, 6, true⟩], -1, false⟩
def ex2 : Dev := ⟨z256.set 12 6, [], -1, false⟩
theorem ok_ex : okD ex = true := by decide +kernel
theorem crash_ex : crashD ex 2 = ex2 := by decide +kernel
theorem wf_z : ∀ x ∈ z256, (Lit.int .u64 x).wf = true := by decide +kernel
set_option maxHeartbeats 4000000 in
theorem example_any (w : World) :
    Calls Tryd.prog 12 #[] w fun e w' => ∃ a c b d, e = .returned (dev a 256 c b 2 d (-1) false) ∧ SeesD w' a 256 c b 2 d (-1) false ex ∧ Below w.heap.size w w' := by
  have B1 : Below w.heap.size w (w.alloc zbox) := below_new (Below.refl _ _)
  have X1 := Box.new w #[.slice none 0 0, .slice none 0 0, .int .i64 0, .bool false] 25
  go_enter Tryd.func12, Tryd.ntmps12
  go_wp2_with (refine wp_make rfl (.const (.int .i64 256)) (.const (.int .i64 256)) 22 rfl .u64 30 Tryd.underlying22 info_word (w.alloc zbox) (Below.refl _ _) .i64 .i64 256 256 256 rfl rfl rfl rfl (by decide) ?_)
  intro w0 G0
  obtain ⟨a0, c0, hv0, s0⟩ := G0.sees wf_z (by decide)
  injection hv0 with h1 _ h2
  subst h1 h2
  have C := below_then B1 G0.below
  have X0 := (X1.keep G0.below).alloc (.cells #[.int .i64 9, .int .u64 5, .bool false, .int .i64 12, .int .u64 6, .bool true] 36)
  have Y := Box.new w0 #[.int .i64 9, .int .u64 5, .bool false, .int .i64 12, .int .u64 6, .bool true] 36
  have S : SeesD (w0.alloc (.cells #[.int .i64 9, .int .u64 5, .bool false, .int .i64 12, .int .u64 6, .bool true] 36)) (some ⟨w.heap.size + 1, 0, none⟩) 256 256 (some ⟨w0.heap.size, 0, none⟩) 2 2 (-1) false ex :=
    ⟨s0.keep (below_new (Below.refl _ _)), seesR_box Y [⟨9, 5, false⟩, ⟨12, 6, true⟩] rfl (by simp [dw]) 2 rfl (by decide), rfl, rfl, by decide, by decide⟩
  replace C := below_new (o := .cells #[.int .i64 9, .int .u64 5, .bool false, .int .i64 12, .int .u64 6, .bool true] 36) C
  clear G0 s0 Y X1 B1
  have t1 := X0.lt
  obtain ⟨⟨y0, y1, y2, y3⟩, g0, g1, g2, g3⟩ := X0.open4
  go_wp2_with fail
  refine bodyPost_ret (by simp [results, Tryd.results12, go_sem, y0, y1, y2, y3]; try rfl) rfl ?_
  exact ⟨_, _, _, _, rfl, seesD_put X0 S, below_put C (Nat.le_refl _)⟩
set_option maxHeartbeats 4000000 in
theorem live_any (w : World) (L : Lost w) :
    Calls Tryd.prog 14 #[] w fun e w' => e = .returned (.bool true) ∧ Below w.heap.size w w' := by
  go_enter Tryd.func14, Tryd.ntmps14
  go_wp2_with fail
  refine (example_any _).mono ?_
  rintro e w1 ⟨a1, c1, b1, d1, rfl, S1, k1⟩
  have L1 := L.keep k1
  go_wp2_with fail
  refine (crash_x _ _ _ _ _ _ _ _ ex 2 _ S1 ok_ex (by decide) L1 ex2 crash_ex).mono ?_
  rintro e w2 ⟨a2, c2, b2, d2, rfl, S2, k2⟩
  have C := below_then k1 k2
  have Hd := Var.new S2
  have C' := below_new (o := box a2 256 c2 b2 0 d2 (-1) false) C
  obtain ⟨g1, o1, rfl⟩ := Hd.sees.im.lies (by decide)
  have q1 : (w2.alloc (box (some ⟨g1, o1, none⟩) 256 c2 b2 0 d2 (-1) false)).cell? ⟨g1, o1 + 9, none⟩ = some (.int .u64 0) := Hd.sees.im.at 9 (by decide)
  have q2 : (w2.alloc (box (some ⟨g1, o1, none⟩) 256 c2 b2 0 d2 (-1) false)).cell? ⟨g1, o1 + 12, none⟩ = some (.int .u64 6) := Hd.sees.im.at 12 (by decide)
  clear S1 S2 k1 k2 L1
  go_wp2_with fail
  go_ret
  exact ⟨rfl, C'⟩
end Go.Proofs.YtkjhpjgdcjccjaaDoor.Kl
