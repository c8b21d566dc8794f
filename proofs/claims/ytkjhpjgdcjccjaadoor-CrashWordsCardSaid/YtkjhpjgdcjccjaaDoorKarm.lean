/-
  Contract of package crash: Arm.
-/
import Derived.Test.YtkjhpjgdcjccjaaDoorKprog
namespace Go.Proofs.YtkjhpjgdcjccjaaDoor.Kp
open Go.RowKit Go.Proofs.YtkjhpjgdcjccjaaDoor.Sl Go.Proofs.YtkjhpjgdcjccjaaDoor.St Go.Proofs.YtkjhpjgdcjccjaaDoor.Ir Go.Proofs.YtkjhpjgdcjccjaaDoor.Dv Go.Proofs.YtkjhpjgdcjccjaaDoor.Cr Go.Proofs.YtkjhpjgdcjccjaaDoor.Cp Go.Proofs.YtkjhpjgdcjccjaaDoor.Ca
set_option maxRecDepth 100000
set_option maxHeartbeats 4000000

theorem arm_any (a : Option Addr) (n c : Nat) (b : Option Addr) (m d : Nat) (l : Int) (q : Bool) (D : Dev) (t : Int) (w : World) (va : SeesD w a n c b m d l q D) (ht : -9223372036854775808 ≤ t ∧ t ≤ 9223372036854775807) :
    Calls Tryd.prog 9 #[dev a n c b m d l q, .int .i64 t] w fun e w' => ∃ v, e = .returned (.tuple #[v, .int .i64 (armE D t)]) ∧ MadeD w (armR D t) v w' := by
  have B2 : Below w.heap.size w ((w.alloc (box a n c b m d l q)).alloc zbox) := below_new (below_new (Below.refl _ _))
  have X1 := (Box.new w #[.slice a n c, .slice b m d, .int .i64 l, .bool q] 25).alloc zbox
  have X2 := Box.new1 w (box a n c b m d l q) #[.slice none 0 0, .slice none 0 0, .int .i64 0, .bool false] 25
  by_cases h : okD D = true
  · have hb : (chk D != 0) = false := by rw [chk_ok h]; rfl
    rcases (show (Num t) ∨ t < -1 ∨ (-1 ≤ t ∧ 1000000 < t) from by unfold Num; omega) with h1 | h1 | h1
    · have HE := Lib.hid (show armE D t = 0 from by unfold armE; rw [if_pos h, if_pos h1])
      have HR := Lib.hid (show armR D t = ⟨D.im, D.dl, t, false⟩ from by unfold armR; rw [if_pos ⟨h, h1⟩]; rfl)
      obtain ⟨h2, h3⟩ := h1
      clear h
      go_enter Tryd.func9, Tryd.ntmps9
      go_wp2_with fail
      refine (check_any _ _ _ _ _ _ _ _ D _ (va.keep B2)).mono ?_
      rintro e w2 ⟨rfl, b2⟩
      have bd : Below w2.heap.size w2 w2.drew := (Below.refl _ _).drew
      have B2' := below_then (below_then B2 b2) bd
      have X1' := (X1.keep b2).keep bd
      have X2' := (X2.keep b2).keep bd
      clear X1 X2 B2
      go_wp2_with fail
      all_goals first | (exfalso; omega) | skip
      have s1 := X1'.lt
      obtain ⟨⟨x0, x1, x2, x3⟩, f0, f1, f2, f3⟩ := X1'.open4
      go_region_law (first
        | (go_simp
           go_at_call 29
           refine (Cn.cloneW_any _ _ _ _ _ (va.keep B2').im).mono ?_
           rintro e w3 ⟨v3, rfl, G3⟩
           obtain ⟨a3, c3, rfl, M3⟩ := G3.made
           have X13 := X1'.keep G3.below
           have X23 := X2'.keep G3.below
           have C3 := below_then B2' G3.below
           have t3 := X13.lt
           obtain ⟨⟨k0, k1, k2, k3⟩, l0, l1, l2, l3⟩ := X13.open4)
        | (go_simp
           go_at_call 30
           refine (Cn.cloneD_any _ _ _ _ _ (va.keep C3).dl).mono ?_
           rintro e w4 ⟨v4, rfl, G4⟩
           obtain ⟨b4, d4, rfl, M4⟩ := G4.made
           have X24 := X23.keep G4.below
           have C4 := below_then C3 G4.below
           have t4 := X24.lt
           obtain ⟨⟨y0, y1, y2, y3⟩, g0, g1, g2, g3⟩ := X24.open4))
      all_goals
        have P1 := owns_mono (owns_kept M3.1 G4.below) (show w.heap.size + 2 ≤ _ by have := C3.size; have := B2'.size; have := X2'.lt; omega)
        have P2 := owns_mono M4.1 (show w.heap.size + 2 ≤ _ from X23.lt)
        clear M3 M4 G3 G4 X13 k0 k1 k2 k3 l0 l1 l2 l3 x0 x1 x2 x3 f0 f1 f2 f3
        go_wp2
        refine bodyPost_ret (by simp [results, Tryd.results9, go_sem, y0, y1, y2, y3]; try rfl) rfl ?_
        rw [HE.out, HR.out]
        refine ⟨_, rfl, MadeD.mk (w.heap.size + 2) ?_ (by omega) (owns_mid P1 (Nat.le_refl _) ?_ (Nat.le_refl _)) (owns_mid P2 (Nat.le_refl _) ?_ (Nat.le_refl _)) rfl rfl⟩
        · repeat' (first | with_reducible exact C4 | (with_reducible refine Below.setCell ?_ (by simp) _))
        · repeat' (first | with_reducible exact Mid.refl _ _ | (with_reducible refine Mid.set ?_ (by left; simp) _))
        · repeat' (first | with_reducible exact Mid.refl _ _ | (with_reducible refine Mid.set ?_ (by left; simp) _))
    all_goals
      have HE := Lib.hid (show armE D t = 2 from by unfold armE; rw [if_pos h, if_neg (by unfold Num; omega)])
      have HR := Lib.hid (show armR D t = zdev from by unfold armR; rw [if_neg (by unfold Num; omega)])
      clear h
      go_enter Tryd.func9, Tryd.ntmps9
      go_wp2_with fail
      refine (check_any _ _ _ _ _ _ _ _ D _ (va.keep B2)).mono ?_
      rintro e w2 ⟨rfl, b2⟩
      have C2 := below_then B2 b2
      have Y2 := X2.keep b2
      have t2 := Y2.lt
      obtain ⟨⟨y0, y1, y2, y3⟩, g0, g1, g2, g3⟩ := Y2.open4
      go_wp2_with fail
      all_goals first | (exfalso; omega) | skip
      refine bodyPost_ret (by simp [results, Tryd.results9, go_sem, y0, y1, y2, y3]; try rfl) rfl ?_
      rw [HE.out, HR.out]
      refine ⟨_, rfl, MadeD.zero ?_⟩
      repeat' (first | with_reducible exact C2 | (with_reducible refine Below.setCell ?_ (by simp) _))
  · have hb : (chk D != 0) = true := by rw [chk_bad h]; rfl
    have HC := Lib.hid (chk_bad h)
    have HE := Lib.hid (show armE D t = chk D from by unfold armE; rw [if_neg h, HC.out])
    have HR := Lib.hid (show armR D t = zdev from by unfold armR; rw [if_neg (fun h' => h h'.1)])
    clear h
    go_enter Tryd.func9, Tryd.ntmps9
    go_wp2_with fail
    refine (check_any _ _ _ _ _ _ _ _ D _ (va.keep B2)).mono ?_
    rintro e w2 ⟨rfl, b2⟩
    have C2 := below_then B2 b2
    have Y2 := X2.keep b2
    have t2 := Y2.lt
    obtain ⟨⟨y0, y1, y2, y3⟩, g0, g1, g2, g3⟩ := Y2.open4
    go_wp2_with fail
    refine bodyPost_ret (by simp [results, Tryd.results9, go_sem, y0, y1, y2, y3]; try rfl) rfl ?_
    rw [HE.out, HR.out]
    refine ⟨_, rfl, MadeD.zero ?_⟩
    repeat' (first | with_reducible exact C2 | (with_reducible refine Below.setCell ?_ (by simp) _))
end Go.Proofs.YtkjhpjgdcjccjaaDoor.Kp
