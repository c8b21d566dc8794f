/-
  Contract of spend: a copy of the device on which an operation begins, and whether it is made.
-/
import Derived.Test.YtpdgefmchoonnaaClone
import Derived.Test.YtpdgefmchoonnaaCrefb
import Derived.Deep.RegionLaw
namespace Go.Proofs.Ytpdgefmchoonnaa.Ca
open Go.RowKit Go.Proofs.Ytpdgefmchoonnaa.Sl Go.Proofs.Ytpdgefmchoonnaa.St Go.Proofs.Ytpdgefmchoonnaa.Ir Go.Proofs.Ytpdgefmchoonnaa.Dv Go.Proofs.Ytpdgefmchoonnaa.Cr
set_option maxRecDepth 100000
set_option maxHeartbeats 4000000

theorem spend_any (a : Option Addr) (n c : Nat) (b : Option Addr) (m d : Nat) (l : Int) (q : Bool) (D : Dev) (w : World) (va : SeesD w a n c b m d l q D) :
    Calls Try.prog 16 #[dev a n c b m d l q] w fun e w' => ∃ v, e = .returned (.tuple #[v, .bool (made D)]) ∧ MadeD w (spent D) v w' := by
  obtain rfl := va.left
  obtain rfl := va.down
  have hlo := va.lo
  have hhi := va.hi
  rcases (by omega : D.left = 0 ∨ 0 < D.left ∨ D.left < 0) with hl | hl | hl
  case' inl =>
    have HS := Lib.hid (spent_none hl)
    have HM := Lib.hid (show made D = false from by unfold made; rw [decide_eq_true hl]; rfl)
    have hb : (D.left == 0) = true := by simp [hl]
    replace hl := Lib.hid hl
  case' inr.inl =>
    have HS := Lib.hid (spent_one hl)
    have HM := Lib.hid (show made D = true from by unfold made; rw [decide_eq_false (by omega)]; rfl)
    have hb : (D.left == 0) = false := by simp; omega
  case' inr.inr =>
    have HS := Lib.hid (spent_any hl)
    have HM := Lib.hid (show made D = true from by unfold made; rw [decide_eq_false (by omega)]; rfl)
    have hb : (D.left == 0) = false := by simp; omega
  all_goals
   have B2 : Below w.heap.size w ((w.alloc (box a n c b m d D.left D.down)).alloc zbox).drew := (below_new (below_new (Below.refl _ _))).drew
   have X1 := ((Box.new w #[.slice a n c, .slice b m d, .int .i64 D.left, .bool D.down] 25).alloc zbox).drew
   have X2 := (Box.new1 w (box a n c b m d D.left D.down) #[.slice none 0 0, .slice none 0 0, .int .i64 0, .bool false] 25).drew
   go_enter Try.func16, Try.ntmps16
   go_wp2_with fail
   obtain ⟨⟨x0, x1, x2, x3⟩, f0, f1, f2, f3⟩ := X1.open4
   go_region_law (first
     | (go_simp
        go_at_call 24
        refine (Cn.cloneW_any _ _ _ _ _ (va.keep B2).im).mono ?_
        rintro e w3 ⟨v3, rfl, G3⟩
        obtain ⟨a3, c3, rfl, M3⟩ := G3.made
        have X13 := X1.keep G3.below
        have X23 := X2.keep G3.below
        have C3 := below_then B2 G3.below
        have t3 := X13.lt
        obtain ⟨⟨k0, k1, k2, k3⟩, l0, l1, l2, l3⟩ := X13.open4)
     | (go_simp
        go_at_call 26
        refine (Cn.cloneD_any _ _ _ _ _ (va.keep C3).dl).mono ?_
        rintro e w4 ⟨v4, rfl, G4⟩
        obtain ⟨b4, d4, rfl, M4⟩ := G4.made
        have X14 := X13.keep G4.below
        have X24 := X23.keep G4.below
        have C4 := below_then C3 G4.below
        have t4 := X14.lt
        obtain ⟨⟨m0, m1, m2, m3⟩, n0, n1, n2, n3⟩ := X14.open4))
   all_goals
    have T : Box ((w4.setCell ⟨w.heap.size, 0, none⟩ (.slice a3 D.im.length c3)).setCell ⟨w.heap.size, 1, none⟩ (.slice b4 D.dl.length d4)) w.heap.size #[.slice a3 D.im.length c3, .slice b4 D.dl.length d4, .int .i64 D.left, .bool D.down] 25 := (X14.set 0 (.slice a3 D.im.length c3)).set 1 (.slice b4 D.dl.length d4)
    have T2 := (X24.other (a := ⟨w.heap.size, 0, none⟩) (by simp) (.slice a3 D.im.length c3)).other (a := ⟨w.heap.size, 1, none⟩) (by simp) (.slice b4 D.dl.length d4)
    have B5 := (C4.setCell (p := ⟨w.heap.size, 0, none⟩) (Nat.le_refl _) (.slice a3 D.im.length c3)).setCell (p := ⟨w.heap.size, 1, none⟩) (Nat.le_refl _) (.slice b4 D.dl.length d4)
    have P1 := owns_mono (owns_kept M3.1 G4.below) (show w.heap.size + 2 ≤ _ by simp)
    have P2 := owns_mono M4.1 (show w.heap.size + 2 ≤ _ from X23.lt)
    have Q1 := ownsRow_setCell_below (ownsRow_setCell_below P1 (a := ⟨w.heap.size, 0, none⟩) (by show w.heap.size < _; omega) (.slice a3 D.im.length c3)) (a := ⟨w.heap.size, 1, none⟩) (by show w.heap.size < _; omega) (.slice b4 D.dl.length d4)
    have Q2 := ownsRow_setCell_below (ownsRow_setCell_below P2 (a := ⟨w.heap.size, 0, none⟩) (by show w.heap.size < _; omega) (.slice a3 D.im.length c3)) (a := ⟨w.heap.size, 1, none⟩) (by show w.heap.size < _; omega) (.slice b4 D.dl.length d4)
    generalize ((w4.setCell ⟨w.heap.size, 0, none⟩ (.slice a3 D.im.length c3)).setCell ⟨w.heap.size, 1, none⟩ (.slice b4 D.dl.length d4)) = w5 at T T2 B5 Q1 Q2 ⊢
    clear P1 P2 X14 X24 X13 X23 C3 C4 G3 G4 M3 M4 t3 t4 k0 k1 k2 k3 l0 l1 l2 l3 m0 m1 m2 m3 n0 n1 n2 n3 x0 x1 x2 x3 f0 f1 f2 f3 X1 X2 B2
    have t1 := T.lt
    have t2 := T2.lt
    obtain ⟨⟨x0, x1, x2, x3⟩, f0, f1, f2, f3⟩ := T.open4
    obtain ⟨⟨y0, y1, y2, y3⟩, g0, g1, g2, g3⟩ := T2.open4
    go_wp2
    refine bodyPost_ret (by simp [results, Try.results16, go_sem, y0, y1, y2, y3]; try rfl) rfl ?_
    rw [HS.out, HM.out]
    refine ⟨_, rfl, MadeD.mk (w.heap.size + 2) ?_ (by omega) (owns_mid Q1 (Nat.le_refl _) ?_ (Nat.le_refl _)) (owns_mid Q2 (Nat.le_refl _) ?_ (Nat.le_refl _)) rfl rfl⟩
    · repeat' (first | with_reducible exact B5 | (with_reducible refine Below.setCell ?_ (by simp) _))
    · repeat' (first | with_reducible exact Mid.refl _ _ | (with_reducible refine Mid.set ?_ (by left; simp) _))
    · repeat' (first | with_reducible exact Mid.refl _ _ | (with_reducible refine Mid.set ?_ (by left; simp) _))
end Go.Proofs.Ytpdgefmchoonnaa.Ca
