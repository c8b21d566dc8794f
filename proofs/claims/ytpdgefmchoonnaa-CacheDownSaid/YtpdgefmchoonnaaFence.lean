/-
  Contract of package cache: Fence.
-/
import Derived.Test.YtpdgefmchoonnaaSettle
import Derived.Test.YtpdgefmchoonnaaSpend
import Derived.Test.YtpdgefmchoonnaaChk
namespace Go.Proofs.Ytpdgefmchoonnaa.Ca
open Go.RowKit Go.Proofs.Ytpdgefmchoonnaa.Sl Go.Proofs.Ytpdgefmchoonnaa.St Go.Proofs.Ytpdgefmchoonnaa.Ir Go.Proofs.Ytpdgefmchoonnaa.Dv Go.Proofs.Ytpdgefmchoonnaa.Cr Go.Proofs.Ytpdgefmchoonnaa.Fd
set_option maxRecDepth 100000
set_option maxHeartbeats 4000000

theorem fence_any (a : Option Addr) (n c : Nat) (b : Option Addr) (m d : Nat) (l : Int) (q : Bool) (D : Dev) (w : World) (va : SeesD w a n c b m d l q D) :
    Calls Try.prog 9 #[dev a n c b m d l q] w fun e w' => ∃ v, e = .returned (.tuple #[v, .int .i64 (chk D)]) ∧ MadeD w (fenceD D) v w' := by
  have B2 : Below w.heap.size w ((w.alloc (box a n c b m d l q)).alloc zbox) := below_new (below_new (Below.refl _ _))
  have X1 := (Box.new w #[.slice a n c, .slice b m d, .int .i64 l, .bool q] 25).alloc zbox
  have X2 := Box.new1 w (box a n c b m d l q) #[.slice none 0 0, .slice none 0 0, .int .i64 0, .bool false] 25
  by_cases h : okD D = true
  · have HS := Lib.hid (show fenceD D = fencedD D from by unfold fenceD; rw [if_pos h])
    have hb : (chk D != 0) = false := by rw [chk_ok h]; rfl
    have HC := Lib.hid (chk_ok h)
    obtain ⟨⟨⟨h0, h1, -⟩, -⟩, hdl⟩ := ok_parts h
    have hll := va.dl.len
    have hml := okDl_len hdl (by omega)
    have hm : m ≤ 2048 := by omega
    clear hml
    have HDL := Lib.hid hdl
    clear h hdl
    go_enter Try.func9, Try.ntmps9
    go_wp2_with fail
    refine (check_any _ _ _ _ _ _ _ _ D _ (va.keep B2)).mono ?_
    rintro e w2 ⟨rfl, b2⟩
    have s1 := (X1.keep b2).lt
    have s2 := (X2.keep b2).lt
    obtain ⟨⟨x0, x1, x2, x3⟩, f0, f1, f2, f3⟩ := (X1.keep b2).open4
    have C2 := below_then B2 b2
    go_wp2_with fail
    refine (spend_any _ _ _ _ _ _ _ _ D _ (va.keep C2)).mono ?_
    rintro e w3 ⟨v3, rfl, M3⟩
    have C3 := below_then C2 M3.below
    have Y2 := (X2.keep b2).keep M3.below
    have t2 := Y2.lt
    have t3 := M3.below.size
    obtain ⟨⟨y0, y1, y2, y3⟩, g0, g1, g2, g3⟩ := Y2.open4
    obtain ⟨a3, c3, b3, d3, rfl, O1, O2⟩ := M3.lay
    have P1 := owns_mono O1 (show w.heap.size + 2 ≤ _ by omega)
    have P2 := owns_mono O2 (show w.heap.size + 2 ≤ _ by omega)
    clear O1 O2 M3 X1 X2
    cases hM : made D
    · have HD := Lib.hid (show fencedD D = spent D from by unfold fencedD; rw [hM]; rfl)
      go_wp2_with fail
      refine bodyPost_ret (by simp [results, Try.results9, go_sem, t2, y0, y1, y2, y3]; try rfl) rfl ?_
      rw [HC.out, HS.out, HD.out]
      refine ⟨_, rfl, MadeD.mk (w.heap.size + 2) ?_ (by omega) (owns_mid P1 (Nat.le_refl _) ?_ (Nat.le_refl _)) (owns_mid P2 (Nat.le_refl _) ?_ (Nat.le_refl _)) rfl rfl⟩
      · repeat' (first | with_reducible exact C3 | (with_reducible refine Below.setCell ?_ (by simp) _) | (with_reducible refine below_new ?_))
      · repeat' (first | with_reducible exact Mid.refl _ _ | (with_reducible refine Mid.set ?_ (by left; simp) _) | (with_reducible refine Mid.alloc ?_ _))
      · repeat' (first | with_reducible exact Mid.refl _ _ | (with_reducible refine Mid.set ?_ (by left; simp) _) | (with_reducible refine Mid.alloc ?_ _))
    · have HD := Lib.hid (show fencedD D = { spent D with im := fenceL D.im D.dl, dl := D.dl.filter fun x => !x.f } from by unfold fencedD; rw [hM]; rfl)
      simp only [spent_dl, spent_im, hll] at P1 P2 ⊢
      obtain ⟨gi, rfl, hg1, hg2⟩ := owns_at0 P1 (by omega)
      have HDL' := HDL.out
      have hNI2 : D.im.length ≤ 2048 := by omega
      have hzl := Lib.hid (fenceL_len D.dl D.im)
      generalize hNI : D.im.length = NI at P1 HDL' hNI2 ⊢
      have T := Box.new w3 #[.slice (some ⟨gi, 0, none⟩) NI c3, .slice b3 m d3, .int .i64 (spent D).left, .bool (spent D).down] 25
      have HNI := Lib.hid hNI
      have P1' := P1.alloc (box (some ⟨gi, 0, none⟩) NI c3 b3 m d3 (spent D).left (spent D).down)
      have P2' := P2.alloc (box (some ⟨gi, 0, none⟩) NI c3 b3 m d3 (spent D).left (spent D).down)
      have C3' := below_new (o := box (some ⟨gi, 0, none⟩) NI c3 b3 m d3 (spent D).left (spent D).down) C3
      have Y2' := Y2.alloc (box (some ⟨gi, 0, none⟩) NI c3 b3 m d3 (spent D).left (spent D).down)
      obtain ⟨bb, dd, he, V2⟩ := seesR_of_owns (R := dw) hll P2' va.dl.good (by show m * 3 ≤ _; omega)
      injection he with he1 he2 he3
      subst he1 he3
      have HDK := Lib.hid HDL'
      have hap := fun b0 o0 (he : b3 = some ⟨b0, o0, none⟩) => show b0 ≠ gi from fun hbg => owns_apart P2' P1' (by decide) rfl (by rw [he, hbg]; rfl)
      have HAP := Lib.hid hap
      have hN0 : (NI : Int) = D.im.length := by rw [← hNI]
      clear hll hNI h0 h1 HDL' hap he2
      go_wp2_with fail
      refine (settle_any (w.heap.size + 2) gi NI c3 D.im b3 m d3 D.dl (-1) _ P1' hNI2 V2 HDK.out (by omega) HAP.out).mono ?_
      rintro e w5 ⟨av, cv, rfl, S5⟩
      have T5 := T.grown S5.but (fun he => by injection he with he; omega)
      have Z5 := Y2'.grown S5.but (fun he => by injection he with he; omega)
      have C5 : Below w.heap.size w w5 := C3'.trans (but_under S5.but (by simp; omega) (fun j hj => by injection hj with hj; omega))
      have t5' := Z5.lt
      have t5 := T5.lt
      have O5 := owns_mono S5.dl (show w.heap.size + 2 ≤ _ by simp; omega)
      have Q6 := ownsRow_setCell_other S5.im (a := ⟨w3.heap.size, 1, none⟩) (owns_off S5.im T5 (by decide)) (.slice av (D.dl.filter fun x => !x.f).length cv)
      have O6 := ownsRow_setCell_other O5 (a := ⟨w3.heap.size, 1, none⟩) (owns_off O5 T5 (by decide)) (.slice av (D.dl.filter fun x => !x.f).length cv)
      have C6 := C5.setCell (p := ⟨w3.heap.size, 1, none⟩) (by show _ ≤ w3.heap.size; omega) (.slice av (D.dl.filter fun x => !x.f).length cv)
      clear y0 y1 y2 y3 g0 g1 g2 g3 T Y2' P1' P2' C3' P1 P2 Y2 x0 x1 x2 x3 f0 f1 f2 f3 V2
      obtain ⟨⟨x0, x1, x2, x3⟩, f0, f1, f2, f3⟩ := T5.open4
      obtain ⟨⟨y0, y1, y2, y3⟩, g0, g1, g2, g3⟩ := Z5.open4
      clear T5 Z5 S5 O5 C5
      generalize hL : (D.dl.filter fun x => !x.f) = L at Q6 O6 C6 ⊢
      have HL := Lib.hid hL
      clear hL
      go_wp2_with fail
      refine bodyPost_ret (by simp [results, Try.results9, go_sem, y0, y1, y2, y3]; try rfl) rfl ?_
      rw [HC.out, HS.out, HD.out, HL.out]
      have Q7 := owns_len Q6 (show NI = (fenceL D.im D.dl).length from by rw [hzl.out]; exact HNI.out.symm) rfl
      have e8 : NI = (fenceL D.im D.dl).length := by rw [hzl.out]; exact HNI.out.symm
      rw [e8] at Q7 ⊢
      refine ⟨_, rfl, MadeD.mk (w.heap.size + 2) ?_ (by omega) (owns_mid Q7 (Nat.le_refl _) ?_ (Nat.le_refl _)) (owns_mid O6 (Nat.le_refl _) ?_ (Nat.le_refl _)) rfl rfl⟩
      · repeat' (first | with_reducible exact C6 | (with_reducible refine Below.setCell ?_ (by simp) _) | (with_reducible refine below_new ?_))
      · repeat' (first | with_reducible exact Mid.refl _ _ | (with_reducible refine Mid.set ?_ (by left; simp) _) | (with_reducible refine Mid.alloc ?_ _))
      · repeat' (first | with_reducible exact Mid.refl _ _ | (with_reducible refine Mid.set ?_ (by left; simp) _) | (with_reducible refine Mid.alloc ?_ _))
  · have HS := Lib.hid (show fenceD D = zdev from by unfold fenceD; rw [if_neg h])
    have hb : (chk D != 0) = true := by rw [chk_bad h]; rfl
    have HC := Lib.hid (chk_bad h)
    clear h
    go_enter Try.func9, Try.ntmps9
    go_wp2_with fail
    refine (check_any _ _ _ _ _ _ _ _ D _ (va.keep B2)).mono ?_
    rintro e w2 ⟨rfl, b2⟩
    have s2 := (X2.keep b2).lt
    obtain ⟨⟨y0, y1, y2, y3⟩, g0, g1, g2, g3⟩ := (X2.keep b2).open4
    have C2 := below_then B2 b2
    go_wp2_with fail
    refine bodyPost_ret (by simp [results, Try.results9, go_sem, y0, y1, y2, y3]; try rfl) rfl ?_
    rw [HC.out, HS.out]
    refine ⟨_, rfl, MadeD.zero ?_⟩
    repeat' (first | with_reducible exact C2 | (with_reducible refine Below.setCell ?_ (by simp) _))
end Go.Proofs.Ytpdgefmchoonnaa.Ca
