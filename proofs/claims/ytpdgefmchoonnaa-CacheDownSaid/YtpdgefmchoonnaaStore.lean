/-
  Contract of package cache: Store.
-/
import Derived.Test.YtpdgefmchoonnaaWith
import Derived.Test.YtpdgefmchoonnaaSpend
import Derived.Test.YtpdgefmchoonnaaCrefe
namespace Go.Proofs.Ytpdgefmchoonnaa.Ca
open Go.RowKit Go.Proofs.Ytpdgefmchoonnaa.Sl Go.Proofs.Ytpdgefmchoonnaa.St Go.Proofs.Ytpdgefmchoonnaa.Ir Go.Proofs.Ytpdgefmchoonnaa.Dv Go.Proofs.Ytpdgefmchoonnaa.Cr Go.Proofs.Ytpdgefmchoonnaa.Fd
set_option maxRecDepth 100000
set_option maxHeartbeats 4000000

theorem store_any (a : Option Addr) (n c : Nat) (b : Option Addr) (m d : Nat) (l : Int) (q : Bool) (D : Dev) (p u : Int) (w : World) (va : SeesD w a n c b m d l q D) (_hp : -9223372036854775808 ≤ p ∧ p ≤ 9223372036854775807) (_hu : 0 ≤ u ∧ u < 18446744073709551616) :
    Calls Try.prog 7 #[dev a n c b m d l q, .int .i64 p, .int .u64 u] w fun e w' => ∃ v, e = .returned (.tuple #[v, .int .i64 (asked D p)]) ∧ MadeD w (storeD D p u) v w' := by
  have B2 : Below w.heap.size w ((w.alloc (box a n c b m d l q)).alloc zbox) := below_new (below_new (Below.refl _ _))
  have X1 := (Box.new w #[.slice a n c, .slice b m d, .int .i64 l, .bool q] 25).alloc zbox
  have X2 := Box.new1 w (box a n c b m d l q) #[.slice none 0 0, .slice none 0 0, .int .i64 0, .bool false] 25
  by_cases h : asked D p = 0
  · have HS := Lib.hid (show storeD D p u = storedD D p u from by unfold storeD; rw [if_pos h])
    have hb : (asked D p != 0) = false := by simpa using h
    obtain ⟨hok, hp0⟩ := asked_parts h
    obtain ⟨⟨⟨h0, h1, -⟩, -⟩, hdl⟩ := ok_parts hok
    have hll := va.dl.len
    have hml := okDl_len hdl (by omega)
    have hm : m ≤ 2048 := by omega
    clear hml
    have HDL := Lib.hid hdl
    have H0 := Lib.hid h
    clear h hok hdl
    go_enter Try.func7, Try.ntmps7
    go_wp2_with fail
    refine (start_any _ _ _ _ _ _ _ _ D p _ (va.keep B2)).mono ?_
    rintro e w2 ⟨rfl, b2⟩
    have s1 := (X1.keep b2).lt
    have s2 := (X2.keep b2).lt
    obtain ⟨⟨x0, x1, x2, x3⟩, f0, f1, f2, f3⟩ := (X1.keep b2).open4
    have C2 := below_then B2 b2
    go_wp2_with fail
    refine (spend_any _ _ _ _ _ _ _ _ D _ (va.keep C2)).mono ?_
    rintro e w3 ⟨v3, rfl, M3⟩
    have C3 := below_then C2 M3.below
    have Y2 := (X2.keep b2).keep M3.below
    have t2 := Y2.lt
    have t3 := M3.below.size
    obtain ⟨⟨y0, y1, y2, y3⟩, g0, g1, g2, g3⟩ := Y2.open4
    obtain ⟨a3, c3, b3, d3, rfl, O1, O2⟩ := M3.lay
    have P1 := owns_mono O1 (show w.heap.size + 2 ≤ _ by omega)
    have P2 := owns_mono O2 (show w.heap.size + 2 ≤ _ by omega)
    clear O1 O2 M3 X1 X2
    cases hM : made D
    · have HD := Lib.hid (show storedD D p u = spent D from by unfold storedD; rw [hM]; rfl)
      go_wp2_with fail
      refine bodyPost_ret (by simp [results, Try.results7, go_sem, t2, y0, y1, y2, y3]; try rfl) rfl ?_
      have H0' := H0.out
      rw [H0', HS.out, HD.out]
      refine ⟨_, rfl, MadeD.mk (w.heap.size + 2) ?_ (by omega) (owns_mid P1 (Nat.le_refl _) ?_ (Nat.le_refl _)) (owns_mid P2 (Nat.le_refl _) ?_ (Nat.le_refl _)) rfl rfl⟩
      · repeat' (first | with_reducible exact C3 | (with_reducible refine Below.setCell ?_ (by simp) _) | (with_reducible refine below_new ?_))
      · repeat' (first | with_reducible exact Mid.refl _ _ | (with_reducible refine Mid.set ?_ (by left; simp) _) | (with_reducible refine Mid.alloc ?_ _))
      · repeat' (first | with_reducible exact Mid.refl _ _ | (with_reducible refine Mid.set ?_ (by left; simp) _) | (with_reducible refine Mid.alloc ?_ _))
    · have HD := Lib.hid (show storedD D p u = { spent D with dl := ins p u D.dl } from by unfold storedD; rw [hM]; rfl)
      simp only [spent_dl, hll] at P2 ⊢
      have T := Box.new w3 #[.slice a3 (spent D).im.length c3, .slice b3 m d3, .int .i64 (spent D).left, .bool (spent D).down] 25
      have hb3 : ∀ j, (Value.slice b3 m d3).ownBlock = some j → w.heap.size + 2 ≤ j ∧ j < w3.heap.size := P2.lt
      generalize hNI : (spent D).im.length = NI at P1 T ⊢
      replace hNI := Lib.hid hNI
      have P1' := P1.alloc (box a3 NI c3 b3 m d3 (spent D).left (spent D).down)
      have P2' := owns_len (P2.alloc (box a3 NI c3 b3 m d3 (spent D).left (spent D).down)) hll.symm rfl
      have C3' := below_new (o := box a3 NI c3 b3 m d3 (spent D).left (spent D).down) C3
      have Y2' := Y2.alloc (box a3 NI c3 b3 m d3 (spent D).left (spent D).down)
      have HX := Lib.hid (show D.dl.length = m from hll)
      clear hll
      go_wp2_with fail
      refine (In.with_any (w.heap.size + 2) _ _ _ D.dl D.im.length (-1) p u _ P2' HX.out (by simp; omega) va.dl.good HDL.out (by omega)).mono ?_
      rintro e w5 ⟨g, cap, rfl, O5, G5⟩
      have T5 := T.grown G5 (fun he => by have := hb3 _ he; omega)
      have Z5 := Y2'.grown G5 (fun he => by have := hb3 _ he; omega)
      have Q5 := owns_other P1' G5 (fun j hj => owns_apart P1' P2' (by decide) hj)
      have C5 : Below w.heap.size w w5 := C3'.trans (but_under G5 (by simp; omega) (fun j hj => by have := hb3 j hj; omega))
      have t5 := T5.lt
      have t5' := Z5.lt
      unfold OwnsL at O5
      have Q6 := ownsRow_setCell_other Q5 (a := ⟨w3.heap.size, 1, none⟩) (owns_off Q5 T5 (by decide)) (.slice (some ⟨g, 0, none⟩) (ins p u D.dl).length cap)
      have O6 := ownsRow_setCell_other O5 (a := ⟨w3.heap.size, 1, none⟩) (owns_off O5 T5 (by decide)) (.slice (some ⟨g, 0, none⟩) (ins p u D.dl).length cap)
      have C6 := C5.setCell (p := ⟨w3.heap.size, 1, none⟩) (by show _ ≤ w3.heap.size; omega) (.slice (some ⟨g, 0, none⟩) (ins p u D.dl).length cap)
      clear y0 y1 y2 y3 g0 g1 g2 g3 T Y2' P1' P2' C3' P1 P2 Y2 x0 x1 x2 x3 f0 f1 f2 f3
      obtain ⟨⟨x0, x1, x2, x3⟩, f0, f1, f2, f3⟩ := T5.open4
      obtain ⟨⟨y0, y1, y2, y3⟩, g0, g1, g2, g3⟩ := Z5.open4
      clear T5 Z5 G5 O5 Q5 C5
      go_wp2_with fail
      refine bodyPost_ret (by simp [results, Try.results7, go_sem, y0, y1, y2, y3]; try rfl) rfl ?_
      have H0' := H0.out
      rw [H0', HS.out, HD.out]
      have hNI' := hNI.out
      subst hNI'
      refine ⟨_, rfl, MadeD.mk (w.heap.size + 2) ?_ (by omega) (owns_mid Q6 (Nat.le_refl _) ?_ (Nat.le_refl _)) (owns_mid O6 (Nat.le_refl _) ?_ (Nat.le_refl _)) rfl rfl⟩
      · repeat' (first | with_reducible exact C6 | (with_reducible refine Below.setCell ?_ (by simp) _) | (with_reducible refine below_new ?_))
      · repeat' (first | with_reducible exact Mid.refl _ _ | (with_reducible refine Mid.set ?_ (by left; simp) _) | (with_reducible refine Mid.alloc ?_ _))
      · repeat' (first | with_reducible exact Mid.refl _ _ | (with_reducible refine Mid.set ?_ (by left; simp) _) | (with_reducible refine Mid.alloc ?_ _))
  · have HS := Lib.hid (show storeD D p u = zdev from by unfold storeD; rw [if_neg h])
    have hb : (asked D p != 0) = true := by simpa using h
    clear h
    go_enter Try.func7, Try.ntmps7
    go_wp2_with fail
    refine (start_any _ _ _ _ _ _ _ _ D p _ (va.keep B2)).mono ?_
    rintro e w2 ⟨rfl, b2⟩
    have s1 := (X1.keep b2).lt
    have s2 := (X2.keep b2).lt
    obtain ⟨⟨y0, y1, y2, y3⟩, g0, g1, g2, g3⟩ := (X2.keep b2).open4
    have C2 := below_then B2 b2
    go_wp2_with fail
    refine bodyPost_ret (by simp [results, Try.results7, go_sem, y0, y1, y2, y3]; try rfl) rfl ?_
    rw [HS.out]
    refine ⟨_, rfl, MadeD.zero ?_⟩
    repeat' (first | with_reducible exact C2 | (with_reducible refine Below.setCell ?_ (by simp) _))
end Go.Proofs.Ytpdgefmchoonnaa.Ca
