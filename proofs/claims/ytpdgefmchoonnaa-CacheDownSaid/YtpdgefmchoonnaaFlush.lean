/-
  Contract of package cache: Flush.
-/
import Derived.Test.YtpdgefmchoonnaaSpend
import Derived.Test.YtpdgefmchoonnaaChk
import Derived.Test.YtpdgefmchoonnaaCreff
import Derived.Test.YtpdgefmchoonnaaBut
namespace Go.Proofs.Ytpdgefmchoonnaa.Ca
open Go.RowKit Go.Proofs.Ytpdgefmchoonnaa.Sl Go.Proofs.Ytpdgefmchoonnaa.St Go.Proofs.Ytpdgefmchoonnaa.Ir Go.Proofs.Ytpdgefmchoonnaa.Dv Go.Proofs.Ytpdgefmchoonnaa.Cr Go.Proofs.Ytpdgefmchoonnaa.Fd
set_option maxRecDepth 100000
set_option maxHeartbeats 4000000

theorem low_lt {t : Int} : ∀ {xs : List Dw} {k : Nat} (_ : k < lowN t xs) (h : k < xs.length), xs[k].p < t
  | x :: xs, 0, hk, _ => by
    unfold lowN at hk
    split at hk
    · next h1 => exact h1
    · omega
  | x :: xs, k + 1, hk, h => by
    unfold lowN at hk
    split at hk
    · exact low_lt (k := k) (xs := xs) (by omega) (by simpa using h)
    · omega
theorem low_ge {n t : Int} : ∀ {xs : List Dw} {l : Int} {k : Nat} (_ : okDl n l xs = true) (_ : lowN t xs ≤ k) (h : k < xs.length), t ≤ xs[k].p
  | x :: xs, l, k, hok, hk, h => by
    have hok' := hok
    simp only [okDl, Bool.and_eq_true, decide_eq_true_eq] at hok
    unfold lowN at hk
    split at hk
    · cases k with
      | zero => omega
      | succ k => exact low_ge (k := k) (xs := xs) hok.2.2 (by omega) (by simpa using h)
    · next h1 =>
      cases k with
      | zero => show t ≤ x.p; omega
      | succ k =>
        have h2 : k < xs.length := by simpa using h
        have := (okDl_at hok.2.2 h2).1
        show t ≤ xs[k].p
        omega
theorem low_mono {t t' : Int} (h : t ≤ t') : ∀ xs : List Dw, lowN t xs ≤ lowN t' xs
  | [] => Nat.le_refl _
  | x :: xs => by
    have := low_mono h xs
    unfold lowN
    split
    · rw [if_pos (by omega)]
      omega
    · omega
theorem mix_keep {h : Dw → Dw} {xs : List Dw} {a : Nat} : ∀ {b : Nat}, a ≤ b → b ≤ xs.length → (∀ j (hj : j < xs.length), a ≤ j → j < b → h xs[j] = xs[j]) → mix h xs a = mix h xs b
  | 0, h1, _, _ => by
    obtain rfl : a = 0 := by omega
    rfl
  | b + 1, h1, h2, h3 => by
    rcases (by omega : a = b + 1 ∨ a ≤ b) with h4 | h4
    · rw [h4]
    · rw [mix_keep h4 (by omega) (fun j hj h5 h6 => h3 j hj h5 (by omega)), mix_same h xs b (by omega) (h3 b (by omega) h4 (by omega))]
theorem mix_zero (h : Dw → Dw) (xs : List Dw) : mix h xs 0 = xs := by simp [mix]
theorem flush_any (a : Option Addr) (n c : Nat) (b : Option Addr) (m d : Nat) (l : Int) (q : Bool) (D : Dev) (p : Int) (w : World) (va : SeesD w a n c b m d l q D) (_hp : -9223372036854775808 ≤ p ∧ p ≤ 9223372036854775807) :
    Calls Try.prog 8 #[dev a n c b m d l q, .int .i64 p] w fun e w' => ∃ v, e = .returned (.tuple #[v, .int .i64 (asked D p)]) ∧ MadeD w (flushD D p) v w' := by
  have B2 : Below w.heap.size w ((w.alloc (box a n c b m d l q)).alloc zbox) := below_new (below_new (Below.refl _ _))
  have X1 := (Box.new w #[.slice a n c, .slice b m d, .int .i64 l, .bool q] 25).alloc zbox
  have X2 := Box.new1 w (box a n c b m d l q) #[.slice none 0 0, .slice none 0 0, .int .i64 0, .bool false] 25
  by_cases h : asked D p = 0
  · have HS := Lib.hid (show flushD D p = flushedD D p from by unfold flushD; rw [if_pos h])
    have hb : (asked D p != 0) = false := by simpa using h
    obtain ⟨hok, hp0, hp1⟩ := asked_parts h
    obtain ⟨⟨⟨h0, h1, -⟩, -⟩, hdl⟩ := ok_parts hok
    have hst := Lib.hid (show lineS D p = p - p % 8 from by unfold lineS; rw [if_pos h])
    have hll := va.dl.len
    have hml := okDl_len hdl (by omega)
    have hm : m ≤ 2048 := by omega
    clear hml
    have HDL := Lib.hid hdl
    have H0 := Lib.hid h
    clear h hok hdl
    go_enter Try.func8, Try.ntmps8
    go_wp2_with fail
    refine (start_any _ _ _ _ _ _ _ _ D p _ (va.keep B2)).mono ?_
    rintro e w2 ⟨rfl, b2⟩
    have s1 := (X1.keep b2).lt
    have s2 := (X2.keep b2).lt
    obtain ⟨⟨x0, x1, x2, x3⟩, f0, f1, f2, f3⟩ := (X1.keep b2).open4
    have C2 := below_then B2 b2
    go_wp2_with fail
    refine (spend_any _ _ _ _ _ _ _ _ D _ (va.keep C2)).mono ?_
    rintro e w3 ⟨v3, rfl, M3⟩
    have C3 := below_then C2 M3.below
    have Y2 := (X2.keep b2).keep M3.below
    have t2 := Y2.lt
    have t3 := M3.below.size
    obtain ⟨⟨y0, y1, y2, y3⟩, g0, g1, g2, g3⟩ := Y2.open4
    obtain ⟨a3, c3, b3, d3, rfl, O1, O2⟩ := M3.lay
    have P1 := owns_mono O1 (show w.heap.size + 2 ≤ _ by omega)
    have P2 := owns_mono O2 (show w.heap.size + 2 ≤ _ by omega)
    clear O1 O2 M3 X1 X2
    cases hM : made D
    · have HD := Lib.hid (show flushedD D p = spent D from by unfold flushedD; rw [hM]; rfl)
      go_wp2_with fail
      refine bodyPost_ret (by simp [results, Try.results8, go_sem, t2, y0, y1, y2, y3]; try rfl) rfl ?_
      have H0' := H0.out
      rw [H0', HS.out, HD.out]
      refine ⟨_, rfl, MadeD.mk (w.heap.size + 2) ?_ (by omega) (owns_mid P1 (Nat.le_refl _) ?_ (Nat.le_refl _)) (owns_mid P2 (Nat.le_refl _) ?_ (Nat.le_refl _)) rfl rfl⟩
      · repeat' (first | with_reducible exact C3 | (with_reducible refine Below.setCell ?_ (by simp) _) | (with_reducible refine below_new ?_))
      · repeat' (first | with_reducible exact Mid.refl _ _ | (with_reducible refine Mid.set ?_ (by left; simp) _) | (with_reducible refine Mid.alloc ?_ _))
      · repeat' (first | with_reducible exact Mid.refl _ _ | (with_reducible refine Mid.set ?_ (by left; simp) _) | (with_reducible refine Mid.alloc ?_ _))
    · have HD := Lib.hid (show flushedD D p = { spent D with dl := D.dl.map (flushW p) } from by unfold flushedD; rw [hM]; rfl)
      simp only [spent_dl, hll] at P2 ⊢
      have T := Box.new w3 #[.slice a3 (spent D).im.length c3, .slice b3 m d3, .int .i64 (spent D).left, .bool (spent D).down] 25
      generalize hNI : (spent D).im.length = NI at P1 T ⊢
      replace hNI := Lib.hid hNI
      have P1' := P1.alloc (box a3 NI c3 b3 m d3 (spent D).left (spent D).down)
      have P2' := P2.alloc (box a3 NI c3 b3 m d3 (spent D).left (spent D).down)
      have C3' := below_new (o := box a3 NI c3 b3 m d3 (spent D).left (spent D).down) C3
      have Y2' := Y2.alloc (box a3 NI c3 b3 m d3 (spent D).left (spent D).down)
      obtain ⟨bb, dd, he, V2⟩ := seesR_of_owns (R := dw) hll P2' va.dl.good (by show m * 3 ≤ _; omega)
      injection he with he1 he2 he3
      subst he1 he3
      have hlow1 := lowN_le (p - p % 8) D.dl
      have hlow2 := lowN_le (p - p % 8 + 8) D.dl
      have hmono := low_mono (show p - p % 8 ≤ p - p % 8 + 8 by omega) D.dl
      have HIN := Lib.hid (show ∀ k (hk : k < D.dl.length), lowN (p - p % 8) D.dl ≤ k → k < lowN (p - p % 8 + 8) D.dl → D.dl[k].p / 8 = p / 8 from fun k hk h1 h2 => by
        have e1 := low_ge HDL.out h1 hk
        have e2 := low_lt h2 hk
        omega)
      have HLO := Lib.hid (show mix (flushW p) D.dl (lowN (p - p % 8) D.dl) = D.dl from by
        rw [← mix_keep (Nat.zero_le _) hlow1 (fun j hj _ h2 => by
          have e1 := low_lt h2 hj
          unfold flushW
          rw [if_neg (by omega)]), mix_zero])
      have HHI := Lib.hid (show mix (flushW p) D.dl (lowN (p - p % 8 + 8) D.dl) = D.dl.map (flushW p) from by
        rw [mix_keep hlow2 (Nat.le_refl _) (fun j hj h1 _ => by
          have e1 := low_ge HDL.out h1 hj
          unfold flushW
          rw [if_neg (by omega)]), mix_all _ _ _ (Nat.le_refl _)])
      rw [hll] at hlow1 hlow2
      have HLL := Lib.hid hll
      clear hll he2
      rw [hst.out]
      go_wp2_with fail
      refine (find_any _ _ _ D.dl _ _ (p - p % 8) _ V2 HDL.out).mono ?_
      rintro e w4 ⟨rfl, b4⟩
      have T4 := T.keep b4
      have Y4 := Y2'.keep b4
      have t4 := T4.lt
      have V4 := V2.keep b4
      clear x0 x1 x2 x3 f0 f1 f2 f3
      obtain ⟨⟨x0, x1, x2, x3⟩, f0, f1, f2, f3⟩ := T4.open4
      have wr8 : IntKind.i64.wrap (p - p % 8 + 8) = p - p % 8 + 8 := by rw [IntKind.wrap_i64]; omega
      go_wp2_with fail
      refine (find_any _ _ _ D.dl _ _ (p - p % 8 + 8) _ V4 HDL.out).mono ?_
      rintro e w5 ⟨rfl, b5⟩
      have T5 := T4.keep b5
      have Y5 := Y4.keep b5
      have C5 := below_then (C3'.trans (b4.mono C3'.size)) b5
      have Q1 := owns_kept' (owns_kept' P1' b4) b5
      have Q2 := owns_kept' (owns_kept' P2' b4) b5
      have t5 := T5.lt
      clear x0 x1 x2 x3 f0 f1 f2 f3 y0 y1 y2 y3 g0 g1 g2 g3 T T4 Y2 Y2' Y4 P1 P2 P1' P2' V2 V4 C3' b4
      obtain ⟨⟨x0, x1, x2, x3⟩, f0, f1, f2, f3⟩ := T5.open4
      generalize lowN (p - p % 8) D.dl = lo at hlow1 hmono HIN HLO ⊢
      generalize lowN (p - p % 8 + 8) D.dl = hi at hlow2 hmono HIN HHI ⊢
      generalize hasN (p - p % 8) D.dl = q1
      generalize hasN (p - p % 8 + 8) D.dl = q2
      go_wp2_with fail
      clear x0 x1 x2 x3 f0 f1 f2 f3
      go_loopw [14] (fun i wr => ∃ (k : Nat), lo ≤ k ∧ k ≤ hi ∧ i = .int .i64 k ∧ Below w.heap.size w wr ∧ Box wr (w.heap.size + 1) #[.slice none 0 0, .slice none 0 0, .int .i64 0, .bool false] 25 ∧
        Box wr w3.heap.size #[.slice a3 NI c3, .slice b3 m d3, .int .i64 (spent D).left, .bool (spent D).down] 25 ∧
        wr.ownsRow (w.heap.size + 2) 31 1 (.slice a3 NI c3) NI ((spent D).im.map (Value.int .u64)) ∧ wr.ownsRow (w.heap.size + 2) 44 dw.sz (.slice b3 m d3) m ((mix (flushW p) D.dl k).flatMap dw.cells)) (fun i _ => hi - (intOf i).toNat)
      case atStart => exact ⟨lo, Nat.le_refl _, hmono, rfl, C5, Y5, T5, Q1, by rw [HLO.out]; exact Q2⟩
      case round =>
        clear Y5 T5 C5 Q1 Q2 t5
        obtain ⟨k, hk1, hk2, rfl, Bw, Y, T, Q1, Q2⟩ := hrel
        have s1 := Y.lt
        have s2 := T.lt
        obtain ⟨⟨x0, x1, x2, x3⟩, f0, f1, f2, f3⟩ := T.open4
        obtain ⟨⟨y0, y1, y2, y3⟩, g0, g1, g2, g3⟩ := Y.open4
        by_cases hlt : k < hi
        · have hlt' : k < D.dl.length := by rw [HLL.out]; omega
          obtain ⟨g, rfl, hgN, hgw⟩ := owns_at0 Q2 (by omega)
          have hg3 : g ≠ w3.heap.size := fun he => owns_off Q2 T (by decide) (by rw [← he]; rfl)
          have hzl := mix_len (flushW p) D.dl k
          have hk2' : k < (mix (flushW p) D.dl k).length := by omega
          have hzk : (mix (flushW p) D.dl k)[k] = D.dl[k] := by
            have h := mix_at (flushW p) D.dl k hlt'
            rwa [List.getElem?_eq_getElem hk2', Option.some_inj] at h
          have c3' : wr.cell? ⟨g, k * 3 + 2, none⟩ = some (.bool D.dl[k].f) := by
            rw [← hzk]
            exact (Q2.cellAt (k * 3 + 2) (by show _ < m * 3; omega)).trans (dw.flat_at _ k 2 hk2' (by decide))
          have c4 := Q2.frozenAt (k * 3 + 2)
          have he := HIN.out k hlt' hk1 hlt
          have QS := owns_stored Q2 k 2 hk2' (by decide) (.bool true) (flushW p D.dl[k]) (by rw [hzk]; unfold flushW; rw [if_pos he]; rfl)
          rw [mix_set _ _ _ hlt'] at QS
          have hq1 := owns_apart Q1 Q2 (by decide) rfl
          have Q1' := ownsRow_setCell_other Q1 (a := ⟨g, k * 3 + 2, none⟩) hq1 (.bool true)
          have Y' := Y.other (a := ⟨g, k * 3 + 2, none⟩) (by show w.heap.size + 1 ≠ g; omega) (.bool true)
          have T' := T.other (a := ⟨g, k * 3 + 2, none⟩) (by show w3.heap.size ≠ g; omega) (.bool true)
          have B' := Bw.setCell (p := ⟨g, k * 3 + 2, none⟩) (by show _ ≤ g; omega) (.bool true)
          clear he hzk hzl hk2' Q1 Q2 Y T Bw
          generalize D.dl[k].f = F at c3'
          go_wp2_with fail
          go_roundw
          case rel => exact ⟨k + 1, by omega, by omega, by go_num, B', Y', T', Q1', QS⟩
          case measure => simp [intOf]; omega
        · obtain rfl : k = hi := by omega
          have Q3 := owns_len (n' := (D.dl.map (flushW p)).length) Q2 (by rw [List.length_map, HLL.out]) (by rw [HHI.out])
          clear Q2
          go_wp2_with fail
          refine bodyPost_ret (by simp [results, Try.results8, go_sem, y0, y1, y2, y3]; try rfl) rfl ?_
          have H0' := H0.out
          rw [H0', HS.out, HD.out]
          have hNI' := hNI.out
          subst hNI'
          have hll := HLL.out
          have e9 : (D.dl.map (flushW p)).length = m := by rw [List.length_map, hll]
          rw [e9] at Q3
          refine ⟨_, rfl, MadeD.mk (w.heap.size + 2) ?_ (by omega) (owns_mid Q1 (Nat.le_refl _) ?_ (Nat.le_refl _)) (owns_len (owns_mid Q3 (Nat.le_refl _) ?_ (Nat.le_refl _)) e9.symm rfl) rfl rfl⟩
          · repeat' (first | with_reducible exact Bw | (with_reducible refine Below.setCell ?_ (by simp) _))
          · repeat' (first | with_reducible exact Mid.refl _ _ | (with_reducible refine Mid.set ?_ (by left; simp) _))
          · repeat' (first | with_reducible exact Mid.refl _ _ | (with_reducible refine Mid.set ?_ (by left; simp) _))
  · have HS := Lib.hid (show flushD D p = zdev from by unfold flushD; rw [if_neg h])
    have hb : (asked D p != 0) = true := by simpa using h
    clear h
    go_enter Try.func8, Try.ntmps8
    go_wp2_with fail
    refine (start_any _ _ _ _ _ _ _ _ D p _ (va.keep B2)).mono ?_
    rintro e w2 ⟨rfl, b2⟩
    have s1 := (X1.keep b2).lt
    have s2 := (X2.keep b2).lt
    obtain ⟨⟨y0, y1, y2, y3⟩, g0, g1, g2, g3⟩ := (X2.keep b2).open4
    have C2 := below_then B2 b2
    go_wp2_with fail
    refine bodyPost_ret (by simp [results, Try.results8, go_sem, y0, y1, y2, y3]; try rfl) rfl ?_
    rw [HS.out]
    refine ⟨_, rfl, MadeD.zero ?_⟩
    repeat' (first | with_reducible exact C2 | (with_reducible refine Below.setCell ?_ (by simp) _))
end Go.Proofs.Ytpdgefmchoonnaa.Ca
