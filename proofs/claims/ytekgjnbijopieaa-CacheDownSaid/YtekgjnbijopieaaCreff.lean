/-
  Contracts of the reference of package cache, continued: flushing.
-/
import Derived.Test.YtekgjnbijopieaaCrefb
import Derived.Test.YtekgjnbijopieaaRecb
import Derived.LoopN
namespace Go.Proofs.Ytekgjnbijopieaa.Cr
open Go.RowKit Go.Proofs.Ytekgjnbijopieaa.Sl Go.Proofs.Ytekgjnbijopieaa.St Go.Proofs.Ytekgjnbijopieaa.Ir Go.Proofs.Ytekgjnbijopieaa.Dv
set_option maxRecDepth 100000
set_option maxHeartbeats 4000000

/-- A list of which the first k are turned. -/
def mix (h : Dw → Dw) (xs : List Dw) (k : Nat) : List Dw := (xs.take k).map h ++ xs.drop k
theorem mix_len (h : Dw → Dw) (xs : List Dw) (k : Nat) : (mix h xs k).length = xs.length := by
  unfold mix
  rw [List.length_append, List.length_map, List.length_take, List.length_drop]
  omega
theorem mix_at (h : Dw → Dw) (xs : List Dw) (k : Nat) (hk : k < xs.length) : (mix h xs k)[k]? = some xs[k] := by
  unfold mix
  have e : ((xs.take k).map h).length = k := by rw [List.length_map, List.length_take]; omega
  rw [List.drop_eq_getElem_cons hk, List.getElem?_append_right (by omega), e, Nat.sub_self]
  rfl
theorem mix_set (h : Dw → Dw) (xs : List Dw) (k : Nat) (hk : k < xs.length) : (mix h xs k).set k (h xs[k]) = mix h xs (k + 1) := by
  unfold mix
  have e : ((xs.take k).map h).length = k := by rw [List.length_map, List.length_take]; omega
  rw [List.drop_eq_getElem_cons hk, List.set_append_right _ _ (by omega), e, Nat.sub_self, List.set_cons_zero, List.take_succ_eq_append_getElem hk, List.map_append, List.append_assoc]
  rfl
theorem mix_same (h : Dw → Dw) (xs : List Dw) (k : Nat) (hk : k < xs.length) (he : h xs[k] = xs[k]) : mix h xs k = mix h xs (k + 1) := by
  unfold mix
  rw [List.drop_eq_getElem_cons hk, List.take_succ_eq_append_getElem hk, List.map_append, List.append_assoc]
  simp [he]
theorem mix_all (h : Dw → Dw) (xs : List Dw) (k : Nat) (hk : xs.length ≤ k) : mix h xs k = xs.map h := by
  unfold mix
  rw [List.take_of_length_le hk, List.drop_of_length_le hk, List.append_nil]
theorem rflushed_any (a : Option Addr) (n c : Nat) (b : Option Addr) (m d : Nat) (l : Int) (q : Bool) (D : Dev) (p : Int) (w : World) (va : SeesD w a n c b m d l q D) (hok : okD D = true) (hp : 0 ≤ p ∧ p ≤ 9223372036854775807) :
    Calls Try.prog 44 #[dev a n c b m d l q, .int .i64 p] w fun e w' => ∃ v, e = .returned v ∧ MadeD w (flushedD D p) v w' := by
  obtain ⟨⟨⟨h0, h1, -⟩, -⟩, hok⟩ := ok_parts hok
  have hll := va.dl.len
  have hml := okDl_len hok (by omega)
  have hm : m ≤ 2048 := by omega
  clear hml
  have B2 : Below w.heap.size w ((w.alloc (box a n c b m d l q)).alloc zbox) := below_new (below_new (Below.refl _ _))
  have X2 := Box.new1 w (box a n c b m d l q) #[.slice none 0 0, .slice none 0 0, .int .i64 0, .bool false] 25
  go_enter Try.func44, Try.ntmps44
  go_wp2_with fail
  refine (rspent_any _ _ _ _ _ _ _ _ D _ (va.keep B2)).mono ?_
  rintro e w3 ⟨v3, rfl, M3⟩
  have C3 := below_then B2 M3.below
  have t2 := (X2.keep M3.below).lt
  have Y2 := X2.keep M3.below
  obtain ⟨⟨y0, y1, y2, y3⟩, g0, g1, g2, g3⟩ := Y2.open4
  obtain ⟨a3, c3, b3, d3, rfl, O1, O2⟩ := M3.lay
  have P1 := owns_mono O1 (show w.heap.size + 2 ≤ _ by simp)
  have P2 := owns_mono O2 (show w.heap.size + 2 ≤ _ by simp)
  clear X2 O1 O2 M3 B2
  simp only [spent_dl, hll] at P2 ⊢
  by_cases hM : made D = true ∧ 0 < m
  · obtain ⟨hM, hm0⟩ := hM
    have HS := Lib.hid (show flushedD D p = { spent D with dl := D.dl.map (flushW p) } from by unfold flushedD; rw [if_pos hM])
    obtain ⟨g, rfl, hg1, hg2⟩ := owns_at0 P2 hm0
    have HG := Lib.hid (show g ≠ w.heap.size + 1 ∧ g ≠ w3.heap.size from ⟨by omega, by omega⟩)
    generalize hNI : (spent D).im.length = NI at P1 ⊢
    replace hNI := Lib.hid hNI
    go_wp2_with fail
    go_loopw [7] (fun i wr => ∃ (k : Nat), k ≤ m ∧ i = .int .i64 k ∧ Below w.heap.size w wr ∧ Box wr (w.heap.size + 1) #[.slice none 0 0, .slice none 0 0, .int .i64 0, .bool false] 25 ∧
      Box wr w3.heap.size #[.slice a3 NI c3, .slice (some ⟨g, 0, none⟩) m d3, .int .i64 (spent D).left, .bool (spent D).down] 25 ∧
      wr.ownsRow (w.heap.size + 2) 26 1 (.slice a3 NI c3) NI ((spent D).im.map (Value.int .u64)) ∧ wr.ownsRow (w.heap.size + 2) 28 dw.sz (.slice (some ⟨g, 0, none⟩) m d3) m ((mix (flushW p) D.dl k).flatMap dw.cells)) (fun i _ => m - (intOf i).toNat)
    case atStart => exact ⟨0, Nat.zero_le _, rfl, below_new C3, Y2.alloc _, Box.new _ _ _, P1.alloc _, P2.alloc _⟩
    case round =>
      obtain ⟨k, hk, rfl, Bw, Y, T, Q1, Q2⟩ := hrel
      have s1 := Y.lt
      have s2 := T.lt
      clear y0 y1 y2 y3 g0 g1 g2 g3
      obtain ⟨⟨x0, x1, x2, x3⟩, f0, f1, f2, f3⟩ := T.open4
      obtain ⟨⟨y0, y1, y2, y3⟩, g0, g1, g2, g3⟩ := Y.open4
      by_cases hlt : k < m
      · have hlt' : k < D.dl.length := by omega
        have hzl := mix_len (flushW p) D.dl k
        have hk2 : k < (mix (flushW p) D.dl k).length := by omega
        have hzk : (mix (flushW p) D.dl k)[k] = D.dl[k] := by
          have h := mix_at (flushW p) D.dl k hlt'
          rwa [List.getElem?_eq_getElem hk2, Option.some_inj] at h
        have hpk := okDl_at hok hlt'
        have c1 : wr.cell? ⟨g, k * 3, none⟩ = some (.int .i64 D.dl[k].p) := by
          rw [← hzk]
          exact (Q2.cellAt (k * 3) (by simp [dw]; omega)).trans (dw.flat_at _ k 0 hk2 (by decide))
        have c3' : wr.cell? ⟨g, k * 3 + 2, none⟩ = some (.bool D.dl[k].f) := by
          rw [← hzk]
          exact (Q2.cellAt (k * 3 + 2) (by simp [dw]; omega)).trans (dw.flat_at _ k 2 hk2 (by decide))
        have c4 := Q2.frozenAt (k * 3 + 2)
        by_cases he : D.dl[k].p / 8 = p / 8
        · have QS := owns_stored Q2 k 2 hk2 (by decide) (.bool true) (flushW p D.dl[k]) (by rw [hzk]; unfold flushW; rw [if_pos he]; rfl)
          rw [mix_set _ _ _ hlt'] at QS
          have hb : (D.dl[k].p / 8 == p / 8) = true := by simpa using he
          have hq1 := owns_apart Q1 Q2 (by decide) rfl
          have Q1' := ownsRow_setCell_other Q1 (a := ⟨g, k * 3 + 2, none⟩) hq1 (.bool true)
          have Y' := Y.other (a := ⟨g, k * 3 + 2, none⟩) (Ne.symm HG.out.1) (.bool true)
          have T' := T.other (a := ⟨g, k * 3 + 2, none⟩) (Ne.symm HG.out.2) (.bool true)
          have B' := Bw.setCell (p := ⟨g, k * 3 + 2, none⟩) (by show _ ≤ g; omega) (.bool true)
          clear he hzk hzl hk2 Q1 Q2 Y T Bw
          generalize D.dl[k].p = P at c1 hb hpk
          generalize D.dl[k].f = F at c3'
          go_wp2_with fail
          go_roundw
          case rel => exact ⟨k + 1, by omega, by go_num, B', Y', T', Q1', QS⟩
          case measure => simp [intOf]; omega
        · have hs := mix_same (flushW p) D.dl k hlt' (by unfold flushW; rw [if_neg he])
          rw [hs] at Q2
          have hb : (D.dl[k].p / 8 == p / 8) = false := by simpa using he
          clear he hs hzk hzl hk2
          generalize D.dl[k].p = P at c1 hb hpk
          go_wp2_with fail
          go_roundw
          case rel => exact ⟨k + 1, by omega, by go_num, Bw, Y, T, Q1, Q2⟩
          case measure => simp [intOf]; omega
      · obtain rfl : k = m := by omega
        have Q3 := owns_len (n' := (D.dl.map (flushW p)).length) Q2 (by rw [List.length_map, hll]) (by rw [mix_all _ _ _ (by omega)])
        clear Q2
        go_wp2
        refine bodyPost_ret (by simp [results, Try.results44, go_sem, y0, y1, y2, y3]; try rfl) rfl ?_
        rw [HS.out]
        have hNI' := hNI.out
        subst hNI'
        refine ⟨_, rfl, MadeD.mk (w.heap.size + 2) ?_ (by omega) (owns_mid Q1 (Nat.le_refl _) ?_ (Nat.le_refl _)) (owns_mid Q3 (Nat.le_refl _) ?_ (Nat.le_refl _)) rfl rfl⟩
        · repeat' (first | with_reducible exact Bw | (with_reducible refine Below.setCell ?_ (by simp) _))
        · repeat' (first | with_reducible exact Mid.refl _ _ | (with_reducible refine Mid.set ?_ (by left; simp) _))
        · repeat' (first | with_reducible exact Mid.refl _ _ | (with_reducible refine Mid.set ?_ (by left; simp) _))
  · have HS := Lib.hid (show flushedD D p = spent D from by
      unfold flushedD
      by_cases h : made D = true
      · have h0 : D.dl = [] := List.eq_nil_of_length_eq_zero (by rw [hll]; rcases Nat.eq_zero_or_pos m with h1 | h1; exact h1; exact absurd ⟨h, h1⟩ hM)
        have e1 := spent_dl D
        rw [if_pos h, h0]
        rw [h0] at e1
        cases hs : spent D
        rw [hs] at e1
        simp at e1
        simp [e1]
      · rw [if_neg h])
    rcases (show made D = false ∨ m = 0 from by
      cases h : made D
      · exact .inl rfl
      · exact .inr (by rcases Nat.eq_zero_or_pos m with h1 | h1; exact h1; exact absurd ⟨h, h1⟩ hM)) with hz | hz
    case' inr => subst hz
    all_goals
      clear hM
      go_wp2_with fail
      refine wp_loop_rounds 1 ?_
      rw [rounds_succ]
      go_wp2
      all_goals
        refine bodyPost_ret (by simp [results, Try.results44, go_sem, t2, y0, y1, y2, y3]; try rfl) rfl ?_
        rw [HS.out]
        have P3 := owns_len (n' := (spent D).dl.length) (xs' := (spent D).dl.flatMap dw.cells) P2 (by rw [spent_dl, hll]) (by rw [spent_dl])
        refine ⟨_, rfl, MadeD.mk (w.heap.size + 2) ?_ (by omega) (owns_mid P1 (Nat.le_refl _) ?_ (Nat.le_refl _)) (owns_mid P3 (Nat.le_refl _) ?_ (Nat.le_refl _)) rfl rfl⟩
        · repeat' (first | with_reducible exact C3 | (with_reducible refine Below.setCell ?_ (by simp) _) | (with_reducible refine below_new ?_))
        · repeat' (first | with_reducible exact Mid.refl _ _ | (with_reducible refine Mid.set ?_ (by left; simp) _) | (with_reducible refine Mid.alloc ?_ _))
        · repeat' (first | with_reducible exact Mid.refl _ _ | (with_reducible refine Mid.set ?_ (by left; simp) _) | (with_reducible refine Mid.alloc ?_ _))
/-- Flush. -/
theorem rflush_any (a : Option Addr) (n c : Nat) (b : Option Addr) (m d : Nat) (l : Int) (q : Bool) (D : Dev) (p : Int) (w : World) (va : SeesD w a n c b m d l q D) (hp : -9223372036854775808 ≤ p ∧ p ≤ 9223372036854775807) :
    Calls Try.prog 27 #[dev a n c b m d l q, .int .i64 p] w fun e w' => ∃ v, e = .returned (.tuple #[v, .int .i64 (asked D p)]) ∧ MadeD w (flushD D p) v w' := by
  have B2 : Below w.heap.size w ((w.alloc (box a n c b m d l q)).alloc zbox) := below_new (below_new (Below.refl _ _))
  have X1 := (Box.new w #[.slice a n c, .slice b m d, .int .i64 l, .bool q] 25).alloc zbox
  have X2 := Box.new1 w (box a n c b m d l q) #[.slice none 0 0, .slice none 0 0, .int .i64 0, .bool false] 25
  by_cases h : asked D p = 0
  · have HS := Lib.hid (show flushD D p = flushedD D p from by unfold flushD; rw [if_pos h])
    have hb : (asked D p == 0) = true := by simpa using h
    obtain ⟨hok, hp0⟩ := asked_parts h
    have HOK := Lib.hid hok
    have H0 := Lib.hid h
    clear h hok
    go_enter Try.func27, Try.ntmps27
    go_wp2_with fail
    refine (rask_any _ _ _ _ _ _ _ _ D p _ (va.keep B2)).mono ?_
    rintro e w2 ⟨rfl, b2⟩
    have s1 := (X1.keep b2).lt
    have s2 := (X2.keep b2).lt
    obtain ⟨⟨x0, x1, x2, x3⟩, f0, f1, f2, f3⟩ := (X1.keep b2).open4
    have C2 := below_then B2 b2
    go_wp2_with fail
    refine (rflushed_any _ _ _ _ _ _ _ _ D p _ (va.keep C2) HOK.out ⟨hp0.1, hp.2⟩).mono ?_
    rintro e w3 ⟨v3, rfl, M3⟩
    have C3 := below_then C2 M3.below
    have t2 := ((X2.keep b2).keep M3.below).lt
    obtain ⟨⟨y0, y1, y2, y3⟩, g0, g1, g2, g3⟩ := ((X2.keep b2).keep M3.below).open4
    obtain ⟨a3, c3, b3, d3, rfl, O1, O2⟩ := M3.lay
    have P1 := owns_mono O1 (show w.heap.size + 2 ≤ _ by omega)
    have P2 := owns_mono O2 (show w.heap.size + 2 ≤ _ by omega)
    clear O1 O2 M3
    go_wp2
    refine bodyPost_ret (by simp [results, Try.results27, go_sem, y0, y1, y2, y3]; try rfl) rfl ?_
    have H0' := H0.out
    rw [H0', HS.out]
    refine ⟨_, rfl, MadeD.mk (w.heap.size + 2) ?_ (by omega) (owns_mid P1 (Nat.le_refl _) ?_ (Nat.le_refl _)) (owns_mid P2 (Nat.le_refl _) ?_ (Nat.le_refl _)) rfl rfl⟩
    · repeat' (first | with_reducible exact C3 | (with_reducible refine Below.setCell ?_ (by simp) _))
    · repeat' (first | with_reducible exact Mid.refl _ _ | (with_reducible refine Mid.set ?_ (by left; simp) _))
    · repeat' (first | with_reducible exact Mid.refl _ _ | (with_reducible refine Mid.set ?_ (by left; simp) _))
  · have HS := Lib.hid (show flushD D p = zdev from by unfold flushD; rw [if_neg h])
    have hb : (asked D p == 0) = false := by simpa using h
    clear h
    go_enter Try.func27, Try.ntmps27
    go_wp2_with fail
    refine (rask_any _ _ _ _ _ _ _ _ D p _ (va.keep B2)).mono ?_
    rintro e w2 ⟨rfl, b2⟩
    have s1 := (X1.keep b2).lt
    have s2 := (X2.keep b2).lt
    obtain ⟨⟨x0, x1, x2, x3⟩, f0, f1, f2, f3⟩ := (X1.keep b2).open4
    have C2 := below_then B2 b2
    go_wp2_with fail
    refine (rask_any _ _ _ _ _ _ _ _ D p _ (va.keep C2)).mono ?_
    rintro e w3 ⟨rfl, b3⟩
    have C3 := below_then C2 b3
    obtain ⟨⟨y0, y1, y2, y3⟩, g0, g1, g2, g3⟩ := ((X2.keep b2).keep b3).open4
    go_wp2
    refine bodyPost_ret (by simp [results, Try.results27, go_sem, y0, y1, y2, y3]; try rfl) rfl ?_
    rw [HS.out]
    refine ⟨_, rfl, MadeD.zero ?_⟩
    repeat' (first | with_reducible exact C3 | (with_reducible refine Below.setCell ?_ (by simp) _))
end Go.Proofs.Ytekgjnbijopieaa.Cr
