/-
  Contracts of the reference of package cache.
-/
import Derived.Test.YtkjhpjgdcjccjaaDoorDev
namespace Go.Proofs.YtkjhpjgdcjccjaaDoor.Cr
open Go.RowKit Go.Proofs.YtkjhpjgdcjccjaaDoor.Sl Go.Proofs.YtkjhpjgdcjccjaaDoor.St Go.Proofs.YtkjhpjgdcjccjaaDoor.Ir Go.Proofs.YtkjhpjgdcjccjaaDoor.Dv
set_option maxRecDepth 100000
set_option maxHeartbeats 1000000

theorem rtwin_any (a : Option Addr) (n c : Nat) (b : Option Addr) (m d : Nat) (l : Int) (q : Bool) (D : Dev) (w : World) (va : SeesD w a n c b m d l q D) :
    Calls Tryd.prog 16 #[dev a n c b m d l q] w fun e w' => ∃ v, e = .returned v ∧ MadeD w D v w' := by
  have B2 : Below w.heap.size w ((w.alloc (.cells #[.slice a n c, .slice b m d, .int .i64 l, .bool q] 25)).alloc (.cells #[.slice none 0 0, .slice none 0 0, .int .i64 0, .bool false] 25)) := below_new (below_new (Below.refl _ _))
  have X1 := (Box.new w #[.slice a n c, .slice b m d, .int .i64 l, .bool q] 25).alloc (.cells #[.slice none 0 0, .slice none 0 0, .int .i64 0, .bool false] 25)
  have X2 := Box.new1 w (.cells #[.slice a n c, .slice b m d, .int .i64 l, .bool q] 25) #[.slice none 0 0, .slice none 0 0, .int .i64 0, .bool false] 25
  go_enter Tryd.func16, Tryd.ntmps16
  go_wp2_with fail
  refine (twin_any _ _ _ _ _ (va.keep B2).im).mono ?_
  rintro e w3 ⟨a3, c3, rfl, M3⟩
  have s0 := (X1.keep M3.2).lt
  have s1 := (X2.keep M3.2).lt
  obtain ⟨⟨x0, x1, x2, x3⟩, f0, f1, f2, f3⟩ := (X1.keep M3.2).open4
  obtain ⟨⟨y0, y1, y2, y3⟩, g0, g1, g2, g3⟩ := (X2.keep M3.2).open4
  have C3 := below_then B2 M3.2
  have C4 := C3.setCell (p := ⟨w.heap.size, 0, none⟩) (Nat.le_refl _) (.slice a3 D.im.length c3)
  have V4 := va.dl.keep (below_new (o := .cells #[] 36) C4)
  go_wp2_with (at_builtin; go_loud (refine wp_appendR rfl (.tmp 7) (.tmp 9) 23 rfl dw 36 Tryd.underlying23 _ 24 info_dirty rfl (by decide) _ _ [] rfl (GrowsR.litN dw 36 (Below.refl _ _) w3.heap.size (by simp)) b m d D.dl rfl V4 (by simpa using va.dl.top) ?_))
  intro v4 w4 G4
  obtain ⟨b4, d4, rfl, M4⟩ := G4.made
  have Y1 := ((X1.keep M3.2).set 0 (.slice a3 D.im.length c3)).keep M4.2
  have Y2 := ((X2.keep M3.2).other (a := ⟨w.heap.size, 0, none⟩) (by simp) (.slice a3 D.im.length c3)).keep M4.2
  have t1 := Y1.lt
  have t2 := Y2.lt
  clear x0 x1 x2 x3 f0 f1 f2 f3 y0 y1 y2 y3 g0 g1 g2 g3
  obtain ⟨⟨x0, x1, x2, x3⟩, f0, f1, f2, f3⟩ := Y1.open4
  obtain ⟨⟨y0, y1, y2, y3⟩, g0, g1, g2, g3⟩ := Y2.open4
  have O3 := owns_mono (owns_kept' (owns_mid M3.1 (Nat.le_refl _) ((Mid.refl _ w3).set (p := ⟨w.heap.size, 0, none⟩) (by left; simp; omega) (.slice a3 D.im.length c3)) (Nat.le_refl _)) M4.2) (show w.heap.size + 2 ≤ _ by simp)
  have O4 := owns_mono M4.1 (show w.heap.size + 2 ≤ _ by simp; omega)
  have C5 := below_then C4 M4.2
  clear X1 X2 Y1 Y2
  go_wp2
  refine bodyPost_ret (by simp [results, Tryd.results16, go_sem, y0, y1, y2, y3]; try rfl) rfl ?_
  refine ⟨_, rfl, MadeD.mk (w.heap.size + 2) ?_ (by omega) (owns_mid O3 (Nat.le_refl _) ?_ (Nat.le_refl _)) (owns_mid O4 (Nat.le_refl _) ?_ (Nat.le_refl _)) va.left va.down⟩
  · repeat' (first | (with_reducible refine Below.setCell ?_ (by simp) _) | with_reducible exact C5)
  · repeat' (first | (with_reducible refine Mid.set ?_ (by left; simp) _) | with_reducible exact Mid.refl _ _)
  · repeat' (first | (with_reducible refine Mid.set ?_ (by left; simp) _) | with_reducible exact Mid.refl _ _)

/-- Check, behind the device's head. -/
theorem rchk_yes (a : Option Addr) (n c : Nat) (b : Option Addr) (m d : Nat) (l : Int) (q : Bool) (D : Dev) (w : World) (va : SeesD w a n c b m d l q D) (h : Head n l q) :
    Calls Tryd.prog 21 #[dev a n c b m d l q] w fun e w' => e = .returned (.int .i64 (code8 (okDl n (-1) D.dl))) ∧ ∃ o j, (w.alloc o).drewN j = w' := by
  obtain ⟨h0, h1, h2, h3⟩ := h
  have hlen := va.dl.len
  have hm := va.dl.short
  have hnt := va.im.top
  cases q
  case' true => obtain rfl := h3 rfl
  all_goals
    clear h3
    go_enter Tryd.func21, Tryd.ntmps21
    go_wp2_with fail
    refine (rcheck_yes _ n c _ h0).mono ?_
    rintro e w' ⟨rfl, rfl⟩
    go_wp2_with fail
    all_goals first | (exfalso; omega) | skip
  all_goals
    go_loopw [3, 4] (fun u i wr => ∃ (L : Int) (k j : Nat) (l' : Int) (q' : Bool), u = .int .i64 L ∧ (-1 ≤ L ∧ L < 17592186044416) ∧ k ≤ m ∧ i = .int .i64 k ∧ Hid (okDl n (-1) D.dl = okDl n L (D.dl.drop k)) ∧ wr = (w.alloc (box a n c b m d l' q')).drewN j) (fun _ i _ => m - (intOf i).toNat)
    case atStart => exact ⟨-1, 0, 0, _, _, rfl, by omega, Nat.zero_le _, rfl, Lib.hid rfl, rfl⟩
    case round =>
      obtain ⟨L, k, j, l', q', rfl, hL, hk, rfl, hO, rfl⟩ := hrel
      have V := va.keep (below_new (o := box a n c b m d l' q') (Below.refl w.heap.size w))
      by_cases hlt : k < m
      · obtain ⟨b0, o0, rfl⟩ := va.dl.lies (by omega)
        have hlt' : k < D.dl.length := by omega
        obtain ⟨c1, -, -⟩ := dw_at V.dl k hlt'
        have HD := Lib.hid (hO.out.trans (okDl_drop hlt'))
        clear hO
        generalize D.dl[k].p = P at c1 HD
        by_cases hP : P ≤ L
        · have HF := Lib.hid (show okDl n (-1) D.dl = false from by rw [HD.out, decide_eq_false (by omega)]; rfl)
          clear HD
          go_wp2_with fail
          go_quiet (fail)
          go_wp2
          go_ret
          rw [HF.out]
          exact ⟨rfl, _, j + nq, by rw [World.drewN_drewN]⟩
        · have hP' : L < P := by omega
          clear hP
          by_cases hN : P < n
          · have HF := Lib.hid (show okDl n (-1) D.dl = okDl n P (D.dl.drop (k + 1)) from by rw [HD.out, decide_eq_true hP', decide_eq_true hN]; rfl)
            clear HD
            go_wp2_with fail
            go_quiet (fail)
            go_wp2
            go_roundw
            case rel => exact ⟨P, k + 1, j + nq, l', q', rfl, by omega, by omega, by go_num, HF.out, rfl⟩
            case measure => simp [intOf]; omega
          · have HF := Lib.hid (show okDl n (-1) D.dl = false from by rw [HD.out, decide_eq_true hP', decide_eq_false hN]; rfl)
            have hN' : n ≤ P := by omega
            clear HD hN
            go_wp2_with fail
            go_quiet (fail)
            go_wp2
            go_ret
            rw [HF.out]
            exact ⟨rfl, _, j + nq, by rw [World.drewN_drewN]⟩
      · obtain rfl : k = m := by omega
        have HF := Lib.hid (show okDl n (-1) D.dl = true from by rw [hO.out, List.drop_of_length_le (by omega)]; rfl)
        clear hO
        go_wp2
        go_ret
        rw [HF.out]
        exact ⟨rfl, _, j, rfl⟩
theorem rchk_no (a : Option Addr) (n c : Nat) (b : Option Addr) (m d : Nat) (l : Int) (q : Bool) (w : World) (h : ¬ Head n l q) :
    Calls Tryd.prog 21 #[dev a n c b m d l q] w fun e w' => e = .returned (.int .i64 8) ∧ ∃ o j, (w.alloc o).drewN j = w' := by
  have h' : ¬ Img n ∨ (Img n ∧ l < -1) ∨ (Img n ∧ -1 ≤ l ∧ 1000000 < l) ∨ (Img n ∧ -1 ≤ l ∧ l ≤ 1000000 ∧ q = true ∧ l ≠ 0) := by
    by_cases h0 : Img n
    · rcases (by omega : l < -1 ∨ (-1 ≤ l ∧ 1000000 < l) ∨ (-1 ≤ l ∧ l ≤ 1000000)) with h1 | h1 | h1
      · exact .inr (.inl ⟨h0, h1⟩)
      · exact .inr (.inr (.inl ⟨h0, h1⟩))
      · refine .inr (.inr (.inr ⟨h0, h1.1, h1.2, ?_, fun hl => h ⟨h0, h1.1, h1.2, fun _ => hl⟩⟩))
        cases q
        · exact absurd ⟨h0, h1.1, h1.2, fun hq => by cases hq⟩ h
        · rfl
    · exact .inl h0
  clear h
  rcases h' with h0 | ⟨h0, h1⟩ | ⟨h0, h1, h2⟩ | ⟨h0, h1, h2, rfl, h3⟩
  · go_enter Tryd.func21, Tryd.ntmps21
    go_wp2_with fail
    refine (rcheck_no _ n c _ h0).mono ?_
    rintro e w' ⟨rfl, rfl⟩
    go_wp2_with fail
    all_goals first | (exfalso; omega) | skip
    all_goals go_ret
    all_goals exact ⟨rfl, _, 0, rfl⟩
  · go_enter Tryd.func21, Tryd.ntmps21
    go_wp2_with fail
    refine (rcheck_yes _ n c _ h0).mono ?_
    rintro e w' ⟨rfl, rfl⟩
    go_wp2_with fail
    all_goals first | (exfalso; omega) | skip
    all_goals go_ret
    all_goals exact ⟨rfl, _, 0, rfl⟩
  · go_enter Tryd.func21, Tryd.ntmps21
    go_wp2_with fail
    refine (rcheck_yes _ n c _ h0).mono ?_
    rintro e w' ⟨rfl, rfl⟩
    go_wp2_with fail
    all_goals first | (exfalso; omega) | skip
    all_goals go_ret
    all_goals exact ⟨rfl, _, 0, rfl⟩
  · have hb : (l != 0) = true := by simpa using h3
    go_enter Tryd.func21, Tryd.ntmps21
    go_wp2_with fail
    refine (rcheck_yes _ n c _ h0).mono ?_
    rintro e w' ⟨rfl, rfl⟩
    go_wp2_with fail
    all_goals first | (exfalso; omega) | skip
    all_goals go_ret
    all_goals exact ⟨rfl, _, 0, rfl⟩
/-- Check, of any device. -/
theorem rchk_any (a : Option Addr) (n c : Nat) (b : Option Addr) (m d : Nat) (l : Int) (q : Bool) (D : Dev) (w : World) (va : SeesD w a n c b m d l q D) :
    Calls Tryd.prog 21 #[dev a n c b m d l q] w fun e w' => e = .returned (.int .i64 (chk D)) ∧ ∃ o j, (w.alloc o).drewN j = w' := by
  have hl := va.im.len
  obtain rfl := va.left
  obtain rfl := va.down
  by_cases h : Head n D.left D.down
  · refine (rchk_yes a n c b m d _ _ D w va h).mono fun e w' ⟨he, ho⟩ => ⟨?_, ho⟩
    have e1 : okD D = okDl n (-1) D.dl := by unfold okD; rw [hl, decide_eq_true h]; rfl
    rw [he]
    unfold chk
    rw [e1]
  · refine (rchk_no a n c b m d _ _ w h).mono fun e w' ⟨he, ho⟩ => ⟨?_, ho⟩
    have e1 : okD D = false := by unfold okD; rw [hl, decide_eq_false h]; rfl
    rw [he]
    unfold chk
    rw [e1]
    rfl
end Go.Proofs.YtkjhpjgdcjccjaaDoor.Cr
