/-
  Contracts of the reference of package cache.
-/
import Derived.Test.YtpdgefmchoonnaaDev
namespace Go.Proofs.Ytpdgefmchoonnaa.Cr
open Go.RowKit Go.Proofs.Ytpdgefmchoonnaa.Sl Go.Proofs.Ytpdgefmchoonnaa.St Go.Proofs.Ytpdgefmchoonnaa.Ir Go.Proofs.Ytpdgefmchoonnaa.Dv
set_option maxRecDepth 100000
set_option maxHeartbeats 1000000

/-- Check, behind the device's head. -/
theorem rchk_yes (a : Option Addr) (n c : Nat) (b : Option Addr) (m d : Nat) (l : Int) (q : Bool) (D : Dev) (w : World) (va : SeesD w a n c b m d l q D) (h : Head n l q) :
    Calls Try.prog 5 #[dev a n c b m d l q] w fun e w' => e = .returned (.int .i64 (code8 (okDl n (-1) D.dl))) ∧ ∃ o j, (w.alloc o).drewN j = w' := by
  obtain ⟨h0, h1, h2, h3⟩ := h
  have hlen := va.dl.len
  have hm := va.dl.short
  have hnt := va.im.top
  cases q
  case' true => obtain rfl := h3 rfl
  all_goals
    clear h3
    go_enter Try.func5, Try.ntmps5
    go_wp2_with fail
    refine (rcheck_yes _ n c _ h0).mono ?_
    rintro e w' ⟨rfl, rfl⟩
    go_wp2_with fail
    all_goals first | (exfalso; omega) | skip
  all_goals
    go_loopw [3, 4] (fun u i wr => ∃ (L : Int) (k j : Nat) (l' : Int) (q' : Bool), u = .int .i64 L ∧ (-1 ≤ L ∧ L < 17592186044416) ∧ k ≤ m ∧ i = .int .i64 k ∧ Hid (okDl n (-1) D.dl = okDl n L (D.dl.drop k)) ∧ wr = (w.alloc (box a n c b m d l' q')).drewN j) (fun _ i _ => m - (intOf i).toNat)
    case atStart => exact ⟨-1, 0, 0, _, _, rfl, by omega, Nat.zero_le _, rfl, Lib.hid rfl, rfl⟩
    case round =>
      obtain ⟨L, k, j, l', q', rfl, hL, hk, rfl, hO, rfl⟩ := hrel
      have V := va.keep (below_new (o := box a n c b m d l' q') (Below.refl w.heap.size w))
      by_cases hlt : k < m
      · obtain ⟨b0, o0, rfl⟩ := va.dl.lies (by omega)
        have hlt' : k < D.dl.length := by omega
        obtain ⟨c1, -, -⟩ := dw_at V.dl k hlt'
        have HD := Lib.hid (hO.out.trans (okDl_drop hlt'))
        clear hO
        generalize D.dl[k].p = P at c1 HD
        by_cases hP : P ≤ L
        · have HF := Lib.hid (show okDl n (-1) D.dl = false from by rw [HD.out, decide_eq_false (by omega)]; rfl)
          clear HD
          go_wp2_with fail
          go_quiet (fail)
          go_wp2
          go_ret
          rw [HF.out]
          exact ⟨rfl, _, j + nq, by rw [World.drewN_drewN]⟩
        · have hP' : L < P := by omega
          clear hP
          by_cases hN : P < n
          · have HF := Lib.hid (show okDl n (-1) D.dl = okDl n P (D.dl.drop (k + 1)) from by rw [HD.out, decide_eq_true hP', decide_eq_true hN]; rfl)
            clear HD
            go_wp2_with fail
            go_quiet (fail)
            go_wp2
            go_roundw
            case rel => exact ⟨P, k + 1, j + nq, l', q', rfl, by omega, by omega, by go_num, HF.out, rfl⟩
            case measure => simp [intOf]; omega
          · have HF := Lib.hid (show okDl n (-1) D.dl = false from by rw [HD.out, decide_eq_true hP', decide_eq_false hN]; rfl)
            have hN' : n ≤ P := by omega
            clear HD hN
            go_wp2_with fail
            go_quiet (fail)
            go_wp2
            go_ret
            rw [HF.out]
            exact ⟨rfl, _, j + nq, by rw [World.drewN_drewN]⟩
      · obtain rfl : k = m := by omega
        have HF := Lib.hid (show okDl n (-1) D.dl = true from by rw [hO.out, List.drop_of_length_le (by omega)]; rfl)
        clear hO
        go_wp2
        go_ret
        rw [HF.out]
        exact ⟨rfl, _, j, rfl⟩
theorem rchk_no (a : Option Addr) (n c : Nat) (b : Option Addr) (m d : Nat) (l : Int) (q : Bool) (w : World) (h : ¬ Head n l q) :
    Calls Try.prog 5 #[dev a n c b m d l q] w fun e w' => e = .returned (.int .i64 8) ∧ ∃ o j, (w.alloc o).drewN j = w' := by
  have h' : ¬ Img n ∨ (Img n ∧ l < -1) ∨ (Img n ∧ -1 ≤ l ∧ 1000000 < l) ∨ (Img n ∧ -1 ≤ l ∧ l ≤ 1000000 ∧ q = true ∧ l ≠ 0) := by
    by_cases h0 : Img n
    · rcases (by omega : l < -1 ∨ (-1 ≤ l ∧ 1000000 < l) ∨ (-1 ≤ l ∧ l ≤ 1000000)) with h1 | h1 | h1
      · exact .inr (.inl ⟨h0, h1⟩)
      · exact .inr (.inr (.inl ⟨h0, h1⟩))
      · refine .inr (.inr (.inr ⟨h0, h1.1, h1.2, ?_, fun hl => h ⟨h0, h1.1, h1.2, fun _ => hl⟩⟩))
        cases q
        · exact absurd ⟨h0, h1.1, h1.2, fun hq => by cases hq⟩ h
        · rfl
    · exact .inl h0
  clear h
  rcases h' with h0 | ⟨h0, h1⟩ | ⟨h0, h1, h2⟩ | ⟨h0, h1, h2, rfl, h3⟩
  · go_enter Try.func5, Try.ntmps5
    go_wp2_with fail
    refine (rcheck_no _ n c _ h0).mono ?_
    rintro e w' ⟨rfl, rfl⟩
    go_wp2_with fail
    all_goals first | (exfalso; omega) | skip
    all_goals go_ret
    all_goals exact ⟨rfl, _, 0, rfl⟩
  · go_enter Try.func5, Try.ntmps5
    go_wp2_with fail
    refine (rcheck_yes _ n c _ h0).mono ?_
    rintro e w' ⟨rfl, rfl⟩
    go_wp2_with fail
    all_goals first | (exfalso; omega) | skip
    all_goals go_ret
    all_goals exact ⟨rfl, _, 0, rfl⟩
  · go_enter Try.func5, Try.ntmps5
    go_wp2_with fail
    refine (rcheck_yes _ n c _ h0).mono ?_
    rintro e w' ⟨rfl, rfl⟩
    go_wp2_with fail
    all_goals first | (exfalso; omega) | skip
    all_goals go_ret
    all_goals exact ⟨rfl, _, 0, rfl⟩
  · have hb : (l != 0) = true := by simpa using h3
    go_enter Try.func5, Try.ntmps5
    go_wp2_with fail
    refine (rcheck_yes _ n c _ h0).mono ?_
    rintro e w' ⟨rfl, rfl⟩
    go_wp2_with fail
    all_goals first | (exfalso; omega) | skip
    all_goals go_ret
    all_goals exact ⟨rfl, _, 0, rfl⟩
/-- Check, of any device. -/
theorem rchk_any (a : Option Addr) (n c : Nat) (b : Option Addr) (m d : Nat) (l : Int) (q : Bool) (D : Dev) (w : World) (va : SeesD w a n c b m d l q D) :
    Calls Try.prog 5 #[dev a n c b m d l q] w fun e w' => e = .returned (.int .i64 (chk D)) ∧ ∃ o j, (w.alloc o).drewN j = w' := by
  have hl := va.im.len
  obtain rfl := va.left
  obtain rfl := va.down
  by_cases h : Head n D.left D.down
  · refine (rchk_yes a n c b m d _ _ D w va h).mono fun e w' ⟨he, ho⟩ => ⟨?_, ho⟩
    have e1 : okD D = okDl n (-1) D.dl := by unfold okD; rw [hl, decide_eq_true h]; rfl
    rw [he]
    unfold chk
    rw [e1]
  · refine (rchk_no a n c b m d _ _ w h).mono fun e w' ⟨he, ho⟩ => ⟨?_, ho⟩
    have e1 : okD D = false := by unfold okD; rw [hl, decide_eq_false h]; rfl
    rw [he]
    unfold chk
    rw [e1]
    rfl
end Go.Proofs.Ytpdgefmchoonnaa.Cr
