/-
  Contracts of the checks of package cache: how many stores are left, dirty words, devices, and where a line starts.
-/
import Derived.Test.YtpdgefmchoonnaaFind
import Derived.Test.YtpdgefmchoonnaaImage
import Derived.Test.YtpdgefmchoonnaaCrefb
import Derived.BigGuardPart
namespace Go.Proofs.Ytpdgefmchoonnaa.Ca
open Go.RowKit Go.Proofs.Ytpdgefmchoonnaa.Sl Go.Proofs.Ytpdgefmchoonnaa.St Go.Proofs.Ytpdgefmchoonnaa.Ir Go.Proofs.Ytpdgefmchoonnaa.Dv Go.Proofs.Ytpdgefmchoonnaa.Cr Go.Proofs.Ytpdgefmchoonnaa.Fd
set_option maxRecDepth 100000
set_option maxHeartbeats 4000000

theorem left_yes (l : Int) (w : World) (h : -1 ≤ l ∧ l ≤ 1000000) : Calls Try.prog 32 #[.int .i64 l] w fun e w' => e = .returned (.bool true) ∧ w = w' := by
  obtain ⟨h1, h2⟩ := h
  go_enter Try.func32, Try.ntmps32
  go_wp2_with fail
  all_goals first | (exfalso; omega) | skip
  all_goals go_ret
  all_goals exact ⟨by first | rfl | simp [*], rfl⟩
theorem left_no (l : Int) (w : World) (h : ¬ (-1 ≤ l ∧ l ≤ 1000000)) : Calls Try.prog 32 #[.int .i64 l] w fun e w' => e = .returned (.bool false) ∧ w = w' := by
  rcases (by omega : l < -1 ∨ (-1 ≤ l ∧ 1000000 < l)) with h1 | ⟨h1, h2⟩
  all_goals
    clear h
    go_enter Try.func32, Try.ntmps32
    go_wp2_with fail
    all_goals first | (exfalso; omega) | skip
    all_goals go_ret
    all_goals exact ⟨by first | rfl | (simp; omega), rfl⟩
theorem dirty_any (b : Option Addr) (m d : Nat) (xs : List Dw) (n : Int) (w : World) (va : SeesR dw w b m d xs) :
    Calls Try.prog 31 #[.slice b m d, .int .i64 n] w fun e w' => e = .returned (.bool (okDl n (-1) xs)) ∧ Below w.heap.size w w' := by
  have hlen := va.len
  have hm := va.short
  go_enter Try.func31, Try.ntmps31
  go_wp2_with fail
  go_loopw [5, 10] (fun u i wr => ∃ (L : Int) (k : Nat), u = .int .i64 L ∧ k ≤ m ∧ i = .int .i64 k ∧ Hid (okDl n (-1) xs = okDl n L (xs.drop k)) ∧ Below w.heap.size w wr) (fun _ i _ => m - (intOf i).toNat)
  case atStart => exact ⟨-1, 0, rfl, Nat.zero_le _, rfl, Lib.hid rfl, Below.refl _ _⟩
  case round =>
    obtain ⟨L, k, rfl, hk, rfl, hO, BW⟩ := hrel
    by_cases hlt : k < m
    · obtain ⟨b0, o0, rfl⟩ := va.lies (by omega)
      have hlt' : k < xs.length := by omega
      obtain ⟨c1, c2, c4⟩ := dw_at (va.keep BW) k hlt'
      have HD := Lib.hid (hO.out.trans (okDl_drop hlt'))
      clear hO
      generalize xs[k] = X at c1 c2 c4 HD
      by_cases hP : X.p ≤ L
      · have HF := Lib.hid (show okDl n (-1) xs = false from by rw [HD.out, decide_eq_false (by omega)]; rfl)
        have hd : decide (X.p ≤ L) = true := decide_eq_true hP
        clear HD
        go_wp2_with fail
        all_goals first | (exfalso; omega) | skip
        all_goals go_ret
        all_goals rw [HF.out]
        all_goals exact ⟨rfl, by repeat' (first | with_reducible exact BW | (with_reducible refine Below.setCell ?_ (by simp; exact BW.size) _) | (with_reducible refine below_new ?_))⟩
      · have hP' : L < X.p := by omega
        have hd : decide (X.p ≤ L) = false := decide_eq_false hP
        by_cases hN : X.p < n
        · have HF := Lib.hid (show okDl n (-1) xs = okDl n X.p (xs.drop (k + 1)) from by rw [HD.out, decide_eq_true hP', decide_eq_true hN]; rfl)
          clear HD
          go_wp2_with fail
          all_goals first | (exfalso; omega) | skip
          go_roundw
          case rel => exact ⟨X.p, k + 1, rfl, by omega, by go_num, HF, by repeat' (first | with_reducible exact BW | (with_reducible refine Below.setCell ?_ (by simp; exact BW.size) _) | (with_reducible refine below_new ?_))⟩
          case measure => simp [intOf]; omega
        · have HF := Lib.hid (show okDl n (-1) xs = false from by rw [HD.out, decide_eq_true hP', decide_eq_false hN]; rfl)
          have hN' : n ≤ X.p := by omega
          clear HD hN
          go_wp2_with fail
          all_goals first | (exfalso; omega) | skip
          all_goals go_ret
          all_goals rw [HF.out]
          all_goals exact ⟨rfl, by repeat' (first | with_reducible exact BW | (with_reducible refine Below.setCell ?_ (by simp; exact BW.size) _) | (with_reducible refine below_new ?_))⟩
    · obtain rfl : k = m := by omega
      have HF := Lib.hid (show okDl n (-1) xs = true from by rw [hO.out, List.drop_of_length_le (by omega)]; rfl)
      clear hO
      go_wp2_with fail
      go_ret
      rw [HF.out]
      exact ⟨rfl, BW⟩
theorem check_any (a : Option Addr) (n c : Nat) (b : Option Addr) (m d : Nat) (l : Int) (q : Bool) (D : Dev) (w : World) (va : SeesD w a n c b m d l q D) :
    Calls Try.prog 19 #[dev a n c b m d l q] w fun e w' => e = .returned (.int .i64 (chk D)) ∧ Below w.heap.size w w' := by
  have hl := va.im.len
  have hnt := va.im.top
  obtain rfl := va.left
  obtain rfl := va.down
  have B1 : Below w.heap.size w (w.alloc (box a n c b m d D.left D.down)) := below_new (Below.refl _ _)
  have X1 := Box.new w #[.slice a n c, .slice b m d, .int .i64 D.left, .bool D.down] 25
  have hno : ∀ (_ : ¬ okD D = true), chk D = 8 := chk_bad
  have hyes : ∀ (_ : Head D.im.length D.left D.down) (_ : okDl D.im.length (-1) D.dl = true), chk D = 0 := fun h1 h2 => chk_ok (by unfold okD; rw [decide_eq_true h1, h2]; rfl)
  rw [hl] at hyes
  by_cases h0 : Img n
  · cases hd : okDl n (-1) D.dl
    · have HC := Lib.hid (hno fun h => by have h1 := (ok_parts h).2; rw [hl, hd] at h1; cases h1)
      replace hd := Lib.hid hd
      clear hno hyes
      go_enter Try.func19, Try.ntmps19
      go_wp2_with fail
      refine (Im.check_yes _ n c _ h0).mono ?_
      rintro e w' ⟨rfl, rfl⟩
      go_wp2_with fail
      refine (dirty_any _ _ _ D.dl n _ (va.keep B1).dl).mono ?_
      rintro e w3 ⟨rfl, b3⟩
      rw [hd.out]
      go_wp2_with fail
      all_goals first | (exfalso; omega) | skip
      all_goals go_ret
      all_goals rw [HC.out]
      all_goals exact ⟨rfl, below_then B1 b3⟩
    · by_cases h1 : -1 ≤ D.left ∧ D.left ≤ 1000000
      · have hyn : (D.down = true ∧ D.left ≠ 0) ∨ (D.down = true ∧ D.left = 0) ∨ D.down = false := by
          cases D.down
          · exact .inr (.inr rfl)
          · by_cases hz : D.left = 0
            · exact .inr (.inl ⟨rfl, hz⟩)
            · exact .inl ⟨rfl, hz⟩
        rcases hyn with ⟨h2, h3⟩ | ⟨h2, h3⟩ | h2
        case' inl =>
          have HC := Lib.hid (hno fun h => absurd ((ok_parts h).1.2.2.2 h2) h3)
          have hb : (D.left != 0) = true := by simpa using h3
        case' inr.inl =>
          have HC := Lib.hid (hyes ⟨h0, h1.1, h1.2, fun _ => h3⟩ hd)
          have hb : (D.left != 0) = false := by simpa using h3
        case' inr.inr => have HC := Lib.hid (hyes ⟨h0, h1.1, h1.2, fun h => by rw [h2] at h; cases h⟩ hd)
        all_goals
          try clear h3
          replace hd := Lib.hid hd
          replace h2 := Lib.hid h2
          have H1 := Lib.hid h1
          clear hno hyes h1
          go_enter Try.func19, Try.ntmps19
          go_wp2_with fail
          refine (Im.check_yes _ n c _ h0).mono ?_
          rintro e w' ⟨rfl, rfl⟩
          go_wp2_with fail
          refine (dirty_any _ _ _ D.dl n _ (va.keep B1).dl).mono ?_
          rintro e w3 ⟨rfl, b3⟩
          rw [hd.out]
          have t3 := (X1.keep b3).lt
          obtain ⟨⟨x0, x1, x2, x3⟩, f0, f1, f2, f3⟩ := (X1.keep b3).open4
          go_wp2_with fail
          refine (left_yes _ _ H1.out).mono ?_
          rintro e w' ⟨rfl, rfl⟩
          rw [h2.out] at x3
          go_wp2_with fail
          all_goals go_ret
          all_goals rw [HC.out]
          all_goals exact ⟨rfl, below_then B1 b3⟩
      · have HC := Lib.hid (hno fun h => h1 ⟨(ok_parts h).1.2.1, (ok_parts h).1.2.2.1⟩)
        replace hd := Lib.hid hd
        clear hno hyes
        go_enter Try.func19, Try.ntmps19
        go_wp2_with fail
        refine (Im.check_yes _ n c _ h0).mono ?_
        rintro e w' ⟨rfl, rfl⟩
        go_wp2_with fail
        refine (dirty_any _ _ _ D.dl n _ (va.keep B1).dl).mono ?_
        rintro e w3 ⟨rfl, b3⟩
        rw [hd.out]
        have t3 := (X1.keep b3).lt
        obtain ⟨⟨x0, x1, x2, x3⟩, f0, f1, f2, f3⟩ := (X1.keep b3).open4
        go_wp2_with fail
        refine (left_no _ _ h1).mono ?_
        rintro e w' ⟨rfl, rfl⟩
        go_wp2_with fail
        all_goals go_ret
        all_goals rw [HC.out]
        all_goals exact ⟨rfl, below_then B1 b3⟩
  · have HC := Lib.hid (hno fun h => h0 (by have h1 := (ok_parts h).1.1; rwa [hl] at h1))
    clear hno hyes
    go_enter Try.func19, Try.ntmps19
    go_wp2_with fail
    refine (Im.check_no _ n c _ h0).mono ?_
    rintro e w' ⟨rfl, rfl⟩
    go_wp2_with fail
    go_ret
    rw [HC.out]
    exact ⟨rfl, B1⟩
/-- Where the line of an address of a device starts. -/
def lineS (D : Dev) (p : Int) : Int := if asked D p = 0 then p - p % 8 else 0
theorem start_any (a : Option Addr) (n c : Nat) (b : Option Addr) (m d : Nat) (l : Int) (q : Bool) (D : Dev) (p : Int) (w : World) (va : SeesD w a n c b m d l q D) :
    Calls Try.prog 15 #[dev a n c b m d l q, .int .i64 p] w fun e w' => e = .returned (.tuple #[.int .i64 (lineS D p), .int .i64 (asked D p)]) ∧ Below w.heap.size w w' := by
  have hl := va.im.len
  have hnt := va.im.top
  have B1 : Below w.heap.size w (w.alloc (box a n c b m d l q)) := below_new (Below.refl _ _)
  have X1 := Box.new w #[.slice a n c, .slice b m d, .int .i64 l, .bool q] 25
  by_cases h : okD D = true
  · have hc := chk_ok h
    have h0 : Img n := by have h1 := (ok_parts h).1.1; rwa [hl] at h1
    rcases (by omega : (p < 0 ∨ (0 ≤ p ∧ (n : Int) ≤ p)) ∨ (0 ≤ p ∧ p < n)) with h1 | ⟨h1, h2⟩
    · have HA := Lib.hid (asked_arg (p := p) h (by omega))
      have HS := Lib.hid (show lineS D p = 0 from by unfold lineS; rw [if_neg (by rw [HA.out]; decide)])
      have H1 := Lib.hid h1
      clear h1 h
      go_enter Try.func15, Try.ntmps15
      go_wp2_with fail
      refine (check_any _ _ _ _ _ _ _ _ D _ (va.keep B1)).mono ?_
      rintro e w3 ⟨rfl, b3⟩
      rw [hc]
      have t3 := (X1.keep b3).lt
      obtain ⟨⟨x0, x1, x2, x3⟩, f0, f1, f2, f3⟩ := (X1.keep b3).open4
      go_wp2_with fail
      refine (Im.line_arg _ n c p _ h0 H1.out).mono ?_
      rintro e w' ⟨rfl, rfl⟩
      go_wp2_with fail
      go_ret2
      rw [HA.out, HS.out]
      exact ⟨rfl, below_then B1 b3⟩
    · have HA := Lib.hid (asked_ok (p := p) h h1 (by omega))
      have HS := Lib.hid (show lineS D p = p - p % 8 from by unfold lineS; rw [if_pos HA.out])
      clear h
      go_enter Try.func15, Try.ntmps15
      go_wp2_with fail
      refine (check_any _ _ _ _ _ _ _ _ D _ (va.keep B1)).mono ?_
      rintro e w3 ⟨rfl, b3⟩
      rw [hc]
      have t3 := (X1.keep b3).lt
      obtain ⟨⟨x0, x1, x2, x3⟩, f0, f1, f2, f3⟩ := (X1.keep b3).open4
      go_wp2_with fail
      refine (Im.line_yes _ n c p _ h0 h1 h2).mono ?_
      rintro e w' ⟨rfl, rfl⟩
      go_wp2_with fail
      go_ret2
      rw [HA.out, HS.out]
      exact ⟨rfl, below_then B1 b3⟩
  · have hc := chk_bad h
    have HA := Lib.hid (asked_bad (p := p) h)
    have HS := Lib.hid (show lineS D p = 0 from by unfold lineS; rw [if_neg (by rw [HA.out]; decide)])
    go_enter Try.func15, Try.ntmps15
    go_wp2_with fail
    refine (check_any _ _ _ _ _ _ _ _ D _ (va.keep B1)).mono ?_
    rintro e w3 ⟨rfl, b3⟩
    rw [hc]
    go_wp2_with fail
    go_ret2
    rw [HA.out, HS.out]
    exact ⟨rfl, below_then B1 b3⟩
end Go.Proofs.Ytpdgefmchoonnaa.Ca
