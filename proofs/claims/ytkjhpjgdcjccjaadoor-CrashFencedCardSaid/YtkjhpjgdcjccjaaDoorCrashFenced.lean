/-
  The law CrashFenced returns true for every device, an address, two words and a mask; no condition but that the program's own variable for a lost word starts as its text lays it (the card ties it).
-/
import Derived.Test.YtkjhpjgdcjccjaaDoorKlaw
import Derived.Test.YtkjhpjgdcjccjaaDoorKlaid
import Derived.Test.YtkjhpjgdcjccjaaDoorDevOpen
import Derived.SizedLaws
namespace Go.Proofs.YtkjhpjgdcjccjaaDoor.crashFenced
open Go.Proofs.YtkjhpjgdcjccjaaDoor.Kl Go.Proofs.YtkjhpjgdcjccjaaDoor.Kp Go.Proofs.YtkjhpjgdcjccjaaDoor.Cp Go.Proofs.YtkjhpjgdcjccjaaDoor.Cy Go.Proofs.YtkjhpjgdcjccjaaDoor.Cx Go.ChangeShapes Go.WideShapes Go.ChangeAt Go.RowKit Go.Proofs.YtkjhpjgdcjccjaaDoor.Sl Go.Proofs.YtkjhpjgdcjccjaaDoor.St Go.Proofs.YtkjhpjgdcjccjaaDoor.Ir Go.Proofs.YtkjhpjgdcjccjaaDoor.Dv Go.Proofs.YtkjhpjgdcjccjaaDoor.Cr Go.Proofs.YtkjhpjgdcjccjaaDoor.Cu
set_option linter.unusedVariables false
set_option maxRecDepth 100000

theorem left_stored {D : Dev} {p v : Int} (h : D.left = -1) : (storedD D p v).left = -1 := by
  unfold storedD
  split
  · show (spent D).left = -1
    unfold spent
    rw [if_neg (by omega), if_neg (by omega)]
    exact h
  · unfold spent
    rw [if_neg (by omega), if_neg (by omega)]
    exact h
theorem left_flushed {D : Dev} {p : Int} (h : D.left = -1) : (flushedD D p).left = -1 := by
  unfold flushedD
  split
  · show (spent D).left = -1
    unfold spent
    rw [if_neg (by omega), if_neg (by omega)]
    exact h
  · unfold spent
    rw [if_neg (by omega), if_neg (by omega)]
    exact h
theorem left_fenced {D : Dev} (h : D.left = -1) : (fencedD D).left = -1 := by
  unfold fencedD
  split
  · show (spent D).left = -1
    unfold spent
    rw [if_neg (by omega), if_neg (by omega)]
    exact h
  · unfold spent
    rw [if_neg (by omega), if_neg (by omega)]
    exact h
theorem made_calm {D : Dev} (h : D.left = -1) : made D = true := by unfold made; rw [decide_eq_false (by omega)]; rfl
theorem safe_word {D : Dev} {p u : Int} (hok : okD D = true) (hp : 0 ≤ p ∧ p < D.im.length) (hl : D.left = -1) :
    okD (fencedD (flushedD (storedD D p u) p)) = true ∧ (wordsL (fencedD (flushedD (storedD D p u) p)).im (fencedD (flushedD (storedD D p u) p)).dl).getD p.toNat 0 = u := by
  have o1 := ok_stored (v := u) hok hp
  have o2 := ok_flushed (p := p) o1
  refine ⟨ok_fenced o2, ?_⟩
  rw [words_fenced o2, words_flushed, words_stored hok hp.1, made_calm hl, if_pos rfl]
  exact getD_set_eq (by rw [wordsL_len]; omega)
theorem load_crash {Z : Dev} {M p : Int} (hok : okD Z = true) (hp : 0 ≤ p ∧ p < Z.im.length) : loadR (crashD Z M) p = (crashD Z M).im.getD p.toNat 0 := by
  rw [load_words (ok_crash hok) (by rw [crash_len]; exact hp)]
  rfl
theorem load_safe {Z : Dev} {M p u : Int} (hok : okD Z = true) (hp : 0 ≤ p ∧ p < Z.im.length) (hoff : ∀ x ∈ Z.dl, x.p ≠ p) (hw : (wordsL Z.im Z.dl).getD p.toNat 0 = u) : loadR (crashD Z M) p = u := by
  rw [load_crash hok hp, crash_off hok hoff hp.1, hw]
theorem load_open {Z : Dev} {M p u t : Int} (hok : okD Z = true) (hp : 0 ≤ p ∧ p < Z.im.length) (hl : Z.left = -1) (hoff : ∀ x ∈ Z.dl, x.p ≠ p) (hw : (wordsL Z.im Z.dl).getD p.toNat 0 = u) :
    loadR (crashD (storedD Z p t) M) p = u ∨ loadR (crashD (storedD Z p t) M) p = t := by
  have o1 := ok_stored (v := t) hok hp
  have hi : (storedD Z p t).im = Z.im := by
    unfold storedD
    split
    · exact spent_im Z
    · exact spent_im Z
  rw [load_crash o1 (by rw [hi]; exact hp)]
  rcases old_or_new (M := M) (ok_parts o1).2 p.toNat with h | h
  · left
    have h0 := crash_off (M := 0) hok hoff hp.1
    rw [hw] at h0
    have h1 : (crashD Z 0).im = Z.im := crash_none Z.im Z.dl Z.dl.length
    rw [h1] at h0
    rw [← h0, ← hi]
    exact h
  · right
    rw [words_stored hok hp.1, made_calm hl, if_pos rfl, getD_set_eq (by rw [wordsL_len]; omega)] at h
    exact h
set_option maxHeartbeats 4000000 in
theorem walk_main (a : Option Addr) (n c : Nat) (b : Option Addr) (m d : Nat) (D : Dev) (p u t M : Int) (w : World) (L : Lost w) (s : SeesD w a n c b m d (-1) false D) (hok : okD D = true) (hp : 0 ≤ p ∧ p < n) (hu : 0 ≤ u ∧ u < 18446744073709551616) (ht : 0 ≤ t ∧ t < 18446744073709551616) (hM : 0 ≤ M ∧ M < 18446744073709551616) (hg : greatD n m = false)
    (X Y Z S T O : Dev) (LB : Int) (HX : Hid (storedD D p u = X)) (HY : Hid (flushedD X p = Y)) (HZ : Hid (fencedD Y = Z)) (HS : Hid (crashD Z M = S)) (HT : Hid (storedD Z p t = T)) (HO : Hid (crashD T M = O))
    (OX : Hid (okD X = true)) (OY : Hid (okD Y = true)) (OZ : Hid (okD Z = true)) (OS : Hid (okD S = true)) (OT : Hid (okD T = true)) (OO : Hid (okD O = true)) (DX : Hid (X.down = false)) (DY : Hid (Y.down = false)) (DZ : Hid (Z.down = false)) (DT : Hid (T.down = false))
    (HLS : Hid (loadR S p = u)) (HLO : Hid (loadR O p = LB)) (HLB : LB = u ∨ ((LB == u) = false ∧ LB = t)) :
    Calls Tryd.prog 7 #[dev a n c b m d (-1) false, .int .i64 p, .int .u64 u, .int .u64 t, .int .u64 M] w fun e w' => e = .returned (.bool true) ∧ Below w.heap.size w w' := by
  have HOK := Lib.hid hok
  have HC := Lib.hid (chk_ok hok)
  have HP := Lib.hid hp
  have hnt := s.im.top
  clear hok
  have C := below_new (o := box a n c b m d (-1) false) (Below.refl w.heap.size w)
  have Hd := Var.new s
  go_enter Tryd.func7, Tryd.ntmps7
  go_wp2_with fail
  refine (rgreat_any _ _ _ _ _ _ _ _ _ s.dl.short).mono ?_
  rintro e w1 ⟨rfl, b1⟩
  replace Hd := Hd.keep b1
  replace C := below_then C b1
  rw [hg]
  have tx := Hd.box.lt
  obtain ⟨x0, x1, x2, x3⟩ := Hd.cells
  go_wp2_with fail
  refine (chk_b _ _ _ _ _ _ _ _ D _ Hd.sees).mono ?_
  rintro e w2 ⟨rfl, b2⟩
  replace Hd := Hd.keep b2
  replace C := below_then C b2
  rw [HC.out]
  clear tx x0 x1 x2 x3
  have tx := Hd.box.lt
  obtain ⟨x0, x1, x2, x3⟩ := Hd.cells
  go_wp2_with fail
  all_goals first | (exfalso; omega) | skip
  refine (store_x _ _ _ _ _ _ _ _ D p u _ Hd.sees HOK.out HP.out hu X HX.out false DX.out).mono ?_
  rintro e w3 ⟨a3, c3, g3, m3, d3, l3, rfl, S3, b3⟩
  replace Hd := Hd.keep b3
  replace C := below_then C b3
  have Ndx := Lib.hid (Nat.ne_of_lt Hd.box.lt)
  have Bx : Hid (w.heap.size ≤ w3.heap.size) := Lib.hid C.size
  have Hx := Var.new S3
  have n3 : Below w3.heap.size w3 (w3.alloc (box a3 n c3 g3 m3 d3 l3 false)) := below_new (Below.refl _ _)
  replace Hd := Hd.keep n3
  replace C := below_then C n3
  clear S3
  clear tx x0 x1 x2 x3
  go_wp2_with fail
  refine (flush_x _ _ _ _ _ _ _ _ X p _ Hx.sees OX.out HP.out Y HY.out false DY.out).mono ?_
  rintro e w4 ⟨a4, c4, g4, m4, d4, l4, rfl, S4, b4⟩
  replace Hd := Hd.keep b4
  replace Hx := Hx.keep b4
  replace C := below_then C b4
  have tq := Hx.box.lt
  obtain ⟨⟨q0, q1, q2, q3⟩, f0, f1, f2, f3⟩ := Hx.box.open4
  replace Hd := Hx.far (y0 := .slice a4 n c4) (y1 := .slice g4 m4 d4) (y2 := .int .i64 l4) (y3 := .bool false) Hd Ndx.out
  replace C := below_put (B := w3.heap.size) (y0 := .slice a4 n c4) (y1 := .slice g4 m4 d4) (y2 := .int .i64 l4) (y3 := .bool false) C Bx.out
  replace Hx := Hx.put S4
  clear S4
  dsimp only [put4] at C Hd Hx
  go_wp2_with fail
  clear tq q0 q1 q2 q3 f0 f1 f2 f3
  refine (fence_x _ _ _ _ _ _ _ _ Y _ Hx.sees OY.out Z HZ.out false DZ.out).mono ?_
  rintro e w5 ⟨a5, c5, g5, m5, d5, l5, rfl, S5, b5⟩
  replace Hd := Hd.keep b5
  replace Hx := Hx.keep b5
  replace C := below_then C b5
  have tq := Hx.box.lt
  obtain ⟨⟨q0, q1, q2, q3⟩, f0, f1, f2, f3⟩ := Hx.box.open4
  replace Hd := Hx.far (y0 := .slice a5 n c5) (y1 := .slice g5 m5 d5) (y2 := .int .i64 l5) (y3 := .bool false) Hd Ndx.out
  replace C := below_put (B := w3.heap.size) (y0 := .slice a5 n c5) (y1 := .slice g5 m5 d5) (y2 := .int .i64 l5) (y3 := .bool false) C Bx.out
  replace Hx := Hx.put S5
  clear S5
  dsimp only [put4] at C Hd Hx
  go_wp2_with fail
  clear tq q0 q1 q2 q3 f0 f1 f2 f3
  refine (crash_x _ _ _ _ _ _ _ _ Z M _ Hx.sees OZ.out hM (L.keep C) S HS.out).mono ?_
  rintro e w6 ⟨a6, c6, g6, d6, rfl, S6, b6⟩
  replace Hd := Hd.keep b6
  replace Hx := Hx.keep b6
  replace C := below_then C b6
  have Nds := Lib.hid (Nat.ne_of_lt Hd.box.lt)
  have Nxs := Lib.hid (Nat.ne_of_lt Hx.box.lt)
  have Bs : Hid (w.heap.size ≤ w6.heap.size) := Lib.hid C.size
  have Hs := Var.new S6
  have n6' : Below w6.heap.size w6 (w6.alloc (box a6 n c6 g6 0 d6 (-1) false)) := below_new (Below.refl _ _)
  replace Hd := Hd.keep n6'
  replace Hx := Hx.keep n6'
  replace C := below_then C n6'
  clear S6
  have tx := Hx.box.lt
  obtain ⟨x0, x1, x2, x3⟩ := Hx.cells
  go_wp2_with fail
  refine (store_x _ _ _ _ _ _ _ _ Z p t _ Hx.sees OZ.out HP.out ht T HT.out false DT.out).mono ?_
  rintro e w7 ⟨a7, c7, g7, m7, d7, l7, rfl, S7, b7⟩
  replace Hd := Hd.keep b7
  replace Hx := Hx.keep b7
  replace Hs := Hs.keep b7
  replace C := below_then C b7
  have Ndy := Lib.hid (Nat.ne_of_lt Hd.box.lt)
  have Nxy := Lib.hid (Nat.ne_of_lt Hx.box.lt)
  have Nsy := Lib.hid (Nat.ne_of_lt Hs.box.lt)
  have By : Hid (w.heap.size ≤ w7.heap.size) := Lib.hid C.size
  have Hy := Var.new S7
  have n7 : Below w7.heap.size w7 (w7.alloc (box a7 n c7 g7 m7 d7 l7 false)) := below_new (Below.refl _ _)
  replace Hd := Hd.keep n7
  replace Hx := Hx.keep n7
  replace Hs := Hs.keep n7
  replace C := below_then C n7
  clear S7
  clear tx x0 x1 x2 x3
  go_wp2_with fail
  refine (crash_x _ _ _ _ _ _ _ _ T M _ Hy.sees OT.out hM (L.keep C) O HO.out).mono ?_
  rintro e w8 ⟨a8, c8, g8, d8, rfl, S8, b8⟩
  replace Hd := Hd.keep b8
  replace Hx := Hx.keep b8
  replace Hs := Hs.keep b8
  replace Hy := Hy.keep b8
  replace C := below_then C b8
  have Ndo := Lib.hid (Nat.ne_of_lt Hd.box.lt)
  have Nxo := Lib.hid (Nat.ne_of_lt Hx.box.lt)
  have Nso := Lib.hid (Nat.ne_of_lt Hs.box.lt)
  have Nyo := Lib.hid (Nat.ne_of_lt Hy.box.lt)
  have Bo : Hid (w.heap.size ≤ w8.heap.size) := Lib.hid C.size
  have Ho := Var.new S8
  have n8' : Below w8.heap.size w8 (w8.alloc (box a8 n c8 g8 0 d8 (-1) false)) := below_new (Below.refl _ _)
  replace Hd := Hd.keep n8'
  replace Hx := Hx.keep n8'
  replace Hs := Hs.keep n8'
  replace Hy := Hy.keep n8'
  replace C := below_then C n8'
  clear S8
  have tx := Hs.box.lt
  obtain ⟨x0, x1, x2, x3⟩ := Hs.cells
  go_wp2_with fail
  refine (load_x _ _ _ _ _ _ _ _ S p _ Hs.sees OS.out HP.out u HLS.out).mono ?_
  rintro e w9 ⟨rfl, b9⟩
  replace Hd := Hd.keep b9
  replace Hx := Hx.keep b9
  replace Hs := Hs.keep b9
  replace Hy := Hy.keep b9
  replace Ho := Ho.keep b9
  replace C := below_then C b9
  clear tx x0 x1 x2 x3
  have tx := Ho.box.lt
  obtain ⟨x0, x1, x2, x3⟩ := Ho.cells
  go_wp2_with fail
  refine (load_x _ _ _ _ _ _ _ _ O p _ Ho.sees OO.out HP.out LB HLO.out).mono ?_
  rintro e w9 ⟨rfl, b9⟩
  replace C := below_then C b9
  clear tx x0 x1 x2 x3
  clear Hd Hx Hs Hy Ho
  rcases HLB with rfl | ⟨hne, rfl⟩
  all_goals
    go_wp2_with fail
    refine (live_any _ (L.keep C)).mono ?_
    rintro e wb ⟨rfl, bb⟩
    go_wp2
    go_ret
    exact ⟨rfl, below_then C bb⟩
set_option maxHeartbeats 4000000 in
theorem walk_guard (a : Option Addr) (n c : Nat) (b : Option Addr) (m d : Nat) (l : Int) (q : Bool) (D : Dev) (p u t M : Int) (w : World) (L : Lost w) (s : SeesD w a n c b m d l q D) (hg : greatD n m = true ∨ (greatD n m = false ∧ okD D = false) ∨ (greatD n m = false ∧ okD D = true ∧ l ≠ -1) ∨ (greatD n m = false ∧ okD D = true ∧ l = -1 ∧ p < 0) ∨ (greatD n m = false ∧ okD D = true ∧ l = -1 ∧ 0 ≤ p ∧ (n : Int) ≤ p)) :
    Calls Tryd.prog 7 #[dev a n c b m d (l) q, .int .i64 p, .int .u64 u, .int .u64 t, .int .u64 M] w fun e w' => e = .returned (.bool true) ∧ Below w.heap.size w w' := by
  have C := below_new (o := box a n c b m d l q) (Below.refl w.heap.size w)
  have Hd := Var.new s
  have hnt := s.im.top
  have hmt := s.dl.short
  rcases hg with hg | ⟨hg, hok⟩ | ⟨hg, hok, h0⟩ | ⟨hg, hok, h0, h1⟩ | ⟨hg, hok, h0, h1, h2⟩
  · go_enter Tryd.func7, Tryd.ntmps7
    go_wp2_with fail
    refine (rgreat_any _ _ _ _ _ _ _ _ _ s.dl.short).mono ?_
    rintro e w1 ⟨rfl, b1⟩
    replace C := below_then C b1
    rw [hg]
    go_wp2_with fail
    refine (live_any _ (L.keep C)).mono ?_
    rintro e wb ⟨rfl, bb⟩
    go_wp2
    go_ret
    exact ⟨rfl, below_then C bb⟩
  · have hc : chk D = 8 := chk_bad (by rw [hok]; decide)
    go_enter Tryd.func7, Tryd.ntmps7
    go_wp2_with fail
    refine (rgreat_any _ _ _ _ _ _ _ _ _ s.dl.short).mono ?_
    rintro e w1 ⟨rfl, b1⟩
    replace C := below_then C b1
    rw [hg]
    replace Hd := Hd.keep b1
    have td := Hd.box.lt
    obtain ⟨x0, x1, x2, x3⟩ := Hd.cells
    go_wp2_with fail
    refine (chk_b _ _ _ _ _ _ _ _ D _ Hd.sees).mono ?_
    rintro e w2 ⟨rfl, b2⟩
    replace C := below_then C b2
    rw [hc]
    go_wp2_with fail
    refine (live_any _ (L.keep C)).mono ?_
    rintro e wb ⟨rfl, bb⟩
    go_wp2
    go_ret
    exact ⟨rfl, below_then C bb⟩
  · have hc : chk D = 0 := chk_ok hok
    have hb : (l != -1) = true := by simpa using h0
    go_enter Tryd.func7, Tryd.ntmps7
    go_wp2_with fail
    refine (rgreat_any _ _ _ _ _ _ _ _ _ s.dl.short).mono ?_
    rintro e w1 ⟨rfl, b1⟩
    replace C := below_then C b1
    rw [hg]
    replace Hd := Hd.keep b1
    have td := Hd.box.lt
    obtain ⟨x0, x1, x2, x3⟩ := Hd.cells
    go_wp2_with fail
    refine (chk_b _ _ _ _ _ _ _ _ D _ Hd.sees).mono ?_
    rintro e w2 ⟨rfl, b2⟩
    replace C := below_then C b2
    rw [hc]
    replace Hd := Hd.keep b2
    clear x0 x1 x2 x3 td
    have td := Hd.box.lt
    obtain ⟨x0, x1, x2, x3⟩ := Hd.cells
    go_wp2_with fail
    all_goals first | (exfalso; omega) | skip
    all_goals
      refine (live_any _ (L.keep C)).mono ?_
      rintro e wb ⟨rfl, bb⟩
      go_wp2
      go_ret
      exact ⟨rfl, below_then C bb⟩
  · have hc : chk D = 0 := chk_ok hok
    subst h0
    go_enter Tryd.func7, Tryd.ntmps7
    go_wp2_with fail
    refine (rgreat_any _ _ _ _ _ _ _ _ _ s.dl.short).mono ?_
    rintro e w1 ⟨rfl, b1⟩
    replace C := below_then C b1
    rw [hg]
    replace Hd := Hd.keep b1
    have td := Hd.box.lt
    obtain ⟨x0, x1, x2, x3⟩ := Hd.cells
    go_wp2_with fail
    refine (chk_b _ _ _ _ _ _ _ _ D _ Hd.sees).mono ?_
    rintro e w2 ⟨rfl, b2⟩
    replace C := below_then C b2
    rw [hc]
    replace Hd := Hd.keep b2
    clear x0 x1 x2 x3 td
    have td := Hd.box.lt
    obtain ⟨x0, x1, x2, x3⟩ := Hd.cells
    go_wp2_with fail
    all_goals first | (exfalso; omega) | skip
    all_goals
      refine (live_any _ (L.keep C)).mono ?_
      rintro e wb ⟨rfl, bb⟩
      go_wp2
      go_ret
      exact ⟨rfl, below_then C bb⟩
  · have hc : chk D = 0 := chk_ok hok
    subst h0
    go_enter Tryd.func7, Tryd.ntmps7
    go_wp2_with fail
    refine (rgreat_any _ _ _ _ _ _ _ _ _ s.dl.short).mono ?_
    rintro e w1 ⟨rfl, b1⟩
    replace C := below_then C b1
    rw [hg]
    replace Hd := Hd.keep b1
    have td := Hd.box.lt
    obtain ⟨x0, x1, x2, x3⟩ := Hd.cells
    go_wp2_with fail
    refine (chk_b _ _ _ _ _ _ _ _ D _ Hd.sees).mono ?_
    rintro e w2 ⟨rfl, b2⟩
    replace C := below_then C b2
    rw [hc]
    replace Hd := Hd.keep b2
    clear x0 x1 x2 x3 td
    have td := Hd.box.lt
    obtain ⟨x0, x1, x2, x3⟩ := Hd.cells
    go_wp2_with fail
    all_goals first | (exfalso; omega) | skip
    all_goals
      refine (live_any _ (L.keep C)).mono ?_
      rintro e wb ⟨rfl, bb⟩
      go_wp2
      go_ret
      exact ⟨rfl, below_then C bb⟩
theorem walk (a : Option Addr) (n c : Nat) (b : Option Addr) (m d : Nat) (l : Int) (q : Bool) (D : Dev) (p u t M : Int) (hp : -9223372036854775808 ≤ p ∧ p ≤ 9223372036854775807) (hu : 0 ≤ u ∧ u < 18446744073709551616) (ht : 0 ≤ t ∧ t < 18446744073709551616) (hM : 0 ≤ M ∧ M < 18446744073709551616) (w : World) (L : Lost w) (s : SeesD w a n c b m d l q D) :
    Calls Tryd.prog 7 #[dev a n c b m d (l) q, .int .i64 p, .int .u64 u, .int .u64 t, .int .u64 M] w fun e w' => e = .returned (.bool true) ∧ Below w.heap.size w w' := by
  have hn := s.im.len
  by_cases hg : greatD n m = true
  · exact walk_guard a n c b m d l q D p u t M w L s (.inl hg)
  · have hg' : greatD n m = false := by simpa using hg
    by_cases hok : okD D = true
    · by_cases hl : l = -1
      · by_cases hr : 0 ≤ p ∧ p < n
        · have hL : D.left = -1 := by rw [s.left, hl]
          have hP : 0 ≤ p ∧ p < D.im.length := by omega
          have hq : q = false := by
            obtain ⟨⟨-, -, -, h3⟩, -⟩ := ok_parts hok
            cases hq : q
            · rfl
            · have := h3 (s.down.trans hq)
              omega
          subst hl hq
          have o1 := ok_stored (v := u) hok hP
          have o2 := ok_flushed (p := p) o1
          obtain ⟨o3, hw⟩ := safe_word (u := u) hok hP hL
          have l1 := left_stored (p := p) (v := u) hL
          have l2 := left_flushed (p := p) l1
          have l3 := left_fenced l2
          have hP3 : 0 ≤ p ∧ p < (fencedD (flushedD (storedD D p u) p)).im.length := by rw [len_fenced, len_flushed, len_stored]; exact hP
          have o4 := ok_stored (v := t) o3 hP3
          have hoff := safe_off (v := u) hok hL (p := p)
          have hlo := load_open (M := M) (t := t) o3 hP3 l3 hoff hw
          refine walk_main a n c b m d D p u t M w L s hok hr hu ht hM hg' _ _ _ _ _ _ _ (Lib.hid rfl) (Lib.hid rfl) (Lib.hid rfl) (Lib.hid rfl) (Lib.hid rfl) (Lib.hid rfl) (Lib.hid o1) (Lib.hid o2) (Lib.hid o3) (Lib.hid (ok_crash o3)) (Lib.hid o4) (Lib.hid (ok_crash o4))
            (Lib.hid ?_) (Lib.hid ?_) (Lib.hid ?_) (Lib.hid ?_) (Lib.hid (load_safe o3 hP3 hoff hw)) (Lib.hid rfl) ?_
          · rw [down_stored hok, made_calm hL]
            rfl
          · rw [down_flushed o1, made_calm l1]
            rfl
          · rw [down_fenced o2, made_calm l2]
            rfl
          · rw [down_stored o3, made_calm l3]
            rfl
          · rcases hlo with h | h
            · exact .inl h
            · by_cases he : loadR (crashD (storedD (fencedD (flushedD (storedD D p u) p)) p t) M) p = u
              · exact .inl he
              · exact .inr ⟨by simpa using he, h⟩
        · exact walk_guard a n c b m d l q D p u t M w L s (.inr (.inr (by
            subst hl
            rcases (by omega : p < 0 ∨ (0 ≤ p ∧ (n : Int) ≤ p)) with h | h
            · exact .inr (.inl ⟨hg', hok, rfl, h⟩)
            · exact .inr (.inr ⟨hg', hok, rfl, h.1, h.2⟩))))
      · exact walk_guard a n c b m d l q D p u t M w L s (.inr (.inr (.inl ⟨hg', hok, hl⟩)))
    · exact walk_guard a n c b m d l q D p u t M w L s (.inr (.inl ⟨hg', by simpa using hok⟩))

/-! The row's step. -/
set_option maxRecDepth 100000 in
theorem lifted (os : Os) (started : os.Started) (H : Type) (enc : TypeId × Value → H) :
    ReturnsInHanded {} Tryd.checked os 7 .any (fun w args => (Rows.crashFencedSpec.pre enc Tryd.prog Tryd.f7 [] false w args ∧ laidMetH Tryd.prog Kp.laid1 w) ∧ sizedMet enc Tryd.prog Tryd.f7 (OpenSpec.ofChange Rows.crashFencedSpec) false w args) (Rows.crashFencedSpec.post enc Tryd.prog Tryd.f7 false true false false) := by
  refine returnsInHanded_of_change_and (C := Tryd.checked) (X := fun w _ => laidMetH Tryd.prog Kp.laid1 w) (fun _ _ _ hh h => h.of_heap hh) St.own started (by kernel_rfl) Tryd.func7
    (ChangeSpec.witness_shaped (enc := enc) (C := Tryd.checked) (os := os) (X := fun w _ => laidMetH Tryd.prog Kp.laid1 w) false (World.doorLaid Tryd.prog 400 os) #[.agg #[.slice .none 0 0, .slice .none 0 0, .int .i64 0, .bool false], .int .i64 0, .int .u64 0, .int .u64 0, .int .u64 0] 8 rfl (World.shaped_of_RefB (by kernel_rfl) (by kernel_rfl)) (by kernel_rfl) (by kernel_rfl) (by kernel_rfl) (Kp.door_met os _)) ?_
  intro W base args ds gs before hval0 hW hcnd hsz0 hL _
  have hsz : (DataW.weightsEach Tryd.prog (Tryd.f7.params.toList ++ Rows.crashFencedSpec.plain.varTypes Tryd.prog) (ds ++ gs)).all (· ≤ reachBytes) = true := hsz0
  have hval : ∀ (j : Nat) t v, Tryd.f7.params[j]? = some t → args[j]? = some v → Value.okWide Tryd.prog W .any base t v := hval0
  have hW' := hW
  obtain ⟨p, q, hA0, hV, rfl, hfz, hnd⟩ := hW
  have hA : DataW.TrodAll enc Tryd.prog W 0 (fun _ => true) true Tryd.f7.params.toList args.toList ds p := hA0
  rw [Tryd.params7] at hA hval hsz
  obtain ⟨v0, vs0, d0, ds0, p0, q0, hargs, rfl, rfl, h0, r0⟩ := trodAll_cons hA
  obtain ⟨v1, vs1, d1, ds1, p1, q1, rfl, rfl, rfl, h1, r1⟩ := trodAll_cons r0
  obtain ⟨v2, vs2, d2, ds2, p2, q2, rfl, rfl, rfl, h2, r2⟩ := trodAll_cons r1
  obtain ⟨v3, vs3, d3, ds3, p3, q3, rfl, rfl, rfl, h3, r3⟩ := trodAll_cons r2
  obtain ⟨v4, vs4, d4, ds4, p4, q4, rfl, rfl, rfl, h4, r4⟩ := trodAll_cons r3
  obtain ⟨rfl, rfl, rfl⟩ := trodAll_nil r4
  obtain rfl : args = #[v0, v1, v2, v3, v4] := by cases args; simp_all
  obtain ⟨a0, n0, c0, b0, m0, e0, l0, b0', D0, rfl, s0⟩ := Dv.open_dev (hval 0 25 v0 rfl rfl) h0 (fun n hn => by
    have := List.all_eq_true.1 hsz _ (DataW.weights_mem_each (j := 0) (t := 25) rfl rfl n hn)
    exact of_decide_eq_true this)
  obtain ⟨a1, rfl, rfl, rfl, w1⟩ := open_int Tryd.underlying3 (hval 1 3 v1 rfl rfl) h1
  obtain ⟨a2, rfl, rfl, rfl, w2⟩ := open_int Tryd.underlying30 (hval 2 30 v2 rfl rfl) h2
  obtain ⟨a3, rfl, rfl, rfl, w3⟩ := open_int Tryd.underlying30 (hval 3 30 v3 rfl rfl) h3
  obtain ⟨a4, rfl, rfl, rfl, w4⟩ := open_int Tryd.underlying30 (hval 4 30 v4 rfl rfl) h4
  refine (walk a0 n0 c0 b0 m0 e0 l0 b0' D0 a1 a2 a3 a4 (St.i64_of_wf w1) (St.u64_of_wf w2) (St.u64_of_wf w3) (St.u64_of_wf w4) W (Kp.lost_of_laid hL) s0).mono fun e W' ⟨he, hb⟩ => ?_
  subst he
  exact St.law_done St.laid (by kernel_rfl) rfl rfl Tryd.underlying4 rfl hW' hb

theorem over : Rows.crashFencedRow.holds Tryd.pinned (OpenSpec.ofChange Rows.crashFencedSpec) :=
  OpenClaim.holds_of_wide 7 Tryd.f7 rfl rfl rfl rfl rfl rfl rfl ⟨rfl, rfl, rfl, rfl, rfl⟩ rfl rfl rfl rfl rfl (by kernel_rfl) Tryd.func7 (by kernel_rfl)
    (of_decide_eq_true (by kernel_rfl)) (by unfold Func.isWrapper; first | (rw [if_pos (by decide +kernel)]; kernel_rfl) | (rw [if_neg (by decide +kernel)]; exact ⟨rfl, rfl⟩))
    (fun os started H enc _ => lifted os started H enc)
theorem proved : Rows.CrashFencedCardSaid :=
  Claim7.holds_tied_plain_at .later [] [.data] true Rows.crashFencedCard.stood.harness false over (fun _ h => by cases h) (by kernel_rfl) (fun _ h => by cases h) crashFenced_row_tie rfl ⟨rfl, rfl⟩ (by kernel_rfl) rfl
    (fun f fn hf hfn => by
      obtain rfl : f = 7 := Option.some.inj ((show Tryd.prog.funcNamed "ballast/ballastlaw04.CrashFenced" = some 7 by kernel_rfl).symm.trans hf) |>.symm
      obtain rfl : fn = Tryd.f7 := (Option.some.inj (Tryd.func7.symm.trans hfn)).symm
      exact ⟨by kernel_rfl, fun j t ht => by
        rw [Tryd.params7] at ht
        have hm : t ∈ [25, 3, 30, 30, 30] := by simpa using Array.mem_of_getElem? ht
        have hall : ([25, 3, 30, 30, 30].all fun u => !Tryd.prog.wantsStandIn u) = true := by kernel_rfl
        exact (show Tryd.prog.wantsStandIn t = false by simpa using List.all_eq_true.1 hall t hm)⟩)
    (by kernel_rfl)
#print axioms proved
end Go.Proofs.YtkjhpjgdcjccjaaDoor.crashFenced

