/-
  The law ImagePut returns true for every words, address and list; no condition.
-/
import Derived.Test.YtbgeinaldkjddaaImagep
import Derived.SizedLaws
namespace Go.Proofs.Ytbgeinaldkjddaa.imagePut
open Go.ChangeShapes Go.WideShapes Go.ChangeAt Go.RowKit Go.Proofs.Ytbgeinaldkjddaa.Sl Go.Proofs.Ytbgeinaldkjddaa.St Go.Proofs.Ytbgeinaldkjddaa.Ir Go.Proofs.Ytbgeinaldkjddaa.Iu
set_option linter.unusedVariables false
set_option maxRecDepth 100000
open Go.Proofs.Ytbgeinaldkjddaa.Ip
theorem get_seen (a : Option Addr) (n c : Nat) (p k : Int) (A K : Nat) (xs ys : List Int) (w : World) (va : Sees w .u64 a n c xs) (h : Img n) (hp : p = A) (hk : k = K) (ht : A + K ≤ n) (hy : (xs.drop A).take K = ys) :
    Calls Try.prog 11 #[.slice a n c, .int .i64 p, .int .i64 k] w
      fun e w' => ∃ a' c', e = .returned (.tuple #[.slice a' K c', .int .i64 0]) ∧ Sees w' .u64 a' K c' ys ∧ Below w.heap.size w w' := by
  subst hp hk hy
  have hl := va.len
  have htop := va.top
  have hL : ((xs.drop A).take K).length = K := by rw [List.length_take, List.length_drop]; omega
  refine (Im.get_yes a n c A K xs w va h ht).mono fun _ _ ⟨a', c', he, hm⟩ => ?_
  have hs := hm.sees (wf_cut va.wf A K) (by omega)
  rw [hL] at he hs
  exact ⟨a', c', he, hs, hm.2⟩
theorem put_seen (a : Option Addr) (n c : Nat) (A : Nat) (b : Option Addr) (m d : Nat) (xs ys : List Int) (w : World) (va : Sees w .u64 a n c xs) (vb : Sees w .u64 b m d ys) (h : Img n) (ht : A + m ≤ n) :
    Calls Try.prog 12 #[.slice a n c, .int .i64 A, .slice b m d] w
      fun e w' => ∃ a' c', e = .returned (.tuple #[.slice a' n c', .int .i64 0]) ∧ Sees w' .u64 a' n c' (putL xs A ys) ∧ Below w.heap.size w w' := by
  have hl := va.len
  have hm := vb.len
  have htop := va.top
  have hL : (putL xs A ys).length = n := len_put hl (by omega)
  refine (Im.put_yes a n c A b m d xs ys w va vb h ht).mono fun _ _ ⟨a', c', he, hm⟩ => ?_
  have hs := hm.sees (wf_put va.wf vb.wf A) (by omega)
  rw [hL] at he hs
  exact ⟨a', c', he, hs, hm.2⟩
/-- Where the list of differences is not empty it lies somewhere. -/
theorem diff_lies (a b : Option Addr) (n c d : Nat) (xs ys : List Int) (w : World) (va : Sees w .u64 a n c xs) (vb : Sees w .u64 b n d ys) (h : Img n) (hD : 0 < (diffs xs ys n).length) :
    Calls Try.prog 14 #[.slice a n c, .slice b n d] w
      fun e w' => ∃ g o c', e = .returned (.tuple #[.slice (some ⟨g, o, none⟩) (diffs xs ys n).length c', .int .i64 0]) ∧ Sees w' .i64 (some ⟨g, o, none⟩) (diffs xs ys n).length c' (diffs xs ys n) ∧ Below w.heap.size w w' := by
  have h2 := h.2.1
  refine (Im.diff_yes a b n c d xs ys w va vb h).mono fun _ _ ⟨a', c', he, hm⟩ => ?_
  have hs := hm.sees (wf_diffs xs ys n (by omega)) (by have := diffs_len xs ys n; omega)
  obtain ⟨g, o, rfl⟩ := hs.lies hD
  exact ⟨g, o, c', he, hs, hm.2⟩
theorem diff_none (a b : Option Addr) (n c d : Nat) (xs ys : List Int) (w : World) (va : Sees w .u64 a n c xs) (vb : Sees w .u64 b n d ys) (h : Img n) (hD : (diffs xs ys n).length = 0) :
    Calls Try.prog 14 #[.slice a n c, .slice b n d] w
      fun e w' => ∃ a' c', e = .returned (.tuple #[.slice a' 0 c', .int .i64 0]) ∧ (a' = none → c' = 0) ∧ Below w.heap.size w w' := by
  refine (Im.diff_yes a b n c d xs ys w va vb h).mono fun _ _ ⟨a', c', he, hm⟩ => ?_
  have hs := hm.sees (wf_diffs xs ys n (by have := h.2.1; omega)) (by omega)
  rw [hD] at he
  exact ⟨a', c', he, fun g => (hs.nil g).2, hm.2⟩
set_option maxHeartbeats 8000000 in
theorem walk_a (a0 : Option Addr) (n0 c0 : Nat) (xs : List Int) (A : Nat) (a2 : Option Addr) (c2 : Nat) (ys : List Int) (w : World) (s0 : Sees w .u64 a0 n0 c0 xs) (s2 : Sees w .u64 a2 ys.length c2 ys) (h : Img n0) (g : A + ys.length ≤ n0) (gl : ys.length ≤ 100)
    (hm : ys.length = 0) (hD : (diffs xs (putL xs A ys) n0).length = 0) :
    Calls Try.prog 6 #[.slice a0 n0 c0, .int .i64 A, .slice a2 ys.length c2] w fun e w' => e = .returned (.bool true) ∧ Below w.heap.size w w' := by
  have hn : (n0 : Int) ≤ 2048 := h.2.1
  have hx := s0.len
  obtain ⟨b0, o0, rfl⟩ := s0.lies (by have := h.1; omega)
  have CZ := Lib.hid (cnt_zero hx g)
  have CS := Lib.hid (fun k => @cnt_same xs ys A n0 hx g k)
  have CO := Lib.hid (fun k => @cnt_other xs ys A n0 hx g k)
  have CA := Lib.hid (cnt_all hx g)
  have CL := Lib.hid (cnt_le (xs := xs) g)
  have DL := diffs_len xs (putL xs A ys) n0
  have BP := Lib.hid (back_put hx g)
  have HD := Lib.hid hD
  clear hx hD
  have HM := Lib.hid hm
  have hm' : ys.length ≤ 0 := by omega
  clear hm
  go_enter Try.func6, Try.ntmps6
  go_wp2_with fail
  refine (rcheck_yes _ n0 c0 _ h).mono ?_
  rintro e w' ⟨rfl, rfl⟩
  go_wp2_with fail
  all_goals first | (exfalso; omega) | skip
  refine (put_seen _ _ _ A _ _ _ xs ys _ s0 s2 h g).mono ?_
  rintro e w' ⟨p1, q1, rfl, t1, d1⟩
  go_wp2_with fail
  refine (get_seen _ _ _ _ _ A ys.length _ ys _ t1 h rfl rfl g BP.out).mono ?_
  rintro e w' ⟨p2, q2, rfl, t2, d2⟩
  go_wp2_with fail
  refine (diff_none _ _ _ _ _ xs _ _ ((s0.keep d1).keep d2) (t1.keep d2) h HD.out).mono ?_
  rintro e w' ⟨p3, q3, rfl, _, d3⟩
  go_wp2_with fail
  refine (same_self _ _ _ _ _ _ _ _ (t2.keep d3) (((s2.keep d1).keep d2).keep d3)).mono ?_
  rintro e w' ⟨rfl, d4⟩
  go_wp2_with fail
  have V0 := (((s0.keep d1).keep d2).keep d3).keep d4
  have V2 := (((s2.keep d1).keep d2).keep d3).keep d4
  clear t1 t2 s0 s2
  go_loopw [13, 14] (fun n i wr => ∃ k j : Nat, k ≤ ys.length ∧ i = .int .i64 k ∧ n = .int .i64 (cnt xs A ys k : Nat) ∧ wr = w'.drewN j) (fun _ i _ => ys.length - (intOf i).toNat)
  case atStart => exact ⟨0, 0, Nat.zero_le _, rfl, by rw [CZ.out]; rfl, rfl⟩
  case round =>
    obtain ⟨k, j, hk, rfl, rfl, rfl⟩ := hrel
    have hcl := CL.out k hk
    by_cases hlt : k < ys.length
    · exfalso; omega
    · obtain rfl : k = ys.length := by omega
      have hq : ((cnt xs A ys ys.length : Int) == 0) = true := by rw [CA.out, HD.out]; simp
      go_wp2_with fail
      refine (Ia.alive_any _).mono ?_
      rintro e w8 ⟨rfl, d8⟩
      go_wp2_with fail
      go_ret
      exact ⟨rfl, below_then (below_then (below_then (below_then d1 d2) d3) d4) ((below_drewN (Below.refl _ _) j).trans d8)⟩
set_option maxHeartbeats 8000000 in
theorem walk_b (a0 : Option Addr) (n0 c0 : Nat) (xs : List Int) (A : Nat) (a2 : Option Addr) (c2 : Nat) (ys : List Int) (w : World) (s0 : Sees w .u64 a0 n0 c0 xs) (s2 : Sees w .u64 a2 ys.length c2 ys) (h : Img n0) (g : A + ys.length ≤ n0) (gl : ys.length ≤ 100)
    (hm : 0 < ys.length) (hD : (diffs xs (putL xs A ys) n0).length = 0) :
    Calls Try.prog 6 #[.slice a0 n0 c0, .int .i64 A, .slice a2 ys.length c2] w fun e w' => e = .returned (.bool true) ∧ Below w.heap.size w w' := by
  have hn : (n0 : Int) ≤ 2048 := h.2.1
  have hx := s0.len
  obtain ⟨b0, o0, rfl⟩ := s0.lies (by have := h.1; omega)
  obtain ⟨b2, o2, rfl⟩ := s2.lies hm
  have CZ := Lib.hid (cnt_zero hx g)
  have CS := Lib.hid (fun k => @cnt_same xs ys A n0 hx g k)
  have CO := Lib.hid (fun k => @cnt_other xs ys A n0 hx g k)
  have CA := Lib.hid (cnt_all hx g)
  have CL := Lib.hid (cnt_le (xs := xs) g)
  have DL := diffs_len xs (putL xs A ys) n0
  have BP := Lib.hid (back_put hx g)
  have HD := Lib.hid hD
  clear hx hD
  go_enter Try.func6, Try.ntmps6
  go_wp2_with fail
  refine (rcheck_yes _ n0 c0 _ h).mono ?_
  rintro e w' ⟨rfl, rfl⟩
  go_wp2_with fail
  all_goals first | (exfalso; omega) | skip
  refine (put_seen _ _ _ A _ _ _ xs ys _ s0 s2 h g).mono ?_
  rintro e w' ⟨p1, q1, rfl, t1, d1⟩
  go_wp2_with fail
  refine (get_seen _ _ _ _ _ A ys.length _ ys _ t1 h rfl rfl g BP.out).mono ?_
  rintro e w' ⟨p2, q2, rfl, t2, d2⟩
  go_wp2_with fail
  refine (diff_none _ _ _ _ _ xs _ _ ((s0.keep d1).keep d2) (t1.keep d2) h HD.out).mono ?_
  rintro e w' ⟨p3, q3, rfl, _, d3⟩
  go_wp2_with fail
  refine (same_self _ _ _ _ _ _ _ _ (t2.keep d3) (((s2.keep d1).keep d2).keep d3)).mono ?_
  rintro e w' ⟨rfl, d4⟩
  go_wp2_with fail
  have V0 := (((s0.keep d1).keep d2).keep d3).keep d4
  have V2 := (((s2.keep d1).keep d2).keep d3).keep d4
  clear t1 t2 s0 s2
  go_loopw [13, 14] (fun n i wr => ∃ k j : Nat, k ≤ ys.length ∧ i = .int .i64 k ∧ n = .int .i64 (cnt xs A ys k : Nat) ∧ wr = w'.drewN j) (fun _ i _ => ys.length - (intOf i).toNat)
  case atStart => exact ⟨0, 0, Nat.zero_le _, rfl, by rw [CZ.out]; rfl, rfl⟩
  case round =>
    obtain ⟨k, j, hk, rfl, rfl, rfl⟩ := hrel
    have hcl := CL.out k hk
    by_cases hlt : k < ys.length
    · have c1 := V0.at (A + k) (by omega)
      have c2 := V2.at k hlt
      by_cases he : xs.getD (A + k) 0 = ys.getD k 0
      · have HS := Lib.hid (CS.out k hlt he)
        rw [he] at c1
        clear he
        generalize ys.getD k 0 = y at c1 c2
        go_wp2_with fail
        go_quiet (fail)
        go_wp2_with fail
        go_roundw
        case rel => exact ⟨k + 1, _, by omega, by go_num, by rw [HS.out], rfl⟩
        case measure => simp [intOf]; omega
      · obtain ⟨f1, f2, f3⟩ := CO.out k hlt he
        have := HD.out
        omega
    · obtain rfl : k = ys.length := by omega
      have hq : ((cnt xs A ys ys.length : Int) == 0) = true := by rw [CA.out, HD.out]; simp
      go_wp2_with fail
      refine (Ia.alive_any _).mono ?_
      rintro e w8 ⟨rfl, d8⟩
      go_wp2_with fail
      go_ret
      exact ⟨rfl, below_then (below_then (below_then (below_then d1 d2) d3) d4) ((below_drewN (Below.refl _ _) j).trans d8)⟩
set_option maxHeartbeats 8000000 in
theorem walk_c (a0 : Option Addr) (n0 c0 : Nat) (xs : List Int) (A : Nat) (a2 : Option Addr) (c2 : Nat) (ys : List Int) (w : World) (s0 : Sees w .u64 a0 n0 c0 xs) (s2 : Sees w .u64 a2 ys.length c2 ys) (h : Img n0) (g : A + ys.length ≤ n0) (gl : ys.length ≤ 100)
    (hm : 0 < ys.length) (hD : 0 < (diffs xs (putL xs A ys) n0).length) :
    Calls Try.prog 6 #[.slice a0 n0 c0, .int .i64 A, .slice a2 ys.length c2] w fun e w' => e = .returned (.bool true) ∧ Below w.heap.size w w' := by
  have hn : (n0 : Int) ≤ 2048 := h.2.1
  have hx := s0.len
  obtain ⟨b0, o0, rfl⟩ := s0.lies (by have := h.1; omega)
  obtain ⟨b2, o2, rfl⟩ := s2.lies hm
  have CZ := Lib.hid (cnt_zero hx g)
  have CS := Lib.hid (fun k => @cnt_same xs ys A n0 hx g k)
  have CO := Lib.hid (fun k => @cnt_other xs ys A n0 hx g k)
  have CA := Lib.hid (cnt_all hx g)
  have CL := Lib.hid (cnt_le (xs := xs) g)
  have DL := diffs_len xs (putL xs A ys) n0
  have BP := Lib.hid (back_put hx g)
  have HD := Lib.hid hD
  clear hx hD
  go_enter Try.func6, Try.ntmps6
  go_wp2_with fail
  refine (rcheck_yes _ n0 c0 _ h).mono ?_
  rintro e w' ⟨rfl, rfl⟩
  go_wp2_with fail
  all_goals first | (exfalso; omega) | skip
  refine (put_seen _ _ _ A _ _ _ xs ys _ s0 s2 h g).mono ?_
  rintro e w' ⟨p1, q1, rfl, t1, d1⟩
  go_wp2_with fail
  refine (get_seen _ _ _ _ _ A ys.length _ ys _ t1 h rfl rfl g BP.out).mono ?_
  rintro e w' ⟨p2, q2, rfl, t2, d2⟩
  go_wp2_with fail
  refine (diff_lies _ _ _ _ _ xs _ _ ((s0.keep d1).keep d2) (t1.keep d2) h HD.out).mono ?_
  rintro e w' ⟨b3, o3, q3, rfl, t3, d3⟩
  go_wp2_with fail
  refine (same_self _ _ _ _ _ _ _ _ (t2.keep d3) (((s2.keep d1).keep d2).keep d3)).mono ?_
  rintro e w' ⟨rfl, d4⟩
  go_wp2_with fail
  have V0 := (((s0.keep d1).keep d2).keep d3).keep d4
  have V2 := (((s2.keep d1).keep d2).keep d3).keep d4
  have V3 := t3.keep d4
  clear t1 t2 s0 s2 t3
  go_loopw [13, 14] (fun n i wr => ∃ k j : Nat, k ≤ ys.length ∧ i = .int .i64 k ∧ n = .int .i64 (cnt xs A ys k : Nat) ∧ wr = w'.drewN j) (fun _ i _ => ys.length - (intOf i).toNat)
  case atStart => exact ⟨0, 0, Nat.zero_le _, rfl, by rw [CZ.out]; rfl, rfl⟩
  case round =>
    obtain ⟨k, j, hk, rfl, rfl, rfl⟩ := hrel
    have hcl := CL.out k hk
    by_cases hlt : k < ys.length
    · have c1 := V0.at (A + k) (by omega)
      have c2 := V2.at k hlt
      by_cases he : xs.getD (A + k) 0 = ys.getD k 0
      · have HS := Lib.hid (CS.out k hlt he)
        rw [he] at c1
        clear he
        generalize ys.getD k 0 = y at c1 c2
        go_wp2_with fail
        go_quiet (fail)
        go_wp2_with fail
        go_roundw
        case rel => exact ⟨k + 1, _, by omega, by go_num, by rw [HS.out], rfl⟩
        case measure => simp [intOf]; omega
      · obtain ⟨f1, f2, f3⟩ := CO.out k hlt he
        have F1 := Lib.hid f1
        have c3 := V3.at (cnt xs A ys k) f2
        rw [f3] at c3
        have hb : (xs.getD (A + k) 0 == ys.getD k 0) = false := by simpa using he
        clear he f1 f3
        generalize xs.getD (A + k) 0 = x at c1 hb
        generalize ys.getD k 0 = y at c2 hb
        go_wp2_with fail
        go_quiet (fail)
        go_wp2_with fail
        all_goals first | (exfalso; omega) | skip
        go_roundw
        case rel => exact ⟨k + 1, _, by omega, by go_num, by rw [F1.out]; go_num, rfl⟩
        case measure => simp [intOf]; omega
    · obtain rfl : k = ys.length := by omega
      have hq : ((cnt xs A ys ys.length : Int) == (((diffs xs (putL xs A ys) n0).length : Nat) : Int)) = true := by rw [CA.out]; simp
      go_wp2_with fail
      refine (Ia.alive_any _).mono ?_
      rintro e w8 ⟨rfl, d8⟩
      go_wp2_with fail
      go_ret
      exact ⟨rfl, below_then (below_then (below_then (below_then d1 d2) d3) d4) ((below_drewN (Below.refl _ _) j).trans d8)⟩
set_option maxHeartbeats 4000000 in
theorem walk_guard (a0 : Option Addr) (n0 c0 : Nat) (a1 : Int) (a2 : Option Addr) (n2 c2 : Nat) (w : World) (hm : n2 ≤ 17592186044416) (hg : ¬ Img n0 ∨ (Img n0 ∧ (a1 < 0 ∨ (0 ≤ a1 ∧ (n0 : Int) < a1) ∨ (0 ≤ a1 ∧ a1 ≤ n0 ∧ 100 < n2) ∨ (0 ≤ a1 ∧ a1 ≤ n0 ∧ n2 ≤ 100 ∧ (n0 : Int) - a1 < n2)))) :
    Calls Try.prog 6 #[.slice a0 n0 c0, .int .i64 a1, .slice a2 n2 c2] w fun e w' => e = .returned (.bool true) ∧ Below w.heap.size w w' := by
  rcases hg with h | ⟨h, hg⟩
  case inl =>
    go_enter Try.func6, Try.ntmps6
    go_wp2_with fail
    refine (rcheck_no _ n0 c0 _ h).mono ?_
    rintro e w' ⟨rfl, rfl⟩
    go_wp2_with fail
    all_goals first | (exfalso; omega) | skip
    all_goals
      refine (Ia.alive_any _).mono ?_
      rintro e w' ⟨rfl, hb⟩
      go_wp2_with fail
      go_ret
      exact ⟨rfl, hb⟩
  case inr =>
    have hn : (n0 : Int) ≤ 2048 := h.2.1
    rcases hg with g1 | ⟨g1, g2⟩ | ⟨g1, g2, g3⟩ | ⟨g1, g2, g3, g4⟩
    all_goals
      go_enter Try.func6, Try.ntmps6
      go_wp2_with fail
      refine (rcheck_yes _ n0 c0 _ h).mono ?_
      rintro e w' ⟨rfl, rfl⟩
      go_wp2_with fail
      all_goals first | (exfalso; omega) | skip
      all_goals
        refine (Ia.alive_any _).mono ?_
        rintro e w' ⟨rfl, hb⟩
        go_wp2_with fail
        go_ret
        exact ⟨rfl, hb⟩
theorem walk (a0 : Option Addr) (n0 c0 : Nat) (xs0 : List Int) (a1 : Int) (a2 : Option Addr) (n2 c2 : Nat) (xs2 : List Int) (w1 : -9223372036854775808 ≤ a1 ∧ a1 ≤ 9223372036854775807)
    (w : World) (s0 : Sees w .u64 a0 n0 c0 xs0) (t0 : c0 ≤ 17592186044416) (s2 : Sees w .u64 a2 n2 c2 xs2) (t2 : c2 ≤ 17592186044416) :
    Calls Try.prog 6 #[.slice a0 n0 c0, .int .i64 a1, .slice a2 n2 c2] w fun e w' => e = .returned (.bool true) ∧ Below w.heap.size w w' := by
  by_cases h : Img n0
  · by_cases g : 0 ≤ a1 ∧ a1 ≤ n0 ∧ n2 ≤ 100 ∧ (n2 : Int) ≤ n0 - a1
    · obtain ⟨g1, g2, g3, g4⟩ := g
      obtain ⟨A, rfl⟩ := Int.eq_ofNat_of_zero_le g1
      have hl := s2.len
      subst hl
      rcases Nat.eq_zero_or_pos xs2.length with hm | hm
      · have hz := List.eq_nil_of_length_eq_zero hm
        refine walk_a a0 n0 c0 xs0 A a2 c2 xs2 w s0 s2 h (by omega) g3 hm ?_
        rw [← cnt_all s0.len (show A + xs2.length ≤ n0 by omega), hm, cnt_zero s0.len (show A + xs2.length ≤ n0 by omega)]
      · rcases Nat.eq_zero_or_pos (diffs xs0 (putL xs0 A xs2) n0).length with hD | hD
        · exact walk_b a0 n0 c0 xs0 A a2 c2 xs2 w s0 s2 h (by omega) g3 hm hD
        · exact walk_c a0 n0 c0 xs0 A a2 c2 xs2 w s0 s2 h (by omega) g3 hm hD
    · exact walk_guard a0 n0 c0 a1 a2 n2 c2 w s2.top (.inr ⟨h, by omega⟩)
  · exact walk_guard a0 n0 c0 a1 a2 n2 c2 w s2.top (.inl h)

/-! The row's step. -/
set_option maxRecDepth 100000 in
theorem lifted (os : Os) (started : os.Started) (H : Type) (enc : TypeId × Value → H) :
    ReturnsInHanded {} Try.checked os 6 .any (Rows.imagePutSpec.pre6 enc Try.prog Try.f6 Rows.imagePutRow.domain false) (Rows.imagePutSpec.post enc Try.prog Try.f6 false true false false) := by
  refine returnsInHanded_of_change_sized (C := Try.checked) St.own started (by kernel_rfl) Try.func6
    (ChangeSpec.witness6 (enc := enc) (C := Try.checked) false ⟨#[], #[.slice .none 0 0, .int .i64 0, .slice .none 0 0], []⟩ 8 (by kernel_rfl) (by kernel_rfl) (by kernel_rfl) (by kernel_rfl)) ?_
  intro W base args ds gs before hval0 hW hcnd hsz0 _
  have hsz : (DataW.weightsEach Try.prog (Try.f6.params.toList ++ Rows.imagePutSpec.plain.varTypes Try.prog) (ds ++ gs)).all (· ≤ reachBytes) = true := hsz0
  have hval : ∀ (j : Nat) t v, Try.f6.params[j]? = some t → args[j]? = some v → Value.okWide Try.prog W .any base t v := hval0
  have hW' := hW
  obtain ⟨p, q, hA0, hV, rfl, hfz, hnd⟩ := hW
  have hA : DataW.TrodAll enc Try.prog W 0 (fun _ => true) true Try.f6.params.toList args.toList ds p := hA0
  rw [Try.params6] at hA hval hsz
  obtain ⟨v0, vs0, d0, ds0, p0, q0, hargs, rfl, rfl, h0, r0⟩ := trodAll_cons hA
  obtain ⟨v1, vs1, d1, ds1, p1, q1, rfl, rfl, rfl, h1, r1⟩ := trodAll_cons r0
  obtain ⟨v2, vs2, d2, ds2, p2, q2, rfl, rfl, rfl, h2, r2⟩ := trodAll_cons r1
  obtain ⟨rfl, rfl, rfl⟩ := trodAll_nil r2
  obtain rfl : args = #[v0, v1, v2] := by cases args; simp_all
  have z0 : ∀ es sp, d0 = .slice es sp → (es.length + sp.length) * 8 ≤ 140737488351232 := fun es sp e => by
    have := sized_slice hsz (j := 0) (t := 23) (e := 34) rfl (congrArg some e) Try.underlying23
    rw [show Try.prog.bytesOf 34 = 8 from by kernel_rfl] at this
    simpa [reachBytes] using this
  have z2 : ∀ es sp, d2 = .slice es sp → (es.length + sp.length) * 8 ≤ 140737488351232 := fun es sp e => by
    have := sized_slice hsz (j := 2) (t := 23) (e := 34) rfl (congrArg some e) Try.underlying23
    rw [show Try.prog.bytesOf 34 = 8 from by kernel_rfl] at this
    simpa [reachBytes] using this
  obtain ⟨a0, n0, c0, xs0, rfl, s0, t0⟩ := Sl.open_slice Try.underlying23 Try.underlying34 (by kernel_rfl) (hval 0 23 v0 rfl rfl) h0 z0
  obtain ⟨a1, rfl, rfl, rfl, w1⟩ := open_int Try.underlying3 (hval 1 3 v1 rfl rfl) h1
  obtain ⟨a2, n2, c2, xs2, rfl, s2, t2⟩ := Sl.open_slice Try.underlying23 Try.underlying34 (by kernel_rfl) (hval 2 23 v2 rfl rfl) h2 z2
  refine (walk a0 n0 c0 xs0 a1 a2 n2 c2 xs2 (St.i64_of_wf w1) W s0 t0 s2 t2).mono fun e W' ⟨he, hb⟩ => ?_
  subst he
  exact St.law_done St.laid (by kernel_rfl) rfl rfl Try.underlying4 rfl hW' hb

theorem over : Rows.imagePutRow.holds Try.pinned (OpenSpec.ofChange Rows.imagePutSpec) :=
  OpenClaim.holds_of_wide 6 Try.f6 rfl rfl rfl rfl rfl rfl rfl ⟨rfl, rfl, rfl, rfl, rfl⟩ rfl rfl rfl rfl rfl (by kernel_rfl) Try.func6 (by kernel_rfl)
    (of_decide_eq_true (by kernel_rfl)) (by unfold Func.isWrapper; first | (rw [if_pos (by decide +kernel)]; kernel_rfl) | (rw [if_neg (by decide +kernel)]; exact ⟨rfl, rfl⟩))
    (fun os started H enc _ => lifted os started H enc)
theorem proved : Rows.ImagePutSaid := over
#print axioms proved
end Go.Proofs.Ytbgeinaldkjddaa.imagePut
