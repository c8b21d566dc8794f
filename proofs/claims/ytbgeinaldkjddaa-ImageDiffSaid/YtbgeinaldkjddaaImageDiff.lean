/-
  The law ImageDiff returns true for every two lists of words; no condition.
-/
import Derived.Test.YtbgeinaldkjddaaImagePut
import Derived.StillTailTactics
import Derived.Test.YtbgeinaldkjddaaImageq
import Derived.SizedLaws
namespace Go.Proofs.Ytbgeinaldkjddaa.imageDiff
open Go.ChangeShapes Go.WideShapes Go.ChangeAt Go.RowKit Go.Proofs.Ytbgeinaldkjddaa.Sl Go.Proofs.Ytbgeinaldkjddaa.St Go.Proofs.Ytbgeinaldkjddaa.Ir Go.Proofs.Ytbgeinaldkjddaa.Iu
set_option linter.unusedVariables false
set_option maxRecDepth 100000
open Go.Proofs.Ytbgeinaldkjddaa.Ip Go.Proofs.Ytbgeinaldkjddaa.Iq Go.Proofs.Ytbgeinaldkjddaa.imagePut
theorem sees_zero (w : World) (k : IntKind) (a : Option Addr) (c : Nat) (h : a = none → c = 0) : Sees w k a 0 c [] := ⟨rfl, Nat.zero_le _, by omega, by simp, fun g => ⟨rfl, h g⟩, .inl rfl⟩
theorem put_at (a : Option Addr) (n c : Nat) (p : Int) (t : Nat) (b : Option Addr) (d : Nat) (xs ys zs : List Int) (w : World) (va : Sees w .u64 a n c xs) (vb : Sees w .u64 b 1 d ys) (h : Img n) (hp : p = t) (ht : t < n) (hz : putL xs t ys = zs) :
    Calls Try.prog 12 #[.slice a n c, .int .i64 p, .slice b 1 d] w
      fun e w' => ∃ a' c', e = .returned (.tuple #[.slice a' n c', .int .i64 0]) ∧ Sees w' .u64 a' n c' zs ∧ Below w.heap.size w w' := by
  subst hp hz
  have hl := va.len
  have hm := vb.len
  have htop := va.top
  have hL : (putL xs t ys).length = n := len_put hl (by omega)
  refine (Im.put_yes a n c t b 1 d xs ys w va vb h (by omega)).mono fun _ _ ⟨a', c', he, hm⟩ => ?_
  have hs := hm.sees (wf_put va.wf vb.wf t) (by omega)
  rw [hL] at he hs
  exact ⟨a', c', he, hs, hm.2⟩
theorem diff_back (a b : Option Addr) (n c d : Nat) (xs ys : List Int) (w : World) (va : Sees w .u64 a n c xs) (vb : Sees w .u64 b n d ys) (h : Img n) :
    Calls Try.prog 14 #[.slice b n d, .slice a n c] w
      fun e w' => ∃ a' c', e = .returned (.tuple #[.slice a' (diffs xs ys n).length c', .int .i64 0]) ∧ Sees w' .i64 a' (diffs xs ys n).length c' (diffs xs ys n) ∧ Below w.heap.size w w' := by
  have h2 := h.2.1
  refine (Im.diff_yes b a n d c ys xs w vb va h).mono fun _ _ ⟨a', c', he, hm⟩ => ?_
  rw [← diffs_sym xs ys n] at he hm
  exact ⟨a', c', he, hm.sees (wf_diffs xs ys n (by omega)) (by have := diffs_len xs ys n; omega), hm.2⟩
theorem same_not (a b : Option Addr) (n c m d : Nat) (xs ys : List Int) (w : World) (va : Sees w .u64 a n c xs) (vb : Sees w .u64 b m d ys) (h : ¬ xs = ys) :
    Calls Try.prog 16 #[.slice a n c, .slice b m d] w fun e w' => e = .returned (.bool false) ∧ Below w.heap.size w w' :=
  (Ir.same_any a b n c m d xs ys w va vb).mono fun _ _ ⟨h1, j, hw⟩ => ⟨by rw [h1, decide_eq_false h], hw ▸ below_drewN (Below.refl _ _) j⟩
set_option maxHeartbeats 8000000 in
theorem walk_same (a0 : Option Addr) (n0 c0 : Nat) (xs : List Int) (a1 : Option Addr) (c1 : Nat) (ys : List Int) (w : World) (s0 : Sees w .u64 a0 n0 c0 xs) (s1 : Sees w .u64 a1 n0 c1 ys) (h : Img n0) (hD : (diffs xs ys n0).length = 0) :
    Calls Try.prog 7 #[.slice a0 n0 c0, .slice a1 n0 c1] w fun e w' => e = .returned (.bool true) ∧ Below w.heap.size w w' := by
  have hn : (n0 : Int) ≤ 2048 := h.2.1
  obtain rfl := none_same s0.len s1.len hD
  have hD2 := Lib.hid hD
  clear hD
  go_enter Try.func7, Try.ntmps7
  go_wp2_with fail
  refine (rcheck_yes _ n0 c0 _ h).mono ?_
  rintro e w' ⟨rfl, rfl⟩
  go_wp2_with fail
  refine (diff_none _ _ _ _ _ xs xs _ s0 s1 h hD2.out).mono ?_
  rintro e w' ⟨p2, q2, rfl, N2, d2⟩
  go_wp2_with fail
  refine (diff_none _ _ _ _ _ xs xs _ (s1.keep d2) (s0.keep d2) h hD2.out).mono ?_
  rintro e w' ⟨p3, q3, rfl, N3, d3⟩
  go_wp2_with fail
  refine (sameInts_self _ _ _ _ _ _ [] _ (sees_zero _ _ _ _ N2) (sees_zero _ _ _ _ N3)).mono ?_
  rintro e w' ⟨rfl, d4⟩
  go_wp2_with fail
  refine (same_self _ _ _ _ _ _ _ _ (((s0.keep d2).keep d3).keep d4) (((s1.keep d2).keep d3).keep d4)).mono ?_
  rintro e w' ⟨rfl, d5⟩
  go_wp2_with fail
  refine (twin_seen _ _ _ xs _ ((((s0.keep d2).keep d3).keep d4).keep d5)).mono ?_
  rintro e w' ⟨p6, q6, rfl, t6, d6⟩
  go_wp2_with fail
  refine wp_loop_rounds 1 ?_
  rw [rounds_succ]
  go_wp2_with fail
  refine (same_self _ _ _ _ _ _ _ _ t6 (((((s1.keep d2).keep d3).keep d4).keep d5).keep d6)).mono ?_
  rintro e w' ⟨rfl, d7⟩
  go_wp2_with fail
  refine (Ia.alive_any _).mono ?_
  rintro e w' ⟨rfl, d8⟩
  go_wp2_with fail
  go_ret
  exact ⟨rfl, below_then (below_then (below_then (below_then (below_then (below_then d2 d3) d4) d5) d6) d7) d8⟩
set_option maxHeartbeats 8000000 in
theorem walk_other (a0 : Option Addr) (n0 c0 : Nat) (xs : List Int) (a1 : Option Addr) (c1 : Nat) (ys : List Int) (w : World) (s0 : Sees w .u64 a0 n0 c0 xs) (s1 : Sees w .u64 a1 n0 c1 ys) (h : Img n0) (hD : 0 < (diffs xs ys n0).length) :
    Calls Try.prog 7 #[.slice a0 n0 c0, .slice a1 n0 c1] w fun e w' => e = .returned (.bool true) ∧ Below w.heap.size w w' := by
  have hn : (n0 : Int) ≤ 2048 := h.2.1
  have hx := s0.len
  have hy := s1.len
  have HX := Lib.hid hx
  have HY := Lib.hid hy
  have hne : ¬ xs = ys := fun g => by
    rw [g, diffs_self] at hD
    simp at hD
  have NE := Lib.hid hne
  obtain ⟨b0, o0, rfl⟩ := s0.lies (by have := h.1; omega)
  obtain ⟨b1, o1, rfl⟩ := s1.lies (by have := h.1; omega)
  have DL := diffs_len xs ys n0
  have hz : (((diffs xs ys n0).length : Int) == 0) = false := beq_eq_false_iff_ne.2 (by omega)
  clear hx hy hne
  go_enter Try.func7, Try.ntmps7
  go_wp2_with fail
  refine (rcheck_yes _ n0 c0 _ h).mono ?_
  rintro e w' ⟨rfl, rfl⟩
  go_wp2_with fail
  refine (diff_lies _ _ _ _ _ xs ys _ s0 s1 h hD).mono ?_
  rintro e w' ⟨b3, o3, q3, rfl, t3, d2⟩
  go_wp2_with fail
  refine (diff_back _ _ _ _ _ xs ys _ (s0.keep d2) (s1.keep d2) h).mono ?_
  rintro e w' ⟨p4, q4, rfl, t4, d3⟩
  go_wp2_with fail
  refine (sameInts_self _ _ _ _ _ _ _ _ (t3.keep d3) t4).mono ?_
  rintro e w' ⟨rfl, d4⟩
  go_wp2_with fail
  refine (same_not _ _ _ _ _ _ _ _ _ (((s0.keep d2).keep d3).keep d4) (((s1.keep d2).keep d3).keep d4) NE.out).mono ?_
  rintro e w' ⟨rfl, d5⟩
  by_cases h40 : (40 : Int) < (diffs xs ys n0).length
  · go_wp2_with fail
    refine (Ia.alive_any _).mono ?_
    rintro e w6 ⟨rfl, d6⟩
    go_wp2_with fail
    go_ret
    exact ⟨rfl, below_then (below_then (below_then (below_then d2 d3) d4) d5) d6⟩
  · have h41 : ((diffs xs ys n0).length : Int) ≤ 40 := by omega
    clear h40
    go_wp2_with fail
    refine (twin_seen _ _ _ xs _ ((((s0.keep d2).keep d3).keep d4).keep d5)).mono ?_
    rintro e w' ⟨p6, q6, rfl, t6, d6⟩
    go_wp2_with fail
    have V1 := ((((s1.keep d2).keep d3).keep d4).keep d5).keep d6
    have V3 := (((t3.keep d3).keep d4).keep d5).keep d6
    clear t3 t4 s0 s1
    go_loopw [9, 10] (fun m i wr => ∃ (k t : Nat) (p : Option Addr) (q : Nat), i = .int .i64 k ∧ m = .slice p n0 q ∧ Hid ((diffs xs ys t).length = k) ∧ t ≤ n0 ∧ Sees wr .u64 p n0 q (mix xs ys t) ∧ Below w'.heap.size w' wr) (fun _ i _ => (diffs xs ys n0).length - (intOf i).toNat)
    case atStart => exact ⟨0, 0, p6, q6, rfl, rfl, Lib.hid rfl, Nat.zero_le _, by rw [mix_zero]; exact t6, Below.refl _ _⟩
    case round =>
      obtain ⟨k, t, p, q, rfl, rfl, hk, ht, hM, hB⟩ := hrel
      have hkl : k ≤ (diffs xs ys n0).length := by have := diffs_le (xs := xs) (ys := ys) ht; rw [hk.out] at this; exact this
      by_cases hlt : k < (diffs xs ys n0).length
      · obtain ⟨t', g1, g2, g3, g4⟩ := next_diff ht (by rw [hk.out]; exact hlt)
        have e0 := len_at g1 g3
        have hk' : (diffs xs ys t').length = k := by rw [e0]; exact hk.out
        have nx := (diffs_next g2 g4).2
        rw [hk'] at nx
        have hM' : Sees wr .u64 p n0 q (mix xs ys t') := by rw [← mix_stay HX.out HY.out g1 (by omega) g3]; exact hM
        have HK := Lib.hid (show (diffs xs ys (t' + 1)).length = k + 1 from by rw [diffs_other g4, List.length_append, hk']; rfl)
        have c3 := (V3.keep hB).at k hlt
        rw [nx] at c3
        have PV := Lib.hid (fun h0 : 0 < k => prev_lt (xs := xs) (ys := ys) (show t' ≤ n0 by omega) hk' h0)
        have VB := (V1.keep hB)
        obtain ⟨ad, had, hsl⟩ := run_cut b1 o1 n0 c1 t' 1 t' (t' + 1) rfl (by simp) (by omega) VB.le
        have VC := VB.cut t' 1 (by omega) had
        have PM := Lib.hid (put_mix (xs := xs) HY.out g2)
        clear e0 nx hM g3 g4 had VB
        have C3 := Lib.hid c3
        clear c3
        clear hk'
        have b1 : decide ((t' : Int) < 0) = false := decide_eq_false (by omega)
        have b2 : decide ((n0 : Int) ≤ (t' : Int)) = false := decide_eq_false (by omega)
        have b3 : decide (n0 ≤ t') = false := decide_eq_false (by omega)
        rcases k with _ | k
        · clear PV
          have c3 := C3.out
          rw [Nat.add_zero] at c3
          go_wp2_with fail
          go_quiet (fail)
          clear b1 b2 b3
          have HI := Lib.hid h
          have MV := Lib.hid (hM'.draws nq)
          have CV := Lib.hid (VC.draws nq)
          have HM3 := Lib.hid g2
          have wt : IntKind.i64.wrap ((t' : Int) + 1) = (t' : Int) + 1 := IntWalk.i64_in _ (by omega)
          clear hM' VC
          go_wp2_with fail
          go_region_with (go_at_call 12; refine (put_at _ _ _ _ t' _ _ _ _ _ _ (MV.out.draws 1) (CV.out.draws 1) HI.out rfl HM3.out PM.out).mono ?_; rintro e w9 ⟨p9, q9, rfl, t9, d9⟩)
          all_goals
            go_wp2_with fail
            go_roundw
            case rel => exact ⟨0 + 1, t' + 1, p9, q9, by first | rfl | go_num, rfl, HK, by omega, t9, below_then hB (below_then (below_drewN (below_drewN (Below.refl wr.heap.size wr) nq) 1) d9)⟩
            case measure => simp [intOf]; omega
        · have c4 := (V3.keep hB).at k (by omega)
          obtain ⟨u1, u2⟩ := PV.out (by omega)
          rw [Nat.add_sub_cancel] at u1 u2
          generalize (diffs xs ys n0).getD k 0 = u at c4 u1 u2
          clear PV
          have c3 := C3.out
          have b4 : decide ((0 : Int) < (k : Int) + 1) = true := decide_eq_true (by omega)
          have b5 : decide ((t' : Int) ≤ u) = false := decide_eq_false (by omega)
          have f5 : (k : Int) + 1 - 1 = (k : Int) := by omega
          have f6 : IntKind.i64.wrap ((k : Int) + 1 - 1) = (k : Int) := by rw [f5]; exact IntWalk.i64_in _ (by omega)
          have f1 : ((k : Int) + 1).toNat = k + 1 := by omega
          have f2 : 0 ≤ (k : Int) + 1 := by omega
          have f3 : (k : Int) + 1 < ((diffs xs ys n0).length : Int) := by omega
          have f4 : (k : Int) < ((diffs xs ys n0).length : Int) := by omega
          go_wp2_with fail
          go_quiet (fail)
          clear b1 b2 b3 b4 b5 f5 f6
          have HI := Lib.hid h
          have MV := Lib.hid (hM'.draws nq)
          have CV := Lib.hid (VC.draws nq)
          have HM3 := Lib.hid g2
          have wt : IntKind.i64.wrap ((t' : Int) + 1) = (t' : Int) + 1 := IntWalk.i64_in _ (by omega)
          clear hM' VC
          go_wp2_with fail
          go_region_with (go_at_call 12; refine (put_at _ _ _ _ t' _ _ _ _ _ _ (MV.out.draws 1) (CV.out.draws 1) HI.out rfl HM3.out PM.out).mono ?_; rintro e w9 ⟨p9, q9, rfl, t9, d9⟩)
          all_goals
            go_wp2_with fail
            go_roundw
            case rel => exact ⟨k + 1 + 1, t' + 1, p9, q9, by first | rfl | go_num, rfl, HK, by omega, t9, below_then hB (below_then (below_drewN (below_drewN (Below.refl wr.heap.size wr) nq) 1) d9)⟩
            case measure => simp [intOf]; omega
      · have hke : k = (diffs xs ys n0).length := by omega
        have MA : Sees wr .u64 p n0 q ys := by
          have e2 := mix_stay HX.out HY.out ht (Nat.le_refl n0) (fun i h1 h2 => same_between (by rw [hk.out]; omega) i h1 h2)
          rw [mix_all HX.out HY.out] at e2
          rw [← e2]
          exact hM
        have VB := V1.keep hB
        clear hM hk
        go_wp2_with fail
        refine (same_self _ _ _ _ _ _ _ _ MA VB).mono ?_
        rintro e w8 ⟨rfl, d8⟩
        go_wp2_with fail
        refine (Ia.alive_any _).mono ?_
        rintro e w9 ⟨rfl, d9⟩
        go_wp2_with fail
        go_ret
        exact ⟨rfl, below_then (below_then (below_then (below_then (below_then (below_then (below_then d2 d3) d4) d5) d6) hB) d8) d9⟩
set_option maxHeartbeats 4000000 in
theorem walk_guard (a0 : Option Addr) (n0 c0 : Nat) (a1 : Option Addr) (n1 c1 : Nat) (w : World) (hg : ¬ Img n0 ∨ (Img n0 ∧ ¬ n0 = n1)) :
    Calls Try.prog 7 #[.slice a0 n0 c0, .slice a1 n1 c1] w fun e w' => e = .returned (.bool true) ∧ Below w.heap.size w w' := by
  rcases hg with h | ⟨h, hg⟩
  case inl =>
    go_enter Try.func7, Try.ntmps7
    go_wp2_with fail
    refine (rcheck_no _ n0 c0 _ h).mono ?_
    rintro e w' ⟨rfl, rfl⟩
    go_wp2_with fail
    all_goals first | (exfalso; omega) | skip
    all_goals
      refine (Ia.alive_any _).mono ?_
      rintro e w' ⟨rfl, hb⟩
      go_wp2_with fail
      go_ret
      exact ⟨rfl, hb⟩
  case inr =>
    have hb : ((n0 : Int) != (n1 : Int)) = true := by simp; omega
    clear hg
    go_enter Try.func7, Try.ntmps7
    go_wp2_with fail
    refine (rcheck_yes _ n0 c0 _ h).mono ?_
    rintro e w' ⟨rfl, rfl⟩
    go_wp2_with fail
    all_goals first | (exfalso; omega) | skip
    all_goals
      refine (Ia.alive_any _).mono ?_
      rintro e w' ⟨rfl, hb⟩
      go_wp2_with fail
      go_ret
      exact ⟨rfl, hb⟩
theorem walk (a0 : Option Addr) (n0 c0 : Nat) (xs0 : List Int) (a1 : Option Addr) (n1 c1 : Nat) (xs1 : List Int)
    (w : World) (s0 : Sees w .u64 a0 n0 c0 xs0) (t0 : c0 ≤ 17592186044416) (s1 : Sees w .u64 a1 n1 c1 xs1) (t1 : c1 ≤ 17592186044416) :
    Calls Try.prog 7 #[.slice a0 n0 c0, .slice a1 n1 c1] w fun e w' => e = .returned (.bool true) ∧ Below w.heap.size w w' := by
  by_cases h : Img n0
  · by_cases g : n0 = n1
    · subst g
      rcases Nat.eq_zero_or_pos (diffs xs0 xs1 n0).length with hD | hD
      · exact walk_same a0 n0 c0 xs0 a1 c1 xs1 w s0 s1 h hD
      · exact walk_other a0 n0 c0 xs0 a1 c1 xs1 w s0 s1 h hD
    · exact walk_guard a0 n0 c0 a1 n1 c1 w (.inr ⟨h, g⟩)
  · exact walk_guard a0 n0 c0 a1 n1 c1 w (.inl h)

/-! The row's step. -/
set_option maxRecDepth 100000 in
theorem lifted (os : Os) (started : os.Started) (H : Type) (enc : TypeId × Value → H) :
    ReturnsInHanded {} Try.checked os 7 .any (Rows.imageDiffSpec.pre6 enc Try.prog Try.f7 Rows.imageDiffRow.domain false) (Rows.imageDiffSpec.post enc Try.prog Try.f7 false true false false) := by
  refine returnsInHanded_of_change_sized (C := Try.checked) St.own started (by kernel_rfl) Try.func7
    (ChangeSpec.witness6 (enc := enc) (C := Try.checked) false ⟨#[], #[.slice .none 0 0, .slice .none 0 0], []⟩ 8 (by kernel_rfl) (by kernel_rfl) (by kernel_rfl) (by kernel_rfl)) ?_
  intro W base args ds gs before hval0 hW hcnd hsz0 _
  have hsz : (DataW.weightsEach Try.prog (Try.f7.params.toList ++ Rows.imageDiffSpec.plain.varTypes Try.prog) (ds ++ gs)).all (· ≤ reachBytes) = true := hsz0
  have hval : ∀ (j : Nat) t v, Try.f7.params[j]? = some t → args[j]? = some v → Value.okWide Try.prog W .any base t v := hval0
  have hW' := hW
  obtain ⟨p, q, hA0, hV, rfl, hfz, hnd⟩ := hW
  have hA : DataW.TrodAll enc Try.prog W 0 (fun _ => true) true Try.f7.params.toList args.toList ds p := hA0
  rw [Try.params7] at hA hval hsz
  obtain ⟨v0, vs0, d0, ds0, p0, q0, hargs, rfl, rfl, h0, r0⟩ := trodAll_cons hA
  obtain ⟨v1, vs1, d1, ds1, p1, q1, rfl, rfl, rfl, h1, r1⟩ := trodAll_cons r0
  obtain ⟨rfl, rfl, rfl⟩ := trodAll_nil r1
  obtain rfl : args = #[v0, v1] := by cases args; simp_all
  have z0 : ∀ es sp, d0 = .slice es sp → (es.length + sp.length) * 8 ≤ 140737488351232 := fun es sp e => by
    have := sized_slice hsz (j := 0) (t := 23) (e := 34) rfl (congrArg some e) Try.underlying23
    rw [show Try.prog.bytesOf 34 = 8 from by kernel_rfl] at this
    simpa [reachBytes] using this
  have z1 : ∀ es sp, d1 = .slice es sp → (es.length + sp.length) * 8 ≤ 140737488351232 := fun es sp e => by
    have := sized_slice hsz (j := 1) (t := 23) (e := 34) rfl (congrArg some e) Try.underlying23
    rw [show Try.prog.bytesOf 34 = 8 from by kernel_rfl] at this
    simpa [reachBytes] using this
  obtain ⟨a0, n0, c0, xs0, rfl, s0, t0⟩ := Sl.open_slice Try.underlying23 Try.underlying34 (by kernel_rfl) (hval 0 23 v0 rfl rfl) h0 z0
  obtain ⟨a1, n1, c1, xs1, rfl, s1, t1⟩ := Sl.open_slice Try.underlying23 Try.underlying34 (by kernel_rfl) (hval 1 23 v1 rfl rfl) h1 z1
  refine (walk a0 n0 c0 xs0 a1 n1 c1 xs1 W s0 t0 s1 t1).mono fun e W' ⟨he, hb⟩ => ?_
  subst he
  exact St.law_done St.laid (by kernel_rfl) rfl rfl Try.underlying4 rfl hW' hb

theorem over : Rows.imageDiffRow.holds Try.pinned (OpenSpec.ofChange Rows.imageDiffSpec) :=
  OpenClaim.holds_of_wide 7 Try.f7 rfl rfl rfl rfl rfl rfl rfl ⟨rfl, rfl, rfl, rfl, rfl⟩ rfl rfl rfl rfl rfl (by kernel_rfl) Try.func7 (by kernel_rfl)
    (of_decide_eq_true (by kernel_rfl)) (by unfold Func.isWrapper; first | (rw [if_pos (by decide +kernel)]; kernel_rfl) | (rw [if_neg (by decide +kernel)]; exact ⟨rfl, rfl⟩))
    (fun os started H enc _ => lifted os started H enc)
theorem proved : Rows.ImageDiffSaid := over
#print axioms proved
end Go.Proofs.Ytbgeinaldkjddaa.imageDiff
