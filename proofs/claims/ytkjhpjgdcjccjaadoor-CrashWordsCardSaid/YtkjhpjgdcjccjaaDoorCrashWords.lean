/-
  The law CrashWords returns true for every device and mask; no condition but that the program's own variable for a lost word starts as its text lays it (the card ties it).
-/
import Derived.Test.YtkjhpjgdcjccjaaDoorKlaw
import Derived.Test.YtkjhpjgdcjccjaaDoorKlaid
import Derived.Test.YtkjhpjgdcjccjaaDoorDevOpen
import Derived.SizedLaws
namespace Go.Proofs.YtkjhpjgdcjccjaaDoor.crashWords
open Go.Proofs.YtkjhpjgdcjccjaaDoor.Kl Go.Proofs.YtkjhpjgdcjccjaaDoor.Kp Go.Proofs.YtkjhpjgdcjccjaaDoor.Cp Go.Proofs.YtkjhpjgdcjccjaaDoor.Cy Go.Proofs.YtkjhpjgdcjccjaaDoor.Cx Go.ChangeShapes Go.WideShapes Go.ChangeAt Go.RowKit Go.Proofs.YtkjhpjgdcjccjaaDoor.Sl Go.Proofs.YtkjhpjgdcjccjaaDoor.St Go.Proofs.YtkjhpjgdcjccjaaDoor.Ir Go.Proofs.YtkjhpjgdcjccjaaDoor.Dv Go.Proofs.YtkjhpjgdcjccjaaDoor.Cr Go.Proofs.YtkjhpjgdcjccjaaDoor.Cu
set_option linter.unusedVariables false
set_option maxRecDepth 100000
set_option maxHeartbeats 4000000 in
theorem walk_main (a : Option Addr) (n c : Nat) (b : Option Addr) (m d : Nat) (l : Int) (q : Bool) (D : Dev) (M : Int) (w : World) (L : Lost w) (s : SeesD w a n c b m d l q D) (hok : okD D = true) (hM : 0 ≤ M ∧ M < 18446744073709551616) (hg : greatD n m = false)
    (X : Dev) (V Z : List Int) (N : Nat) (HX : Hid (crashD D M = X)) (HV : Hid (wordsL D.im D.dl = V)) (HZ : Hid (chosen M m = Z)) (HN : Hid (Z.length = N))
    (HON : Hid (∀ i : Nat, X.im.getD i 0 = D.im.getD i 0 ∨ X.im.getD i 0 = V.getD i 0)) (HPK : Hid (∀ i (h : i < D.dl.length), -1 < D.dl[i].p ∧ D.dl[i].p < n))
    (HNEW : Hid (∀ i (h : i < D.dl.length), keep M i = true → X.im.getD D.dl[i].p.toNat 0 = V.getD D.dl[i].p.toNat 0)) (HOLD : Hid (∀ i (h : i < D.dl.length), keep M i = false → X.im.getD D.dl[i].p.toNat 0 = D.im.getD D.dl[i].p.toNat 0))
    (HOFF : Hid (∀ i k : Nat, keep M i = false → k < N → ¬ Z.getD k 0 = (i : Int))) (HAT : Hid (∀ i : Nat, i < m → keep M i = true → (chosen M i).length < N ∧ Z.getD (chosen M i).length 0 = (i : Int))) :
    Calls Tryd.prog 5 #[dev a n c b m d l q, .int .u64 M] w fun e w' => e = .returned (.bool true) ∧ Below w.heap.size w w' := by
  have HOK := Lib.hid hok
  have HC := Lib.hid (chk_ok hok)
  have hn0 : 256 ≤ n ∧ n ≤ 2048 := by have h1 := ok_short hok; have h2 := s.im.len; omega
  have hm0 : m ≤ 2048 := by have h1 := (ok_short hok).1; have h2 := s.dl.len; omega
  clear hok
  have C := below_new (o := box a n c b m d l q) (Below.refl w.heap.size w)
  have Hd := Var.new s
  go_enter Tryd.func5, Tryd.ntmps5
  go_wp2_with fail
  refine (rgreat_any _ _ _ _ _ _ _ _ _ s.dl.short).mono ?_
  rintro e w1 ⟨rfl, b1⟩
  replace Hd := Hd.keep b1
  replace C := below_then C b1
  rw [hg]
  have tx := Hd.box.lt
  obtain ⟨x0, x1, x2, x3⟩ := Hd.cells
  go_wp2_with fail
  refine (chk_b _ _ _ _ _ _ _ _ D _ Hd.sees).mono ?_
  rintro e w2 ⟨rfl, b2⟩
  replace Hd := Hd.keep b2
  replace C := below_then C b2
  rw [HC.out]
  clear tx x0 x1 x2 x3
  have tx := Hd.box.lt
  obtain ⟨x0, x1, x2, x3⟩ := Hd.cells
  go_wp2_with fail
  all_goals first | (exfalso; omega) | skip
  refine (crash_x _ _ _ _ _ _ _ _ D M _ Hd.sees HOK.out hM (L.keep C) X HX.out).mono ?_
  rintro e w3 ⟨a3, c3, g3, d3, rfl, S3, b3⟩
  replace Hd := Hd.keep b3
  replace C := below_then C b3
  have Ndx := Lib.hid (Nat.ne_of_lt Hd.box.lt)
  have Bx : Hid (w.heap.size ≤ w3.heap.size) := Lib.hid C.size
  have Hx := Var.new S3
  have n3' : Below w3.heap.size w3 (w3.alloc (box a3 n c3 g3 0 d3 (-1) false)) := below_new (Below.refl _ _)
  replace Hd := Hd.keep n3'
  replace C := below_then C n3'
  clear S3
  clear tx x0 x1 x2 x3
  have tx := Hd.box.lt
  obtain ⟨x0, x1, x2, x3⟩ := Hd.cells
  go_wp2_with fail
  refine (view_x _ _ _ _ _ _ _ _ D _ Hd.sees HOK.out V HV.out).mono ?_
  rintro e w4 ⟨a4, c4, rfl, Zv, b4⟩
  replace Hd := Hd.keep b4
  replace Hx := Hx.keep b4
  replace C := below_then C b4
  clear tx x0 x1 x2 x3
  have tx := Hd.box.lt
  obtain ⟨x0, x1, x2, x3⟩ := Hd.cells
  go_wp2_with fail
  refine (chosen_x _ _ _ _ _ _ _ _ D M _ Hd.sees HOK.out hM (L.keep C) Z HZ.out N HN.out).mono ?_
  rintro e w5 ⟨a5, c5, rfl, Zk, b5⟩
  replace Hd := Hd.keep b5
  replace Hx := Hx.keep b5
  replace Zv := Zv.keep b5
  replace C := below_then C b5
  clear tx x0 x1 x2 x3
  have tx := Hx.box.lt
  obtain ⟨x0, x1, x2, x3⟩ := Hx.cells
  have tz := Hd.box.lt
  obtain ⟨z0, z1, z2, z3⟩ := Hd.cells
  go_wp2_with fail
  clear tx x0 x1 x2 x3 tz z0 z1 z2 z3
  go_loopw [11] (fun s11 wr => ∃ i : Nat, i ≤ n ∧ s11 = .int .i64 i ∧ Var wr w.heap.size a n c b m d l q D ∧ Var wr w3.heap.size a3 n c3 g3 0 d3 (-1) false X ∧ Sees wr .u64 a4 n c4 V ∧ Sees wr .i64 a5 N c5 Z ∧ Below w.heap.size w wr) (fun s11 _ => n - (intOf s11).toNat)
  case atStart => exact ⟨0, Nat.zero_le _, rfl, Hd, Hx, Zv, Zk, C⟩
  case round =>
    clear Hd Hx Zv Zk C
    obtain ⟨i, hi, rfl, Hd, Hx, Zv, Zk, C⟩ := hrel
    have tx := Hx.box.lt
    have td := Hd.box.lt
    obtain ⟨x0, x1, x2, x3⟩ := Hx.cells
    obtain ⟨z0, z1, z2, z3⟩ := Hd.cells
    by_cases hlt : i < n
    · obtain ⟨gx, ox, rfl⟩ := Hx.sees.im.lies (by omega)
      obtain ⟨gd, od, rfl⟩ := Hd.sees.im.lies (by omega)
      obtain ⟨gv, ov, rfl⟩ := Zv.lies (by omega)
      have r1 := Hx.sees.im.at i hlt
      have r2 := Hd.sees.im.at i hlt
      have r3 := Zv.at i hlt
      have hon := HON.out i
      generalize X.im.getD i 0 = CX at r1 hon
      generalize D.im.getD i 0 = CI at r2 hon
      generalize V.getD i 0 = CV at r3 hon
      by_cases he : CX = CI
      · subst he
        clear hon
        go_wp2_with fail
        go_quiet (fail)
        go_wp2
        go_roundw
        case rel =>
          have bd := below_drewN (Below.refl wr.heap.size wr) nq
          exact ⟨i + 1, by omega, by go_num, Hd.keep bd, Hx.keep bd, Zv.keep bd, Zk.keep bd, below_then C bd⟩
        case measure => simp [intOf]; omega
      · obtain rfl : CX = CV := by
          rcases hon with h | h
          · exact absurd h he
          · exact h
        have hb : (CX != CI) = true := by simpa using he
        clear hon he
        go_wp2_with fail
        go_quiet (fail)
        go_wp2
        go_roundw
        case rel =>
          have bd := below_drewN (Below.refl wr.heap.size wr) nq
          exact ⟨i + 1, by omega, by go_num, Hd.keep bd, Hx.keep bd, Zv.keep bd, Zk.keep bd, below_then C bd⟩
        case measure => simp [intOf]; omega
    · obtain rfl : n = i := by omega
      clear hlt hi
      go_wp2_with fail
      clear tx td x0 x1 x2 x3 z0 z1 z2 z3
      go_loopw [12, 13] (fun s12 s13 wr => ∃ i k : Nat, i ≤ m ∧ k ≤ N ∧ s13 = .int .i64 i ∧ s12 = .int .i64 k ∧ Hid ((chosen M i).length = k) ∧ Var wr w.heap.size a n c b m d l q D ∧ Var wr w3.heap.size a3 n c3 g3 0 d3 (-1) false X ∧ Sees wr .u64 a4 n c4 V ∧ Sees wr .i64 a5 N c5 Z ∧ Below w.heap.size w wr) (fun _ s13 _ => m - (intOf s13).toNat)
      case atStart => exact ⟨0, 0, Nat.zero_le _, Nat.zero_le _, rfl, rfl, Lib.hid rfl, Hd, Hx, Zv, Zk, C⟩
      case round =>
        clear Hd Hx Zv Zk C
        obtain ⟨i, k, hi, hk, rfl, rfl, HK, Hd, Hx, Zv, Zk, C⟩ := hrel
        have tx := Hx.box.lt
        have td := Hd.box.lt
        obtain ⟨x0, x1, x2, x3⟩ := Hx.cells
        obtain ⟨z0, z1, z2, z3⟩ := Hd.cells
        by_cases hlt : i < m
        · obtain ⟨gx, ox, rfl⟩ := Hx.sees.im.lies (by omega)
          obtain ⟨gi, oi, rfl⟩ := Hd.sees.im.lies (by omega)
          obtain ⟨gv, ov, rfl⟩ := Zv.lies (by omega)
          obtain ⟨gb, ob, rfl⟩ := Hd.sees.dl.lies (by omega)
          have hk' : i < D.dl.length := by rw [Hd.sees.dl.len]; omega
          obtain ⟨c1, -, -⟩ := dw_at Hd.sees.dl i hk'
          have hpk := HPK.out i hk'
          have hnew := HNEW.out i hk'
          have hold := HOLD.out i hk'
          generalize D.dl[i].p = P at c1 hpk hnew hold
          have r1 := Hx.sees.im.at P.toNat (by omega)
          have r2 := Hd.sees.im.at P.toNat (by omega)
          have r3 := Zv.at P.toNat (by omega)
          generalize X.im.getD P.toNat 0 = CX at r1 hnew hold
          generalize D.im.getD P.toNat 0 = CI at r2 hold
          generalize V.getD P.toNat 0 = CV at r3 hnew
          cases hkp : keep M i
          · obtain rfl : CX = CI := hold hkp
            have HKN := Lib.hid (show (chosen M (i + 1)).length = k from by rw [chosen_no hkp]; exact HK.out)
            clear hnew hold
            by_cases hkn : k < N
            · obtain ⟨gk, ok', rfl⟩ := Zk.lies (by omega)
              have r4 := Zk.at k hkn
              have hb : (Z.getD k 0 == (i : Int)) = false := by
                have := HOFF.out i k hkp hkn
                simpa using this
              generalize Z.getD k 0 = ZK at r4 hb
              clear hkp
              go_wp2_with fail
              go_quiet (fail)
              go_wp2
              go_roundw
              case rel =>
                have bd := below_drewN (Below.refl wr.heap.size wr) nq
                exact ⟨i + 1, k, by omega, hk, by go_num, rfl, HKN, Hd.keep bd, Hx.keep bd, Zv.keep bd, Zk.keep bd, below_then C bd⟩
              case measure => simp [intOf]; omega
            · clear hkp
              go_wp2_with fail
              go_quiet (fail)
              go_wp2
              go_roundw
              case rel =>
                have bd := below_drewN (Below.refl wr.heap.size wr) nq
                exact ⟨i + 1, k, by omega, hk, by go_num, rfl, HKN, Hd.keep bd, Hx.keep bd, Zv.keep bd, Zk.keep bd, below_then C bd⟩
              case measure => simp [intOf]; omega
          · obtain rfl : CX = CV := hnew hkp
            obtain ⟨hat1, hat2⟩ := HAT.out i hlt hkp
            rw [HK.out] at hat1 hat2
            have HKN := Lib.hid (show (chosen M (i + 1)).length = k + 1 from by rw [chosen_yes hkp, List.length_append, HK.out]; rfl)
            have hNt := Zk.top
            obtain ⟨gk, ok', rfl⟩ := Zk.lies (by omega)
            have r4 := Zk.at k hat1
            rw [hat2] at r4
            clear hnew hold hkp hat2
            go_wp2_with fail
            go_quiet (fail)
            go_wp2
            go_roundw
            case rel =>
              have bd := below_drewN (Below.refl wr.heap.size wr) nq
              exact ⟨i + 1, k + 1, by omega, by omega, by go_num, by go_num, HKN, Hd.keep bd, Hx.keep bd, Zv.keep bd, Zk.keep bd, below_then C bd⟩
            case measure => simp [intOf]; omega
        · obtain rfl : i = m := by omega
          obtain rfl : k = N := by rw [← HK.out, HZ.out, HN.out]
          clear HK hlt hi hk
          go_wp2_with fail
          refine (live_any _ (L.keep C)).mono ?_
          rintro e wb ⟨rfl, bb⟩
          go_wp2
          go_ret
          exact ⟨rfl, below_then C bb⟩
set_option maxHeartbeats 4000000 in
theorem walk_guard (a : Option Addr) (n c : Nat) (b : Option Addr) (m d : Nat) (l : Int) (q : Bool) (D : Dev) (M : Int) (w : World) (L : Lost w) (s : SeesD w a n c b m d l q D) (hg : greatD n m = true ∨ (greatD n m = false ∧ okD D = false)) :
    Calls Tryd.prog 5 #[dev a n c b m d l q, .int .u64 M] w fun e w' => e = .returned (.bool true) ∧ Below w.heap.size w w' := by
  have C := below_new (o := box a n c b m d l q) (Below.refl w.heap.size w)
  have Hd := Var.new s
  have hnt := s.im.top
  have hmt := s.dl.short
  rcases hg with hg | ⟨hg, hok⟩
  · go_enter Tryd.func5, Tryd.ntmps5
    go_wp2_with fail
    refine (rgreat_any _ _ _ _ _ _ _ _ _ s.dl.short).mono ?_
    rintro e w1 ⟨rfl, b1⟩
    replace C := below_then C b1
    rw [hg]
    go_wp2_with fail
    refine (live_any _ (L.keep C)).mono ?_
    rintro e wb ⟨rfl, bb⟩
    go_wp2
    go_ret
    exact ⟨rfl, below_then C bb⟩
  · have hc : chk D = 8 := chk_bad (by rw [hok]; decide)
    go_enter Tryd.func5, Tryd.ntmps5
    go_wp2_with fail
    refine (rgreat_any _ _ _ _ _ _ _ _ _ s.dl.short).mono ?_
    rintro e w1 ⟨rfl, b1⟩
    replace C := below_then C b1
    rw [hg]
    replace Hd := Hd.keep b1
    have td := Hd.box.lt
    obtain ⟨x0, x1, x2, x3⟩ := Hd.cells
    go_wp2_with fail
    refine (chk_b _ _ _ _ _ _ _ _ D _ Hd.sees).mono ?_
    rintro e w2 ⟨rfl, b2⟩
    replace C := below_then C b2
    rw [hc]
    go_wp2_with fail
    refine (live_any _ (L.keep C)).mono ?_
    rintro e wb ⟨rfl, bb⟩
    go_wp2
    go_ret
    exact ⟨rfl, below_then C bb⟩
theorem walk (a : Option Addr) (n c : Nat) (b : Option Addr) (m d : Nat) (l : Int) (q : Bool) (D : Dev) (M : Int) (hM : 0 ≤ M ∧ M < 18446744073709551616) (w : World) (L : Lost w) (s : SeesD w a n c b m d l q D) :
    Calls Tryd.prog 5 #[dev a n c b m d l q, .int .u64 M] w fun e w' => e = .returned (.bool true) ∧ Below w.heap.size w w' := by
  by_cases hg : greatD n m = true
  · exact walk_guard a n c b m d l q D M w L s (.inl hg)
  · have hg' : greatD n m = false := by simpa using hg
    by_cases hok : okD D = true
    · have hdl := (ok_parts hok).2
      have hn := s.im.len
      have hm := s.dl.len
      refine walk_main a n c b m d l q D M w L s hok hM hg' _ _ _ _ (Lib.hid rfl) (Lib.hid rfl) (Lib.hid rfl) (Lib.hid rfl) (Lib.hid fun i => old_or_new hdl i) (Lib.hid fun i h => ?_) (Lib.hid fun i h hk => ?_) (Lib.hid fun i h hk => crash_lost hdl h hk (Nat.le_refl _)) (Lib.hid fun i k hk hkn => chosen_off hk hkn) (Lib.hid fun i hi hk => chosen_at hi hk)
      · have := okDl_at hdl h
        omega
      · rw [words_at hdl h]
        exact crash_kept hdl h hk h (Nat.le_refl _)
    · exact walk_guard a n c b m d l q D M w L s (.inr ⟨hg', by simpa using hok⟩)

/-! The row's step. -/
set_option maxRecDepth 100000 in
theorem lifted (os : Os) (started : os.Started) (H : Type) (enc : TypeId × Value → H) :
    ReturnsInHanded {} Tryd.checked os 5 .any (fun w args => (Rows.crashWordsSpec.pre enc Tryd.prog Tryd.f5 [] false w args ∧ laidMetH Tryd.prog Kp.laid1 w) ∧ sizedMet enc Tryd.prog Tryd.f5 (OpenSpec.ofChange Rows.crashWordsSpec) false w args) (Rows.crashWordsSpec.post enc Tryd.prog Tryd.f5 false true false false) := by
  refine returnsInHanded_of_change_and (C := Tryd.checked) (X := fun w _ => laidMetH Tryd.prog Kp.laid1 w) (fun _ _ _ hh h => h.of_heap hh) St.own started (by kernel_rfl) Tryd.func5
    (ChangeSpec.witness_shaped (enc := enc) (C := Tryd.checked) (os := os) (X := fun w _ => laidMetH Tryd.prog Kp.laid1 w) false (World.doorLaid Tryd.prog 400 os) #[.agg #[.slice .none 0 0, .slice .none 0 0, .int .i64 0, .bool false], .int .u64 0] 8 rfl (World.shaped_of_RefB (by kernel_rfl) (by kernel_rfl)) (by kernel_rfl) (by kernel_rfl) (by kernel_rfl) (Kp.door_met os _)) ?_
  intro W base args ds gs before hval0 hW hcnd hsz0 hL _
  have hsz : (DataW.weightsEach Tryd.prog (Tryd.f5.params.toList ++ Rows.crashWordsSpec.plain.varTypes Tryd.prog) (ds ++ gs)).all (· ≤ reachBytes) = true := hsz0
  have hval : ∀ (j : Nat) t v, Tryd.f5.params[j]? = some t → args[j]? = some v → Value.okWide Tryd.prog W .any base t v := hval0
  have hW' := hW
  obtain ⟨p, q, hA0, hV, rfl, hfz, hnd⟩ := hW
  have hA : DataW.TrodAll enc Tryd.prog W 0 (fun _ => true) true Tryd.f5.params.toList args.toList ds p := hA0
  rw [Tryd.params5] at hA hval hsz
  obtain ⟨v0, vs0, d0, ds0, p0, q0, hargs, rfl, rfl, h0, r0⟩ := trodAll_cons hA
  obtain ⟨v1, vs1, d1, ds1, p1, q1, rfl, rfl, rfl, h1, r1⟩ := trodAll_cons r0
  obtain ⟨rfl, rfl, rfl⟩ := trodAll_nil r1
  obtain rfl : args = #[v0, v1] := by cases args; simp_all
  obtain ⟨a0, n0, c0, b0, m0, e0, l0, b0', D0, rfl, s0⟩ := Dv.open_dev (hval 0 25 v0 rfl rfl) h0 (fun n hn => by
    have := List.all_eq_true.1 hsz _ (DataW.weights_mem_each (j := 0) (t := 25) rfl rfl n hn)
    exact of_decide_eq_true this)
  obtain ⟨a1, rfl, rfl, rfl, w1⟩ := open_int Tryd.underlying30 (hval 1 30 v1 rfl rfl) h1
  refine (walk a0 n0 c0 b0 m0 e0 l0 b0' D0 a1 (St.u64_of_wf w1) W (Kp.lost_of_laid hL) s0).mono fun e W' ⟨he, hb⟩ => ?_
  subst he
  exact St.law_done St.laid (by kernel_rfl) rfl rfl Tryd.underlying4 rfl hW' hb

theorem over : Rows.crashWordsRow.holds Tryd.pinned (OpenSpec.ofChange Rows.crashWordsSpec) :=
  OpenClaim.holds_of_wide 5 Tryd.f5 rfl rfl rfl rfl rfl rfl rfl ⟨rfl, rfl, rfl, rfl, rfl⟩ rfl rfl rfl rfl rfl (by kernel_rfl) Tryd.func5 (by kernel_rfl)
    (of_decide_eq_true (by kernel_rfl)) (by unfold Func.isWrapper; first | (rw [if_pos (by decide +kernel)]; kernel_rfl) | (rw [if_neg (by decide +kernel)]; exact ⟨rfl, rfl⟩))
    (fun os started H enc _ => lifted os started H enc)
theorem proved : Rows.CrashWordsCardSaid :=
  Claim7.holds_tied_plain_at .later [] [.data] true Rows.crashWordsCard.stood.harness false over (fun _ h => by cases h) (by kernel_rfl) (fun _ h => by cases h) crashWords_row_tie rfl ⟨rfl, rfl⟩ (by kernel_rfl) rfl
    (fun f fn hf hfn => by
      obtain rfl : f = 5 := Option.some.inj ((show Tryd.prog.funcNamed "ballast/ballastlaw04.CrashWords" = some 5 by kernel_rfl).symm.trans hf) |>.symm
      obtain rfl : fn = Tryd.f5 := (Option.some.inj (Tryd.func5.symm.trans hfn)).symm
      exact ⟨by kernel_rfl, fun j t ht => by
        rw [Tryd.params5] at ht
        have hm : t ∈ [25, 30] := by simpa using Array.mem_of_getElem? ht
        have hall : ([25, 30].all fun u => !Tryd.prog.wantsStandIn u) = true := by kernel_rfl
        exact (show Tryd.prog.wantsStandIn t = false by simpa using List.all_eq_true.1 hall t hm)⟩)
    (by kernel_rfl)
#print axioms proved
end Go.Proofs.YtkjhpjgdcjccjaaDoor.crashWords

