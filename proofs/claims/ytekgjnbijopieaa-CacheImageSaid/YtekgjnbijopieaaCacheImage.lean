/-
  The law CacheImage returns true for every device, an address and a word; no condition.
-/
import Derived.Test.YtekgjnbijopieaaCachex
import Derived.Test.YtekgjnbijopieaaDevOpen
import Derived.SizedLaws
import Derived.Test.YtekgjnbijopieaaImgp
namespace Go.Proofs.Ytekgjnbijopieaa.cacheImage
open Go.Proofs.Ytekgjnbijopieaa.Fd Go.Proofs.Ytekgjnbijopieaa.Cx Go.ChangeShapes Go.WideShapes Go.ChangeAt Go.RowKit Go.Proofs.Ytekgjnbijopieaa.Sl Go.Proofs.Ytekgjnbijopieaa.St Go.Proofs.Ytekgjnbijopieaa.Ir Go.Proofs.Ytekgjnbijopieaa.Dv Go.Proofs.Ytekgjnbijopieaa.Cr Go.Proofs.Ytekgjnbijopieaa.Cu
set_option linter.unusedVariables false
set_option maxRecDepth 100000


theorem sees_zero (W : World) : SeesD W none 0 0 none 0 0 0 false zdev :=
  ⟨⟨rfl, Nat.le_refl _, by decide, by simp [zdev], fun _ => ⟨rfl, rfl⟩, .inl rfl⟩, ⟨rfl, Nat.le_refl _, by decide, by simp [zdev], fun _ => ⟨rfl, rfl⟩, .inl rfl⟩, rfl, rfl, by decide, by decide⟩
theorem var_zero (W : World) : Var (W.alloc zbox) W.heap.size none 0 0 none 0 0 0 false zdev := Var.new (sees_zero W)
theorem same_eq (a : Option Addr) (n c : Nat) (b : Option Addr) (m d : Nat) (xs ys : List Int) (w : World) (va : Sees w .u64 a n c xs) (vb : Sees w .u64 b m d ys) (h : xs = ys) :
    Calls Try.prog 24 #[.slice a n c, .slice b m d] w fun e w' => e = .returned (.bool true) ∧ Below w.heap.size w w' := by
  subst h
  exact same_self a n c b m d xs w va vb

set_option maxHeartbeats 4000000 in
theorem walk_main (a : Option Addr) (n c : Nat) (b : Option Addr) (m d : Nat) (D : Dev) (p u : Int) (w : World) (s : SeesD w a n c b m d (-1) false D) (hok : okD D = true) (hL : D.left = -1) (hp : 0 ≤ p ∧ p < n) (hu : 0 ≤ u ∧ u < 18446744073709551616) (hg : greatD n m = false) (hm : m ≤ 40)
    (X Y Z : Dev) (HX : Hid (storedD D p u = X)) (HY : Hid (flushedD D p = Y)) (HZ : Hid (fencedD D = Z)) (DX : Hid (X.down = false)) (DY : Hid (Y.down = false)) (DZ : Hid (Z.down = false)) (HXI : Hid (X.im = D.im)) (HYI : Hid (Y.im = D.im))
    (HHIT : Hid (∀ i : Nat, i < n → ∀ (h : lowN i D.dl < D.dl.length), D.dl[lowN i D.dl].p = i → Z.im.getD i 0 = if D.dl[lowN i D.dl].f = true then D.dl[lowN i D.dl].v else D.im.getD i 0))
    (HMISS : Hid (∀ i : Nat, i < n → ¬ (∃ h : lowN i D.dl < D.dl.length, D.dl[lowN i D.dl].p = i) → Z.im.getD i 0 = D.im.getD i 0))
    (HNEXT : Hid (∀ i : Nat, ((∃ h : lowN i D.dl < D.dl.length, D.dl[lowN i D.dl].p = i) → lowN (i + 1 : Nat) D.dl = lowN i D.dl + 1) ∧ (¬ (∃ h : lowN i D.dl < D.dl.length, D.dl[lowN i D.dl].p = i) → lowN (i + 1 : Nat) D.dl = lowN i D.dl)))
    (HLO : Hid (lowN (0 : Nat) D.dl = 0)) :
    Calls Try.prog 7 #[dev a n c b m d (-1) false, .int .i64 p, .int .u64 u] w fun e w' => e = .returned (.bool true) ∧ Below w.heap.size w w' := by
  have HOK := Lib.hid hok
  have HC := Lib.hid (chk_ok hok)
  have HP := Lib.hid hp
  have hnt : n ≤ 2048 := by have h1 := (ok_short hok).2.1; have h2 := s.im.len; omega
  have hn0 : 256 ≤ n := by have h1 := (ok_short hok).2.2; have h2 := s.im.len; omega
  have HL := Lib.hid hL
  clear hok hL
  have C := below_new (o := box a n c b m d (-1) false) (Below.refl w.heap.size w)
  have Hd := Var.new s
  go_enter Try.func7, Try.ntmps7
  go_wp2_with fail
  refine (rgreat_any _ _ _ _ _ _ _ _ _ s.dl.short).mono ?_
  rintro e w1 ⟨rfl, b1⟩
  replace Hd := Hd.keep b1
  replace C := below_then C b1
  rw [hg]
  have tx := Hd.box.lt
  obtain ⟨x0, x1, x2, x3⟩ := Hd.cells
  go_wp2_with fail
  refine (chk_b _ _ _ _ _ _ _ _ D _ Hd.sees).mono ?_
  rintro e w2 ⟨rfl, b2⟩
  replace Hd := Hd.keep b2
  replace C := below_then C b2
  rw [HC.out]
  clear tx x0 x1 x2 x3
  have tx := Hd.box.lt
  obtain ⟨x0, x1, x2, x3⟩ := Hd.cells
  go_wp2_with fail
  all_goals first | (exfalso; omega) | skip
  refine (store_x _ _ _ _ _ _ _ _ D p u _ Hd.sees HOK.out HP.out hu X HX.out false DX.out).mono ?_
  rintro e w3 ⟨a3, c3, g3, m3, d3, l3, rfl, S3, b3⟩
  replace Hd := Hd.keep b3
  replace C := below_then C b3
  have Ndx := Lib.hid (Nat.ne_of_lt Hd.box.lt)
  have Bx : Hid (w.heap.size ≤ w3.heap.size) := Lib.hid C.size
  have Hx := Var.new S3
  have n3 : Below w3.heap.size w3 (w3.alloc (box a3 n c3 g3 m3 d3 l3 false)) := below_new (Below.refl _ _)
  replace Hd := Hd.keep n3
  replace C := below_then C n3
  clear S3
  clear tx x0 x1 x2 x3
  have tx := Hd.box.lt
  obtain ⟨x0, x1, x2, x3⟩ := Hd.cells
  go_wp2_with fail
  refine (flush_x _ _ _ _ _ _ _ _ D p _ Hd.sees HOK.out HP.out Y HY.out false DY.out).mono ?_
  rintro e w4 ⟨a4, c4, g4, m4, d4, l4, rfl, S4, b4⟩
  replace Hd := Hd.keep b4
  replace Hx := Hx.keep b4
  replace C := below_then C b4
  have Ndy := Lib.hid (Nat.ne_of_lt Hd.box.lt)
  have Nxy := Lib.hid (Nat.ne_of_lt Hx.box.lt)
  have By : Hid (w.heap.size ≤ w4.heap.size) := Lib.hid C.size
  have Hy := Var.new S4
  have n4 : Below w4.heap.size w4 (w4.alloc (box a4 n c4 g4 m4 d4 l4 false)) := below_new (Below.refl _ _)
  replace Hd := Hd.keep n4
  replace Hx := Hx.keep n4
  replace C := below_then C n4
  clear S4
  clear tx x0 x1 x2 x3
  have tx := Hd.box.lt
  obtain ⟨x0, x1, x2, x3⟩ := Hd.cells
  go_wp2_with fail
  refine (fence_x _ _ _ _ _ _ _ _ D _ Hd.sees HOK.out Z HZ.out false DZ.out).mono ?_
  rintro e w5 ⟨a5, c5, g5, m5, d5, l5, rfl, S5, b5⟩
  replace Hd := Hd.keep b5
  replace Hx := Hx.keep b5
  replace Hy := Hy.keep b5
  replace C := below_then C b5
  have Ndz := Lib.hid (Nat.ne_of_lt Hd.box.lt)
  have Nxz := Lib.hid (Nat.ne_of_lt Hx.box.lt)
  have Nyz := Lib.hid (Nat.ne_of_lt Hy.box.lt)
  have Bz : Hid (w.heap.size ≤ w5.heap.size) := Lib.hid C.size
  have Hz := Var.new S5
  have n5 : Below w5.heap.size w5 (w5.alloc (box a5 n c5 g5 m5 d5 l5 false)) := below_new (Below.refl _ _)
  replace Hd := Hd.keep n5
  replace Hx := Hx.keep n5
  replace Hy := Hy.keep n5
  replace C := below_then C n5
  clear S5
  clear tx x0 x1 x2 x3
  have tx := Hx.box.lt
  obtain ⟨x0, x1, x2, x3⟩ := Hx.cells
  have tz := Hd.box.lt
  obtain ⟨z0, z1, z2, z3⟩ := Hd.cells
  go_wp2_with fail
  refine (same_eq _ _ _ _ _ _ _ _ _ Hx.sees.im Hd.sees.im HXI.out).mono ?_
  rintro e w6 ⟨rfl, b6⟩
  replace Hd := Hd.keep b6
  replace Hx := Hx.keep b6
  replace Hy := Hy.keep b6
  replace Hz := Hz.keep b6
  replace C := below_then C b6
  clear tx x0 x1 x2 x3 tz z0 z1 z2 z3
  have tx := Hy.box.lt
  obtain ⟨x0, x1, x2, x3⟩ := Hy.cells
  have tz := Hd.box.lt
  obtain ⟨z0, z1, z2, z3⟩ := Hd.cells
  go_wp2_with fail
  refine (same_eq _ _ _ _ _ _ _ _ _ Hy.sees.im Hd.sees.im HYI.out).mono ?_
  rintro e w7 ⟨rfl, b7⟩
  replace Hd := Hd.keep b7
  replace Hx := Hx.keep b7
  replace Hy := Hy.keep b7
  replace Hz := Hz.keep b7
  replace C := below_then C b7
  clear tx x0 x1 x2 x3 tz z0 z1 z2 z3
  have tx := Hz.box.lt
  obtain ⟨x0, x1, x2, x3⟩ := Hz.cells
  have tz := Hd.box.lt
  obtain ⟨z0, z1, z2, z3⟩ := Hd.cells
  go_wp2_with fail
  clear tx x0 x1 x2 x3 tz z0 z1 z2 z3
  go_loopw [13, 14] (fun s13 s14 wr => ∃ i k : Nat, i ≤ n ∧ k ≤ m ∧ s14 = .int .i64 i ∧ s13 = .int .i64 k ∧ Hid (lowN i D.dl = k) ∧ Var wr w.heap.size a n c b m d (-1) false D ∧ Var wr w5.heap.size a5 n c5 g5 m5 d5 l5 false Z ∧ Below w.heap.size w wr) (fun _ s14 _ => n - (intOf s14).toNat)
  case atStart => exact ⟨0, 0, Nat.zero_le _, Nat.zero_le _, rfl, rfl, HLO, Hd, Hz, C⟩
  case round =>
    clear Hx Hy Hd Hz C
    obtain ⟨i, k, hi, hk, rfl, rfl, HK, Hd, Hz, C⟩ := hrel
    have tx := Hd.box.lt
    have tz := Hz.box.lt
    obtain ⟨x0, x1, x2, x3⟩ := Hd.cells
    by_cases hlt : i < n
    · obtain ⟨z0, z1, z2, z3⟩ := Hz.cells
      obtain ⟨ga, oa, rfl⟩ := Hd.sees.im.lies (by omega)
      obtain ⟨gz, oz, rfl⟩ := Hz.sees.im.lies (by omega)
      have r1 := Hd.sees.im.at i hlt
      have r2 := Hz.sees.im.at i hlt
      have HM := Lib.hid (HMISS.out i hlt)
      have HH := Lib.hid (HHIT.out i hlt)
      have HNX := Lib.hid (HNEXT.out i)
      rw [HK.out] at HM HH HNX
      generalize D.im.getD i 0 = V at r1 HM HH
      generalize Z.im.getD i 0 = U at r2 HM HH
      by_cases hkm : k < m
      · obtain ⟨gb, ob, rfl⟩ := Hd.sees.dl.lies (by omega)
        have hk' : k < D.dl.length := by rw [Hd.sees.dl.len]; omega
        obtain ⟨c1, c2, c4⟩ := dw_at Hd.sees.dl k hk'
        by_cases he : D.dl[k].p = i
        · have HU := Lib.hid (HH.out hk' he)
          have HN := Lib.hid ((HNX.out.1 ⟨hk', he⟩).trans (by omega : k + 1 = k + 1))
          clear HM HH HNX
          generalize D.dl[k] = e at c1 c2 c4 he HU
          cases hf : e.f
          · have hu2 := HU.out
            rw [hf, if_neg (by decide)] at hu2
            subst hu2
            rw [hf] at c4
            clear HU hf
            go_wp2_with fail
            all_goals first | (exfalso; omega) | skip
            go_roundw
            case rel => exact ⟨i + 1, k + 1, by omega, by omega, by go_num, by go_num, HN, Hd, Hz, C⟩
            case measure => simp [intOf]; omega
          · have hu2 := HU.out
            rw [hf, if_pos rfl] at hu2
            subst hu2
            rw [hf] at c4
            clear HU hf
            go_wp2_with fail
            all_goals first | (exfalso; omega) | skip
            go_roundw
            case rel => exact ⟨i + 1, k + 1, by omega, by omega, by go_num, by go_num, HN, Hd, Hz, C⟩
            case measure => simp [intOf]; omega
        · have hu2 := HM.out (fun h => he h.2)
          have HN := Lib.hid (HNX.out.2 (fun h => he h.2))
          subst hu2
          have hb : (D.dl[k].p == (i : Int)) = false := by simpa using he
          clear HM HH HNX he
          generalize D.dl[k] = e at c1 c2 c4 hb
          go_wp2_with fail
          all_goals first | (exfalso; omega) | skip
          go_roundw
          case rel => exact ⟨i + 1, k, by omega, hk, by go_num, rfl, HN, Hd, Hz, C⟩
          case measure => simp [intOf]; omega
      · have hk' : ¬ k < D.dl.length := by rw [Hd.sees.dl.len]; omega
        have hu2 := HM.out (fun h => hk' h.1)
        have HN := Lib.hid (HNX.out.2 (fun h => hk' h.1))
        subst hu2
        clear HM HH HNX
        go_wp2_with fail
        all_goals first | (exfalso; omega) | skip
        go_roundw
        case rel => exact ⟨i + 1, k, by omega, hk, by go_num, rfl, HN, Hd, Hz, C⟩
        case measure => simp [intOf]; omega
    · obtain rfl : i = n := by omega
      clear HK hlt Hz tz
      obtain ⟨w8, hw8⟩ : ∃ w8, w8 = wr := ⟨_, rfl⟩
      subst hw8
      have HB := Lib.hid (show w.heap.size ≠ w8.heap.size from Nat.ne_of_lt tx)
      have HBW := Lib.hid (show w.heap.size ≤ w8.heap.size from Nat.le_of_lt tx)
      have Ha := Var.new Hd.sees
      have nb : Below w8.heap.size w8 (w8.alloc (box a i c b m d (-1) false)) := below_new (Below.refl _ _)
      replace Hd := Hd.keep nb
      replace C := below_then C nb
      clear nb
      have HST := Lib.hid (AllF.start HOK.out HL.out)
      go_wp2_with fail
      clear x0 x1 x2 x3 tx
      go_loopw [17] (fun s17 W => ∃ (k : Nat) (A : Dev) (a' : Option Addr) (c' : Nat) (b' : Option Addr) (m' d' : Nat) (l' : Int), k ≤ m ∧ s17 = .int .i64 k ∧ Hid (AllF D A k) ∧ Var W w.heap.size a i c b m d (-1) false D ∧ Var W w8.heap.size a' i c' b' m' d' l' false A ∧ Below w.heap.size w W) (fun s17 _ => m - (intOf s17).toNat)
      case atStart => exact ⟨0, D, a, c, b, m, d, -1, Nat.zero_le _, rfl, HST, Hd, Ha, C⟩
      case round =>
        clear Hd Ha C
        obtain ⟨k, A, a', c', b', m', d', l', hk, rfl, HA, Hd, Ha, C⟩ := hrel
        have tx := Hd.box.lt
        have tz := Ha.box.lt
        obtain ⟨x0, x1, x2, x3⟩ := Hd.cells
        by_cases hlt : k < m
        · obtain ⟨gb, ob, rfl⟩ := Hd.sees.dl.lies (by omega)
          have hk' : k < D.dl.length := by rw [Hd.sees.dl.len]; omega
          have hpk := okDl_at (ok_parts HOK.out).2 hk'
          rw [Hd.sees.im.len] at hpk
          have HN := Lib.hid (HA.out.step hk')
          have HDN := Lib.hid (show (flushedD A D.dl[k].p).down = false from by rw [flushed_calm HA.out.left]; exact Ha.sees.down)
          have bd : Below wr.heap.size wr wr.drew := (Below.refl _ _).drew
          have Hd' := Hd.keep bd
          have Ha' := Ha.keep bd
          have C' := below_then C bd
          have bz : Below wr.heap.size wr (wr.alloc zbox).drew := (below_new (Below.refl _ _)).drew
          have Hd'' := Hd.keep bz
          have Ha'' := Ha.keep bz
          have C'' := below_then C bz
          have Zb := (var_zero wr).keep (Below.refl _ (wr.alloc zbox)).drew
          have NZ := Lib.hid (Nat.ne_of_lt tx)
          have NA := Lib.hid (Nat.ne_of_lt tz)
          have LZ := Lib.hid C.size
          obtain ⟨c1, c2, c4⟩ := dw_at Hd'.sees.dl k hk'
          obtain ⟨c1', -, -⟩ := dw_at Hd''.sees.dl k hk'
          generalize D.dl[k].p = P at c1 c1' hpk HN HDN
          go_wp2_with fail
          clear x0 x1 x2 x3
          obtain ⟨x0, x1, x2, x3⟩ := Hd'.cells
          obtain ⟨z0, z1, z2, z3⟩ := Ha'.cells
          obtain ⟨dd0, dd1, dd2, dd3⟩ := Hd''.cells
          obtain ⟨aa0, aa1, aa2, aa3⟩ := Ha''.cells
          go_region_law (first
            | (go_simp
               go_at_call 12
               refine (flush_x _ _ _ _ _ _ _ _ A P _ Ha'.sees HA.out.ok (by omega) _ rfl false HDN.out).mono ?_
               rintro e w2 ⟨a2, c2', g2, m2, d2, l2, rfl, S2, b2⟩
               have Hd2 := Hd'.keep b2
               have Ha2 := Ha'.keep b2
               have C2 := below_then C' b2
               have t2 := Hd2.box.lt
               have t3 := Ha2.box.lt)
            | (go_simp
               go_at_call 12
               refine (flush_x _ _ _ _ _ _ _ _ A P _ Ha''.sees HA.out.ok (by omega) _ rfl false HDN.out).mono ?_
               rintro e w2 ⟨a2, c2', g2, m2, d2, l2, rfl, S2, b2⟩
               have Hd2 := Hd''.keep b2
               have Ha2 := Ha''.keep b2
               have C2 := below_then C'' b2
               have Z2 := Zb.keep b2
               have tn := Z2.box.lt
               obtain ⟨⟨q0, q1, q2, q3⟩, f0, f1, f2, f3⟩ := Z2.box.open4
               have t2 := Hd2.box.lt
               have t3 := Ha2.box.lt))
          all_goals first
            | (have Hn := Z2.put S2
               have Hd3 := Z2.far (y0 := .slice a2 i c2') (y1 := .slice g2 m2 d2) (y2 := .int .i64 l2) (y3 := .bool false) Hd2 NZ.out
               have Ha3 := Z2.far (y0 := .slice a2 i c2') (y1 := .slice g2 m2 d2) (y2 := .int .i64 l2) (y3 := .bool false) Ha2 NA.out
               have C3 := below_put (B := wr.heap.size) (y0 := .slice a2 i c2') (y1 := .slice g2 m2 d2) (y2 := .int .i64 l2) (y3 := .bool false) C2 LZ.out
               clear q0 q1 q2 q3 f0 f1 f2 f3 tn Z2
               dsimp only [put4] at Hn Hd3 Ha3 C3)
            | (have Hn := Var.new S2
               have nb : Below w2.heap.size w2 (w2.alloc (box a2 i c2' g2 m2 d2 l2 false)) := below_new (Below.refl _ _)
               have Hd3 := Hd2.keep nb
               have Ha3 := Ha2.keep nb
               have C3 := below_then C2 nb
               clear nb)
          all_goals
            clear x0 x1 x2 x3 z0 z1 z2 z3 dd0 dd1 dd2 dd3 aa0 aa1 aa2 aa3 c1 c2 c4 c1' t2 t3 Hd' Ha' C' Hd'' Ha'' C'' bd bz Zb Hd2 Ha2 C2 S2
            have ta := Ha3.box.lt
            have tn := Hn.box.lt
            obtain ⟨⟨q0, q1, q2, q3⟩, f0, f1, f2, f3⟩ := Ha3.box.open4
            obtain ⟨z0, z1, z2, z3⟩ := Hn.cells
            have Hd4 := Ha3.far (y0 := .slice a2 i c2') (y1 := .slice g2 m2 d2) (y2 := .int .i64 l2) (y3 := .bool false) Hd3 HB.out
            have Ha4 := Ha3.put Hn.sees
            have C4 := below_put (B := w8.heap.size) (y0 := .slice a2 i c2') (y1 := .slice g2 m2 d2) (y2 := .int .i64 l2) (y3 := .bool false) C3 HBW.out
            clear Hd3 Ha3 C3 Hn
            dsimp only [put4] at Hd4 Ha4 C4
            go_wp2_with fail
            go_roundw
            case rel => exact ⟨k + 1, _, a2, c2', g2, m2, d2, l2, by omega, by go_num, HN, Hd4, Ha4, C4⟩
            case measure => simp [intOf]; omega
        · obtain rfl : k = m := by omega
          have hfin := HA.out.finish (by rw [Hd.sees.dl.len]; exact Nat.le_refl _)
          have HF1 := Lib.hid hfin.1
          have HF2 := Lib.hid hfin.2
          have HDN := Lib.hid (show (fencedD A).down = false from by rw [Dv.fenced_calm HA.out.left]; exact Ha.sees.down)
          clear hfin hlt
          obtain ⟨z0, z1, z2, z3⟩ := Ha.cells
          go_wp2_with fail
          refine (fence_x _ _ _ _ _ _ _ _ A _ Ha.sees HA.out.ok _ rfl false HDN.out).mono ?_
          rintro e w4 ⟨a4, c4, g4, m4, d4, l4, rfl, S4, b4⟩
          obtain rfl : m4 = 0 := by rw [← S4.dl.len, HF1.out]; rfl
          replace Hd := Hd.keep b4
          replace C := below_then C b4
          have Hl := Var.new S4
          have nb : Below w4.heap.size w4 (w4.alloc (box a4 i c4 g4 0 d4 l4 false)) := below_new (Below.refl _ _)
          replace Hd := Hd.keep nb
          replace C := below_then C nb
          clear nb S4 x0 x1 x2 x3 z0 z1 z2 z3 tx tz Ha
          have tx := Hd.box.lt
          obtain ⟨x0, x1, x2, x3⟩ := Hd.cells
          go_wp2_with fail
          refine (view_x _ _ _ _ _ _ _ _ D _ Hd.sees HOK.out _ rfl).mono ?_
          rintro e w5 ⟨a5, c5, rfl, V5, b5⟩
          replace Hl := Hl.keep b5
          replace C := below_then C b5
          clear x0 x1 x2 x3 tx Hd
          have tx := Hl.box.lt
          obtain ⟨x0, x1, x2, x3⟩ := Hl.cells
          go_wp2_with fail
          refine (same_eq _ _ _ _ _ _ _ _ _ Hl.sees.im V5 HF2.out).mono ?_
          rintro e w6 ⟨rfl, b6⟩
          replace C := below_then C b6
          go_wp2_with fail
          refine (Al.alive_any _).mono ?_
          rintro e wb ⟨rfl, bb⟩
          go_wp2
          go_ret
          exact ⟨rfl, below_then C bb⟩

set_option maxHeartbeats 4000000 in
theorem walk_guard (a : Option Addr) (n c : Nat) (b : Option Addr) (m d : Nat) (l : Int) (q : Bool) (D : Dev) (p u : Int) (w : World) (s : SeesD w a n c b m d l q D) (hg : greatD n m = true ∨ (greatD n m = false ∧ okD D = false) ∨ (greatD n m = false ∧ okD D = true ∧ l ≠ -1) ∨ (greatD n m = false ∧ okD D = true ∧ l = -1 ∧ 40 < m) ∨ (greatD n m = false ∧ okD D = true ∧ l = -1 ∧ m ≤ 40 ∧ p < 0) ∨ (greatD n m = false ∧ okD D = true ∧ l = -1 ∧ m ≤ 40 ∧ 0 ≤ p ∧ (n : Int) ≤ p)) :
    Calls Try.prog 7 #[dev a n c b m d (l) q, .int .i64 p, .int .u64 u] w fun e w' => e = .returned (.bool true) ∧ Below w.heap.size w w' := by
  have C := below_new (o := box a n c b m d l q) (Below.refl w.heap.size w)
  have Hd := Var.new s
  have hnt := s.im.top
  have hmt := s.dl.short
  rcases hg with hg | ⟨hg, hok⟩ | ⟨hg, hok, h0⟩ | ⟨hg, hok, h0, h1⟩ | ⟨hg, hok, h0, h1, h2⟩ | ⟨hg, hok, h0, h1, h2, h3⟩
  · go_enter Try.func7, Try.ntmps7
    go_wp2_with fail
    refine (rgreat_any _ _ _ _ _ _ _ _ _ s.dl.short).mono ?_
    rintro e w1 ⟨rfl, b1⟩
    rw [hg]
    go_wp2_with fail
    refine (Al.alive_any _).mono ?_
    rintro e wb ⟨rfl, bb⟩
    go_wp2
    go_ret
    exact ⟨rfl, below_then (below_then C b1) bb⟩
  · have hc : chk D = 8 := chk_bad (by rw [hok]; decide)
    go_enter Try.func7, Try.ntmps7
    go_wp2_with fail
    refine (rgreat_any _ _ _ _ _ _ _ _ _ s.dl.short).mono ?_
    rintro e w1 ⟨rfl, b1⟩
    rw [hg]
    replace Hd := Hd.keep b1
    have td := Hd.box.lt
    obtain ⟨x0, x1, x2, x3⟩ := Hd.cells
    go_wp2_with fail
    refine (chk_b _ _ _ _ _ _ _ _ D _ Hd.sees).mono ?_
    rintro e w2 ⟨rfl, b2⟩
    rw [hc]
    go_wp2_with fail
    refine (Al.alive_any _).mono ?_
    rintro e wb ⟨rfl, bb⟩
    go_wp2
    go_ret
    exact ⟨rfl, below_then (below_then (below_then C b1) b2) bb⟩
  · have hc : chk D = 0 := chk_ok hok
    have hb : (l != -1) = true := by simpa using h0
    go_enter Try.func7, Try.ntmps7
    go_wp2_with fail
    refine (rgreat_any _ _ _ _ _ _ _ _ _ s.dl.short).mono ?_
    rintro e w1 ⟨rfl, b1⟩
    rw [hg]
    replace Hd := Hd.keep b1
    have td := Hd.box.lt
    obtain ⟨x0, x1, x2, x3⟩ := Hd.cells
    go_wp2_with fail
    refine (chk_b _ _ _ _ _ _ _ _ D _ Hd.sees).mono ?_
    rintro e w2 ⟨rfl, b2⟩
    rw [hc]
    replace Hd := Hd.keep b2
    clear x0 x1 x2 x3 td
    have td := Hd.box.lt
    obtain ⟨x0, x1, x2, x3⟩ := Hd.cells
    go_wp2_with fail
    all_goals first | (exfalso; omega) | skip
    all_goals
      refine (Al.alive_any _).mono ?_
      rintro e wb ⟨rfl, bb⟩
      go_wp2
      go_ret
      exact ⟨rfl, below_then (below_then (below_then C b1) b2) bb⟩
  · have hc : chk D = 0 := chk_ok hok
    subst h0
    go_enter Try.func7, Try.ntmps7
    go_wp2_with fail
    refine (rgreat_any _ _ _ _ _ _ _ _ _ s.dl.short).mono ?_
    rintro e w1 ⟨rfl, b1⟩
    rw [hg]
    replace Hd := Hd.keep b1
    have td := Hd.box.lt
    obtain ⟨x0, x1, x2, x3⟩ := Hd.cells
    go_wp2_with fail
    refine (chk_b _ _ _ _ _ _ _ _ D _ Hd.sees).mono ?_
    rintro e w2 ⟨rfl, b2⟩
    rw [hc]
    replace Hd := Hd.keep b2
    clear x0 x1 x2 x3 td
    have td := Hd.box.lt
    obtain ⟨x0, x1, x2, x3⟩ := Hd.cells
    go_wp2_with fail
    all_goals first | (exfalso; omega) | skip
    all_goals
      refine (Al.alive_any _).mono ?_
      rintro e wb ⟨rfl, bb⟩
      go_wp2
      go_ret
      exact ⟨rfl, below_then (below_then (below_then C b1) b2) bb⟩
  · have hc : chk D = 0 := chk_ok hok
    subst h0
    go_enter Try.func7, Try.ntmps7
    go_wp2_with fail
    refine (rgreat_any _ _ _ _ _ _ _ _ _ s.dl.short).mono ?_
    rintro e w1 ⟨rfl, b1⟩
    rw [hg]
    replace Hd := Hd.keep b1
    have td := Hd.box.lt
    obtain ⟨x0, x1, x2, x3⟩ := Hd.cells
    go_wp2_with fail
    refine (chk_b _ _ _ _ _ _ _ _ D _ Hd.sees).mono ?_
    rintro e w2 ⟨rfl, b2⟩
    rw [hc]
    replace Hd := Hd.keep b2
    clear x0 x1 x2 x3 td
    have td := Hd.box.lt
    obtain ⟨x0, x1, x2, x3⟩ := Hd.cells
    go_wp2_with fail
    all_goals first | (exfalso; omega) | skip
    all_goals
      refine (Al.alive_any _).mono ?_
      rintro e wb ⟨rfl, bb⟩
      go_wp2
      go_ret
      exact ⟨rfl, below_then (below_then (below_then C b1) b2) bb⟩
  · have hc : chk D = 0 := chk_ok hok
    subst h0
    go_enter Try.func7, Try.ntmps7
    go_wp2_with fail
    refine (rgreat_any _ _ _ _ _ _ _ _ _ s.dl.short).mono ?_
    rintro e w1 ⟨rfl, b1⟩
    rw [hg]
    replace Hd := Hd.keep b1
    have td := Hd.box.lt
    obtain ⟨x0, x1, x2, x3⟩ := Hd.cells
    go_wp2_with fail
    refine (chk_b _ _ _ _ _ _ _ _ D _ Hd.sees).mono ?_
    rintro e w2 ⟨rfl, b2⟩
    rw [hc]
    replace Hd := Hd.keep b2
    clear x0 x1 x2 x3 td
    have td := Hd.box.lt
    obtain ⟨x0, x1, x2, x3⟩ := Hd.cells
    go_wp2_with fail
    all_goals first | (exfalso; omega) | skip
    all_goals
      refine (Al.alive_any _).mono ?_
      rintro e wb ⟨rfl, bb⟩
      go_wp2
      go_ret
      exact ⟨rfl, below_then (below_then (below_then C b1) b2) bb⟩

theorem walk (a : Option Addr) (n c : Nat) (b : Option Addr) (m d : Nat) (l : Int) (q : Bool) (D : Dev) (p u : Int) (hp : -9223372036854775808 ≤ p ∧ p ≤ 9223372036854775807) (hu : 0 ≤ u ∧ u < 18446744073709551616) (w : World) (s : SeesD w a n c b m d l q D) :
    Calls Try.prog 7 #[dev a n c b m d (l) q, .int .i64 p, .int .u64 u] w fun e w' => e = .returned (.bool true) ∧ Below w.heap.size w w' := by
  have hn := s.im.len
  by_cases hg : greatD n m = true
  · exact walk_guard a n c b m d l q D p u w s (.inl hg)
  · have hg' : greatD n m = false := by simpa using hg
    by_cases hok : okD D = true
    · by_cases hl : l = -1
      · by_cases hr : m ≤ 40 ∧ 0 ≤ p ∧ p < n
        · have hL : D.left = -1 := by rw [s.left, hl]
          have hq : q = false := by
            have h3 := (ok_parts hok).1.2.2.2
            cases hq : q
            · rfl
            · exact absurd (h3 (s.down.trans hq)) (by omega)
          subst hl hq
          have hd := s.down
          have hdl := (ok_parts hok).2
          have e1 := stored_calm hL p u
          have e2 := flushed_calm hL p
          have e3 := Dv.fenced_calm hL
          refine walk_main a n c b m d D p u w s hok hL ⟨hr.2.1, hr.2.2⟩ hu hg' hr.1 _ _ _ (Lib.hid rfl) (Lib.hid rfl) (Lib.hid rfl) (Lib.hid ?_) (Lib.hid ?_) (Lib.hid ?_) (Lib.hid ?_) (Lib.hid ?_) (Lib.hid ?_) (Lib.hid ?_) (Lib.hid ?_) (Lib.hid ?_)
          · rw [e1]; exact hd
          · rw [e2]; exact hd
          · rw [e3]; exact hd
          · rw [e1]
          · rw [e2]
          · intro i hi h he
            rw [e3]
            exact fence_hit (p := (i : Int)) (by omega) hdl (by omega) (by omega) h he
          · intro i hi h
            rw [e3]
            have hh : hasN (i : Int) D.dl = false := by
              cases hh : hasN (i : Int) D.dl
              · rfl
              · obtain ⟨h1, -, h2⟩ := Ca.has_at hh
                exact absurd ⟨h1, h2⟩ h
            exact fence_miss (p := (i : Int)) (by omega) hdl (by omega) hh
          · intro i
            have e := low_next (t := (i : Int)) hdl
            refine ⟨fun ⟨h1, h2⟩ => ?_, fun h => ?_⟩
            · rw [has_of h1 h2, if_pos rfl] at e
              exact e
            · have hh : hasN (i : Int) D.dl = false := by
                cases hh : hasN (i : Int) D.dl
                · rfl
                · obtain ⟨h1, -, h2⟩ := Ca.has_at hh
                  exact absurd ⟨h1, h2⟩ h
              rw [hh, if_neg (by decide)] at e
              exact e
          · have h0 := okDl_mono hdl (Int.le_refl _)
            have := low_behind (t := -1) h0
            exact this
        · exact walk_guard a n c b m d l q D p u w s (by simp only [hg', hok, hl]; simp; omega)
      · exact walk_guard a n c b m d l q D p u w s (.inr (.inr (.inl ⟨hg', hok, hl⟩)))
    · exact walk_guard a n c b m d l q D p u w s (.inr (.inl ⟨hg', by simpa using hok⟩))

/-! The row's step. -/
set_option maxRecDepth 100000 in
theorem lifted (os : Os) (started : os.Started) (H : Type) (enc : TypeId × Value → H) :
    ReturnsInHanded {} Try.checked os 7 .any (Rows.cacheImageSpec.pre6 enc Try.prog Try.f7 Rows.cacheImageRow.domain false) (Rows.cacheImageSpec.post enc Try.prog Try.f7 false true false false) := by
  refine returnsInHanded_of_change_sized (C := Try.checked) St.own started (by kernel_rfl) Try.func7
    (ChangeSpec.witness6 (enc := enc) (C := Try.checked) false ⟨#[], #[.agg #[.slice .none 0 0, .slice .none 0 0, .int .i64 0, .bool false], .int .i64 0, .int .u64 0], []⟩ 8 (by kernel_rfl) (by kernel_rfl) (by kernel_rfl) (by kernel_rfl)) ?_
  intro W base args ds gs before hval0 hW hcnd hsz0 _
  have hsz : (DataW.weightsEach Try.prog (Try.f7.params.toList ++ Rows.cacheImageSpec.plain.varTypes Try.prog) (ds ++ gs)).all (· ≤ reachBytes) = true := hsz0
  have hval : ∀ (j : Nat) t v, Try.f7.params[j]? = some t → args[j]? = some v → Value.okWide Try.prog W .any base t v := hval0
  have hW' := hW
  obtain ⟨p, q, hA0, hV, rfl, hfz, hnd⟩ := hW
  have hA : DataW.TrodAll enc Try.prog W 0 (fun _ => true) true Try.f7.params.toList args.toList ds p := hA0
  rw [Try.params7] at hA hval hsz
  obtain ⟨v0, vs0, d0, ds0, p0, q0, hargs, rfl, rfl, h0, r0⟩ := trodAll_cons hA
  obtain ⟨v1, vs1, d1, ds1, p1, q1, rfl, rfl, rfl, h1, r1⟩ := trodAll_cons r0
  obtain ⟨v2, vs2, d2, ds2, p2, q2, rfl, rfl, rfl, h2, r2⟩ := trodAll_cons r1
  obtain ⟨rfl, rfl, rfl⟩ := trodAll_nil r2
  obtain rfl : args = #[v0, v1, v2] := by cases args; simp_all
  obtain ⟨a0, n0, c0, b0, m0, e0, l0, b0', D0, rfl, s0⟩ := Dv.open_dev (hval 0 25 v0 rfl rfl) h0 (fun n hn => by
    have := List.all_eq_true.1 hsz _ (DataW.weights_mem_each (j := 0) (t := 25) rfl rfl n hn)
    exact of_decide_eq_true this)
  obtain ⟨a1, rfl, rfl, rfl, w1⟩ := open_int Try.underlying3 (hval 1 3 v1 rfl rfl) h1
  obtain ⟨a2, rfl, rfl, rfl, w2⟩ := open_int Try.underlying26 (hval 2 26 v2 rfl rfl) h2
  refine (walk a0 n0 c0 b0 m0 e0 l0 b0' D0 a1 a2 (St.i64_of_wf w1) (St.u64_of_wf w2) W s0).mono fun e W' ⟨he, hb⟩ => ?_
  subst he
  exact St.law_done St.laid (by kernel_rfl) rfl rfl Try.underlying4 rfl hW' hb

theorem over : Rows.cacheImageRow.holds Try.pinned (OpenSpec.ofChange Rows.cacheImageSpec) :=
  OpenClaim.holds_of_wide 7 Try.f7 rfl rfl rfl rfl rfl rfl rfl ⟨rfl, rfl, rfl, rfl, rfl⟩ rfl rfl rfl rfl rfl (by kernel_rfl) Try.func7 (by kernel_rfl)
    (of_decide_eq_true (by kernel_rfl)) (by unfold Func.isWrapper; first | (rw [if_pos (by decide +kernel)]; kernel_rfl) | (rw [if_neg (by decide +kernel)]; exact ⟨rfl, rfl⟩))
    (fun os started H enc _ => lifted os started H enc)
theorem proved : Rows.CacheImageSaid := over
#print axioms proved
end Go.Proofs.Ytekgjnbijopieaa.cacheImage

