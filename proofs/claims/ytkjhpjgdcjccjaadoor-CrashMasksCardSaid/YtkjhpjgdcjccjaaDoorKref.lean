/-
  Contracts of the reference of package crash: Keeps, Arm, Crashed, Crash, Chosen.
-/
import Derived.Test.YtkjhpjgdcjccjaaDoorCrefb
import Derived.Test.YtkjhpjgdcjccjaaDoorCrp
import Derived.Test.YtkjhpjgdcjccjaaDoorRecb
import Derived.Test.YtkjhpjgdcjccjaaDoorIrefd
import Derived.LoopN
import Derived.Handy
import Derived.IntWalk
namespace Go.Proofs.YtkjhpjgdcjccjaaDoor.Kr
open Go.RowKit Go.Proofs.YtkjhpjgdcjccjaaDoor.Sl Go.Proofs.YtkjhpjgdcjccjaaDoor.St Go.Proofs.YtkjhpjgdcjccjaaDoor.Ir Go.Proofs.YtkjhpjgdcjccjaaDoor.Dv Go.Proofs.YtkjhpjgdcjccjaaDoor.Cr Go.Proofs.YtkjhpjgdcjccjaaDoor.Cp
set_option maxRecDepth 100000
set_option maxHeartbeats 1000000

def halfI (A k : Nat) : Int := ((A / 2 ^ k : Nat) : Int)
theorem halfI_bd (A k : Nat) (h : A < 18446744073709551616) : 0 ≤ halfI A k ∧ halfI A k < 18446744073709551616 := by
  unfold halfI
  have := Nat.div_le_self A (2 ^ k)
  generalize A / 2 ^ k = q at *
  omega
theorem halfI_succ (A k : Nat) : halfI A k / 2 = halfI A (k + 1) := by
  unfold halfI
  rw [Nat.pow_succ, ← Nat.div_div_eq_div_mul]
  omega
theorem halfI_zero (A : Nat) : halfI A 0 = (A : Int) := by simp [halfI]
theorem keep_half (A i : Nat) : (halfI A (i % 64) % 2 == 1) = keep (A : Int) i := by
  unfold keep halfI
  rw [Int.toNat_natCast]
  generalize A / 2 ^ (i % 64) = q
  by_cases h : q % 2 = 1
  · rw [decide_eq_true h, beq_iff_eq]
    omega
  · rw [decide_eq_false h, beq_eq_false_iff_ne]
    omega
theorem ret_bool {a b : Bool} (h : a = b) : Ending.returned (.bool a) = .returned (.bool b) := by rw [h]
theorem keeps_any (M : Int) (i : Nat) (w : World) (hM : 0 ≤ M ∧ M < 18446744073709551616) (hi : i ≤ 17592186044416) :
    Calls Tryd.prog 35 #[.int .u64 M, .int .i64 i] w fun e w' => e = .returned (.bool (keep M i)) ∧ w = w' := by
  obtain ⟨A, rfl⟩ := Int.eq_ofNat_of_zero_le hM.1
  have hA : A < 18446744073709551616 := by omega
  have hr : i % 64 < 64 := Nat.mod_lt _ (by decide)
  have hm : (i : Int).tmod 64 = ((i % 64 : Nat) : Int) := by
    rw [Int.tmod_eq_emod_of_nonneg (by omega)]
    omega
  have HE := Lib.hid (keep_half A i)
  clear hM
  go_enter Tryd.func35, Tryd.ntmps35
  go_wp2
  go_loop [0, 5] (fun x y => ∃ k : Nat, k ≤ i % 64 ∧ y = .int .i64 k ∧ x = .int .u64 (halfI A k)) (fun _ y => i % 64 - (intOf y).toNat)
  case atStart => exact ⟨0, Nat.zero_le _, rfl, by rw [halfI_zero]⟩
  case round =>
    obtain ⟨k, hk, rfl, rfl⟩ := hrel
    have hb := halfI_bd A k hA
    by_cases hlt : k < i % 64
    · go_wp2
      go_round
      case rel => exact ⟨k + 1, by omega, by go_num, by rw [halfI_succ]⟩
      case measure => simp [intOf]; omega
    · have hki : k = i % 64 := by omega
      subst hki
      go_wp2
      go_ret
      exact ⟨ret_bool HE.out, rfl⟩

theorem rarm_any (a : Option Addr) (n c : Nat) (b : Option Addr) (m d : Nat) (l : Int) (q : Bool) (D : Dev) (t : Int) (w : World) (va : SeesD w a n c b m d l q D) (ht : -9223372036854775808 ≤ t ∧ t ≤ 9223372036854775807) :
    Calls Tryd.prog 17 #[dev a n c b m d l q, .int .i64 t] w fun e w' => ∃ v, e = .returned (.tuple #[v, .int .i64 (armE D t)]) ∧ MadeD w (armR D t) v w' := by
  have B2 : Below w.heap.size w ((w.alloc (box a n c b m d l q)).alloc zbox) := below_new (below_new (Below.refl _ _))
  have X1 := (Box.new w #[.slice a n c, .slice b m d, .int .i64 l, .bool q] 25).alloc zbox
  have X2 := Box.new1 w (box a n c b m d l q) #[.slice none 0 0, .slice none 0 0, .int .i64 0, .bool false] 25
  by_cases h : okD D = true
  · have hb : (chk D != 0) = false := by rw [chk_ok h]; rfl
    rcases (show (Num t) ∨ t < -1 ∨ (-1 ≤ t ∧ 1000000 < t) from by unfold Num; omega) with h1 | h1 | h1
    · have HE := Lib.hid (show armE D t = 0 from by unfold armE; rw [if_pos h, if_pos h1])
      have HR := Lib.hid (show armR D t = ⟨D.im, D.dl, t, false⟩ from by unfold armR; rw [if_pos ⟨h, h1⟩]; rfl)
      obtain ⟨h2, h3⟩ := h1
      clear h
      go_enter Tryd.func17, Tryd.ntmps17
      go_wp2_with fail
      refine (rchk_any _ _ _ _ _ _ _ _ D _ (va.keep B2)).mono ?_
      rintro e w2 ⟨rfl, o, j, rfl⟩
      have b2 := below_drewN (below_new (o := o) (Below.refl ((w.alloc (box a n c b m d l q)).alloc zbox).heap.size ((w.alloc (box a n c b m d l q)).alloc zbox))) j
      have s1 := (X1.keep b2).lt
      have C2 := below_then B2 b2
      go_wp2_with fail
      refine (rtwin_any _ _ _ _ _ _ _ _ D _ (va.keep C2)).mono ?_
      rintro e w3 ⟨v3, rfl, M3⟩
      have C3 := below_then C2 M3.below
      have Y2 := (X2.keep b2).keep M3.below
      have t2 := Y2.lt
      obtain ⟨⟨y0, y1, y2, y3⟩, g0, g1, g2, g3⟩ := Y2.open4
      obtain ⟨a3, c3, b3, d3, rfl, O1, O2⟩ := M3.lay
      have P1 := owns_mono O1 (show w.heap.size + 2 ≤ _ by simp)
      have P2 := owns_mono O2 (show w.heap.size + 2 ≤ _ by simp)
      clear O1 O2 M3
      go_wp2
      refine bodyPost_ret (by simp [results, Tryd.results17, go_sem, t2, y0, y1, y2, y3]; try rfl) rfl ?_
      rw [HE.out, HR.out]
      refine ⟨_, rfl, MadeD.mk (w.heap.size + 2) ?_ (by omega) (owns_mid P1 (Nat.le_refl _) ?_ (Nat.le_refl _)) (owns_mid P2 (Nat.le_refl _) ?_ (Nat.le_refl _)) rfl rfl⟩
      · repeat' (first | with_reducible exact C3 | (with_reducible refine Below.setCell ?_ (by simp) _) | (with_reducible refine Below.setCell ?_ (by simp; omega) _) | (with_reducible refine below_new ?_))
      · repeat' (first | with_reducible exact Mid.refl _ _ | (with_reducible refine Mid.set ?_ (by left; simp) _) | (with_reducible refine Mid.set ?_ (by right; simp) _) | (with_reducible refine Mid.alloc ?_ _))
      · repeat' (first | with_reducible exact Mid.refl _ _ | (with_reducible refine Mid.set ?_ (by left; simp) _) | (with_reducible refine Mid.set ?_ (by right; simp) _) | (with_reducible refine Mid.alloc ?_ _))
    all_goals
      have HE := Lib.hid (show armE D t = 2 from by unfold armE; rw [if_pos h, if_neg (by unfold Num; omega)])
      have HR := Lib.hid (show armR D t = zdev from by unfold armR; rw [if_neg (by unfold Num; omega)])
      clear h
      go_enter Tryd.func17, Tryd.ntmps17
      go_wp2_with fail
      refine (rchk_any _ _ _ _ _ _ _ _ D _ (va.keep B2)).mono ?_
      rintro e w2 ⟨rfl, o, j, rfl⟩
      have b2 := below_drewN (below_new (o := o) (Below.refl ((w.alloc (box a n c b m d l q)).alloc zbox).heap.size ((w.alloc (box a n c b m d l q)).alloc zbox))) j
      have C2 := below_then B2 b2
      have Y2 := X2.keep b2
      have t2 := Y2.lt
      obtain ⟨⟨y0, y1, y2, y3⟩, g0, g1, g2, g3⟩ := Y2.open4
      go_wp2_with fail
      all_goals first | (exfalso; omega) | skip
      refine bodyPost_ret (by simp [results, Tryd.results17, go_sem, y0, y1, y2, y3]; try rfl) rfl ?_
      rw [HE.out, HR.out]
      refine ⟨_, rfl, MadeD.zero ?_⟩
      repeat' (first | with_reducible exact C2 | (with_reducible refine Below.setCell ?_ (by simp) _))
  · have hb : (chk D != 0) = true := by rw [chk_bad h]; rfl
    have HE := Lib.hid (show armE D t = 8 from by unfold armE; rw [if_neg h])
    have HR := Lib.hid (show armR D t = zdev from by unfold armR; rw [if_neg (fun h' => h h'.1)])
    clear h
    go_enter Tryd.func17, Tryd.ntmps17
    go_wp2_with fail
    refine (rchk_any _ _ _ _ _ _ _ _ D _ (va.keep B2)).mono ?_
    rintro e w2 ⟨rfl, o, j, rfl⟩
    have b2 := below_drewN (below_new (o := o) (Below.refl ((w.alloc (box a n c b m d l q)).alloc zbox).heap.size ((w.alloc (box a n c b m d l q)).alloc zbox))) j
    have C2 := below_then B2 b2
    have Y2 := X2.keep b2
    have t2 := Y2.lt
    obtain ⟨⟨y0, y1, y2, y3⟩, g0, g1, g2, g3⟩ := Y2.open4
    go_wp2_with fail
    refine bodyPost_ret (by simp [results, Tryd.results17, go_sem, y0, y1, y2, y3]; try rfl) rfl ?_
    rw [HE.out, HR.out]
    refine ⟨_, rfl, MadeD.zero ?_⟩
    repeat' (first | with_reducible exact C2 | (with_reducible refine Below.setCell ?_ (by simp) _))

/-- What lies beside each other while kept words are put into the image. -/
structure Fq (w w3 wr : World) (cs : Array Value) (g N c : Nat) (zs : List Int) (vb : Value) (L : Int) (Q : Bool) : Prop where
  below : Below w.heap.size w wr
  arg : Box wr w.heap.size cs 25
  res : Box wr (w.heap.size + 1) #[.slice none 0 0, .slice none 0 0, .int .i64 0, .bool false] 25
  var : Box wr w3.heap.size #[.slice (some ⟨g, 0, none⟩) N c, vb, .int .i64 L, .bool Q] 25
  im : wr.ownsRow (w.heap.size + 2) 30 1 (.slice (some ⟨g, 0, none⟩) N c) N (zs.map (Value.int .u64))
  lo : w.heap.size + 2 ≤ g
  hi : g < w3.heap.size
theorem Fq.put {w w3 wr : World} {cs : Array Value} {g N c : Nat} {zs : List Int} {vb : Value} {L : Int} {Q : Bool} (h : Fq w w3 wr cs g N c zs vb L Q) (i : Nat) (x : Int) :
    Fq w w3 (wr.setCell ⟨g, i, none⟩ (.int .u64 x)).drew cs g N c (zs.set i x) vb L Q := by
  have h1 := h.lo
  have h2 := h.hi
  refine ⟨(h.below.setCell (by show _ ≤ g; omega) _).drew, (h.arg.other (a := ⟨g, i, none⟩) (by show _ ≠ g; omega) _).drew, (h.res.other (a := ⟨g, i, none⟩) (by show _ ≠ g; omega) _).drew, (h.var.other (a := ⟨g, i, none⟩) (by show _ ≠ g; omega) _).drew, ?_, h1, h2⟩
  have h3 := (h.im.stored i (.int .u64 x)).1
  rw [← List.map_set] at h3
  exact h3.drew
theorem rcrashed_any (a : Option Addr) (n c : Nat) (b : Option Addr) (m d : Nat) (l : Int) (q : Bool) (D : Dev) (M : Int) (w : World) (va : SeesD w a n c b m d l q D) (hM : 0 ≤ M ∧ M < 18446744073709551616) (hok : okD D = true) :
    Calls Tryd.prog 34 #[dev a n c b m d l q, .int .u64 M] w fun e w' => ∃ v, e = .returned v ∧ MadeD w (crashD D M) v w' := by
  obtain ⟨⟨⟨h0, h1, -⟩, -⟩, hok⟩ := ok_parts hok
  have hll := va.dl.len
  have hml := okDl_len hok (by omega)
  have hm : m ≤ 2048 := by omega
  clear hml
  have B2 : Below w.heap.size w ((w.alloc (box a n c b m d l q)).alloc zbox) := below_new (below_new (Below.refl _ _))
  have X1 := (Box.new w #[.slice a n c, .slice b m d, .int .i64 l, .bool q] 25).alloc zbox
  have X2 := Box.new1 w (box a n c b m d l q) #[.slice none 0 0, .slice none 0 0, .int .i64 0, .bool false] 25
  go_enter Tryd.func34, Tryd.ntmps34
  go_wp2_with fail
  refine (rtwin_any _ _ _ _ _ _ _ _ D _ (va.keep B2)).mono ?_
  rintro e w3 ⟨v3, rfl, M3⟩
  have C3 := below_then B2 M3.below
  have t1 := (X1.keep M3.below).lt
  have t2 := (X2.keep M3.below).lt
  have Y1 := X1.keep M3.below
  have Y2 := X2.keep M3.below
  obtain ⟨⟨x0, x1, x2, x3⟩, f0, f1, f2, f3⟩ := Y1.open4
  obtain ⟨⟨y0, y1, y2, y3⟩, g0, g1, g2, g3⟩ := Y2.open4
  obtain ⟨a3, c3, b3, d3, rfl, O1, O2⟩ := M3.lay
  have P1 := owns_mono O1 (show w.heap.size + 2 ≤ _ by simp)
  clear X1 X2 O1 O2 M3 B2
  obtain ⟨g, rfl, hg1, hg2⟩ := owns_at0 P1 (by omega)
  generalize hNI : D.im.length = NI at P1 hok ⊢
  have HOK := Lib.hid hok
  have hNI2 : 256 ≤ NI ∧ NI ≤ 2048 := by omega
  replace hNI := Lib.hid hNI
  clear hok h0 h1
  go_wp2_with fail
  go_loopw [6] (fun i wr => ∃ (k : Nat) (zs : List Int), k ≤ m ∧ i = .int .i64 k ∧ Hid (zs.length = NI) ∧ Hid (crashL M D.im D.dl k = zs) ∧
    Fq w w3 wr #[.slice a n c, .slice b m d, .int .i64 l, .bool q] g NI c3 zs (.slice b3 m d3) D.left D.down) (fun i _ => m - (intOf i).toNat)
  case atStart => exact ⟨0, D.im, Nat.zero_le _, rfl, hNI, Lib.hid rfl, below_new C3, Y1.alloc _, Y2.alloc _, Box.new _ _ _, P1.alloc _, hg1, hg2⟩
  case round =>
    obtain ⟨k, zs, hk, rfl, hzl, hZ, F⟩ := hrel
    have s1 := F.arg.lt
    have s2 := F.res.lt
    have s3 := F.var.lt
    clear x0 x1 x2 x3 f0 f1 f2 f3 y0 y1 y2 y3 g0 g1 g2 g3
    obtain ⟨⟨x0, x1, x2, x3⟩, f0, f1, f2, f3⟩ := F.arg.open4
    obtain ⟨⟨y0, y1, y2, y3⟩, g0, g1, g2, g3⟩ := F.res.open4
    obtain ⟨⟨z0, z1, z2, z3⟩, k0, k1, k2, k3⟩ := F.var.open4
    by_cases hlt : k < m
    · obtain ⟨b0, o0, rfl⟩ := va.dl.lies (by omega)
      have hlt' : k < D.dl.length := by omega
      obtain ⟨c1, c2, c4⟩ := dw_at (va.dl.keep F.below) k hlt'
      have hpk := okDl_at HOK.out hlt'
      cases hkp : keep M k
      · have HZ := Lib.hid ((crashL_no (zs := D.im) (dl := D.dl) hkp).trans hZ.out)
        clear hZ
        go_wp2_with fail
        refine (keeps_any M k _ hM (by omega)).mono ?_
        rintro e w4 ⟨rfl, rfl⟩
        rw [hkp]
        go_wp2_with fail
        go_roundw
        case rel => exact ⟨k + 1, zs, by omega, by go_num, hzl, HZ, F⟩
        case measure => simp [intOf]; omega
      · have HZ := Lib.hid ((crashL_yes (zs := D.im) hkp hlt').trans (by rw [hZ.out]))
        clear hZ
        generalize D.dl[k] = X at c1 c2 c4 hpk HZ
        have e1 : wr.cell? ⟨g, X.p.toNat, none⟩ = some (.int .u64 (zs.getD X.p.toNat 0)) := by
          rw [F.im.cellAt X.p.toNat (by omega), List.getElem?_map, List.getD_eq_getElem?_getD, List.getElem?_eq_getElem (by rw [hzl.out]; omega)]
          rfl
        have e2 := F.im.frozenAt X.p.toNat
        have F' := F.put X.p.toNat X.v
        have hz' := Lib.hid (show (zs.set X.p.toNat X.v).length = NI from by rw [List.length_set]; exact hzl.out)
        go_wp2_with fail
        refine (keeps_any M k _ hM (by omega)).mono ?_
        rintro e w4 ⟨rfl, rfl⟩
        rw [hkp]
        go_wp2_with fail
        go_region
        all_goals
          go_wp2
          go_roundw
          case rel => exact ⟨k + 1, _, by omega, by go_num, hz', HZ, F'⟩
          case measure => simp [intOf]; omega
    · obtain rfl : k = m := by omega
      have HF := Lib.hid (show crashD D M = ⟨zs, [], -1, false⟩ from by unfold crashD; rw [hll, hZ.out])
      clear hZ
      go_wp2
      refine bodyPost_ret (by simp [results, Tryd.results34, go_sem, y0, y1, y2, y3]; try rfl) rfl ?_
      rw [HF.out]
      have hz := hzl.out
      subst hz
      refine ⟨_, rfl, MadeD.mk (w.heap.size + 2) ?_ (by omega) (owns_mid F.im (Nat.le_refl _) ?_ (Nat.le_refl _)) (World.ownsRow_nil _ _ _ _) rfl rfl⟩
      · repeat' (first | with_reducible exact F.below | (with_reducible refine Below.setCell ?_ (by simp) _))
      · repeat' (first | with_reducible exact Mid.refl _ _ | (with_reducible refine Mid.set ?_ (by left; simp) _))
theorem rcrash_any (a : Option Addr) (n c : Nat) (b : Option Addr) (m d : Nat) (l : Int) (q : Bool) (D : Dev) (M : Int) (w : World) (va : SeesD w a n c b m d l q D) (hM : 0 ≤ M ∧ M < 18446744073709551616) :
    Calls Tryd.prog 18 #[dev a n c b m d l q, .int .u64 M] w fun e w' => ∃ v, e = .returned (.tuple #[v, .int .i64 (chk D)]) ∧ MadeD w (crashR D M) v w' := by
  have B2 : Below w.heap.size w ((w.alloc (box a n c b m d l q)).alloc zbox) := below_new (below_new (Below.refl _ _))
  have X1 := (Box.new w #[.slice a n c, .slice b m d, .int .i64 l, .bool q] 25).alloc zbox
  have X2 := Box.new1 w (box a n c b m d l q) #[.slice none 0 0, .slice none 0 0, .int .i64 0, .bool false] 25
  by_cases h : okD D = true
  · have HS := Lib.hid (show crashR D M = crashD D M from by unfold crashR; rw [if_pos h])
    have hb : (chk D != 0) = false := by rw [chk_ok h]; rfl
    have HC := Lib.hid (chk_ok h)
    have HOK := Lib.hid h
    clear h
    go_enter Tryd.func18, Tryd.ntmps18
    go_wp2_with fail
    refine (rchk_any _ _ _ _ _ _ _ _ D _ (va.keep B2)).mono ?_
    rintro e w2 ⟨rfl, o, j, rfl⟩
    have b2 := below_drewN (below_new (o := o) (Below.refl ((w.alloc (box a n c b m d l q)).alloc zbox).heap.size ((w.alloc (box a n c b m d l q)).alloc zbox))) j
    have s1 := (X1.keep b2).lt
    have s2 := (X2.keep b2).lt
    have C2 := below_then B2 b2
    go_wp2_with fail
    refine (rcrashed_any _ _ _ _ _ _ _ _ D M _ (va.keep C2) hM HOK.out).mono ?_
    rintro e w3 ⟨v3, rfl, M3⟩
    have C3 := below_then C2 M3.below
    have t2 := ((X2.keep b2).keep M3.below).lt
    obtain ⟨⟨y0, y1, y2, y3⟩, g0, g1, g2, g3⟩ := ((X2.keep b2).keep M3.below).open4
    obtain ⟨a3, c3, b3, d3, rfl, O1, O2⟩ := M3.lay
    have P1 := owns_mono O1 (show w.heap.size + 2 ≤ _ by omega)
    have P2 := owns_mono O2 (show w.heap.size + 2 ≤ _ by omega)
    clear O1 O2 M3
    go_wp2
    refine bodyPost_ret (by simp [results, Tryd.results18, go_sem, y0, y1, y2, y3]; try rfl) rfl ?_
    rw [HC.out, HS.out]
    refine ⟨_, rfl, MadeD.mk (w.heap.size + 2) ?_ (by omega) (owns_mid P1 (Nat.le_refl _) ?_ (Nat.le_refl _)) (owns_mid P2 (Nat.le_refl _) ?_ (Nat.le_refl _)) rfl rfl⟩
    · repeat' (first | with_reducible exact C3 | (with_reducible refine Below.setCell ?_ (by simp) _))
    · repeat' (first | with_reducible exact Mid.refl _ _ | (with_reducible refine Mid.set ?_ (by left; simp) _))
    · repeat' (first | with_reducible exact Mid.refl _ _ | (with_reducible refine Mid.set ?_ (by left; simp) _))
  · have HS := Lib.hid (show crashR D M = zdev from by unfold crashR; rw [if_neg h])
    have hb : (chk D != 0) = true := by rw [chk_bad h]; rfl
    have HC := Lib.hid (chk_bad h)
    clear h
    go_enter Tryd.func18, Tryd.ntmps18
    go_wp2_with fail
    refine (rchk_any _ _ _ _ _ _ _ _ D _ (va.keep B2)).mono ?_
    rintro e w2 ⟨rfl, o, j, rfl⟩
    have b2 := below_drewN (below_new (o := o) (Below.refl ((w.alloc (box a n c b m d l q)).alloc zbox).heap.size ((w.alloc (box a n c b m d l q)).alloc zbox))) j
    have C2 := below_then B2 b2
    have s2 := (X2.keep b2).lt
    obtain ⟨⟨y0, y1, y2, y3⟩, g0, g1, g2, g3⟩ := (X2.keep b2).open4
    go_wp2
    refine bodyPost_ret (by simp [results, Tryd.results18, go_sem, y0, y1, y2, y3]; try rfl) rfl ?_
    rw [HC.out, HS.out]
    refine ⟨_, rfl, MadeD.zero ?_⟩
    repeat' (first | with_reducible exact C2 | (with_reducible refine Below.setCell ?_ (by simp) _))
theorem rchosen_any (a : Option Addr) (n c : Nat) (b : Option Addr) (m d : Nat) (l : Int) (q : Bool) (D : Dev) (M : Int) (w : World) (va : SeesD w a n c b m d l q D) (hM : 0 ≤ M ∧ M < 18446744073709551616) :
    Calls Tryd.prog 19 #[dev a n c b m d l q, .int .u64 M] w (GivesPair .i64 3 w (chosR D M) (chk D)) := by
  have B1 : Below w.heap.size w (w.alloc (box a n c b m d l q)) := below_new (Below.refl _ _)
  have X1 := Box.new w #[.slice a n c, .slice b m d, .int .i64 l, .bool q] 25
  have hll := va.dl.len
  have hmt := va.dl.short
  by_cases h : okD D = true
  · have hb : (chk D != 0) = false := by rw [chk_ok h]; rfl
    have HC := Lib.hid (chk_ok h)
    have HV := Lib.hid (show chosen M m = chosR D M from by unfold chosR; rw [if_pos h, hll])
    clear h
    go_enter Tryd.func19, Tryd.ntmps19
    go_wp2_with fail
    refine (rchk_any _ _ _ _ _ _ _ _ D _ (va.keep B1)).mono ?_
    rintro e w2 ⟨rfl, o, j, rfl⟩
    have b2 := below_drewN (below_new (o := o) (Below.refl (w.alloc (box a n c b m d l q)).heap.size (w.alloc (box a n c b m d l q)))) j
    have X2 := X1.keep b2
    have B2 := below_then B1 b2
    clear X1 B1
    generalize ((w.alloc (box a n c b m d l q)).alloc o).drewN j = w2 at b2 X2 B2 ⊢
    have s1 := X2.lt
    go_wp2_with fail
    go_loopw [6, 7] (fun v i wr => ∃ k : Nat, k ≤ m ∧ i = .int .i64 k ∧ Grows .i64 3 w2 wr v (chosen M k)) (fun _ i _ => m - (intOf i).toNat)
    case atStart => exact ⟨0, Nat.zero_le _, rfl, Grows.nil _ _ _⟩
    case round =>
      obtain ⟨k, hk, rfl, G⟩ := hrel
      have X3 := X2.keep G.below
      have s3 := X3.lt
      obtain ⟨⟨x0, x1, x2, x3⟩, f0, f1, f2, f3⟩ := X3.open4
      by_cases hlt : k < m
      · have hcl := chosen_len M k
        cases hkp : keep M k
        · have HE := Lib.hid (chosen_no hkp)
          go_wp2_with fail
          refine (keeps_any M k _ hM (by omega)).mono ?_
          rintro e w4 ⟨rfl, rfl⟩
          rw [hkp]
          go_wp2_with fail
          go_roundw
          case rel => exact ⟨k + 1, by omega, by go_num, by rw [HE.out]; exact G⟩
          case measure => simp [intOf]; omega
        · have HE := Lib.hid (chosen_yes hkp)
          have wk : (Lit.int .i64 (k : Int)).wf = true := WalkArith.wf_i64 (by omega)
          go_wp2_with fail
          refine (keeps_any M k _ hM (by omega)).mono ?_
          rintro e w4 ⟨rfl, rfl⟩
          rw [hkp]
          go_wp2_with (at_builtin; refine wp_append rfl (.tmp 21) (.tmp 23) 31 rfl .i64 3 Tryd.underlying31 info_int w2 _ (chosen M k) rfl (G.keep (below_new (Below.refl _ _))) _ 1 1 [(k : Int)] rfl (sees_one wr .i64 3 (k : Int) wk) (by omega) ?_)
          intro v1 w1 G1
          go_wp2
          go_roundw
          case rel => exact ⟨k + 1, by omega, by go_num, by rw [HE.out]; exact G1⟩
          case measure => simp [intOf]; omega
      · obtain rfl : k = m := by omega
        go_wp2_with fail
        go_ret2
        rw [HC.out]
        exact gives_pair (G.past B2) HV.out
  · have hb : (chk D != 0) = true := by rw [chk_bad h]; rfl
    have HC := Lib.hid (chk_bad h)
    have HV := Lib.hid (show [] = chosR D M from by unfold chosR; rw [if_neg h])
    clear h
    go_enter Tryd.func19, Tryd.ntmps19
    go_wp2_with fail
    refine (rchk_any _ _ _ _ _ _ _ _ D _ (va.keep B1)).mono ?_
    rintro e w2 ⟨rfl, o, j, rfl⟩
    have B2 := below_drewN (below_new (o := o) B1) j
    go_wp2
    go_ret2
    rw [HC.out]
    exact gives_pair ((Grows.nil .i64 3 _).past B2) HV.out
end Go.Proofs.YtkjhpjgdcjccjaaDoor.Kr
