/-
  Contracts of package crash: what a mask leaves of a dirty word (a function that is made and called), Chosen, Crash, Arm. The variable for a lost word reads as its initialiser lays it: Lost.
-/
import Derived.Test.YtkjhpjgdcjccjaaDoorChk
import Derived.Test.YtkjhpjgdcjccjaaDoorClone
import Derived.Test.YtkjhpjgdcjccjaaDoorCrefd
import Derived.Test.YtkjhpjgdcjccjaaDoorCrp
import Derived.Test.YtkjhpjgdcjccjaaDoorRecb
import Derived.Test.YtkjhpjgdcjccjaaDoorIrefd
import Derived.Handy
import Derived.Deep.RegionLaw
namespace Go.Proofs.YtkjhpjgdcjccjaaDoor.Kp
open Go.RowKit Go.Proofs.YtkjhpjgdcjccjaaDoor.Sl Go.Proofs.YtkjhpjgdcjccjaaDoor.St Go.Proofs.YtkjhpjgdcjccjaaDoor.Ir Go.Proofs.YtkjhpjgdcjccjaaDoor.Dv Go.Proofs.YtkjhpjgdcjccjaaDoor.Cr Go.Proofs.YtkjhpjgdcjccjaaDoor.Cp Go.Proofs.YtkjhpjgdcjccjaaDoor.Ca
set_option maxRecDepth 100000
set_option maxHeartbeats 4000000

/-- The variable for a lost word reads as it is laid. -/
structure Lost (w : World) : Prop where
  c0 : w.cell? ⟨0, 0, none⟩ = some (.int .i64 (-1))
  c1 : w.cell? ⟨0, 1, none⟩ = some (.int .u64 0)
  c2 : w.cell? ⟨0, 2, none⟩ = some (.bool false)
theorem Lost.keep {w w' : World} (h : Lost w) (hb : Below w.heap.size w w') : Lost w' := by
  have hk : ∀ o v, w.cell? ⟨0, o, none⟩ = some v → w'.cell? ⟨0, o, none⟩ = some v := fun o v hv => by
    rw [hb.cell (p := ⟨0, o, none⟩) (World.block_lt_of_cell? w _ hv)]
    exact hv
  exact ⟨hk _ _ h.c0, hk _ _ h.c1, hk _ _ h.c2⟩
/-- What a mask leaves of a dirty word. -/
def left (M : Int) (xs : List Dw) (i : Nat) : Dw := if keep M i = true then xs.getD i default else ⟨-1, 0, false⟩
theorem left_no {M : Int} {xs : List Dw} {i : Nat} (h : keep M i = false) : left M xs i = ⟨-1, 0, false⟩ := by unfold left; rw [if_neg (by rw [h]; decide)]
theorem left_yes {M : Int} {xs : List Dw} {i : Nat} (h : keep M i = true) (hi : i < xs.length) : left M xs i = xs[i] := by
  unfold left
  rw [if_pos h, List.getD_eq_getElem?_getD, List.getElem?_eq_getElem hi]
  rfl
theorem bit_eq (A i : Nat) (hA : A < 18446744073709551616) : (bits .and .u64 ((A : Int) / 2 ^ (i % 64)) 1 == 0) = !keep (A : Int) i := by
  have e0 : (A : Int) / 2 ^ (i % 64) = ((A / 2 ^ (i % 64) : Nat) : Int) := by simp
  rw [e0]
  clear e0
  have h1 := Nat.div_le_self A (2 ^ (i % 64))
  unfold keep
  rw [Int.toNat_natCast]
  generalize A / 2 ^ (i % 64) = q at h1
  rw [u64_and _ _ (by omega) (by omega) (by omega) (by omega), Int.toNat_natCast]
  have e : q &&& (1 : Int).toNat = q % 2 := Nat.and_two_pow_sub_one_eq_mod q 1
  rw [e]
  by_cases h : q % 2 = 1
  · rw [decide_eq_true h, h]
    rfl
  · rw [decide_eq_false h, show q % 2 = 0 from by omega]
    rfl
theorem clo_any (M : Int) (i : Nat) (b : Option Addr) (m d : Nat) (xs : List Dw) (P Q : Nat) (w : World) (hM : 0 ≤ M ∧ M < 18446744073709551616) (hi : i < m) (vd : SeesR dw w b m d xs)
    (hm : w.cell? ⟨P, 0, none⟩ = some (.int .u64 M)) (hl : w.cell? ⟨Q, 0, none⟩ = some (.slice b m d)) (L : Lost w) :
    Calls Tryd.prog 45 #[.int .i64 i, .pointer (some ⟨P, 0, none⟩), .pointer (some ⟨Q, 0, none⟩)] w fun e w' =>
      e = .returned (.agg #[.int .i64 (left M xs i).p, .int .u64 (left M xs i).v, .bool (left M xs i).f]) ∧ Below w.heap.size w w' := by
  have hll := vd.len
  have hmt := vd.short
  obtain ⟨A, rfl⟩ := Int.eq_ofNat_of_zero_le hM.1
  have hA : A < 18446744073709551616 := by omega
  have hmod : (i : Int).tmod 64 = ((i % 64 : Nat) : Int) := by
    rw [Int.tmod_eq_emod_of_nonneg (by omega)]
    omega
  have hr : i % 64 < 64 := Nat.mod_lt _ (by decide)
  have HB := bit_eq A i hA
  have B1 : Below w.heap.size w (w.alloc (.cells #[.int .i64 0, .int .u64 0, .bool false] 36)) := below_new (Below.refl _ _)
  have hm' : (w.alloc (.cells #[.int .i64 0, .int .u64 0, .bool false] 36)).cell? ⟨P, 0, none⟩ = some (.int .u64 A) := by
    rw [B1.cell (p := ⟨P, 0, none⟩) (World.block_lt_of_cell? w _ hm)]
    exact hm
  have hl' : (w.alloc (.cells #[.int .i64 0, .int .u64 0, .bool false] 36)).cell? ⟨Q, 0, none⟩ = some (.slice b m d) := by
    rw [B1.cell (p := ⟨Q, 0, none⟩) (World.block_lt_of_cell? w _ hl)]
    exact hl
  obtain ⟨l0, l1, l2⟩ := L.keep B1
  obtain ⟨b0, o0, rfl⟩ := vd.lies (by omega)
  have hi' : i < xs.length := by omega
  obtain ⟨c1, c2, c4⟩ := dw_at (vd.keep B1) i hi'
  have Y := Box.new w #[.int .i64 0, .int .u64 0, .bool false] 36
  have t1 := Y.lt
  have y0 := Y.cell 0
  have y1 := Y.cell 1
  have y2 := Y.cell 2
  have f0 := Y.soft 0
  have f1 := Y.soft 1
  have f2 := Y.soft 2
  cases hk : keep (A : Int) i
  · have HL := Lib.hid (left_no (xs := xs) hk)
    rw [hk, Bool.not_false] at HB
    clear c1 c2 c4
    go_enter Tryd.func45, Tryd.ntmps45
    go_wp2_with fail
    refine bodyPost_ret (by simp [results, Tryd.results45, go_sem]; try rfl) rfl ?_
    rw [HL.out]
    exact ⟨rfl, below_new (Below.refl _ _)⟩
  · have HL := Lib.hid (left_yes hk hi')
    rw [hk, Bool.not_true] at HB
    generalize xs[i] = X at c1 c2 c4 HL
    clear l0 l1 l2
    go_enter Tryd.func45, Tryd.ntmps45
    go_wp2_with fail
    refine bodyPost_ret (by simp [results, Tryd.results45, go_sem]; try rfl) rfl ?_
    rw [HL.out]
    exact ⟨rfl, below_new (Below.refl _ _)⟩
/-- The function that tells what a mask leaves: its variables lie in new blocks. -/
theorem keeping_any (b : Option Addr) (m d : Nat) (M : Int) (w : World) :
    Calls Tryd.prog 31 #[.slice b m d, .int .u64 M] w fun e w' => ∃ P Q : Nat, e = .returned (.func (.func 45) #[] #[.pointer (some ⟨P, 0, none⟩), .pointer (some ⟨Q, 0, none⟩)]) ∧
      w'.cell? ⟨P, 0, none⟩ = some (.int .u64 M) ∧ w'.cell? ⟨Q, 0, none⟩ = some (.slice b m d) ∧ Below w.heap.size w w' := by
  have hmf : ∀ (fn : Fn) (first cap : Array Value) (w : World), (Instr.makeFunc fn first cap).run Tryd.prog w = .ok (.func fn first cap) w := fun _ _ _ _ => rfl
  go_enter Tryd.func31, Tryd.ntmps31
  go_wp2_with fail
  go_ret
  refine ⟨w.heap.size + 1, w.heap.size, rfl, ?_, ?_, below_new (below_new (Below.refl _ _))⟩
  · simp
  · simp
theorem chosen_any (a : Option Addr) (n c : Nat) (b : Option Addr) (m d : Nat) (l : Int) (q : Bool) (D : Dev) (M : Int) (w : World) (va : SeesD w a n c b m d l q D) (hM : 0 ≤ M ∧ M < 18446744073709551616) (L : Lost w) :
    Calls Tryd.prog 11 #[dev a n c b m d l q, .int .u64 M] w (GivesPair .i64 3 w (chosR D M) (chk D)) := by
  have B1 : Below w.heap.size w (w.alloc (box a n c b m d l q)) := below_new (Below.refl _ _)
  have X1 := Box.new w #[.slice a n c, .slice b m d, .int .i64 l, .bool q] 25
  have hll := va.dl.len
  have hmt := va.dl.short
  by_cases h : okD D = true
  · have hb : (chk D != 0) = false := by rw [chk_ok h]; rfl
    have HC := Lib.hid (chk_ok h)
    have HV := Lib.hid (show chosen M m = chosR D M from by unfold chosR; rw [if_pos h, hll])
    have HP := Lib.hid (fun (k : Nat) (hk : k < D.dl.length) => (okDl_at (ok_parts h).2 hk).1)
    clear h
    go_enter Tryd.func11, Tryd.ntmps11
    go_wp2_with fail
    refine (check_any _ _ _ _ _ _ _ _ D _ (va.keep B1)).mono ?_
    rintro e w2 ⟨rfl, b2⟩
    have X2 := X1.keep b2
    have B2 := below_then B1 b2
    have s1 := X2.lt
    obtain ⟨⟨x0, x1, x2, x3⟩, f0, f1, f2, f3⟩ := X2.open4
    go_wp2_with fail
    refine (keeping_any b m d M _).mono ?_
    rintro e w3 ⟨P, Q, rfl, hP, hQ, b3⟩
    have X3 := X2.keep b3
    have B3 := below_then B2 b3
    have s3 := X3.lt
    clear x0 x1 x2 x3 f0 f1 f2 f3 X1 B1
    obtain ⟨⟨x0, x1, x2, x3⟩, f0, f1, f2, f3⟩ := X3.open4
    have L3 := L.keep B3
    have D3 := va.dl.keep B3
    go_wp2_with fail
    go_loopw [8, 22] (fun v i wr => ∃ k : Nat, k ≤ m ∧ i = .int .i64 k ∧ Grows .i64 3 w3 wr v (chosen M k)) (fun _ i _ => m - (intOf i).toNat)
    case atStart => exact ⟨0, Nat.zero_le _, rfl, Grows.nil _ _ _⟩
    case round =>
      obtain ⟨k, hk, rfl, G⟩ := hrel
      by_cases hlt : k < m
      · have hcl := chosen_len M k
        have hk' : k < D.dl.length := by omega
        have Bd : Below wr.heap.size wr wr.drew := (Below.refl _ _).drew
        have Gd := G.keep Bd
        have Ld := L3.keep Gd.below
        have Dd := D3.keep Gd.below
        have hPd : wr.drew.cell? ⟨P, 0, none⟩ = some (.int .u64 M) := by
          rw [Gd.below.cell (p := ⟨P, 0, none⟩) (World.block_lt_of_cell? w3 _ hP)]
          exact hP
        have hQd : wr.drew.cell? ⟨Q, 0, none⟩ = some (.slice b m d) := by
          rw [Gd.below.cell (p := ⟨Q, 0, none⟩) (World.block_lt_of_cell? w3 _ hQ)]
          exact hQ
        obtain ⟨l0, l1, l2⟩ := Ld
        cases hkp : keep M k
        · have HE := Lib.hid (chosen_no hkp)
          have HL := Lib.hid (left_no (xs := D.dl) hkp)
          have HQ : ∀ w : World, (Op.equalIn 10000 36 (.agg #[.int .i64 (-1), .int .u64 0, .bool false]) (.agg #[.int .i64 (-1), .int .u64 0, .bool false])).run Tryd.prog w = .ok true w := fun w => eq_dirty _ _ _ _ _ _ w
          go_wp2_with fail
          go_region_law (
            go_simp
            go_at_call 45
            refine (clo_any M k b m d D.dl P Q _ hM hlt Dd hPd hQd ⟨l0, l1, l2⟩).mono ?_
            rintro e w4 ⟨rfl, b4⟩
            rw [HL.out]
            obtain ⟨j0, j1, j2⟩ := Lost.keep ⟨l0, l1, l2⟩ b4
            have G4 := Gd.keep b4)
          all_goals
            go_wp2_with fail
            go_roundw
            case rel => exact ⟨k + 1, by omega, by go_num, by rw [HE.out]; exact G4⟩
            case measure => simp [intOf]; omega
        · have HE := Lib.hid (chosen_yes hkp)
          have wk : (Lit.int .i64 (k : Int)).wf = true := WalkArith.wf_i64 (by omega)
          have HL := Lib.hid (left_yes hkp hk')
          have hpk := HP.out k hk'
          generalize D.dl[k] = X at HL hpk
          have hne : (X.p == -1) = false := by simp; omega
          have HQ : ∀ w : World, (Op.equalIn 10000 36 (.agg #[.int .i64 X.p, .int .u64 X.v, .bool X.f]) (.agg #[.int .i64 (-1), .int .u64 0, .bool false])).run Tryd.prog w = .ok false w := fun w => by
            rw [eq_dirty _ _ _ _ _ _ w, hne]
            rfl
          go_wp2_with fail
          go_region_law (
            go_simp
            go_at_call 45
            refine (clo_any M k b m d D.dl P Q _ hM hlt Dd hPd hQd ⟨l0, l1, l2⟩).mono ?_
            rintro e w4 ⟨rfl, b4⟩
            rw [HL.out]
            obtain ⟨j0, j1, j2⟩ := Lost.keep ⟨l0, l1, l2⟩ b4
            have G4 := Gd.keep b4)
          all_goals
            go_wp2_with (at_builtin; refine wp_append rfl (.tmp 30) (.tmp 32) 31 rfl .i64 3 Tryd.underlying31 info_int w3 _ (chosen M k) rfl (G4.keep (below_new (Below.refl _ _))) _ 1 1 [(k : Int)] rfl (sees_one w4 .i64 3 (k : Int) wk) (by omega) ?_)
            intro v5 w5 G5
            go_wp2
            go_roundw
            case rel => exact ⟨k + 1, by omega, by go_num, by rw [HE.out]; exact G5⟩
            case measure => simp [intOf]; omega
      · obtain rfl : k = m := by omega
        go_wp2_with fail
        go_ret2
        rw [HC.out]
        exact gives_pair (G.past B3) HV.out
  · have hb : (chk D != 0) = true := by rw [chk_bad h]; rfl
    have HC := Lib.hid (chk_bad h)
    have HV := Lib.hid (show [] = chosR D M from by unfold chosR; rw [if_neg h])
    clear h
    go_enter Tryd.func11, Tryd.ntmps11
    go_wp2_with fail
    refine (check_any _ _ _ _ _ _ _ _ D _ (va.keep B1)).mono ?_
    rintro e w2 ⟨rfl, b2⟩
    have B2 := below_then B1 b2
    go_wp2_with fail
    go_ret2
    rw [HC.out]
    exact gives_pair ((Grows.nil .i64 3 _).past B2) HV.out
theorem crash_any (a : Option Addr) (n c : Nat) (b : Option Addr) (m d : Nat) (l : Int) (q : Bool) (D : Dev) (M : Int) (w : World) (va : SeesD w a n c b m d l q D) (hM : 0 ≤ M ∧ M < 18446744073709551616) (L : Lost w) :
    Calls Tryd.prog 10 #[dev a n c b m d l q, .int .u64 M] w fun e w' => ∃ v, e = .returned (.tuple #[v, .int .i64 (chk D)]) ∧ MadeD w (crashR D M) v w' := by
  have B2 : Below w.heap.size w ((w.alloc (box a n c b m d l q)).alloc zbox) := below_new (below_new (Below.refl _ _))
  have X1 := (Box.new w #[.slice a n c, .slice b m d, .int .i64 l, .bool q] 25).alloc zbox
  have X2 := Box.new1 w (box a n c b m d l q) #[.slice none 0 0, .slice none 0 0, .int .i64 0, .bool false] 25
  have hll := va.dl.len
  have hli := va.im.len
  have hmt := va.dl.short
  by_cases h : okD D = true
  · have HS := Lib.hid (show crashR D M = ⟨intos D.dl D.im (chosen M m), [], -1, false⟩ from by unfold crashR; rw [if_pos h, ← hll]; rfl)
    have HX := Lib.hid (show chosR D M = chosen M m from by unfold chosR; rw [if_pos h, hll])
    have hb : (chk D != 0) = false := by rw [chk_ok h]; rfl
    have HC := Lib.hid (chk_ok h)
    obtain ⟨⟨⟨h0, h1, -⟩, -⟩, hdl⟩ := ok_parts h
    have HP := Lib.hid (fun (k : Nat) (hk : k < D.dl.length) => okDl_at hdl hk)
    clear h hdl
    go_enter Tryd.func10, Tryd.ntmps10
    go_wp2_with fail
    refine (chosen_any _ _ _ _ _ _ _ _ D M _ (va.keep B2) hM (L.keep B2)).mono ?_
    rintro e w2 ⟨a2, c2, he, Mk⟩
    rw [HX.out] at he Mk
    subst he
    have hcl := chosen_len M m
    have VL := Mk.sees (chosen_wf (by omega)) (by omega)
    have b2 := Mk.2
    clear Mk
    have HMEM := Lib.hid (fun (z : Int) (hz : z ∈ chosen M m) => chosen_mem hz)
    generalize chosen M m = ZS at VL hcl HMEM HS ⊢
    generalize hN : ZS.length = N at VL hcl ⊢
    have Y1 := X1.keep b2
    have Y2 := X2.keep b2
    have s1 := Y1.lt
    have s2 := Y2.lt
    obtain ⟨⟨x0, x1, x2, x3⟩, f0, f1, f2, f3⟩ := Y1.open4
    have C2 := below_then B2 b2
    go_wp2_with fail
    refine (Cn.cloneW_any _ _ _ _ _ (va.keep C2).im).mono ?_
    rintro e w3 ⟨v3, rfl, G3⟩
    obtain ⟨a3, c3, rfl, M3⟩ := G3.made
    obtain ⟨g, rfl⟩ := G3.at0 (by omega)
    clear x0 x1 x2 x3 f0 f1 f2 f3 M3 X1 X2
    go_wp2_with fail
    go_loopw [26] (fun i wr => ∃ (k : Nat) (zs : List Int), k ≤ N ∧ i = .int .i64 k ∧ Hid (zs.length = D.im.length) ∧ Grows .u64 30 w2 wr (.slice (some ⟨g, 0, none⟩) D.im.length c3) zs ∧ Hid (intos D.dl D.im (ZS.take k) = zs)) (fun i _ => N - (intOf i).toNat)
    case atStart => exact ⟨0, D.im, Nat.zero_le _, rfl, Lib.hid rfl, G3, Lib.hid rfl⟩
    case round =>
      obtain ⟨k, zs, hk, rfl, hz, G, hW⟩ := hrel
      have Z1 := Y1.keep G.below
      have t1 := Z1.lt
      obtain ⟨⟨x0, x1, x2, x3⟩, f0, f1, f2, f3⟩ := Z1.open4
      by_cases hlt : k < N
      · have hkz : k < ZS.length := by omega
        obtain ⟨j, hj, -, hje⟩ := HMEM.out ZS[k] (List.getElem_mem hkz)
        obtain ⟨b1, o1, rfl⟩ := VL.lies (by omega)
        have c0 := (VL.keep G.below).at k hlt
        rw [List.getD_eq_getElem?_getD, List.getElem?_eq_getElem hkz, Option.getD_some, hje] at c0
        obtain ⟨b0, o0, rfl⟩ := va.dl.lies (by omega)
        have hj' : j < D.dl.length := by omega
        obtain ⟨c1, c5, c4⟩ := dw_at ((va.dl.keep C2).keep G.below) j hj'
        obtain ⟨p1, p2⟩ := HP.out j hj'
        have HN := Lib.hid ((intos_take (dl := D.dl) (zs := D.im) hkz).trans (by rw [hW.out, hje, into_at hj']))
        generalize D.dl[j] = X at c1 c5 c4 p1 p2 HN
        obtain ⟨e1, e2⟩ := G.cellAt X.p.toNat (by rw [hz.out]; omega)
        have GS := G.stored X.p.toNat X.v
        have hz' := Lib.hid (show (zs.set X.p.toNat X.v).length = D.im.length from by rw [List.length_set]; exact hz.out)
        clear hW hz G hje
        go_wp2_with fail
        go_region
        go_wp2
        go_roundw
        case rel => exact ⟨k + 1, _, by omega, by go_num, hz', GS.keep (Below.drew (Below.refl _ _)), HN⟩
        case measure => simp [intOf]; omega
      · obtain rfl : k = N := by omega
        have HF := Lib.hid (show intos D.dl D.im ZS = zs from by rw [← hW.out, List.take_of_length_le (by omega)])
        have Z2 := Y2.keep G.below
        have t2 := Z2.lt
        obtain ⟨⟨y0, y1, y2, y3⟩, g0, g1, g2, g3⟩ := Z2.open4
        have C4 := below_then C2 G.below
        have P1 := owns_mono G.own (show w.heap.size + 2 ≤ _ by omega)
        rw [hli] at P1
        clear hW G
        go_wp2
        refine bodyPost_ret (by simp [results, Tryd.results10, go_sem, y0, y1, y2, y3]; try rfl) rfl ?_
        rw [HC.out, HS.out, HF.out]
        refine ⟨_, rfl, MadeD.mk (w.heap.size + 2) ?_ (by omega) (owns_mid P1 (Nat.le_refl _) ?_ (Nat.le_refl _)) (World.ownsRow_nil _ _ _ _) rfl rfl⟩
        · repeat' (first | with_reducible exact C4 | (with_reducible refine Below.setCell ?_ (by simp) _))
        · repeat' (first | with_reducible exact Mid.refl _ _ | (with_reducible refine Mid.set ?_ (by left; simp) _))
  · have HS := Lib.hid (show crashR D M = zdev from by unfold crashR; rw [if_neg h])
    have hb : (chk D != 0) = true := by rw [chk_bad h]; rfl
    have HC := Lib.hid (chk_bad h)
    clear h
    go_enter Tryd.func10, Tryd.ntmps10
    go_wp2_with fail
    refine (chosen_any _ _ _ _ _ _ _ _ D M _ (va.keep B2) hM (L.keep B2)).mono ?_
    rintro e w2 ⟨a2, c2, rfl, Mk⟩
    have b2 := Mk.2
    clear Mk
    have C2 := below_then B2 b2
    have s2 := (X2.keep b2).lt
    obtain ⟨⟨y0, y1, y2, y3⟩, g0, g1, g2, g3⟩ := (X2.keep b2).open4
    go_wp2_with fail
    refine bodyPost_ret (by simp [results, Tryd.results10, go_sem, y0, y1, y2, y3]; try rfl) rfl ?_
    rw [HC.out, HS.out]
    refine ⟨_, rfl, MadeD.zero ?_⟩
    repeat' (first | with_reducible exact C2 | (with_reducible refine Below.setCell ?_ (by simp) _))
end Go.Proofs.YtkjhpjgdcjccjaaDoor.Kp
