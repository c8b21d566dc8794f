/-
  The law SumMatters returns true for two states, words, an index, a byte's number, a change and a width; no condition.
-/
import Derived.Test.YtkffnhjchedccaaSal
import Derived.SizedLaws
import Derived.Test.YtkffnhjchedccaaIrefb
import Derived.Test.YtkffnhjchedccaaRec
namespace Go.Proofs.Ytkffnhjchedccaa.sumMatters
open Go.Proofs.Ytkffnhjchedccaa.Su Go.ChangeShapes Go.WideShapes Go.ChangeAt Go.RowKit Go.Proofs.Ytkffnhjchedccaa.Sl Go.Proofs.Ytkffnhjchedccaa.St Go.Proofs.Ytkffnhjchedccaa.Bits Go.Proofs.Ytkffnhjchedccaa.Wd Go.Proofs.Ytkffnhjchedccaa.Ir
set_option linter.unusedVariables false
set_option maxRecDepth 100000

theorem flip_val {v g : Int} {K : Nat} (hv : U64 v) (hg : 0 ≤ g ∧ g < 256) (hK : K ≤ 7) : bits .xor .u64 v (IntKind.u64.wrap (g * 2 ^ (8 * K))) = ((v.toNat ^^^ g.toNat * 2 ^ (8 * K) : Nat) : Int) := by
  obtain ⟨G, rfl⟩ := Int.eq_ofNat_of_zero_le hg.1
  have h1 : G * 2 ^ (8 * K) < 18446744073709551616 := by
    have h2 : G * 2 ^ (8 * K) < 2 ^ 8 * 2 ^ (8 * K) := Nat.mul_lt_mul_of_pos_right (by omega) (Nat.two_pow_pos _)
    have h3 : 2 ^ 8 * 2 ^ (8 * K) ≤ 2 ^ 64 := by
      rw [← Nat.pow_add]
      exact Nat.pow_le_pow_right (by decide) (by omega)
    exact Nat.lt_of_lt_of_le h2 h3
  have e1 : (G : Int) * 2 ^ (8 * K) = ((G * 2 ^ (8 * K) : Nat) : Int) := by simp
  have e2 : IntKind.u64.wrap ((G : Int) * 2 ^ (8 * K)) = ((G * 2 ^ (8 * K) : Nat) : Int) := by
    rw [e1, IntKind.wrap_u64]
    generalize G * 2 ^ (8 * K) = q at h1
    omega
  have hv1 := hv.1
  have hv2 := hv.2
  rw [e2, u64_xor _ _ hv1 hv2 (by omega) (by omega), Int.toNat_natCast, Int.toNat_natCast]
theorem val_u64 {v g : Int} {K : Nat} (hv : U64 v) (hg : 0 ≤ g ∧ g < 256) (hK : K ≤ 7) : U64 (bits .xor .u64 v (IntKind.u64.wrap (g * 2 ^ (8 * K)))) := by
  rw [flip_val hv hg hK]
  have h1 : v.toNat < 2 ^ 64 := by
    have := hv.1
    have := hv.2
    have e : (2 : Nat) ^ 64 = 18446744073709551616 := by decide +kernel
    omega
  have h2 : g.toNat * 2 ^ (8 * K) < 2 ^ 64 := by
    have h2 : g.toNat * 2 ^ (8 * K) < 2 ^ 8 * 2 ^ (8 * K) := Nat.mul_lt_mul_of_pos_right (by omega) (Nat.two_pow_pos _)
    have h3 : 2 ^ 8 * 2 ^ (8 * K) ≤ 2 ^ 64 := by
      rw [← Nat.pow_add]
      exact Nat.pow_le_pow_right (by decide) (by omega)
    exact Nat.lt_of_lt_of_le h2 h3
  have h3 := Nat.xor_lt_two_pow h1 h2
  have e : (2 : Nat) ^ 64 = 18446744073709551616 := by decide +kernel
  rw [e] at h3
  exact ⟨by omega, by omega⟩
theorem beq_of_iff {a b : Int} {c d : Int} (h : a = b ↔ c = d) : (a == b) = (c == d) := by
  rw [Bool.eq_iff_iff, beq_iff_eq, beq_iff_eq]
  exact h
theorem matters {s g : Int} {xs : List Int} {i K : Nat} (hs : U64 s) (hi : i < xs.length) (hv : U64 xs[i]) (hg : 0 ≤ g ∧ g < 256) (hK : K ≤ 7) :
    behI s xs = behI s (xs.set i (bits .xor .u64 xs[i] (IntKind.u64.wrap (g * 2 ^ (8 * K))))) ↔ g = 0 := by
  rw [beh_eq hs hs, flip_val hv hg hK, flip_eq hi (by decide) (by decide) _ (by omega) (by omega)]
  omega
theorem low_matters {t g : Int} {xs : List Int} {i K : Nat} (ht : 8 ≤ t ∧ t ≤ 64) (hi : i < xs.length) (hv : U64 xs[i]) (hg : 0 ≤ g ∧ g < 256) (hK : K ≤ 7) :
    ((behind firstI.toNat (toN xs) % 2 ^ t.toNat : Nat) : Int) = ((behind firstI.toNat (toN (xs.set i (bits .xor .u64 xs[i] (IntKind.u64.wrap (g * 2 ^ (8 * K)))))) % 2 ^ t.toNat : Nat) : Int) ↔ g = 0 := by
  rw [flip_val hv hg hK, Int.ofNat_inj, flip_eq hi (by omega) (by omega) _ (by omega) (by omega)]
  omega
set_option maxHeartbeats 1000000 in
theorem walk_main (s u : Int) (a : Option Addr) (n c : Nat) (xs : List Int) (p g t : Int) (K : Nat) (w : World) (hu : U64 s) (hu' : U64 u) (va : Sees w .u64 a n c xs) (hn : 1 ≤ n ∧ n ≤ 100) (hp : 0 ≤ p ∧ p < n) (hk : K ≤ 7) (hg : 0 ≤ g ∧ g < 256) (ht : 8 ≤ t ∧ t ≤ 64)
    (v v' X Y Z P Q : Int) (HVE : Hid (bits .xor .u64 v (IntKind.u64.wrap (g * 2 ^ (8 * K))) = v')) (hv : Hid (xs.getD p.toNat 0 = v)) (HX : Hid (behI s xs = X)) (HY : Hid (behI s (xs.set p.toNat v') = Y)) (HZ : Hid (behI u xs = Z))
    (HP : Hid (((behind firstI.toNat (toN xs) % 2 ^ t.toNat : Nat) : Int) = P)) (HQ : Hid (((behind firstI.toNat (toN (xs.set p.toNat v')) % 2 ^ t.toNat : Nat) : Int) = Q))
    (HB1 : (X == Y) = (g == 0)) (HB2 : (X == Z) = (s == u)) (HB3 : (P == Q) = (g == 0)) (HVU : Hid (U64 v')) :
    Calls Try.prog 6 #[.int .u64 s, .int .u64 u, .slice a n c, .int .i64 p, .int .i64 K, .int .u8 g, .int .i64 t] w fun e w' => e = .returned (.bool true) ∧ Below w.heap.size w w' := by
  have htop := va.top
  have hlx := va.len
  go_enter Try.func6, Try.ntmps6
  go_wp2_with fail
  all_goals first | (exfalso; omega) | skip
  refine (twin_any _ _ _ _ _ va).mono ?_
  rintro e w2 ⟨a2, c2, rfl, M2⟩
  have G := M2.grows
  rw [hlx] at G ⊢
  obtain ⟨g2, rfl⟩ := G.at0 (by omega)
  clear M2
  have Gd := G.keep (Below.drew (Below.refl _ _))
  obtain ⟨r1, r2⟩ := Gd.cellAt p.toNat (by omega)
  rw [hv.out] at r1
  have GS := (G.stored p.toNat v').keep (Below.drew (Below.refl _ _))
  have hvu := HVU.out
  have HVU2 := Lib.hid (show (Lit.int .u64 v').wf = true from WalkArith.wf_u64 (by have := hvu.1; have := hvu.2; omega))
  clear hvu
  clear G Gd
  go_wp2_with fail
  go_region
  rw [HVE.out]
  obtain ⟨a3, c3, hv3, S2⟩ := GS.sees (fun x hx => by
    rcases List.mem_or_eq_of_mem_set hx with h | h
    · exact va.wf x h
    · subst h
      exact HVU2.out) (by rw [List.length_set]; omega)
  have hl2 : (xs.set p.toNat v').length = n := by rw [List.length_set]; exact hlx
  rw [hl2] at hv3 S2
  injection hv3 with h1 _ h2
  subst h1 h2
  have C := GS.below
  generalize ((w2.setCell ⟨g2, p.toNat, none⟩ (.int .u64 v')).drew) = w3 at S2 C ⊢
  clear GS hl2 r1 r2 HVE HVU HVU2 hv
  go_wp2_with fail
  refine (next_x s _ _ _ _ _ hu (va.keep C) (by omega) X HX.out).mono ?_
  rintro e w4 ⟨rfl, b4⟩
  replace C := below_then C b4
  replace S2 := S2.keep b4
  go_wp2_with fail
  refine (next_x s _ _ _ _ _ hu S2 (by omega) Y HY.out).mono ?_
  rintro e w5 ⟨rfl, b5⟩
  replace C := below_then C b5
  replace S2 := S2.keep b5
  go_wp2_with fail
  refine (next_x u _ _ _ _ _ hu' (va.keep C) (by omega) Z HZ.out).mono ?_
  rintro e w6 ⟨rfl, b6⟩
  replace C := below_then C b6
  replace S2 := S2.keep b6
  go_wp2_with fail
  refine (low_x _ _ _ _ t _ (va.keep C) (by omega) ht P HP.out).mono ?_
  rintro e w7 ⟨rfl, b7⟩
  replace C := below_then C b7
  replace S2 := S2.keep b7
  go_wp2_with fail
  refine (low_x _ _ _ _ t _ S2 (by omega) ht Q HQ.out).mono ?_
  rintro e w8 ⟨rfl, b8⟩
  replace C := below_then C b8
  go_wp2_with fail
  refine (sumlive_any _).mono ?_
  rintro e wb ⟨rfl, bb⟩
  go_wp2
  go_ret
  exact ⟨rfl, below_then C bb⟩
set_option maxHeartbeats 1000000 in
theorem walk (s u : Int) (a : Option Addr) (n c : Nat) (xs : List Int) (p k g t : Int) (hs : 0 ≤ s ∧ s < 18446744073709551616) (hu : 0 ≤ u ∧ u < 18446744073709551616) (hp : -9223372036854775808 ≤ p ∧ p ≤ 9223372036854775807) (hk : -9223372036854775808 ≤ k ∧ k ≤ 9223372036854775807) (hg : 0 ≤ g ∧ g < 256) (ht : -9223372036854775808 ≤ t ∧ t ≤ 9223372036854775807) (w : World) (va : Sees w .u64 a n c xs) (hc : c ≤ 17592186044416) :
    Calls Try.prog 6 #[.int .u64 s, .int .u64 u, .slice a n c, .int .i64 p, .int .i64 k, .int .u8 g, .int .i64 t] w fun e w' => e = .returned (.bool true) ∧ Below w.heap.size w w' := by
  have htop := va.top
  rcases (by omega : (n < 1) ∨ (1 ≤ n ∧ 100 < n) ∨ (1 ≤ n ∧ n ≤ 100 ∧ p < 0) ∨ (1 ≤ n ∧ n ≤ 100 ∧ 0 ≤ p ∧ (n : Int) ≤ p) ∨ (1 ≤ n ∧ n ≤ 100 ∧ 0 ≤ p ∧ p < n ∧ k < 0) ∨ (1 ≤ n ∧ n ≤ 100 ∧ 0 ≤ p ∧ p < n ∧ 0 ≤ k ∧ 7 < k) ∨ (1 ≤ n ∧ n ≤ 100 ∧ 0 ≤ p ∧ p < n ∧ 0 ≤ k ∧ k ≤ 7 ∧ t < 8) ∨ (1 ≤ n ∧ n ≤ 100 ∧ 0 ≤ p ∧ p < n ∧ 0 ≤ k ∧ k ≤ 7 ∧ 8 ≤ t ∧ 64 < t) ∨ (1 ≤ n ∧ n ≤ 100 ∧ 0 ≤ p ∧ p < n ∧ 0 ≤ k ∧ k ≤ 7 ∧ 8 ≤ t ∧ t ≤ 64)) with h0 | ⟨h0, h1⟩ | ⟨h0, h1, h2⟩ | ⟨h0, h1, h2, h3⟩ | ⟨h0, h1, h2, h3, h4⟩ | ⟨h0, h1, h2, h3, h4, h5⟩ | ⟨h0, h1, h2, h3, h4, h5, h6⟩ | ⟨h0, h1, h2, h3, h4, h5, h6, h7⟩ | ⟨h0, h1, h2, h3, h4, h5, h6, h7⟩
  · go_enter Try.func6, Try.ntmps6
    go_wp2_with fail
    all_goals first | (exfalso; omega) | skip
    refine (sumlive_any _).mono ?_
    rintro e wb ⟨rfl, bb⟩
    go_wp2
    go_ret
    exact ⟨rfl, bb⟩
  · go_enter Try.func6, Try.ntmps6
    go_wp2_with fail
    all_goals first | (exfalso; omega) | skip
    refine (sumlive_any _).mono ?_
    rintro e wb ⟨rfl, bb⟩
    go_wp2
    go_ret
    exact ⟨rfl, bb⟩
  · go_enter Try.func6, Try.ntmps6
    go_wp2_with fail
    all_goals first | (exfalso; omega) | skip
    refine (sumlive_any _).mono ?_
    rintro e wb ⟨rfl, bb⟩
    go_wp2
    go_ret
    exact ⟨rfl, bb⟩
  · go_enter Try.func6, Try.ntmps6
    go_wp2_with fail
    all_goals first | (exfalso; omega) | skip
    refine (sumlive_any _).mono ?_
    rintro e wb ⟨rfl, bb⟩
    go_wp2
    go_ret
    exact ⟨rfl, bb⟩
  · go_enter Try.func6, Try.ntmps6
    go_wp2_with fail
    all_goals first | (exfalso; omega) | skip
    refine (sumlive_any _).mono ?_
    rintro e wb ⟨rfl, bb⟩
    go_wp2
    go_ret
    exact ⟨rfl, bb⟩
  · go_enter Try.func6, Try.ntmps6
    go_wp2_with fail
    all_goals first | (exfalso; omega) | skip
    refine (sumlive_any _).mono ?_
    rintro e wb ⟨rfl, bb⟩
    go_wp2
    go_ret
    exact ⟨rfl, bb⟩
  · go_enter Try.func6, Try.ntmps6
    go_wp2_with fail
    all_goals first | (exfalso; omega) | skip
    refine (sumlive_any _).mono ?_
    rintro e wb ⟨rfl, bb⟩
    go_wp2
    go_ret
    exact ⟨rfl, bb⟩
  · go_enter Try.func6, Try.ntmps6
    go_wp2_with fail
    all_goals first | (exfalso; omega) | skip
    refine (sumlive_any _).mono ?_
    rintro e wb ⟨rfl, bb⟩
    go_wp2
    go_ret
    exact ⟨rfl, bb⟩
  · have hu' : U64 s := ⟨hs.1, hs.2⟩
    have huu : U64 u := ⟨hu.1, hu.2⟩
    have hlx := va.len
    obtain ⟨K, rfl⟩ := Int.eq_ofNat_of_zero_le h4
    have hi : p.toNat < xs.length := by omega
    have hvw := St.u64_of_wf (va.wf _ (List.getElem_mem hi))
    have hv : U64 xs[p.toNat] := ⟨hvw.1, hvw.2⟩
    have hK : K ≤ 7 := by omega
    have e : xs.getD p.toNat 0 = xs[p.toNat] := by rw [List.getD_eq_getElem?_getD, List.getElem?_eq_getElem hi, Option.getD_some]
    exact walk_main s u a n c xs p g t K w hu' huu va ⟨by omega, h1⟩ ⟨h2, h3⟩ hK hg ⟨h6, h7⟩ _ _ _ _ _ _ _ (Lib.hid rfl) (Lib.hid e) (Lib.hid rfl) (Lib.hid rfl) (Lib.hid rfl) (Lib.hid rfl) (Lib.hid rfl)
      (beq_of_iff (matters hu' hi hv hg hK)) (beq_of_iff (beh_apart xs hu' huu)) (beq_of_iff (low_matters ⟨h6, h7⟩ hi hv hg hK)) (Lib.hid (val_u64 hv hg hK))

/-! The row's step. -/
set_option maxRecDepth 100000 in
theorem lifted (os : Os) (started : os.Started) (H : Type) (enc : TypeId × Value → H) :
    ReturnsInHanded {} Try.checked os 6 .any (Rows.sumMattersSpec.pre6 enc Try.prog Try.f6 Rows.sumMattersRow.domain false) (Rows.sumMattersSpec.post enc Try.prog Try.f6 false true false false) := by
  refine returnsInHanded_of_change_sized (C := Try.checked) St.own started (by kernel_rfl) Try.func6
    (ChangeSpec.witness6 (enc := enc) (C := Try.checked) false ⟨#[], #[.int .u64 0, .int .u64 0, .slice .none 0 0, .int .i64 0, .int .i64 0, .int .u8 0, .int .i64 0], []⟩ 8 (by kernel_rfl) (by kernel_rfl) (by kernel_rfl) (by kernel_rfl)) ?_
  intro W base args ds gs before hval0 hW hcnd hsz0 _
  have hsz : (DataW.weightsEach Try.prog (Try.f6.params.toList ++ Rows.sumMattersSpec.plain.varTypes Try.prog) (ds ++ gs)).all (· ≤ reachBytes) = true := hsz0
  have hval : ∀ (j : Nat) t v, Try.f6.params[j]? = some t → args[j]? = some v → Value.okWide Try.prog W .any base t v := hval0
  have hW' := hW
  obtain ⟨p, q, hA0, hV, rfl, hfz, hnd⟩ := hW
  have hA : DataW.TrodAll enc Try.prog W 0 (fun _ => true) true Try.f6.params.toList args.toList ds p := hA0
  rw [Try.params6] at hA hval hsz
  obtain ⟨v0, vs0, d0, ds0, p0, q0, hargs, rfl, rfl, h0, r0⟩ := trodAll_cons hA
  obtain ⟨v1, vs1, d1, ds1, p1, q1, rfl, rfl, rfl, h1, r1⟩ := trodAll_cons r0
  obtain ⟨v2, vs2, d2, ds2, p2, q2, rfl, rfl, rfl, h2, r2⟩ := trodAll_cons r1
  obtain ⟨v3, vs3, d3, ds3, p3, q3, rfl, rfl, rfl, h3, r3⟩ := trodAll_cons r2
  obtain ⟨v4, vs4, d4, ds4, p4, q4, rfl, rfl, rfl, h4, r4⟩ := trodAll_cons r3
  obtain ⟨v5, vs5, d5, ds5, p5, q5, rfl, rfl, rfl, h5, r5⟩ := trodAll_cons r4
  obtain ⟨v6, vs6, d6, ds6, p6, q6, rfl, rfl, rfl, h6, r6⟩ := trodAll_cons r5
  obtain ⟨rfl, rfl, rfl⟩ := trodAll_nil r6
  obtain rfl : args = #[v0, v1, v2, v3, v4, v5, v6] := by cases args; simp_all
  have z2 : ∀ es sp, d2 = .slice es sp → (es.length + sp.length) * 8 ≤ 140737488351232 := fun es sp e => by
    have := sized_slice hsz (j := 2) (t := 22) (e := 23) rfl (congrArg some e) Try.underlying22
    rw [show Try.prog.bytesOf 23 = 8 from by kernel_rfl] at this
    simpa [reachBytes] using this
  obtain ⟨a0, rfl, rfl, rfl, w0⟩ := open_int Try.underlying23 (hval 0 23 v0 rfl rfl) h0
  obtain ⟨a1, rfl, rfl, rfl, w1⟩ := open_int Try.underlying23 (hval 1 23 v1 rfl rfl) h1
  obtain ⟨a2, n2, c2, xs2, rfl, s2, t2⟩ := Sl.open_slice Try.underlying22 Try.underlying23 (by kernel_rfl) (hval 2 22 v2 rfl rfl) h2 z2
  obtain ⟨a3, rfl, rfl, rfl, w3⟩ := open_int Try.underlying3 (hval 3 3 v3 rfl rfl) h3
  obtain ⟨a4, rfl, rfl, rfl, w4⟩ := open_int Try.underlying3 (hval 4 3 v4 rfl rfl) h4
  obtain ⟨a5, rfl, rfl, rfl, w5⟩ := open_int Try.underlying5 (hval 5 5 v5 rfl rfl) h5
  obtain ⟨a6, rfl, rfl, rfl, w6⟩ := open_int Try.underlying3 (hval 6 3 v6 rfl rfl) h6
  refine (walk a0 a1 a2 n2 c2 xs2 a3 a4 a5 a6 (St.u64_of_wf w0) (St.u64_of_wf w1) (St.i64_of_wf w3) (St.i64_of_wf w4) (St.u8_of_wf w5) (St.i64_of_wf w6) W s2 t2).mono fun e W' ⟨he, hb⟩ => ?_
  subst he
  exact St.law_done St.laid (by kernel_rfl) rfl rfl Try.underlying4 rfl hW' hb

theorem over : Rows.sumMattersRow.holds Try.pinned (OpenSpec.ofChange Rows.sumMattersSpec) :=
  OpenClaim.holds_of_wide 6 Try.f6 rfl rfl rfl rfl rfl rfl rfl ⟨rfl, rfl, rfl, rfl, rfl⟩ rfl rfl rfl rfl rfl (by kernel_rfl) Try.func6 (by kernel_rfl)
    (of_decide_eq_true (by kernel_rfl)) (by unfold Func.isWrapper; first | (rw [if_pos (by decide +kernel)]; kernel_rfl) | (rw [if_neg (by decide +kernel)]; exact ⟨rfl, rfl⟩))
    (fun os started H enc _ => lifted os started H enc)
theorem proved : Rows.SumMattersSaid := over
#print axioms proved
end Go.Proofs.Ytkffnhjchedccaa.sumMatters
