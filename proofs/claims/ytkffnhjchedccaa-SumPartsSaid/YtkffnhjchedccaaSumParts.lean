/-
  The law SumParts returns true for every state and two lists; no condition.
-/
import Derived.Test.YtkffnhjchedccaaSal
import Derived.SizedLaws
import Derived.Test.YtkffnhjchedccaaIrefb
namespace Go.Proofs.Ytkffnhjchedccaa.sumParts
open Go.Proofs.Ytkffnhjchedccaa.Su Go.ChangeShapes Go.WideShapes Go.ChangeAt Go.RowKit Go.Proofs.Ytkffnhjchedccaa.Sl Go.Proofs.Ytkffnhjchedccaa.St Go.Proofs.Ytkffnhjchedccaa.Bits Go.Proofs.Ytkffnhjchedccaa.Wd Go.Proofs.Ytkffnhjchedccaa.Ir
set_option linter.unusedVariables false
set_option maxRecDepth 100000

theorem low_and {T : Nat} (hT : T < 18446744073709551616) : bits .and .u64 (T : Int) 255 = ((T % 2 ^ (8 : Int).toNat : Nat) : Int) := by
  rw [u64_and _ _ (by omega) (by omega) (by omega) (by omega), Int.toNat_natCast]
  have e : T &&& (255 : Int).toNat = T % 2 ^ 8 := Nat.and_two_pow_sub_one_eq_mod T 8
  rw [e]
  rfl
set_option maxHeartbeats 1000000 in
theorem walk_main (s : Int) (a : Option Addr) (n c : Nat) (xs : List Int) (b : Option Addr) (m d : Nat) (ys : List Int) (w : World) (hu : U64 s) (va : Sees w .u64 a n c xs) (vb : Sees w .u64 b m d ys) (hn : n ≤ 100) (hm : m ≤ 100) (X Y T LW : Int) (HX : Hid (behI s xs = X)) (HY : Hid (behI X ys = Y)) (HA : Hid (behI s (xs ++ ys) = Y)) (HT : Hid (behI firstI (xs ++ ys) = T)) (UX : Hid (U64 X))
    (HL : Hid (((behind firstI.toNat (toN (xs ++ ys)) % 2 ^ (8 : Int).toNat : Nat) : Int) = LW)) (hlt : bits .and .u64 T 255 = LW) :
    Calls Try.prog 5 #[.int .u64 s, .slice a n c, .slice b m d] w fun e w' => e = .returned (.bool true) ∧ Below w.heap.size w w' := by
  have hlx := va.len
  have hly := vb.len
  have B0 := Grows.lit0 .u64 23 (Below.refl w.heap.size w)
  have V1 := va.keep (below_new (o := .cells #[] 23) (Below.refl _ _))
  go_enter Try.func5, Try.ntmps5
  go_wp2_with (at_builtin; refine wp_append rfl (.tmp 29) (.tmp 30) 22 rfl .u64 23 Try.underlying22 info_word w _ [] rfl B0 a n c xs rfl V1 (by simp; omega) ?_)
  all_goals first | (exfalso; omega) | skip
  intro v1 w1 G1
  have V2 := vb.keep G1.below
  go_wp2_with (at_builtin; refine wp_append rfl (.tmp 31) (.tmp 32) 22 rfl .u64 23 Try.underlying22 info_word w v1 xs rfl G1 b m d ys rfl V2 (by omega) ?_)
  intro v2 w2 G2
  have C := G2.below
  obtain ⟨a2, c2, rfl, SA⟩ := G2.sees (fun x hx => by
    rcases List.mem_append.1 hx with h | h
    · exact va.wf x h
    · exact vb.wf x h) (by simp; omega)
  have hal : (xs ++ ys).length = n + m := by simp; omega
  rw [hal]
  rw [hal] at SA
  clear G1 G2 B0 V1 V2
  go_wp2_with fail
  refine (next_x s _ _ _ _ _ hu (va.keep C) (by omega) X HX.out).mono ?_
  rintro e w3 ⟨rfl, b3⟩
  replace C := below_then C b3
  replace SA := SA.keep b3
  go_wp2_with fail
  refine (next_x X _ _ _ _ _ UX.out (vb.keep C) (by omega) Y HY.out).mono ?_
  rintro e w4 ⟨rfl, b4⟩
  replace C := below_then C b4
  replace SA := SA.keep b4
  go_wp2_with fail
  refine (next_x s _ _ _ _ _ hu SA (by omega) Y HA.out).mono ?_
  rintro e w5 ⟨rfl, b5⟩
  replace C := below_then C b5
  replace SA := SA.keep b5
  go_wp2_with fail
  refine (next_x 14695981039346656037 _ _ _ _ _ first_u64 SA (by omega) T HT.out).mono ?_
  rintro e w6 ⟨rfl, b6⟩
  replace C := below_then C b6
  replace SA := SA.keep b6
  go_wp2_with fail
  refine (of_x _ _ _ _ _ SA (by omega) T HT.out).mono ?_
  rintro e w7 ⟨rfl, b7⟩
  replace C := below_then C b7
  replace SA := SA.keep b7
  go_wp2_with fail
  refine (low_x _ _ _ _ 8 _ SA (by omega) (by decide) LW HL.out).mono ?_
  rintro e w8 ⟨rfl, b8⟩
  replace C := below_then C b8
  go_wp2_with fail
  refine (sumlive_any _).mono ?_
  rintro e wb ⟨rfl, bb⟩
  go_wp2
  go_ret
  exact ⟨rfl, below_then C bb⟩
set_option maxHeartbeats 1000000 in
theorem walk (s : Int) (a : Option Addr) (n c : Nat) (xs : List Int) (b : Option Addr) (m d : Nat) (ys : List Int) (hs : 0 ≤ s ∧ s < 18446744073709551616) (w : World) (va : Sees w .u64 a n c xs) (hc : c ≤ 17592186044416) (vb : Sees w .u64 b m d ys) (hd : d ≤ 17592186044416) :
    Calls Try.prog 5 #[.int .u64 s, .slice a n c, .slice b m d] w fun e w' => e = .returned (.bool true) ∧ Below w.heap.size w w' := by
  have hu : U64 s := ⟨hs.1, hs.2⟩
  rcases (by omega : 100 < n ∨ (n ≤ 100 ∧ 100 < m) ∨ (n ≤ 100 ∧ m ≤ 100)) with h | ⟨h, h2⟩ | ⟨h, h2⟩
  · go_enter Try.func5, Try.ntmps5
    go_wp2_with fail
    all_goals first | (exfalso; omega) | skip
    refine (sumlive_any _).mono ?_
    rintro e wb ⟨rfl, bb⟩
    go_wp2
    go_ret
    exact ⟨rfl, bb⟩
  · go_enter Try.func5, Try.ntmps5
    go_wp2_with fail
    all_goals first | (exfalso; omega) | skip
    refine (sumlive_any _).mono ?_
    rintro e wb ⟨rfl, bb⟩
    go_wp2
    go_ret
    exact ⟨rfl, bb⟩
  · refine walk_main s a n c xs b m d ys w hu va vb h h2 _ _ _ _ (Lib.hid rfl) (Lib.hid (beh_parts s xs ys)) (Lib.hid rfl) (Lib.hid rfl) (Lib.hid (beh_u64 hu xs)) (Lib.hid rfl) ?_
    have hb := behind_lt (toN (xs ++ ys)) _ (u64_top first_u64)
    rw [top_num] at hb
    exact low_and hb

/-! The row's step. -/
set_option maxRecDepth 100000 in
theorem lifted (os : Os) (started : os.Started) (H : Type) (enc : TypeId × Value → H) :
    ReturnsInHanded {} Try.checked os 5 .any (Rows.sumPartsSpec.pre6 enc Try.prog Try.f5 Rows.sumPartsRow.domain false) (Rows.sumPartsSpec.post enc Try.prog Try.f5 false true false false) := by
  refine returnsInHanded_of_change_sized (C := Try.checked) St.own started (by kernel_rfl) Try.func5
    (ChangeSpec.witness6 (enc := enc) (C := Try.checked) false ⟨#[], #[.int .u64 0, .slice .none 0 0, .slice .none 0 0], []⟩ 8 (by kernel_rfl) (by kernel_rfl) (by kernel_rfl) (by kernel_rfl)) ?_
  intro W base args ds gs before hval0 hW hcnd hsz0 _
  have hsz : (DataW.weightsEach Try.prog (Try.f5.params.toList ++ Rows.sumPartsSpec.plain.varTypes Try.prog) (ds ++ gs)).all (· ≤ reachBytes) = true := hsz0
  have hval : ∀ (j : Nat) t v, Try.f5.params[j]? = some t → args[j]? = some v → Value.okWide Try.prog W .any base t v := hval0
  have hW' := hW
  obtain ⟨p, q, hA0, hV, rfl, hfz, hnd⟩ := hW
  have hA : DataW.TrodAll enc Try.prog W 0 (fun _ => true) true Try.f5.params.toList args.toList ds p := hA0
  rw [Try.params5] at hA hval hsz
  obtain ⟨v0, vs0, d0, ds0, p0, q0, hargs, rfl, rfl, h0, r0⟩ := trodAll_cons hA
  obtain ⟨v1, vs1, d1, ds1, p1, q1, rfl, rfl, rfl, h1, r1⟩ := trodAll_cons r0
  obtain ⟨v2, vs2, d2, ds2, p2, q2, rfl, rfl, rfl, h2, r2⟩ := trodAll_cons r1
  obtain ⟨rfl, rfl, rfl⟩ := trodAll_nil r2
  obtain rfl : args = #[v0, v1, v2] := by cases args; simp_all
  have z1 : ∀ es sp, d1 = .slice es sp → (es.length + sp.length) * 8 ≤ 140737488351232 := fun es sp e => by
    have := sized_slice hsz (j := 1) (t := 22) (e := 23) rfl (congrArg some e) Try.underlying22
    rw [show Try.prog.bytesOf 23 = 8 from by kernel_rfl] at this
    simpa [reachBytes] using this
  have z2 : ∀ es sp, d2 = .slice es sp → (es.length + sp.length) * 8 ≤ 140737488351232 := fun es sp e => by
    have := sized_slice hsz (j := 2) (t := 22) (e := 23) rfl (congrArg some e) Try.underlying22
    rw [show Try.prog.bytesOf 23 = 8 from by kernel_rfl] at this
    simpa [reachBytes] using this
  obtain ⟨a0, rfl, rfl, rfl, w0⟩ := open_int Try.underlying23 (hval 0 23 v0 rfl rfl) h0
  obtain ⟨a1, n1, c1, xs1, rfl, s1, t1⟩ := Sl.open_slice Try.underlying22 Try.underlying23 (by kernel_rfl) (hval 1 22 v1 rfl rfl) h1 z1
  obtain ⟨a2, n2, c2, xs2, rfl, s2, t2⟩ := Sl.open_slice Try.underlying22 Try.underlying23 (by kernel_rfl) (hval 2 22 v2 rfl rfl) h2 z2
  refine (walk a0 a1 n1 c1 xs1 a2 n2 c2 xs2 (St.u64_of_wf w0) W s1 t1 s2 t2).mono fun e W' ⟨he, hb⟩ => ?_
  subst he
  exact St.law_done St.laid (by kernel_rfl) rfl rfl Try.underlying4 rfl hW' hb

theorem over : Rows.sumPartsRow.holds Try.pinned (OpenSpec.ofChange Rows.sumPartsSpec) :=
  OpenClaim.holds_of_wide 5 Try.f5 rfl rfl rfl rfl rfl rfl rfl ⟨rfl, rfl, rfl, rfl, rfl⟩ rfl rfl rfl rfl rfl (by kernel_rfl) Try.func5 (by kernel_rfl)
    (of_decide_eq_true (by kernel_rfl)) (by unfold Func.isWrapper; first | (rw [if_pos (by decide +kernel)]; kernel_rfl) | (rw [if_neg (by decide +kernel)]; exact ⟨rfl, rfl⟩))
    (fun os started H enc _ => lifted os started H enc)
theorem proved : Rows.SumPartsSaid := over
#print axioms proved
end Go.Proofs.Ytkffnhjchedccaa.sumParts
