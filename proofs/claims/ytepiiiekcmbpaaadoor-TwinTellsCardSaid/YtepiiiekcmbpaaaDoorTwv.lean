/-
  Contracts of ballastref07: View, Heal, Same.
-/
import Derived.Test.YtepiiiekcmbpaaaDoorTwr
import Derived.Test.YtepiiiekcmbpaaaDoorRecb
namespace Go.Proofs.YtepiiiekcmbpaaaDoor.Tw
open Go.RowKit Go.Proofs.YtepiiiekcmbpaaaDoor.Sl Go.Proofs.YtepiiiekcmbpaaaDoor.St Go.Proofs.YtepiiiekcmbpaaaDoor.Bits Go.Proofs.YtepiiiekcmbpaaaDoor.Wd Go.Proofs.YtepiiiekcmbpaaaDoor.Su Go.Proofs.YtepiiiekcmbpaaaDoor.Ir Go.Proofs.YtepiiiekcmbpaaaDoor.Sb Go.Proofs.YtepiiiekcmbpaaaDoor.Iu Go.Proofs.YtepiiiekcmbpaaaDoor.Dv
set_option maxRecDepth 100000

theorem rread_x (a : Option Addr) (n c : Nat) (xs : List Int) (w : World) (va : Sees w .u64 a n c xs) (W T r : Int) (p q : Bool) (h : twE xs = r ∧ twW xs = W ∧ twT xs = T ∧ twA xs 0 = p ∧ twA xs 1 = q) :
    Calls Tryd.prog 17 #[.slice a n c] w fun e w' => e = .returned (.tuple #[.agg #[.int .i64 W, .int .i64 T], .agg #[.bool p, .bool q], .int .i64 r]) ∧ Below w.heap.size w w' := by
  obtain ⟨rfl, rfl, rfl, rfl, rfl⟩ := h
  exact rread_any a n c xs w va
theorem view_wf {xs : List Int} (hw : ∀ x ∈ xs, (Lit.int .u64 x).wf = true) : ∀ x ∈ viewL xs, (Lit.int .u64 x).wf = true := by
  by_cases h : twE xs = 0
  · obtain ⟨hW, hg, _⟩ := tw_sb h
    have e : viewL xs = bothI (twW xs) (twT xs) xs := if_pos h
    rw [e]
    have hg' : IsSb (twW xs) (twT xs) := by rw [hW]; exact hg
    intro x hx
    unfold bothI at hx
    rcases List.mem_append.1 hx with h1 | h1
    · exact words_wf hg' x h1
    · rcases List.mem_append.1 h1 with h2 | h2
      · exact words_wf hg' x h2
      · exact hw x (List.mem_of_mem_drop h2)
  · rw [(tw_zero h).2.2.2.1]
    simp
theorem view_len {xs : List Int} (hn : xs.length ≤ 17592186044416) : (viewL xs).length ≤ 17592186044416 := by
  by_cases h : twE xs = 0
  · rw [(view_tw h).2.2.2.2.2.2]
    exact hn
  · rw [(tw_zero h).2.2.2.1]
    simp
set_option maxHeartbeats 1000000 in
theorem rview_any (a : Option Addr) (n c : Nat) (xs : List Int) (w : World) (va : Sees w .u64 a n c xs) :
    Calls Tryd.prog 18 #[.slice a n c] w (GivesSeen .u64 w (viewL xs) (twE xs)) := by
  have hlx := va.len
  have htop := va.top
  have hle := va.le
  have hvw := Lib.hid (view_wf va.wf)
  have hvl := Lib.hid (view_len (xs := xs) (by omega))
  by_cases h : twE xs = 0
  · obtain ⟨hW, hg, _⟩ := tw_sb h
    have hi := (tw_inv h).1
    have hb := img_bd hi
    have hg' : IsSb (twW xs) (twT xs) := by rw [hW]; exact hg
    have hv := Lib.hid (show wordsI (twW xs) (twT xs) ++ (wordsI (twW xs) (twT xs) ++ (xs.drop 16).take (n - 16)) = viewL xs from by
      have e : viewL xs = bothI (twW xs) (twT xs) xs := if_pos h
      rw [e, List.take_of_length_le (by rw [List.length_drop]; omega)]
      rfl)
    rw [h]
    clear hW hg hi
    generalize hW : twW xs = W at hg' hv
    generalize hT : twT xs = T at hg' hv
    obtain ⟨p, hP⟩ : ∃ p, twA xs 0 = p := ⟨_, rfl⟩
    obtain ⟨q, hQ⟩ : ∃ q, twA xs 1 = q := ⟨_, rfl⟩
    generalize hV : viewL xs = V at hv hvw hvl ⊢
    have HR := Lib.hid (show twE xs = 0 ∧ twW xs = W ∧ twT xs = T ∧ twA xs 0 = p ∧ twA xs 1 = q from ⟨h, hW, hT, hP, hQ⟩)
    clear h hW hT hP hQ hV
    obtain ⟨b0, o0, rfl⟩ := va.lies (by omega)
    obtain ⟨ad, had, hrun⟩ := run_from b0 o0 n c 16 16 rfl (by omega) hle
    have hX := Lib.hid (words_wf hg')
    have hXl := Lib.hid (words_len W T)
    go_enter Tryd.func18, Tryd.ntmps18
    go_wp2_with fail
    refine (rread_x _ _ _ _ _ va W T 0 p q HR.out).mono ?_
    rintro e w1 ⟨rfl, b1⟩
    have C1 := below_new (o := .cells #[.bool p, .bool q] 27) (below_new (o := .cells #[.int .i64 W, .int .i64 T] 26) b1)
    go_wp2_with fail
    refine (written_any W T _ hg').mono ?_
    rintro e w2 ⟨a2, c2, rfl, M2⟩
    have C2 := below_then C1 M2.2
    have S2 := M2.sees hX.out (by rw [hXl.out]; decide)
    clear M2 b1 C1
    generalize wordsI W T = X at hv hX hXl S2 ⊢
    obtain ⟨N, hN⟩ : ∃ N, X.length = N := ⟨_, rfl⟩
    rw [hN] at S2 ⊢
    have hN8 := Lib.hid (show N ≤ 8 from by rw [← hN, hXl.out]; decide)
    have G0 := Grows.lit0 .u64 47 (Below.refl w2.heap.size w2)
    have V0 := S2.keep (below_new (o := .cells #[] 47) (Below.refl _ _))
    go_wp2_with (at_builtin; refine wp_append rfl (.tmp 20) (.tmp 21) 22 rfl .u64 47 Tryd.underlying22 info_word w2 _ [] rfl G0 a2 N c2 X rfl V0 (by have := hN8.out; simp; omega) ?_)
    intro v3 w3 G3
    have V3 := S2.keep G3.below
    go_wp2_with (at_builtin; refine wp_append rfl (.tmp 22) (.tmp 23) 22 rfl .u64 47 Tryd.underlying22 info_word w2 _ _ rfl G3 a2 N c2 X rfl V3 (by have := hN8.out; rw [hN]; omega) ?_)
    intro v4 w4 G4
    have V4 := (va.keep (below_then C2 G4.below)).cut 16 (n - 16) (by omega) had
    clear had
    go_wp2_with (at_builtin; refine wp_append rfl (.tmp 25) (.tmp 27) 22 rfl .u64 47 Tryd.underlying22 info_word w2 _ _ rfl G4 (some ad) (n - 16) (c - 16) _ rfl V4 (by have := hN8.out; rw [List.length_append, hN]; omega) ?_)
    intro v5 w5 G5
    have G6 : Grows .u64 47 w2 w5 v5 V := by
      rw [← hv.out]
      exact G5
    clear G5
    obtain ⟨a5, c5, rfl, S5⟩ := G6.sees hvw.out hvl.out
    go_wp2
    go_ret2
    exact ⟨a5, _, c5, rfl, S5, below_then C2 G6.below⟩
  · obtain ⟨z1, z2, z3, z4, _⟩ := tw_zero h
    have HR : twE xs = twE xs ∧ twW xs = 0 ∧ twT xs = 0 ∧ twA xs 0 = false ∧ twA xs 1 = false := ⟨rfl, z1, z2, z3 0, z3 1⟩
    rw [z4]
    clear z1 z2 z3 z4 hvw hvl
    generalize hr : twE xs = r at h ⊢
    rw [hr] at HR
    replace HR : twE xs = r ∧ twW xs = 0 ∧ twT xs = 0 ∧ twA xs 0 = false ∧ twA xs 1 = false := ⟨hr, HR.2⟩
    replace HR := Lib.hid HR
    clear hr
    go_enter Tryd.func18, Tryd.ntmps18
    go_wp2_with fail
    refine (rread_x _ _ _ _ _ va 0 0 r false false HR.out).mono ?_
    rintro e w1 ⟨rfl, b1⟩
    go_wp2_with fail
    go_ret2
    exact ⟨none, 0, 0, rfl, sees_nil _ _, below_new (below_new b1)⟩

theorem ents_good {xs vs : List Int} {n : Nat} (hn : n ≤ 17592186044416) (hv : ∀ x ∈ vs, (Lit.int .u64 x).wf = true) (hl : vs.length = n) : ∀ x ∈ entsL xs vs n, en.good x := fun x hx => by
  unfold entsL at hx
  obtain ⟨i, hi, rfl⟩ := List.mem_map.1 hx
  obtain ⟨h1, h2⟩ := mem_diffs hi
  have h3 : vs.getD i.toNat 0 ∈ vs := by
    rw [List.getD_eq_getElem?_getD, List.getElem?_eq_getElem (by omega)]
    exact List.getElem_mem _
  have h4 := St.u64_of_wf (hv _ h3)
  exact ⟨⟨by show -9223372036854775808 ≤ i; omega, by show i ≤ 9223372036854775807; omega⟩, ⟨h4.1, by have := h4.2; show vs.getD i.toNat 0 < _; omega⟩⟩
theorem ents_le (xs vs : List Int) (k : Nat) : (entsL xs vs k).length ≤ k := by
  rw [ents_len]
  exact diffs_len xs vs k
set_option maxHeartbeats 1000000 in
theorem rheal_any (a : Option Addr) (n c : Nat) (xs : List Int) (w : World) (va : Sees w .u64 a n c xs) (hn : n ≤ 4398046511104) :
    Calls Tryd.prog 19 #[.slice a n c] w (GivesEnts w (healL xs) (twE xs)) := by
  have hlx := va.len
  have htop := va.top
  have hvw := view_wf va.wf
  by_cases h : twE xs = 0
  · have hi := (tw_inv h).1
    have hb := img_bd hi
    have hvl : (viewL xs).length = n := by rw [(view_tw h).2.2.2.2.2.2, hlx]
    have hH : healL xs = entsL xs (viewL xs) n := by
      unfold healL
      rw [if_pos h, hlx]
    rw [h, hH]
    have rv := rview_any a n c xs w va
    rw [h] at rv
    generalize viewL xs = V at hvw hvl rv ⊢
    obtain ⟨b0, o0, rfl⟩ := va.lies (by omega)
    go_enter Tryd.func19, Tryd.ntmps19
    go_wp2_with fail
    refine rv.mono ?_
    rintro e w1 ⟨a1, n1, c1, rfl, S1, b1⟩
    obtain rfl : n1 = n := by rw [← S1.len, hvl]
    obtain ⟨b2, o2, rfl⟩ := S1.lies (by omega)
    go_wp2_with fail
    go_loopw [6, 7] (fun v i wr => ∃ k : Nat, k ≤ n1 ∧ i = .int .i64 k ∧ GrowsR en 57 w1 wr v (entsL xs V k)) (fun _ i _ => n1 - (intOf i).toNat)
    case atStart => exact ⟨0, Nat.zero_le _, rfl, GrowsR.nil _ _ _⟩
    case round =>
      obtain ⟨k, hk, rfl, hG⟩ := hrel
      by_cases hlt : k < n1
      · have c1' := (S1.keep hG.below).at k hlt
        have c2 := (va.keep (below_then b1 hG.below)).at k hlt
        have hdl := ents_le xs V k
        have wx := S1.num hlt
        by_cases he : xs.getD k 0 = V.getD k 0
        · have HE := Lib.hid (ents_same he)
          rw [he] at c2
          clear he
          generalize V.getD k 0 = y at c1' c2
          go_wp2_with fail
          go_quiet (fail)
          go_wp2_with fail
          go_roundw
          case rel => exact ⟨k + 1, by omega, by go_num, by rw [HE.out]; exact hG.keep (below_drewN (Below.refl _ _) _)⟩
          case measure => simp [intOf]; omega
        · have HE := Lib.hid (ents_other he)
          have hb : (V.getD k 0 != xs.getD k 0) = true := by simpa using fun hh => he hh.symm
          clear he
          generalize V.getD k 0 = x at c1' hb HE wx
          generalize xs.getD k 0 = y at c2 hb
          have hgd : en.good ⟨(k : Int), x⟩ := ⟨⟨by show -9223372036854775808 ≤ (k : Int); omega, by show (k : Int) ≤ 9223372036854775807; omega⟩, by
            have := St.u64_of_wf wx
            exact ⟨this.1, by have := this.2; show x < _; omega⟩⟩
          clear wx
          go_wp2_with fail
          go_quiet (fail)
          go_wp2_with (at_builtin; refine wp_appendR rfl (.tmp 31) (.tmp 38) 31 rfl en 57 Tryd.underlying31 _ 16 info_entry rfl (by decide) w1 _ (entsL xs V k) rfl (hG.keep (below_new (below_drewN (Below.refl _ _) _))) _ 1 1 [⟨(k : Int), x⟩] rfl (sees_entry (wr.drewN nq) ⟨(k : Int), x⟩ hgd) (by simp [en]; omega) ?_)
          intro v1 w2 G1
          go_wp2
          go_roundw
          case rel => exact ⟨k + 1, by omega, by go_num, by rw [HE.out]; exact G1⟩
          case measure => simp [intOf]; omega
      · obtain rfl : k = n1 := by omega
        obtain ⟨a3, c3, rfl, M3⟩ := hG.made
        have S3 := M3.sees (ents_good (by omega) hvw hvl) (by have := ents_le xs V k; show _ * 2 ≤ _; omega)
        have C3 := below_then b1 hG.below
        clear hG M3
        go_wp2_with fail
        go_ret2
        exact ⟨a3, _, c3, rfl, S3, C3⟩
  · obtain ⟨_, _, _, z4, z5⟩ := tw_zero h
    have rv := rview_any a n c xs w va
    rw [z4] at rv
    rw [z5]
    clear z4 z5
    generalize twE xs = r at h rv ⊢
    go_enter Tryd.func19, Tryd.ntmps19
    go_wp2_with fail
    refine rv.mono ?_
    rintro e w1 ⟨a1, n1, c1, rfl, S1, b1⟩
    go_wp2_with fail
    go_ret2
    exact ⟨none, 0, 0, rfl, sees_noents _, b1⟩

end Go.Proofs.YtepiiiekcmbpaaaDoor.Tw
