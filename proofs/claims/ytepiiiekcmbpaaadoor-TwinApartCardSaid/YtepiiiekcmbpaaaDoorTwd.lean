/-
  Contracts of package twin: View, Heal.
-/
import Derived.Test.YtepiiiekcmbpaaaDoorTwc
namespace Go.Proofs.YtepiiiekcmbpaaaDoor.Tw
open Go.RowKit Go.Proofs.YtepiiiekcmbpaaaDoor.Gv Go.Proofs.YtepiiiekcmbpaaaDoor.Sl Go.Proofs.YtepiiiekcmbpaaaDoor.St Go.Proofs.YtepiiiekcmbpaaaDoor.Bits Go.Proofs.YtepiiiekcmbpaaaDoor.Wd Go.Proofs.YtepiiiekcmbpaaaDoor.Su Go.Proofs.YtepiiiekcmbpaaaDoor.Ir Go.Proofs.YtepiiiekcmbpaaaDoor.Sb Go.Proofs.YtepiiiekcmbpaaaDoor.Iu Go.Proofs.YtepiiiekcmbpaaaDoor.Ip Go.Proofs.YtepiiiekcmbpaaaDoor.Dv
set_option maxRecDepth 100000

theorem nread_x (a : Option Addr) (n c : Nat) (xs : List Int) (w : World) (va : Sees w .u64 a n c xs) (GV : NoSb w) (W T r : Int) (p q : Bool) (h : twE xs = r ∧ twW xs = W ∧ twT xs = T ∧ twA xs 0 = p ∧ twA xs 1 = q) :
    Calls Tryd.prog 10 #[.slice a n c] w fun e w' => e = .returned (.tuple #[.agg #[.int .i64 W, .int .i64 T], .agg #[.bool p, .bool q], .int .i64 r]) ∧ Below w.heap.size w w' := by
  obtain ⟨rfl, rfl, rfl, rfl, rfl⟩ := h
  exact read_any a n c xs w va GV
theorem nput_x (a : Option Addr) (n c : Nat) (p : Int) (b : Option Addr) (m d : Nat) (xs ys zs : List Int) (w : World) (va : Sees w .u64 a n c xs) (vb : Sees w .u64 b m d ys) (h1 : putLI xs n p ys m = zs) (h2 : getE n p m = 0) (hn : zs.length = n) :
    Calls Tryd.prog 22 #[.slice a n c, .int .i64 p, .slice b m d] w fun e w' => ∃ a' c', e = .returned (.tuple #[.slice a' n c', .int .i64 0]) ∧ Sees w' .u64 a' n c' zs ∧ Below w.heap.size w w' := by
  subst h1
  refine (put_any a n c p b m d xs ys w va vb).mono ?_
  rintro e w' ⟨a', n', c', rfl, S, B⟩
  rw [h2]
  obtain rfl : n' = n := by rw [← S.len, hn]
  exact ⟨a', c', rfl, S, B⟩
theorem put_both {xs X : List Int} {n : Nat} (hi : Img n) (hl : xs.length = n) (hX : X.length = 8) :
    putLI xs n 0 X 8 = X ++ xs.drop 8 ∧ putLI (X ++ xs.drop 8) n 8 X 8 = X ++ (X ++ xs.drop 16) ∧ getE n 0 8 = 0 ∧ getE n 8 8 = 0 ∧ (X ++ xs.drop 8).length = n ∧ (X ++ (X ++ xs.drop 16)).length = n := by
  have hb := img_bd hi
  have t0 : There n 0 8 := ⟨by omega, by omega, by omega, by omega⟩
  have t8 : There n 8 8 := ⟨by omega, by omega, by omega, by omega⟩
  refine ⟨?_, ?_, ?_, ?_, ?_, ?_⟩
  · unfold putLI
    rw [if_pos ⟨hi, t0⟩]
    unfold putL
    rw [hX]
    rfl
  · unfold putLI
    rw [if_pos ⟨hi, t8⟩]
    unfold putL
    rw [hX, show Int.toNat 8 = 8 from rfl, List.take_left' hX, List.drop_append, List.drop_of_length_le (by omega), List.drop_drop, hX]
    rfl
  · unfold getE
    rw [if_pos hi, if_pos t0]
  · unfold getE
    rw [if_pos hi, if_pos t8]
  · rw [List.length_append, List.length_drop]
    omega
  · rw [List.length_append, List.length_append, List.length_drop]
    omega
set_option maxHeartbeats 1000000 in
theorem view_any (a : Option Addr) (n c : Nat) (xs : List Int) (w : World) (va : Sees w .u64 a n c xs) (GV : NoSb w) :
    Calls Tryd.prog 12 #[.slice a n c] w (GivesSeen .u64 w (viewL xs) (twE xs)) := by
  have hlx := va.len
  by_cases h : twE xs = 0
  · obtain ⟨hW, hg, _⟩ := tw_sb h
    have hi : Img n := by rw [← hlx]; exact (tw_inv h).1
    have hg' : IsSb (twW xs) (twT xs) := by rw [hW]; exact hg
    have e : viewL xs = bothI (twW xs) (twT xs) xs := if_pos h
    obtain ⟨p1, p2, p3, p4, p5, p6⟩ := put_both hi hlx (words_len (twW xs) (twT xs))
    have HX := Lib.hid (words_wf hg')
    have HL := Lib.hid (words_len (twW xs) (twT xs))
    rw [e, h]
    unfold bothI
    obtain ⟨p, hP⟩ : ∃ p, twA xs 0 = p := ⟨_, rfl⟩
    obtain ⟨q, hQ⟩ : ∃ q, twA xs 1 = q := ⟨_, rfl⟩
    clear hW hg e
    generalize hW : twW xs = W at hg' p1 p2 p5 p6 HX HL ⊢
    generalize hT : twT xs = T at hg' p1 p2 p5 p6 HX HL ⊢
    have HR := Lib.hid (show twE xs = 0 ∧ twW xs = W ∧ twT xs = T ∧ twA xs 0 = p ∧ twA xs 1 = q from ⟨h, hW, hT, hP, hQ⟩)
    clear h hW hT hP hQ
    generalize hX : wordsI W T = X at p1 p2 p5 p6 HX HL ⊢
    generalize hY : X ++ xs.drop 8 = Y at p1 p2 p5
    generalize hZ : X ++ (X ++ xs.drop 16) = Z at p2 p6 ⊢
    replace p1 := Lib.hid p1
    replace p2 := Lib.hid p2
    replace p3 := Lib.hid p3
    replace p4 := Lib.hid p4
    replace p5 := Lib.hid p5
    replace p6 := Lib.hid p6
    replace hX := Lib.hid hX
    clear hY hZ hlx hi
    go_enter Tryd.func12, Tryd.ntmps12
    go_wp2_with fail
    refine (nread_x _ _ _ _ _ va GV W T 0 p q HR.out).mono ?_
    rintro e w1 ⟨rfl, b1⟩
    have C1 := below_new (o := .cells #[.bool p, .bool q] 27) (below_new (o := .cells #[.int .i64 W, .int .i64 T] 26) b1)
    have X1 := (Box.new w1 #[.int .i64 W, .int .i64 T] 26).alloc (.cells #[.bool p, .bool q] 27)
    have x0 : _ = some (Value.int .i64 W) := X1.cell 0
    have x1 : _ = some (Value.int .i64 T) := X1.cell 1
    go_wp2_with fail
    refine (write_x W T _ hg' X hX.out).mono ?_
    rintro e w2 ⟨g2, c2, rfl, hc2, G2⟩
    have C2 := below_then C1 G2.below
    have S2 := grows_look G2 HX.out (by rw [HL.out]; decide)
    clear x0 x1 X1
    go_wp2_with fail
    refine (nput_x a n c 0 _ _ _ _ _ Y _ (va.keep C2) S2 p1.out p3.out p5.out).mono ?_
    rintro e w3 ⟨a3, c3, rfl, S3, b3⟩
    go_wp2_with fail
    refine (nput_x a3 n c3 8 _ _ _ _ _ Z _ S3 (S2.keep b3) p2.out p4.out p6.out).mono ?_
    rintro e w4 ⟨a4, c4, rfl, S4, b4⟩
    go_wp2
    go_ret2
    exact ⟨a4, n, c4, rfl, S4, below_then (below_then C2 b3) b4⟩
  · obtain ⟨z1, z2, z3, z4, _⟩ := tw_zero h
    have HR : twE xs = twE xs ∧ twW xs = 0 ∧ twT xs = 0 ∧ twA xs 0 = false ∧ twA xs 1 = false := ⟨rfl, z1, z2, z3 0, z3 1⟩
    rw [z4]
    clear z1 z2 z3 z4
    generalize hr : twE xs = r at h ⊢
    rw [hr] at HR
    replace HR : twE xs = r ∧ twW xs = 0 ∧ twT xs = 0 ∧ twA xs 0 = false ∧ twA xs 1 = false := ⟨hr, HR.2⟩
    replace HR := Lib.hid HR
    clear hr
    go_enter Tryd.func12, Tryd.ntmps12
    go_wp2_with fail
    refine (nread_x _ _ _ _ _ va GV 0 0 r false false HR.out).mono ?_
    rintro e w1 ⟨rfl, b1⟩
    go_wp2_with fail
    go_ret2
    exact ⟨none, 0, 0, rfl, sees_nil _ _, below_new (below_new b1)⟩
theorem nview_wf {xs : List Int} (hw : ∀ x ∈ xs, (Lit.int .u64 x).wf = true) : ∀ x ∈ viewL xs, (Lit.int .u64 x).wf = true := by
  by_cases h : twE xs = 0
  · obtain ⟨hW, hg, _⟩ := tw_sb h
    have e : viewL xs = bothI (twW xs) (twT xs) xs := if_pos h
    rw [e]
    have hg' : IsSb (twW xs) (twT xs) := by rw [hW]; exact hg
    intro x hx
    unfold bothI at hx
    rcases List.mem_append.1 hx with h1 | h1
    · exact words_wf hg' x h1
    · rcases List.mem_append.1 h1 with h2 | h2
      · exact words_wf hg' x h2
      · exact hw x (List.mem_of_mem_drop h2)
  · rw [(tw_zero h).2.2.2.1]
    simp
/-- The entries at the first addresses of a list. -/
def entsK (vs ds : List Int) (k : Nat) : List En := (ds.take k).map fun i => ⟨i, vs.getD i.toNat 0⟩
theorem ents_next {vs ds : List Int} {k : Nat} (h : k < ds.length) : entsK vs ds (k + 1) = entsK vs ds k ++ [⟨ds.getD k 0, vs.getD (ds.getD k 0).toNat 0⟩] := by
  unfold entsK
  rw [List.take_succ_eq_append_getElem h, List.map_append, List.getD_eq_getElem?_getD, List.getElem?_eq_getElem h]
  rfl
theorem entsK_len {vs ds : List Int} {k : Nat} (h : k ≤ ds.length) : (entsK vs ds k).length = k := by
  unfold entsK
  rw [List.length_map, List.length_take]
  omega
set_option maxHeartbeats 1000000 in
theorem heal_any (a : Option Addr) (n c : Nat) (xs : List Int) (w : World) (va : Sees w .u64 a n c xs) (GV : NoSb w) :
    Calls Tryd.prog 11 #[.slice a n c] w (GivesEnts w (healL xs) (twE xs)) := by
  have hlx := va.len
  have htop := va.top
  have hvw := nview_wf va.wf
  by_cases h : twE xs = 0
  · have hi : Img n := by rw [← hlx]; exact (tw_inv h).1
    have hb := img_bd hi
    have hvl : (viewL xs).length = n := by rw [(view_tw h).2.2.2.2.2.2, hlx]
    have hH : healL xs = entsK (viewL xs) (diffs xs (viewL xs) n) (diffs xs (viewL xs) n).length := by
      unfold healL entsL entsK
      rw [if_pos h, hlx, List.take_length]
    rw [h, hH]
    have rv := view_any a n c xs w va GV
    rw [h] at rv
    clear hH h
    generalize viewL xs = V at hvw hvl rv ⊢
    have hds := diffs_len xs V n
    have hdm : ∀ x ∈ diffs xs V n, 0 ≤ x ∧ x < n := fun x hx => mem_diffs hx
    have hdw := wf_diffs xs V n hb.2
    have rd := fun w' b d (va' : Sees w' .u64 a n c xs) (vb' : Sees w' .u64 b n d V) => diff_any a b n c n d xs V w' va' vb'
    rw [show diffL xs V n n = diffs xs V n from if_pos ⟨hi, rfl⟩, show diffE n n = 0 from by unfold diffE; rw [if_pos ⟨hi, hi⟩, if_pos rfl]] at rd
    generalize diffs xs V n = ds at hds hdm hdw rd ⊢
    replace hdm := Lib.hid hdm
    replace hdw := Lib.hid hdw
    replace hds := Lib.hid hds
    go_enter Tryd.func11, Tryd.ntmps11
    go_wp2_with fail
    refine rv.mono ?_
    rintro e w1 ⟨a1, n1, c1, rfl, S1, b1⟩
    obtain rfl : n1 = n := by rw [← S1.len, hvl]
    obtain ⟨b2, o2, rfl⟩ := S1.lies (by omega)
    go_wp2_with fail
    refine (rd _ _ _ (va.keep b1) S1).mono ?_
    rintro e w2 ⟨a2, m, c2, rfl, D2, b2'⟩
    have C2 := below_then b1 b2'
    have hml := D2.len
    have V2 := S1.keep b2'
    have hmn : m ≤ n1 := by rw [← hml]; exact hds.out
    clear rd rv
    go_wp2_with fail
    go_loopw [8, 27] (fun v i wr => ∃ k : Nat, k ≤ m ∧ i = .int .i64 k ∧ GrowsR en 57 w2 wr v (entsK V ds k)) (fun _ i _ => m - (intOf i).toNat)
    case atStart => exact ⟨0, Nat.zero_le _, rfl, GrowsR.nil _ _ _⟩
    case round =>
      obtain ⟨k, hk, rfl, hG⟩ := hrel
      by_cases hlt : k < m
      · obtain ⟨b3, o3, rfl⟩ := D2.lies (by omega)
        have k1 := (D2.keep hG.below).at k hlt
        have hkl : k < ds.length := by omega
        have hp : 0 ≤ ds.getD k 0 ∧ ds.getD k 0 < n1 := hdm.out _ (by
          rw [List.getD_eq_getElem?_getD, List.getElem?_eq_getElem hkl]
          exact List.getElem_mem _)
        have HE := Lib.hid (ents_next (vs := V) hkl)
        have HKL := Lib.hid (entsK_len (vs := V) (ds := ds) (k := k) (by omega))
        generalize ds.getD k 0 = x at k1 hp HE
        obtain ⟨j, rfl⟩ := Int.eq_ofNat_of_zero_le hp.1
        have hj : j < n1 := by omega
        have k2 := (V2.keep hG.below).at j hj
        have wx := V2.num hj
        rw [Int.toNat_natCast] at HE
        generalize V.getD j 0 = y at k2 wx HE
        have hgd : en.good ⟨(j : Int), y⟩ := ⟨⟨by show -9223372036854775808 ≤ (j : Int); omega, by show (j : Int) ≤ 9223372036854775807; omega⟩, by
          have := St.u64_of_wf wx
          exact ⟨this.1, by have := this.2; show y < _; omega⟩⟩
        clear wx hp
        go_wp2_with (at_builtin; refine wp_appendR rfl (.tmp 31) (.tmp 38) 31 rfl en 57 Tryd.underlying31 _ 16 info_entry rfl (by decide) w2 _ (entsK V ds k) rfl (hG.keep (below_new (Below.refl _ _))) _ 1 1 [⟨(j : Int), y⟩] rfl (sees_entry wr ⟨(j : Int), y⟩ hgd) (by rw [HKL.out]; simp [en]; omega) ?_)
        intro v1 w3 G1
        go_wp2
        go_roundw
        case rel => exact ⟨k + 1, by omega, by go_num, by rw [HE.out]; exact G1⟩
        case measure => simp [intOf]; omega
      · obtain rfl : k = m := by omega
        subst hml
        obtain ⟨a3, c3, rfl, M3⟩ := hG.made
        have S3 := M3.sees (fun x hx => by
          unfold entsK at hx
          obtain ⟨i, hi, rfl⟩ := List.mem_map.1 hx
          obtain ⟨h1, h2⟩ := hdm.out i (List.mem_of_mem_take hi)
          have h3 : V.getD i.toNat 0 ∈ V := by
            rw [List.getD_eq_getElem?_getD, List.getElem?_eq_getElem (by omega)]
            exact List.getElem_mem _
          have h4 := St.u64_of_wf (hvw _ h3)
          exact ⟨⟨by show -9223372036854775808 ≤ i; omega, by show i ≤ 9223372036854775807; omega⟩, ⟨h4.1, by have := h4.2; show V.getD i.toNat 0 < _; omega⟩⟩) (by rw [entsK_len (Nat.le_refl _)]; have := hds.out; show _ * 2 ≤ _; omega)
        have C3 := below_then C2 hG.below
        clear hG M3
        go_wp2_with fail
        go_ret2
        exact ⟨a3, _, c3, rfl, S3, C3⟩
  · obtain ⟨_, _, _, z4, z5⟩ := tw_zero h
    have rv := view_any a n c xs w va GV
    rw [z4] at rv
    rw [z5]
    clear z4 z5
    generalize twE xs = r at h rv ⊢
    go_enter Tryd.func11, Tryd.ntmps11
    go_wp2_with fail
    refine rv.mono ?_
    rintro e w1 ⟨a1, n1, c1, rfl, S1, b1⟩
    go_wp2_with fail
    go_ret2
    exact ⟨none, 0, 0, rfl, sees_noents _, b1⟩
end Go.Proofs.YtepiiiekcmbpaaaDoor.Tw
