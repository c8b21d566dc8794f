/-
  Package twin as the laws use it, and the chapter's examples.
-/
import Derived.Test.YtepiiiekcmbpaaaDoorTwv
import Derived.Test.YtepiiiekcmbpaaaDoorSbl
import Derived.Test.YtepiiiekcmbpaaaDoorTwq
import Derived.Test.YtepiiiekcmbpaaaDoorOwnr
import Derived.Deep.RegionHeld3
import Derived.SizedLaws
namespace Go.Proofs.YtepiiiekcmbpaaaDoor.Tw
open Go.RowKit Go.Proofs.YtepiiiekcmbpaaaDoor.Gv Go.Proofs.YtepiiiekcmbpaaaDoor.Sl Go.Proofs.YtepiiiekcmbpaaaDoor.St Go.Proofs.YtepiiiekcmbpaaaDoor.Bits Go.Proofs.YtepiiiekcmbpaaaDoor.Wd Go.Proofs.YtepiiiekcmbpaaaDoor.Su Go.Proofs.YtepiiiekcmbpaaaDoor.Ir Go.Proofs.YtepiiiekcmbpaaaDoor.Sb Go.Proofs.YtepiiiekcmbpaaaDoor.Iu Go.Proofs.YtepiiiekcmbpaaaDoor.Dv
set_option maxRecDepth 100000

theorem read_x (a : Option Addr) (n c : Nat) (xs : List Int) (w : World) (va : Sees w .u64 a n c xs) (GV : NoSb w) (W T r : Int) (p q : Bool) (h : twE xs = r ∧ twW xs = W ∧ twT xs = T ∧ twA xs 0 = p ∧ twA xs 1 = q) :
    Calls Tryd.prog 10 #[.slice a n c] w fun e w' => e = .returned (.tuple #[.agg #[.int .i64 W, .int .i64 T], .agg #[.bool p, .bool q], .int .i64 r]) ∧ Below w.heap.size w w' := by
  obtain ⟨rfl, rfl, rfl, rfl, rfl⟩ := h
  exact read_any a n c xs w va GV
theorem view_x (a : Option Addr) (n c : Nat) (xs : List Int) (w : World) (va : Sees w .u64 a n c xs) (GV : NoSb w) (V : List Int) (r : Int) (h : twE xs = r ∧ viewL xs = V) :
    Calls Tryd.prog 12 #[.slice a n c] w (GivesSeen .u64 w V r) := by
  obtain ⟨rfl, rfl⟩ := h
  exact view_any a n c xs w va GV
theorem heal_x (a : Option Addr) (n c : Nat) (xs : List Int) (w : World) (va : Sees w .u64 a n c xs) (GV : NoSb w) (L : List En) (r : Int) (h : twE xs = r ∧ healL xs = L) :
    Calls Tryd.prog 11 #[.slice a n c] w (GivesEnts w L r) := by
  obtain ⟨rfl, rfl⟩ := h
  exact heal_any a n c xs w va GV
theorem rsame_x (a : Option Addr) (n c : Nat) (b : Option Addr) (m d : Nat) (xs ys : List En) (w : World) (va : SeesR en w a n c xs) (vb : SeesR en w b m d ys) (r : Bool) (h : decide (xs = ys) = r) :
    Calls Tryd.prog 20 #[.slice a n c, .slice b m d] w fun e w' => e = .returned (.bool r) ∧ ∃ j, w.drewN j = w' := by
  subst h
  exact rsame_any a n c b m d xs ys w va vb
/-- An image of zeros with a superblock in both copies. -/
def pairI (W T : Int) (n : Nat) : List Int := bothI W T (List.replicate n 0)
theorem pair_len {W T : Int} {n : Nat} (hn : 16 ≤ n) : (pairI W T n).length = n := by
  unfold pairI
  rw [both_len (by rw [List.length_replicate]; exact hn), List.length_replicate]
theorem pair_wf {W T : Int} {n : Nat} (hg : IsSb W T) : ∀ x ∈ pairI W T n, (Lit.int .u64 x).wf = true := fun x hx => by
  unfold pairI bothI at hx
  rcases List.mem_append.1 hx with h1 | h1
  · exact words_wf hg x h1
  · rcases List.mem_append.1 h1 with h2 | h2
    · exact words_wf hg x h2
    · rw [List.eq_of_mem_replicate (List.mem_of_mem_drop h2)]
      decide
theorem new_x (n : Nat) (w : World) (h : Img n) (zs : List Int) (hz : List.replicate n 0 = zs) :
    Calls Tryd.prog 27 #[.int .i64 n] w fun e w' => ∃ a c, e = .returned (.tuple #[.slice a n c, .int .i64 0]) ∧ Sees w' .u64 a n c zs ∧ Below w.heap.size w w' := by
  subst hz
  refine (new_any n w).mono ?_
  rintro e w' ⟨a, m, c, rfl, S, b⟩
  unfold newL at S
  unfold newE
  rw [if_pos h] at S ⊢
  rw [Int.toNat_natCast] at S
  have hm := S.len
  rw [List.length_replicate] at hm
  subst hm
  exact ⟨a, c, rfl, S, b⟩
set_option maxHeartbeats 2000000 in
theorem with7_any (T : Int) (n : Nat) (w : World) (hg : IsSb n T) :
    Calls Tryd.prog 9 #[.agg #[.int .i64 n, .int .i64 T]] w fun e w' => ∃ g c, e = .returned (.tuple #[.slice (some ⟨g, 0, none⟩) n c, .bool true]) ∧ n ≤ c ∧ Grows .u64 47 w w' (.slice (some ⟨g, 0, none⟩) n c) (pairI n T n) := by
  have hi := hg.1
  have hb := img_bd hi
  have B1 := below_new (o := .cells #[.int .i64 n, .int .i64 T] 26) (Below.refl w.heap.size w)
  have X1 := Box.new w #[.int .i64 n, .int .i64 T] 26
  have hp := Lib.hid (show wordsI n T ++ (wordsI n T ++ ((List.replicate n 0).drop 16).take (n - 16)) = pairI n T n from by
    unfold pairI bothI
    rw [List.take_of_length_le (by rw [List.length_drop, List.length_replicate]; exact Nat.le_refl _)])
  have hpl := Lib.hid (pair_len (W := n) (T := T) (n := n) (by omega))
  have hpw := Lib.hid (pair_wf (n := n) hg)
  obtain ⟨zs, hz⟩ : ∃ zs, List.replicate n (0 : Int) = zs := ⟨_, rfl⟩
  rw [hz] at hp
  generalize pairI n T n = Y at hp hpl hpw ⊢
  replace hz := Lib.hid hz
  have hXl := Lib.hid (words_len n T)
  have hXw := Lib.hid (words_wf hg)
  obtain ⟨X, hX⟩ : ∃ X, wordsI n T = X := ⟨_, rfl⟩
  rw [hX] at hp hXl hXw
  replace hX := Lib.hid hX
  go_enter Tryd.func9, Tryd.ntmps9
  go_wp2_with fail
  refine (new_x n _ hi zs hz.out).mono ?_
  rintro e w1 ⟨a1, c1, rfl, S1, b1⟩
  have C1 := below_then B1 b1
  replace X1 := X1.keep b1
  have x0 : w1.cell? ⟨w.heap.size, 0, none⟩ = some (.int .i64 n) := X1.cell 0
  have x1 : w1.cell? ⟨w.heap.size, 1, none⟩ = some (.int .i64 T) := X1.cell 1
  go_wp2_with fail
  refine (write_x n T _ hg X hX.out).mono ?_
  rintro e w2 ⟨g2, c2, rfl, hc2, G2⟩
  have C2 := below_then C1 G2.below
  have S2 := grows_look G2 hXw.out (by rw [hXl.out]; decide)
  replace S1 := S1.keep G2.below
  clear x0 x1 X1 G2 C1 B1 b1
  obtain ⟨b0, o0, rfl⟩ := S1.lies (by omega)
  obtain ⟨ad, had, hrun⟩ := run_from b0 o0 n c1 16 16 rfl (by omega) S1.le
  have hn16 : (16 : Int) ≤ (n : Int) := by omega
  have hlec := S1.le
  have hle16 : (n : Int) ≤ (c1 : Int) := by omega
  have G0 := (Grows.lit0 .u64 47 (Below.refl w2.heap.size w2)).keep (Below.drew (Below.refl _ _))
  have V0 := S2.keep G0.below
  have hX8 := Lib.hid (show X.length ≤ 8 from by rw [hXl.out]; decide)
  go_wp2_with fail
  go_region_held3 (fun _ => True)
    (trivial)
    (first
    | (refine step_append rfl (.tmp 35) (.tmp 36) 22 rfl .u64 47 Tryd.underlying22 info_word w2 _ _ rfl G0 _ 8 c2 X rfl V0 (by simp) ?_; intro v3 w3 G3; have V3 := S2.keep G3.below)
    | (refine step_append rfl (.tmp 37) (.tmp 38) 22 rfl .u64 47 Tryd.underlying22 info_word w2 _ _ rfl G3 _ 8 c2 X rfl V3 (by have := hXl.out; simp only [List.length_append, List.length_nil]; omega) ?_; intro v4 w4 G4; have V4 := (S1.keep (below_then (Below.refl _ _) G4.below)).cut 16 (n - 16) (by omega) had)
    | (refine step_append rfl (.tmp 39) (.tmp 41) 22 rfl .u64 47 Tryd.underlying22 info_word w2 _ _ rfl G4 _ (n - 16) (c1 - 16) _ rfl V4 (by have := hXl.out; simp only [List.length_append, List.length_nil]; omega) ?_; intro v5 w5 G5))
  all_goals
    have G6 : Grows .u64 47 w2 w5 v5 Y := by
      rw [← hp.out]
      first
        | exact G5
        | simpa [List.append_assoc] using G5
    clear G3 G4 G5
    obtain ⟨a6, c6, rfl, M6⟩ := G6.made
    have G7 := (made_then M6 C2).grows
    rw [hpl.out] at G7 ⊢
    obtain ⟨g7, rfl⟩ := G7.at0 (by rw [hpl.out]; omega)
    have hle := (grows_look G7 hpw.out (by rw [hpl.out]; omega)).le
    clear G6 M6
    go_wp2
    go_ret2
    exact ⟨g7, c6, rfl, hle, G7⟩

/-- Comparing which copies are right. -/
theorem eq_bools (p q p' q' : Bool) (w : World) : (Op.equalIn 10000 27 (.agg #[.bool p, .bool q]) (.agg #[.bool p', .bool q'])).run Tryd.prog w = .ok (p == p' && q == q') w := by
  have hs : (Tryd.prog.info? 4).isSome = true := by kernel_rfl
  obtain ⟨i, hi⟩ := Option.isSome_iff_exists.1 hs
  have hc : Tryd.prog.cellsOf 4 = 1 := by kernel_rfl
  have u4 := Tryd.underlying4
  have a4 := Tryd.isAgg4
  have z4 := Tryd.sizeOf4
  rw [show (10000 : Nat) = 9999 + 1 from rfl, run_equalIn_array w 9999 _ _ Tryd.underlying27 hi, hc, show List.range 2 = [0, 1] from rfl]
  simp only [Op.eqItems]
  go_simp
  cases p <;> cases q <;> cases p' <;> cases q' <;> simp
theorem ex_good1 : IsSb 256 1 := ⟨⟨by decide, by decide, by decide⟩, by decide, by decide⟩
theorem ex_all : twE ((pairI 256 1 256).set 2 0) = 0 ∧ twW ((pairI 256 1 256).set 2 0) = 256 ∧ twT ((pairI 256 1 256).set 2 0) = 1 ∧ twA ((pairI 256 1 256).set 2 0) 0 = false ∧ twA ((pairI 256 1 256).set 2 0) 1 = true ∧
    healL ((pairI 256 1 256).set 2 0) = [⟨2, 256⟩] := by
  have hl : ((pairI 256 1 256).set 2 0).length = 256 := by rw [List.length_set, pair_len (by decide)]
  have hi : Img ((pairI 256 1 256).set 2 0).length := by rw [hl]; exact ex_good1.1
  have hg : IsSb (((pairI 256 1 256).set 2 0).length : Int) 1 := by rw [hl]; exact ex_good1
  have h0 : okI ((pairI 256 1 256).set 2 0) 0 = false := not_ok (by
    rw [copy_set0]
    have h := read_flip (g := 1) (K := 1) (i := 2) ex_good1 (by decide) (by decide) (by decide) 256 rfl 0 (by decide +kernel)
    have e : copyI (pairI 256 1 256) 0 = wordsI 256 1 := rfl
    rw [e, h]
    decide)
  have h1 : copyI ((pairI 256 1 256).set 2 0) 1 = wordsI (((pairI 256 1 256).set 2 0).length : Int) 1 := by
    rw [hl]
    rfl
  obtain ⟨a, b, c, d, e⟩ := tw_second hi hg h0 h1
  rw [hl] at b
  have hv := view_of a b c
  have hv' : viewL ((pairI 256 1 256).set 2 0) = pairI 256 1 256 := hv
  refine ⟨a, b, c, d, e, ?_⟩
  rw [heal_of a hv' hl]
  unfold entsL
  rw [diffs_set (by decide) (by rw [pair_len (by decide)]; decide) (by decide)]
  rfl
set_option maxHeartbeats 1000000 in
theorem alive7_any (w : World) (GV : NoSb w) : Calls Tryd.prog 14 #[] w fun e w' => e = .returned (.bool true) ∧ Below w.heap.size w w' := by
  have HA := ex_all
  have HL := Lib.hid (pair_len (W := 256) (T := 1) (n := 256) (by decide))
  have HF := Lib.hid (pair_wf (n := 256) ex_good1)
  have B1 := below_new (o := .cells #[.int .i64 256, .int .i64 1] 26) (Below.refl w.heap.size w)
  have X1 := Box.new w #[.int .i64 256, .int .i64 1] 26
  have HW := fun w' => with7_any 1 256 w' ex_good1
  have e256 : ((256 : Nat) : Int) = 256 := rfl
  rw [e256] at HW
  generalize pairI 256 1 256 = Y at HA HL HF HW
  have HR := Lib.hid (show twE (Y.set 2 0) = 0 ∧ twW (Y.set 2 0) = 256 ∧ twT (Y.set 2 0) = 1 ∧ twA (Y.set 2 0) 0 = false ∧ twA (Y.set 2 0) 1 = true from ⟨HA.1, HA.2.1, HA.2.2.1, HA.2.2.2.1, HA.2.2.2.2.1⟩)
  have HH := Lib.hid (show twE (Y.set 2 0) = 0 ∧ healL (Y.set 2 0) = [⟨2, 256⟩] from ⟨HA.1, HA.2.2.2.2.2⟩)
  clear HA
  go_enter Tryd.func14, Tryd.ntmps14
  go_wp2_with fail
  refine (HW _).mono ?_
  rintro e w1 ⟨g1, c1, rfl, hc1, G1⟩
  obtain ⟨r1, r2⟩ := G1.cellAt 2 (by rw [HL.out]; decide)
  have GS := G1.stored 2 0
  have S2 := grows_look GS (wfs_set HF.out (by decide)) (by rw [List.length_set, HL.out]; decide)
  have C2 := below_then B1 GS.below
  replace X1 := X1.keep GS.below
  clear GS
  go_wp2_with fail
  refine (read_x _ _ _ _ _ S2 (by first | with_reducible exact GV | with_reducible exact GV.keep (by assumption)) 256 1 0 false true HR.out).mono ?_
  rintro e w3 ⟨rfl, b3⟩
  have Y3 := (Box.new w3 #[.int .i64 256, .int .i64 1] 26).alloc (.cells #[.bool false, .bool true] 27)
  have Z3 := Box.new1 w3 (.cells #[.int .i64 256, .int .i64 1] 26) #[.bool false, .bool true] 27
  replace b3 := below_new (o := .cells #[.bool false, .bool true] 27) (below_new (o := .cells #[.int .i64 256, .int .i64 1] 26) b3)
  have C3 := below_then C2 b3
  replace S2 := S2.keep b3
  replace X1 := X1.keep b3
  clear b3 C2 r1 r2 G1
  go_wp2_with fail
  refine (heal_x _ _ _ _ _ S2 (by first | with_reducible exact GV | with_reducible exact GV.keep (by assumption)) [⟨2, 256⟩] 0 HH.out).mono ?_
  rintro e w4 ⟨a4, n4, c4, rfl, S4, b4⟩
  have C4 := below_then C3 b4
  replace X1 := X1.keep b4
  replace Y3 := Y3.keep b4
  replace Z3 := Z3.keep b4
  clear b4 C3 S2 HR HH
  have x0 : w4.cell? ⟨w.heap.size, 0, none⟩ = some (Value.int .i64 256) := X1.cell 0
  have x1 : w4.cell? ⟨w.heap.size, 1, none⟩ = some (Value.int .i64 1) := X1.cell 1
  have y0 : w4.cell? ⟨w3.heap.size, 0, none⟩ = some (Value.int .i64 256) := Y3.cell 0
  have y1 : w4.cell? ⟨w3.heap.size, 1, none⟩ = some (Value.int .i64 1) := Y3.cell 1
  have z0 : w4.cell? ⟨w3.heap.size + 1, 0, none⟩ = some (Value.bool false) := Z3.cell 0
  have z1 : w4.cell? ⟨w3.heap.size + 1, 1, none⟩ = some (Value.bool true) := Z3.cell 1
  have qb := eq_bools false true false true
  have hgd : en.good ⟨2, 256⟩ := ⟨⟨by decide, by decide⟩, ⟨by decide, by decide⟩⟩
  go_wp2_with fail
  refine (rsame_x _ _ _ _ _ _ _ _ _ (S4.keep (below_new (Below.refl _ _))) (sees_entry w4 ⟨2, 256⟩ hgd) true (decide_eq_true rfl)).mono ?_
  rintro e w5 ⟨rfl, j, rfl⟩
  go_wp2
  go_ret
  exact ⟨rfl, below_drewN (below_new C4) j⟩
end Go.Proofs.YtepiiiekcmbpaaaDoor.Tw
