/-
  The law TwinNames returns true; no condition.
-/
import Derived.Test.YtepiiiekcmbpaaaDoorTwn
import Derived.Test.YtepiiiekcmbpaaaDoorSal
import Derived.Test.YtepiiiekcmbpaaaDoorGl
namespace Go.Proofs.YtepiiiekcmbpaaaDoor.twinNames
open Go.ChangeShapes Go.WideShapes Go.ChangeAt Go.RowKit Go.Proofs.YtepiiiekcmbpaaaDoor.Gv Go.Proofs.YtepiiiekcmbpaaaDoor.Tw Go.Proofs.YtepiiiekcmbpaaaDoor.Sb Go.Proofs.YtepiiiekcmbpaaaDoor.Sl Go.Proofs.YtepiiiekcmbpaaaDoor.St Go.Proofs.YtepiiiekcmbpaaaDoor.Iu Go.Proofs.YtepiiiekcmbpaaaDoor.Ir Go.Proofs.YtepiiiekcmbpaaaDoor.Dv Go.Proofs.YtepiiiekcmbpaaaDoor.Su
set_option linter.unusedVariables false
set_option maxRecDepth 100000

set_option maxHeartbeats 8000000 in
theorem walk_main (w : World) (GV : NoSb w) (A B C Z1 Z2 Z3 Z4 ZZ : List Int) (L1 : List En) (HA : Hid (pairI 256 1 256 = A)) (HB : Hid (pairI 256 2 256 = B)) (HC : Hid (pairI 264 1 264 = C))
    (FA : Hid (A.length = 256 ∧ ∀ x ∈ A, (Lit.int .u64 x).wf = true)) (FB : Hid (B.length = 256 ∧ ∀ x ∈ B, (Lit.int .u64 x).wf = true)) (FC : Hid (C.length = 264 ∧ ∀ x ∈ C, (Lit.int .u64 x).wf = true))
    (H1 : Hid (A.take 8 ++ (B.drop 8).take 248 = Z1)) (H2 : Hid (C.take 8 ++ (B.drop 8).take 248 = Z2)) (H3 : Hid (C.take 16 ++ (A.drop 16).take 240 = Z3)) (H4 : Hid (A.take 255 = Z4)) (H5 : Hid (List.replicate 256 0 = ZZ))
    (F1 : Hid (Z1.length = 256 ∧ ∀ x ∈ Z1, (Lit.int .u64 x).wf = true)) (F2 : Hid (Z2.length = 256 ∧ ∀ x ∈ Z2, (Lit.int .u64 x).wf = true)) (F3 : Hid (Z3.length = 256 ∧ ∀ x ∈ Z3, (Lit.int .u64 x).wf = true)) (F5 : Hid (ZZ.length = 256 ∧ ∀ x ∈ ZZ, (Lit.int .u64 x).wf = true))
    (R1 : Hid (twE Z1 = 0 ∧ twW Z1 = 256 ∧ twT Z1 = 1 ∧ twA Z1 0 = true ∧ twA Z1 1 = true)) (V1 : Hid (twE Z1 = 0 ∧ viewL Z1 = A)) (L1h : Hid (twE Z1 = 0 ∧ healL Z1 = L1)) (L1l : Hid (L1.length = 2))
    (R2 : Hid (twE Z2 = 0 ∧ twW Z2 = 256 ∧ twT Z2 = 2 ∧ twA Z2 0 = false ∧ twA Z2 1 = true))
    (N3 : Hid ((twE Z3 = 50 ∧ twW Z3 = 0 ∧ twT Z3 = 0 ∧ twA Z3 0 = false ∧ twA Z3 1 = false) ∧ (twE Z3 = 50 ∧ viewL Z3 = []) ∧ (twE Z3 = 50 ∧ healL Z3 = [])))
    (N4 : Hid ((twE Z4 = 8 ∧ twW Z4 = 0 ∧ twT Z4 = 0 ∧ twA Z4 0 = false ∧ twA Z4 1 = false) ∧ (twE Z4 = 8 ∧ viewL Z4 = []) ∧ (twE Z4 = 8 ∧ healL Z4 = [])))
    (N5 : Hid ((twE ZZ = 50 ∧ twW ZZ = 0 ∧ twT ZZ = 0 ∧ twA ZZ 0 = false ∧ twA ZZ 1 = false) ∧ (twE ZZ = 50 ∧ viewL ZZ = []) ∧ (twE ZZ = 50 ∧ healL ZZ = [])))
    (N6 : Hid (twE [] = 8 ∧ viewL [] = [])) (LA : Hid (twE A = 0 ∧ healL A = [])) :
    Calls Tryd.prog 3 #[] w fun e w' => e = .returned (.bool true) ∧ Below w.heap.size w w' := by
  have W1 := fun w' => with7_any 1 256 w' good1
  have W2 := fun w' => with7_any 2 256 w' good2
  have W3 := fun w' => with7_any 1 264 w' good3
  have e1 : ((256 : Nat) : Int) = 256 := rfl
  have e2 : ((264 : Nat) : Int) = 264 := rfl
  rw [e1, HA.out] at W1
  rw [e1, HB.out] at W2
  rw [e2, HC.out] at W3
  clear e1 e2
  have CC : Below w.heap.size w w := Below.refl _ _
  go_enter Tryd.func3, Tryd.ntmps3
  go_wp2_with fail
  refine (W1 _).mono ?_
  rintro e u1 ⟨gA, cA, rfl, hcA, GG⟩
  have SA := grows_look GG FA.out.2 (by rw [FA.out.1]; decide)
  have bb := GG.below
  clear GG
  replace CC := below_then CC bb
  clear bb
  go_wp2_with fail
  refine (W2 _).mono ?_
  rintro e u2 ⟨gB, cB, rfl, hcB, GG⟩
  have SB := grows_look GG FB.out.2 (by rw [FB.out.1]; decide)
  have bb := GG.below
  clear GG
  replace SA := SA.keep bb
  replace CC := below_then CC bb
  clear bb
  go_wp2_with fail
  refine (W3 _).mono ?_
  rintro e u3 ⟨gC, cC, rfl, hcC, GG⟩
  have SC := grows_look GG FC.out.2 (by rw [FC.out.1]; decide)
  have bb := GG.below
  clear GG
  replace SA := SA.keep bb
  replace SB := SB.keep bb
  replace CC := below_then CC bb
  clear bb
  clear W1 W2 W3 HA HB HC
  have hA8 : (8 : Int) ≤ (cA : Int) := by omega
  have hB8 : (8 : Int) ≤ (cB : Int) := by omega
  have hC8 : (8 : Int) ≤ (cC : Int) := by omega
  have hA16 : (16 : Int) ≤ (cA : Int) := by omega
  have hC16 : (16 : Int) ≤ (cC : Int) := by omega
  have qA8 := run_upto gA 0 256 cA 8 8 rfl (by decide) (by omega)
  have qC8 := run_upto gC 0 264 cC 8 8 rfl (by decide) (by omega)
  have qC16 := run_upto gC 0 264 cC 16 16 rfl (by decide) (by omega)
  obtain ⟨dB, hdB, qB8⟩ := run_from gB 0 256 cB 8 8 rfl (by decide) (by omega)
  obtain rfl := hdB (by decide)
  obtain ⟨dA, hdA, qA16⟩ := run_from gA 0 256 cA 16 16 rfl (by decide) (by omega)
  obtain rfl := hdA (by decide)
  simp only [Nat.zero_add] at qB8 qA16
  clear hdA hdB
  go_wp2_with fail
  have G0 := (Grows.lit0 .u64 47 (Below.refl u3.heap.size u3)).keep (Below.drew (Below.refl _ _))
  have P0 := (SA.upto 8 (by decide)).keep G0.below
  have Q0 := SB.cut 8 248 (by decide) (ad := ⟨gB, 8, none⟩) (fun _ => rfl)
  go_region_held3 (fun _ => True)
    (trivial)
    (first
    | (refine step_append rfl (.tmp 64) (.tmp 66) 22 rfl .u64 47 Tryd.underlying22 info_word u3 _ _ rfl G0 _ 8 cA _ rfl P0 (by simp) ?_; intro v3 w3 G3; have Q3 := Q0.keep G3.below)
    | (refine step_append rfl (.tmp 67) (.tmp 69) 22 rfl .u64 47 Tryd.underlying22 info_word u3 _ _ rfl G3 _ 248 (cB - 8) _ rfl Q3 (by have := P0.len; simp only [List.length_append, List.length_nil]; omega) ?_; intro v4 u4 G4))
  have G6 : Grows .u64 47 u3 u4 v4 Z1 := by
    rw [← H1.out]
    first
      | exact G4
      | simpa [List.append_assoc] using G4
  clear G0 P0 Q0 G3 Q3 G4
  obtain ⟨a1, c1, rfl, S1⟩ := G6.sees F1.out.2 (by rw [F1.out.1]; decide)
  rw [F1.out.1] at S1 ⊢
  have bb := G6.below
  clear G6
  replace SA := SA.keep bb
  replace SB := SB.keep bb
  replace SC := SC.keep bb
  replace CC := below_then CC bb
  clear bb
  go_wp2_with fail
  refine (read_x _ _ _ _ _ S1 (by first | with_reducible exact GV | with_reducible exact GV.keep (by assumption)) 256 1 0 true true R1.out).mono ?_
  rintro e u5 ⟨rfl, bb⟩
  have X1 := (Box.new u5 #[.int .i64 256, .int .i64 1] 26).alloc (.cells #[.bool true, .bool true] 27)
  have Y1 := Box.new1 u5 (.cells #[.int .i64 256, .int .i64 1] 26) #[.bool true, .bool true] 27
  replace bb := below_new (o := .cells #[.bool true, .bool true] 27) (below_new (o := .cells #[.int .i64 256, .int .i64 1] 26) bb)
  replace SA := SA.keep bb
  replace SB := SB.keep bb
  replace SC := SC.keep bb
  replace S1 := S1.keep bb
  replace CC := below_then CC bb
  clear bb
  go_wp2_with fail
  refine (heal_x _ _ _ _ _ S1 (by first | with_reducible exact GV | with_reducible exact GV.keep (by assumption)) L1 0 L1h.out).mono ?_
  rintro e u6 ⟨ah1, nh1, ch1, rfl, SL, bb⟩
  obtain rfl : nh1 = 2 := by rw [← SL.len]; first | rfl | exact L1l.out
  clear SL
  replace SA := SA.keep bb
  replace SB := SB.keep bb
  replace SC := SC.keep bb
  replace S1 := S1.keep bb
  replace X1 := X1.keep bb
  replace Y1 := Y1.keep bb
  replace CC := below_then CC bb
  clear bb
  go_wp2_with fail
  refine (view_x _ _ _ _ _ S1 (by first | with_reducible exact GV | with_reducible exact GV.keep (by assumption)) A 0 V1.out).mono ?_
  rintro e u7 ⟨av1, nv1, cv1, rfl, SVv1, bb⟩
  replace SA := SA.keep bb
  replace SB := SB.keep bb
  replace SC := SC.keep bb
  replace S1 := S1.keep bb
  replace X1 := X1.keep bb
  replace Y1 := Y1.keep bb
  replace CC := below_then CC bb
  clear bb
  clear S1
  go_wp2_with fail
  have G0 := (Grows.lit0 .u64 47 (Below.refl u7.heap.size u7)).keep (Below.drew (Below.refl _ _))
  have P0 := (SC.upto 8 (by decide)).keep G0.below
  have Q0 := SB.cut 8 248 (by decide) (ad := ⟨gB, 8, none⟩) (fun _ => rfl)
  go_region_held3 (fun _ => True)
    (trivial)
    (first
    | (refine step_append rfl (.tmp 87) (.tmp 89) 22 rfl .u64 47 Tryd.underlying22 info_word u7 _ _ rfl G0 _ 8 cC _ rfl P0 (by simp) ?_; intro v3 w3 G3; have Q3 := Q0.keep G3.below)
    | (refine step_append rfl (.tmp 90) (.tmp 92) 22 rfl .u64 47 Tryd.underlying22 info_word u7 _ _ rfl G3 _ 248 (cB - 8) _ rfl Q3 (by have := P0.len; simp only [List.length_append, List.length_nil]; omega) ?_; intro v4 u8 G4))
  have G6 : Grows .u64 47 u7 u8 v4 Z2 := by
    rw [← H2.out]
    first
      | exact G4
      | simpa [List.append_assoc] using G4
  clear G0 P0 Q0 G3 Q3 G4
  obtain ⟨a2, c2, rfl, S2⟩ := G6.sees F2.out.2 (by rw [F2.out.1]; decide)
  rw [F2.out.1] at S2 ⊢
  have bb := G6.below
  clear G6
  replace SA := SA.keep bb
  replace SB := SB.keep bb
  replace SC := SC.keep bb
  replace X1 := X1.keep bb
  replace Y1 := Y1.keep bb
  replace SVv1 := SVv1.keep bb
  replace CC := below_then CC bb
  clear bb
  go_wp2_with fail
  refine (read_x _ _ _ _ _ S2 (by first | with_reducible exact GV | with_reducible exact GV.keep (by assumption)) 256 2 0 false true R2.out).mono ?_
  rintro e u9 ⟨rfl, bb⟩
  have X2 := (Box.new u9 #[.int .i64 256, .int .i64 2] 26).alloc (.cells #[.bool false, .bool true] 27)
  have Y2 := Box.new1 u9 (.cells #[.int .i64 256, .int .i64 2] 26) #[.bool false, .bool true] 27
  replace bb := below_new (o := .cells #[.bool false, .bool true] 27) (below_new (o := .cells #[.int .i64 256, .int .i64 2] 26) bb)
  replace SA := SA.keep bb
  replace SB := SB.keep bb
  replace SC := SC.keep bb
  replace X1 := X1.keep bb
  replace Y1 := Y1.keep bb
  replace SVv1 := SVv1.keep bb
  replace S2 := S2.keep bb
  replace CC := below_then CC bb
  clear bb
  clear S2 SB
  go_wp2_with fail
  generalize ((u9.alloc (.cells #[.int .i64 256, .int .i64 2] 26)).alloc (.cells #[.bool false, .bool true] 27)) = u10 at *
  have G0 := (Grows.lit0 .u64 47 (Below.refl u10.heap.size u10)).keep (Below.drew (Below.refl _ _))
  have P0 := (SC.upto 16 (by decide)).keep G0.below
  have Q0 := SA.cut 16 240 (by decide) (ad := ⟨gA, 16, none⟩) (fun _ => rfl)
  go_region_held3 (fun _ => True)
    (trivial)
    (first
    | (refine step_append rfl (.tmp 100) (.tmp 102) 22 rfl .u64 47 Tryd.underlying22 info_word u10 _ _ rfl G0 _ 16 cC _ rfl P0 (by simp) ?_; intro v3 w3 G3; have Q3 := Q0.keep G3.below)
    | (refine step_append rfl (.tmp 103) (.tmp 105) 22 rfl .u64 47 Tryd.underlying22 info_word u10 _ _ rfl G3 _ 240 (cA - 16) _ rfl Q3 (by have := P0.len; simp only [List.length_append, List.length_nil]; omega) ?_; intro v4 u11 G4))
  have G6 : Grows .u64 47 u10 u11 v4 Z3 := by
    rw [← H3.out]
    first
      | exact G4
      | simpa [List.append_assoc] using G4
  clear G0 P0 Q0 G3 Q3 G4
  obtain ⟨a3, c3, rfl, S3⟩ := G6.sees F3.out.2 (by rw [F3.out.1]; decide)
  rw [F3.out.1] at S3 ⊢
  have bb := G6.below
  clear G6
  replace SA := SA.keep bb
  replace SC := SC.keep bb
  replace X1 := X1.keep bb
  replace Y1 := Y1.keep bb
  replace SVv1 := SVv1.keep bb
  replace X2 := X2.keep bb
  replace Y2 := Y2.keep bb
  replace CC := below_then CC bb
  clear bb
  clear SC
  go_wp2_with fail
  refine (read_x _ _ _ _ _ S3 (by first | with_reducible exact GV | with_reducible exact GV.keep (by assumption)) 0 0 50 false false N3.out.1).mono ?_
  rintro e u12 ⟨rfl, bb⟩
  replace bb := below_new (o := .cells #[.bool false, .bool false] 27) (below_new (o := .cells #[.int .i64 0, .int .i64 0] 26) bb)
  replace SA := SA.keep bb
  replace X1 := X1.keep bb
  replace Y1 := Y1.keep bb
  replace SVv1 := SVv1.keep bb
  replace X2 := X2.keep bb
  replace Y2 := Y2.keep bb
  replace S3 := S3.keep bb
  replace CC := below_then CC bb
  clear bb
  go_wp2_with fail
  refine (heal_x _ _ _ _ _ S3 (by first | with_reducible exact GV | with_reducible exact GV.keep (by assumption)) [] 50 N3.out.2.2).mono ?_
  rintro e u13 ⟨ah3, nh3, ch3, rfl, SL, bb⟩
  obtain rfl : nh3 = 0 := by rw [← SL.len]; first | rfl | exact L1l.out
  clear SL
  replace SA := SA.keep bb
  replace X1 := X1.keep bb
  replace Y1 := Y1.keep bb
  replace SVv1 := SVv1.keep bb
  replace X2 := X2.keep bb
  replace Y2 := Y2.keep bb
  replace S3 := S3.keep bb
  replace CC := below_then CC bb
  clear bb
  go_wp2_with fail
  refine (view_x _ _ _ _ _ S3 (by first | with_reducible exact GV | with_reducible exact GV.keep (by assumption)) [] 50 N3.out.2.1).mono ?_
  rintro e u14 ⟨av3, nv3, cv3, rfl, SVv3, bb⟩
  replace SA := SA.keep bb
  replace X1 := X1.keep bb
  replace Y1 := Y1.keep bb
  replace SVv1 := SVv1.keep bb
  replace X2 := X2.keep bb
  replace Y2 := Y2.keep bb
  replace S3 := S3.keep bb
  replace CC := below_then CC bb
  clear bb
  clear SVv3
  clear S3
  have qA255 := run_upto gA 0 256 cA 255 255 rfl (by decide) (by omega)
  have hA255 : (255 : Int) ≤ (cA : Int) := by omega
  have S4 := SA.upto 255 (by decide)
  rw [H4.out] at S4
  go_wp2_with fail
  refine (read_x _ _ _ _ _ S4 (by first | with_reducible exact GV | with_reducible exact GV.keep (by assumption)) 0 0 8 false false N4.out.1).mono ?_
  rintro e u15 ⟨rfl, bb⟩
  replace bb := below_new (o := .cells #[.bool false, .bool false] 27) (below_new (o := .cells #[.int .i64 0, .int .i64 0] 26) bb)
  replace SA := SA.keep bb
  replace X1 := X1.keep bb
  replace Y1 := Y1.keep bb
  replace SVv1 := SVv1.keep bb
  replace X2 := X2.keep bb
  replace Y2 := Y2.keep bb
  replace S4 := S4.keep bb
  replace CC := below_then CC bb
  clear bb
  go_wp2_with fail
  refine (heal_x _ _ _ _ _ S4 (by first | with_reducible exact GV | with_reducible exact GV.keep (by assumption)) [] 8 N4.out.2.2).mono ?_
  rintro e u16 ⟨ah4, nh4, ch4, rfl, SL, bb⟩
  obtain rfl : nh4 = 0 := by rw [← SL.len]; first | rfl | exact L1l.out
  clear SL
  replace SA := SA.keep bb
  replace X1 := X1.keep bb
  replace Y1 := Y1.keep bb
  replace SVv1 := SVv1.keep bb
  replace X2 := X2.keep bb
  replace Y2 := Y2.keep bb
  replace S4 := S4.keep bb
  replace CC := below_then CC bb
  clear bb
  clear S4
  go_wp2_with fail
  refine (view_x _ _ _ _ _ (sees_nil _ .u64) (by first | with_reducible exact GV | with_reducible exact GV.keep (by assumption)) [] 8 N6.out).mono ?_
  rintro e u17 ⟨av4, nv4, cv4, rfl, SVv4, bb⟩
  replace SA := SA.keep bb
  replace X1 := X1.keep bb
  replace Y1 := Y1.keep bb
  replace SVv1 := SVv1.keep bb
  replace X2 := X2.keep bb
  replace Y2 := Y2.keep bb
  replace CC := below_then CC bb
  clear bb
  clear SVv4
  go_wp2_with (refine wp_makeX rfl (.const (.int .i64 256)) (.const (.int .i64 256)) 22 rfl .u64 47 Tryd.underlying22 info_word u17 (Below.refl _ _) .i64 .i64 256 256 256 rfl rfl rfl rfl (by decide) ZZ H5.out ?_)
  intro m5 G5
  have S5 := grows_look G5 F5.out.2 (by rw [F5.out.1]; decide)
  have bb := G5.below
  clear G5
  replace SA := SA.keep bb
  replace X1 := X1.keep bb
  replace Y1 := Y1.keep bb
  replace SVv1 := SVv1.keep bb
  replace X2 := X2.keep bb
  replace Y2 := Y2.keep bb
  replace CC := below_then CC bb
  clear bb
  go_wp2_with fail
  refine (read_x _ _ _ _ _ S5 (by first | with_reducible exact GV | with_reducible exact GV.keep (by assumption)) 0 0 50 false false N5.out.1).mono ?_
  rintro e u18 ⟨rfl, bb⟩
  replace bb := below_new (o := .cells #[.bool false, .bool false] 27) (below_new (o := .cells #[.int .i64 0, .int .i64 0] 26) bb)
  replace SA := SA.keep bb
  replace X1 := X1.keep bb
  replace Y1 := Y1.keep bb
  replace SVv1 := SVv1.keep bb
  replace X2 := X2.keep bb
  replace Y2 := Y2.keep bb
  replace S5 := S5.keep bb
  replace CC := below_then CC bb
  clear bb
  clear S5
  go_wp2_with fail
  refine (heal_x _ _ _ _ _ SA (by first | with_reducible exact GV | with_reducible exact GV.keep (by assumption)) [] 0 LA.out).mono ?_
  rintro e u19 ⟨ah5, nh5, ch5, rfl, SL, bb⟩
  obtain rfl : nh5 = 0 := by rw [← SL.len]; first | rfl | exact L1l.out
  clear SL
  replace SA := SA.keep bb
  replace X1 := X1.keep bb
  replace Y1 := Y1.keep bb
  replace SVv1 := SVv1.keep bb
  replace X2 := X2.keep bb
  replace Y2 := Y2.keep bb
  replace CC := below_then CC bb
  clear bb
  obtain ⟨x0, x1⟩ := box_pair X1
  obtain ⟨y0, y1⟩ := box_bools Y1
  have qb := eq_bools true true true true
  go_wp2_with fail
  refine (same_x av1 _ _ _ _ _ _ _ _ SVv1 SA true (decide_eq_true rfl)).mono ?_
  rintro e uz ⟨rfl, ez, hez⟩
  have bb : Below u19.heap.size u19 uz := by rw [← hez]; exact below_drewN (Below.refl _ _) _
  clear hez x0 x1 y0 y1 qb
  replace X2 := X2.keep bb
  replace Y2 := Y2.keep bb
  replace CC := below_then CC bb
  obtain ⟨x0, x1⟩ := box_pair X2
  obtain ⟨y0, y1⟩ := box_bools Y2
  have qb := eq_bools false true false true
  go_wp2_with fail
  refine (alive7_any _ (by first | with_reducible exact GV | with_reducible exact GV.keep (by assumption))).mono ?_
  rintro e wb ⟨rfl, b9⟩
  go_wp2
  go_ret
  exact ⟨rfl, below_then CC b9⟩
theorem wf_two {xs ys : List Int} {a b c d n : Nat} (hx : ∀ x ∈ xs, (Lit.int .u64 x).wf = true) (hy : ∀ x ∈ ys, (Lit.int .u64 x).wf = true) (hl : xs.length = a) (hm : ys.length = b) (hb : c ≤ a) (hd : d + c = b) (hn : b = n) : ((xs.take c) ++ (ys.drop c).take d).length = n ∧ ∀ x ∈ (xs.take c) ++ (ys.drop c).take d, (Lit.int .u64 x).wf = true := by
  constructor
  · rw [List.length_append, List.length_take, List.length_take, List.length_drop]
    omega
  · intro x h
    rcases List.mem_append.1 h with h1 | h1
    · exact hx x (List.mem_of_mem_take h1)
    · exact hy x (List.mem_of_mem_drop (List.mem_of_mem_take h1))
theorem walk (w : World) (GV : NoSb w) : Calls Tryd.prog 3 #[] w fun e w' => e = .returned (.bool true) ∧ Below w.heap.size w w' := by
  have hA : Two (pairI (256 : Nat) 1 256) 256 1 := two_pair (by decide)
  have hB : Two (pairI (256 : Nat) 2 256) 256 2 := two_pair (by decide)
  have hC : Two (pairI (264 : Nat) 1 264) 264 1 := two_pair (by decide)
  have hz : (pairI (256 : Nat) 1 256).drop 16 = (pairI (256 : Nat) 2 256).drop 16 := (both_copy _ _ _).2.2.trans (both_copy _ _ _).2.2.symm
  have wA := pair_wf (n := 256) good1
  have wB := pair_wf (n := 256) good2
  have wC := pair_wf (n := 264) good3
  obtain ⟨r1, v1, l1, r2, n3, n4, la⟩ := names_all hA hB hC hz
  have e1 : ((256 : Nat) : Int) = 256 := rfl
  have e2 : ((264 : Nat) : Int) = 264 := rfl
  have kA : pairI (256 : Nat) 1 256 = pairI 256 1 256 := rfl
  refine walk_main w GV (pairI (256 : Nat) 1 256) (pairI (256 : Nat) 2 256) (pairI (264 : Nat) 1 264) _ _ _ _ _ _ (Lib.hid rfl) (Lib.hid rfl) (Lib.hid rfl) (Lib.hid ⟨hA.1, wA⟩) (Lib.hid ⟨hB.1, wB⟩) (Lib.hid ⟨hC.1, wC⟩) (Lib.hid rfl) (Lib.hid rfl) (Lib.hid rfl) (Lib.hid rfl) (Lib.hid rfl)
    (Lib.hid (wf_two wA wB hA.1 hB.1 (by decide) (by decide) rfl)) (Lib.hid (wf_two wC wB hC.1 hB.1 (by decide) (by decide) rfl)) (Lib.hid (wf_two wC wA hC.1 hA.1 (by decide) (by decide) rfl)) (Lib.hid ⟨List.length_replicate, wf_zeros 256⟩)
    (Lib.hid r1) (Lib.hid ⟨r1.1, v1⟩) (Lib.hid ⟨r1.1, rfl⟩) (Lib.hid l1) (Lib.hid r2) (Lib.hid (tw_nothing n3 (by decide))) (Lib.hid (tw_nothing n4 (by decide))) (Lib.hid (tw_nothing zeros_none (by decide))) (Lib.hid ?_) (Lib.hid la)
  have h0 : twE [] = 8 := tw_bad (by
    intro h
    exact absurd h.1 (by decide))
  exact ⟨h0, (tw_zero (by rw [h0]; decide)).2.2.2.1⟩

/-! The row's step. -/
set_option maxRecDepth 100000 in
theorem lifted (os : Os) (started : os.Started) (H : Type) (enc : TypeId × Value → H) :
    ReturnsInHanded {} Tryd.checked os 3 .any (fun w args => (Rows.twinNamesSpec.pre enc Tryd.prog Tryd.f3 [] false w args ∧ laidMetH Tryd.prog Gv.laid1 w) ∧ sizedMet enc Tryd.prog Tryd.f3 (OpenSpec.ofChange Rows.twinNamesSpec) false w args) (Rows.twinNamesSpec.post enc Tryd.prog Tryd.f3 false true false false) := by
  refine returnsInHanded_of_change_and (C := Tryd.checked) (X := fun w _ => laidMetH Tryd.prog Gv.laid1 w) (fun _ _ _ hh h => h.of_heap hh) St.own started (by kernel_rfl) Tryd.func3
    (ChangeSpec.witness_shaped (enc := enc) (C := Tryd.checked) (os := os) (X := fun w _ => laidMetH Tryd.prog Gv.laid1 w) false (World.doorLaid Tryd.prog 400 os) #[] 8 rfl (World.shaped_of_RefB (by kernel_rfl) (by kernel_rfl)) (by kernel_rfl) (by kernel_rfl) (by kernel_rfl) (Gv.door_met os _)) ?_
  intro W base args ds gs before hval0 hW hcnd hsz0 hL _
  have hW' := hW
  obtain ⟨p, q, hA0, hV, rfl, hfz, hnd⟩ := hW
  have hA : DataW.TrodAll enc Tryd.prog W 0 (fun _ => true) true Tryd.f3.params.toList args.toList ds p := hA0
  rw [Tryd.params3] at hA
  obtain ⟨rfl, rfl, rfl⟩ := trodAll_none hA
  refine (walk  W (Gv.of_laid hL)).mono fun e W' ⟨he, hb⟩ => ?_
  subst he
  exact St.law_done St.laid (by kernel_rfl) rfl rfl Tryd.underlying4 rfl hW' hb

theorem over : Rows.twinNamesRow.holds Tryd.pinned (OpenSpec.ofChange Rows.twinNamesSpec) :=
  OpenClaim.holds_of_wide 3 Tryd.f3 rfl rfl rfl rfl rfl rfl rfl ⟨rfl, rfl, rfl, rfl, rfl⟩ rfl rfl rfl rfl rfl (by kernel_rfl) Tryd.func3 (by kernel_rfl)
    (of_decide_eq_true (by kernel_rfl)) (by unfold Func.isWrapper; first | (rw [if_pos (by decide +kernel)]; kernel_rfl) | (rw [if_neg (by decide +kernel)]; exact ⟨rfl, rfl⟩))
    (fun os started H enc _ => lifted os started H enc)
theorem proved : Rows.TwinNamesCardSaid :=
  Claim7.holds_tied_plain_at .later [] [.data] true Rows.twinNamesCard.stood.harness false over (fun _ h => by cases h) (by kernel_rfl) (fun _ h => by cases h) twinNames_row_tie rfl ⟨rfl, rfl⟩ (by kernel_rfl) rfl
    (fun f fn hf hfn => by
      obtain rfl : f = 3 := Option.some.inj ((show Tryd.prog.funcNamed "ballast/ballastlaw07.TwinNames" = some 3 by kernel_rfl).symm.trans hf) |>.symm
      obtain rfl : fn = Tryd.f3 := (Option.some.inj (Tryd.func3.symm.trans hfn)).symm
      exact ⟨by kernel_rfl, fun j t ht => by
        rw [Tryd.params3] at ht
        simp at ht⟩)
    (by kernel_rfl)
#print axioms proved
end Go.Proofs.YtepiiiekcmbpaaaDoor.twinNames
