/-
  Contracts of package super: Check, Write, Read (and told, sumOf), over the variable for no superblock.
-/
import Derived.Test.YtepiiiekcmbpaaaDoorSbp
import Derived.Test.YtepiiiekcmbpaaaDoorCut
import Derived.Test.YtepiiiekcmbpaaaDoorGv
import Derived.Test.YtepiiiekcmbpaaaDoorSal
import Derived.Test.YtepiiiekcmbpaaaDoorRecb
import Derived.LoopN
import Derived.Handy
import Derived.IntWalk
import Derived.WalkMore
import Derived.Laws.Cover3
namespace Go.Proofs.YtepiiiekcmbpaaaDoor.Sb
open Go.RowKit Go.Proofs.YtepiiiekcmbpaaaDoor.Sl Go.Proofs.YtepiiiekcmbpaaaDoor.St Go.Proofs.YtepiiiekcmbpaaaDoor.Bits Go.Proofs.YtepiiiekcmbpaaaDoor.Wd Go.Proofs.YtepiiiekcmbpaaaDoor.Su Go.Proofs.YtepiiiekcmbpaaaDoor.Ir Go.Proofs.YtepiiiekcmbpaaaDoor.Gv
set_option maxRecDepth 100000

def I64 (a : Int) : Prop := -9223372036854775808 ≤ a ∧ a ≤ 9223372036854775807
theorem check_any (W T : Int) (w : World) (hW : I64 W) (hT : I64 T) :
    Calls Tryd.prog 38 #[.agg #[.int .i64 W, .int .i64 T]] w fun e w' => e = .returned (.int .i64 (badE W T)) ∧ Below w.heap.size w w' := by
  obtain ⟨ht1, ht2⟩ := hT
  obtain ⟨hw1, hw2⟩ := hW
  have hc : W < 256 ∨ (256 ≤ W ∧ 2048 < W) ∨ (256 ≤ W ∧ W ≤ 2048 ∧ ¬ W % 8 = 0) ∨ (256 ≤ W ∧ W ≤ 2048 ∧ W % 8 = 0 ∧ T < 0) ∨ (256 ≤ W ∧ W ≤ 2048 ∧ W % 8 = 0 ∧ 0 ≤ T ∧ 8 < T) ∨ (256 ≤ W ∧ W ≤ 2048 ∧ W % 8 = 0 ∧ 0 ≤ T ∧ T ≤ 8) := by omega
  have B := below_new (o := .cells #[.int .i64 W, .int .i64 T] 26) (Below.refl w.heap.size w)
  rcases hc with h1 | ⟨h1, h2⟩ | ⟨h1, h2, h3⟩ | ⟨h1, h2, h3, h4⟩ | ⟨h1, h2, h3, h4, h5⟩ | ⟨h1, h2, h3, h4, h5⟩
  case' inr.inr.inl => have hb : (W % 8 == 0) = false := by simpa using h3
  case' inr.inr.inr.inl => have hb : (W % 8 == 0) = true := by simpa using h3
  case' inr.inr.inr.inr.inl => have hb : (W % 8 == 0) = true := by simpa using h3
  case' inr.inr.inr.inr.inr =>
    have hb : (W % 8 == 0) = true := by simpa using h3
    have E := Lib.hid (bad_ok (show IsSb W T from ⟨⟨h1, h2, h3⟩, h4, h5⟩))
  case' inr.inr.inr.inr.inl => have E := Lib.hid (bad_no (show ¬ IsSb W T from fun hh => by have := good_bd hh; omega))
  case' inr.inr.inr.inl => have E := Lib.hid (bad_no (show ¬ IsSb W T from fun hh => by have := good_bd hh; omega))
  case' inr.inr.inl => have E := Lib.hid (bad_no (show ¬ IsSb W T from fun hh => h3 hh.1.2.2))
  case' inr.inl => have E := Lib.hid (bad_no (show ¬ IsSb W T from fun hh => by have := good_bd hh; omega))
  case' inl => have E := Lib.hid (bad_no (show ¬ IsSb W T from fun hh => by have := good_bd hh; omega))
  all_goals go_enter Tryd.func38, Tryd.ntmps38
  all_goals go_wp2_with fail
  all_goals first | (exfalso; omega) | skip
  all_goals go_ret
  all_goals rw [E.out]
  all_goals exact ⟨rfl, B⟩
/-- An array's block, read as a list of eight. -/
theorem sees_block {w : World} {B : Nat} {x0 x1 x2 x3 x4 x5 x6 x7 : Int} {e : TypeId} (X : Box w B #[.int .u64 x0, .int .u64 x1, .int .u64 x2, .int .u64 x3, .int .u64 x4, .int .u64 x5, .int .u64 x6, .int .u64 x7] e)
    (h : ∀ x ∈ [x0, x1, x2, x3, x4, x5, x6, x7], (Lit.int .u64 x).wf = true) : Sees w .u64 (some ⟨B, 0, none⟩) 8 8 [x0, x1, x2, x3, x4, x5, x6, x7] := by
  refine ⟨rfl, Nat.le_refl 8, by decide, h, (fun hh => nomatch hh), .inr ⟨B, 0, rfl, fun i hi => ?_⟩⟩
  rw [Nat.zero_add, X.cell i]
  rcases (by omega : i = 0 ∨ i = 1 ∨ i = 2 ∨ i = 3 ∨ i = 4 ∨ i = 5 ∨ i = 6 ∨ i = 7) with rfl | rfl | rfl | rfl | rfl | rfl | rfl | rfl <;> rfl
theorem sumOf_any (x0 x1 x2 x3 x4 x5 x6 x7 : Int) (w : World) (h : ∀ x ∈ [x0, x1, x2, x3, x4, x5, x6, x7], (Lit.int .u64 x).wf = true) (S : Int) (hS : behI firstI [x0, x1, x2, x3, x4, x5, x6] = S) :
    Calls Tryd.prog 39 #[.agg #[.int .u64 x0, .int .u64 x1, .int .u64 x2, .int .u64 x3, .int .u64 x4, .int .u64 x5, .int .u64 x6, .int .u64 x7]] w fun e w' => e = .returned (.int .u64 S) ∧ Below w.heap.size w w' := by
  have B := below_new (o := .cells #[.int .u64 x0, .int .u64 x1, .int .u64 x2, .int .u64 x3, .int .u64 x4, .int .u64 x5, .int .u64 x6, .int .u64 x7] 72) (Below.refl w.heap.size w)
  have V := (sees_block (Box.new w _ 72) h).upto 7 (by decide)
  go_enter Tryd.func39, Tryd.ntmps39
  go_wp2_with fail
  refine (of_x _ _ _ _ _ V (by decide) S hS).mono ?_
  rintro e w1 ⟨rfl, b1⟩
  go_wp2
  go_ret
  exact ⟨rfl, below_then B b1⟩
theorem seven_wf {W T : Int} (h1 : 256 ≤ W) (h2 : W ≤ 2048) (h3 : 0 ≤ T) (h4 : T ≤ 8) : ∀ x ∈ [32777959566500194, 1, W, T, 0, 0, 0, 0], (Lit.int .u64 x).wf = true := fun x hx => by
  simp only [List.mem_cons, List.not_mem_nil, or_false] at hx
  rcases hx with rfl | rfl | rfl | rfl | rfl | rfl | rfl | rfl <;> exact wf_word (by omega)
theorem write_any (W T : Int) (w : World) (hW : I64 W) (hT : I64 T) :
    Calls Tryd.prog 28 #[.agg #[.int .i64 W, .int .i64 T]] w (GivesPair .u64 72 w (wroteI W T) (badE W T)) := by
  have B1 := below_new (o := .cells #[.int .i64 W, .int .i64 T] 26) (Below.refl w.heap.size w)
  have X := Box.new w #[.int .i64 W, .int .i64 T] 26
  by_cases h : IsSb W T
  · rw [bad_ok h, wrote_ok h]
    have E := Lib.hid (bad_ok h)
    have hb := good_bd h
    have hF := Lib.hid (seven_wf hb.1 hb.2.1 hb.2.2.1 hb.2.2.2)
    have HW2 : IntKind.u64.wrap W = W := by rw [IntKind.wrap_u64]; omega
    have HT2 : IntKind.u64.wrap T = T := by rw [IntKind.wrap_u64]; omega
    go_enter Tryd.func28, Tryd.ntmps28
    go_wp2_with fail
    refine (check_any W T _ hW hT).mono ?_
    rintro e w1 ⟨rfl, b1⟩
    rw [E.out]
    have C1 := below_then B1 b1
    replace X := X.keep b1
    have x0 : w1.cell? ⟨w.heap.size, 0, none⟩ = some (.int .i64 W) := X.cell 0
    have x1 : w1.cell? ⟨w.heap.size, 1, none⟩ = some (.int .i64 T) := X.cell 1
    go_wp2_with fail
    refine (sumOf_any _ _ _ _ _ _ _ _ _ hF.out (sumS W T) rfl).mono ?_
    rintro e w2 ⟨rfl, b2⟩
    have X2 := (Box.new w1 #[.int .u64 32777959566500194, .int .u64 1, .int .u64 W, .int .u64 T, .int .u64 0, .int .u64 0, .int .u64 0, .int .u64 0] 72).keep b2
    have y7 : w2.cell? ⟨w1.heap.size, 7, none⟩ = some (.int .u64 0) := X2.cell 7
    have g7 := X2.soft 7
    have hl2 := X2.lt
    have C2 := below_then (below_new C1) b2
    have hs1 := C1.size
    have X3 := X2.set 7 (.int .u64 (sumS W T))
    have C3 := Below.setCell (p := ⟨w1.heap.size, 7, none⟩) C2 hs1 (.int .u64 (sumS W T))
    go_wp2
    go_ret2
    exact ⟨_, 8, rfl, ⟨rfl, .inr ⟨w1.heap.size, 8, _, rfl, hs1, X3, Nat.le_refl 8, by decide, rfl, rfl⟩⟩, C3⟩
  · rw [bad_no h, wrote_no h]
    have E := Lib.hid (bad_no h)
    go_enter Tryd.func28, Tryd.ntmps28
    go_wp2_with fail
    refine (check_any W T _ hW hT).mono ?_
    rintro e w1 ⟨rfl, b1⟩
    rw [E.out]
    have C := below_then B1 b1
    go_wp2
    go_ret2
    exact ⟨none, 0, rfl, World.ownsRow_nil _ _ _ _, C⟩
/-- An element of eight words by value. -/
theorem idxw (b0 b1 b2 b3 b4 b5 b6 b7 : Int) : (∀ w, (Instr.index 72 (.agg #[.int .u64 b0, .int .u64 b1, .int .u64 b2, .int .u64 b3, .int .u64 b4, .int .u64 b5, .int .u64 b6, .int .u64 b7]) (.int .i64 0)).run Tryd.prog w = .ok (.int .u64 b0) w) ∧ (∀ w, (Instr.index 72 (.agg #[.int .u64 b0, .int .u64 b1, .int .u64 b2, .int .u64 b3, .int .u64 b4, .int .u64 b5, .int .u64 b6, .int .u64 b7]) (.int .i64 1)).run Tryd.prog w = .ok (.int .u64 b1) w) ∧ (∀ w, (Instr.index 72 (.agg #[.int .u64 b0, .int .u64 b1, .int .u64 b2, .int .u64 b3, .int .u64 b4, .int .u64 b5, .int .u64 b6, .int .u64 b7]) (.int .i64 2)).run Tryd.prog w = .ok (.int .u64 b2) w) ∧ (∀ w, (Instr.index 72 (.agg #[.int .u64 b0, .int .u64 b1, .int .u64 b2, .int .u64 b3, .int .u64 b4, .int .u64 b5, .int .u64 b6, .int .u64 b7]) (.int .i64 3)).run Tryd.prog w = .ok (.int .u64 b3) w) ∧ (∀ w, (Instr.index 72 (.agg #[.int .u64 b0, .int .u64 b1, .int .u64 b2, .int .u64 b3, .int .u64 b4, .int .u64 b5, .int .u64 b6, .int .u64 b7]) (.int .i64 4)).run Tryd.prog w = .ok (.int .u64 b4) w) ∧ (∀ w, (Instr.index 72 (.agg #[.int .u64 b0, .int .u64 b1, .int .u64 b2, .int .u64 b3, .int .u64 b4, .int .u64 b5, .int .u64 b6, .int .u64 b7]) (.int .i64 5)).run Tryd.prog w = .ok (.int .u64 b5) w) ∧ (∀ w, (Instr.index 72 (.agg #[.int .u64 b0, .int .u64 b1, .int .u64 b2, .int .u64 b3, .int .u64 b4, .int .u64 b5, .int .u64 b6, .int .u64 b7]) (.int .i64 6)).run Tryd.prog w = .ok (.int .u64 b6) w) ∧ (∀ w, (Instr.index 72 (.agg #[.int .u64 b0, .int .u64 b1, .int .u64 b2, .int .u64 b3, .int .u64 b4, .int .u64 b5, .int .u64 b6, .int .u64 b7]) (.int .i64 7)).run Tryd.prog w = .ok (.int .u64 b7) w) :=
  ⟨fun _ => by kernel_rfl, fun _ => by kernel_rfl, fun _ => by kernel_rfl, fun _ => by kernel_rfl, fun _ => by kernel_rfl, fun _ => by kernel_rfl, fun _ => by kernel_rfl, fun _ => by kernel_rfl⟩
theorem bad00 : badE 0 0 = 8 := bad_no (by decide)
theorem take_snoc {xs ys : List Int} {k : Nat} (h : xs.take k = ys.take k) (h1 : k < xs.length) (h2 : k < ys.length) : xs.take (k + 1) = ys.take (k + 1) ↔ xs[k] = ys[k] := by
  rw [List.take_succ_eq_append_getElem h1, List.take_succ_eq_append_getElem h2, h]
  constructor
  · intro hh
    have := List.append_cancel_left hh
    injection this
  · intro hh
    rw [hh]
/-- A number that is cut at a limit. -/
def cutI (x m : Int) : Int := if m < x then m else x
theorem sb_cut {W T : Int} : IsSb (cutI W 2049) (cutI T 9) ↔ IsSb W T := by
  unfold IsSb Img cutI
  split <;> split <;> constructor <;> omega
theorem cut_good {W T : Int} (h : IsSb W T) : cutI W 2049 = W ∧ cutI T 9 = T := by
  have := good_bd h
  unfold cutI
  constructor <;> split <;> omega
theorem bad_cut (W T : Int) : badE (cutI W 2049) (cutI T 9) = badE W T := by
  unfold badE
  by_cases h : IsSb W T
  · rw [if_pos h, if_pos (sb_cut.2 h)]
  · rw [if_neg h, if_neg (fun hh => h (sb_cut.1 hh))]
theorem cut_bd {x m : Int} (h : 0 ≤ x) (hm : 0 ≤ m) (hM : m ≤ 3000) : -9223372036854775808 ≤ cutI x m ∧ cutI x m ≤ 9223372036854775807 := by
  unfold cutI
  split <;> omega
/-- What told returns. -/
def toldW (xs rs : List Int) (W T : Int) : Int := if xs = rs ∧ IsSb W T then W else 0
def toldT (xs rs : List Int) (W T : Int) : Int := if xs = rs ∧ IsSb W T then T else 0
set_option maxHeartbeats 2000000 in
theorem told_any (x0 x1 x2 x3 x4 x5 x6 x7 : Int) (w : World) (L : NoSb w) (h : ∀ x ∈ [x0, x1, x2, x3, x4, x5, x6, x7], (Lit.int .u64 x).wf = true) (S : Int) (hS : behI firstI [x0, x1, x2, x3, x4, x5, x6] = S) (p q : Int) (hp : toldW [x0, x1, x2, x3, x4, x5, x6, x7] [32777959566500194, 1, x2, x3, 0, 0, 0, S] x2 x3 = p) (hq : toldT [x0, x1, x2, x3, x4, x5, x6, x7] [32777959566500194, 1, x2, x3, 0, 0, 0, S] x2 x3 = q) :
    Calls Tryd.prog 36 #[.agg #[.int .u64 x0, .int .u64 x1, .int .u64 x2, .int .u64 x3, .int .u64 x4, .int .u64 x5, .int .u64 x6, .int .u64 x7]] w fun e w' => e = .returned (.agg #[.int .i64 p, .int .i64 q]) ∧ Below w.heap.size w w' := by
  have HI := Lib.hid (idxw x0 x1 x2 x3 x4 x5 x6 x7)
  have u2 := St.u64_of_wf (h x2 (by simp))
  have u3 := St.u64_of_wf (h x3 (by simp))
  have B1 := below_new (o := .cells #[.int .i64 0, .int .i64 0] 26) (below_new (o := .cells #[.int .u64 x0, .int .u64 x1, .int .u64 x2, .int .u64 x3, .int .u64 x4, .int .u64 x5, .int .u64 x6, .int .u64 x7] 72) (Below.refl w.heap.size w))
  have B2 := below_new (o := .cells #[.int .i64 0, .int .i64 0] 26) B1
  have A1 := ((Box.new w #[.int .u64 x0, .int .u64 x1, .int .u64 x2, .int .u64 x3, .int .u64 x4, .int .u64 x5, .int .u64 x6, .int .u64 x7] 72).alloc (.cells #[.int .i64 0, .int .i64 0] 26)).alloc (.cells #[.int .i64 0, .int .i64 0] 26)
  have R1 := (Box.new1 w (.cells #[.int .u64 x0, .int .u64 x1, .int .u64 x2, .int .u64 x3, .int .u64 x4, .int .u64 x5, .int .u64 x6, .int .u64 x7] 72) #[.int .i64 0, .int .i64 0] 26).alloc (.cells #[.int .i64 0, .int .i64 0] 26)
  have S1 := Box.new1 (w.alloc (.cells #[.int .u64 x0, .int .u64 x1, .int .u64 x2, .int .u64 x3, .int .u64 x4, .int .u64 x5, .int .u64 x6, .int .u64 x7] 72)) (.cells #[.int .i64 0, .int .i64 0] 26) #[.int .i64 0, .int .i64 0] 26
  rw [show (w.alloc (.cells #[.int .u64 x0, .int .u64 x1, .int .u64 x2, .int .u64 x3, .int .u64 x4, .int .u64 x5, .int .u64 x6, .int .u64 x7] 72)).heap.size = w.heap.size + 1 from by simp] at S1
  obtain ⟨n0, n1⟩ := L.keep B1
  have HT := Lib.hid (show ([x0, x1, x2, x3, x4, x5, x6, x7] : List Int).take 0 = ([32777959566500194, 1, x2, x3, 0, 0, 0, S] : List Int).take 0 from rfl)
  go_enter Tryd.func36, Tryd.ntmps36
  go_wp2_with fail
  go_step3
  go_wp2_with fail
  refine (sumOf_any _ _ _ _ _ _ _ _ _ h S hS).mono ?_
  rintro e w1 ⟨rfl, b1⟩
  clear n0 n1 h hS
  have b2 := below_new (o := .cells #[.int .u64 32777959566500194, .int .u64 1, .int .u64 0, .int .u64 0, .int .u64 0, .int .u64 0, .int .u64 0, .int .u64 S] 72) b1
  have C2 := below_then B2 b2
  replace A1 := A1.keep b2
  replace R1 := R1.keep b2
  replace S1 := S1.keep b2
  have D1 := Box.new w1 #[.int .u64 32777959566500194, .int .u64 1, .int .u64 0, .int .u64 0, .int .u64 0, .int .u64 0, .int .u64 0, .int .u64 S] 72
  have hs := b1.size
  simp only [World.size_alloc] at hs
  go_wp2_with fail
  generalize w1.alloc (.cells #[.int .u64 32777959566500194, .int .u64 1, .int .u64 0, .int .u64 0, .int .u64 0, .int .u64 0, .int .u64 0, .int .u64 S] 72) = v at *
  generalize w1.heap.size = Q at *
  clear B1 B2 b1 b2
  have a0 : _ = some (Value.int .u64 x0) := A1.cell 0
  have a1 : _ = some (Value.int .u64 x1) := A1.cell 1
  have a2 : _ = some (Value.int .u64 x2) := A1.cell 2
  have a3 : _ = some (Value.int .u64 x3) := A1.cell 3
  have a4 : _ = some (Value.int .u64 x4) := A1.cell 4
  have a5 : _ = some (Value.int .u64 x5) := A1.cell 5
  have a6 : _ = some (Value.int .u64 x6) := A1.cell 6
  have a7 : _ = some (Value.int .u64 x7) := A1.cell 7
  go_step3
  go_wp2_with fail
  clear a0 a1 a2 a3 a4 a5 a6 a7
  replace hp := Lib.hid hp
  replace hq := Lib.hid hq
  go_loopw [12] (fun i wr => ∃ k : Nat, k ≤ 8 ∧ i = .int .i64 k ∧ Hid (([x0, x1, x2, x3, x4, x5, x6, x7] : List Int).take k = ([32777959566500194, 1, x2, x3, 0, 0, 0, S] : List Int).take k) ∧ Below w.heap.size w wr ∧ Box wr (w.heap.size + 1) #[.int .i64 0, .int .i64 0] 26 ∧ Box wr Q #[.int .u64 32777959566500194, .int .u64 1, .int .u64 0, .int .u64 0, .int .u64 0, .int .u64 0, .int .u64 0, .int .u64 S] 72 ∧ ∃ a b, Box wr (w.heap.size + 1 + 1) #[.int .i64 a, .int .i64 b] 26 ∧ Hid (2 < k → a = cutI x2 2049) ∧ Hid (3 < k → b = cutI x3 9)) (fun i _ => 8 - (intOf i).toNat)
  case atStart => exact ⟨0, Nat.zero_le _, rfl, HT, C2, R1, D1, 0, 0, S1, Lib.hid (fun hh => absurd hh (by decide)), Lib.hid (fun hh => absurd hh (by decide))⟩
  case round =>
    clear HT C2 A1 R1 S1 D1
    obtain ⟨k, hk, rfl, HT, C, R1, D1, a, b, S1, ha, hb⟩ := hrel
    have s0 : _ = some (Value.int .i64 a) := S1.cell 0
    have s1 : _ = some (Value.int .i64 b) := S1.cell 1
    have t0 := S1.soft 0
    have t1 := S1.soft 1
    have ls := S1.lt
    rcases (by omega : k = 8 ∨ k < 8) with rfl | hk8
    · obtain rfl := ha.out (by decide)
      obtain rfl := hb.out (by decide)
      have hx2 := cut_bd u2.1 (m := 2049) (by decide) (by decide)
      have hx3 := cut_bd u3.1 (m := 9) (by decide) (by decide)
      have HB := Lib.hid (bad_cut x2 x3)
      generalize hX2 : cutI x2 2049 = X2 at *
      generalize hX3 : cutI x3 9 = X3 at *
      replace hX2 := Lib.hid hX2
      replace hX3 := Lib.hid hX3
      go_wp2_with fail
      refine (check_any X2 X3 _ hx2 hx3).mono ?_
      rintro e w2 ⟨rfl, b2⟩
      rw [HB.out]
      have C3 := below_then C b2
      have R2 := R1.keep b2
      have S2 := S1.keep b2
      clear s0 s1 t0 t1 ls
      have s0 : _ = some (Value.int .i64 X2) := S2.cell 0
      have s1 : _ = some (Value.int .i64 X3) := S2.cell 1
      obtain ⟨m0, m1⟩ := L.keep C3
      have r0 : _ = some (Value.int .i64 0) := R2.cell 0
      have r1 : _ = some (Value.int .i64 0) := R2.cell 1
      have q0 := R2.soft 0
      have q1 := R2.soft 1
      by_cases hg : IsSb x2 x3
      · have E := Lib.hid (bad_ok hg)
        have hW := cut_good hg
        rw [hX2.out, hX3.out] at hW
        obtain ⟨rfl, rfl⟩ := hW
        have HP : toldW [x0, x1, X2, X3, x4, x5, x6, x7] [32777959566500194, 1, X2, X3, 0, 0, 0, S] X2 X3 = X2 := if_pos ⟨HT.out, hg⟩
        have HQ : toldT [x0, x1, X2, X3, x4, x5, x6, x7] [32777959566500194, 1, X2, X3, 0, 0, 0, S] X2 X3 = X3 := if_pos ⟨HT.out, hg⟩
        obtain rfl := hp.out.symm.trans HP
        obtain rfl := hq.out.symm.trans HQ
        rw [E.out]
        go_wp2_with fail
        rw [Exit.noGoto_ret]
        refine bodyPost_ret (by simp [results, Tryd.results36, go_sem, r0, r1]; try rfl) rfl ?_
        refine ⟨rfl, ?_⟩
        repeat' (first | (with_reducible exact C3) | (refine Below.setCell ?_ (by simp) _))
      · have E := Lib.hid (bad_no hg)
        obtain rfl := hp.out.symm.trans (if_neg (fun hh => hg hh.2))
        obtain rfl := hq.out.symm.trans (if_neg (fun hh => hg hh.2))
        rw [E.out]
        go_wp2_with fail
        rw [Exit.noGoto_ret]
        refine bodyPost_ret (by simp [results, Tryd.results36, go_sem, r0, r1]; try rfl) rfl ?_
        refine ⟨rfl, ?_⟩
        repeat' (first | (with_reducible exact C3) | (refine Below.setCell ?_ (by simp) _))
    · obtain ⟨i0, i1, i2, i3, i4, i5, i6, i7⟩ := HI.out
      have d0 : _ = some (Value.int .u64 32777959566500194) := D1.cell 0
      have d1 : _ = some (Value.int .u64 1) := D1.cell 1
      have d4 : _ = some (Value.int .u64 0) := D1.cell 4
      have d5 : _ = some (Value.int .u64 0) := D1.cell 5
      have d6 : _ = some (Value.int .u64 0) := D1.cell 6
      have d7 : _ = some (Value.int .u64 S) := D1.cell 7
      rcases (by omega : k = 0 ∨ k = 1 ∨ k = 2 ∨ k = 3 ∨ k = 4 ∨ k = 5 ∨ k = 6 ∨ k = 7) with rfl | rfl | rfl | rfl | rfl | rfl | rfl | rfl
      · by_cases hx : x0 = 32777959566500194
        · subst hx
          have HT2 := Lib.hid ((take_snoc HT.out (show (0 : Nat) < 8 from by decide) (show (0 : Nat) < 8 from by decide)).2 rfl)
          go_wp2_with fail
          all_goals first | (exfalso; omega) | skip
          go_roundw
          case rel => exact ⟨1, by decide, rfl, HT2, C, R1, D1, a, b, S1, Lib.hid (fun hh => absurd hh (by decide)), Lib.hid (fun hh => absurd hh (by decide))⟩
          case measure => simp [intOf]
        · have HN : ¬ ([x0, x1, x2, x3, x4, x5, x6, x7] : List Int) = [32777959566500194, 1, x2, x3, 0, 0, 0, S] := fun hh => hx (congrArg (fun l => l.getD 0 0) hh)
          obtain rfl := hp.out.symm.trans (if_neg (fun hh => HN hh.1))
          obtain rfl := hq.out.symm.trans (if_neg (fun hh => HN hh.1))
          clear HN hp hq
          obtain ⟨n0, n1⟩ := L.keep C
          go_wp2_with fail
          all_goals first | (exfalso; omega) | skip
          refine (check_any 0 0 _ ⟨by decide, by decide⟩ ⟨by decide, by decide⟩).mono ?_
          rintro e w2 ⟨rfl, b2⟩
          rw [bad00]
          have C3 : Below w.heap.size w w2 := by
            refine below_then ?_ b2
            repeat' (first | (with_reducible exact C) | (refine Below.setCell ?_ (by simp; try omega) _))
          have R2 : Box w2 (w.heap.size + 1) #[.int .i64 0, .int .i64 0] 26 := by
            refine Box.keep ?_ b2
            repeat' (first | (with_reducible exact R1) | (refine Box.other ?_ (by simp) _))
          obtain ⟨m0, m1⟩ := L.keep C3
          have r0 : _ = some (Value.int .i64 0) := R2.cell 0
          have r1 : _ = some (Value.int .i64 0) := R2.cell 1
          have q0 := R2.soft 0
          have q1 := R2.soft 1
          clear n0 n1 d0 d1 d4 d5 d6 d7 s0 s1 t0 t1 ls i0 i1 i2 i3 i4 i5 i6 i7
          go_wp2_with fail
          rw [Exit.noGoto_ret]
          refine bodyPost_ret (by simp [results, Tryd.results36, go_sem, r0, r1]; try rfl) rfl ?_
          refine ⟨rfl, ?_⟩
          repeat' (first | (with_reducible exact C3) | (refine Below.setCell ?_ (by simp) _))
      · by_cases hx : x1 = 1
        · subst hx
          have HT2 := Lib.hid ((take_snoc HT.out (show (1 : Nat) < 8 from by decide) (show (1 : Nat) < 8 from by decide)).2 rfl)
          go_wp2_with fail
          all_goals first | (exfalso; omega) | skip
          go_roundw
          case rel => exact ⟨2, by decide, rfl, HT2, C, R1, D1, a, b, S1, Lib.hid (fun hh => absurd hh (by decide)), Lib.hid (fun hh => absurd hh (by decide))⟩
          case measure => simp [intOf]
        · have HN : ¬ ([x0, x1, x2, x3, x4, x5, x6, x7] : List Int) = [32777959566500194, 1, x2, x3, 0, 0, 0, S] := fun hh => hx (congrArg (fun l => l.getD 1 0) hh)
          obtain rfl := hp.out.symm.trans (if_neg (fun hh => HN hh.1))
          obtain rfl := hq.out.symm.trans (if_neg (fun hh => HN hh.1))
          clear HN hp hq
          obtain ⟨n0, n1⟩ := L.keep C
          go_wp2_with fail
          all_goals first | (exfalso; omega) | skip
          refine (check_any 0 0 _ ⟨by decide, by decide⟩ ⟨by decide, by decide⟩).mono ?_
          rintro e w2 ⟨rfl, b2⟩
          rw [bad00]
          have C3 : Below w.heap.size w w2 := by
            refine below_then ?_ b2
            repeat' (first | (with_reducible exact C) | (refine Below.setCell ?_ (by simp; try omega) _))
          have R2 : Box w2 (w.heap.size + 1) #[.int .i64 0, .int .i64 0] 26 := by
            refine Box.keep ?_ b2
            repeat' (first | (with_reducible exact R1) | (refine Box.other ?_ (by simp) _))
          obtain ⟨m0, m1⟩ := L.keep C3
          have r0 : _ = some (Value.int .i64 0) := R2.cell 0
          have r1 : _ = some (Value.int .i64 0) := R2.cell 1
          have q0 := R2.soft 0
          have q1 := R2.soft 1
          clear n0 n1 d0 d1 d4 d5 d6 d7 s0 s1 t0 t1 ls i0 i1 i2 i3 i4 i5 i6 i7
          go_wp2_with fail
          rw [Exit.noGoto_ret]
          refine bodyPost_ret (by simp [results, Tryd.results36, go_sem, r0, r1]; try rfl) rfl ?_
          refine ⟨rfl, ?_⟩
          repeat' (first | (with_reducible exact C3) | (refine Below.setCell ?_ (by simp) _))
      · have HT2 := Lib.hid ((take_snoc HT.out (show (2 : Nat) < 8 from by decide) (show (2 : Nat) < 8 from by decide)).2 rfl)
        have hxb := u2.1
        have hwr : IntKind.i64.wrap (if 2049 < x2 then 2049 else x2) = if 2049 < x2 then 2049 else x2 := by rw [IntKind.wrap_i64]; split <;> omega
        go_wp2_with fail
        go_roundw
        case rel => exact ⟨3, by decide, rfl, HT2, Below.setCell C (by simp; try omega) _, R1.other (by simp) _, D1.other (by simp; try omega) _, _, b, S1.set 0 _, Lib.hid (fun _ => rfl), Lib.hid (fun hh => absurd hh (by decide))⟩
        case measure => simp [intOf]
      · have HT2 := Lib.hid ((take_snoc HT.out (show (3 : Nat) < 8 from by decide) (show (3 : Nat) < 8 from by decide)).2 rfl)
        have hxb := u3.1
        have hwr : IntKind.i64.wrap (if 9 < x3 then 9 else x3) = if 9 < x3 then 9 else x3 := by rw [IntKind.wrap_i64]; split <;> omega
        go_wp2_with fail
        go_roundw
        case rel => exact ⟨4, by decide, rfl, HT2, Below.setCell C (by simp; try omega) _, R1.other (by simp) _, D1.other (by simp; try omega) _, a, _, S1.set 1 _, Lib.hid (fun _ => ha.out (by decide)), Lib.hid (fun _ => rfl)⟩
        case measure => simp [intOf]
      · by_cases hx : x4 = 0
        · subst hx
          have HT2 := Lib.hid ((take_snoc HT.out (show (4 : Nat) < 8 from by decide) (show (4 : Nat) < 8 from by decide)).2 rfl)
          go_wp2_with fail
          all_goals first | (exfalso; omega) | skip
          go_roundw
          case rel => exact ⟨5, by decide, rfl, HT2, C, R1, D1, a, b, S1, Lib.hid (fun _ => ha.out (by decide)), Lib.hid (fun _ => hb.out (by decide))⟩
          case measure => simp [intOf]
        · have HN : ¬ ([x0, x1, x2, x3, x4, x5, x6, x7] : List Int) = [32777959566500194, 1, x2, x3, 0, 0, 0, S] := fun hh => hx (congrArg (fun l => l.getD 4 0) hh)
          obtain rfl := hp.out.symm.trans (if_neg (fun hh => HN hh.1))
          obtain rfl := hq.out.symm.trans (if_neg (fun hh => HN hh.1))
          clear HN hp hq
          obtain ⟨n0, n1⟩ := L.keep C
          go_wp2_with fail
          all_goals first | (exfalso; omega) | skip
          refine (check_any 0 0 _ ⟨by decide, by decide⟩ ⟨by decide, by decide⟩).mono ?_
          rintro e w2 ⟨rfl, b2⟩
          rw [bad00]
          have C3 : Below w.heap.size w w2 := by
            refine below_then ?_ b2
            repeat' (first | (with_reducible exact C) | (refine Below.setCell ?_ (by simp; try omega) _))
          have R2 : Box w2 (w.heap.size + 1) #[.int .i64 0, .int .i64 0] 26 := by
            refine Box.keep ?_ b2
            repeat' (first | (with_reducible exact R1) | (refine Box.other ?_ (by simp) _))
          obtain ⟨m0, m1⟩ := L.keep C3
          have r0 : _ = some (Value.int .i64 0) := R2.cell 0
          have r1 : _ = some (Value.int .i64 0) := R2.cell 1
          have q0 := R2.soft 0
          have q1 := R2.soft 1
          clear n0 n1 d0 d1 d4 d5 d6 d7 s0 s1 t0 t1 ls i0 i1 i2 i3 i4 i5 i6 i7
          go_wp2_with fail
          rw [Exit.noGoto_ret]
          refine bodyPost_ret (by simp [results, Tryd.results36, go_sem, r0, r1]; try rfl) rfl ?_
          refine ⟨rfl, ?_⟩
          repeat' (first | (with_reducible exact C3) | (refine Below.setCell ?_ (by simp) _))
      · by_cases hx : x5 = 0
        · subst hx
          have HT2 := Lib.hid ((take_snoc HT.out (show (5 : Nat) < 8 from by decide) (show (5 : Nat) < 8 from by decide)).2 rfl)
          go_wp2_with fail
          all_goals first | (exfalso; omega) | skip
          go_roundw
          case rel => exact ⟨6, by decide, rfl, HT2, C, R1, D1, a, b, S1, Lib.hid (fun _ => ha.out (by decide)), Lib.hid (fun _ => hb.out (by decide))⟩
          case measure => simp [intOf]
        · have HN : ¬ ([x0, x1, x2, x3, x4, x5, x6, x7] : List Int) = [32777959566500194, 1, x2, x3, 0, 0, 0, S] := fun hh => hx (congrArg (fun l => l.getD 5 0) hh)
          obtain rfl := hp.out.symm.trans (if_neg (fun hh => HN hh.1))
          obtain rfl := hq.out.symm.trans (if_neg (fun hh => HN hh.1))
          clear HN hp hq
          obtain ⟨n0, n1⟩ := L.keep C
          go_wp2_with fail
          all_goals first | (exfalso; omega) | skip
          refine (check_any 0 0 _ ⟨by decide, by decide⟩ ⟨by decide, by decide⟩).mono ?_
          rintro e w2 ⟨rfl, b2⟩
          rw [bad00]
          have C3 : Below w.heap.size w w2 := by
            refine below_then ?_ b2
            repeat' (first | (with_reducible exact C) | (refine Below.setCell ?_ (by simp; try omega) _))
          have R2 : Box w2 (w.heap.size + 1) #[.int .i64 0, .int .i64 0] 26 := by
            refine Box.keep ?_ b2
            repeat' (first | (with_reducible exact R1) | (refine Box.other ?_ (by simp) _))
          obtain ⟨m0, m1⟩ := L.keep C3
          have r0 : _ = some (Value.int .i64 0) := R2.cell 0
          have r1 : _ = some (Value.int .i64 0) := R2.cell 1
          have q0 := R2.soft 0
          have q1 := R2.soft 1
          clear n0 n1 d0 d1 d4 d5 d6 d7 s0 s1 t0 t1 ls i0 i1 i2 i3 i4 i5 i6 i7
          go_wp2_with fail
          rw [Exit.noGoto_ret]
          refine bodyPost_ret (by simp [results, Tryd.results36, go_sem, r0, r1]; try rfl) rfl ?_
          refine ⟨rfl, ?_⟩
          repeat' (first | (with_reducible exact C3) | (refine Below.setCell ?_ (by simp) _))
      · by_cases hx : x6 = 0
        · subst hx
          have HT2 := Lib.hid ((take_snoc HT.out (show (6 : Nat) < 8 from by decide) (show (6 : Nat) < 8 from by decide)).2 rfl)
          go_wp2_with fail
          all_goals first | (exfalso; omega) | skip
          go_roundw
          case rel => exact ⟨7, by decide, rfl, HT2, C, R1, D1, a, b, S1, Lib.hid (fun _ => ha.out (by decide)), Lib.hid (fun _ => hb.out (by decide))⟩
          case measure => simp [intOf]
        · have HN : ¬ ([x0, x1, x2, x3, x4, x5, x6, x7] : List Int) = [32777959566500194, 1, x2, x3, 0, 0, 0, S] := fun hh => hx (congrArg (fun l => l.getD 6 0) hh)
          obtain rfl := hp.out.symm.trans (if_neg (fun hh => HN hh.1))
          obtain rfl := hq.out.symm.trans (if_neg (fun hh => HN hh.1))
          clear HN hp hq
          obtain ⟨n0, n1⟩ := L.keep C
          go_wp2_with fail
          all_goals first | (exfalso; omega) | skip
          refine (check_any 0 0 _ ⟨by decide, by decide⟩ ⟨by decide, by decide⟩).mono ?_
          rintro e w2 ⟨rfl, b2⟩
          rw [bad00]
          have C3 : Below w.heap.size w w2 := by
            refine below_then ?_ b2
            repeat' (first | (with_reducible exact C) | (refine Below.setCell ?_ (by simp; try omega) _))
          have R2 : Box w2 (w.heap.size + 1) #[.int .i64 0, .int .i64 0] 26 := by
            refine Box.keep ?_ b2
            repeat' (first | (with_reducible exact R1) | (refine Box.other ?_ (by simp) _))
          obtain ⟨m0, m1⟩ := L.keep C3
          have r0 : _ = some (Value.int .i64 0) := R2.cell 0
          have r1 : _ = some (Value.int .i64 0) := R2.cell 1
          have q0 := R2.soft 0
          have q1 := R2.soft 1
          clear n0 n1 d0 d1 d4 d5 d6 d7 s0 s1 t0 t1 ls i0 i1 i2 i3 i4 i5 i6 i7
          go_wp2_with fail
          rw [Exit.noGoto_ret]
          refine bodyPost_ret (by simp [results, Tryd.results36, go_sem, r0, r1]; try rfl) rfl ?_
          refine ⟨rfl, ?_⟩
          repeat' (first | (with_reducible exact C3) | (refine Below.setCell ?_ (by simp) _))
      · by_cases hx : x7 = S
        · subst hx
          have HT2 := Lib.hid ((take_snoc HT.out (show (7 : Nat) < 8 from by decide) (show (7 : Nat) < 8 from by decide)).2 rfl)
          go_wp2_with fail
          all_goals first | (exfalso; omega) | skip
          go_roundw
          case rel => exact ⟨8, by decide, rfl, HT2, C, R1, D1, a, b, S1, Lib.hid (fun _ => ha.out (by decide)), Lib.hid (fun _ => hb.out (by decide))⟩
          case measure => simp [intOf]
        · have HN : ¬ ([x0, x1, x2, x3, x4, x5, x6, x7] : List Int) = [32777959566500194, 1, x2, x3, 0, 0, 0, S] := fun hh => hx (congrArg (fun l => l.getD 7 0) hh)
          obtain rfl := hp.out.symm.trans (if_neg (fun hh => HN hh.1))
          obtain rfl := hq.out.symm.trans (if_neg (fun hh => HN hh.1))
          clear HN hp hq
          obtain ⟨n0, n1⟩ := L.keep C
          go_wp2_with fail
          all_goals first | (exfalso; omega) | skip
          refine (check_any 0 0 _ ⟨by decide, by decide⟩ ⟨by decide, by decide⟩).mono ?_
          rintro e w2 ⟨rfl, b2⟩
          rw [bad00]
          have C3 : Below w.heap.size w w2 := by
            refine below_then ?_ b2
            repeat' (first | (with_reducible exact C) | (refine Below.setCell ?_ (by simp; try omega) _))
          have R2 : Box w2 (w.heap.size + 1) #[.int .i64 0, .int .i64 0] 26 := by
            refine Box.keep ?_ b2
            repeat' (first | (with_reducible exact R1) | (refine Box.other ?_ (by simp) _))
          obtain ⟨m0, m1⟩ := L.keep C3
          have r0 : _ = some (Value.int .i64 0) := R2.cell 0
          have r1 : _ = some (Value.int .i64 0) := R2.cell 1
          have q0 := R2.soft 0
          have q1 := R2.soft 1
          clear n0 n1 d0 d1 d4 d5 d6 d7 s0 s1 t0 t1 ls i0 i1 i2 i3 i4 i5 i6 i7
          go_wp2_with fail
          rw [Exit.noGoto_ret]
          refine bodyPost_ret (by simp [results, Tryd.results36, go_sem, r0, r1]; try rfl) rfl ?_
          refine ⟨rfl, ?_⟩
          repeat' (first | (with_reducible exact C3) | (refine Below.setCell ?_ (by simp) _))
/-- What told returns is what is read of the words. -/
theorem read_by (x0 x1 x2 x3 x4 x5 x6 x7 S : Int) (hS : behI firstI [x0, x1, x2, x3, x4, x5, x6] = S) :
    (toldW [x0, x1, x2, x3, x4, x5, x6, x7] [32777959566500194, 1, x2, x3, 0, 0, 0, S] x2 x3 = 0 ∧ toldT [x0, x1, x2, x3, x4, x5, x6, x7] [32777959566500194, 1, x2, x3, 0, 0, 0, S] x2 x3 = 0 ∧
      readE [x0, x1, x2, x3, x4, x5, x6, x7] = 50 ∧ readW [x0, x1, x2, x3, x4, x5, x6, x7] = 0 ∧ readT [x0, x1, x2, x3, x4, x5, x6, x7] = 0) ∨
    (IsSb x2 x3 ∧ toldW [x0, x1, x2, x3, x4, x5, x6, x7] [32777959566500194, 1, x2, x3, 0, 0, 0, S] x2 x3 = x2 ∧ toldT [x0, x1, x2, x3, x4, x5, x6, x7] [32777959566500194, 1, x2, x3, 0, 0, 0, S] x2 x3 = x3 ∧
      readE [x0, x1, x2, x3, x4, x5, x6, x7] = 0 ∧ readW [x0, x1, x2, x3, x4, x5, x6, x7] = x2 ∧ readT [x0, x1, x2, x3, x4, x5, x6, x7] = x3) := by
  by_cases h : [x0, x1, x2, x3, x4, x5, x6, x7] = [32777959566500194, 1, x2, x3, 0, 0, 0, S] ∧ IsSb x2 x3
  · refine .inr ⟨h.2, if_pos h, if_pos h, ?_⟩
    obtain ⟨h1, h2⟩ := h
    simp only [List.cons.injEq, and_true, true_and] at h1
    obtain ⟨rfl, rfl, rfl, rfl, rfl, rfl⟩ := h1
    have e : wordsI x2 x3 = [32777959566500194, 1, x2, x3, 0, 0, 0, x7] := by rw [← hS]; rfl
    rw [← e]
    exact read_words h2
  · refine .inl ⟨if_neg h, if_neg h, read_none rfl fun W T hg he => h ?_⟩
    unfold wordsI at he
    simp only [List.cons.injEq, and_true] at he
    obtain ⟨rfl, rfl, rfl, rfl, rfl, rfl, rfl, rfl⟩ := he
    refine ⟨?_, hg⟩
    rw [← hS]
    rfl
theorem eq_sb (a b a' b' : Int) (w : World) : (Op.equalIn 10000 26 (.agg #[.int .i64 a, .int .i64 b]) (.agg #[.int .i64 a', .int .i64 b'])).run Tryd.prog w = .ok (a == a' && b == b') w := by
  have u3 := Tryd.underlying3
  have a3 := Tryd.isAgg3
  have z3 := Tryd.sizeOf3
  have hS : Tryd.prog.underlying 26 = some (.struct (Tryd.prog.fieldsOf 26)) := by kernel_rfl
  have hp : Tryd.prog.stoodInHeld 26 = false := by kernel_rfl
  rw [show (10000 : Nat) = 9999 + 1 from rfl, run_equalIn_agg w 9999 26 _ _ hS hp]
  simp only [Program.fieldsOf, Tryd.underlying26]
  go_simp
  by_cases h1 : a = a' <;> by_cases h2 : b = b' <;> simp [h1, h2]
theorem list8 {xs : List Int} (h : xs.length = 8) : ∃ x0 x1 x2 x3 x4 x5 x6 x7, xs = [x0, x1, x2, x3, x4, x5, x6, x7] := by
  match xs, h with
  | [x0, x1, x2, x3, x4, x5, x6, x7], _ => exact ⟨x0, x1, x2, x3, x4, x5, x6, x7, rfl⟩
set_option maxHeartbeats 1000000 in
theorem read_any (a : Option Addr) (n c : Nat) (xs : List Int) (w : World) (va : Sees w .u64 a n c xs) (L : NoSb w) :
    Calls Tryd.prog 23 #[.slice a n c] w fun e w' => e = .returned (.tuple #[.agg #[.int .i64 (readW xs), .int .i64 (readT xs)], .int .i64 (readE xs)]) ∧ Below w.heap.size w w' := by
  have hlx := va.len
  have htop := va.top
  have B1 := below_new (o := .cells #[.int .i64 0, .int .i64 0] 26) (Below.refl w.heap.size w)
  have R1 := Box.new w #[.int .i64 0, .int .i64 0] 26
  have L1 := L.keep B1
  by_cases h8 : n = 8
  · subst h8
    obtain ⟨x0, x1, x2, x3, x4, x5, x6, x7, rfl⟩ := list8 hlx
    obtain ⟨b0, o0, rfl⟩ := va.lies (by decide)
    have hle := va.le
    have V1 := va.keep B1
    have k0 : _ = some (Value.int .u64 x0) := V1.at 0 (by decide)
    rw [Nat.add_zero] at k0
    have k1 : _ = some (Value.int .u64 x1) := V1.at 1 (by decide)
    have k2 : _ = some (Value.int .u64 x2) := V1.at 2 (by decide)
    have k3 : _ = some (Value.int .u64 x3) := V1.at 3 (by decide)
    have k4 : _ = some (Value.int .u64 x4) := V1.at 4 (by decide)
    have k5 : _ = some (Value.int .u64 x5) := V1.at 5 (by decide)
    have k6 : _ = some (Value.int .u64 x6) := V1.at 6 (by decide)
    have k7 : _ = some (Value.int .u64 x7) := V1.at 7 (by decide)
    have hw := Lib.hid va.wf
    have HB := Lib.hid (read_by x0 x1 x2 x3 x4 x5 x6 x7 _ rfl)
    have qe := fun p q w => eq_sb p q 0 0 w
    have hat : ∀ w, (Instr.arrayAt 72 (.slice (some ⟨b0, o0, none⟩) 8 c)).run Tryd.prog w = .ok (.pointer (some ⟨b0, o0, none⟩)) w := fun w => run_arrayAt w 72 _ 8 _ 8 c Tryd.underlying72 (Nat.le_refl 8)
    generalize hS : behI firstI [x0, x1, x2, x3, x4, x5, x6] = S at HB
    generalize hp : toldW [x0, x1, x2, x3, x4, x5, x6, x7] [32777959566500194, 1, x2, x3, 0, 0, 0, S] x2 x3 = p at HB
    generalize hq : toldT [x0, x1, x2, x3, x4, x5, x6, x7] [32777959566500194, 1, x2, x3, 0, 0, 0, S] x2 x3 = q at HB
    replace hS := Lib.hid hS
    replace hp := Lib.hid hp
    replace hq := Lib.hid hq
    clear va V1 hlx
    go_enter Tryd.func23, Tryd.ntmps23
    go_wp2_with fail
    refine (told_any x0 x1 x2 x3 x4 x5 x6 x7 _ L1 hw.out S hS.out p q hp.out hq.out).mono ?_
    rintro e w1 ⟨rfl, b1⟩
    clear k0 k1 k2 k3 k4 k5 k6 k7 hw
    have b2 := below_new (o := .cells #[.int .i64 p, .int .i64 q] 26) b1
    have C2 := below_then B1 b2
    have R2 := R1.keep b2
    have S2 := Box.new w1 #[.int .i64 p, .int .i64 q] 26
    have r0 : _ = some (Value.int .i64 0) := R2.cell 0
    have r1 : _ = some (Value.int .i64 0) := R2.cell 1
    have q0 := R2.soft 0
    have q1 := R2.soft 1
    obtain ⟨n0, n1⟩ := L.keep C2
    rcases HB.out with ⟨rfl, rfl, e1, e2, e3⟩ | ⟨hg, hp2, hq2, e1, e2, e3⟩
    · replace e1 := Lib.hid e1
      replace e2 := Lib.hid e2
      replace e3 := Lib.hid e3
      clear HB
      go_wp2_with fail
      refine bodyPost_ret (by simp [results, Tryd.results23, go_sem, r0, r1]; try rfl) rfl ?_
      rw [e1.out, e2.out, e3.out]
      refine ⟨rfl, ?_⟩
      repeat' (first | (with_reducible exact C2) | (refine Below.setCell ?_ (by simp) _))
    · have hz : (p == 0) = false := by
        have hb := good_bd hg
        rw [hp2]
        simp
        omega
      subst hp2 hq2
      replace e1 := Lib.hid e1
      replace e2 := Lib.hid e2
      replace e3 := Lib.hid e3
      clear HB hg
      go_wp2_with fail
      all_goals first | (exfalso; omega) | skip
      refine bodyPost_ret (by simp [results, Tryd.results23, go_sem, r0, r1]; try rfl) rfl ?_
      rw [e1.out, e2.out, e3.out]
      refine ⟨rfl, ?_⟩
      repeat' (first | (with_reducible exact C2) | (refine Below.setCell ?_ (by simp) _))
  · obtain ⟨e1, e2, e3⟩ := read_arg (xs := xs) (by omega)
    replace e1 := Lib.hid e1
    replace e2 := Lib.hid e2
    replace e3 := Lib.hid e3
    obtain ⟨n0, n1⟩ := L1
    go_enter Tryd.func23, Tryd.ntmps23
    go_wp2_with fail
    all_goals first | (exfalso; omega) | skip
    refine bodyPost_ret (by simp [results, Tryd.results23, go_sem]; try rfl) rfl ?_
    rw [e1.out, e2.out, e3.out]
    refine ⟨rfl, ?_⟩
    repeat' (first | (with_reducible refine Below.setCell ?_ (by simp) _) | (with_reducible exact B1))
end Go.Proofs.YtepiiiekcmbpaaaDoor.Sb
