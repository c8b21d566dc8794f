/-
  The law CrashNames returns true for no argument at all: its examples hold; no condition but that the program's own variable for a lost word starts as its text lays it (the card ties it).
-/
import Derived.Test.YtkjhpjgdcjccjaaDoorKlaw
import Derived.Test.YtkjhpjgdcjccjaaDoorKlaid
import Derived.Test.YtkjhpjgdcjccjaaDoorDevOpen
import Derived.SizedLaws
import Derived.Test.YtkjhpjgdcjccjaaDoorBut
import Derived.Deep.Cut
namespace Go.Proofs.YtkjhpjgdcjccjaaDoor.crashNames
open Go.Proofs.YtkjhpjgdcjccjaaDoor.Kl Go.Proofs.YtkjhpjgdcjccjaaDoor.Kp Go.Proofs.YtkjhpjgdcjccjaaDoor.Cp Go.Proofs.YtkjhpjgdcjccjaaDoor.Cy Go.Proofs.YtkjhpjgdcjccjaaDoor.Cx Go.ChangeShapes Go.WideShapes Go.ChangeAt Go.RowKit Go.Proofs.YtkjhpjgdcjccjaaDoor.Sl Go.Proofs.YtkjhpjgdcjccjaaDoor.St Go.Proofs.YtkjhpjgdcjccjaaDoor.Ir Go.Proofs.YtkjhpjgdcjccjaaDoor.Dv Go.Proofs.YtkjhpjgdcjccjaaDoor.Cr Go.Proofs.YtkjhpjgdcjccjaaDoor.Cu
set_option linter.unusedVariables false
set_option maxRecDepth 100000

def eB : Dev := ⟨[], [], -1, false⟩
def eD : Dev := { ex with left := 0, down := true }
def eU : Dev := armD eD 1000000
def eZ : Dev := armD eD 0
def dirt : Nat → List Dw
  | 0 => []
  | k + 1 => dirt k ++ [⟨k, 1, false⟩]
def eM : Dev := ⟨z256, dirt 130, 0, false⟩
def eA : Dev := crashD eM 9223372036854775809
theorem dirt_len : ∀ k, (dirt k).length = k
  | 0 => rfl
  | k + 1 => by
    show (dirt k ++ _).length = k + 1
    rw [List.length_append, dirt_len k]
    rfl
theorem dirt_good : ∀ k, k ≤ 130 → ∀ x ∈ dirt k, dw.good x
  | 0, _, x, hx => by simp [dirt] at hx
  | k + 1, hk, x, hx => by
    rcases List.mem_append.1 (show x ∈ dirt k ++ [⟨k, 1, false⟩] from hx) with h | h
    · exact dirt_good k (by omega) x h
    · simp at h
      subst h
      exact ⟨by show -9223372036854775808 ≤ (k : Int) ∧ (k : Int) ≤ 9223372036854775807; omega, by show (0 : Int) ≤ 1 ∧ (1 : Int) < 18446744073709551616; decide⟩
theorem bad_b : okD eB = false := by decide +kernel
theorem t_arm (t : Int) : armR eB t = zdev ∧ armE eB t = 8 := by
  have h : ¬ okD eB = true := by rw [bad_b]; decide
  exact ⟨by unfold armR; rw [if_neg (fun h' => h h'.1)], by unfold armE; rw [if_neg h]⟩
theorem t_crash (M : Int) : crashR eB M = zdev ∧ chk eB = 8 := by
  have h : ¬ okD eB = true := by rw [bad_b]; decide
  exact ⟨by unfold crashR; rw [if_neg h], chk_bad h⟩
theorem t_chos (M : Int) : chosR eB M = [] ∧ chk eB = 8 := by
  have h : ¬ okD eB = true := by rw [bad_b]; decide
  exact ⟨by unfold chosR; rw [if_neg h], chk_bad h⟩
theorem t_num {t : Int} (ht : ¬ Num t) : armR ex t = zdev ∧ armE ex t = 2 := by
  exact ⟨by unfold armR; rw [if_neg (fun h' => ht h'.2)], by unfold armE; rw [if_pos ok_ex, if_neg ht]⟩
theorem ok_d : okD eD = true := by decide +kernel
theorem ok_m : okD eM = true := by decide +kernel
theorem t_chosen : chosen 9223372036854775809 130 = [0, 63, 64, 127, 128] := by decide +kernel
def sumT (k : Nat) : Int := (eA.im.take k).foldl (fun a b => a + b) 0
theorem len_a : eA.im.length = 256 := by decide +kernel
theorem sum_next {k : Nat} (hk : k < 256) : sumT (k + 1) = sumT k + eA.im.getD k 0 := by
  unfold sumT
  have h : k < eA.im.length := by rw [len_a]; exact hk
  rw [List.take_succ_eq_append_getElem h, List.foldl_append, List.getD_eq_getElem?_getD, List.getElem?_eq_getElem h]
  rfl
theorem sum_all : sumT 256 = 5 := by decide +kernel
theorem sum_bd : ∀ k : Fin 257, 0 ≤ sumT k.val ∧ sumT k.val ≤ 5 := by decide +kernel
theorem sees_nil (W : World) : SeesR dw W none 0 0 [] := ⟨rfl, Nat.le_refl _, by decide, by simp, fun _ => ⟨rfl, rfl⟩, .inl rfl⟩
theorem sees_b (W : World) : SeesD W none 0 0 none 0 0 (-1) false eB :=
  ⟨⟨rfl, Nat.le_refl _, by decide, by simp [eB], fun _ => ⟨rfl, rfl⟩, .inl rfl⟩, sees_nil W, rfl, rfl, by decide, by decide⟩
theorem sees_five (W : World) : Sees (W.alloc (.cells #[.int .i64 0, .int .i64 63, .int .i64 64, .int .i64 127, .int .i64 128] 3)) .i64 (some ⟨W.heap.size, 0, none⟩) 5 5 [0, 63, 64, 127, 128] := by
  have hB := Box.new W #[.int .i64 0, .int .i64 63, .int .i64 64, .int .i64 127, .int .i64 128] 3
  refine ⟨rfl, Nat.le_refl _, by decide, by decide, fun h => by simp at h, .inr ⟨W.heap.size, 0, rfl, fun i hi => ?_⟩⟩
  rw [Nat.zero_add, hB.cell i]
  rcases (by omega : i = 0 ∨ i = 1 ∨ i = 2 ∨ i = 3 ∨ i = 4) with rfl | rfl | rfl | rfl | rfl <;> rfl
/-- What lies beside each other while dirty words are put into the variable. -/
structure Ma (w0 wr : World) (N g k : Nat) (av : Option Addr) (cv : Nat) : Prop where
  below : Below w0.heap.size w0 wr
  var : Box wr w0.heap.size #[.slice (some ⟨g, 0, none⟩) 256 256, .slice av k cv, .int .i64 0, .bool false] 25
  im : wr.ownsRow (w0.heap.size + 1) 30 1 (.slice (some ⟨g, 0, none⟩) 256 256) 256 (z256.map (Value.int .u64))
  dl : wr.ownsRow N 36 dw.sz (.slice av k cv) k ((dirt k).flatMap dw.cells)
  lo : w0.heap.size + 1 ≤ g
  hi : g < N
  top : N ≤ wr.heap.size
theorem Ma.push {w0 wr w5 : World} {N g k g5 cap : Nat} {av : Option Addr} {cv : Nat} {vv : Value} {o : Obj} (h : Ma w0 wr N g k av cv) (h5 : Below N (wr.alloc o) w5)
    (hT : Box w5 w0.heap.size #[.slice (some ⟨g, 0, none⟩) 256 256, vv, .int .i64 0, .bool false] 25) (hO : OwnsL dw 36 N w5 g5 cap (dirt k ++ [⟨k, 1, false⟩])) :
    Ma w0 (w5.setCell ⟨w0.heap.size, 1, none⟩ (.slice (some ⟨g5, 0, none⟩) (k + 1) cap)) N g (k + 1) (some ⟨g5, 0, none⟩) cap := by
  have h1 := h.lo
  have h2 := h.hi
  have h3 := h.top
  have hL : (dirt k ++ [(⟨k, 1, false⟩ : Dw)]).length = k + 1 := by rw [List.length_append, dirt_len]; rfl
  unfold OwnsL at hO
  have e2 := ownsRow_setCell_below hO (a := ⟨w0.heap.size, 1, none⟩) (by show w0.heap.size < N; omega) (.slice (some ⟨g5, 0, none⟩) (k + 1) cap)
  refine ⟨((below_new (o := o) h.below).trans (h5.mono (by omega))).setCell (Nat.le_refl _) _, hT.set 1 _, ?_, ?_, h1, h2, ?_⟩
  · refine ownsRow_setCell_other (owns_under (B := N) (h.im.alloc o) (fun g' hg' => ?_) h5) (a := ⟨w0.heap.size, 1, none⟩) (fun hg' => ?_) _
    · simp only [Value.ownBlock, Option.some.injEq] at hg'
      omega
    · simp only [Value.ownBlock, Option.some.injEq] at hg'
      omega
  · rw [hL] at e2
    exact e2
  · have := h5.size
    simp at this ⊢
    omega
set_option maxHeartbeats 4000000 in
theorem walk (w : World) (L : Lost w) :
    Calls Tryd.prog 3 #[] w fun e w' => e = .returned (.bool true) ∧ Below w.heap.size w w' := by
  have C := below_new (o := box none 0 0 none 0 0 (-1) false) (Below.refl w.heap.size w)
  have Hb := Var.new (sees_b w)
  go_enter Tryd.func3, Tryd.ntmps3
  go_wp2_with fail
  refine (arm_v _ _ _ _ _ _ _ _ eB (-2) _ Hb.sees (by decide) _ (t_arm _).1 8 (t_arm _).2).mono ?_
  rintro e w1 ⟨a1, n1, c1, g1, m1, d1, l1, q1, rfl, S1, b1⟩
  replace Hb := Hb.keep b1
  replace C := below_then C b1
  have Nbu := Lib.hid (Nat.ne_of_lt Hb.box.lt)
  have Bu : Hid (w.heap.size ≤ w1.heap.size) := Lib.hid C.size
  have Hu := Var.new S1
  have n1' : Below w1.heap.size w1 (w1.alloc (box a1 n1 c1 g1 m1 d1 l1 q1)) := below_new (Below.refl _ _)
  replace Hb := Hb.keep n1'
  replace C := below_then C n1'
  clear S1
  clear Hu
  have tx := Hb.box.lt
  obtain ⟨x0, x1, x2, x3⟩ := Hb.cells
  go_wp2_with fail
  refine (crash_v _ _ _ _ _ _ _ _ eB 0 _ Hb.sees (by decide) (L.keep C) _ (t_crash 0).1 8 (t_crash 0).2).mono ?_
  rintro e w2 ⟨a2, n2, c2, g2, m2, d2, l2, q2, rfl, S2, b2⟩
  replace Hb := Hb.keep b2
  replace C := below_then C b2
  have Nbu := Lib.hid (Nat.ne_of_lt Hb.box.lt)
  have Bu : Hid (w.heap.size ≤ w2.heap.size) := Lib.hid C.size
  have Hu := Var.new S2
  have n2' : Below w2.heap.size w2 (w2.alloc (box a2 n2 c2 g2 m2 d2 l2 q2)) := below_new (Below.refl _ _)
  replace Hb := Hb.keep n2'
  replace C := below_then C n2'
  clear S2
  clear Hu
  clear tx x0 x1 x2 x3
  have tx := Hb.box.lt
  obtain ⟨x0, x1, x2, x3⟩ := Hb.cells
  go_wp2_with fail
  refine (chosen_v _ _ _ _ _ _ _ _ eB 0 _ Hb.sees (by decide) (L.keep C) _ (t_chos 0).1 0 rfl 8 (t_chos 0).2).mono ?_
  rintro e w3 ⟨a3, c3, rfl, -, b3⟩
  clear tx x0 x1 x2 x3
  clear Hb
  replace C := below_then C b3
  go_wp2_with fail
  refine (example_any _).mono ?_
  rintro e w4 ⟨a4, c4, g4, d4, rfl, S4, b4⟩
  replace C := below_then C b4
  go_wp2_with fail
  refine (arm_v _ _ _ _ _ _ _ _ ex (-2) _ S4 (by decide) _ (t_num (by decide)).1 2 (t_num (by decide)).2).mono ?_
  rintro e w5 ⟨a5, n5, c5, g5, m5, d5, l5, q5, rfl, S5, b5⟩
  replace C := below_then C b5
  have Bu : Hid (w.heap.size ≤ w5.heap.size) := Lib.hid C.size
  have Hu := Var.new S5
  have n5' : Below w5.heap.size w5 (w5.alloc (box a5 n5 c5 g5 m5 d5 l5 q5)) := below_new (Below.refl _ _)
  replace C := below_then C n5'
  clear S5
  clear Hu
  clear S4
  go_wp2_with fail
  refine (example_any _).mono ?_
  rintro e w6 ⟨a6, c6, g6, d6, rfl, S6, b6⟩
  replace C := below_then C b6
  go_wp2_with fail
  refine (arm_v _ _ _ _ _ _ _ _ ex 1000001 _ S6 (by decide) _ (t_num (by decide)).1 2 (t_num (by decide)).2).mono ?_
  rintro e w7 ⟨a7, n7, c7, g7, m7, d7, l7, q7, rfl, S7, b7⟩
  replace C := below_then C b7
  have Bu : Hid (w.heap.size ≤ w7.heap.size) := Lib.hid C.size
  have Hu := Var.new S7
  have n7' : Below w7.heap.size w7 (w7.alloc (box a7 n7 c7 g7 m7 d7 l7 q7)) := below_new (Below.refl _ _)
  replace C := below_then C n7'
  clear S7
  clear Hu
  clear S6
  go_wp2_with fail
  refine (example_any _).mono ?_
  rintro e w8 ⟨a8, c8, g8, d8, rfl, S8, b8⟩
  replace C := below_then C b8
  have He : Var (w8.alloc (box a8 256 c8 g8 2 d8 0 true)) w8.heap.size a8 256 c8 g8 2 d8 0 true eD := Var.new ⟨S8.im, S8.dl, rfl, rfl, by decide, by decide⟩
  have n8' : Below w8.heap.size w8 (w8.alloc (box a8 256 c8 g8 2 d8 0 true)) := below_new (Below.refl _ _)
  replace C := below_then C n8'
  clear S8 n8'
  go_wp2_with fail
  refine (arm_x _ _ _ _ _ _ _ _ eD 1000000 _ He.sees ok_d (by decide) eU rfl).mono ?_
  rintro e w9 ⟨a9, c9, g9, d9, rfl, S9, b9⟩
  replace He := He.keep b9
  replace C := below_then C b9
  have Nex := Lib.hid (Nat.ne_of_lt He.box.lt)
  have Bx : Hid (w.heap.size ≤ w9.heap.size) := Lib.hid C.size
  have Hx := Var.new S9
  have n9' : Below w9.heap.size w9 (w9.alloc (box a9 256 c9 g9 2 d9 1000000 false)) := below_new (Below.refl _ _)
  replace He := He.keep n9'
  replace C := below_then C n9'
  clear S9
  have tx := He.box.lt
  obtain ⟨x0, x1, x2, x3⟩ := He.cells
  go_wp2_with fail
  refine (arm_x _ _ _ _ _ _ _ _ eD 0 _ He.sees ok_d (by decide) eZ rfl).mono ?_
  rintro e w10 ⟨a10, c10, g10, d10, rfl, S10, b10⟩
  replace He := He.keep b10
  replace Hx := Hx.keep b10
  replace C := below_then C b10
  have Nez := Lib.hid (Nat.ne_of_lt He.box.lt)
  have Nxz := Lib.hid (Nat.ne_of_lt Hx.box.lt)
  have Bz : Hid (w.heap.size ≤ w10.heap.size) := Lib.hid C.size
  have Hz := Var.new S10
  have n10' : Below w10.heap.size w10 (w10.alloc (box a10 256 c10 g10 2 d10 0 false)) := below_new (Below.refl _ _)
  replace He := He.keep n10'
  replace Hx := Hx.keep n10'
  replace C := below_then C n10'
  clear S10
  clear He
  clear tx x0 x1 x2 x3
  go_upto_region 12 with fail
  have hs : (w10.alloc (box a10 256 c10 g10 2 d10 0 false)).heap.size = w10.heap.size + 1 := by simp
  rw [← hs]
  generalize w10.alloc (box a10 256 c10 g10 2 d10 0 false) = W0 at C Hx Hz hs ⊢
  clear hs
  have Xm := Box.new W0 #[.slice none 0 0, .slice none 0 0, .int .i64 0, .bool false] 25
  have Bm : Below W0.heap.size W0 (W0.alloc zbox) := below_new (Below.refl _ _)
  go_wp2_with (refine wp_make rfl (.const (.int .i64 256)) (.const (.int .i64 256)) 22 rfl .u64 30 Tryd.underlying22 info_word (W0.alloc zbox) (Below.refl _ _) .i64 .i64 256 256 256 rfl rfl rfl rfl (by decide) ?_)
  intro wm Gm
  have Xn := Xm.keep Gm.below
  have hg := Gm.own.lt (W0.heap.size + 1) (by simp [Value.ownBlock])
  have tm := Xn.lt
  obtain ⟨⟨y0, y1, y2, y3⟩, f0, f1, f2, f3⟩ := Xn.open4
  have O1 := ownsRow_setCell_below (owns_mono (owns_len Gm.own (show (List.replicate 256 (0 : Int)).length = 256 from by simp) (show _ = z256.map (Value.int .u64) from rfl)) (show W0.heap.size + 1 ≤ _ by simp)) (a := ⟨W0.heap.size, 0, none⟩) (by show W0.heap.size < _; omega) (.slice (some ⟨W0.heap.size + 1, 0, none⟩) 256 256)
  have K0 : Ma W0 (wm.setCell ⟨W0.heap.size, 0, none⟩ (.slice (some ⟨W0.heap.size + 1, 0, none⟩) 256 256)) wm.heap.size (W0.heap.size + 1) 0 none 0 :=
    ⟨(below_then Bm Gm.below).setCell (Nat.le_refl _) _, Xn.set 0 _, O1, World.ownsRow_nil _ _ _ _, Nat.le_refl _, hg.2, by simp⟩
  clear O1 Xm Bm Gm Xn
  go_wp2_with fail
  clear y0 y1 y2 y3 f0 f1 f2 f3 tm
  generalize hN : wm.heap.size = N at K0 hg
  clear hN
  go_loopw [18] (fun s18 wr => ∃ (k : Nat) (av : Option Addr) (cv : Nat), k ≤ 130 ∧ s18 = .int .i64 k ∧ Ma W0 wr N (W0.heap.size + 1) k av cv) (fun s18 _ => 130 - (intOf s18).toNat)
  case atStart => exact ⟨0, none, 0, Nat.zero_le _, rfl, K0⟩
  case round =>
    clear K0
    obtain ⟨k, av, cv, hk, rfl, K⟩ := hrel
    have tm := K.var.lt
    obtain ⟨⟨y0, y1, y2, y3⟩, f0, f1, f2, f3⟩ := K.var.open4
    by_cases hlt : k < 130
    · have NC := Box.new wr #[.int .i64 k, .int .u64 1, .bool false] 36
      have TC := K.var.alloc (.cells #[.int .i64 k, .int .u64 1, .bool false] 36)
      have OC : (wr.alloc (.cells #[.int .i64 k, .int .u64 1, .bool false] 36)).ownsRow N 36 dw.sz (.slice av k cv) (dirt k).length ((dirt k).flatMap dw.cells) := by
        rw [dirt_len]
        exact K.dl.alloc _
      have hne : (Value.slice av k cv).ownBlock ≠ some W0.heap.size := fun hv => by
        have := (K.dl.lt _ hv).1
        omega
      have hNw := K.top
      have hdl := dirt_len k
      go_wp2_with (at_builtin; refine wpList_appendB rfl (.tmp 71) (.tmp 74) 23 rfl dw 36 Tryd.underlying23 _ 24 info_dirty rfl (by decide) N (.slice av k cv) (dirt k) rfl OC (by simp; omega) ⟨k, 1, false⟩ wr.heap.size _ rfl NC rfl (by rw [dirt_len]; show (k + 1) * 3 ≤ _; omega) W0.heap.size _ _ _ _ _ TC hne ?_)
      rintro g5 cap w5 O5 B5 K5 T5 ⟨⟨z0, z1, z2, z3⟩, l0, l1, l2, l3⟩ s5
      have KP := K.push B5 T5 O5
      clear NC TC OC K y0 y1 y2 y3 f0 f1 f2 f3 tm hne O5 B5 K5 T5
      go_wp2_with fail
      go_roundw
      case rel => exact ⟨k + 1, _, _, by omega, by go_num, KP⟩
      case measure => simp [intOf]; omega
    · obtain rfl : k = 130 := by omega
      obtain ⟨ai, ci, hi1, Si⟩ := sees_of_owns K.im wf_z (by decide)
      injection hi1 with hi1 _ hi2
      subst hi1 hi2
      obtain ⟨ad, cd, hd1, Sd⟩ := seesR_of_owns (dirt_len 130) K.dl (dirt_good 130 (Nat.le_refl _)) (by decide)
      injection hd1 with hd1 _ hd2
      subst hd1 hd2
      have Hm : Var wr W0.heap.size (some ⟨W0.heap.size + 1, 0, none⟩) 256 256 av 130 cv 0 false eM := ⟨K.var, Si, Sd, rfl, rfl, by decide, by decide⟩
      replace Hx := Hx.keep K.below
      replace Hz := Hz.keep K.below
      replace C := below_then C K.below
      clear K Si Sd y0 y1 y2 y3 f0 f1 f2 f3 tm hlt hk hg
      have tx := Hm.box.lt
      obtain ⟨x0, x1, x2, x3⟩ := Hm.cells
      go_wp2_with fail
      refine (chosen_x _ _ _ _ _ _ _ _ eM 9223372036854775809 _ Hm.sees ok_m (by decide) (L.keep C) _ t_chosen 5 rfl).mono ?_
      rintro e w21 ⟨a21, c21, rfl, Zl, b21⟩
      replace Hx := Hx.keep b21
      replace Hz := Hz.keep b21
      replace Hm := Hm.keep b21
      replace C := below_then C b21
      clear tx x0 x1 x2 x3
      have tx := Hm.box.lt
      obtain ⟨x0, x1, x2, x3⟩ := Hm.cells
      go_wp2_with fail
      refine (crash_x _ _ _ _ _ _ _ _ eM 9223372036854775809 _ Hm.sees ok_m (by decide) (L.keep C) eA rfl).mono ?_
      rintro e w22 ⟨a22, c22, g22, d22, rfl, S22, b22⟩
      replace Hx := Hx.keep b22
      replace Hz := Hz.keep b22
      replace Hm := Hm.keep b22
      replace Zl := Zl.keep b22
      replace C := below_then C b22
      have Nxa := Lib.hid (Nat.ne_of_lt Hx.box.lt)
      have Nza := Lib.hid (Nat.ne_of_lt Hz.box.lt)
      have Nma := Lib.hid (Nat.ne_of_lt Hm.box.lt)
      have Ba : Hid (w.heap.size ≤ w22.heap.size) := Lib.hid C.size
      have Ha := Var.new S22
      have n22' : Below w22.heap.size w22 (w22.alloc (box a22 256 c22 g22 0 d22 (-1) false)) := below_new (Below.refl _ _)
      replace Hx := Hx.keep n22'
      replace Hz := Hz.keep n22'
      replace Hm := Hm.keep n22'
      replace Zl := Zl.keep n22'
      replace C := below_then C n22'
      clear S22
      clear Hm tx x0 x1 x2 x3
      go_wp2_with fail
      go_loopw [23, 24] (fun s23 s24 wr => ∃ (k : Nat) (S : Int), k ≤ 256 ∧ s24 = .int .i64 k ∧ s23 = .int .u64 S ∧ Hid (sumT k = S) ∧ Var wr w9.heap.size a9 256 c9 g9 2 d9 1000000 false eU ∧ Var wr w10.heap.size a10 256 c10 g10 2 d10 0 false eZ ∧ Var wr w22.heap.size a22 256 c22 g22 0 d22 (-1) false eA ∧ Sees wr .i64 a21 5 c21 [0, 63, 64, 127, 128] ∧ Below w.heap.size w wr) (fun _ s24 _ => 256 - (intOf s24).toNat)
      case atStart => exact ⟨0, 0, Nat.zero_le _, rfl, rfl, Lib.hid rfl, Hx, Hz, Ha, Zl, C⟩
      case round =>
        clear Hx Hz Ha Zl C
        obtain ⟨k, S, hk, rfl, rfl, HS, Hx, Hz, Ha, Zl, C⟩ := hrel
        have ta := Ha.box.lt
        obtain ⟨y0, y1, y2, y3⟩ := Ha.cells
        by_cases hlt : k < 256
        · obtain ⟨ga, oa, rfl⟩ := Ha.sees.im.lies (by decide)
          have r1 := Ha.sees.im.at k hlt
          have HN := Lib.hid (show sumT (k + 1) = S + eA.im.getD k 0 from by rw [sum_next hlt, HS.out])
          have hb := sum_bd ⟨k + 1, by omega⟩
          have hb0 := sum_bd ⟨k, by omega⟩
          simp only [HN.out, HS.out] at hb hb0
          generalize eA.im.getD k 0 = X at r1 HN hb
          clear HS
          go_wp2_with fail
          go_roundw
          case rel => exact ⟨k + 1, S + X, by omega, by go_num, by go_num, HN, Hx, Hz, Ha, Zl, C⟩
          case measure => simp [intOf]; omega
        · obtain rfl : k = 256 := by omega
          obtain rfl : S = 5 := by rw [← HS.out, sum_all]
          clear HS hlt hk
          have tx := Hx.box.lt
          have tz := Hz.box.lt
          obtain ⟨x0, x1, x2, x3⟩ := Hx.cells
          obtain ⟨z0, z1, z2, z3⟩ := Hz.cells
          have B5 : Below wr.heap.size wr (wr.alloc (.cells #[.int .i64 0, .int .i64 63, .int .i64 64, .int .i64 127, .int .i64 128] 3)) := below_new (Below.refl _ _)
          have Z5 := sees_five wr
          go_wp2_with fail
          refine (sameInts_self _ _ _ _ _ _ [0, 63, 64, 127, 128] _ (Zl.keep B5) Z5).mono ?_
          rintro e wv ⟨rfl, bv⟩
          replace C := below_then (below_then C B5) bv
          clear Hx Hz Ha Zl Z5 B5 bv
          go_wp2_with fail
          refine (live_any _ (L.keep C)).mono ?_
          rintro e wb ⟨rfl, bb⟩
          go_wp2
          go_ret
          exact ⟨rfl, below_then C bb⟩
/-! The row's step. -/
set_option maxRecDepth 100000 in
theorem lifted (os : Os) (started : os.Started) (H : Type) (enc : TypeId × Value → H) :
    ReturnsInHanded {} Tryd.checked os 3 .any (fun w args => (Rows.crashNamesSpec.pre enc Tryd.prog Tryd.f3 [] false w args ∧ laidMetH Tryd.prog Kp.laid1 w) ∧ sizedMet enc Tryd.prog Tryd.f3 (OpenSpec.ofChange Rows.crashNamesSpec) false w args) (Rows.crashNamesSpec.post enc Tryd.prog Tryd.f3 false true false false) := by
  refine returnsInHanded_of_change_and (C := Tryd.checked) (X := fun w _ => laidMetH Tryd.prog Kp.laid1 w) (fun _ _ _ hh h => h.of_heap hh) St.own started (by kernel_rfl) Tryd.func3
    (ChangeSpec.witness_shaped (enc := enc) (C := Tryd.checked) (os := os) (X := fun w _ => laidMetH Tryd.prog Kp.laid1 w) false (World.doorLaid Tryd.prog 400 os) #[] 8 rfl (World.shaped_of_RefB (by kernel_rfl) (by kernel_rfl)) (by kernel_rfl) (by kernel_rfl) (by kernel_rfl) (Kp.door_met os _)) ?_
  intro W base args ds gs before hval0 hW hcnd hsz0 hL _
  have hW' := hW
  obtain ⟨p, q, hA0, hV, rfl, hfz, hnd⟩ := hW
  have hA : DataW.TrodAll enc Tryd.prog W 0 (fun _ => true) true Tryd.f3.params.toList args.toList ds p := hA0
  rw [Tryd.params3] at hA
  obtain ⟨rfl, rfl, rfl⟩ := trodAll_none hA
  refine (walk  W (Kp.lost_of_laid hL)).mono fun e W' ⟨he, hb⟩ => ?_
  subst he
  exact St.law_done St.laid (by kernel_rfl) rfl rfl Tryd.underlying4 rfl hW' hb

theorem over : Rows.crashNamesRow.holds Tryd.pinned (OpenSpec.ofChange Rows.crashNamesSpec) :=
  OpenClaim.holds_of_wide 3 Tryd.f3 rfl rfl rfl rfl rfl rfl rfl ⟨rfl, rfl, rfl, rfl, rfl⟩ rfl rfl rfl rfl rfl (by kernel_rfl) Tryd.func3 (by kernel_rfl)
    (of_decide_eq_true (by kernel_rfl)) (by unfold Func.isWrapper; first | (rw [if_pos (by decide +kernel)]; kernel_rfl) | (rw [if_neg (by decide +kernel)]; exact ⟨rfl, rfl⟩))
    (fun os started H enc _ => lifted os started H enc)
theorem proved : Rows.CrashNamesCardSaid :=
  Claim7.holds_tied_plain_at .later [] [.data] true Rows.crashNamesCard.stood.harness false over (fun _ h => by cases h) (by kernel_rfl) (fun _ h => by cases h) crashNames_row_tie rfl ⟨rfl, rfl⟩ (by kernel_rfl) rfl
    (fun f fn hf hfn => by
      obtain rfl : f = 3 := Option.some.inj ((show Tryd.prog.funcNamed "ballast/ballastlaw04.CrashNames" = some 3 by kernel_rfl).symm.trans hf) |>.symm
      obtain rfl : fn = Tryd.f3 := (Option.some.inj (Tryd.func3.symm.trans hfn)).symm
      exact ⟨by kernel_rfl, fun j t ht => by
        rw [Tryd.params3] at ht
        simp at ht⟩)
    (by kernel_rfl)
#print axioms proved
end Go.Proofs.YtkjhpjgdcjccjaaDoor.crashNames

