/-
  The law CrashMasks returns true for every device, two masks and a number; no condition but that the program's own variable for a lost word starts as its text lays it (the card ties it).
-/
import Derived.Test.YtkjhpjgdcjccjaaDoorKlaw
import Derived.Test.YtkjhpjgdcjccjaaDoorKlaid
import Derived.Test.YtkjhpjgdcjccjaaDoorDevOpen
import Derived.SizedLaws
import Derived.Laws.BitsAllLaws
namespace Go.Proofs.YtkjhpjgdcjccjaaDoor.crashMasks
open Go.Proofs.YtkjhpjgdcjccjaaDoor.Kl Go.Proofs.YtkjhpjgdcjccjaaDoor.Kp Go.Proofs.YtkjhpjgdcjccjaaDoor.Cp Go.Proofs.YtkjhpjgdcjccjaaDoor.Cy Go.Proofs.YtkjhpjgdcjccjaaDoor.Cx Go.ChangeShapes Go.WideShapes Go.ChangeAt Go.RowKit Go.Proofs.YtkjhpjgdcjccjaaDoor.Sl Go.Proofs.YtkjhpjgdcjccjaaDoor.St Go.Proofs.YtkjhpjgdcjccjaaDoor.Ir Go.Proofs.YtkjhpjgdcjccjaaDoor.Dv Go.Proofs.YtkjhpjgdcjccjaaDoor.Cr Go.Proofs.YtkjhpjgdcjccjaaDoor.Cu
set_option linter.unusedVariables false
set_option maxRecDepth 100000

def zs : Array Value := Array.replicate 2101 (.bool false)
theorem zero_run (w : World) : (zeroValue 59).run Tryd.prog w = .ok (.agg zs) w := by kernel_rfl
/-- An array of marks in a block. -/
def Mk (W : World) (B : Nat) (f : Nat → Bool) : Prop := ∃ cs : Array Value, Box W B cs 59 ∧ cs.size = 2101 ∧ ∀ i, i < 2101 → cs[i]? = some (.bool (f i))
theorem Mk.new (w : World) : Mk (w.alloc (.cells zs 59)) w.heap.size (fun _ => false) := by
  refine ⟨zs, Box.new _ _ _, by simp [zs], fun i hi => ?_⟩
  simp [zs, hi]
theorem Mk.keep {W W' : World} {B : Nat} {f : Nat → Bool} (h : Mk W B f) (hb : Below W.heap.size W W') : Mk W' B f := by
  obtain ⟨cs, h1, h2, h3⟩ := h
  exact ⟨cs, h1.keep hb, h2, h3⟩
theorem Mk.lt {W : World} {B : Nat} {f : Nat → Bool} (h : Mk W B f) : B < W.heap.size := by
  obtain ⟨cs, h1, -, -⟩ := h
  exact h1.lt
theorem Mk.cell {W : World} {B : Nat} {f : Nat → Bool} (h : Mk W B f) (i : Nat) (hi : i < 2101) : W.cell? ⟨B, i, none⟩ = some (.bool (f i)) ∧ W.frozen? ⟨B, i, none⟩ = false := by
  obtain ⟨cs, h1, -, h3⟩ := h
  exact ⟨(h1.cell i).trans (h3 i hi), h1.soft i⟩
theorem Mk.set {W : World} {B : Nat} {f g : Nat → Bool} (h : Mk W B f) (i : Nat) (hi : i < 2101) (hg : ∀ j, j < 2101 → g j = (f j || decide (j = i))) : Mk (W.setCell ⟨B, i, none⟩ (.bool true)) B g := by
  obtain ⟨cs, h1, h2, h3⟩ := h
  refine ⟨_, h1.set i (.bool true), by simpa using h2, fun j hj => ?_⟩
  rw [hg j hj, Array.getElem?_setIfInBounds]
  by_cases he : i = j
  · subst he
    rw [if_pos rfl, if_pos (by omega)]
    simp
  · rw [if_neg he, h3 j hj, decide_eq_false (by omega), Bool.or_false]
theorem mem_next {z : Int} {l : List Int} {i : Nat} (hi : i < l.length) (hz : l[i] = z) (hz0 : 0 ≤ z) (j : Nat) : decide ((j : Int) ∈ l.take (i + 1)) = (decide ((j : Int) ∈ l.take i) || decide (j = z.toNat)) := by
  have e : ((j : Int) = z) ↔ j = z.toNat := by omega
  rw [← Bool.decide_or]
  exact decide_eq_decide.2 (by rw [List.take_succ_eq_append_getElem hi, hz, List.mem_append, List.mem_singleton, e])
theorem small_chosen {M : Int} {m : Nat} : ∀ z ∈ chosen M m, 0 ≤ z ∧ z < m := by
  intro z hz
  obtain ⟨j, hj, -, rfl⟩ := chosen_mem hz
  omega
theorem mem_keep {M : Int} {m j : Nat} : decide ((j : Int) ∈ chosen M m) = (decide (j < m) && keep M j) := by
  by_cases h : (j : Int) ∈ chosen M m
  · obtain ⟨i, hi, hk, he⟩ := chosen_mem h
    have : i = j := by omega
    subst this
    rw [decide_eq_true h, decide_eq_true hi, hk]
    rfl
  · rw [decide_eq_false h]
    by_cases hj : j < m
    · cases hk : keep M j
      · rw [Bool.and_false]
      · exact absurd (mem_chosen hj hk) h
    · rw [decide_eq_false hj, Bool.false_and]
theorem or_mask {A B : Int} (hA : 0 ≤ A ∧ A < 18446744073709551616) (hB : 0 ≤ B ∧ B < 18446744073709551616) :
    (0 ≤ bits .or .u64 A B ∧ bits .or .u64 A B < 18446744073709551616) ∧ ∀ j, keep (bits .or .u64 A B) j = (keep A j || keep B j) := by
  obtain ⟨a, rfl⟩ := Int.eq_ofNat_of_zero_le hA.1
  obtain ⟨b, rfl⟩ := Int.eq_ofNat_of_zero_le hB.1
  have h : bits .or .u64 (a : Int) (b : Int) = ((a ||| b : Nat) : Int) := u64_or_nat a b (by omega) (by omega)
  have h2 : a ||| b < 18446744073709551616 := Nat.or_lt_two_pow (n := 64) (by omega) (by omega)
  rw [h]
  exact ⟨by omega, fun j => keep_or a b j⟩
set_option maxHeartbeats 4000000 in
theorem walk_main (a : Option Addr) (n c : Nat) (b : Option Addr) (m d : Nat) (l : Int) (q : Bool) (D : Dev) (A B t : Int) (w : World) (L : Lost w) (s : SeesD w a n c b m d l q D) (hok : okD D = true) (hA : 0 ≤ A ∧ A < 18446744073709551616) (hB : 0 ≤ B ∧ B < 18446744073709551616) (ht : -1 ≤ t ∧ t ≤ 1000) (hg : greatD n m = false)
    (X Y Z : List Int) (NX NY NZ : Nat) (E Q : Dev) (HX : Hid (chosen A m = X)) (HY : Hid (chosen B m = Y)) (HZ : Hid (chosen (bits .or .u64 A B) m = Z)) (HNX : Hid (X.length = NX)) (HNY : Hid (Y.length = NY)) (HNZ : Hid (Z.length = NZ)) (HAB : Hid (0 ≤ bits .or .u64 A B ∧ bits .or .u64 A B < 18446744073709551616))
    (HSX : Hid (∀ z ∈ X, 0 ≤ z ∧ z < 2048)) (HSY : Hid (∀ z ∈ Y, 0 ≤ z ∧ z < 2048)) (HMK : Hid (∀ j : Nat, (decide ((j : Int) ∈ X) || decide ((j : Int) ∈ Y)) = (decide (j < m) && keep (bits .or .u64 A B) j)))
    (HAT : Hid (∀ i : Nat, i < m → keep (bits .or .u64 A B) i = true → (chosen (bits .or .u64 A B) i).length < NZ ∧ Z.getD (chosen (bits .or .u64 A B) i).length 0 = (i : Int))) (HE : Hid (armD D t = E)) (OE : Hid (okD E = true)) (HQE : Hid (crashD E A = Q)) (HQ : Hid (crashD D A = Q)) :
    Calls Tryd.prog 8 #[dev a n c b m d l q, .int .u64 A, .int .u64 B, .int .i64 t] w fun e w' => e = .returned (.bool true) ∧ Below w.heap.size w w' := by
  have HOK := Lib.hid hok
  have HC := Lib.hid (chk_ok hok)
  have HT := Lib.hid (show Num t from ⟨ht.1, by omega⟩)
  have hn0 : 256 ≤ n ∧ n ≤ 2048 := by have h1 := ok_short hok; have h2 := s.im.len; omega
  have hm0 : m ≤ 2048 := by have h1 := (ok_short hok).1; have h2 := s.dl.len; omega
  clear hok
  have C := below_new (o := box a n c b m d l q) (Below.refl w.heap.size w)
  have Hd := Var.new s
  go_enter Tryd.func8, Tryd.ntmps8
  go_wp2_with fail
  refine (rgreat_any _ _ _ _ _ _ _ _ _ s.dl.short).mono ?_
  rintro e w1 ⟨rfl, b1⟩
  replace Hd := Hd.keep b1
  replace C := below_then C b1
  rw [hg]
  have tx := Hd.box.lt
  obtain ⟨x0, x1, x2, x3⟩ := Hd.cells
  go_wp2_with fail
  refine (chk_b _ _ _ _ _ _ _ _ D _ Hd.sees).mono ?_
  rintro e w2 ⟨rfl, b2⟩
  replace Hd := Hd.keep b2
  replace C := below_then C b2
  rw [HC.out]
  clear tx x0 x1 x2 x3
  have tx := Hd.box.lt
  obtain ⟨x0, x1, x2, x3⟩ := Hd.cells
  go_wp2_with fail
  all_goals first | (exfalso; omega) | skip
  refine (chosen_x _ _ _ _ _ _ _ _ D A _ Hd.sees HOK.out hA (L.keep C) X HX.out NX HNX.out).mono ?_
  rintro e w3 ⟨a3, c3, rfl, Zx, b3⟩
  replace Hd := Hd.keep b3
  replace C := below_then C b3
  clear tx x0 x1 x2 x3
  have tx := Hd.box.lt
  obtain ⟨x0, x1, x2, x3⟩ := Hd.cells
  go_wp2_with fail
  refine (chosen_x _ _ _ _ _ _ _ _ D B _ Hd.sees HOK.out hB (L.keep C) Y HY.out NY HNY.out).mono ?_
  rintro e w4 ⟨a4, c4, rfl, Zy, b4⟩
  replace Hd := Hd.keep b4
  replace Zx := Zx.keep b4
  replace C := below_then C b4
  clear tx x0 x1 x2 x3
  have tx := Hd.box.lt
  obtain ⟨x0, x1, x2, x3⟩ := Hd.cells
  go_wp2_with fail
  have hz := zero_run
  refine (chosen_x _ _ _ _ _ _ _ _ D (bits .or .u64 A B) _ Hd.sees HOK.out HAB.out (L.keep C) Z HZ.out NZ HNZ.out).mono ?_
  rintro e w5 ⟨a5, c5, rfl, Zz, b5⟩
  replace Hd := Hd.keep b5
  replace Zx := Zx.keep b5
  replace Zy := Zy.keep b5
  replace C := below_then C b5
  clear tx x0 x1 x2 x3
  go_wp2_with fail
  clear hz
  have HD5 := Hd
  have C5 := C
  have B0 : Below w5.heap.size w5 (w5.alloc (.cells zs 59)) := below_new (Below.refl _ _)
  have K0 := Mk.new w5
  go_loopw [16] (fun s16 wr => ∃ i : Nat, i ≤ NX ∧ s16 = .int .i64 i ∧ Mk wr w5.heap.size (fun j => decide ((j : Int) ∈ X.take i)) ∧ Below w5.heap.size w5 wr) (fun s16 _ => NX - (intOf s16).toNat)
  case atStart => exact ⟨0, Nat.zero_le _, rfl, by simpa using K0, B0⟩
  case round =>
    clear K0 B0
    obtain ⟨i, hi, rfl, K, B5⟩ := hrel
    have tk := K.lt
    have hNt := Zx.top
    have z1 := Zx.keep B5
    by_cases hlt : i < NX
    · have hi' : i < X.length := by rw [HNX.out]; exact hlt
      obtain ⟨gk, ok', rfl⟩ := z1.lies (by omega)
      have r4 := z1.at i hlt
      have hv := HSX.out X[i] (List.getElem_mem hi')
      have HM := Lib.hid (fun z (hz : X[i] = z) (h0 : 0 ≤ z) => mem_next hi' hz h0)
      rw [List.getD_eq_getElem?_getD, List.getElem?_eq_getElem hi', Option.getD_some] at r4
      generalize X[i] = z at r4 hv HM
      obtain ⟨k1, k2⟩ := K.cell z.toNat (by omega)
      have K' := K.set (g := fun j => decide ((j : Int) ∈ X.take (i + 1))) z.toNat (by omega) (fun j _ => HM.out z rfl hv.1 j)
      have B' := B5.setCell (p := ⟨w5.heap.size, z.toNat, none⟩) (Nat.le_refl _) (.bool true)
      clear HM K
      go_wp2_with fail
      all_goals first | (exfalso; omega) | skip
      go_roundw
      case rel => exact ⟨i + 1, by omega, by go_num, K', B'⟩
      case measure => simp [intOf]; omega
    · obtain rfl : NX = i := by omega
      clear hlt hi
      have K1 : Mk wr w5.heap.size (fun j => decide ((j : Int) ∈ X) || decide ((j : Int) ∈ Y.take 0)) := by
        rw [List.take_of_length_le (by rw [HNX.out]; exact Nat.le_refl _)] at K
        simpa using K
      go_wp2_with fail
      go_loopw [17] (fun s17 wr => ∃ i : Nat, i ≤ NY ∧ s17 = .int .i64 i ∧ Mk wr w5.heap.size (fun j => decide ((j : Int) ∈ X) || decide ((j : Int) ∈ Y.take i)) ∧ Below w5.heap.size w5 wr) (fun s17 _ => NY - (intOf s17).toNat)
      case atStart => exact ⟨0, Nat.zero_le _, rfl, K1, B5⟩
      case round =>
        clear K K1 B5 tk z1 hNt
        obtain ⟨i, hi, rfl, K, B5⟩ := hrel
        have tk := K.lt
        have hNt := Zy.top
        have z1 := Zy.keep B5
        by_cases hlt : i < NY
        · have hi' : i < Y.length := by rw [HNY.out]; exact hlt
          obtain ⟨gk, ok', rfl⟩ := z1.lies (by omega)
          have r4 := z1.at i hlt
          have hv := HSY.out Y[i] (List.getElem_mem hi')
          have HM := Lib.hid (fun z (hz : Y[i] = z) (h0 : 0 ≤ z) => mem_next hi' hz h0)
          rw [List.getD_eq_getElem?_getD, List.getElem?_eq_getElem hi', Option.getD_some] at r4
          generalize Y[i] = z at r4 hv HM
          obtain ⟨k1, k2⟩ := K.cell z.toNat (by omega)
          have K' := K.set (g := fun j => decide ((j : Int) ∈ X) || decide ((j : Int) ∈ Y.take (i + 1))) z.toNat (by omega) (fun j _ => by rw [HM.out z rfl hv.1 j, Bool.or_assoc])
          have B' := B5.setCell (p := ⟨w5.heap.size, z.toNat, none⟩) (Nat.le_refl _) (.bool true)
          clear HM K
          go_wp2_with fail
          all_goals first | (exfalso; omega) | skip
          go_roundw
          case rel => exact ⟨i + 1, by omega, by go_num, K', B'⟩
          case measure => simp [intOf]; omega
        · obtain rfl : NY = i := by omega
          clear hlt hi
          have K1 : Mk wr w5.heap.size (fun j => decide ((j : Int) ∈ X) || decide ((j : Int) ∈ Y)) := by
            rwa [List.take_of_length_le (by rw [HNY.out]; exact Nat.le_refl _)] at K
          go_wp2_with fail
          go_loopw [18, 19] (fun s18 s19 wr => ∃ i k : Nat, i ≤ 2101 ∧ k ≤ NZ ∧ s19 = .int .i64 i ∧ s18 = .int .i64 k ∧ Hid ((chosen (bits .or .u64 A B) (min i m)).length = k) ∧ Mk wr w5.heap.size (fun j => decide ((j : Int) ∈ X) || decide ((j : Int) ∈ Y)) ∧ Below w5.heap.size w5 wr) (fun _ s19 _ => 2101 - (intOf s19).toNat)
          case atStart => exact ⟨0, 0, Nat.zero_le _, Nat.zero_le _, rfl, rfl, Lib.hid (by rw [Nat.zero_min]; rfl), K1, B5⟩
          case round =>
            clear K K1 B5 tk z1 hNt
            obtain ⟨i, k, hi, hk, rfl, rfl, HK, K, B5⟩ := hrel
            have tk := K.lt
            have hNt := Zz.top
            have z1 := Zz.keep B5
            by_cases hlt : i < 2101
            · obtain ⟨k1, k2⟩ := K.cell i hlt
              have hmk := HMK.out i
              generalize hF : (decide ((i : Int) ∈ X) || decide ((i : Int) ∈ Y)) = FB at k1 hmk
              clear hF
              by_cases hin : i < m ∧ keep (bits .or .u64 A B) i = true
              · obtain rfl : FB = true := by rw [hmk, decide_eq_true hin.1, hin.2]; rfl
                obtain ⟨hat1, hat2⟩ := HAT.out i hin.1 hin.2
                have hK := HK.out
                rw [Nat.min_eq_left (by omega)] at hK
                rw [hK] at hat1 hat2
                have HKN := Lib.hid (show (chosen (bits .or .u64 A B) (min (i + 1) m)).length = k + 1 from by rw [Nat.min_eq_left (by omega), chosen_yes hin.2, List.length_append, hK]; rfl)
                obtain ⟨gk, ok', rfl⟩ := z1.lies (by omega)
                have r4 := z1.at k hat1
                rw [hat2] at r4
                clear hmk hin hK HK hat2
                go_wp2_with fail
                all_goals first | (exfalso; omega) | skip
                go_roundw
                case rel => exact ⟨i + 1, k + 1, by omega, by omega, by go_num, by go_num, HKN, K, B5⟩
                case measure => simp [intOf]; omega
              · obtain rfl : FB = false := by
                  rw [hmk]
                  by_cases h1 : i < m
                  · rw [decide_eq_true h1]
                    cases h2 : keep (bits .or .u64 A B) i
                    · rfl
                    · exact absurd ⟨h1, h2⟩ hin
                  · rw [decide_eq_false h1]
                    rfl
                have HKN := Lib.hid (show (chosen (bits .or .u64 A B) (min (i + 1) m)).length = k from by
                  by_cases h1 : i < m
                  · have h2 : keep (bits .or .u64 A B) i = false := by
                      cases h2 : keep (bits .or .u64 A B) i
                      · rfl
                      · exact absurd ⟨h1, h2⟩ hin
                    have hK := HK.out
                    rw [Nat.min_eq_left (by omega)] at hK
                    rw [Nat.min_eq_left (by omega), chosen_no h2, hK]
                  · have hK := HK.out
                    rw [Nat.min_eq_right (by omega)] at hK
                    rw [Nat.min_eq_right (by omega), hK])
                clear hmk hin HK
                go_wp2_with fail
                all_goals first | (exfalso; omega) | skip
                go_roundw
                case rel => exact ⟨i + 1, k, by omega, hk, by go_num, rfl, HKN, K, B5⟩
                case measure => simp [intOf]; omega
            · obtain rfl : i = 2101 := by omega
              obtain rfl : NZ = k := by
                have hK := HK.out
                rw [Nat.min_eq_right (by omega), HZ.out, HNZ.out] at hK
                exact hK
              clear hlt hi hk HK K tk z1 hNt Zx Zy Zz
              have C := below_then C5 B5
              replace Hd := HD5.keep B5
              clear B5 C5 HD5
              have td := Hd.box.lt
              obtain ⟨x0, x1, x2, x3⟩ := Hd.cells
              go_wp2_with fail
              refine (arm_x _ _ _ _ _ _ _ _ D t _ Hd.sees HOK.out HT.out E HE.out).mono ?_
              rintro e w10 ⟨a10, c10, g10, d10, rfl, S10, b10⟩
              replace Hd := Hd.keep b10
              replace C := below_then C b10
              have Ndp := Lib.hid (Nat.ne_of_lt Hd.box.lt)
              have Bp : Hid (w.heap.size ≤ w10.heap.size) := Lib.hid C.size
              have Hp := Var.new S10
              have n10' : Below w10.heap.size w10 (w10.alloc (box a10 n c10 g10 m d10 t false)) := below_new (Below.refl _ _)
              replace Hd := Hd.keep n10'
              replace C := below_then C n10'
              clear S10
              clear td x0 x1 x2 x3
              go_wp2_with fail
              refine (crash_x _ _ _ _ _ _ _ _ E A _ Hp.sees OE.out hA (L.keep C) Q HQE.out).mono ?_
              rintro e w11 ⟨a11, c11, g11, d11, rfl, S11, b11⟩
              replace Hd := Hd.keep b11
              replace Hp := Hp.keep b11
              replace C := below_then C b11
              have Ndr := Lib.hid (Nat.ne_of_lt Hd.box.lt)
              have Npr := Lib.hid (Nat.ne_of_lt Hp.box.lt)
              have Br : Hid (w.heap.size ≤ w11.heap.size) := Lib.hid C.size
              have Hr := Var.new S11
              have n11' : Below w11.heap.size w11 (w11.alloc (box a11 n c11 g11 0 d11 (-1) false)) := below_new (Below.refl _ _)
              replace Hd := Hd.keep n11'
              replace Hp := Hp.keep n11'
              replace C := below_then C n11'
              clear S11
              have tx := Hd.box.lt
              obtain ⟨x0, x1, x2, x3⟩ := Hd.cells
              go_wp2_with fail
              refine (crash_x _ _ _ _ _ _ _ _ D A _ Hd.sees HOK.out hA (L.keep C) Q HQ.out).mono ?_
              rintro e w12 ⟨a12, c12, g12, d12, rfl, S12, b12⟩
              replace Hd := Hd.keep b12
              replace Hp := Hp.keep b12
              replace Hr := Hr.keep b12
              replace C := below_then C b12
              have Nds := Lib.hid (Nat.ne_of_lt Hd.box.lt)
              have Nps := Lib.hid (Nat.ne_of_lt Hp.box.lt)
              have Nrs := Lib.hid (Nat.ne_of_lt Hr.box.lt)
              have Bs : Hid (w.heap.size ≤ w12.heap.size) := Lib.hid C.size
              have Hs := Var.new S12
              have n12' : Below w12.heap.size w12 (w12.alloc (box a12 n c12 g12 0 d12 (-1) false)) := below_new (Below.refl _ _)
              replace Hd := Hd.keep n12'
              replace Hp := Hp.keep n12'
              replace Hr := Hr.keep n12'
              replace C := below_then C n12'
              clear S12
              clear tx x0 x1 x2 x3
              have tx := Hr.box.lt
              obtain ⟨x0, x1, x2, x3⟩ := Hr.cells
              go_wp2_with fail
              refine (same_selfD _ _ _ _ _ _ _ _ _ _ _ _ _ _ _ _ Q _ Hr.sees Hs.sees).mono ?_
              rintro e w13 ⟨rfl, b13⟩
              replace Hd := Hd.keep b13
              replace Hp := Hp.keep b13
              replace Hr := Hr.keep b13
              replace Hs := Hs.keep b13
              replace C := below_then C b13
              clear tx x0 x1 x2 x3
              go_wp2_with fail
              refine (live_any _ (L.keep C)).mono ?_
              rintro e wb ⟨rfl, bb⟩
              go_wp2
              go_ret
              exact ⟨rfl, below_then C bb⟩
set_option maxHeartbeats 4000000 in
theorem walk_guard (a : Option Addr) (n c : Nat) (b : Option Addr) (m d : Nat) (l : Int) (q : Bool) (D : Dev) (A B t : Int) (w : World) (L : Lost w) (s : SeesD w a n c b m d l q D) (hg : greatD n m = true ∨ (greatD n m = false ∧ okD D = false) ∨ (greatD n m = false ∧ okD D = true ∧ t < -1) ∨ (greatD n m = false ∧ okD D = true ∧ -1 ≤ t ∧ 1000 < t)) :
    Calls Tryd.prog 8 #[dev a n c b m d l q, .int .u64 A, .int .u64 B, .int .i64 t] w fun e w' => e = .returned (.bool true) ∧ Below w.heap.size w w' := by
  have C := below_new (o := box a n c b m d l q) (Below.refl w.heap.size w)
  have Hd := Var.new s
  have hnt := s.im.top
  have hmt := s.dl.short
  rcases hg with hg | ⟨hg, hok⟩ | ⟨hg, hok, h0⟩ | ⟨hg, hok, h0, h1⟩
  · go_enter Tryd.func8, Tryd.ntmps8
    go_wp2_with fail
    refine (rgreat_any _ _ _ _ _ _ _ _ _ s.dl.short).mono ?_
    rintro e w1 ⟨rfl, b1⟩
    replace C := below_then C b1
    rw [hg]
    go_wp2_with fail
    refine (live_any _ (L.keep C)).mono ?_
    rintro e wb ⟨rfl, bb⟩
    go_wp2
    go_ret
    exact ⟨rfl, below_then C bb⟩
  · have hc : chk D = 8 := chk_bad (by rw [hok]; decide)
    go_enter Tryd.func8, Tryd.ntmps8
    go_wp2_with fail
    refine (rgreat_any _ _ _ _ _ _ _ _ _ s.dl.short).mono ?_
    rintro e w1 ⟨rfl, b1⟩
    replace C := below_then C b1
    rw [hg]
    replace Hd := Hd.keep b1
    have td := Hd.box.lt
    obtain ⟨x0, x1, x2, x3⟩ := Hd.cells
    go_wp2_with fail
    refine (chk_b _ _ _ _ _ _ _ _ D _ Hd.sees).mono ?_
    rintro e w2 ⟨rfl, b2⟩
    replace C := below_then C b2
    rw [hc]
    go_wp2_with fail
    refine (live_any _ (L.keep C)).mono ?_
    rintro e wb ⟨rfl, bb⟩
    go_wp2
    go_ret
    exact ⟨rfl, below_then C bb⟩
  · have hc : chk D = 0 := chk_ok hok
    go_enter Tryd.func8, Tryd.ntmps8
    go_wp2_with fail
    refine (rgreat_any _ _ _ _ _ _ _ _ _ s.dl.short).mono ?_
    rintro e w1 ⟨rfl, b1⟩
    replace C := below_then C b1
    rw [hg]
    replace Hd := Hd.keep b1
    have td := Hd.box.lt
    obtain ⟨x0, x1, x2, x3⟩ := Hd.cells
    go_wp2_with fail
    refine (chk_b _ _ _ _ _ _ _ _ D _ Hd.sees).mono ?_
    rintro e w2 ⟨rfl, b2⟩
    replace C := below_then C b2
    rw [hc]
    replace Hd := Hd.keep b2
    clear x0 x1 x2 x3 td
    have td := Hd.box.lt
    obtain ⟨x0, x1, x2, x3⟩ := Hd.cells
    go_wp2_with fail
    all_goals first | (exfalso; omega) | skip
    all_goals
      refine (live_any _ (L.keep C)).mono ?_
      rintro e wb ⟨rfl, bb⟩
      go_wp2
      go_ret
      exact ⟨rfl, below_then C bb⟩
  · have hc : chk D = 0 := chk_ok hok
    go_enter Tryd.func8, Tryd.ntmps8
    go_wp2_with fail
    refine (rgreat_any _ _ _ _ _ _ _ _ _ s.dl.short).mono ?_
    rintro e w1 ⟨rfl, b1⟩
    replace C := below_then C b1
    rw [hg]
    replace Hd := Hd.keep b1
    have td := Hd.box.lt
    obtain ⟨x0, x1, x2, x3⟩ := Hd.cells
    go_wp2_with fail
    refine (chk_b _ _ _ _ _ _ _ _ D _ Hd.sees).mono ?_
    rintro e w2 ⟨rfl, b2⟩
    replace C := below_then C b2
    rw [hc]
    replace Hd := Hd.keep b2
    clear x0 x1 x2 x3 td
    have td := Hd.box.lt
    obtain ⟨x0, x1, x2, x3⟩ := Hd.cells
    go_wp2_with fail
    all_goals first | (exfalso; omega) | skip
    all_goals
      refine (live_any _ (L.keep C)).mono ?_
      rintro e wb ⟨rfl, bb⟩
      go_wp2
      go_ret
      exact ⟨rfl, below_then C bb⟩
theorem walk (a : Option Addr) (n c : Nat) (b : Option Addr) (m d : Nat) (l : Int) (q : Bool) (D : Dev) (A B t : Int) (hA : 0 ≤ A ∧ A < 18446744073709551616) (hB : 0 ≤ B ∧ B < 18446744073709551616) (ht : -9223372036854775808 ≤ t ∧ t ≤ 9223372036854775807) (w : World) (L : Lost w) (s : SeesD w a n c b m d l q D) :
    Calls Tryd.prog 8 #[dev a n c b m d l q, .int .u64 A, .int .u64 B, .int .i64 t] w fun e w' => e = .returned (.bool true) ∧ Below w.heap.size w w' := by
  by_cases hg : greatD n m = true
  · exact walk_guard a n c b m d l q D A B t w L s (.inl hg)
  · have hg' : greatD n m = false := by simpa using hg
    by_cases hok : okD D = true
    · by_cases hr : -1 ≤ t ∧ t ≤ 1000
      · obtain ⟨hab, hkp⟩ := or_mask hA hB
        have hm : m ≤ 2048 := by
          have h1 := (ok_short hok).1
          have h2 := s.dl.len
          omega
        refine walk_main a n c b m d l q D A B t w L s hok hA hB hr hg' _ _ _ _ _ _ _ _ (Lib.hid rfl) (Lib.hid rfl) (Lib.hid rfl) (Lib.hid rfl) (Lib.hid rfl) (Lib.hid rfl) (Lib.hid hab) (Lib.hid fun z hz => ?_) (Lib.hid fun z hz => ?_) (Lib.hid fun j => ?_) (Lib.hid fun i hi hk => chosen_at hi hk) (Lib.hid rfl) (Lib.hid (ok_arm hok ⟨hr.1, by omega⟩)) (Lib.hid (crash_arm D t A)) (Lib.hid rfl)
        · have := small_chosen z hz
          omega
        · have := small_chosen z hz
          omega
        · rw [mem_keep, mem_keep, hkp, ← Bool.and_or_distrib_left]
      · rcases (by omega : t < -1 ∨ (-1 ≤ t ∧ 1000 < t)) with h | h
        · exact walk_guard a n c b m d l q D A B t w L s (.inr (.inr (.inl ⟨hg', hok, h⟩)))
        · exact walk_guard a n c b m d l q D A B t w L s (.inr (.inr (.inr ⟨hg', hok, h.1, h.2⟩)))
    · exact walk_guard a n c b m d l q D A B t w L s (.inr (.inl ⟨hg', by simpa using hok⟩))

/-! The row's step. -/
set_option maxRecDepth 100000 in
theorem lifted (os : Os) (started : os.Started) (H : Type) (enc : TypeId × Value → H) :
    ReturnsInHanded {} Tryd.checked os 8 .any (fun w args => (Rows.crashMasksSpec.pre enc Tryd.prog Tryd.f8 [] false w args ∧ laidMetH Tryd.prog Kp.laid1 w) ∧ sizedMet enc Tryd.prog Tryd.f8 (OpenSpec.ofChange Rows.crashMasksSpec) false w args) (Rows.crashMasksSpec.post enc Tryd.prog Tryd.f8 false true false false) := by
  refine returnsInHanded_of_change_and (C := Tryd.checked) (X := fun w _ => laidMetH Tryd.prog Kp.laid1 w) (fun _ _ _ hh h => h.of_heap hh) St.own started (by kernel_rfl) Tryd.func8
    (ChangeSpec.witness_shaped (enc := enc) (C := Tryd.checked) (os := os) (X := fun w _ => laidMetH Tryd.prog Kp.laid1 w) false (World.doorLaid Tryd.prog 400 os) #[.agg #[.slice .none 0 0, .slice .none 0 0, .int .i64 0, .bool false], .int .u64 0, .int .u64 0, .int .i64 0] 8 rfl (World.shaped_of_RefB (by kernel_rfl) (by kernel_rfl)) (by kernel_rfl) (by kernel_rfl) (by kernel_rfl) (Kp.door_met os _)) ?_
  intro W base args ds gs before hval0 hW hcnd hsz0 hL _
  have hsz : (DataW.weightsEach Tryd.prog (Tryd.f8.params.toList ++ Rows.crashMasksSpec.plain.varTypes Tryd.prog) (ds ++ gs)).all (· ≤ reachBytes) = true := hsz0
  have hval : ∀ (j : Nat) t v, Tryd.f8.params[j]? = some t → args[j]? = some v → Value.okWide Tryd.prog W .any base t v := hval0
  have hW' := hW
  obtain ⟨p, q, hA0, hV, rfl, hfz, hnd⟩ := hW
  have hA : DataW.TrodAll enc Tryd.prog W 0 (fun _ => true) true Tryd.f8.params.toList args.toList ds p := hA0
  rw [Tryd.params8] at hA hval hsz
  obtain ⟨v0, vs0, d0, ds0, p0, q0, hargs, rfl, rfl, h0, r0⟩ := trodAll_cons hA
  obtain ⟨v1, vs1, d1, ds1, p1, q1, rfl, rfl, rfl, h1, r1⟩ := trodAll_cons r0
  obtain ⟨v2, vs2, d2, ds2, p2, q2, rfl, rfl, rfl, h2, r2⟩ := trodAll_cons r1
  obtain ⟨v3, vs3, d3, ds3, p3, q3, rfl, rfl, rfl, h3, r3⟩ := trodAll_cons r2
  obtain ⟨rfl, rfl, rfl⟩ := trodAll_nil r3
  obtain rfl : args = #[v0, v1, v2, v3] := by cases args; simp_all
  obtain ⟨a0, n0, c0, b0, m0, e0, l0, b0', D0, rfl, s0⟩ := Dv.open_dev (hval 0 25 v0 rfl rfl) h0 (fun n hn => by
    have := List.all_eq_true.1 hsz _ (DataW.weights_mem_each (j := 0) (t := 25) rfl rfl n hn)
    exact of_decide_eq_true this)
  obtain ⟨a1, rfl, rfl, rfl, w1⟩ := open_int Tryd.underlying30 (hval 1 30 v1 rfl rfl) h1
  obtain ⟨a2, rfl, rfl, rfl, w2⟩ := open_int Tryd.underlying30 (hval 2 30 v2 rfl rfl) h2
  obtain ⟨a3, rfl, rfl, rfl, w3⟩ := open_int Tryd.underlying3 (hval 3 3 v3 rfl rfl) h3
  refine (walk a0 n0 c0 b0 m0 e0 l0 b0' D0 a1 a2 a3 (St.u64_of_wf w1) (St.u64_of_wf w2) (St.i64_of_wf w3) W (Kp.lost_of_laid hL) s0).mono fun e W' ⟨he, hb⟩ => ?_
  subst he
  exact St.law_done St.laid (by kernel_rfl) rfl rfl Tryd.underlying4 rfl hW' hb

theorem over : Rows.crashMasksRow.holds Tryd.pinned (OpenSpec.ofChange Rows.crashMasksSpec) :=
  OpenClaim.holds_of_wide 8 Tryd.f8 rfl rfl rfl rfl rfl rfl rfl ⟨rfl, rfl, rfl, rfl, rfl⟩ rfl rfl rfl rfl rfl (by kernel_rfl) Tryd.func8 (by kernel_rfl)
    (of_decide_eq_true (by kernel_rfl)) (by unfold Func.isWrapper; first | (rw [if_pos (by decide +kernel)]; kernel_rfl) | (rw [if_neg (by decide +kernel)]; exact ⟨rfl, rfl⟩))
    (fun os started H enc _ => lifted os started H enc)
theorem proved : Rows.CrashMasksCardSaid :=
  Claim7.holds_tied_plain_at .later [] [.data] true Rows.crashMasksCard.stood.harness false over (fun _ h => by cases h) (by kernel_rfl) (fun _ h => by cases h) crashMasks_row_tie rfl ⟨rfl, rfl⟩ (by kernel_rfl) rfl
    (fun f fn hf hfn => by
      obtain rfl : f = 8 := Option.some.inj ((show Tryd.prog.funcNamed "ballast/ballastlaw04.CrashMasks" = some 8 by kernel_rfl).symm.trans hf) |>.symm
      obtain rfl : fn = Tryd.f8 := (Option.some.inj (Tryd.func8.symm.trans hfn)).symm
      exact ⟨by kernel_rfl, fun j t ht => by
        rw [Tryd.params8] at ht
        have hm : t ∈ [25, 30, 30, 3] := by simpa using Array.mem_of_getElem? ht
        have hall : ([25, 30, 30, 3].all fun u => !Tryd.prog.wantsStandIn u) = true := by kernel_rfl
        exact (show Tryd.prog.wantsStandIn t = false by simpa using List.all_eq_true.1 hall t hm)⟩)
    (by kernel_rfl)
#print axioms proved
end Go.Proofs.YtkjhpjgdcjccjaaDoor.crashMasks

