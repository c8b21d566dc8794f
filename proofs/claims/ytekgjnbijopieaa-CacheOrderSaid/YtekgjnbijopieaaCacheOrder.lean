/-
  The law CacheOrder returns true for every device, two addresses and two words; no condition.
-/
import Derived.Test.YtekgjnbijopieaaCachex
import Derived.Test.YtekgjnbijopieaaDevOpen
import Derived.SizedLaws
import Derived.Test.YtekgjnbijopieaaCrefd
namespace Go.Proofs.Ytekgjnbijopieaa.cacheOrder
open Go.Proofs.Ytekgjnbijopieaa.Cx Go.ChangeShapes Go.WideShapes Go.ChangeAt Go.RowKit Go.Proofs.Ytekgjnbijopieaa.Sl Go.Proofs.Ytekgjnbijopieaa.St Go.Proofs.Ytekgjnbijopieaa.Ir Go.Proofs.Ytekgjnbijopieaa.Dv Go.Proofs.Ytekgjnbijopieaa.Cr Go.Proofs.Ytekgjnbijopieaa.Cu
set_option linter.unusedVariables false
set_option maxRecDepth 100000


theorem ins_mem {p v : Int} : ∀ xs : List Dw, (⟨p, v, false⟩ : Dw) ∈ ins p v xs
  | [] => by simp [ins]
  | x :: xs => by
    unfold ins
    split
    · exact List.mem_cons_of_mem _ (ins_mem xs)
    · split <;> exact List.mem_cons_self
theorem ins_twice {p u v : Int} : ∀ xs : List Dw, ins p v (ins p u xs) = ins p v xs
  | [] => by simp [ins]
  | x :: xs => by
    have ih := ins_twice (p := p) (u := u) (v := v) xs
    by_cases h : x.p < p
    · simp [ins, h, ih]
    · by_cases h2 : x.p = p
      · simp [ins, h2]
      · simp [ins, h, h2]
theorem ins_lt {p u o v : Int} (h : p < o) : ∀ xs : List Dw, ins o v (ins p u xs) = ins p u (ins o v xs)
  | [] => by
    have h1 : ¬ o < p := by omega
    have h2 : o ≠ p := by omega
    simp [ins, h, h1, h2]
  | x :: xs => by
    have ih := ins_lt (u := u) (v := v) h xs
    have h1 : ¬ o < p := by omega
    have h2 : o ≠ p := by omega
    by_cases hp : x.p < p
    · have ho : x.p < o := by omega
      simp [ins, hp, ho, ih]
    · by_cases hq : x.p = p
      · have ho : x.p < o := by omega
        simp [ins, hq, h]
      · by_cases ho : x.p < o
        · simp [ins, hp, hq, ho, h]
        · by_cases hr : x.p = o
          · simp [ins, hr, h, h1, h2]
          · simp [ins, hp, hq, ho, hr, h, h1, h2]
theorem ins_comm {p u o v : Int} (h : p ≠ o) (xs : List Dw) : ins o v (ins p u xs) = ins p u (ins o v xs) := by
  rcases (by omega : p < o ∨ o < p) with h1 | h1
  · exact ins_lt h1 xs
  · exact (ins_lt h1 xs).symm
theorem stored_calm {D : Dev} (h : D.left = -1) (p u : Int) : storedD D p u = { D with dl := ins p u D.dl } := by
  have hs : spent D = D := spent_any (by omega)
  have hm : made D = true := by unfold made; rw [decide_eq_false (by omega)]; rfl
  unfold storedD
  rw [hm, hs]
  rfl
theorem mem_next {N : Dw} {xs : List Dw} {k : Nat} (hk : k < xs.length) : N ∈ xs.take (k + 1) ↔ N ∈ xs.take k ∨ N = xs[k] := by
  rw [List.take_succ_eq_append_getElem hk, List.mem_append, List.mem_singleton]

set_option maxHeartbeats 4000000 in
theorem walk_other (a : Option Addr) (n c : Nat) (b : Option Addr) (m d : Nat) (D : Dev) (p o u v : Int) (w : World) (s : SeesD w a n c b m d (-1) false D) (hok : okD D = true) (hp : 0 ≤ p ∧ p < n) (ho : 0 ≤ o ∧ o < n) (hu : 0 ≤ u ∧ u < 18446744073709551616) (hv : 0 ≤ v ∧ v < 18446744073709551616) (hg : greatD n m = false)
    (X Y Z : Dev) (HX : Hid (storedD D p u = X)) (HY : Hid (storedD X o v = Y)) (OX : Hid (okD X = true)) (DX : Hid (X.down = false)) (DY : Hid (Y.down = false)) (HZ : Hid (storedD D o v = Z)) (HZY : Hid (storedD Z p u = Y)) (OZ : Hid (okD Z = true)) (DZ : Hid (Z.down = false)) (HM : Hid ((⟨o, v, false⟩ : Dw) ∈ Y.dl)) (hpo : p ≠ o) :
    Calls Try.prog 8 #[dev a n c b m d (-1) false, .int .i64 p, .int .i64 o, .int .u64 u, .int .u64 v] w fun e w' => e = .returned (.bool true) ∧ Below w.heap.size w w' := by
  have HOK := Lib.hid hok
  have HC := Lib.hid (chk_ok hok)
  have HP := Lib.hid hp
  have HO := Lib.hid ho
  have hnt := s.im.top
  have hb : (p != o) = true := by simpa using hpo
  clear hpo
  clear hok
  have C := below_new (o := box a n c b m d (-1) false) (Below.refl w.heap.size w)
  have Hd := Var.new s
  go_enter Try.func8, Try.ntmps8
  go_wp2_with fail
  refine (rgreat_any _ _ _ _ _ _ _ _ _ s.dl.short).mono ?_
  rintro e w1 ⟨rfl, b1⟩
  replace Hd := Hd.keep b1
  replace C := below_then C b1
  rw [hg]
  have tx := Hd.box.lt
  obtain ⟨x0, x1, x2, x3⟩ := Hd.cells
  go_wp2_with fail
  refine (chk_b _ _ _ _ _ _ _ _ D _ Hd.sees).mono ?_
  rintro e w2 ⟨rfl, b2⟩
  replace Hd := Hd.keep b2
  replace C := below_then C b2
  rw [HC.out]
  clear tx x0 x1 x2 x3
  have tx := Hd.box.lt
  obtain ⟨x0, x1, x2, x3⟩ := Hd.cells
  go_wp2_with fail
  all_goals first | (exfalso; omega) | skip
  refine (store_x _ _ _ _ _ _ _ _ D p u _ Hd.sees HOK.out HP.out hu X HX.out false DX.out).mono ?_
  rintro e w3 ⟨a3, c3, g3, m3, d3, l3, rfl, S3, b3⟩
  replace Hd := Hd.keep b3
  replace C := below_then C b3
  have Ndx := Lib.hid (Nat.ne_of_lt Hd.box.lt)
  have Bx : Hid (w.heap.size ≤ w3.heap.size) := Lib.hid C.size
  have Hx := Var.new S3
  have n3 : Below w3.heap.size w3 (w3.alloc (box a3 n c3 g3 m3 d3 l3 false)) := below_new (Below.refl _ _)
  replace Hd := Hd.keep n3
  replace C := below_then C n3
  clear S3
  clear tx x0 x1 x2 x3
  go_wp2_with fail
  refine (store_x _ _ _ _ _ _ _ _ X o v _ Hx.sees OX.out HO.out hv Y HY.out false DY.out).mono ?_
  rintro e w4 ⟨a4, c4, g4, m4, d4, l4, rfl, S4, b4⟩
  replace Hd := Hd.keep b4
  replace Hx := Hx.keep b4
  replace C := below_then C b4
  have tq := Hx.box.lt
  obtain ⟨⟨q0, q1, q2, q3⟩, f0, f1, f2, f3⟩ := Hx.box.open4
  replace Hd := Hx.far (y0 := .slice a4 n c4) (y1 := .slice g4 m4 d4) (y2 := .int .i64 l4) (y3 := .bool false) Hd Ndx.out
  replace C := below_put (B := w3.heap.size) (y0 := .slice a4 n c4) (y1 := .slice g4 m4 d4) (y2 := .int .i64 l4) (y3 := .bool false) C Bx.out
  replace Hx := Hx.put S4
  clear S4
  dsimp only [put4] at C Hd Hx
  have tx := Hd.box.lt
  obtain ⟨x0, x1, x2, x3⟩ := Hd.cells
  go_wp2_with fail
  clear tq q0 q1 q2 q3 f0 f1 f2 f3
  refine (store_x _ _ _ _ _ _ _ _ D o v _ Hd.sees HOK.out HO.out hv Z HZ.out false DZ.out).mono ?_
  rintro e w5 ⟨a5, c5, g5, m5, d5, l5, rfl, S5, b5⟩
  replace Hd := Hd.keep b5
  replace Hx := Hx.keep b5
  replace C := below_then C b5
  have Ndy := Lib.hid (Nat.ne_of_lt Hd.box.lt)
  have Nxy := Lib.hid (Nat.ne_of_lt Hx.box.lt)
  have By : Hid (w.heap.size ≤ w5.heap.size) := Lib.hid C.size
  have Hy := Var.new S5
  have n5 : Below w5.heap.size w5 (w5.alloc (box a5 n c5 g5 m5 d5 l5 false)) := below_new (Below.refl _ _)
  replace Hd := Hd.keep n5
  replace Hx := Hx.keep n5
  replace C := below_then C n5
  clear S5
  clear tx x0 x1 x2 x3
  go_wp2_with fail
  refine (store_x _ _ _ _ _ _ _ _ Z p u _ Hy.sees OZ.out HP.out hu Y HZY.out false DY.out).mono ?_
  rintro e w6 ⟨a6, c6, g6, m6, d6, l6, rfl, S6, b6⟩
  replace Hd := Hd.keep b6
  replace Hx := Hx.keep b6
  replace Hy := Hy.keep b6
  replace C := below_then C b6
  have tq := Hy.box.lt
  obtain ⟨⟨q0, q1, q2, q3⟩, f0, f1, f2, f3⟩ := Hy.box.open4
  replace Hd := Hy.far (y0 := .slice a6 n c6) (y1 := .slice g6 m6 d6) (y2 := .int .i64 l6) (y3 := .bool false) Hd Ndy.out
  replace Hx := Hy.far (y0 := .slice a6 n c6) (y1 := .slice g6 m6 d6) (y2 := .int .i64 l6) (y3 := .bool false) Hx Nxy.out
  replace C := below_put (B := w5.heap.size) (y0 := .slice a6 n c6) (y1 := .slice g6 m6 d6) (y2 := .int .i64 l6) (y3 := .bool false) C By.out
  replace Hy := Hy.put S6
  clear S6
  dsimp only [put4] at C Hd Hx Hy
  have tx := Hx.box.lt
  obtain ⟨x0, x1, x2, x3⟩ := Hx.cells
  go_wp2_with fail
  clear tq q0 q1 q2 q3 f0 f1 f2 f3
  clear tx x0 x1 x2 x3
  go_loopw [16, 17] (fun f i wr => ∃ (k : Nat) (fb : Bool), f = .bool fb ∧ k ≤ m4 ∧ i = .int .i64 k ∧ Hid (fb = true ↔ (⟨o, v, false⟩ : Dw) ∈ Y.dl.take k) ∧ Var wr w3.heap.size a4 n c4 g4 m4 d4 l4 false Y ∧ Var wr w5.heap.size a6 n c6 g6 m6 d6 l6 false Y ∧ Below w.heap.size w wr) (fun _ i _ => m4 - (intOf i).toNat)
  case atStart => exact ⟨0, false, rfl, Nat.zero_le _, rfl, Lib.hid (by simp), Hx, Hy, C⟩
  case round =>
    clear Hx Hy C
    obtain ⟨k, fb, rfl, hk, rfl, HI, Hx, Hy, C⟩ := hrel
    have hlen := Hx.sees.dl.len
    have hmt := Hx.sees.dl.short
    have tx := Hx.box.lt
    have ty := Hy.box.lt
    obtain ⟨x0, x1, x2, x3⟩ := Hx.cells
    by_cases hlt : k < m4
    · obtain ⟨gb, go, rfl⟩ := Hx.sees.dl.lies (by omega)
      have hlt' : k < Y.dl.length := by omega
      obtain ⟨c1, c2, c4⟩ := dw_at Hx.sees.dl k hlt'
      have HN := Lib.hid (mem_next (N := ⟨o, v, false⟩) hlt')
      generalize Y.dl[k] = e at c1 c2 c4 HN
      cases fb
      · have HQ := eq_dirty e.p e.v e.f o v false
        by_cases he : (⟨o, v, false⟩ : Dw) = e
        · have HJ := Lib.hid (show true = true ↔ (⟨o, v, false⟩ : Dw) ∈ Y.dl.take (k + 1) from by rw [HN.out]; simp [he])
          subst he
          have hz := dw_eq (⟨o, v, false⟩ : Dw)
          simp only [hz] at HQ
          clear HN HI hz
          go_wp2_with fail
          go_roundw
          case rel => exact ⟨k + 1, true, by simp, by omega, by go_num, HJ, Hx, Hy, C⟩
          case measure => simp [intOf]; omega
        · have HJ := Lib.hid (show false = true ↔ (⟨o, v, false⟩ : Dw) ∈ Y.dl.take (k + 1) from by rw [HN.out, ← HI.out]; simp [he])
          have hz := dw_ne (fun h => he h.symm)
          simp only [hz] at HQ
          clear HN HI hz he
          go_wp2_with fail
          go_roundw
          case rel => exact ⟨k + 1, false, by simp, by omega, by go_num, HJ, Hx, Hy, C⟩
          case measure => simp [intOf]; omega
      · have HJ := Lib.hid (show true = true ↔ (⟨o, v, false⟩ : Dw) ∈ Y.dl.take (k + 1) from by rw [HN.out, ← HI.out]; simp)
        clear HN HI
        go_wp2_with fail
        go_roundw
        case rel => exact ⟨k + 1, true, by simp, by omega, by go_num, HJ, Hx, Hy, C⟩
        case measure => simp [intOf]; omega
    · obtain rfl : k = m4 := by omega
      obtain rfl : fb = true := HI.out.2 (by rw [List.take_of_length_le (by omega)]; exact HM.out)
      obtain ⟨z0, z1, z2, z3⟩ := Hy.cells
      clear HI hlt
      go_wp2_with fail
      refine (same_selfD _ _ _ _ _ _ _ _ _ _ _ _ _ _ _ _ Y _ Hx.sees Hy.sees).mono ?_
      rintro e wa ⟨rfl, ba⟩
      replace C := below_then C ba
      go_wp2_with fail
      refine (Al.alive_any _).mono ?_
      rintro e wb ⟨rfl, bb⟩
      go_wp2
      go_ret
      exact ⟨rfl, below_then C bb⟩

set_option maxHeartbeats 4000000 in
theorem walk_same (a : Option Addr) (n c : Nat) (b : Option Addr) (m d : Nat) (D : Dev) (p o u v : Int) (w : World) (s : SeesD w a n c b m d (-1) false D) (hok : okD D = true) (hp : 0 ≤ p ∧ p < n) (ho : 0 ≤ o ∧ o < n) (hu : 0 ≤ u ∧ u < 18446744073709551616) (hv : 0 ≤ v ∧ v < 18446744073709551616) (hg : greatD n m = false)
    (X Y : Dev) (HX : Hid (storedD D p u = X)) (HY : Hid (storedD X o v = Y)) (OX : Hid (okD X = true)) (DX : Hid (X.down = false)) (DY : Hid (Y.down = false)) (HZY : Hid (storedD D o v = Y)) (HM : Hid ((⟨o, v, false⟩ : Dw) ∈ Y.dl)) (hpo : p = o) :
    Calls Try.prog 8 #[dev a n c b m d (-1) false, .int .i64 p, .int .i64 o, .int .u64 u, .int .u64 v] w fun e w' => e = .returned (.bool true) ∧ Below w.heap.size w w' := by
  have HOK := Lib.hid hok
  have HC := Lib.hid (chk_ok hok)
  have HP := Lib.hid hp
  have HO := Lib.hid ho
  have hnt := s.im.top
  have hb : (p != o) = false := by simpa using hpo
  replace hpo := Lib.hid hpo
  clear hok
  have C := below_new (o := box a n c b m d (-1) false) (Below.refl w.heap.size w)
  have Hd := Var.new s
  go_enter Try.func8, Try.ntmps8
  go_wp2_with fail
  refine (rgreat_any _ _ _ _ _ _ _ _ _ s.dl.short).mono ?_
  rintro e w1 ⟨rfl, b1⟩
  replace Hd := Hd.keep b1
  replace C := below_then C b1
  rw [hg]
  have tx := Hd.box.lt
  obtain ⟨x0, x1, x2, x3⟩ := Hd.cells
  go_wp2_with fail
  refine (chk_b _ _ _ _ _ _ _ _ D _ Hd.sees).mono ?_
  rintro e w2 ⟨rfl, b2⟩
  replace Hd := Hd.keep b2
  replace C := below_then C b2
  rw [HC.out]
  clear tx x0 x1 x2 x3
  have tx := Hd.box.lt
  obtain ⟨x0, x1, x2, x3⟩ := Hd.cells
  go_wp2_with fail
  all_goals first | (exfalso; omega) | skip
  refine (store_x _ _ _ _ _ _ _ _ D p u _ Hd.sees HOK.out HP.out hu X HX.out false DX.out).mono ?_
  rintro e w3 ⟨a3, c3, g3, m3, d3, l3, rfl, S3, b3⟩
  replace Hd := Hd.keep b3
  replace C := below_then C b3
  have Ndx := Lib.hid (Nat.ne_of_lt Hd.box.lt)
  have Bx : Hid (w.heap.size ≤ w3.heap.size) := Lib.hid C.size
  have Hx := Var.new S3
  have n3 : Below w3.heap.size w3 (w3.alloc (box a3 n c3 g3 m3 d3 l3 false)) := below_new (Below.refl _ _)
  replace Hd := Hd.keep n3
  replace C := below_then C n3
  clear S3
  clear tx x0 x1 x2 x3
  go_wp2_with fail
  refine (store_x _ _ _ _ _ _ _ _ X o v _ Hx.sees OX.out HO.out hv Y HY.out false DY.out).mono ?_
  rintro e w4 ⟨a4, c4, g4, m4, d4, l4, rfl, S4, b4⟩
  replace Hd := Hd.keep b4
  replace Hx := Hx.keep b4
  replace C := below_then C b4
  have tq := Hx.box.lt
  obtain ⟨⟨q0, q1, q2, q3⟩, f0, f1, f2, f3⟩ := Hx.box.open4
  replace Hd := Hx.far (y0 := .slice a4 n c4) (y1 := .slice g4 m4 d4) (y2 := .int .i64 l4) (y3 := .bool false) Hd Ndx.out
  replace C := below_put (B := w3.heap.size) (y0 := .slice a4 n c4) (y1 := .slice g4 m4 d4) (y2 := .int .i64 l4) (y3 := .bool false) C Bx.out
  replace Hx := Hx.put S4
  clear S4
  dsimp only [put4] at C Hd Hx
  have tx := Hd.box.lt
  obtain ⟨x0, x1, x2, x3⟩ := Hd.cells
  go_wp2_with fail
  clear tq q0 q1 q2 q3 f0 f1 f2 f3
  refine (store_x _ _ _ _ _ _ _ _ D o v _ Hd.sees HOK.out HO.out hv Y HZY.out false DY.out).mono ?_
  rintro e w5 ⟨a5, c5, g5, m5, d5, l5, rfl, S5, b5⟩
  replace Hd := Hd.keep b5
  replace Hx := Hx.keep b5
  replace C := below_then C b5
  have Ndy := Lib.hid (Nat.ne_of_lt Hd.box.lt)
  have Nxy := Lib.hid (Nat.ne_of_lt Hx.box.lt)
  have By : Hid (w.heap.size ≤ w5.heap.size) := Lib.hid C.size
  have Hy := Var.new S5
  have n5 : Below w5.heap.size w5 (w5.alloc (box a5 n c5 g5 m5 d5 l5 false)) := below_new (Below.refl _ _)
  replace Hd := Hd.keep n5
  replace Hx := Hx.keep n5
  replace C := below_then C n5
  clear S5
  clear tx x0 x1 x2 x3
  have tx := Hx.box.lt
  obtain ⟨x0, x1, x2, x3⟩ := Hx.cells
  go_wp2_with fail
  clear tx x0 x1 x2 x3
  go_loopw [16, 17] (fun f i wr => ∃ (k : Nat) (fb : Bool), f = .bool fb ∧ k ≤ m4 ∧ i = .int .i64 k ∧ Hid (fb = true ↔ (⟨o, v, false⟩ : Dw) ∈ Y.dl.take k) ∧ Var wr w3.heap.size a4 n c4 g4 m4 d4 l4 false Y ∧ Var wr w5.heap.size a5 n c5 g5 m5 d5 l5 false Y ∧ Below w.heap.size w wr) (fun _ i _ => m4 - (intOf i).toNat)
  case atStart => exact ⟨0, false, rfl, Nat.zero_le _, rfl, Lib.hid (by simp), Hx, Hy, C⟩
  case round =>
    clear Hx Hy C
    obtain ⟨k, fb, rfl, hk, rfl, HI, Hx, Hy, C⟩ := hrel
    have hlen := Hx.sees.dl.len
    have hmt := Hx.sees.dl.short
    have tx := Hx.box.lt
    have ty := Hy.box.lt
    obtain ⟨x0, x1, x2, x3⟩ := Hx.cells
    by_cases hlt : k < m4
    · obtain ⟨gb, go, rfl⟩ := Hx.sees.dl.lies (by omega)
      have hlt' : k < Y.dl.length := by omega
      obtain ⟨c1, c2, c4⟩ := dw_at Hx.sees.dl k hlt'
      have HN := Lib.hid (mem_next (N := ⟨o, v, false⟩) hlt')
      generalize Y.dl[k] = e at c1 c2 c4 HN
      cases fb
      · have HQ := eq_dirty e.p e.v e.f o v false
        by_cases he : (⟨o, v, false⟩ : Dw) = e
        · have HJ := Lib.hid (show true = true ↔ (⟨o, v, false⟩ : Dw) ∈ Y.dl.take (k + 1) from by rw [HN.out]; simp [he])
          subst he
          have hz := dw_eq (⟨o, v, false⟩ : Dw)
          simp only [hz] at HQ
          clear HN HI hz
          go_wp2_with fail
          go_roundw
          case rel => exact ⟨k + 1, true, by simp, by omega, by go_num, HJ, Hx, Hy, C⟩
          case measure => simp [intOf]; omega
        · have HJ := Lib.hid (show false = true ↔ (⟨o, v, false⟩ : Dw) ∈ Y.dl.take (k + 1) from by rw [HN.out, ← HI.out]; simp [he])
          have hz := dw_ne (fun h => he h.symm)
          simp only [hz] at HQ
          clear HN HI hz he
          go_wp2_with fail
          go_roundw
          case rel => exact ⟨k + 1, false, by simp, by omega, by go_num, HJ, Hx, Hy, C⟩
          case measure => simp [intOf]; omega
      · have HJ := Lib.hid (show true = true ↔ (⟨o, v, false⟩ : Dw) ∈ Y.dl.take (k + 1) from by rw [HN.out, ← HI.out]; simp)
        clear HN HI
        go_wp2_with fail
        go_roundw
        case rel => exact ⟨k + 1, true, by simp, by omega, by go_num, HJ, Hx, Hy, C⟩
        case measure => simp [intOf]; omega
    · obtain rfl : k = m4 := by omega
      obtain rfl : fb = true := HI.out.2 (by rw [List.take_of_length_le (by omega)]; exact HM.out)
      obtain ⟨z0, z1, z2, z3⟩ := Hy.cells
      clear HI hlt
      go_wp2_with fail
      refine (same_selfD _ _ _ _ _ _ _ _ _ _ _ _ _ _ _ _ Y _ Hx.sees Hy.sees).mono ?_
      rintro e wa ⟨rfl, ba⟩
      replace C := below_then C ba
      go_wp2_with fail
      refine (Al.alive_any _).mono ?_
      rintro e wb ⟨rfl, bb⟩
      go_wp2
      go_ret
      exact ⟨rfl, below_then C bb⟩

set_option maxHeartbeats 4000000 in
theorem walk_guard (a : Option Addr) (n c : Nat) (b : Option Addr) (m d : Nat) (l : Int) (q : Bool) (D : Dev) (p o u v : Int) (w : World) (s : SeesD w a n c b m d l q D) (hg : greatD n m = true ∨ (greatD n m = false ∧ okD D = false) ∨ (greatD n m = false ∧ okD D = true ∧ l ≠ -1) ∨ (greatD n m = false ∧ okD D = true ∧ l = -1 ∧ p < 0) ∨ (greatD n m = false ∧ okD D = true ∧ l = -1 ∧ 0 ≤ p ∧ (n : Int) ≤ p) ∨ (greatD n m = false ∧ okD D = true ∧ l = -1 ∧ 0 ≤ p ∧ p < n ∧ o < 0) ∨ (greatD n m = false ∧ okD D = true ∧ l = -1 ∧ 0 ≤ p ∧ p < n ∧ 0 ≤ o ∧ (n : Int) ≤ o)) :
    Calls Try.prog 8 #[dev a n c b m d (l) q, .int .i64 p, .int .i64 o, .int .u64 u, .int .u64 v] w fun e w' => e = .returned (.bool true) ∧ Below w.heap.size w w' := by
  have C := below_new (o := box a n c b m d l q) (Below.refl w.heap.size w)
  have Hd := Var.new s
  have hnt := s.im.top
  have hmt := s.dl.short
  rcases hg with hg | ⟨hg, hok⟩ | ⟨hg, hok, h0⟩ | ⟨hg, hok, h0, h1⟩ | ⟨hg, hok, h0, h1, h2⟩ | ⟨hg, hok, h0, h1, h2, h3⟩ | ⟨hg, hok, h0, h1, h2, h3, h4⟩
  · go_enter Try.func8, Try.ntmps8
    go_wp2_with fail
    refine (rgreat_any _ _ _ _ _ _ _ _ _ s.dl.short).mono ?_
    rintro e w1 ⟨rfl, b1⟩
    rw [hg]
    go_wp2_with fail
    refine (Al.alive_any _).mono ?_
    rintro e wb ⟨rfl, bb⟩
    go_wp2
    go_ret
    exact ⟨rfl, below_then (below_then C b1) bb⟩
  · have hc : chk D = 8 := chk_bad (by rw [hok]; decide)
    go_enter Try.func8, Try.ntmps8
    go_wp2_with fail
    refine (rgreat_any _ _ _ _ _ _ _ _ _ s.dl.short).mono ?_
    rintro e w1 ⟨rfl, b1⟩
    rw [hg]
    replace Hd := Hd.keep b1
    have td := Hd.box.lt
    obtain ⟨x0, x1, x2, x3⟩ := Hd.cells
    go_wp2_with fail
    refine (chk_b _ _ _ _ _ _ _ _ D _ Hd.sees).mono ?_
    rintro e w2 ⟨rfl, b2⟩
    rw [hc]
    go_wp2_with fail
    refine (Al.alive_any _).mono ?_
    rintro e wb ⟨rfl, bb⟩
    go_wp2
    go_ret
    exact ⟨rfl, below_then (below_then (below_then C b1) b2) bb⟩
  · have hc : chk D = 0 := chk_ok hok
    have hb : (l != -1) = true := by simpa using h0
    go_enter Try.func8, Try.ntmps8
    go_wp2_with fail
    refine (rgreat_any _ _ _ _ _ _ _ _ _ s.dl.short).mono ?_
    rintro e w1 ⟨rfl, b1⟩
    rw [hg]
    replace Hd := Hd.keep b1
    have td := Hd.box.lt
    obtain ⟨x0, x1, x2, x3⟩ := Hd.cells
    go_wp2_with fail
    refine (chk_b _ _ _ _ _ _ _ _ D _ Hd.sees).mono ?_
    rintro e w2 ⟨rfl, b2⟩
    rw [hc]
    replace Hd := Hd.keep b2
    clear x0 x1 x2 x3 td
    have td := Hd.box.lt
    obtain ⟨x0, x1, x2, x3⟩ := Hd.cells
    go_wp2_with fail
    all_goals first | (exfalso; omega) | skip
    all_goals
      refine (Al.alive_any _).mono ?_
      rintro e wb ⟨rfl, bb⟩
      go_wp2
      go_ret
      exact ⟨rfl, below_then (below_then (below_then C b1) b2) bb⟩
  · have hc : chk D = 0 := chk_ok hok
    subst h0
    go_enter Try.func8, Try.ntmps8
    go_wp2_with fail
    refine (rgreat_any _ _ _ _ _ _ _ _ _ s.dl.short).mono ?_
    rintro e w1 ⟨rfl, b1⟩
    rw [hg]
    replace Hd := Hd.keep b1
    have td := Hd.box.lt
    obtain ⟨x0, x1, x2, x3⟩ := Hd.cells
    go_wp2_with fail
    refine (chk_b _ _ _ _ _ _ _ _ D _ Hd.sees).mono ?_
    rintro e w2 ⟨rfl, b2⟩
    rw [hc]
    replace Hd := Hd.keep b2
    clear x0 x1 x2 x3 td
    have td := Hd.box.lt
    obtain ⟨x0, x1, x2, x3⟩ := Hd.cells
    go_wp2_with fail
    all_goals first | (exfalso; omega) | skip
    all_goals
      refine (Al.alive_any _).mono ?_
      rintro e wb ⟨rfl, bb⟩
      go_wp2
      go_ret
      exact ⟨rfl, below_then (below_then (below_then C b1) b2) bb⟩
  · have hc : chk D = 0 := chk_ok hok
    subst h0
    go_enter Try.func8, Try.ntmps8
    go_wp2_with fail
    refine (rgreat_any _ _ _ _ _ _ _ _ _ s.dl.short).mono ?_
    rintro e w1 ⟨rfl, b1⟩
    rw [hg]
    replace Hd := Hd.keep b1
    have td := Hd.box.lt
    obtain ⟨x0, x1, x2, x3⟩ := Hd.cells
    go_wp2_with fail
    refine (chk_b _ _ _ _ _ _ _ _ D _ Hd.sees).mono ?_
    rintro e w2 ⟨rfl, b2⟩
    rw [hc]
    replace Hd := Hd.keep b2
    clear x0 x1 x2 x3 td
    have td := Hd.box.lt
    obtain ⟨x0, x1, x2, x3⟩ := Hd.cells
    go_wp2_with fail
    all_goals first | (exfalso; omega) | skip
    all_goals
      refine (Al.alive_any _).mono ?_
      rintro e wb ⟨rfl, bb⟩
      go_wp2
      go_ret
      exact ⟨rfl, below_then (below_then (below_then C b1) b2) bb⟩
  · have hc : chk D = 0 := chk_ok hok
    subst h0
    go_enter Try.func8, Try.ntmps8
    go_wp2_with fail
    refine (rgreat_any _ _ _ _ _ _ _ _ _ s.dl.short).mono ?_
    rintro e w1 ⟨rfl, b1⟩
    rw [hg]
    replace Hd := Hd.keep b1
    have td := Hd.box.lt
    obtain ⟨x0, x1, x2, x3⟩ := Hd.cells
    go_wp2_with fail
    refine (chk_b _ _ _ _ _ _ _ _ D _ Hd.sees).mono ?_
    rintro e w2 ⟨rfl, b2⟩
    rw [hc]
    replace Hd := Hd.keep b2
    clear x0 x1 x2 x3 td
    have td := Hd.box.lt
    obtain ⟨x0, x1, x2, x3⟩ := Hd.cells
    go_wp2_with fail
    all_goals first | (exfalso; omega) | skip
    all_goals
      refine (Al.alive_any _).mono ?_
      rintro e wb ⟨rfl, bb⟩
      go_wp2
      go_ret
      exact ⟨rfl, below_then (below_then (below_then C b1) b2) bb⟩
  · have hc : chk D = 0 := chk_ok hok
    subst h0
    go_enter Try.func8, Try.ntmps8
    go_wp2_with fail
    refine (rgreat_any _ _ _ _ _ _ _ _ _ s.dl.short).mono ?_
    rintro e w1 ⟨rfl, b1⟩
    rw [hg]
    replace Hd := Hd.keep b1
    have td := Hd.box.lt
    obtain ⟨x0, x1, x2, x3⟩ := Hd.cells
    go_wp2_with fail
    refine (chk_b _ _ _ _ _ _ _ _ D _ Hd.sees).mono ?_
    rintro e w2 ⟨rfl, b2⟩
    rw [hc]
    replace Hd := Hd.keep b2
    clear x0 x1 x2 x3 td
    have td := Hd.box.lt
    obtain ⟨x0, x1, x2, x3⟩ := Hd.cells
    go_wp2_with fail
    all_goals first | (exfalso; omega) | skip
    all_goals
      refine (Al.alive_any _).mono ?_
      rintro e wb ⟨rfl, bb⟩
      go_wp2
      go_ret
      exact ⟨rfl, below_then (below_then (below_then C b1) b2) bb⟩

theorem walk (a : Option Addr) (n c : Nat) (b : Option Addr) (m d : Nat) (l : Int) (q : Bool) (D : Dev) (p o u v : Int) (hp : -9223372036854775808 ≤ p ∧ p ≤ 9223372036854775807) (ho : -9223372036854775808 ≤ o ∧ o ≤ 9223372036854775807) (hu : 0 ≤ u ∧ u < 18446744073709551616) (hv : 0 ≤ v ∧ v < 18446744073709551616) (w : World) (s : SeesD w a n c b m d l q D) :
    Calls Try.prog 8 #[dev a n c b m d (l) q, .int .i64 p, .int .i64 o, .int .u64 u, .int .u64 v] w fun e w' => e = .returned (.bool true) ∧ Below w.heap.size w w' := by
  have hn := s.im.len
  by_cases hg : greatD n m = true
  · exact walk_guard a n c b m d l q D p o u v w s (.inl hg)
  · have hg' : greatD n m = false := by simpa using hg
    by_cases hok : okD D = true
    · by_cases hl : l = -1
      · by_cases hr : 0 ≤ p ∧ p < n ∧ 0 ≤ o ∧ o < n
        · have hL : D.left = -1 := by rw [s.left, hl]
          have hq : q = false := by
            have h3 := (ok_parts hok).1.2.2.2
            cases hq : q
            · rfl
            · exact absurd (h3 (s.down.trans hq)) (by omega)
          subst hl hq
          have h1 : 0 ≤ p ∧ p < D.im.length := by omega
          have h2 : 0 ≤ o ∧ o < D.im.length := by omega
          have hd := s.down
          have hX := ok_stored (v := u) hok h1
          have e1 := stored_calm hL p u
          have hL1 : (storedD D p u).left = -1 := by rw [e1]; exact hL
          have e2 := stored_calm hL1 o v
          have e3 := stored_calm hL o v
          have hL3 : (storedD D o v).left = -1 := by rw [e3]; exact hL
          have e4 := stored_calm hL3 p u
          by_cases hpo : p = o
          · refine walk_same a n c b m d D p o u v w s hok ⟨h1.1, by omega⟩ ⟨h2.1, by omega⟩ hu hv hg' _ _ (Lib.hid rfl) (Lib.hid rfl) (Lib.hid hX) (Lib.hid ?_) (Lib.hid ?_) (Lib.hid ?_) (Lib.hid ?_) hpo
            · rw [e1]; exact hd
            · rw [e2, e1]; exact hd
            · rw [e3, e2, e1]
              subst hpo
              simp only [ins_twice]
            · rw [e2]; exact ins_mem _
          · refine walk_other a n c b m d D p o u v w s hok ⟨h1.1, by omega⟩ ⟨h2.1, by omega⟩ hu hv hg' _ _ _ (Lib.hid rfl) (Lib.hid rfl) (Lib.hid hX) (Lib.hid ?_) (Lib.hid ?_) (Lib.hid rfl) (Lib.hid ?_) (Lib.hid (ok_stored (v := v) hok h2)) (Lib.hid ?_) (Lib.hid ?_) hpo
            · rw [e1]; exact hd
            · rw [e2, e1]; exact hd
            · rw [e4, e3, e2, e1]
              simp only [ins_comm hpo]
            · rw [e3]; exact hd
            · rw [e2]; exact ins_mem _
        · exact walk_guard a n c b m d l q D p o u v w s (by simp only [hg', hok, hl]; simp; omega)
      · exact walk_guard a n c b m d l q D p o u v w s (.inr (.inr (.inl ⟨hg', hok, hl⟩)))
    · exact walk_guard a n c b m d l q D p o u v w s (.inr (.inl ⟨hg', by simpa using hok⟩))

/-! The row's step. -/
set_option maxRecDepth 100000 in
theorem lifted (os : Os) (started : os.Started) (H : Type) (enc : TypeId × Value → H) :
    ReturnsInHanded {} Try.checked os 8 .any (Rows.cacheOrderSpec.pre6 enc Try.prog Try.f8 Rows.cacheOrderRow.domain false) (Rows.cacheOrderSpec.post enc Try.prog Try.f8 false true false false) := by
  refine returnsInHanded_of_change_sized (C := Try.checked) St.own started (by kernel_rfl) Try.func8
    (ChangeSpec.witness6 (enc := enc) (C := Try.checked) false ⟨#[], #[.agg #[.slice .none 0 0, .slice .none 0 0, .int .i64 0, .bool false], .int .i64 0, .int .i64 0, .int .u64 0, .int .u64 0], []⟩ 8 (by kernel_rfl) (by kernel_rfl) (by kernel_rfl) (by kernel_rfl)) ?_
  intro W base args ds gs before hval0 hW hcnd hsz0 _
  have hsz : (DataW.weightsEach Try.prog (Try.f8.params.toList ++ Rows.cacheOrderSpec.plain.varTypes Try.prog) (ds ++ gs)).all (· ≤ reachBytes) = true := hsz0
  have hval : ∀ (j : Nat) t v, Try.f8.params[j]? = some t → args[j]? = some v → Value.okWide Try.prog W .any base t v := hval0
  have hW' := hW
  obtain ⟨p, q, hA0, hV, rfl, hfz, hnd⟩ := hW
  have hA : DataW.TrodAll enc Try.prog W 0 (fun _ => true) true Try.f8.params.toList args.toList ds p := hA0
  rw [Try.params8] at hA hval hsz
  obtain ⟨v0, vs0, d0, ds0, p0, q0, hargs, rfl, rfl, h0, r0⟩ := trodAll_cons hA
  obtain ⟨v1, vs1, d1, ds1, p1, q1, rfl, rfl, rfl, h1, r1⟩ := trodAll_cons r0
  obtain ⟨v2, vs2, d2, ds2, p2, q2, rfl, rfl, rfl, h2, r2⟩ := trodAll_cons r1
  obtain ⟨v3, vs3, d3, ds3, p3, q3, rfl, rfl, rfl, h3, r3⟩ := trodAll_cons r2
  obtain ⟨v4, vs4, d4, ds4, p4, q4, rfl, rfl, rfl, h4, r4⟩ := trodAll_cons r3
  obtain ⟨rfl, rfl, rfl⟩ := trodAll_nil r4
  obtain rfl : args = #[v0, v1, v2, v3, v4] := by cases args; simp_all
  obtain ⟨a0, n0, c0, b0, m0, e0, l0, b0', D0, rfl, s0⟩ := Dv.open_dev (hval 0 25 v0 rfl rfl) h0 (fun n hn => by
    have := List.all_eq_true.1 hsz _ (DataW.weights_mem_each (j := 0) (t := 25) rfl rfl n hn)
    exact of_decide_eq_true this)
  obtain ⟨a1, rfl, rfl, rfl, w1⟩ := open_int Try.underlying3 (hval 1 3 v1 rfl rfl) h1
  obtain ⟨a2, rfl, rfl, rfl, w2⟩ := open_int Try.underlying3 (hval 2 3 v2 rfl rfl) h2
  obtain ⟨a3, rfl, rfl, rfl, w3⟩ := open_int Try.underlying26 (hval 3 26 v3 rfl rfl) h3
  obtain ⟨a4, rfl, rfl, rfl, w4⟩ := open_int Try.underlying26 (hval 4 26 v4 rfl rfl) h4
  refine (walk a0 n0 c0 b0 m0 e0 l0 b0' D0 a1 a2 a3 a4 (St.i64_of_wf w1) (St.i64_of_wf w2) (St.u64_of_wf w3) (St.u64_of_wf w4) W s0).mono fun e W' ⟨he, hb⟩ => ?_
  subst he
  exact St.law_done St.laid (by kernel_rfl) rfl rfl Try.underlying4 rfl hW' hb

theorem over : Rows.cacheOrderRow.holds Try.pinned (OpenSpec.ofChange Rows.cacheOrderSpec) :=
  OpenClaim.holds_of_wide 8 Try.f8 rfl rfl rfl rfl rfl rfl rfl ⟨rfl, rfl, rfl, rfl, rfl⟩ rfl rfl rfl rfl rfl (by kernel_rfl) Try.func8 (by kernel_rfl)
    (of_decide_eq_true (by kernel_rfl)) (by unfold Func.isWrapper; first | (rw [if_pos (by decide +kernel)]; kernel_rfl) | (rw [if_neg (by decide +kernel)]; exact ⟨rfl, rfl⟩))
    (fun os started H enc _ => lifted os started H enc)
theorem proved : Rows.CacheOrderSaid := over
#print axioms proved
end Go.Proofs.Ytekgjnbijopieaa.cacheOrder

