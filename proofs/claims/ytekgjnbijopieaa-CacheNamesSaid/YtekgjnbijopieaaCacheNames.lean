/-
  The law CacheNames returns true for no argument at all: its examples hold; no condition.
-/
import Derived.Test.YtekgjnbijopieaaCachex
import Derived.Test.YtekgjnbijopieaaDevOpen
import Derived.SizedLaws
import Derived.Test.YtekgjnbijopieaaCachey
namespace Go.Proofs.Ytekgjnbijopieaa.cacheNames
open Go.Proofs.Ytekgjnbijopieaa.Cy Go.Proofs.Ytekgjnbijopieaa.Cx Go.ChangeShapes Go.WideShapes Go.ChangeAt Go.RowKit Go.Proofs.Ytekgjnbijopieaa.Sl Go.Proofs.Ytekgjnbijopieaa.St Go.Proofs.Ytekgjnbijopieaa.Ir Go.Proofs.Ytekgjnbijopieaa.Dv Go.Proofs.Ytekgjnbijopieaa.Cr Go.Proofs.Ytekgjnbijopieaa.Cu
set_option linter.unusedVariables false
set_option maxRecDepth 100000


def z256 : List Int := List.replicate 256 0
def z255 : List Int := List.replicate 255 0
def z8 : List Int := List.replicate 8 0
theorem below_five (w0 : World) (o1 o2 o3 o4 o5 : Obj) : Below w0.heap.size w0 (((((w0.alloc o1).alloc o2).alloc o3).alloc o4).alloc o5) := below_new (below_new (below_new (below_new (below_new (Below.refl _ _)))))
abbrev o1 : Obj := .cells #[.int .i64 (-1), .int .u64 0, .bool false] 28
abbrev o2 : Obj := .cells #[.int .i64 256, .int .u64 0, .bool false] 28
abbrev o3 : Obj := .cells #[.int .i64 5, .int .u64 0, .bool false, .int .i64 5, .int .u64 0, .bool false] 28
abbrev o4 : Obj := .cells #[.int .i64 5, .int .u64 0, .bool false, .int .i64 4, .int .u64 0, .bool false] 28
abbrev M (g n : Nat) : Value := .slice (some ⟨g, 0, none⟩) n 256
abbrev Z : Value := .slice none 0 0
theorem sees_nil (W : World) : SeesR dw W none 0 0 [] := ⟨rfl, Nat.le_refl _, by decide, by simp, fun _ => ⟨rfl, rfl⟩, .inl rfl⟩
abbrev r5 (g B : Nat) : Array Value := #[Z, Z, .int .i64 (-1), .bool false, M g 255, Z, .int .i64 0, .bool false, M g 256, Z, .int .i64 (-2), .bool false, M g 256, Z, .int .i64 1000001, .bool false, M g 256, Z, .int .i64 (-1), .bool true,
  M g 256, Z, .int .i64 1, .bool true, M g 256, .slice (some ⟨B, 0, none⟩) 1 1, .int .i64 0, .bool false, M g 256, .slice (some ⟨B + 1, 0, none⟩) 1 1, .int .i64 0, .bool false,
  M g 256, .slice (some ⟨B + 1 + 1, 0, none⟩) 2 2, .int .i64 0, .bool false, M g 256, .slice (some ⟨B + 1 + 1 + 1, 0, none⟩) 2 2, .int .i64 0, .bool false]
abbrev o5 (g B : Nat) : Obj := .cells (r5 g B) 25
theorem bads_start (w0 : World) (g : Nat) (HS : Sees w0 .u64 (some ⟨g, 0, none⟩) 256 256 z256) : Bads (((((w0.alloc o1).alloc o2).alloc o3).alloc o4).alloc (o5 g w0.heap.size)) (w0.heap.size + 1 + 1 + 1 + 1) := by
  have B1 : Box (w0.alloc o1) w0.heap.size #[.int .i64 (-1), .int .u64 0, .bool false] 28 := Box.new _ _ _
  have B2 : Box ((w0.alloc o1).alloc o2) (w0.heap.size + 1) #[.int .i64 256, .int .u64 0, .bool false] 28 := Box.new1 _ _ _ _
  have B3 : Box (((w0.alloc o1).alloc o2).alloc o3) (w0.heap.size + 1 + 1) #[.int .i64 5, .int .u64 0, .bool false, .int .i64 5, .int .u64 0, .bool false] 28 := by
    have h := Box.new1 (w0.alloc o1) o2 #[.int .i64 5, .int .u64 0, .bool false, .int .i64 5, .int .u64 0, .bool false] 28
    have hs : (w0.alloc o1).heap.size = w0.heap.size + 1 := by simp
    rwa [hs] at h
  have B4 : Box ((((w0.alloc o1).alloc o2).alloc o3).alloc o4) (w0.heap.size + 1 + 1 + 1) #[.int .i64 5, .int .u64 0, .bool false, .int .i64 4, .int .u64 0, .bool false] 28 := by
    have h := Box.new1 ((w0.alloc o1).alloc o2) o3 #[.int .i64 5, .int .u64 0, .bool false, .int .i64 4, .int .u64 0, .bool false] 28
    have hs : ((w0.alloc o1).alloc o2).heap.size = w0.heap.size + 1 + 1 := by simp
    rwa [hs] at h
  have B5 : Box (((((w0.alloc o1).alloc o2).alloc o3).alloc o4).alloc (o5 g w0.heap.size)) (w0.heap.size + 1 + 1 + 1 + 1) (r5 g w0.heap.size) 25 := by
    have h := Box.new1 (((w0.alloc o1).alloc o2).alloc o3) o4 (r5 g w0.heap.size) 25
    have hs : (((w0.alloc o1).alloc o2).alloc o3).heap.size = w0.heap.size + 1 + 1 + 1 := by simp
    rwa [hs] at h
  have D1 := seesR_box ((((B1.alloc o2).alloc o3).alloc o4).alloc (o5 g w0.heap.size)) [⟨-1, 0, false⟩] rfl (by simp [dw]) 1 rfl (by decide)
  have D2 := seesR_box (((B2.alloc o3).alloc o4).alloc (o5 g w0.heap.size)) [⟨256, 0, false⟩] rfl (by simp [dw]) 1 rfl (by decide)
  have D3 := seesR_box ((B3.alloc o4).alloc (o5 g w0.heap.size)) [⟨5, 0, false⟩, ⟨5, 0, false⟩] rfl (by simp [dw]) 2 rfl (by decide)
  have D4 := seesR_box (B4.alloc (o5 g w0.heap.size)) [⟨5, 0, false⟩, ⟨4, 0, false⟩] rfl (by simp [dw]) 2 rfl (by decide)
  have S6 := HS.keep (below_five w0 o1 o2 o3 o4 (o5 g w0.heap.size))
  have S5 : Sees _ .u64 (some ⟨g, 0, none⟩) 255 256 (z256.take 255) := S6.upto 255 (by decide)
  generalize (((((w0.alloc o1).alloc o2).alloc o3).alloc o4).alloc (o5 g w0.heap.size)) = W at B5 D1 D2 D3 D4 S6 S5 ⊢
  have ZI : Sees W .u64 none 0 0 [] := ⟨rfl, Nat.le_refl _, by decide, by simp, fun _ => ⟨rfl, rfl⟩, .inl rfl⟩
  have ZD := sees_nil W
  intro k hk
  rcases (by omega : k = 0 ∨ k = 1 ∨ k = 2 ∨ k = 3 ∨ k = 4 ∨ k = 5 ∨ k = 6 ∨ k = 7 ∨ k = 8 ∨ k = 9) with rfl | rfl | rfl | rfl | rfl | rfl | rfl | rfl | rfl | rfl
  · exact ⟨_, _, _, _, _, _, _, _, ⟨[], [], -1, false⟩, B5.cell 0, B5.cell 1, B5.cell 2, B5.cell 3, ⟨ZI, ZD, rfl, rfl, by decide, by decide⟩, by decide +kernel⟩
  · exact ⟨_, _, _, _, _, _, _, _, ⟨z256.take 255, [], 0, false⟩, B5.cell 4, B5.cell 5, B5.cell 6, B5.cell 7, ⟨S5, ZD, rfl, rfl, by decide, by decide⟩, by decide +kernel⟩
  · exact ⟨_, _, _, _, _, _, _, _, ⟨z256, [], -2, false⟩, B5.cell 8, B5.cell 9, B5.cell 10, B5.cell 11, ⟨S6, ZD, rfl, rfl, by decide, by decide⟩, by decide +kernel⟩
  · exact ⟨_, _, _, _, _, _, _, _, ⟨z256, [], 1000001, false⟩, B5.cell 12, B5.cell 13, B5.cell 14, B5.cell 15, ⟨S6, ZD, rfl, rfl, by decide, by decide⟩, by decide +kernel⟩
  · exact ⟨_, _, _, _, _, _, _, _, ⟨z256, [], -1, true⟩, B5.cell 16, B5.cell 17, B5.cell 18, B5.cell 19, ⟨S6, ZD, rfl, rfl, by decide, by decide⟩, by decide +kernel⟩
  · exact ⟨_, _, _, _, _, _, _, _, ⟨z256, [], 1, true⟩, B5.cell 20, B5.cell 21, B5.cell 22, B5.cell 23, ⟨S6, ZD, rfl, rfl, by decide, by decide⟩, by decide +kernel⟩
  · exact ⟨_, _, _, _, _, _, _, _, ⟨z256, [⟨-1, 0, false⟩], 0, false⟩, B5.cell 24, B5.cell 25, B5.cell 26, B5.cell 27, ⟨S6, D1, rfl, rfl, by decide, by decide⟩, by decide +kernel⟩
  · exact ⟨_, _, _, _, _, _, _, _, ⟨z256, [⟨256, 0, false⟩], 0, false⟩, B5.cell 28, B5.cell 29, B5.cell 30, B5.cell 31, ⟨S6, D2, rfl, rfl, by decide, by decide⟩, by decide +kernel⟩
  · exact ⟨_, _, _, _, _, _, _, _, ⟨z256, [⟨5, 0, false⟩, ⟨5, 0, false⟩], 0, false⟩, B5.cell 32, B5.cell 33, B5.cell 34, B5.cell 35, ⟨S6, D3, rfl, rfl, by decide, by decide⟩, by decide +kernel⟩
  · exact ⟨_, _, _, _, _, _, _, _, ⟨z256, [⟨5, 0, false⟩, ⟨4, 0, false⟩], 0, false⟩, B5.cell 36, B5.cell 37, B5.cell 38, B5.cell 39, ⟨S6, D4, rfl, rfl, by decide, by decide⟩, by decide +kernel⟩
def e1 : Dev := ⟨z256, [], 3, false⟩
def e2 : Dev := ⟨z256, [⟨3, 7, false⟩], 2, false⟩
def e3 : Dev := ⟨z256, [⟨3, 7, true⟩], 1, false⟩
def e4 : Dev := ⟨z256.set 3 7, [], 0, false⟩
def e5 : Dev := ⟨z256.set 3 7, [], 0, true⟩
def e6 : Dev := ⟨z256, [⟨3, 7, false⟩], 0, true⟩
theorem t_new : newD (z256.take 8) = zdev ∧ newE (z256.take 8) = 8 := by decide +kernel
theorem t_load : loadR e1 256 = 0 ∧ asked e1 256 = 2 := by decide +kernel
theorem t_store : storeD e1 (-1) 0 = zdev ∧ asked e1 (-1) = 2 := by decide +kernel
theorem t_flush : flushD e1 256 = zdev ∧ asked e1 256 = 2 := by decide +kernel
theorem t1 : storeD e1 3 7 = e2 ∧ asked e1 3 = 0 := by decide +kernel
theorem t2 : flushD e2 3 = e3 ∧ asked e2 3 = 0 := by decide +kernel
theorem t3 : fenceD e3 = e4 ∧ chk e3 = 0 := by decide +kernel
theorem t4 : storeD e4 4 8 = e5 ∧ asked e4 4 = 0 := by decide +kernel
theorem t5 : fenceD { e2 with left := 0 } = e6 ∧ chk { e2 with left := 0 } = 0 := by decide +kernel
theorem t6 : flushD e6 3 = e6 ∧ asked e6 3 = 0 := by decide +kernel
theorem t7 : fenceD e6 = e6 ∧ chk e6 = 0 := by decide +kernel
theorem t8 : storeD e6 5 9 = e6 ∧ asked e6 5 = 0 := by decide +kernel
theorem t9 : loadR e6 3 = 7 ∧ asked e6 3 = 0 := by decide +kernel
theorem l1 : InNum e2 256 1 2 false := ⟨by decide +kernel, rfl, rfl, rfl⟩
theorem l2 : InNum e3 256 1 1 false := ⟨by decide +kernel, rfl, rfl, rfl⟩
theorem l3 : InNum e4 256 0 0 false := ⟨by decide +kernel, rfl, rfl, rfl⟩
theorem l4 : InNum e5 256 0 0 true := ⟨by decide +kernel, rfl, rfl, rfl⟩
theorem l6 : InNum e6 256 1 0 true := ⟨by decide +kernel, rfl, rfl, rfl⟩
theorem sees_e1 {W : World} {g : Nat} (h : Sees W .u64 (some ⟨g, 0, none⟩) 256 256 z256) : SeesD W (some ⟨g, 0, none⟩) 256 256 none 0 0 3 false e1 := ⟨h, sees_nil W, rfl, rfl, by decide, by decide⟩
theorem var_new1 (w1 : World) (o : Obj) {a : Option Addr} {n c : Nat} {b : Option Addr} {m d : Nat} {l : Int} {q : Bool} {D : Dev} (h : SeesD (w1.alloc o) a n c b m d l q D) : Var ((w1.alloc o).alloc (Dv.box a n c b m d l q)) (w1.heap.size + 1) a n c b m d l q D := by
  have h1 := Var.new h
  have hs : (w1.alloc o).heap.size = w1.heap.size + 1 := by simp
  rwa [hs] at h1
theorem wf_z : ∀ x ∈ z256, (Lit.int .u64 x).wf = true := by decide +kernel

set_option maxHeartbeats 4000000 in
theorem walk (w : World) : Calls Try.prog 3 #[] w fun e w' => e = .returned (.bool true) ∧ Below w.heap.size w w' := by
  go_enter Try.func3, Try.ntmps3
  go_wp2_with (refine wp_make rfl (.const (.int .i64 256)) (.const (.int .i64 256)) 22 rfl .u64 26 Try.underlying22 info_word w (Below.refl _ _) .i64 .i64 256 256 256 rfl rfl rfl rfl (by decide) ?_)
  intro w0 G0
  obtain ⟨a0, c0, hv0, s0⟩ := G0.sees wf_z (by decide)
  injection hv0 with h1 h2 h3
  subst h1 h3
  clear h2
  have HS : Sees w0 .u64 (some ⟨w.heap.size, 0, none⟩) 256 256 z256 := s0
  have C := G0.below
  clear G0 s0
  go_wp2_with fail
  go_loopw [3] (fun i wr => ∃ k : Nat, k ≤ 10 ∧ i = .int .i64 k ∧ Bads wr (w0.heap.size + 1 + 1 + 1 + 1) ∧ Sees wr .u64 (some ⟨w.heap.size, 0, none⟩) 256 256 z256 ∧ Below w.heap.size w wr) (fun i _ => 10 - (intOf i).toNat)
  case atStart => exact ⟨0, by decide, rfl, bads_start w0 w.heap.size HS, HS.keep (below_five _ _ _ _ _ _), below_then C (below_five _ _ _ _ _ _)⟩
  case round =>
    clear HS C
    obtain ⟨k, hk, rfl, HB, HS, C⟩ := hrel
    by_cases hlt : k < 10
    · obtain ⟨a, n, c, b, m, d, l, q, D, HA⟩ := HB k hlt
      have x0 := HA.c0
      have x1 := HA.c1
      have x2 := HA.c2
      have x3 := HA.c3
      go_wp2_with fail
      refine (load_k _ _ _ _ _ _ _ _ D (-1) _ HA.sees (by decide) _ _ (bad_load HA.bad _)).mono ?_
      rintro e r1 ⟨rfl, b1⟩
      replace HA := HA.keep b1
      replace HB := HB.keep b1
      replace HS := HS.keep b1
      replace C := below_then C b1
      clear x0 x1 x2 x3
      have x0 := HA.c0
      have x1 := HA.c1
      have x2 := HA.c2
      have x3 := HA.c3
      go_wp2_with fail
      refine (store_k _ _ _ _ _ _ _ _ D (-1) 0 _ HA.sees (by decide) (by decide) _ _ (bad_store HA.bad _ _) _ _ _ _ told_zero).mono ?_
      rintro e r2 ⟨a2, c2, g2, d2, rfl, -, b2⟩
      replace HA := HA.keep b2
      replace HB := HB.keep b2
      replace HS := HS.keep b2
      replace C := below_then C b2
      have n2 : Below r2.heap.size r2 (r2.alloc (box a2 0 c2 g2 0 d2 0 false)) := below_new (Below.refl _ _)
      replace HA := HA.keep n2
      replace HB := HB.keep n2
      replace HS := HS.keep n2
      replace C := below_then C n2
      clear n2
      clear x0 x1 x2 x3
      have x0 := HA.c0
      have x1 := HA.c1
      have x2 := HA.c2
      have x3 := HA.c3
      go_wp2_with fail
      refine (flush_k _ _ _ _ _ _ _ _ D (-1) _ HA.sees (by decide) _ _ (bad_flush HA.bad _) _ _ _ _ told_zero).mono ?_
      rintro e r3 ⟨a3, c3, g3, d3, rfl, -, b3⟩
      replace HA := HA.keep b3
      replace HB := HB.keep b3
      replace HS := HS.keep b3
      replace C := below_then C b3
      have n3 : Below r3.heap.size r3 (r3.alloc (box a3 0 c3 g3 0 d3 0 false)) := below_new (Below.refl _ _)
      replace HA := HA.keep n3
      replace HB := HB.keep n3
      replace HS := HS.keep n3
      replace C := below_then C n3
      clear n3
      clear x0 x1 x2 x3
      have x0 := HA.c0
      have x1 := HA.c1
      have x2 := HA.c2
      have x3 := HA.c3
      go_wp2_with fail
      refine (fence_k _ _ _ _ _ _ _ _ D _ HA.sees _ _ (bad_fence HA.bad) _ _ _ _ told_zero).mono ?_
      rintro e r4 ⟨a4, c4, g4, d4, rfl, -, b4⟩
      replace HA := HA.keep b4
      replace HB := HB.keep b4
      replace HS := HS.keep b4
      replace C := below_then C b4
      have n4 : Below r4.heap.size r4 (r4.alloc (box a4 0 c4 g4 0 d4 0 false)) := below_new (Below.refl _ _)
      replace HA := HA.keep n4
      replace HB := HB.keep n4
      replace HS := HS.keep n4
      replace C := below_then C n4
      clear n4
      clear x0 x1 x2 x3
      have x0 := HA.c0
      have x1 := HA.c1
      have x2 := HA.c2
      have x3 := HA.c3
      go_wp2_with fail
      refine (bad_view _ _ _ _ _ _ _ _ D _ HA.sees HA.bad).mono ?_
      rintro e r5 ⟨av, cv, rfl, b5⟩
      replace HA := HA.keep b5
      replace HB := HB.keep b5
      replace HS := HS.keep b5
      replace C := below_then C b5
      clear x0 x1 x2 x3
      have x0 := HA.c0
      have x1 := HA.c1
      have x2 := HA.c2
      have x3 := HA.c3
      go_wp2_with fail
      refine (bad_check _ _ _ _ _ _ _ _ D _ HA.sees HA.bad).mono ?_
      rintro e r6 ⟨rfl, b6⟩
      replace HA := HA.keep b6
      replace HB := HB.keep b6
      replace HS := HS.keep b6
      replace C := below_then C b6
      go_wp2_with fail
      go_roundw
      case rel => exact ⟨k + 1, by omega, by go_num, HB, HS, C⟩
      case measure => simp [intOf]; omega
    · obtain rfl : k = 10 := by omega
      have V8 := HS.upto 8 (by decide)
      clear HB hlt
      go_wp2_with fail
      refine (new_k _ _ _ _ _ V8 zdev 8 t_new _ _ _ _ told_zero).mono ?_
      rintro e w1 ⟨a1, c1, g1, d1, rfl, -, b1⟩
      replace HS := HS.keep b1
      replace C := below_then C b1
      clear V8
      have n1 : Below w1.heap.size w1 (w1.alloc (box a1 0 c1 g1 0 d1 0 false)) := below_new (Below.refl _ _)
      replace HS := HS.keep n1
      replace C := below_then C n1
      have Bd : Hid (w.heap.size ≤ w1.heap.size + 1) := Lib.hid (by have := C.size; simpa using this)
      have Hd := var_new1 w1 _ (sees_e1 HS)
      replace C := below_new (o := box (some ⟨w.heap.size, 0, none⟩) 256 256 none 0 0 3 false) C
      clear HS n1
      go_wp2_with fail
      refine (load_k _ _ _ _ _ _ _ _ e1 256 _ Hd.sees (by decide) _ _ t_load).mono ?_
      rintro e w2 ⟨rfl, b2⟩
      replace Hd := Hd.keep b2
      replace C := below_then C b2
      have tx := Hd.box.lt
      obtain ⟨x0, x1, x2, x3⟩ := Hd.cells
      go_wp2_with fail
      refine (store_k _ _ _ _ _ _ _ _ e1 (-1) 0 _ Hd.sees (by decide) (by decide) _ _ t_store _ _ _ _ told_zero).mono ?_
      rintro e w3 ⟨a3, c3, g3, d3, rfl, S3, b3⟩
      replace Hd := Hd.keep b3
      replace C := below_then C b3
      have n3 : Below w3.heap.size w3 (w3.alloc (box a3 0 c3 g3 0 d3 (0) false)) := below_new (Below.refl _ _)
      replace Hd := Hd.keep n3
      replace C := below_then C n3
      clear S3 n3
      clear tx x0 x1 x2 x3
      have tx := Hd.box.lt
      obtain ⟨x0, x1, x2, x3⟩ := Hd.cells
      go_wp2_with fail
      refine (flush_k _ _ _ _ _ _ _ _ e1 256 _ Hd.sees (by decide) _ _ t_flush _ _ _ _ told_zero).mono ?_
      rintro e w4 ⟨a4, c4, g4, d4, rfl, S4, b4⟩
      replace Hd := Hd.keep b4
      replace C := below_then C b4
      have n4 : Below w4.heap.size w4 (w4.alloc (box a4 0 c4 g4 0 d4 (0) false)) := below_new (Below.refl _ _)
      replace Hd := Hd.keep n4
      replace C := below_then C n4
      clear S4 n4
      clear tx x0 x1 x2 x3
      have tx := Hd.box.lt
      obtain ⟨x0, x1, x2, x3⟩ := Hd.cells
      go_wp2_with fail
      refine (store_k _ _ _ _ _ _ _ _ e1 3 7 _ Hd.sees (by decide) (by decide) _ _ t1 _ _ _ _ l1).mono ?_
      rintro e w5 ⟨a5, c5, g5, d5, rfl, S5, b5⟩
      replace Hd := Hd.keep b5
      replace C := below_then C b5
      clear tx x0 x1 x2 x3
      have tq := Hd.box.lt
      obtain ⟨⟨q0, q1, q2, q3⟩, f0, f1, f2, f3⟩ := Hd.box.open4
      replace C := below_put (B := (w1.heap.size + 1)) (y0 := .slice a5 256 c5) (y1 := .slice g5 1 d5) (y2 := .int .i64 (2)) (y3 := .bool false) C Bd.out
      replace Hd := Hd.put S5
      clear S5
      dsimp only [put4] at C Hd
      go_wp2_with fail
      clear tq q0 q1 q2 q3 f0 f1 f2 f3
      refine (flush_k _ _ _ _ _ _ _ _ e2 3 _ Hd.sees (by decide) _ _ t2 _ _ _ _ l2).mono ?_
      rintro e w6 ⟨a6, c6, g6, d6, rfl, S6, b6⟩
      replace Hd := Hd.keep b6
      replace C := below_then C b6
      have Ndf := Lib.hid (Nat.ne_of_lt Hd.box.lt)
      have Bf : Hid (w.heap.size ≤ w6.heap.size) := Lib.hid C.size
      have Hf := Var.new S6
      have n6 : Below w6.heap.size w6 (w6.alloc (box a6 256 c6 g6 1 d6 (1) false)) := below_new (Below.refl _ _)
      replace Hd := Hd.keep n6
      replace C := below_then C n6
      clear S6 n6
      go_wp2_with fail
      refine (fence_k _ _ _ _ _ _ _ _ e3 _ Hf.sees _ _ t3 _ _ _ _ l3).mono ?_
      rintro e w7 ⟨a7, c7, g7, d7, rfl, S7, b7⟩
      replace Hd := Hd.keep b7
      replace Hf := Hf.keep b7
      replace C := below_then C b7
      have Nde := Lib.hid (Nat.ne_of_lt Hd.box.lt)
      have Nfe := Lib.hid (Nat.ne_of_lt Hf.box.lt)
      have Be : Hid (w.heap.size ≤ w7.heap.size) := Lib.hid C.size
      have He := Var.new S7
      have n7 : Below w7.heap.size w7 (w7.alloc (box a7 256 c7 g7 0 d7 (0) false)) := below_new (Below.refl _ _)
      replace Hd := Hd.keep n7
      replace Hf := Hf.keep n7
      replace C := below_then C n7
      clear S7 n7
      go_wp2_with fail
      refine (store_k _ _ _ _ _ _ _ _ e4 4 8 _ He.sees (by decide) (by decide) _ _ t4 _ _ _ _ l4).mono ?_
      rintro e w8 ⟨a8, c8, g8, d8, rfl, S8, b8⟩
      replace Hd := Hd.keep b8
      replace Hf := Hf.keep b8
      replace He := He.keep b8
      replace C := below_then C b8
      have n8 : Below w8.heap.size w8 (w8.alloc (box a8 256 c8 g8 0 d8 (0) true)) := below_new (Below.refl _ _)
      replace Hd := Hd.keep n8
      replace Hf := Hf.keep n8
      replace He := He.keep n8
      replace C := below_then C n8
      clear S8 n8
      have tx := Hd.box.lt
      obtain ⟨x0, x1, x2, x3⟩ := Hd.cells
      have tz := Hf.box.lt
      obtain ⟨z0, z1, z2, z3⟩ := Hf.cells
      have ty := He.box.lt
      obtain ⟨y0, y1, y2, y3⟩ := He.cells
      have f2 := Hd.box.soft 2
      go_wp2_with fail
      clear f2
      clear tx x0 x1 x2 x3 tz z0 z1 z2 z3 ty y0 y1 y2 y3
      clear Hf He
      replace C := C.setCell (p := ⟨w1.heap.size + 1, 2, none⟩) Bd.out (.int .i64 0)
      replace Hd := var_left Hd 0 (by decide)
      refine (fence_k _ _ _ _ _ _ _ _ { e2 with left := 0 } _ Hd.sees _ _ t5 _ _ _ _ l6).mono ?_
      rintro e w9 ⟨a9, c9, g9, d9, rfl, S9, b9⟩
      replace Hd := Hd.keep b9
      replace C := below_then C b9
      have tq := Hd.box.lt
      obtain ⟨⟨q0, q1, q2, q3⟩, f0, f1, f2, f3⟩ := Hd.box.open4
      replace C := below_put (B := (w1.heap.size + 1)) (y0 := .slice a9 256 c9) (y1 := .slice g9 1 d9) (y2 := .int .i64 (0)) (y3 := .bool true) C Bd.out
      replace Hd := Hd.put S9
      clear S9
      dsimp only [put4] at C Hd
      go_wp2_with fail
      clear tq q0 q1 q2 q3 f0 f1 f2 f3
      refine (flush_k _ _ _ _ _ _ _ _ e6 3 _ Hd.sees (by decide) _ _ t6 _ _ _ _ l6).mono ?_
      rintro e w10 ⟨a10, c10, g10, d10, rfl, S10, b10⟩
      replace Hd := Hd.keep b10
      replace C := below_then C b10
      have Ndx := Lib.hid (Nat.ne_of_lt Hd.box.lt)
      have Bx : Hid (w.heap.size ≤ w10.heap.size) := Lib.hid C.size
      have Hx := Var.new S10
      have n10 : Below w10.heap.size w10 (w10.alloc (box a10 256 c10 g10 1 d10 (0) true)) := below_new (Below.refl _ _)
      replace Hd := Hd.keep n10
      replace C := below_then C n10
      clear S10 n10
      go_wp2_with fail
      refine (fence_k _ _ _ _ _ _ _ _ e6 _ Hx.sees _ _ t7 _ _ _ _ l6).mono ?_
      rintro e w11 ⟨a11, c11, g11, d11, rfl, S11, b11⟩
      replace Hd := Hd.keep b11
      replace Hx := Hx.keep b11
      replace C := below_then C b11
      have tq := Hx.box.lt
      obtain ⟨⟨q0, q1, q2, q3⟩, f0, f1, f2, f3⟩ := Hx.box.open4
      replace Hd := Hx.far (y0 := .slice a11 256 c11) (y1 := .slice g11 1 d11) (y2 := .int .i64 (0)) (y3 := .bool true) Hd Ndx.out
      replace C := below_put (B := w10.heap.size) (y0 := .slice a11 256 c11) (y1 := .slice g11 1 d11) (y2 := .int .i64 (0)) (y3 := .bool true) C Bx.out
      replace Hx := Hx.put S11
      clear S11
      dsimp only [put4] at C Hd Hx
      go_wp2_with fail
      clear tq q0 q1 q2 q3 f0 f1 f2 f3
      refine (store_k _ _ _ _ _ _ _ _ e6 5 9 _ Hx.sees (by decide) (by decide) _ _ t8 _ _ _ _ l6).mono ?_
      rintro e w12 ⟨a12, c12, g12, d12, rfl, S12, b12⟩
      replace Hd := Hd.keep b12
      replace Hx := Hx.keep b12
      replace C := below_then C b12
      have tq := Hx.box.lt
      obtain ⟨⟨q0, q1, q2, q3⟩, f0, f1, f2, f3⟩ := Hx.box.open4
      replace Hd := Hx.far (y0 := .slice a12 256 c12) (y1 := .slice g12 1 d12) (y2 := .int .i64 (0)) (y3 := .bool true) Hd Ndx.out
      replace C := below_put (B := w10.heap.size) (y0 := .slice a12 256 c12) (y1 := .slice g12 1 d12) (y2 := .int .i64 (0)) (y3 := .bool true) C Bx.out
      replace Hx := Hx.put S12
      clear S12
      dsimp only [put4] at C Hd Hx
      have tx := Hd.box.lt
      obtain ⟨x0, x1, x2, x3⟩ := Hd.cells
      go_wp2_with fail
      clear tq q0 q1 q2 q3 f0 f1 f2 f3
      refine (same_selfD _ _ _ _ _ _ _ _ _ _ _ _ _ _ _ _ e6 _ Hx.sees Hd.sees).mono ?_
      rintro e w13 ⟨rfl, b13⟩
      replace Hd := Hd.keep b13
      replace Hx := Hx.keep b13
      replace C := below_then C b13
      clear tx x0 x1 x2 x3
      have tx := Hd.box.lt
      obtain ⟨x0, x1, x2, x3⟩ := Hd.cells
      go_wp2_with fail
      refine (load_k _ _ _ _ _ _ _ _ e6 3 _ Hd.sees (by decide) _ _ t9).mono ?_
      rintro e w14 ⟨rfl, b14⟩
      replace Hd := Hd.keep b14
      replace Hx := Hx.keep b14
      replace C := below_then C b14
      clear tx x0 x1 x2 x3
      go_wp2_with fail
      refine (Al.alive_any _).mono ?_
      rintro e wb ⟨rfl, bb⟩
      go_wp2
      go_ret
      exact ⟨rfl, below_then C bb⟩

/-! The row's step. -/
set_option maxRecDepth 100000 in
theorem lifted (os : Os) (started : os.Started) (H : Type) (enc : TypeId × Value → H) :
    ReturnsInHanded {} Try.checked os 3 .any (Rows.cacheNamesSpec.pre6 enc Try.prog Try.f3 Rows.cacheNamesRow.domain false) (Rows.cacheNamesSpec.post enc Try.prog Try.f3 false true false false) := by
  refine returnsInHanded_of_change (C := Try.checked) St.own started (by kernel_rfl) Try.func3
    (ChangeSpec.witness6 (enc := enc) (C := Try.checked) false ⟨#[], #[], []⟩ 8 (by kernel_rfl) (by kernel_rfl) (by kernel_rfl) (by kernel_rfl)) ?_
  intro W base args ds gs before hval0 hW hcnd _
  have hW' := hW
  obtain ⟨p, q, hA0, hV, rfl, hfz, hnd⟩ := hW
  have hA : DataW.TrodAll enc Try.prog W 0 (fun _ => true) true Try.f3.params.toList args.toList ds p := hA0
  rw [Try.params3] at hA
  obtain ⟨rfl, rfl, rfl⟩ := trodAll_none hA
  refine (walk  W).mono fun e W' ⟨he, hb⟩ => ?_
  subst he
  exact St.law_done St.laid (by kernel_rfl) rfl rfl Try.underlying4 rfl hW' hb

theorem over : Rows.cacheNamesRow.holds Try.pinned (OpenSpec.ofChange Rows.cacheNamesSpec) :=
  OpenClaim.holds_of_wide 3 Try.f3 rfl rfl rfl rfl rfl rfl rfl ⟨rfl, rfl, rfl, rfl, rfl⟩ rfl rfl rfl rfl rfl (by kernel_rfl) Try.func3 (by kernel_rfl)
    (of_decide_eq_true (by kernel_rfl)) (by unfold Func.isWrapper; first | (rw [if_pos (by decide +kernel)]; kernel_rfl) | (rw [if_neg (by decide +kernel)]; exact ⟨rfl, rfl⟩))
    (fun os started H enc _ => lifted os started H enc)
theorem proved : Rows.CacheNamesSaid := over
#print axioms proved
end Go.Proofs.Ytekgjnbijopieaa.cacheNames

