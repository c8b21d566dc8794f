/-
  The chapter's examples hold.
-/
import Derived.Test.YtpdgefmchoonnaaCachev
import Derived.Deep.Cut
namespace Go.Proofs.Ytpdgefmchoonnaa.Al
open Go.RowKit Go.Proofs.Ytpdgefmchoonnaa.Sl Go.Proofs.Ytpdgefmchoonnaa.St Go.Proofs.Ytpdgefmchoonnaa.Ir Go.Proofs.Ytpdgefmchoonnaa.Dv Go.Proofs.Ytpdgefmchoonnaa.Cr Go.Proofs.Ytpdgefmchoonnaa.Cu
set_option maxRecDepth 100000

def z256 : List Int := List.replicate 256 0
def d0 : Dev := ⟨z256, [], -1, false⟩
def d1 : Dev := ⟨z256, [⟨9, 5, false⟩], -1, false⟩
def d2 : Dev := ⟨z256, [⟨9, 5, true⟩], -1, false⟩
def d3 : Dev := ⟨z256.set 9 5, [], -1, false⟩
theorem e0 : newD z256 = d0 ∧ newE z256 = 0 := by decide +kernel
theorem e1 : storeD d0 9 5 = d1 ∧ asked d0 9 = 0 := by decide +kernel
theorem e2 : loadR d1 9 = 5 ∧ asked d1 9 = 0 := by decide +kernel
theorem e3 : flushD d1 15 = d2 ∧ asked d1 15 = 0 := by decide +kernel
theorem e4 : fenceD d2 = d3 ∧ chk d2 = 0 := by decide +kernel
theorem wf_z : ∀ x ∈ z256, (Lit.int .u64 x).wf = true := by decide +kernel
theorem fine0 : Fine d0 := ⟨wf_z, by simp [d0], by decide +kernel, by decide, by decide, by decide⟩
theorem fine1 : Fine d1 := by rw [← e1.1]; exact fine_store fine0 (by decide) (by decide)
theorem fine2 : Fine d2 := by rw [← e3.1]; exact fine_flush fine1
theorem fine3 : Fine d3 := by rw [← e4.1]; exact fine_fence fine2
theorem new_a (a : Option Addr) (c : Nat) (w : World) (va : Sees w .u64 a 256 c z256) : Calls Try.prog 13 #[.slice a 256 c] w
    fun e w' => ∃ a c b d, e = .returned (.tuple #[dev a 256 c b 0 d (-1) false, .int .i64 0]) ∧ SeesD w' a 256 c b 0 d (-1) false d0 ∧ Below w.heap.size w w' := by
  refine (Ca.new_any a 256 c z256 w va).mono ?_
  rintro e w' ⟨v, rfl, h⟩
  rw [e0.1] at h
  rw [e0.2]
  obtain ⟨a, c, b, d, rfl, hs, hb⟩ := seenD h fine0
  exact ⟨a, c, b, d, rfl, hs, hb⟩
theorem store_a (a : Option Addr) (c : Nat) (b : Option Addr) (d : Nat) (w : World) (va : SeesD w a 256 c b 0 d (-1) false d0) : Calls Try.prog 7 #[dev a 256 c b 0 d (-1) false, .int .i64 9, .int .u64 5] w
    fun e w' => ∃ a c b d, e = .returned (.tuple #[dev a 256 c b 1 d (-1) false, .int .i64 0]) ∧ SeesD w' a 256 c b 1 d (-1) false d1 ∧ Below w.heap.size w w' := by
  refine (Ca.store_any _ _ _ _ _ _ _ _ d0 9 5 w va (by decide) (by decide)).mono ?_
  rintro e w' ⟨v, rfl, h⟩
  rw [e1.1] at h
  rw [e1.2]
  obtain ⟨a, c, b, d, rfl, hs, hb⟩ := seenD h fine1
  exact ⟨a, c, b, d, rfl, hs, hb⟩
theorem load_a (a : Option Addr) (c : Nat) (b : Option Addr) (d : Nat) (w : World) (va : SeesD w a 256 c b 1 d (-1) false d1) : Calls Try.prog 14 #[dev a 256 c b 1 d (-1) false, .int .i64 9] w
    fun e w' => e = .returned (.tuple #[.int .u64 5, .int .i64 0]) ∧ Below w.heap.size w w' := by
  refine (Ca.load_any _ _ _ _ _ _ _ _ d1 9 w va (by decide)).mono ?_
  rintro e w' ⟨rfl, h⟩
  rw [e2.1, e2.2]
  exact ⟨rfl, h⟩
theorem flush_a (a : Option Addr) (c : Nat) (b : Option Addr) (d : Nat) (w : World) (va : SeesD w a 256 c b 1 d (-1) false d1) : Calls Try.prog 8 #[dev a 256 c b 1 d (-1) false, .int .i64 15] w
    fun e w' => ∃ a c b d, e = .returned (.tuple #[dev a 256 c b 1 d (-1) false, .int .i64 0]) ∧ SeesD w' a 256 c b 1 d (-1) false d2 ∧ Below w.heap.size w w' := by
  refine (Ca.flush_any _ _ _ _ _ _ _ _ d1 15 w va (by decide)).mono ?_
  rintro e w' ⟨v, rfl, h⟩
  rw [e3.1] at h
  rw [e3.2]
  obtain ⟨a, c, b, d, rfl, hs, hb⟩ := seenD h fine2
  exact ⟨a, c, b, d, rfl, hs, hb⟩
theorem fence_a (a : Option Addr) (c : Nat) (b : Option Addr) (d : Nat) (w : World) (va : SeesD w a 256 c b 1 d (-1) false d2) : Calls Try.prog 9 #[dev a 256 c b 1 d (-1) false] w
    fun e w' => ∃ a c b d, e = .returned (.tuple #[dev a 256 c b 0 d (-1) false, .int .i64 0]) ∧ SeesD w' a 256 c b 0 d (-1) false d3 ∧ Below w.heap.size w w' := by
  refine (Ca.fence_any _ _ _ _ _ _ _ _ d2 w va).mono ?_
  rintro e w' ⟨v, rfl, h⟩
  rw [e4.1] at h
  rw [e4.2]
  obtain ⟨a, c, b, d, rfl, hs, hb⟩ := seenD h fine3
  exact ⟨a, c, b, d, rfl, hs, hb⟩

set_option maxHeartbeats 2000000 in
theorem alive_any (w : World) :
    Calls Try.prog 6 #[] w fun e w' => e = .returned (.bool true) ∧ Below w.heap.size w w' := by
  go_enter Try.func6, Try.ntmps6
  go_wp2_with (refine wp_make rfl (.const (.int .i64 256)) (.const (.int .i64 256)) 22 rfl .u64 31 Try.underlying22 info_word w (Below.refl _ _) .i64 .i64 256 256 256 rfl rfl rfl rfl (by decide) ?_)
  intro w0 G0
  obtain ⟨a0, c0, hv0, s0⟩ := G0.sees wf_z (by decide)
  injection hv0 with h1 _ h2
  subst h1 h2
  have C := G0.below
  clear G0
  go_wp2_with fail
  refine (new_a _ _ _ s0).mono ?_
  rintro e w1 ⟨a1, c1, b1, d1', rfl, S1, k1⟩
  clear s0
  replace C := below_then C k1
  have hB1 : w.heap.size ≤ w1.heap.size := C.size
  have Hd := Var.new S1
  replace C := below_new (o := box a1 256 c1 b1 0 d1' (-1) false) C
  clear S1
  go_wp2_with fail
  refine (store_a _ _ _ _ _ Hd.sees).mono ?_
  rintro e w2 ⟨a2, c2, b2, d2', rfl, S2, k2⟩
  replace C := below_then C k2
  replace Hd := Hd.keep k2
  have td := Hd.box.lt
  obtain ⟨⟨x0, x1, x2, x3⟩, f0, f1, f2, f3⟩ := Hd.box.open4
  have Hd' := Hd.put S2
  replace C := below_put (B := w1.heap.size) (y0 := .slice a2 256 c2) (y1 := .slice b2 1 d2') (y2 := .int .i64 (-1)) (y3 := .bool false) C hB1
  clear Hd S2
  go_wp2_with fail
  refine (load_a _ _ _ _ _ Hd'.sees).mono ?_
  rintro e w3 ⟨rfl, k3⟩
  replace C := below_then C k3
  replace Hd' := Hd'.keep k3
  clear x0 x1 x2 x3 f0 f1 f2 f3 td
  have td := Hd'.box.lt
  obtain ⟨x0, x1, x2, x3⟩ := Hd'.cells
  go_wp2_with fail
  refine (flush_a _ _ _ _ _ Hd'.sees).mono ?_
  rintro e w4 ⟨a4, c4, b4, d4', rfl, S4, k4⟩
  replace C := below_then C k4
  replace Hd' := Hd'.keep k4
  have hB4 : w.heap.size ≤ w4.heap.size := C.size
  have hne : w1.heap.size ≠ w4.heap.size := Nat.ne_of_lt Hd'.box.lt
  have Hx := Var.new S4
  have n4 : Below w4.heap.size w4 (w4.alloc (box a4 256 c4 b4 1 d4' (-1) false)) := below_new (Below.refl _ _)
  replace C := below_then C n4
  replace Hd' := Hd'.keep n4
  clear S4 x0 x1 x2 x3 td
  go_wp2_with fail
  refine (fence_a _ _ _ _ _ Hx.sees).mono ?_
  rintro e w5 ⟨a5, c5, b5, d5', rfl, S5, k5⟩
  replace C := below_then C k5
  replace Hd' := Hd'.keep k5
  replace Hx := Hx.keep k5
  have tx := Hx.box.lt
  obtain ⟨⟨x0, x1, x2, x3⟩, f0, f1, f2, f3⟩ := Hx.box.open4
  have Hd5 := Hx.far (y0 := .slice a5 256 c5) (y1 := .slice b5 0 d5') (y2 := .int .i64 (-1)) (y3 := .bool false) Hd' hne
  have Hx5 := Hx.put S5
  replace C := below_put (B := w4.heap.size) (y0 := .slice a5 256 c5) (y1 := .slice b5 0 d5') (y2 := .int .i64 (-1)) (y3 := .bool false) C hB4
  clear Hd' Hx S5
  go_upto_region 6 with fail
  dsimp only [put4] at Hd5 Hx5 C
  generalize (((w5.setCell ⟨w4.heap.size, 0, none⟩ (.slice a5 256 c5)).setCell ⟨w4.heap.size, 1, none⟩ (.slice b5 0 d5')).setCell ⟨w4.heap.size, 2, none⟩ (.int .i64 (-1))).setCell ⟨w4.heap.size, 3, none⟩ (.bool false) = W at *
  clear x0 x1 x2 x3 f0 f1 f2 f3 tx
  obtain ⟨g1, o1, rfl⟩ := Hd5.sees.im.lies (by decide)
  obtain ⟨g2, o2, rfl⟩ := Hx5.sees.im.lies (by decide)
  have q1 : W.cell? ⟨g1, o1 + 9, none⟩ = some (.int .u64 0) := Hd5.sees.im.at 9 (by decide)
  have q2 : W.cell? ⟨g2, o2 + 9, none⟩ = some (.int .u64 5) := Hx5.sees.im.at 9 (by decide)
  obtain ⟨x0, x1, x2, x3⟩ := Hd5.cells
  obtain ⟨z0, z1, z2, z3⟩ := Hx5.cells
  go_wp2
  go_ret
  exact ⟨rfl, C⟩
end Go.Proofs.Ytpdgefmchoonnaa.Al
