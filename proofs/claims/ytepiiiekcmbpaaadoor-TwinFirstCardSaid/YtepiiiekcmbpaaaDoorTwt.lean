/-
  Comparing superblocks; the reference of package twin as the laws use it.
-/
import Derived.Test.YtepiiiekcmbpaaaDoorTwl
import Derived.Test.YtepiiiekcmbpaaaDoorSbo
import Derived.Test.YtepiiiekcmbpaaaDoorTwh
namespace Go.Proofs.YtepiiiekcmbpaaaDoor.Tw
open Go.RowKit Go.Proofs.YtepiiiekcmbpaaaDoor.Sl Go.Proofs.YtepiiiekcmbpaaaDoor.St Go.Proofs.YtepiiiekcmbpaaaDoor.Bits Go.Proofs.YtepiiiekcmbpaaaDoor.Wd Go.Proofs.YtepiiiekcmbpaaaDoor.Su Go.Proofs.YtepiiiekcmbpaaaDoor.Ir Go.Proofs.YtepiiiekcmbpaaaDoor.Sb Go.Proofs.YtepiiiekcmbpaaaDoor.Iu Go.Proofs.YtepiiiekcmbpaaaDoor.Dv
set_option maxRecDepth 100000

theorem eq_super (a b a' b' : Int) (w : World) : (Op.equalIn 10000 26 (.agg #[.int .i64 a, .int .i64 b]) (.agg #[.int .i64 a', .int .i64 b'])).run Tryd.prog w = .ok (a == a' && b == b') w := by
  have u3 := Tryd.underlying3
  have a3 := Tryd.isAgg3
  have z3 := Tryd.sizeOf3
  have hS : Tryd.prog.underlying 26 = some (.struct (Tryd.prog.fieldsOf 26)) := by kernel_rfl
  have hp : Tryd.prog.stoodInHeld 26 = false := by kernel_rfl
  rw [show (10000 : Nat) = 9999 + 1 from rfl, run_equalIn_agg w 9999 26 _ _ hS hp]
  simp only [Program.fieldsOf, Tryd.underlying26]
  go_simp
  by_cases h1 : a = a' <;> by_cases h2 : b = b' <;> simp [h1, h2]
theorem eq_super_self (a b : Int) (w : World) : (Op.equalIn 10000 26 (.agg #[.int .i64 a, .int .i64 b]) (.agg #[.int .i64 a, .int .i64 b])).run Tryd.prog w = .ok true w := by
  have h := eq_super a b a b w
  simpa using h
theorem eq_bools_self (p q : Bool) (w : World) : (Op.equalIn 10000 27 (.agg #[.bool p, .bool q]) (.agg #[.bool p, .bool q])).run Tryd.prog w = .ok true w := by
  have h := eq_bools p q p q w
  simpa using h
theorem rview_x (a : Option Addr) (n c : Nat) (xs : List Int) (w : World) (va : Sees w .u64 a n c xs) (V : List Int) (r : Int) (h : twE xs = r ∧ viewL xs = V) :
    Calls Tryd.prog 18 #[.slice a n c] w (GivesSeen .u64 w V r) := by
  obtain ⟨rfl, rfl⟩ := h
  exact rview_any a n c xs w va
theorem rheal_x (a : Option Addr) (n c : Nat) (xs : List Int) (w : World) (va : Sees w .u64 a n c xs) (hn : n ≤ 4398046511104) (L : List En) (r : Int) (h : twE xs = r ∧ healL xs = L) :
    Calls Tryd.prog 19 #[.slice a n c] w (GivesEnts w L r) := by
  obtain ⟨rfl, rfl⟩ := h
  exact rheal_any a n c xs w va hn
theorem twin_p (a : Option Addr) (n c : Nat) (xs : List Int) (w : World) (va : Sees w .u64 a n c xs) :
    Calls Tryd.prog 16 #[.slice a n c] w fun e w' => ∃ a2 c2, e = .returned (.slice a2 n c2) ∧ Sees w' .u64 a2 n c2 xs ∧ Below w.heap.size w w' := by
  have hl := va.len
  have ht := va.top
  subst hl
  refine (twin_any _ _ _ _ _ va).mono ?_
  rintro e w' ⟨a2, c2, rfl, M⟩
  exact ⟨a2, c2, rfl, M.sees va.wf ht, M.2⟩
/-- What stays of a superblock and of which copies are right. -/
theorem box_pair {w : World} {B : Nat} {a b : Int} (h : Box w B #[.int .i64 a, .int .i64 b] 26) : w.cell? ⟨B, 0, none⟩ = some (.int .i64 a) ∧ w.cell? ⟨B, 1, none⟩ = some (.int .i64 b) := ⟨h.cell 0, h.cell 1⟩
theorem box_bools {w : World} {B : Nat} {a b : Bool} (h : Box w B #[.bool a, .bool b] 27) : w.cell? ⟨B, 0, none⟩ = some (.bool a) ∧ w.cell? ⟨B, 1, none⟩ = some (.bool b) := ⟨h.cell 0, h.cell 1⟩
theorem put_x (a : Option Addr) (n c : Nat) (p : Int) (b : Option Addr) (m d : Nat) (xs ys : List Int) (w : World) (va : Sees w .u64 a n c xs) (vb : Sees w .u64 b m d ys) (h : Img n) (h0 : 0 ≤ p) (ht : p + m ≤ n) (Z : List Int) (hZ : putL xs p.toNat ys = Z) :
    Calls Tryd.prog 22 #[.slice a n c, .int .i64 p, .slice b m d] w fun e w' => ∃ a2 c2, e = .returned (.tuple #[.slice a2 n c2, .int .i64 0]) ∧ Sees w' .u64 a2 n c2 Z ∧ Below w.heap.size w w' := by
  obtain ⟨A, rfl⟩ := Int.eq_ofNat_of_zero_le h0
  have hl := va.len
  have hm := vb.len
  have htop := va.top
  rw [Int.toNat_natCast] at hZ
  subst hZ
  refine (Im.put_yes a n c A b m d xs ys w va vb h (by omega)).mono ?_
  rintro e w' ⟨a2, c2, rfl, M⟩
  have hpl : (putL xs A ys).length = n := len_put hl (by omega)
  have S := M.sees (wf_put va.wf vb.wf _) (by rw [hpl]; exact htop)
  rw [hpl] at S ⊢
  exact ⟨a2, c2, rfl, S, M.2⟩
theorem two_pair {n : Nat} {T : Int} (hn : 16 ≤ n) : Two (pairI n T n) n T := ⟨pair_len hn, rfl⟩
theorem get_x (a : Option Addr) (n c : Nat) (A K : Nat) (xs : List Int) (w : World) (va : Sees w .u64 a n c xs) (h : Img n) (ht : A + K ≤ n) (Z : List Int) (hZ : (xs.drop A).take K = Z) :
    Calls Tryd.prog 26 #[.slice a n c, .int .i64 A, .int .i64 K] w fun e w' => ∃ a2 c2, e = .returned (.tuple #[.slice a2 K c2, .int .i64 0]) ∧ Sees w' .u64 a2 K c2 Z ∧ Below w.heap.size w w' := by
  have hl := va.len
  have htop := va.top
  refine (Im.get_yes a n c A K xs w va h ht).mono ?_
  rintro e w' ⟨a2, c2, rfl, M⟩
  have hpl : ((xs.drop A).take K).length = K := by
    rw [List.length_take, List.length_drop]
    omega
  have S := M.sees (wf_cut va.wf A K) (by rw [hpl]; omega)
  rw [hpl] at S ⊢
  rw [hZ] at S
  exact ⟨a2, c2, rfl, S, M.2⟩
theorem diff_x (a b : Option Addr) (n c d : Nat) (xs ys : List Int) (w : World) (va : Sees w .u64 a n c xs) (vb : Sees w .u64 b n d ys) (h : Img n) :
    Calls Tryd.prog 24 #[.slice a n c, .slice b n d] w fun e w' => ∃ a2 m c2, e = .returned (.tuple #[.slice a2 m c2, .int .i64 0]) ∧ Sees w' .i64 a2 m c2 (diffs xs ys n) ∧ Below w.heap.size w w' := by
  refine (Im.diff_yes a b n c d xs ys w va vb h).mono ?_
  rintro e w' ⟨a2, c2, rfl, M⟩
  have hb := img_bd h
  have hd := diffs_len xs ys n
  exact ⟨a2, _, c2, rfl, M.sees (wf_diffs _ _ _ hb.2) (by omega), M.2⟩
/-- The two copies: not both are spoilt, and the changes are in one of them. -/
theorem tw_one {xs : List Int} (h : twE xs = 0) : (twA xs 0 = true ∨ twA xs 1 = true) ∧ ∃ B : Int, (B = 0 ∨ B = 8) ∧ ∀ x ∈ diffs xs (viewL xs) xs.length, B ≤ x ∧ x ≤ B + 7 := by
  constructor
  · obtain ⟨_, ho⟩ := tw_inv h
    unfold twA
    rw [h]
    simpa using ho
  · rcases heal_one h with h1 | h1
    · exact ⟨8, .inr rfl, fun x hx => by have := h1 x hx; omega⟩
    · exact ⟨0, .inl rfl, fun x hx => by have := h1 x hx; omega⟩
end Go.Proofs.YtepiiiekcmbpaaaDoor.Tw
