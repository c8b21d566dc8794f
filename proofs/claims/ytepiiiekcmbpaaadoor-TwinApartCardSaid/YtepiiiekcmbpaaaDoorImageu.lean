/-
  One contract for all arguments: what the functions of package image, and of its reference, return, as functions of the lists that come in.
-/
import Derived.Test.YtepiiiekcmbpaaaDoorImage
namespace Go.Proofs.YtepiiiekcmbpaaaDoor.Iu
open Go.RowKit Go.Proofs.YtepiiiekcmbpaaaDoor.Sl Go.Proofs.YtepiiiekcmbpaaaDoor.St Go.Proofs.YtepiiiekcmbpaaaDoor.Ir
set_option maxRecDepth 100000

instance (n : Int) : Decidable (Img n) := inferInstanceAs (Decidable (_ ∧ _ ∧ _))
instance (n p k : Int) : Decidable (There n p k) := inferInstanceAs (Decidable (_ ∧ _ ∧ _ ∧ _))

/-- The ending of a call that returns a list, wherever it lies, and a number. -/
def GivesSeen (k : IntKind) (w : World) (xs : List Int) (r : Int) (en : Ending) (w' : World) : Prop :=
  ∃ a n c, en = .returned (.tuple #[.slice a n c, .int .i64 r]) ∧ Sees w' k a n c xs ∧ Below w.heap.size w w'
theorem seen_of {k : IntKind} {e : TypeId} {w w' : World} {xs : List Int} {r : Int} {en : Ending} (h : GivesPair k e w xs r en w') (hw : ∀ x ∈ xs, (Lit.int k x).wf = true) (ht : xs.length ≤ 17592186044416) : GivesSeen k w xs r en w' := by
  obtain ⟨a, c, he, hm⟩ := h
  exact ⟨a, _, c, he, hm.sees hw ht, hm.2⟩
theorem sees_nil (w : World) (k : IntKind) : Sees w k none 0 0 [] := ⟨rfl, Nat.le_refl _, by omega, by simp, fun _ => ⟨rfl, rfl⟩, .inl rfl⟩
theorem seen_nil {k : IntKind} {w w' : World} {r : Int} {en : Ending} (h : en = .returned (.tuple #[.slice none 0 0, .int .i64 r]) ∧ w = w') : GivesSeen k w [] r en w' := by
  obtain ⟨he, rfl⟩ := h
  exact ⟨none, 0, 0, he, sees_nil _ _, Below.refl _ _⟩

def chkE (n : Int) : Int := if Img n then 0 else 8
def newL (n : Int) : List Int := if Img n then List.replicate n.toNat 0 else []
def newE (n : Int) : Int := if Img n then 0 else 2
def getL (xs : List Int) (n p k : Int) : List Int := if Img n ∧ There n p k then (xs.drop p.toNat).take k.toNat else []
def getE (n p k : Int) : Int := if Img n then (if There n p k then 0 else 2) else 8
def putLI (xs : List Int) (n p : Int) (ys : List Int) (m : Int) : List Int := if Img n ∧ There n p m then putL xs p.toNat ys else []
def lineA (n p : Int) : Int := if Img n ∧ 0 ≤ p ∧ p < n then p / 8 else 0
def lineB (n p : Int) : Int := if Img n ∧ 0 ≤ p ∧ p < n then p - p % 8 else 0
def lineE (n p : Int) : Int := if Img n then (if 0 ≤ p ∧ p < n then 0 else 2) else 8
def diffL (xs ys : List Int) (n m : Nat) : List Int := if Img n ∧ n = m then diffs xs ys n else []
def diffE (n m : Nat) : Int := if Img n ∧ Img m then (if n = m then 0 else 2) else 8

theorem wf_zero (n : Nat) : ∀ x ∈ List.replicate n (0 : Int), (Lit.int .u64 x).wf = true := by
  intro x h
  obtain ⟨_, rfl⟩ := List.mem_replicate.1 h
  decide
theorem wf_cut {xs : List Int} {k : IntKind} (h : ∀ x ∈ xs, (Lit.int k x).wf = true) (A K : Nat) : ∀ x ∈ (xs.drop A).take K, (Lit.int k x).wf = true :=
  fun x hx => h x (List.mem_of_mem_drop (List.mem_of_mem_take hx))
theorem wf_put {xs ys : List Int} {k : IntKind} (h : ∀ x ∈ xs, (Lit.int k x).wf = true) (g : ∀ x ∈ ys, (Lit.int k x).wf = true) (A : Nat) : ∀ x ∈ putL xs A ys, (Lit.int k x).wf = true := by
  intro x hx
  unfold putL at hx
  rcases List.mem_append.1 hx with h1 | h1
  · exact h x (List.mem_of_mem_take h1)
  · rcases List.mem_append.1 h1 with h2 | h2
    · exact g x h2
    · exact h x (List.mem_of_mem_drop h2)
theorem len_put {xs ys : List Int} {A n : Nat} (hx : xs.length = n) (h : A + ys.length ≤ n) : (putL xs A ys).length = n := by
  unfold putL
  rw [List.length_append, List.length_append, List.length_take, List.length_drop]
  omega
theorem mem_diffs {xs ys : List Int} {x : Int} : ∀ {k : Nat}, x ∈ diffs xs ys k → 0 ≤ x ∧ x < k
  | 0, h => by simp [diffs] at h
  | k + 1, h => by
    unfold diffs at h
    split at h
    · have := mem_diffs h
      omega
    · rcases List.mem_append.1 h with h1 | h1
      · have := mem_diffs h1
        omega
      · simp at h1
        omega
theorem wf_diffs (xs ys : List Int) (n : Nat) (hn : n ≤ 2048) : ∀ x ∈ diffs xs ys n, (Lit.int .i64 x).wf = true := by
  intro x h
  have := mem_diffs h
  exact WalkArith.wf_i64 (by omega)

theorem check_any (a : Option Addr) (n c : Nat) (w : World) :
    Calls Tryd.prog 29 #[.slice a n c] w fun e w' => e = .returned (.int .i64 (chkE n)) ∧ w = w' := by
  unfold chkE
  split
  · exact Im.check_yes a n c w (by assumption)
  · exact Im.check_no a n c w (by assumption)
theorem new_any (n : Int) (w : World) :
    Calls Tryd.prog 27 #[.int .i64 n] w (GivesSeen .u64 w (newL n) (newE n)) := by
  unfold newL newE
  split
  · rename_i h
    obtain ⟨N, rfl⟩ := Int.eq_ofNat_of_zero_le (show 0 ≤ n by have := h.1; omega)
    exact (Im.new_yes N w h).mono fun _ _ g => seen_of g (wf_zero _) (by simp; have := h.2.1; omega)
  · exact (Im.new_no n w (by assumption)).mono fun _ _ g => seen_nil g
theorem get_any (a : Option Addr) (n c : Nat) (p k : Int) (xs : List Int) (w : World) (va : Sees w .u64 a n c xs) :
    Calls Tryd.prog 26 #[.slice a n c, .int .i64 p, .int .i64 k] w (GivesSeen .u64 w (getL xs n p k) (getE n p k)) := by
  unfold getL getE
  by_cases h : Img n
  · by_cases ht : There n p k
    · rw [if_pos ⟨h, ht⟩, if_pos h, if_pos ht]
      obtain ⟨h1, h2, h3, h4⟩ := ht
      obtain ⟨A, rfl⟩ := Int.eq_ofNat_of_zero_le h1
      obtain ⟨K, rfl⟩ := Int.eq_ofNat_of_zero_le h2
      have hl := va.len
      have ht := va.top
      exact (Im.get_yes a n c A K xs w va h (by omega)).mono fun _ _ g => seen_of g (wf_cut va.wf _ _) (by rw [List.length_take, List.length_drop]; omega)
    · rw [if_neg (fun g => ht g.2), if_pos h, if_neg ht]
      exact (Im.get_arg a n c p k w h ht).mono fun _ _ g => seen_nil g
  · rw [if_neg (fun g => h g.1), if_neg h]
    exact (Im.get_bad a n c p k w h).mono fun _ _ g => seen_nil g
theorem put_any (a : Option Addr) (n c : Nat) (p : Int) (b : Option Addr) (m d : Nat) (xs ys : List Int) (w : World) (va : Sees w .u64 a n c xs) (vb : Sees w .u64 b m d ys) :
    Calls Tryd.prog 22 #[.slice a n c, .int .i64 p, .slice b m d] w (GivesSeen .u64 w (putLI xs n p ys m) (getE n p m)) := by
  unfold putLI getE
  by_cases h : Img n
  · by_cases ht : There n p m
    · rw [if_pos ⟨h, ht⟩, if_pos h, if_pos ht]
      obtain ⟨h1, h2, h3, h4⟩ := ht
      obtain ⟨A, rfl⟩ := Int.eq_ofNat_of_zero_le h1
      have hl := va.len
      have ht := va.top
      have hm := vb.len
      exact (Im.put_yes a n c A b m d xs ys w va vb h (by omega)).mono fun _ _ g => seen_of g (wf_put va.wf vb.wf _) (by rw [len_put hl (by omega)]; exact ht)
    · rw [if_neg (fun g => ht g.2), if_pos h, if_neg ht]
      exact (Im.put_arg a n c p b m d w vb.top h ht).mono fun _ _ g => seen_nil g
  · rw [if_neg (fun g => h g.1), if_neg h]
    exact (Im.put_bad a n c p b m d w h).mono fun _ _ g => seen_nil g
theorem diff_any (a b : Option Addr) (n c m d : Nat) (xs ys : List Int) (w : World) (va : Sees w .u64 a n c xs) (vb : Sees w .u64 b m d ys) :
    Calls Tryd.prog 24 #[.slice a n c, .slice b m d] w (GivesSeen .i64 w (diffL xs ys n m) (diffE n m)) := by
  unfold diffL diffE
  by_cases h : Img n
  · by_cases hnm : n = m
    · subst hnm
      rw [if_pos ⟨h, rfl⟩, if_pos ⟨h, h⟩, if_pos rfl]
      have h2 := h.2.1
      exact (Im.diff_yes a b n c d xs ys w va vb h).mono fun _ _ g => seen_of g (wf_diffs xs ys n (by omega)) (by have := diffs_len xs ys n; omega)
    · rw [if_neg (fun g => hnm g.2)]
      by_cases g : Img m
      · rw [if_pos ⟨h, g⟩, if_neg hnm]
        exact (Im.diff_arg a b n c m d w h g hnm).mono fun _ _ g => seen_nil g
      · rw [if_neg (fun g' => g g'.2)]
        exact (Im.diff_bad a b n c m d w (.inr ⟨h, g⟩)).mono fun _ _ g => seen_nil g
  · rw [if_neg (fun g => h g.1), if_neg (fun g => h g.1)]
    exact (Im.diff_bad a b n c m d w (.inl h)).mono fun _ _ g => seen_nil g

theorem rcheck_any (a : Option Addr) (n c : Nat) (w : World) :
    Calls Tryd.prog 25 #[.slice a n c] w fun e w' => e = .returned (.int .i64 (chkE n)) ∧ w = w' := by
  unfold chkE
  split
  · exact Ir.rcheck_yes a n c w (by assumption)
  · exact Ir.rcheck_no a n c w (by assumption)
theorem same_self (a b : Option Addr) (n c m d : Nat) (xs : List Int) (w : World) (va : Sees w .u64 a n c xs) (vb : Sees w .u64 b m d xs) :
    Calls Tryd.prog 13 #[.slice a n c, .slice b m d] w fun e w' => e = .returned (.bool true) ∧ Below w.heap.size w w' :=
  (Ir.same_any a b n c m d xs xs w va vb).mono fun _ _ ⟨h, j, hw⟩ => ⟨by rw [h, decide_eq_true rfl], hw ▸ below_drewN (Below.refl _ _) j⟩
/-- The ending of a copy. -/
def GivesCopy (k : IntKind) (w : World) (xs : List Int) (n : Nat) (en : Ending) (w' : World) : Prop := ∃ a c, en = .returned (.slice a n c) ∧ Sees w' k a n c xs ∧ Below w.heap.size w w'
theorem twin_seen (a : Option Addr) (n c : Nat) (xs : List Int) (w : World) (va : Sees w .u64 a n c xs) :
    Calls Tryd.prog 16 #[.slice a n c] w (GivesCopy .u64 w xs n) := by
  have hl := va.len
  subst hl
  refine (Ir.twin_any a _ c xs w va).mono fun _ _ ⟨a', c', h, hm⟩ => ?_
  exact ⟨a', c', h, hm.sees va.wf va.top, hm.2⟩
end Go.Proofs.YtepiiiekcmbpaaaDoor.Iu
