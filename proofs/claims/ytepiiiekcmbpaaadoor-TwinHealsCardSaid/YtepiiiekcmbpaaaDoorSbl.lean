/-
  Package super as the laws use it, and the chapter's examples.
-/
import Derived.Test.YtepiiiekcmbpaaaDoorSbr
import Derived.Test.YtepiiiekcmbpaaaDoorIref
import Derived.Test.YtepiiiekcmbpaaaDoorRecb
import Derived.SizedLaws
import Derived.Test.YtepiiiekcmbpaaaDoorGv
namespace Go.Proofs.YtepiiiekcmbpaaaDoor.Sb
open Go.RowKit Go.Proofs.YtepiiiekcmbpaaaDoor.Gv Go.Proofs.YtepiiiekcmbpaaaDoor.Sl Go.Proofs.YtepiiiekcmbpaaaDoor.St Go.Proofs.YtepiiiekcmbpaaaDoor.Bits Go.Proofs.YtepiiiekcmbpaaaDoor.Wd Go.Proofs.YtepiiiekcmbpaaaDoor.Su Go.Proofs.YtepiiiekcmbpaaaDoor.Ir
set_option maxRecDepth 100000

/-- What is written of a valid superblock, as a list of eight. -/
theorem write_x (W T : Int) (w : World) (hg : IsSb W T) (xs : List Int) (hx : wordsI W T = xs) :
    Calls Tryd.prog 28 #[.agg #[.int .i64 W, .int .i64 T]] w fun e w' => ∃ g c, e = .returned (.tuple #[.slice (some ⟨g, 0, none⟩) 8 c, .int .i64 0]) ∧ 8 ≤ c ∧
      Grows .u64 72 w w' (.slice (some ⟨g, 0, none⟩) 8 c) xs := by
  have hb := good_bd hg
  subst hx
  refine (write_any W T w ⟨by omega, by omega⟩ ⟨by omega, by omega⟩).mono ?_
  rintro e w' ⟨a, c, rfl, M⟩
  rw [wrote_ok hg] at M ⊢
  rw [bad_ok hg]
  have G := M.grows
  rw [words_len] at G ⊢
  obtain ⟨g, rfl⟩ := G.at0 (by rw [words_len]; decide)
  exact ⟨g, c, rfl, (grows_look G (words_wf hg) (by rw [words_len]; decide)).le, G⟩
theorem write_bad (W T : Int) (w : World) (hW : I64 W) (hT : I64 T) (hg : ¬ IsSb W T) :
    Calls Tryd.prog 28 #[.agg #[.int .i64 W, .int .i64 T]] w fun e w' => ∃ a c, e = .returned (.tuple #[.slice a 0 c, .int .i64 8]) ∧ Below w.heap.size w w' := by
  refine (write_any W T w hW hT).mono ?_
  rintro e w' ⟨a, c, rfl, M⟩
  rw [wrote_no hg] at M ⊢
  rw [bad_no hg]
  exact ⟨a, c, rfl, M.2⟩
theorem check_x (W T : Int) (w : World) (hW : I64 W) (hT : I64 T) (r : Int) (h : badE W T = r) :
    Calls Tryd.prog 38 #[.agg #[.int .i64 W, .int .i64 T]] w fun e w' => e = .returned (.int .i64 r) ∧ Below w.heap.size w w' := by
  subst h
  exact check_any W T w hW hT
theorem read_x (a : Option Addr) (n c : Nat) (xs : List Int) (w : World) (va : Sees w .u64 a n c xs) (L : NoSb w) (r p q : Int) (h : readE xs = r ∧ readW xs = p ∧ readT xs = q) :
    Calls Tryd.prog 23 #[.slice a n c] w fun e w' => e = .returned (.tuple #[.agg #[.int .i64 p, .int .i64 q], .int .i64 r]) ∧ Below w.heap.size w w' := by
  obtain ⟨rfl, rfl, rfl⟩ := h
  exact read_any a n c xs w va L
theorem rcheck_x (W T : Int) (w : World) (hT : I64 T) (r : Int) (h : badE W T = r) :
    Calls Tryd.prog 21 #[.agg #[.int .i64 W, .int .i64 T]] w fun e w' => e = .returned (.int .i64 r) ∧ Below w.heap.size w w' := by
  subst h
  exact rcheck6_any W T w hT
theorem twin_x (a : Option Addr) (n c : Nat) (xs : List Int) (w : World) (va : Sees w .u64 a n c xs) (hn : 0 < n) :
    Calls Tryd.prog 16 #[.slice a n c] w fun e w' => ∃ g c, e = .returned (.slice (some ⟨g, 0, none⟩) n c) ∧ w.heap.size ≤ g ∧ Grows .u64 47 w w' (.slice (some ⟨g, 0, none⟩) n c) xs := by
  have hl := va.len
  subst hl
  refine (twin_any _ _ _ _ _ va).mono ?_
  rintro e w' ⟨a2, c2, rfl, M⟩
  have G := M.grows
  obtain ⟨g, rfl⟩ := G.at0 hn
  refine ⟨g, c2, rfl, ?_, G⟩
  obtain ⟨g', e1, h1, _⟩ := owns_at0 G.own hn
  injection e1 with e1
  injection e1 with e1
  omega
theorem same_x (a b : Option Addr) (n c m d : Nat) (xs ys : List Int) (w : World) (va : Sees w .u64 a n c xs) (vb : Sees w .u64 b m d ys) (r : Bool) (h : decide (xs = ys) = r) :
    Calls Tryd.prog 13 #[.slice a n c, .slice b m d] w fun e w' => e = .returned (.bool r) ∧ ∃ j, w.drewN j = w' := by
  subst h
  exact same_any a b n c m d xs ys w va vb
/-- A literal list, as it is read. -/
theorem lit_sees (k : IntKind) (e : TypeId) (W : World) (xs : List Int) (cs : Array Value) (n : Nat) (hcs : cs.toList = xs.map (Value.int k)) (hn : xs.length = n) (hm : n ≤ 17592186044416) (hw : ∀ x ∈ xs, (Lit.int k x).wf = true) :
    Sees (W.alloc (.cells cs e)) k (some ⟨W.heap.size, 0, none⟩) n n xs :=
  grows_look (grows_lit k e (Below.refl W.heap.size W) xs cs n hcs hn (Nat.le_trans hm (by decide))) hw (by rw [hn]; exact hm)
theorem wfs_set {k : IntKind} {xs : List Int} {i : Nat} {v : Int} (h : ∀ x ∈ xs, (Lit.int k x).wf = true) (hv : (Lit.int k v).wf = true) : ∀ x ∈ xs.set i v, (Lit.int k x).wf = true := fun x hx => by
  rcases List.mem_or_eq_of_mem_set hx with h1 | h1
  · exact h x h1
  · subst h1
    exact hv
theorem ex_good : IsSb 256 2 := ⟨⟨by decide, by decide, by decide⟩, by decide, by decide⟩
theorem ex_flip : readE ((wordsI 256 2).set 3 3) = 50 := read_flip (g := 1) (K := 0) ex_good (by decide) (by decide) (by decide) 2 rfl 3 (by decide +kernel)
theorem ex_read : readE ((wordsI 256 2).set 3 3) = 50 ∧ readW ((wordsI 256 2).set 3 3) = 0 ∧ readT ((wordsI 256 2).set 3 3) = 0 := by
  have h := ex_flip
  unfold readW readT
  rw [h]
  exact ⟨rfl, rfl, rfl⟩
theorem ex_words : wordsI 256 2 = headI 256 2 ++ [sumS 256 2] := rfl
theorem ex_head : (wordsI 256 2).take 7 = headI 256 2 := rfl
end Go.Proofs.YtepiiiekcmbpaaaDoor.Sb
