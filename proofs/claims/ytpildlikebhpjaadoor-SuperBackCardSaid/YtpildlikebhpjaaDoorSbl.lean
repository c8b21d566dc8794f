/-
  Package super as the laws use it, and the chapter's examples.
-/
import Derived.Test.YtpildlikebhpjaaDoorSbr
import Derived.Test.YtpildlikebhpjaaDoorIref
import Derived.Test.YtpildlikebhpjaaDoorRecb
import Derived.SizedLaws
import Derived.Test.YtpildlikebhpjaaDoorGv
namespace Go.Proofs.YtpildlikebhpjaaDoor.Sb
open Go.RowKit Go.Proofs.YtpildlikebhpjaaDoor.Gv Go.Proofs.YtpildlikebhpjaaDoor.Sl Go.Proofs.YtpildlikebhpjaaDoor.St Go.Proofs.YtpildlikebhpjaaDoor.Bits Go.Proofs.YtpildlikebhpjaaDoor.Wd Go.Proofs.YtpildlikebhpjaaDoor.Su Go.Proofs.YtpildlikebhpjaaDoor.Ir
set_option maxRecDepth 100000

/-- What is written of a valid superblock, as a list of eight. -/
theorem write_x (W T : Int) (w : World) (hg : IsSb W T) (xs : List Int) (hx : wordsI W T = xs) :
    Calls Tryd.prog 9 #[.agg #[.int .i64 W, .int .i64 T]] w fun e w' => ∃ g c, e = .returned (.tuple #[.slice (some ⟨g, 0, none⟩) 8 c, .int .i64 0]) ∧ 8 ≤ c ∧
      Grows .u64 50 w w' (.slice (some ⟨g, 0, none⟩) 8 c) xs := by
  have hb := good_bd hg
  subst hx
  refine (write_any W T w ⟨by omega, by omega⟩ ⟨by omega, by omega⟩).mono ?_
  rintro e w' ⟨a, c, rfl, M⟩
  rw [wrote_ok hg] at M ⊢
  rw [bad_ok hg]
  have G := M.grows
  rw [words_len] at G ⊢
  obtain ⟨g, rfl⟩ := G.at0 (by rw [words_len]; decide)
  exact ⟨g, c, rfl, (grows_look G (words_wf hg) (by rw [words_len]; decide)).le, G⟩
theorem write_bad (W T : Int) (w : World) (hW : I64 W) (hT : I64 T) (hg : ¬ IsSb W T) :
    Calls Tryd.prog 9 #[.agg #[.int .i64 W, .int .i64 T]] w fun e w' => ∃ a c, e = .returned (.tuple #[.slice a 0 c, .int .i64 8]) ∧ Below w.heap.size w w' := by
  refine (write_any W T w hW hT).mono ?_
  rintro e w' ⟨a, c, rfl, M⟩
  rw [wrote_no hg] at M ⊢
  rw [bad_no hg]
  exact ⟨a, c, rfl, M.2⟩
theorem check_x (W T : Int) (w : World) (hW : I64 W) (hT : I64 T) (r : Int) (h : badE W T = r) :
    Calls Tryd.prog 10 #[.agg #[.int .i64 W, .int .i64 T]] w fun e w' => e = .returned (.int .i64 r) ∧ Below w.heap.size w w' := by
  subst h
  exact check_any W T w hW hT
theorem read_x (a : Option Addr) (n c : Nat) (xs : List Int) (w : World) (va : Sees w .u64 a n c xs) (L : NoSb w) (r p q : Int) (h : readE xs = r ∧ readW xs = p ∧ readT xs = q) :
    Calls Tryd.prog 12 #[.slice a n c] w fun e w' => e = .returned (.tuple #[.agg #[.int .i64 p, .int .i64 q], .int .i64 r]) ∧ Below w.heap.size w w' := by
  obtain ⟨rfl, rfl, rfl⟩ := h
  exact read_any a n c xs w va L
theorem rcheck_x (W T : Int) (w : World) (hT : I64 T) (r : Int) (h : badE W T = r) :
    Calls Tryd.prog 17 #[.agg #[.int .i64 W, .int .i64 T]] w fun e w' => e = .returned (.int .i64 r) ∧ Below w.heap.size w w' := by
  subst h
  exact rcheck6_any W T w hT
theorem twin_x (a : Option Addr) (n c : Nat) (xs : List Int) (w : World) (va : Sees w .u64 a n c xs) (hn : 0 < n) :
    Calls Tryd.prog 14 #[.slice a n c] w fun e w' => ∃ g c, e = .returned (.slice (some ⟨g, 0, none⟩) n c) ∧ w.heap.size ≤ g ∧ Grows .u64 30 w w' (.slice (some ⟨g, 0, none⟩) n c) xs := by
  have hl := va.len
  subst hl
  refine (twin_any _ _ _ _ _ va).mono ?_
  rintro e w' ⟨a2, c2, rfl, M⟩
  have G := M.grows
  obtain ⟨g, rfl⟩ := G.at0 hn
  refine ⟨g, c2, rfl, ?_, G⟩
  obtain ⟨g', e1, h1, _⟩ := owns_at0 G.own hn
  injection e1 with e1
  injection e1 with e1
  omega
theorem same_x (a b : Option Addr) (n c m d : Nat) (xs ys : List Int) (w : World) (va : Sees w .u64 a n c xs) (vb : Sees w .u64 b m d ys) (r : Bool) (h : decide (xs = ys) = r) :
    Calls Tryd.prog 18 #[.slice a n c, .slice b m d] w fun e w' => e = .returned (.bool r) ∧ ∃ j, w.drewN j = w' := by
  subst h
  exact same_any a b n c m d xs ys w va vb
/-- A literal list, as it is read. -/
theorem lit_sees (k : IntKind) (e : TypeId) (W : World) (xs : List Int) (cs : Array Value) (n : Nat) (hcs : cs.toList = xs.map (Value.int k)) (hn : xs.length = n) (hm : n ≤ 17592186044416) (hw : ∀ x ∈ xs, (Lit.int k x).wf = true) :
    Sees (W.alloc (.cells cs e)) k (some ⟨W.heap.size, 0, none⟩) n n xs :=
  grows_look (grows_lit k e (Below.refl W.heap.size W) xs cs n hcs hn (Nat.le_trans hm (by decide))) hw (by rw [hn]; exact hm)
theorem wfs_set {k : IntKind} {xs : List Int} {i : Nat} {v : Int} (h : ∀ x ∈ xs, (Lit.int k x).wf = true) (hv : (Lit.int k v).wf = true) : ∀ x ∈ xs.set i v, (Lit.int k x).wf = true := fun x hx => by
  rcases List.mem_or_eq_of_mem_set hx with h1 | h1
  · exact h x h1
  · subst h1
    exact hv
theorem ex_good : IsSb 256 2 := ⟨⟨by decide, by decide, by decide⟩, by decide, by decide⟩
theorem ex_flip : readE ((wordsI 256 2).set 3 3) = 50 := read_flip (g := 1) (K := 0) ex_good (by decide) (by decide) (by decide) 2 rfl 3 (by decide +kernel)
theorem ex_read : readE ((wordsI 256 2).set 3 3) = 50 ∧ readW ((wordsI 256 2).set 3 3) = 0 ∧ readT ((wordsI 256 2).set 3 3) = 0 := by
  have h := ex_flip
  unfold readW readT
  rw [h]
  exact ⟨rfl, rfl, rfl⟩
theorem ex_words : wordsI 256 2 = headI 256 2 ++ [sumS 256 2] := rfl
theorem ex_head : (wordsI 256 2).take 7 = headI 256 2 := rfl
set_option maxHeartbeats 1000000 in
theorem alive_any (w : World) (L : NoSb w) : Calls Tryd.prog 13 #[] w fun e w' => e = .returned (.bool true) ∧ Below w.heap.size w w' := by
  have H1 := Lib.hid ex_head
  have H2 := Lib.hid ex_read
  have H3 := Lib.hid (words_wf ex_good)
  have H4 := Lib.hid (words_len 256 2)
  generalize hX : wordsI 256 2 = X at H1 H2 H3 H4
  go_enter Tryd.func13, Tryd.ntmps13
  go_wp2_with fail
  refine (write_x 256 2 _ ex_good X hX).mono ?_
  rintro e w1 ⟨g1, c1, rfl, hc1, G1⟩
  have S1 := grows_look G1 H3.out (by rw [H4.out]; decide)
  go_wp2_with fail
  refine (twin_x _ _ _ _ _ S1 (by decide)).mono ?_
  rintro e w2 ⟨g2, c2, rfl, hg2, G2⟩
  have hs1 := G1.below.size
  obtain ⟨r1, r2⟩ := G2.cellAt 3 (by rw [H4.out]; decide)
  have GS := G2.stored 3 3
  have G1' := G1.keep (Below.setCell (p := ⟨g2, 3, none⟩) G2.below hg2 (.int .u64 3))
  have C3 := G1'.below
  go_wp2_with fail
  refine (read_x _ _ _ _ _ (grows_look GS (wfs_set H3.out (by decide)) (by rw [List.length_set, H4.out]; decide)) (L.keep C3) 50 0 0 H2.out).mono ?_
  rintro e w3 ⟨rfl, b3⟩
  have C4 := below_new (o := .cells #[.int .i64 0, .int .i64 0] 23) (below_then C3 b3)
  have SL := ((grows_look G1' H3.out (by rw [H4.out]; decide)).keep (below_new (o := .cells #[.int .i64 0, .int .i64 0] 23) b3)).upto 7 (by decide)
  rw [H1.out] at SL
  have SH := lit_sees .u64 30 (w3.alloc (.cells #[.int .i64 0, .int .i64 0] 23)) (headI 256 2) #[.int .u64 32777959566500194, .int .u64 1, .int .u64 256, .int .u64 2, .int .u64 0, .int .u64 0, .int .u64 0] 7 rfl rfl (by decide) (head_wf ex_good)
  have SL' := SL.keep (below_new (o := .cells #[.int .u64 32777959566500194, .int .u64 1, .int .u64 256, .int .u64 2, .int .u64 0, .int .u64 0, .int .u64 0] 30) (Below.refl _ _))
  have hz : (w3.alloc (.cells #[.int .i64 0, .int .i64 0] 23)).heap.size = w3.heap.size + 1 := by simp
  rw [hz] at SH
  go_wp2_with fail
  refine (same_x _ _ _ _ _ _ _ _ _ SL' SH true (decide_eq_true rfl)).mono ?_
  rintro e w5 ⟨rfl, j5, rfl⟩
  go_wp2
  go_ret
  exact ⟨rfl, below_drewN (below_new C4) j5⟩
end Go.Proofs.YtpildlikebhpjaaDoor.Sb
