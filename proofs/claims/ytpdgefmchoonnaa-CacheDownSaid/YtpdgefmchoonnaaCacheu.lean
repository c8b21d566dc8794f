/-
  Devices that calls have made, as what they are read as; devices that can be stay so.
-/
import Derived.Test.YtpdgefmchoonnaaCache
namespace Go.Proofs.Ytpdgefmchoonnaa.Cu
open Go.RowKit Go.Proofs.Ytpdgefmchoonnaa.Sl Go.Proofs.Ytpdgefmchoonnaa.St Go.Proofs.Ytpdgefmchoonnaa.Ir Go.Proofs.Ytpdgefmchoonnaa.Dv Go.Proofs.Ytpdgefmchoonnaa.Cr
set_option maxRecDepth 100000

theorem sees_own {w : World} {a : Option Addr} {n c : Nat} {b : Option Addr} {m d : Nat} {l : Int} {q : Bool} {D : Dev} (h : SeesD w a n c b m d l q D) : SeesD w a D.im.length c b D.dl.length d D.left D.down D := by
  obtain rfl := h.im.len
  obtain rfl := h.dl.len
  obtain rfl := h.left
  obtain rfl := h.down
  exact h
theorem seenD {w w' : World} {D : Dev} {v : Value} (h : MadeD w D v w') (hf : Fine D) : ∃ a c b d, v = dev a D.im.length c b D.dl.length d D.left D.down ∧ SeesD w' a D.im.length c b D.dl.length d D.left D.down D ∧ Below w.heap.size w w' := by
  obtain ⟨i, l, rfl, h1, h2⟩ := h
  obtain ⟨a, c, rfl, m1⟩ := h1.made
  obtain ⟨b, d, rfl, m2⟩ := h2.made
  exact ⟨a, c, b, d, rfl, ⟨m1.sees hf.im hf.li, m2.sees hf.dl hf.ll, rfl, rfl, hf.lo, hf.hi⟩, h1.below⟩
theorem seenW {w w' : World} {xs : List Int} {r : Int} {e : Ending} (h : GivesPair .u64 31 w xs r e w') (hw : ∀ x ∈ xs, (Lit.int .u64 x).wf = true) (ht : xs.length ≤ 17592186044416) :
    ∃ a c, e = .returned (.tuple #[.slice a xs.length c, .int .i64 r]) ∧ Sees w' .u64 a xs.length c xs ∧ Below w.heap.size w w' := by
  obtain ⟨a, c, rfl, hm⟩ := h
  exact ⟨a, c, rfl, hm.sees hw ht, hm.2⟩
theorem wf_words : ∀ (xs : List Dw) (zs : List Int), (∀ x ∈ xs, dw.good x) → (∀ x ∈ zs, (Lit.int .u64 x).wf = true) → ∀ x ∈ wordsL zs xs, (Lit.int .u64 x).wf = true
  | [], _, _, h => h
  | x :: xs, zs, hx, h => by
    refine wf_words xs _ (fun y hy => hx y (List.mem_cons_of_mem _ hy)) (fun y hy => ?_)
    rcases List.mem_or_eq_of_mem_set hy with h1 | h1
    · exact h y h1
    · subst h1
      have h2 := (hx x List.mem_cons_self).2
      exact WalkArith.wf_u64 (by omega)
theorem wf_view {D : Dev} (h : Fine D) : ∀ x ∈ viewR D, (Lit.int .u64 x).wf = true := by
  unfold viewR
  split
  · exact wf_words _ _ h.dl h.im
  · simp
theorem len_view {D : Dev} (h : Fine D) : (viewR D).length ≤ 17592186044416 := by
  unfold viewR
  split
  · rw [wordsL_len]
    exact h.li
  · simp
theorem same_self (a : Option Addr) (n c : Nat) (b : Option Addr) (m d : Nat) (xs : List Int) (w : World) (va : Sees w .u64 a n c xs) (vb : Sees w .u64 b m d xs) :
    Calls Try.prog 21 #[.slice a n c, .slice b m d] w fun e w' => e = .returned (.bool true) ∧ Below w.heap.size w w' := by
  refine (same_any a b n c m d xs xs w va vb).mono ?_
  rintro e w' ⟨rfl, j, rfl⟩
  exact ⟨by rw [decide_eq_true rfl], below_drewN (Below.refl _ _) _⟩
theorem same_selfD (a : Option Addr) (n c : Nat) (b : Option Addr) (m d : Nat) (l : Int) (q : Bool) (a' : Option Addr) (n' c' : Nat) (b' : Option Addr) (m' d' : Nat) (l' : Int) (q' : Bool) (D : Dev) (w : World) (va : SeesD w a n c b m d l q D) (vb : SeesD w a' n' c' b' m' d' l' q' D) :
    Calls Try.prog 10 #[dev a n c b m d l q, dev a' n' c' b' m' d' l' q'] w fun e w' => e = .returned (.bool true) ∧ Below w.heap.size w w' := by
  refine (rsame_any a n c b m d l q a' n' c' b' m' d' l' q' D D w va vb).mono ?_
  rintro e w' ⟨rfl, h⟩
  exact ⟨by rw [decide_eq_true rfl], h⟩
theorem fine_zero : Fine zdev := ⟨by simp [zdev], by simp [zdev], by decide, by decide, by decide, by decide⟩
theorem fine_new {xs : List Int} (hw : ∀ x ∈ xs, (Lit.int .u64 x).wf = true) (ht : xs.length ≤ 17592186044416) : Fine (newD xs) := by
  unfold newD
  split
  · exact ⟨hw, by simp, ht, by simp, by show (-9223372036854775808 : Int) ≤ -1; decide, by show (-1 : Int) ≤ 9223372036854775807; decide⟩
  · exact fine_zero
theorem fine_spent {D : Dev} (h : Fine D) : Fine (spent D) := by
  have h1 := h.lo
  have h2 := h.hi
  unfold spent
  split
  · exact ⟨h.im, h.dl, h.li, h.ll, h1, h2⟩
  · split
    · exact ⟨h.im, h.dl, h.li, h.ll, by show _ ≤ D.left - 1; omega, by show D.left - 1 ≤ _; omega⟩
    · exact h
theorem mem_ins {p v : Int} : ∀ {xs : List Dw} {x : Dw}, x ∈ ins p v xs → x ∈ xs ∨ x = ⟨p, v, false⟩
  | [], x, h => by simpa [ins] using h
  | y :: xs, x, h => by
    unfold ins at h
    split at h
    · rcases List.mem_cons.1 h with h1 | h1
      · exact .inl (by rw [h1]; exact List.mem_cons_self)
      · rcases mem_ins h1 with h2 | h2
        · exact .inl (List.mem_cons_of_mem _ h2)
        · exact .inr h2
    · split at h
      · rcases List.mem_cons.1 h with h1 | h1
        · exact .inr h1
        · exact .inl (List.mem_cons_of_mem _ h1)
      · rcases List.mem_cons.1 h with h1 | h1
        · exact .inr h1
        · exact .inl h1
theorem len_ins (p v : Int) : ∀ xs : List Dw, (ins p v xs).length ≤ xs.length + 1
  | [] => by simp [ins]
  | y :: xs => by
    have := len_ins p v xs
    unfold ins
    split
    · simp only [List.length_cons]
      omega
    · split <;> simp
theorem fine_with {D : Dev} {im : List Int} {dl : List Dw} (h : Fine D) (h1 : ∀ x ∈ im, (Lit.int .u64 x).wf = true) (h2 : ∀ x ∈ dl, dw.good x) (h3 : im.length ≤ 17592186044416) (h4 : dl.length * 3 ≤ 17592186044416) : Fine { D with im := im, dl := dl } :=
  ⟨h1, h2, h3, h4, h.lo, h.hi⟩
theorem ok_short {D : Dev} (h : okD D = true) : D.dl.length ≤ 2048 ∧ D.im.length ≤ 2048 ∧ 256 ≤ D.im.length := by
  obtain ⟨⟨⟨h0, h1, -⟩, -⟩, hok⟩ := ok_parts h
  have := okDl_len hok (by omega)
  omega
theorem fine_store {D : Dev} {p u : Int} (h : Fine D) (hp : -9223372036854775808 ≤ p ∧ p ≤ 9223372036854775807) (hu : 0 ≤ u ∧ u < 18446744073709551616) : Fine (storeD D p u) := by
  unfold storeD
  split
  · next h0 =>
    have hs := fine_spent h
    obtain ⟨h1, h2, -⟩ := ok_short (asked_parts h0).1
    unfold storedD
    split
    · refine ⟨hs.im, fun x hx => ?_, hs.li, ?_, hs.lo, hs.hi⟩
      · rcases mem_ins hx with h3 | h3
        · exact h.dl x h3
        · rw [h3]
          exact ⟨hp, hu⟩
      · have := len_ins p u D.dl
        show (ins p u D.dl).length * 3 ≤ _
        omega
    · exact hs
  · exact fine_zero
theorem fine_flush {D : Dev} {p : Int} (h : Fine D) : Fine (flushD D p) := by
  unfold flushD
  split
  · have hs := fine_spent h
    unfold flushedD
    split
    · refine ⟨hs.im, fun x hx => ?_, hs.li, ?_, hs.lo, hs.hi⟩
      · obtain ⟨y, hy, rfl⟩ := List.mem_map.1 hx
        have := h.dl y hy
        unfold flushW
        split <;> exact this
      · show (D.dl.map (flushW p)).length * 3 ≤ _
        rw [List.length_map]
        exact h.ll
    · exact hs
  · exact fine_zero
theorem wf_fence : ∀ (xs : List Dw) (zs : List Int), (∀ x ∈ xs, dw.good x) → (∀ x ∈ zs, (Lit.int .u64 x).wf = true) → ∀ x ∈ fenceL zs xs, (Lit.int .u64 x).wf = true
  | [], _, _, h => h
  | x :: xs, zs, hx, h => by
    refine wf_fence xs _ (fun y hy => hx y (List.mem_cons_of_mem _ hy)) (fun y hy => ?_)
    split at hy
    · rcases List.mem_or_eq_of_mem_set hy with h1 | h1
      · exact h y h1
      · subst h1
        have h2 := (hx x List.mem_cons_self).2
        exact WalkArith.wf_u64 (by omega)
    · exact h y hy
theorem fine_fence {D : Dev} (h : Fine D) : Fine (fenceD D) := by
  unfold fenceD
  split
  · have hs := fine_spent h
    unfold fencedD
    split
    · refine ⟨wf_fence _ _ h.dl h.im, fun x hx => h.dl x (List.mem_filter.1 hx).1, ?_, ?_, hs.lo, hs.hi⟩
      · show (fenceL D.im D.dl).length ≤ _
        rw [fenceL_len]
        exact h.li
      · have := List.length_filter_le (fun x : Dw => !x.f) D.dl
        have := h.ll
        show (D.dl.filter fun x => !x.f).length * 3 ≤ _
        omega
    · exact hs
  · exact fine_zero

/-- A device variable: where it lies, and what it is read as. -/
structure Var (W : World) (B : Nat) (a : Option Addr) (n c : Nat) (b : Option Addr) (m d : Nat) (l : Int) (q : Bool) (D : Dev) : Prop where
  box : Box W B #[.slice a n c, .slice b m d, .int .i64 l, .bool q] 25
  sees : SeesD W a n c b m d l q D
theorem Var.keep {W W' : World} {B : Nat} {a : Option Addr} {n c : Nat} {b : Option Addr} {m d : Nat} {l : Int} {q : Bool} {D : Dev} (h : Var W B a n c b m d l q D) (hb : Below W.heap.size W W') : Var W' B a n c b m d l q D := ⟨h.box.keep hb, h.sees.keep hb⟩
theorem Var.new {W : World} {a : Option Addr} {n c : Nat} {b : Option Addr} {m d : Nat} {l : Int} {q : Bool} {D : Dev} (h : SeesD W a n c b m d l q D) : Var (W.alloc (Dv.box a n c b m d l q)) W.heap.size a n c b m d l q D :=
  ⟨Box.new _ _ _, h.keep (below_new (Below.refl _ _))⟩
/-- The cells of a device variable. -/
theorem Var.cells {W : World} {B : Nat} {a : Option Addr} {n c : Nat} {b : Option Addr} {m d : Nat} {l : Int} {q : Bool} {D : Dev} (h : Var W B a n c b m d l q D) :
    W.cell? ⟨B, 0, none⟩ = some (.slice a n c) ∧ W.cell? ⟨B, 1, none⟩ = some (.slice b m d) ∧ W.cell? ⟨B, 2, none⟩ = some (.int .i64 l) ∧ W.cell? ⟨B, 3, none⟩ = some (.bool q) := h.box.open4.1
end Go.Proofs.Ytpdgefmchoonnaa.Cu
