/-
  A device variable that is assigned: what the other ones and the lists are read as stays.
-/
import Derived.Test.YtpdgefmchoonnaaCacheu
namespace Go.Proofs.Ytpdgefmchoonnaa.Cu
open Go.RowKit Go.Proofs.Ytpdgefmchoonnaa.Sl Go.Proofs.Ytpdgefmchoonnaa.St Go.Proofs.Ytpdgefmchoonnaa.Ir Go.Proofs.Ytpdgefmchoonnaa.Dv Go.Proofs.Ytpdgefmchoonnaa.Cr
set_option maxRecDepth 100000

/-- A device variable's four cells, assigned. -/
abbrev put4 (W : World) (B : Nat) (y0 y1 y2 y3 : Value) : World := (((W.setCell ⟨B, 0, none⟩ y0).setCell ⟨B, 1, none⟩ y1).setCell ⟨B, 2, none⟩ y2).setCell ⟨B, 3, none⟩ y3
theorem put4_far {W : World} {B : Nat} {y0 y1 y2 y3 : Value} {p : Addr} (h : B ≠ p.block) : (put4 W B y0 y1 y2 y3).cell? p = W.cell? p := by
  have hb : (put4 W B y0 y1 y2 y3).heap[p.block]? = W.heap[p.block]? := by
    rw [Below.heap_setCell _ _ _ _ (Ne.symm h), Below.heap_setCell _ _ _ _ (Ne.symm h), Below.heap_setCell _ _ _ _ (Ne.symm h), Below.heap_setCell _ _ _ _ (Ne.symm h)]
  exact World.cell?_of_block hb
theorem box_put {W : World} {B : Nat} {x0 x1 x2 x3 y0 y1 y2 y3 : Value} {e : TypeId} (h : Box W B #[x0, x1, x2, x3] e) : Box (put4 W B y0 y1 y2 y3) B #[y0, y1, y2, y3] e := (((h.set 0 y0).set 1 y1).set 2 y2).set 3 y3
theorem box_put_far {W : World} {B B' : Nat} {cs : Array Value} {y0 y1 y2 y3 : Value} {e : TypeId} (h : Box W B' cs e) (hne : B' ≠ B) : Box (put4 W B y0 y1 y2 y3) B' cs e :=
  (((h.other (a := ⟨B, 0, none⟩) hne y0).other (a := ⟨B, 1, none⟩) hne y1).other (a := ⟨B, 2, none⟩) hne y2).other (a := ⟨B, 3, none⟩) hne y3
theorem sees_put {W : World} {B : Nat} {a' : Option Addr} {n' c' : Nat} {b' : Option Addr} {m' d' : Nat} {l' : Int} {q' : Bool} {y0 y1 y2 y3 : Value} {a : Option Addr} {n c : Nat} {xs : List Int}
    (hB : Box W B #[.slice a' n' c', .slice b' m' d', .int .i64 l', .bool q'] 25) (h : Sees W .u64 a n c xs) : Sees (put4 W B y0 y1 y2 y3) .u64 a n c xs := by
  refine ⟨h.len, h.le, h.top, h.wf, h.nil, ?_⟩
  rcases h.row with h0 | ⟨b, off, ha, hc⟩
  · exact .inl h0
  · by_cases hn : n = 0
    · exact .inl hn
    · refine .inr ⟨b, off, ha, fun i hi => ?_⟩
      rw [put4_far, hc i hi]
      show B ≠ b
      intro hb
      subst hb
      have h1 := hc 0 (by omega)
      rw [hB.cell] at h1
      rcases (by omega : off + 0 = 0 ∨ off + 0 = 1 ∨ off + 0 = 2 ∨ off + 0 = 3 ∨ 4 ≤ off + 0) with h2 | h2 | h2 | h2 | h2
      · rw [h2] at h1; simp at h1
      · rw [h2] at h1; simp at h1
      · rw [h2] at h1; simp at h1
      · rw [h2] at h1; simp at h1
      · rw [Array.getElem?_eq_none (by simpa using h2)] at h1; simp at h1
theorem seesR_put {W : World} {B : Nat} {a' : Option Addr} {n' c' : Nat} {b' : Option Addr} {m' d' : Nat} {l' : Int} {q' : Bool} {y0 y1 y2 y3 : Value} {a : Option Addr} {n c : Nat} {xs : List Dw}
    (hB : Box W B #[.slice a' n' c', .slice b' m' d', .int .i64 l', .bool q'] 25) (h : SeesR dw W a n c xs) : SeesR dw (put4 W B y0 y1 y2 y3) a n c xs := by
  refine ⟨h.len, h.le, h.top, h.good, h.nil, ?_⟩
  rcases h.row with h0 | ⟨b, off, ha, hc⟩
  · exact .inl h0
  · by_cases hn : n = 0
    · exact .inl hn
    · refine .inr ⟨b, off, ha, fun j u hj => ?_⟩
      rw [put4_far, hc j u hj]
      show B ≠ b
      intro hb
      subst hb
      have hl := h.len
      match xs, hl with
      | [], hl => exact hn hl.symm
      | x :: xs, _ =>
        have h1 := hc 0 (.int .i64 x.p) (by simp [dw])
        have h3 := hc 1 (.int .u64 x.v) (by simp [dw])
        rw [hB.cell] at h1 h3
        rcases (by omega : off = 0 ∨ off = 1 ∨ off = 2 ∨ off = 3 ∨ 4 ≤ off) with h2 | h2 | h2 | h2 | h2
        · subst h2; simp at h1
        · subst h2; simp at h1
        · subst h2; simp at h3
        · subst h2; simp at h1
        · rw [Array.getElem?_eq_none (by simp; omega)] at h1; simp at h1
theorem seesD_put {W : World} {B : Nat} {a' : Option Addr} {n' c' : Nat} {b' : Option Addr} {m' d' : Nat} {l' : Int} {q' : Bool} {y0 y1 y2 y3 : Value} {a : Option Addr} {n c : Nat} {b : Option Addr} {m d : Nat} {l : Int} {q : Bool} {D : Dev}
    (hB : Box W B #[.slice a' n' c', .slice b' m' d', .int .i64 l', .bool q'] 25) (h : SeesD W a n c b m d l q D) : SeesD (put4 W B y0 y1 y2 y3) a n c b m d l q D :=
  ⟨sees_put hB h.im, seesR_put hB h.dl, h.left, h.down, h.lo, h.hi⟩
/-- The variable that is assigned. -/
theorem Var.put {W : World} {B : Nat} {a' : Option Addr} {n' c' : Nat} {b' : Option Addr} {m' d' : Nat} {l' : Int} {q' : Bool} {D' : Dev} {a : Option Addr} {n c : Nat} {b : Option Addr} {m d : Nat} {l : Int} {q : Bool} {D : Dev}
    (hB : Var W B a' n' c' b' m' d' l' q' D') (h : SeesD W a n c b m d l q D) : Var (put4 W B (.slice a n c) (.slice b m d) (.int .i64 l) (.bool q)) B a n c b m d l q D :=
  ⟨box_put hB.box, seesD_put hB.box h⟩
/-- Another variable. -/
theorem Var.far {W : World} {B B' : Nat} {a' : Option Addr} {n' c' : Nat} {b' : Option Addr} {m' d' : Nat} {l' : Int} {q' : Bool} {D' : Dev} {y0 y1 y2 y3 : Value} {a : Option Addr} {n c : Nat} {b : Option Addr} {m d : Nat} {l : Int} {q : Bool} {D : Dev}
    (hB : Var W B a' n' c' b' m' d' l' q' D') (h : Var W B' a n c b m d l q D) (hne : B' ≠ B) : Var (put4 W B y0 y1 y2 y3) B' a n c b m d l q D :=
  ⟨box_put_far h.box hne, seesD_put hB.box h.sees⟩
theorem below_put {w W : World} {B : Nat} {y0 y1 y2 y3 : Value} (h : Below w.heap.size w W) (hB : w.heap.size ≤ B) : Below w.heap.size w (put4 W B y0 y1 y2 y3) := (((h.setCell hB y0).setCell hB y1).setCell hB y2).setCell hB y3
end Go.Proofs.Ytpdgefmchoonnaa.Cu
