/-
  Operations of package cache on any device, as the laws on given devices use them: what comes back is told by numbers; devices that are not valid; a variable of which one field is assigned.
-/
import Derived.Test.YtpdgefmchoonnaaCachex
namespace Go.Proofs.Ytpdgefmchoonnaa.Cy
open Go.RowKit Go.WideShapes Go.ChangeShapes Go.Proofs.Ytpdgefmchoonnaa.Sl Go.Proofs.Ytpdgefmchoonnaa.St Go.Proofs.Ytpdgefmchoonnaa.Ir Go.Proofs.Ytpdgefmchoonnaa.Dv Go.Proofs.Ytpdgefmchoonnaa.Cr Go.Proofs.Ytpdgefmchoonnaa.Cu
set_option maxRecDepth 100000

/-- A call has returned a device and an error, told by numbers. -/
def GivesK (n m : Nat) (l : Int) (q : Bool) (r : Int) (w : World) (X : Dev) (e : Ending) (w' : World) : Prop :=
  ∃ a c b d, e = .returned (.tuple #[dev a n c b m d l q, .int .i64 r]) ∧ SeesD w' a n c b m d l q X ∧ Below w.heap.size w w'
theorem givesK {w w' : World} {X : Dev} {v : Value} {n m : Nat} {l r : Int} {q : Bool} (h : MadeD w X v w') (hf : Fine X) (hn : X.im.length = n) (hm : X.dl.length = m) (hl : X.left = l) (hq : X.down = q) : GivesK n m l q r w X (.returned (.tuple #[v, .int .i64 r])) w' := by
  subst hn hm hl hq
  obtain ⟨a, c, b, d, rfl, hs, hb⟩ := seenD h hf
  exact ⟨a, c, b, d, rfl, hs, hb⟩
/-- The numbers by which a device is told. -/
def InNum (X : Dev) (n m : Nat) (l : Int) (q : Bool) : Prop := X.im.length = n ∧ X.dl.length = m ∧ X.left = l ∧ X.down = q
theorem store_k (a : Option Addr) (n c : Nat) (b : Option Addr) (m d : Nat) (l : Int) (q : Bool) (D : Dev) (p u : Int) (w : World) (va : SeesD w a n c b m d l q D) (hp : -9223372036854775808 ≤ p ∧ p ≤ 9223372036854775807) (hu : 0 ≤ u ∧ u < 18446744073709551616)
    (X : Dev) (r : Int) (h : storeD D p u = X ∧ asked D p = r) (n' m' : Nat) (l' : Int) (q' : Bool) (ht : InNum X n' m' l' q') : Calls Try.prog 7 #[dev a n c b m d l q, .int .i64 p, .int .u64 u] w (GivesK n' m' l' q' r w X) := by
  obtain ⟨rfl, rfl⟩ := h
  refine (Ca.store_any _ _ _ _ _ _ _ _ D p u w va hp hu).mono ?_
  rintro e w' ⟨v, rfl, h⟩
  exact givesK h (fine_store va.fine hp hu) ht.1 ht.2.1 ht.2.2.1 ht.2.2.2
theorem flush_k (a : Option Addr) (n c : Nat) (b : Option Addr) (m d : Nat) (l : Int) (q : Bool) (D : Dev) (p : Int) (w : World) (va : SeesD w a n c b m d l q D) (hp : -9223372036854775808 ≤ p ∧ p ≤ 9223372036854775807)
    (X : Dev) (r : Int) (h : flushD D p = X ∧ asked D p = r) (n' m' : Nat) (l' : Int) (q' : Bool) (ht : InNum X n' m' l' q') : Calls Try.prog 8 #[dev a n c b m d l q, .int .i64 p] w (GivesK n' m' l' q' r w X) := by
  obtain ⟨rfl, rfl⟩ := h
  refine (Ca.flush_any _ _ _ _ _ _ _ _ D p w va hp).mono ?_
  rintro e w' ⟨v, rfl, h⟩
  exact givesK h (fine_flush va.fine) ht.1 ht.2.1 ht.2.2.1 ht.2.2.2
theorem fence_k (a : Option Addr) (n c : Nat) (b : Option Addr) (m d : Nat) (l : Int) (q : Bool) (D : Dev) (w : World) (va : SeesD w a n c b m d l q D)
    (X : Dev) (r : Int) (h : fenceD D = X ∧ chk D = r) (n' m' : Nat) (l' : Int) (q' : Bool) (ht : InNum X n' m' l' q') : Calls Try.prog 9 #[dev a n c b m d l q] w (GivesK n' m' l' q' r w X) := by
  obtain ⟨rfl, rfl⟩ := h
  refine (Ca.fence_any _ _ _ _ _ _ _ _ D w va).mono ?_
  rintro e w' ⟨v, rfl, h⟩
  exact givesK h (fine_fence va.fine) ht.1 ht.2.1 ht.2.2.1 ht.2.2.2
theorem new_k (a : Option Addr) (n c : Nat) (xs : List Int) (w : World) (va : Sees w .u64 a n c xs)
    (X : Dev) (r : Int) (h : newD xs = X ∧ newE xs = r) (n' m' : Nat) (l' : Int) (q' : Bool) (ht : InNum X n' m' l' q') : Calls Try.prog 13 #[.slice a n c] w (GivesK n' m' l' q' r w X) := by
  obtain ⟨rfl, rfl⟩ := h
  refine (Ca.new_any _ _ _ xs w va).mono ?_
  rintro e w' ⟨v, rfl, h⟩
  exact givesK h (fine_new va.wf (by rw [va.len]; exact va.top)) ht.1 ht.2.1 ht.2.2.1 ht.2.2.2
theorem load_k (a : Option Addr) (n c : Nat) (b : Option Addr) (m d : Nat) (l : Int) (q : Bool) (D : Dev) (p : Int) (w : World) (va : SeesD w a n c b m d l q D) (hp : -9223372036854775808 ≤ p ∧ p ≤ 9223372036854775807) (L r : Int) (h : loadR D p = L ∧ asked D p = r) :
    Calls Try.prog 14 #[dev a n c b m d l q, .int .i64 p] w fun e w' => e = .returned (.tuple #[.int .u64 L, .int .i64 r]) ∧ Below w.heap.size w w' := by
  obtain ⟨rfl, rfl⟩ := h
  exact Ca.load_any _ _ _ _ _ _ _ _ D p w va hp
theorem told_zero : InNum zdev 0 0 0 false := ⟨rfl, rfl, rfl, rfl⟩
/-- Operations on a device that is not valid. -/
theorem bad_store {D : Dev} (h : okD D = false) (p u : Int) : storeD D p u = zdev ∧ asked D p = 8 := by
  have h8 := asked_bad (p := p) (show ¬ okD D = true by rw [h]; decide)
  exact ⟨by unfold storeD; rw [if_neg (by rw [h8]; decide)], h8⟩
theorem bad_flush {D : Dev} (h : okD D = false) (p : Int) : flushD D p = zdev ∧ asked D p = 8 := by
  have h8 := asked_bad (p := p) (show ¬ okD D = true by rw [h]; decide)
  exact ⟨by unfold flushD; rw [if_neg (by rw [h8]; decide)], h8⟩
theorem bad_fence {D : Dev} (h : okD D = false) : fenceD D = zdev ∧ chk D = 8 :=
  ⟨by unfold fenceD; rw [if_neg (by rw [h]; decide)], chk_bad (by rw [h]; decide)⟩
theorem bad_load {D : Dev} (h : okD D = false) (p : Int) : loadR D p = 0 ∧ asked D p = 8 := by
  have h8 := asked_bad (p := p) (show ¬ okD D = true by rw [h]; decide)
  exact ⟨by unfold loadR; rw [if_neg (by rw [h8]; decide)], h8⟩
theorem bad_check (a : Option Addr) (n c : Nat) (b : Option Addr) (m d : Nat) (l : Int) (q : Bool) (D : Dev) (w : World) (va : SeesD w a n c b m d l q D) (hok : okD D = false) :
    Calls Try.prog 19 #[dev a n c b m d l q] w fun e w' => e = .returned (.int .i64 8) ∧ Below w.heap.size w w' := by
  refine (Ca.check_any _ _ _ _ _ _ _ _ D w va).mono ?_
  rintro e w' ⟨rfl, hb⟩
  rw [chk_bad (by rw [hok]; decide)]
  exact ⟨rfl, hb⟩

/-- What a device variable's block holds, no list holds. -/
theorem sees_off {W w' : World} {B : Nat} {a' : Option Addr} {n' c' : Nat} {b' : Option Addr} {m' d' : Nat} {l' : Int} {q' : Bool} {a : Option Addr} {n c : Nat} {xs : List Int}
    (hB : Box W B #[.slice a' n' c', .slice b' m' d', .int .i64 l', .bool q'] 25) (h : Sees W .u64 a n c xs) (hg : W.grownBy w' (some B)) : Sees w' .u64 a n c xs := by
  by_cases hn : n = 0
  · exact ⟨h.len, h.le, h.top, h.wf, h.nil, .inl hn⟩
  · refine h.grown hg fun b off ha hb => ?_
    injection hb with hb
    subst hb
    subst ha
    have h1 := h.at 0 (by omega)
    rw [hB.cell] at h1
    rcases (by omega : off + 0 = 0 ∨ off + 0 = 1 ∨ off + 0 = 2 ∨ off + 0 = 3 ∨ 4 ≤ off + 0) with h2 | h2 | h2 | h2 | h2
    · rw [h2] at h1; simp at h1
    · rw [h2] at h1; simp at h1
    · rw [h2] at h1; simp at h1
    · rw [h2] at h1; simp at h1
    · rw [Array.getElem?_eq_none (by simpa using h2)] at h1; simp at h1
theorem seesR_off {W w' : World} {B : Nat} {a' : Option Addr} {n' c' : Nat} {b' : Option Addr} {m' d' : Nat} {l' : Int} {q' : Bool} {a : Option Addr} {n c : Nat} {xs : List Dw}
    (hB : Box W B #[.slice a' n' c', .slice b' m' d', .int .i64 l', .bool q'] 25) (h : SeesR dw W a n c xs) (hg : W.grownBy w' (some B)) : SeesR dw w' a n c xs := by
  by_cases hn : n = 0
  · exact ⟨h.len, h.le, h.top, h.good, h.nil, .inl hn⟩
  · refine h.grown hg fun b off ha hb => ?_
    injection hb with hb
    subst hb
    subst ha
    have hl := h.len
    match xs, hl, h with
    | [], hl, _ => exact hn hl.symm
    | x :: xs, _, h =>
      have h1 := h.at 0 (by simp) 0 (.int .i64 x.p) rfl
      have h3 := h.at 0 (by simp) 1 (.int .u64 x.v) rfl
      simp only [Nat.zero_mul, Nat.zero_add, Nat.add_zero] at h1 h3
      rw [hB.cell] at h1 h3
      rcases (by omega : off = 0 ∨ off = 1 ∨ off = 2 ∨ off = 3 ∨ 4 ≤ off) with h2 | h2 | h2 | h2 | h2
      · subst h2; simp at h1
      · subst h2; simp at h1
      · subst h2; simp at h3
      · subst h2; simp at h1
      · rw [Array.getElem?_eq_none (by simp; omega)] at h1; simp at h1
theorem seesD_off {W w' : World} {B : Nat} {a' : Option Addr} {n' c' : Nat} {b' : Option Addr} {m' d' : Nat} {l' : Int} {q' : Bool} {a : Option Addr} {n c : Nat} {b : Option Addr} {m d : Nat} {l : Int} {q : Bool} {D : Dev}
    (hB : Box W B #[.slice a' n' c', .slice b' m' d', .int .i64 l', .bool q'] 25) (h : SeesD W a n c b m d l q D) (hg : W.grownBy w' (some B)) : SeesD w' a n c b m d l q D :=
  ⟨sees_off hB h.im hg, seesR_off hB h.dl hg, h.left, h.down, h.lo, h.hi⟩
/-- The field Left of a variable, assigned. -/
theorem var_left {W : World} {B : Nat} {a : Option Addr} {n c : Nat} {b : Option Addr} {m d : Nat} {l : Int} {q : Bool} {D : Dev} (h : Var W B a n c b m d l q D) (l' : Int) (hl : -9223372036854775808 ≤ l' ∧ l' ≤ 9223372036854775807) :
    Var (W.setCell ⟨B, 2, none⟩ (.int .i64 l')) B a n c b m d l' q { D with left := l' } := by
  have hs := seesD_off h.box h.sees (but_set (but_refl W (some B)) (p := ⟨B, 2, none⟩) (.inl rfl) (.int .i64 l'))
  exact ⟨h.box.set 2 (.int .i64 l'), hs.im, hs.dl, rfl, hs.down, hl.1, hl.2⟩
theorem var_left_far {W : World} {B B' : Nat} {a' : Option Addr} {n' c' : Nat} {b' : Option Addr} {m' d' : Nat} {l1 : Int} {q' : Bool} {D' : Dev} {a : Option Addr} {n c : Nat} {b : Option Addr} {m d : Nat} {l : Int} {q : Bool} {D : Dev}
    (hB : Var W B a' n' c' b' m' d' l1 q' D') (h : Var W B' a n c b m d l q D) (hne : B' ≠ B) (l' : Int) : Var (W.setCell ⟨B, 2, none⟩ (.int .i64 l')) B' a n c b m d l q D :=
  ⟨h.box.other (a := ⟨B, 2, none⟩) hne _, seesD_off hB.box h.sees (but_set (but_refl W (some B)) (p := ⟨B, 2, none⟩) (.inl rfl) (.int .i64 l'))⟩
/-- Records in a block of their own. -/
theorem seesR_box {W : World} {B : Nat} {cs : Array Value} {e : TypeId} (hB : Box W B cs e) (xs : List Dw) (hcs : cs.toList = xs.flatMap dw.cells) (hg : ∀ x ∈ xs, dw.good x) (k : Nat) (hk : xs.length = k) (hs : k ≤ 1000) : SeesR dw W (some ⟨B, 0, none⟩) k k xs := by
  subst hk
  refine ⟨rfl, Nat.le_refl _, by show _ * 3 ≤ _; omega, hg, fun h => by simp at h, .inr ⟨B, 0, rfl, fun j u hj => ?_⟩⟩
  rw [Nat.zero_add, hB.cell j]
  rw [← hcs] at hj
  simpa using hj
/-- A device by value in a row of devices. -/
structure At (W : World) (B k : Nat) (a : Option Addr) (n c : Nat) (b : Option Addr) (m d : Nat) (l : Int) (q : Bool) (D : Dev) : Prop where
  c0 : W.cell? ⟨B, k * 4, none⟩ = some (.slice a n c)
  c1 : W.cell? ⟨B, k * 4 + 1, none⟩ = some (.slice b m d)
  c2 : W.cell? ⟨B, k * 4 + 2, none⟩ = some (.int .i64 l)
  c3 : W.cell? ⟨B, k * 4 + 3, none⟩ = some (.bool q)
  sees : SeesD W a n c b m d l q D
  bad : okD D = false
theorem At.keep {W W' : World} {B k : Nat} {a : Option Addr} {n c : Nat} {b : Option Addr} {m d : Nat} {l : Int} {q : Bool} {D : Dev} (h : At W B k a n c b m d l q D) (hb : Below W.heap.size W W') : At W' B k a n c b m d l q D := by
  have hk : ∀ o v, W.cell? ⟨B, o, none⟩ = some v → W'.cell? ⟨B, o, none⟩ = some v := fun o v hv => by
    rw [hb.cell (p := ⟨B, o, none⟩) (World.block_lt_of_cell? W _ hv)]
    exact hv
  exact ⟨hk _ _ h.c0, hk _ _ h.c1, hk _ _ h.c2, hk _ _ h.c3, h.sees.keep hb, h.bad⟩
/-- Ten devices that are not valid, in a row. -/
def Bads (W : World) (B : Nat) : Prop := ∀ k, k < 10 → ∃ a n c b m d l q D, At W B k a n c b m d l q D
theorem Bads.keep {W W' : World} {B : Nat} (h : Bads W B) (hb : Below W.heap.size W W') : Bads W' B := fun k hk => by
  obtain ⟨a, n, c, b, m, d, l, q, D, h1⟩ := h k hk
  exact ⟨a, n, c, b, m, d, l, q, D, h1.keep hb⟩
end Go.Proofs.Ytpdgefmchoonnaa.Cy
