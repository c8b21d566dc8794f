/-
  Devices as data: dirty words, the device value as its image, its dirty words, how many stores are left, and whether it is down.
-/
import Derived.Test.YtpdgefmchoonnaaRec
import Derived.Test.YtpdgefmchoonnaaIrefb
namespace Go.Proofs.Ytpdgefmchoonnaa.Dv
open Go.RowKit Go.Proofs.Ytpdgefmchoonnaa.Sl Go.Proofs.Ytpdgefmchoonnaa.St Go.Proofs.Ytpdgefmchoonnaa.Ir
set_option maxRecDepth 100000

/-- A dirty word. -/
structure Dw where
  p : Int
  v : Int
  f : Bool
  deriving DecidableEq, Inhabited
def dw : Rec Dw where
  sz := 3
  cells x := [.int .i64 x.p, .int .u64 x.v, .bool x.f]
  good x := (-9223372036854775808 ≤ x.p ∧ x.p ≤ 9223372036854775807) ∧ (0 ≤ x.v ∧ x.v < 18446744073709551616)
  len _ := rfl
  one x u h := by
    simp at h
    rcases h with rfl | rfl | rfl <;> rfl
  pos := by decide
theorem dw_at {w : World} {b off m d : Nat} {xs : List Dw} (h : SeesR dw w (some ⟨b, off, none⟩) m d xs) (k : Nat) (hk : k < xs.length) :
    w.cell? ⟨b, off + k * 3, none⟩ = some (.int .i64 xs[k].p) ∧ w.cell? ⟨b, off + k * 3 + 1, none⟩ = some (.int .u64 xs[k].v) ∧ w.cell? ⟨b, off + k * 3 + 2, none⟩ = some (.bool xs[k].f) :=
  ⟨h.at k hk 0 _ rfl, h.at k hk 1 _ rfl, h.at k hk 2 _ rfl⟩
theorem info_dirty : (Try.prog.info? 44).map (fun i => (i.zero, i.size, i.bytes)) = some (some (.agg #[.int .i64 0, .int .u64 0, .bool false]), dw.sz, 24) := by kernel_rfl

/-- A device. -/
structure Dev where
  im : List Int
  dl : List Dw
  left : Int
  down : Bool
  deriving DecidableEq
/-- The value of a device. -/
abbrev dev (a : Option Addr) (n c : Nat) (b : Option Addr) (m d : Nat) (l : Int) (q : Bool) : Value := .agg #[.slice a n c, .slice b m d, .int .i64 l, .bool q]
/-- The blocks of a device variable, and of a new one. -/
abbrev box (a : Option Addr) (n c : Nat) (b : Option Addr) (m d : Nat) (l : Int) (q : Bool) : Obj := .cells #[.slice a n c, .slice b m d, .int .i64 l, .bool q] 25
abbrev zbox : Obj := .cells #[.slice none 0 0, .slice none 0 0, .int .i64 0, .bool false] 25
/-- A device value is read as a device. -/
structure SeesD (w : World) (a : Option Addr) (n c : Nat) (b : Option Addr) (m d : Nat) (l : Int) (q : Bool) (D : Dev) : Prop where
  im : Sees w .u64 a n c D.im
  dl : SeesR dw w b m d D.dl
  left : D.left = l
  down : D.down = q
  lo : -9223372036854775808 ≤ l
  hi : l ≤ 9223372036854775807
theorem SeesD.keep {w w' : World} {a : Option Addr} {n c : Nat} {b : Option Addr} {m d : Nat} {l : Int} {q : Bool} {D : Dev} (h : SeesD w a n c b m d l q D) (hb : Below w.heap.size w w') : SeesD w' a n c b m d l q D :=
  ⟨h.im.keep hb, h.dl.keep hb, h.left, h.down, h.lo, h.hi⟩
/-- A call has made a device, the value v: new memory, and nothing that was there has turned. -/
def MadeD (w : World) (D : Dev) (v : Value) (w' : World) : Prop :=
  ∃ i l, v = .agg #[i, l, .int .i64 D.left, .bool D.down] ∧ Grows .u64 31 w w' i D.im ∧ GrowsR dw 44 w w' l D.dl
theorem MadeD.mk {w W : World} {D : Dev} {i l : Value} {x : Int} {q : Bool} (N : Nat) (hb : Below w.heap.size w W) (hN : w.heap.size ≤ N) (h1 : W.ownsRow N 31 1 i D.im.length (D.im.map (Value.int .u64)))
    (h2 : W.ownsRow N 44 dw.sz l D.dl.length (D.dl.flatMap dw.cells)) (hx : D.left = x) (hq : D.down = q) : MadeD w D (.agg #[i, l, .int .i64 x, .bool q]) W := by
  subst hx hq
  exact ⟨i, l, rfl, ⟨owns_mono h1 hN, hb⟩, ⟨owns_mono h2 hN, hb⟩⟩
/-- No device. -/
def zdev : Dev := ⟨[], [], 0, false⟩
theorem MadeD.zero {w W : World} (hb : Below w.heap.size w W) : MadeD w zdev (dev none 0 0 none 0 0 0 false) W :=
  ⟨_, _, rfl, ⟨World.ownsRow_nil _ _ _ _, hb⟩, ⟨World.ownsRow_nil _ _ _ _, hb⟩⟩
/-- The lists of a device that can be, and its number of stores. -/
structure Fine (D : Dev) : Prop where
  im : ∀ x ∈ D.im, (Lit.int .u64 x).wf = true
  dl : ∀ x ∈ D.dl, dw.good x
  li : D.im.length ≤ 17592186044416
  ll : D.dl.length * 3 ≤ 17592186044416
  lo : -9223372036854775808 ≤ D.left
  hi : D.left ≤ 9223372036854775807
theorem SeesD.fine {w : World} {a : Option Addr} {n c : Nat} {b : Option Addr} {m d : Nat} {l : Int} {q : Bool} {D : Dev} (h : SeesD w a n c b m d l q D) : Fine D := by
  refine ⟨h.im.wf, h.dl.good, by rw [h.im.len]; exact h.im.top, by rw [h.dl.len]; exact h.dl.top, ?_, ?_⟩
  · rw [h.left]
    exact h.lo
  · rw [h.left]
    exact h.hi
theorem MadeD.sees {w w' : World} {D : Dev} {v : Value} (h : MadeD w D v w') (hf : Fine D) : ∃ a n c b m d l q, v = dev a n c b m d l q ∧ SeesD w' a n c b m d l q D := by
  obtain ⟨i, l, rfl, h1, h2⟩ := h
  obtain ⟨a, c, rfl, m1⟩ := h1.made
  obtain ⟨b, d, rfl, m2⟩ := h2.made
  exact ⟨a, _, c, b, _, d, _, _, rfl, m1.sees hf.im hf.li, m2.sees hf.dl hf.ll, rfl, rfl, hf.lo, hf.hi⟩
theorem MadeD.below {w w' : World} {D : Dev} {v : Value} (h : MadeD w D v w') : Below w.heap.size w w' := by
  obtain ⟨i, l, _, h1, _⟩ := h
  exact h1.below
theorem MadeD.lay {w w' : World} {D : Dev} {v : Value} (h : MadeD w D v w') : ∃ a c b d, v = dev a D.im.length c b D.dl.length d D.left D.down ∧
    w'.ownsRow w.heap.size 31 1 (.slice a D.im.length c) D.im.length (D.im.map (Value.int .u64)) ∧ w'.ownsRow w.heap.size 44 dw.sz (.slice b D.dl.length d) D.dl.length (D.dl.flatMap dw.cells) := by
  obtain ⟨i, l, rfl, h1, h2⟩ := h
  obtain ⟨a, c, rfl, m1⟩ := h1.made
  obtain ⟨b, d, rfl, m2⟩ := h2.made
  exact ⟨a, c, b, d, rfl, m1.1, m2.1⟩

/-- The addresses of dirty words increase, from behind one on, and are those of words. -/
def okDl (n : Int) : Int → List Dw → Bool
  | _, [] => true
  | l, x :: xs => decide (l < x.p) && (decide (x.p < n) && okDl n x.p xs)
theorem okDl_drop {n L : Int} {xs : List Dw} {k : Nat} (hk : k < xs.length) : okDl n L (xs.drop k) = (decide (L < xs[k].p) && (decide (xs[k].p < n) && okDl n xs[k].p (xs.drop (k + 1)))) := by
  rw [List.drop_eq_getElem_cons hk]
  rfl
/-- A device is valid but for its dirty words. -/
def Head (n l : Int) (q : Bool) : Prop := Img n ∧ -1 ≤ l ∧ l ≤ 1000000 ∧ (q = true → l = 0)
instance (n : Int) : Decidable (Img n) := inferInstanceAs (Decidable (_ ∧ _ ∧ _))
instance (n l : Int) (q : Bool) : Decidable (Head n l q) := inferInstanceAs (Decidable (_ ∧ _ ∧ _ ∧ _))
def okD (D : Dev) : Bool := decide (Head D.im.length D.left D.down) && okDl D.im.length (-1) D.dl
theorem ok_parts {D : Dev} (h : okD D = true) : Head D.im.length D.left D.down ∧ okDl D.im.length (-1) D.dl = true := by
  unfold okD at h
  simpa using h
/-- The error of a device, and of a device and an address. -/
def code8 (b : Bool) : Int := if b = true then 0 else 8
def chk (D : Dev) : Int := code8 (okD D)
def asked (D : Dev) (p : Int) : Int := if okD D = true then (if p < 0 ∨ (D.im.length : Int) ≤ p then 2 else 0) else 8
/-- All words, as they are loaded. -/
def wordsL : List Int → List Dw → List Int
  | zs, [] => zs
  | zs, x :: xs => wordsL (zs.set x.p.toNat x.v) xs
theorem wordsL_len : ∀ (xs : List Dw) (zs : List Int), (wordsL zs xs).length = zs.length
  | [], _ => rfl
  | x :: xs, zs => by
    unfold wordsL
    rw [wordsL_len xs, List.length_set]
theorem wordsL_drop {zs : List Int} {xs : List Dw} {k : Nat} (hk : k < xs.length) : wordsL zs (xs.drop k) = wordsL (zs.set xs[k].p.toNat xs[k].v) (xs.drop (k + 1)) := by
  rw [List.drop_eq_getElem_cons hk]
  rfl
theorem okDl_at {n : Int} : ∀ {xs : List Dw} {l : Int} {k : Nat} (_ : okDl n l xs = true) (hk : k < xs.length), l < xs[k].p ∧ xs[k].p < n
  | x :: xs, l, 0, h, _ => by
    simp only [okDl, Bool.and_eq_true, decide_eq_true_eq] at h
    exact ⟨h.1, h.2.1⟩
  | x :: xs, l, k + 1, h, hk => by
    simp only [okDl, Bool.and_eq_true, decide_eq_true_eq] at h
    have := okDl_at (k := k) h.2.2 (by simpa using hk)
    exact ⟨by have := this.1; simp; omega, this.2⟩
/-- The device on which an operation begins. -/
def spent (D : Dev) : Dev := if D.left = 0 then { D with down := true } else if 0 < D.left then { D with left := D.left - 1 } else D
theorem okDl_len {n : Int} : ∀ {xs : List Dw} {l : Int}, okDl n l xs = true → l < n → (xs.length : Int) < n - l
  | [], l, _, h => by simp; omega
  | x :: xs, l, h, hl => by
    simp only [okDl, Bool.and_eq_true, decide_eq_true_eq] at h
    have := okDl_len h.2.2 h.2.1
    simp only [List.length_cons]
    omega
/-- The dirty words after storing. -/
def ins (p v : Int) : List Dw → List Dw
  | [] => [⟨p, v, false⟩]
  | x :: xs => if x.p < p then x :: ins p v xs else if x.p = p then ⟨p, v, false⟩ :: xs else ⟨p, v, false⟩ :: x :: xs
/-- As the reference goes about it. -/
def rins (p v : Int) : Bool → List Dw → List Dw
  | q, [] => if q = true then [] else [⟨p, v, false⟩]
  | q, x :: xs => (if q = false ∧ p ≤ x.p then [⟨p, v, false⟩] else []) ++ ((if x.p ≠ p then [x] else []) ++ rins p v (q || decide (p ≤ x.p)) xs)
theorem rins_done {p v n : Int} : ∀ {xs : List Dw} {l : Int}, okDl n l xs = true → p ≤ l → rins p v true xs = xs
  | [], _, _, _ => rfl
  | x :: xs, l, h, hl => by
    simp only [okDl, Bool.and_eq_true, decide_eq_true_eq] at h
    have h1 := rins_done (p := p) (v := v) h.2.2 (by omega)
    have h2 : x.p ≠ p := by omega
    simp [rins, h1, h2]
theorem rins_ok {p v n : Int} : ∀ {xs : List Dw} {l : Int}, okDl n l xs = true → rins p v false xs = ins p v xs
  | [], _, _ => rfl
  | x :: xs, l, h => by
    simp only [okDl, Bool.and_eq_true, decide_eq_true_eq] at h
    by_cases h1 : x.p < p
    · have h2 := rins_ok (p := p) (v := v) h.2.2
      have h3 : ¬ p ≤ x.p := by omega
      have h4 : x.p ≠ p := by omega
      simp [rins, ins, h1, h2, h3, h4]
    · have h2 := rins_done (p := p) (v := v) h.2.2 (by omega)
      have h3 : p ≤ x.p := by omega
      by_cases h4 : x.p = p
      · simp [rins, ins, h2, h4]
      · simp [rins, ins, h1, h2, h3, h4]
theorem rins_drop {p v : Int} {q : Bool} {xs : List Dw} {k : Nat} (hk : k < xs.length) :
    rins p v q (xs.drop k) = (if q = false ∧ p ≤ xs[k].p then [⟨p, v, false⟩] else []) ++ ((if xs[k].p ≠ p then [xs[k]] else []) ++ rins p v (q || decide (p ≤ xs[k].p)) (xs.drop (k + 1))) := by
  rw [List.drop_eq_getElem_cons hk]
  rfl
/-- An operation is made. -/
def made (D : Dev) : Bool := !decide (D.left = 0)
theorem spent_im (D : Dev) : (spent D).im = D.im := by
  unfold spent
  split
  · rfl
  · split <;> rfl
theorem spent_dl (D : Dev) : (spent D).dl = D.dl := by
  unfold spent
  split
  · rfl
  · split <;> rfl
/-- A device after storing. -/
def storedD (D : Dev) (p v : Int) : Dev := if made D = true then { spent D with dl := ins p v D.dl } else spent D
/-- A dirty word after flushing the line of an address. -/
def flushW (p : Int) (x : Dw) : Dw := if x.p / 8 = p / 8 then { x with f := true } else x
def flushedD (D : Dev) (p : Int) : Dev := if made D = true then { spent D with dl := D.dl.map (flushW p) } else spent D
def flushD (D : Dev) (p : Int) : Dev := if asked D p = 0 then flushedD D p else zdev
/-- The image after fencing. -/
def fenceL : List Int → List Dw → List Int
  | zs, [] => zs
  | zs, x :: xs => fenceL (if x.f = true then zs.set x.p.toNat x.v else zs) xs
theorem fenceL_len : ∀ (xs : List Dw) (zs : List Int), (fenceL zs xs).length = zs.length
  | [], _ => rfl
  | x :: xs, zs => by
    unfold fenceL
    rw [fenceL_len xs]
    split
    · rw [List.length_set]
    · rfl
theorem fenceL_drop {zs : List Int} {xs : List Dw} {k : Nat} (hk : k < xs.length) : fenceL zs (xs.drop k) = fenceL (if xs[k].f = true then zs.set xs[k].p.toNat xs[k].v else zs) (xs.drop (k + 1)) := by
  rw [List.drop_eq_getElem_cons hk]
  rfl
def fencedD (D : Dev) : Dev := if made D = true then { spent D with im := fenceL D.im D.dl, dl := D.dl.filter fun x => !x.f } else spent D
def fenceD (D : Dev) : Dev := if okD D = true then fencedD D else zdev
def storeD (D : Dev) (p v : Int) : Dev := if asked D p = 0 then storedD D p v else zdev
end Go.Proofs.Ytpdgefmchoonnaa.Dv
