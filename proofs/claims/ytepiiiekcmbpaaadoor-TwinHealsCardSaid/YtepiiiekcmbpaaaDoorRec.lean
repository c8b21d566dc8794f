/-
  Slices of records as lists: how a record lies in cells; a slice value that is read as a list of records; a list of records that the call makes; stores into what the call has made. No function of the program.
-/
import Derived.Test.YtepiiiekcmbpaaaDoorOwn
import Derived.OneCell
namespace Go.Proofs.YtepiiiekcmbpaaaDoor.Sl
open Go.RowKit Go.WideShapes Go.ChangeShapes Go.Proofs.YtepiiiekcmbpaaaDoor.St

/-- How a record lies in cells. -/
structure Rec (α : Type) where
  sz : Nat
  cells : α → List Value
  good : α → Prop
  len : ∀ x, (cells x).length = sz
  one : ∀ x, ∀ u ∈ cells x, u.oneCell' = true
  pos : 0 < sz

variable {α : Type}

theorem Rec.flat_len (R : Rec α) : ∀ xs : List α, (xs.flatMap R.cells).length = xs.length * R.sz
  | [] => by simp
  | x :: xs => by rw [List.flatMap_cons, List.length_append, R.flat_len xs, R.len, List.length_cons, Nat.add_mul]; omega
theorem Rec.flat_at (R : Rec α) : ∀ (xs : List α) (i j : Nat) (hi : i < xs.length), j < R.sz → (xs.flatMap R.cells)[i * R.sz + j]? = (R.cells xs[i])[j]?
  | x :: xs, 0, j, _, hj => by
    rw [List.flatMap_cons, Nat.zero_mul, Nat.zero_add, List.getElem?_append_left (by rw [R.len]; exact hj)]
    rfl
  | x :: xs, i + 1, j, hi, hj => by
    have e : (i + 1) * R.sz + j - (R.cells x).length = i * R.sz + j := by rw [R.len, Nat.add_mul]; omega
    rw [List.flatMap_cons, List.getElem?_append_right (by rw [R.len, Nat.add_mul]; omega), e, R.flat_at xs i j (by simpa using hi) hj]
    rfl
theorem Rec.flat_set (R : Rec α) : ∀ (xs : List α) (i j : Nat) (hi : i < xs.length) (u : Value) (y : α), j < R.sz → R.cells y = (R.cells xs[i]).set j u → (xs.flatMap R.cells).set (i * R.sz + j) u = (xs.set i y).flatMap R.cells
  | x :: xs, 0, j, _, u, y, hj, h => by
    rw [List.flatMap_cons, Nat.zero_mul, Nat.zero_add, List.set_append, if_pos (by rw [R.len]; exact hj), List.set_cons_zero, List.flatMap_cons, h]
    rfl
  | x :: xs, i + 1, j, hi, u, y, hj, h => by
    have e : (i + 1) * R.sz + j - (R.cells x).length = i * R.sz + j := by rw [R.len, Nat.add_mul]; omega
    rw [List.flatMap_cons, List.set_append, if_neg (by rw [R.len, Nat.add_mul]; omega), e, R.flat_set xs i j (by simpa using hi) u y hj (by simpa using h), List.set_cons_succ, List.flatMap_cons]

/-- The slice value with address a, length n and capacity c is read as the list xs of records. -/
structure SeesR (R : Rec α) (w : World) (a : Option Addr) (n c : Nat) (xs : List α) : Prop where
  len : xs.length = n
  le : n ≤ c
  top : n * R.sz ≤ 17592186044416
  good : ∀ x ∈ xs, R.good x
  nil : a = none → n = 0 ∧ c = 0
  row : n = 0 ∨ ∃ b off, a = some ⟨b, off, none⟩ ∧ ∀ j u, (xs.flatMap R.cells)[j]? = some u → w.cell? ⟨b, off + j, none⟩ = some u

theorem SeesR.keep {R : Rec α} {w w' : World} {a : Option Addr} {n c : Nat} {xs : List α} (h : SeesR R w a n c xs) (hb : Below w.heap.size w w') : SeesR R w' a n c xs := by
  refine ⟨h.len, h.le, h.top, h.good, h.nil, ?_⟩
  rcases h.row with h0 | ⟨b, off, ha, hc⟩
  · exact .inl h0
  · refine .inr ⟨b, off, ha, fun j u hj => ?_⟩
    have h1 := hc j u hj
    rw [hb.cell (p := ⟨b, off + j, none⟩) (World.block_lt_of_cell? w _ h1)]
    exact h1
theorem SeesR.draws {R : Rec α} {w : World} {a : Option Addr} {n c : Nat} {xs : List α} (h : SeesR R w a n c xs) (m : Nat) : SeesR R (w.drewN m) a n c xs :=
  ⟨h.len, h.le, h.top, h.good, h.nil, h.row⟩
/-- The cell j of the record i. -/
theorem SeesR.at {R : Rec α} {w : World} {b off n c : Nat} {xs : List α} (h : SeesR R w (some ⟨b, off, none⟩) n c xs) (i : Nat) (hi : i < xs.length) (j : Nat) (u : Value) (hu : (R.cells xs[i])[j]? = some u) :
    w.cell? ⟨b, off + (i * R.sz + j), none⟩ = some u := by
  rcases h.row with h0 | ⟨b', off', ha, hc⟩
  · have := h.len
    omega
  · injection ha with ha
    injection ha with h1 h2
    subst h1 h2
    refine hc _ _ ?_
    have hj : j < R.sz := by
      rw [← R.len xs[i]]
      exact (List.getElem?_eq_some_iff.1 hu).1
    rw [R.flat_at xs i j hi hj, hu]
theorem SeesR.lies {R : Rec α} {w : World} {a : Option Addr} {n c : Nat} {xs : List α} (h : SeesR R w a n c xs) (hn : 0 < n) : ∃ b off, a = .some ⟨b, off, none⟩ := by
  rcases h.row with h0 | ⟨b, off, ha, _⟩
  · omega
  · exact ⟨b, off, ha⟩
theorem SeesR.empty {R : Rec α} {w : World} {a : Option Addr} {c : Nat} {xs : List α} (h : SeesR R w a 0 c xs) : xs = [] := List.eq_nil_of_length_eq_zero h.len
theorem SeesR.short {R : Rec α} {w : World} {a : Option Addr} {n c : Nat} {xs : List α} (h : SeesR R w a n c xs) : n ≤ 17592186044416 :=
  Nat.le_trans (Nat.le_mul_of_pos_right n R.pos) h.top

/-- What an owned row holds is what it is read as. -/
theorem seesR_of_owns {R : Rec α} {w : World} {base e n : Nat} {v : Value} {xs : List α} (hl : xs.length = n) (h : w.ownsRow base e R.sz v n (xs.flatMap R.cells)) (hw : ∀ x ∈ xs, R.good x) (ht : n * R.sz ≤ 17592186044416) :
    ∃ a c, v = .slice a n c ∧ SeesR R w a n c xs := by
  rcases h.2 with ⟨rfl, rfl⟩ | ⟨g, cap, cur, rfl, hg, hh, hle, hm, hs, hx⟩
  · exact ⟨none, 0, rfl, hl, Nat.le_refl _, ht, hw, fun _ => ⟨rfl, rfl⟩, .inl rfl⟩
  · refine ⟨_, cap, rfl, hl, hle, ht, hw, fun h => by simp at h, .inr ⟨g, 0, rfl, fun j u hj => ?_⟩⟩
    have hlt : j < n * R.sz := by
      rw [← hl, ← R.flat_len]
      exact (List.getElem?_eq_some_iff.1 hj).1
    rw [Nat.zero_add, h.cellAt j hlt, hj]

/-- Since the world w the call has made the list zs of records, which is the value v, and turned nothing that was there. -/
structure GrowsR (R : Rec α) (e : TypeId) (w W : World) (v : Value) (zs : List α) : Prop where
  own : W.ownsRow w.heap.size e R.sz v zs.length (zs.flatMap R.cells)
  below : Below w.heap.size w W
/-- A call has made a list of records. -/
def MadeR (R : Rec α) (e : TypeId) (w : World) (xs : List α) (a : Option Addr) (c : Nat) (w' : World) : Prop :=
  w'.ownsRow w.heap.size e R.sz (.slice a xs.length c) xs.length (xs.flatMap R.cells) ∧ Below w.heap.size w w'
theorem MadeR.sees {R : Rec α} {e : TypeId} {w w' : World} {xs : List α} {a : Option Addr} {c : Nat} (h : MadeR R e w xs a c w') (hw : ∀ x ∈ xs, R.good x) (ht : xs.length * R.sz ≤ 17592186044416) :
    SeesR R w' a xs.length c xs := by
  obtain ⟨a', c', e, hs⟩ := seesR_of_owns rfl h.1 hw ht
  injection e with e1 e2 e3
  subst e1 e3
  exact hs
theorem MadeR.grows {R : Rec α} {e : TypeId} {w W : World} {a : Option Addr} {c : Nat} {zs : List α} (h : MadeR R e w zs a c W) : GrowsR R e w W (.slice a zs.length c) zs := ⟨h.1, h.2⟩
theorem GrowsR.nil (R : Rec α) (e : TypeId) (w : World) : GrowsR R e w w (.slice .none 0 0) [] := ⟨World.ownsRow_nil _ _ _ _, Below.refl _ _⟩
theorem GrowsR.nilB (R : Rec α) (e : TypeId) {w W : World} (hb : Below w.heap.size w W) : GrowsR R e w W (.slice .none 0 0) [] := ⟨World.ownsRow_nil _ _ _ _, hb⟩
/-- A literal without elements. -/
theorem GrowsR.lit0 (R : Rec α) (e : TypeId) {w W : World} (hb : Below w.heap.size w W) : GrowsR R e w (W.alloc (.cells #[] e)) (.slice (some ⟨W.heap.size, 0, .none⟩) 0 0) [] :=
  ⟨World.ownsRow_lit W #[] 0 hb.size (by decide) (by simp), hb.alloc hb.size _⟩
theorem GrowsR.litN (R : Rec α) (e : TypeId) {w W : World} (hb : Below w.heap.size w W) (N : Nat) (hN : N = W.heap.size) : GrowsR R e w (W.alloc (.cells #[] e)) (.slice (some ⟨N, 0, .none⟩) 0 0) [] := by
  subst hN
  exact GrowsR.lit0 R e hb
theorem owns_kept' {w w' : World} {base e sz n : Nat} {v : Value} {xs : List Value} (h : w.ownsRow base e sz v n xs) (hb : Below w.heap.size w w') : w'.ownsRow base e sz v n xs := by
  refine ⟨h.1, ?_⟩
  rcases h.2 with h0 | ⟨g, cap, cur, hv, hg, hh, hle, hm, hs, hx⟩
  · exact .inl h0
  · refine .inr ⟨g, cap, cur, hv, hg, ?_, hle, hm, hs, hx⟩
    rw [hb.block g ?_]
    · exact hh
    · exact Nat.lt_of_not_le fun hlt => by rw [Array.getElem?_eq_none hlt] at hh; simp at hh
theorem GrowsR.keep {R : Rec α} {e : TypeId} {w W W' : World} {v : Value} {zs : List α} (h : GrowsR R e w W v zs) (hb : Below W.heap.size W W') : GrowsR R e w W' v zs :=
  ⟨owns_kept' h.own hb, below_then h.below hb⟩
theorem GrowsR.made {R : Rec α} {e : TypeId} {w W : World} {v : Value} {zs : List α} (h : GrowsR R e w W v zs) : ∃ a c, v = .slice a zs.length c ∧ MadeR R e w zs a c W := by
  rcases h.own.2 with ⟨hv, h0⟩ | ⟨g, cap, cur, hv, _⟩
  · have h1 := h.own
    rw [hv] at h1
    refine ⟨.none, 0, by rw [hv, h0], ?_, h.below⟩
    rw [h0] at h1 ⊢
    exact h1
  · have h1 := h.own
    rw [hv] at h1
    exact ⟨_, cap, hv, h1, h.below⟩

theorem cells_newsR {R : Rec α} {w : World} {ad : Addr} {n c : Nat} {xs : List α} (v : SeesR R w (some ad) n c xs) : ∀ j u, (xs.flatMap R.cells)[j]? = some u → w.cell? (ad.add j) = some u := by
  intro j u h
  rcases v.row with h0 | ⟨b, off, ha, hc⟩
  · have h1 := v.len
    subst h0
    obtain rfl := List.eq_nil_of_length_eq_zero h1
    simp at h
  · injection ha with ha
    subst ha
    rw [add_plain]
    exact hc j u h
theorem one_cellsR (R : Rec α) (xs : List α) : ∀ u ∈ xs.flatMap R.cells, u.oneCell' = true := by
  intro u h
  obtain ⟨x, _, hx⟩ := List.mem_flatMap.1 h
  exact R.one x u hx

/-- append(out, l...): out is the call's own (or nil), l any slice; with a guard or without. What else there is stays. -/
theorem wp_appendR2 {P : Program} {W : World} {ops : Array Oper} {rest : List Oper} {o : Oper} {a : Act} {Q : Exit → Act → World → Prop} (hgd : Region.wanted o (yielded ops a.tmps) = true) (s x : Operand) (t : TypeId)
    (ho : o.op = .call { callee := .builtin .append, args := #[s, x], argTypes := #[t, t] }) (R : Rec α) (e : TypeId) (ht : P.underlying t = some (.slice e))
    (z : Value) (bytes : Nat) (hinfo : (P.info? e).map (fun i => (i.zero, i.size, i.bytes)) = some (some z, R.sz, bytes)) (hzc : z.cells.size = R.sz) (hby : bytes ≤ 8 * R.sz)
    (w : World) (v : Value) (zs : List α) (hs : a.eval s = v) (hown : GrowsR R e w W v zs)
    (ad : Option Addr) (m c : Nat) (ys : List α) (hx : a.eval x = .slice ad m c) (vy : SeesR R W ad m c ys) (hnm : (zs.length + m) * R.sz ≤ 17592186044416)
    (h : ∀ v' w', GrowsR R e w w' v' (zs ++ ys) → W.grownBy w' v.ownBlock → wpList P ops Q rest (a.put o.dst v') w') : wpList P ops Q (o :: rest) a W := by
  obtain ⟨i0, hi, hz0, hz1, hz2⟩ := info_parts hinfo
  have hm := vy.len
  subst hm
  refine BigFrame.wpList_want hgd fun K hK => ?_
  cases ad with
  | none =>
    obtain ⟨h0, rfl⟩ := vy.nil rfl
    obtain rfl := List.eq_nil_of_length_eq_zero h0
    have hrun := run_append_owned_none (P := P) (w := W) w.heap.size t o.type e i0 R.sz ht hi v zs.length _ hown.own
    unfold Oper.wp
    have hx' : a.eval x = .slice .none 0 0 := hx
    simp [execOp, ho, resolve, invoke, builtin, hs, hx', hrun, Result.andThen]
    exact hK _ _ (h v W (by rw [List.append_nil]; exact hown) ⟨rfl, rfl, rfl, Nat.le_refl _, fun _ _ _ => rfl⟩)
  | some ad =>
    have h8 : (zs.length + ys.length) * bytes ≤ 140737488355328 := by
      have h1 : (zs.length + ys.length) * bytes ≤ (zs.length + ys.length) * (8 * R.sz) := Nat.mul_le_mul_left _ hby
      have h2 : (zs.length + ys.length) * (8 * R.sz) = 8 * ((zs.length + ys.length) * R.sz) := by rw [Nat.mul_left_comm]
      omega
    have h9 : zs.length + ys.length ≤ 17592186044416 := Nat.le_trans (Nat.le_mul_of_pos_right _ R.pos) hnm
    refine wp_append_own _ s x t ho w.heap.size e i0 z R.sz bytes ht hi hz0 hz1 hz2 hzc R.pos v zs.length _ hs hown.own ad ys.length c (ys.flatMap R.cells) hx (R.flat_len ys) (cells_newsR vy) (one_cellsR R _)
      (by unfold maxLen; omega) h8 hown.below.size ?_
    intro v' w' h1 h2 _
    refine hK _ _ (h v' w' ⟨?_, ?_⟩ h2)
    · rw [List.length_append, List.flatMap_append]
      exact h1
    · exact hown.below.grown h2 hown.below.size (fun g hg => (hown.own.lt g hg).1)
theorem wp_appendR {P : Program} {W : World} {ops : Array Oper} {rest : List Oper} {o : Oper} {a : Act} {Q : Exit → Act → World → Prop} (hgd : Region.wanted o (yielded ops a.tmps) = true) (s x : Operand) (t : TypeId)
    (ho : o.op = .call { callee := .builtin .append, args := #[s, x], argTypes := #[t, t] }) (R : Rec α) (e : TypeId) (ht : P.underlying t = some (.slice e))
    (z : Value) (bytes : Nat) (hinfo : (P.info? e).map (fun i => (i.zero, i.size, i.bytes)) = some (some z, R.sz, bytes)) (hzc : z.cells.size = R.sz) (hby : bytes ≤ 8 * R.sz)
    (w : World) (v : Value) (zs : List α) (hs : a.eval s = v) (hown : GrowsR R e w W v zs)
    (ad : Option Addr) (m c : Nat) (ys : List α) (hx : a.eval x = .slice ad m c) (vy : SeesR R W ad m c ys) (hnm : (zs.length + m) * R.sz ≤ 17592186044416)
    (h : ∀ v' w', GrowsR R e w w' v' (zs ++ ys) → wpList P ops Q rest (a.put o.dst v') w') : wpList P ops Q (o :: rest) a W :=
  wp_appendR2 hgd s x t ho R e ht z bytes hinfo hzc hby w v zs hs hown ad m c ys hx vy hnm fun v' w' h1 _ => h v' w' h1

/-- A store into a record of the call's own list. -/
theorem GrowsR.stored {R : Rec α} {e : TypeId} {w W : World} {g n cap : Nat} {zs : List α} (h : GrowsR R e w W (.slice (some ⟨g, 0, none⟩) n cap) zs) (i j : Nat) (hi : i < zs.length) (hj : j < R.sz) (u : Value) (y : α)
    (hy : R.cells y = (R.cells zs[i]).set j u) : GrowsR R e w (W.setCell ⟨g, i * R.sz + j, none⟩ u) (.slice (some ⟨g, 0, none⟩) n cap) (zs.set i y) := by
  have hn : n = zs.length := by
    rcases h.own.2 with ⟨hv, _⟩ | ⟨g', cap', cur, hv, _⟩
    · simp at hv
    · simp at hv
      exact hv.2.1
  subst hn
  have h1 := (h.own.stored (i * R.sz + j) u).1
  rw [R.flat_set zs i j hi u y hj hy] at h1
  refine ⟨?_, h.below.setCell (h.own.lt g rfl).1 u⟩
  rw [List.length_set]
  exact h1
/-- A store into a number of the call's own list. -/
theorem Grows.stored {k : IntKind} {e : TypeId} {w W : World} {g n cap : Nat} {zs : List Int} (h : Grows k e w W (.slice (some ⟨g, 0, none⟩) n cap) zs) (i : Nat) (x : Int) :
    Grows k e w (W.setCell ⟨g, i, none⟩ (.int k x)) (.slice (some ⟨g, 0, none⟩) n cap) (zs.set i x) := by
  have hn : n = zs.length := by
    rcases h.own.2 with ⟨hv, _⟩ | ⟨g', cap', cur, hv, _⟩
    · simp at hv
    · simp at hv
      exact hv.2.1
  subst hn
  have h1 := (h.own.stored i (.int k x)).1
  rw [← List.map_set] at h1
  refine ⟨?_, h.below.setCell (h.own.lt g rfl).1 _⟩
  rw [List.length_set]
  exact h1
/-- A record in a new block. -/
theorem seesR_one (R : Rec α) (W : World) (e : TypeId) (x : α) (cs : Array Value) (hcs : cs.toList = R.cells x) (hx : R.good x) (hs : R.sz ≤ 1000) : SeesR R (W.alloc (.cells cs e)) (some ⟨W.heap.size, 0, .none⟩) 1 1 [x] := by
  refine ⟨rfl, Nat.le_refl _, by omega, by simpa using hx, fun h => by simp at h, .inr ⟨_, _, rfl, fun j u hj => ?_⟩⟩
  have h1 : (R.cells x)[j]? = some u := by simpa using hj
  rw [← hcs] at h1
  rw [Nat.zero_add]
  simpa using h1
/-- Block B holds these cells, and no constant. -/
def Box (w : World) (B : Nat) (cs : Array Value) (e : TypeId) : Prop := w.heap[B]? = some (.cells cs e)
theorem Box.new (w : World) (cs : Array Value) (e : TypeId) : Box (w.alloc (.cells cs e)) w.heap.size cs e := heap_alloc_new w _
theorem Box.new1 (w : World) (o : Obj) (cs : Array Value) (e : TypeId) : Box ((w.alloc o).alloc (.cells cs e)) (w.heap.size + 1) cs e := by
  have h := Box.new (w.alloc o) cs e
  have hs : (w.alloc o).heap.size = w.heap.size + 1 := by simp
  rwa [hs] at h
theorem Box.lt {w : World} {B : Nat} {cs : Array Value} {e : TypeId} (h : Box w B cs e) : B < w.heap.size := (Array.getElem?_eq_some_iff.1 h).1
theorem Box.keep {w w' : World} {B : Nat} {cs : Array Value} {e : TypeId} (h : Box w B cs e) (hb : Below w.heap.size w w') : Box w' B cs e := (hb.block B h.lt).trans h
theorem Box.alloc {w : World} {B : Nat} {cs : Array Value} {e : TypeId} (h : Box w B cs e) (o : Obj) : Box (w.alloc o) B cs e := (Below.heap_alloc w o B h.lt).trans h
theorem Box.drew {w : World} {B : Nat} {cs : Array Value} {e : TypeId} (h : Box w B cs e) : Box w.drew B cs e := h
theorem Box.draws {w : World} {B : Nat} {cs : Array Value} {e : TypeId} (h : Box w B cs e) (m : Nat) : Box (w.drewN m) B cs e := h
theorem Box.set {w : World} {B : Nat} {cs : Array Value} {e : TypeId} (h : Box w B cs e) (j : Nat) (u : Value) : Box (w.setCell ⟨B, j, none⟩ u) B (cs.setIfInBounds j u) e := heap_setCell_same w B j cs e u h
theorem Box.other {w : World} {B : Nat} {cs : Array Value} {e : TypeId} (h : Box w B cs e) {a : Addr} (ha : B ≠ a.block) (u : Value) : Box (w.setCell a u) B cs e := (Below.heap_setCell w a u B ha).trans h
theorem Box.cell {w : World} {B : Nat} {cs : Array Value} {e : TypeId} (h : Box w B cs e) (j : Nat) : w.cell? ⟨B, j, none⟩ = cs[j]? := by
  unfold Box at h
  simp [World.cell?, h]
theorem Box.soft {w : World} {B : Nat} {cs : Array Value} {e : TypeId} (h : Box w B cs e) (j : Nat) : w.frozen? ⟨B, j, none⟩ = false := by
  unfold Box at h
  simp [World.frozen?, h]
/-- A block of four cells, laid open for the walk. -/
theorem Box.open4 {w : World} {B : Nat} {x0 x1 x2 x3 : Value} {e : TypeId} (h : Box w B #[x0, x1, x2, x3] e) :
    (w.cell? ⟨B, 0, none⟩ = some x0 ∧ w.cell? ⟨B, 1, none⟩ = some x1 ∧ w.cell? ⟨B, 2, none⟩ = some x2 ∧ w.cell? ⟨B, 3, none⟩ = some x3) ∧
    (w.frozen? ⟨B, 0, none⟩ = false ∧ w.frozen? ⟨B, 1, none⟩ = false ∧ w.frozen? ⟨B, 2, none⟩ = false ∧ w.frozen? ⟨B, 3, none⟩ = false) :=
  ⟨⟨h.cell 0, h.cell 1, h.cell 2, h.cell 3⟩, ⟨h.soft 0, h.soft 1, h.soft 2, h.soft 3⟩⟩
/-- What the call owns stays where a cell of another block is written. -/
theorem GrowsR.other {R : Rec α} {e : TypeId} {w W : World} {v : Value} {zs : List α} (h : GrowsR R e w W v zs) {a : Addr} (ha : v.ownBlock ≠ some a.block) (hb : w.heap.size ≤ a.block) (u : Value) : GrowsR R e w (W.setCell a u) v zs :=
  ⟨ownsRow_setCell_other h.own ha u, h.below.setCell hb u⟩
theorem Grows.other {k : IntKind} {e : TypeId} {w W : World} {v : Value} {zs : List Int} (h : Grows k e w W v zs) {a : Addr} (ha : v.ownBlock ≠ some a.block) (hb : w.heap.size ≤ a.block) (u : Value) : Grows k e w (W.setCell a u) v zs :=
  ⟨ownsRow_setCell_other h.own ha u, h.below.setCell hb u⟩
theorem owns_mono {w : World} {base base' e sz n : Nat} {v : Value} {xs : List Value} (h : w.ownsRow base e sz v n xs) (hb : base' ≤ base) : w.ownsRow base' e sz v n xs := by
  refine ⟨h.1, ?_⟩
  rcases h.2 with h0 | ⟨g, cap, cur, hv, hg, r⟩
  · exact .inl h0
  · exact .inr ⟨g, cap, cur, hv, Nat.le_trans hb hg, r⟩
/-- .. and since an earlier world. -/
theorem GrowsR.past {R : Rec α} {e : TypeId} {w w1 W : World} {v : Value} {zs : List α} (h : GrowsR R e w1 W v zs) (hw : Below w.heap.size w w1) : GrowsR R e w W v zs :=
  ⟨owns_mono h.own hw.size, below_then hw h.below⟩
theorem Grows.past {k : IntKind} {e : TypeId} {w w1 W : World} {v : Value} {zs : List Int} (h : Grows k e w1 W v zs) (hw : Below w.heap.size w w1) : Grows k e w W v zs :=
  ⟨owns_mono h.own hw.size, below_then hw h.below⟩
theorem Grows.at0 {k : IntKind} {e : TypeId} {w W : World} {a : Option Addr} {n c : Nat} {zs : List Int} (h : Grows k e w W (.slice a n c) zs) (hn : 0 < zs.length) : ∃ g, a = some ⟨g, 0, none⟩ := by
  rcases h.own.2 with ⟨hv, h0⟩ | ⟨g, cap, cur, hv, _⟩
  · simp at h0
    subst h0
    simp at hn
  · injection hv with hv
    exact ⟨g, hv⟩
theorem Grows.cellAt {k : IntKind} {e : TypeId} {w W : World} {g n c : Nat} {zs : List Int} (h : Grows k e w W (.slice (some ⟨g, 0, none⟩) n c) zs) (i : Nat) (hi : i < zs.length) :
    W.cell? ⟨g, i, none⟩ = some (.int k (zs.getD i 0)) ∧ W.frozen? ⟨g, i, none⟩ = false := by
  have hn : n = zs.length := by
    rcases h.own.2 with ⟨hv, _⟩ | ⟨g', cap', cur, hv, _⟩
    · simp at hv
    · simp at hv
      exact hv.2.1
  subst hn
  refine ⟨?_, h.own.frozenAt i⟩
  rw [h.own.cellAt i (by omega), List.getElem?_map, List.getElem?_eq_getElem hi, List.getD_eq_getElem?_getD, List.getElem?_eq_getElem hi]
  rfl
/-- From block N on up to block M nothing has turned. -/
structure Mid (N M : Nat) (w w' : World) : Prop where
  size : M ≤ w'.heap.size
  same : ∀ k, N ≤ k → k < M → w'.heap[k]? = w.heap[k]?
theorem Mid.refl (N : Nat) (w : World) : Mid N w.heap.size w w := ⟨Nat.le_refl _, fun _ _ _ => rfl⟩
theorem Mid.set {N M : Nat} {a w : World} (h : Mid N M a w) {p : Addr} (hp : p.block < N ∨ M ≤ p.block) (u : Value) : Mid N M a (w.setCell p u) :=
  ⟨by have := h.size; simp [World.setCell]; exact this, fun k hk hl => (Below.heap_setCell w p u k (by omega)).trans (h.same k hk hl)⟩
theorem Mid.alloc {N M : Nat} {a w : World} (h : Mid N M a w) (o : Obj) : Mid N M a (w.alloc o) :=
  ⟨Nat.le_trans h.size (by simp), fun k hk hl => (Below.heap_alloc w o k (Nat.lt_of_lt_of_le hl h.size)).trans (h.same k hk hl)⟩
theorem Mid.draws {N M : Nat} {a w : World} (h : Mid N M a w) (j : Nat) : Mid N M a (w.drewN j) := ⟨h.size, h.same⟩
theorem Mid.keep {N M : Nat} {a w w' : World} (h : Mid N M a w) (hb : Below w.heap.size w w') : Mid N M a w' :=
  ⟨Nat.le_trans h.size hb.size, fun k hk hl => (hb.block k (Nat.lt_of_lt_of_le hl h.size)).trans (h.same k hk hl)⟩
theorem owns_mid {N M : Nat} {w w' : World} {base e sz n : Nat} {v : Value} {xs : List Value} (h : w.ownsRow base e sz v n xs) (hb : N ≤ base) (hm : Mid N M w w') (hM : w.heap.size ≤ M) : w'.ownsRow base e sz v n xs := by
  refine ⟨h.1, ?_⟩
  rcases h.2 with h0 | ⟨g, cap, cur, hv, hg, hh, r⟩
  · exact .inl h0
  · exact .inr ⟨g, cap, cur, hv, hg, (hm.same g (Nat.le_trans hb hg) (Nat.lt_of_lt_of_le (Array.getElem?_eq_some_iff.1 hh).1 hM)).trans hh, r⟩
theorem GrowsR.apart {R : Rec α} {e : TypeId} {w W : World} {v : Value} {zs : List α} (h : GrowsR R e w W v zs) {B : Nat} (hB : B < w.heap.size) : v.ownBlock ≠ some B := fun hv => by
  have := (h.own.lt B hv).1
  omega
theorem Grows.apart {k : IntKind} {e : TypeId} {w W : World} {v : Value} {zs : List Int} (h : Grows k e w W v zs) {B : Nat} (hB : B < w.heap.size) : v.ownBlock ≠ some B := fun hv => by
  have := (h.own.lt B hv).1
  omega
end Go.Proofs.YtepiiiekcmbpaaaDoor.Sl
