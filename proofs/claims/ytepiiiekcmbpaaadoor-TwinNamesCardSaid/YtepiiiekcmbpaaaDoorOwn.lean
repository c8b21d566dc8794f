/-
  Lists of numbers that a call makes: a new row that grows by append, one element or a whole slice at a time; a new row of zeros; copying into a row of the call's own. Laws for the walk, over every program; no function of this one.
-/
import Derived.Test.YtepiiiekcmbpaaaDoorSlice
import Derived.WalkKit
import Derived.Laws.AppendOwnNone
import Derived.OwnWalk
import Derived.Laws.CopyOwn
namespace Go.Proofs.YtepiiiekcmbpaaaDoor.Sl
open Go.RowKit Go.WideShapes Go.Proofs.YtepiiiekcmbpaaaDoor.St

/-- Since the world w the call has made the list zs, which is the value v, and turned nothing that was there. -/
structure Grows (k : IntKind) (e : TypeId) (w W : World) (v : Value) (zs : List Int) : Prop where
  own : W.ownsRow w.heap.size e 1 v zs.length (zs.map (Value.int k))
  below : Below w.heap.size w W

theorem Grows.nil (k : IntKind) (e : TypeId) (w : World) : Grows k e w w (.slice .none 0 0) [] := ⟨World.ownsRow_nil _ _ _ _, Below.refl _ _⟩
/-- A literal without elements. -/
theorem Grows.lit0 (k : IntKind) (e : TypeId) {w W : World} (hb : Below w.heap.size w W) : Grows k e w (W.alloc (.cells #[] e)) (.slice (some ⟨W.heap.size, 0, .none⟩) 0 0) [] :=
  ⟨World.ownsRow_lit W #[] 0 hb.size (by decide) rfl, hb.alloc hb.size _⟩
theorem Grows.keep {k : IntKind} {e : TypeId} {w W W' : World} {v : Value} {zs : List Int} (h : Grows k e w W v zs) (hb : Below W.heap.size W W') : Grows k e w W' v zs :=
  ⟨owns_kept h.own hb, below_then h.below hb⟩
theorem Grows.made {k : IntKind} {e : TypeId} {w W : World} {v : Value} {zs : List Int} (h : Grows k e w W v zs) : ∃ a c, v = .slice a zs.length c ∧ Made k e w zs a c W := by
  rcases h.own.2 with ⟨hv, h0⟩ | ⟨g, cap, cur, hv, _⟩
  · have h1 := h.own
    rw [hv] at h1
    refine ⟨.none, 0, by rw [hv, h0], ?_, h.below⟩
    rw [h0] at h1 ⊢
    exact h1
  · have h1 := h.own
    rw [hv] at h1
    exact ⟨_, cap, hv, h1, h.below⟩
theorem Grows.sees {k : IntKind} {e : TypeId} {w W : World} {v : Value} {zs : List Int} (h : Grows k e w W v zs) (hw : ∀ x ∈ zs, (Lit.int k x).wf = true) (ht : zs.length ≤ 17592186044416) :
    ∃ a c, v = .slice a zs.length c ∧ Sees W k a zs.length c zs := sees_of_owns h.own hw ht
theorem Made.grows {k : IntKind} {e : TypeId} {w W : World} {a : Option Addr} {c : Nat} {zs : List Int} (h : Made k e w zs a c W) : Grows k e w W (.slice a zs.length c) zs := ⟨h.1, h.2⟩

/-- One number in a new block. -/
theorem sees_one (W : World) (k : IntKind) (e : TypeId) (x : Int) (hx : (Lit.int k x).wf = true) : Sees (W.alloc (.cells #[.int k x] e)) k (some ⟨W.heap.size, 0, .none⟩) 1 1 [x] := by
  refine ⟨rfl, Nat.le_refl _, by omega, by simpa using hx, fun h => by simp at h, .inr ⟨_, _, rfl, fun i hi => ?_⟩⟩
  obtain rfl : i = 0 := by omega
  simp

theorem cells_news {w : World} {k : IntKind} {ad : Addr} {n c : Nat} {xs : List Int} (v : Sees w k (some ad) n c xs) : ∀ j u, (xs.map (Value.int k))[j]? = some u → w.cell? (ad.add j) = some u := by
  intro j u h
  have hl := v.len
  rw [List.getElem?_map] at h
  have hj : j < xs.length := by
    rcases Nat.lt_or_ge j xs.length with h1 | h1
    · exact h1
    · rw [List.getElem?_eq_none h1] at h
      simp at h
  rw [List.getElem?_eq_getElem hj] at h
  simp only [Option.map_some, Option.some.injEq] at h
  obtain ⟨b, off, rfl⟩ : ∃ b off, ad = ⟨b, off, .none⟩ := by
    obtain ⟨b, off, e⟩ := v.lies (by omega)
    exact ⟨b, off, by injection e⟩
  rw [add_plain, v.at j (by omega), ← h, List.getD_eq_getElem?_getD, List.getElem?_eq_getElem hj]
  rfl
theorem one_cells (k : IntKind) (xs : List Int) : ∀ u ∈ xs.map (Value.int k), u.oneCell' = true := by
  intro u h
  obtain ⟨x, _, rfl⟩ := List.mem_map.1 h
  rfl

/-- append(out, l...): out is the call's own (or nil), l any slice; with a guard or without. What else there is stays. -/
theorem wp_append2 {P : Program} {W : World} {ops : Array Oper} {rest : List Oper} {o : Oper} {a : Act} {Q : Exit → Act → World → Prop} (hgd : Region.wanted o (yielded ops a.tmps) = true) (s x : Operand) (t : TypeId)
    (ho : o.op = .call { callee := .builtin .append, args := #[s, x], argTypes := #[t, t] }) (k : IntKind) (e : TypeId) (ht : P.underlying t = some (.slice e))
    (hinfo : (P.info? e).map (fun i => (i.zero, i.size, i.bytes)) = some (some (.int k 0), 1, 8)) (w : World) (v : Value) (zs : List Int) (hs : a.eval s = v) (hown : Grows k e w W v zs)
    (ad : Option Addr) (m c : Nat) (ys : List Int) (hx : a.eval x = .slice ad m c) (vy : Sees W k ad m c ys) (hnm : zs.length + m ≤ 17592186044416)
    (h : ∀ v' w', Grows k e w w' v' (zs ++ ys) → W.grownBy w' v.ownBlock → wpList P ops Q rest (a.put o.dst v') w') : wpList P ops Q (o :: rest) a W := by
  obtain ⟨i0, hi, hz0, hz1, hz2⟩ := info_parts hinfo
  have hm := vy.len
  subst hm
  refine BigFrame.wpList_want hgd fun K hK => ?_
  cases ad with
  | none =>
    obtain ⟨h0, rfl⟩ := vy.nil rfl
    obtain rfl := List.eq_nil_of_length_eq_zero h0
    have hrun := run_append_owned_none (P := P) (w := W) w.heap.size t o.type e i0 1 ht hi v zs.length _ hown.own
    unfold Oper.wp
    have hx' : a.eval x = .slice .none 0 0 := hx
    simp [execOp, ho, resolve, invoke, builtin, hs, hx', hrun, Result.andThen]
    exact hK _ _ (h v W (by rw [List.append_nil]; exact hown) ⟨rfl, rfl, rfl, Nat.le_refl _, fun _ _ _ => rfl⟩)
  | some ad =>
    refine wp_append_own _ s x t ho w.heap.size e i0 (.int k 0) 1 8 ht hi hz0 hz1 hz2 rfl (by decide) v zs.length _ hs hown.own ad ys.length c (ys.map (Value.int k)) hx (by simp) (cells_news vy) (one_cells _ _)
      (by unfold maxLen; omega) (by omega) hown.below.size ?_
    intro v' w' h1 h2 _
    refine hK _ _ (h v' w' ⟨?_, ?_⟩ h2)
    · rw [List.length_append, List.map_append]
      exact h1
    · exact hown.below.grown h2 hown.below.size (fun g hg => (hown.own.lt g hg).1)

theorem wp_append {P : Program} {W : World} {ops : Array Oper} {rest : List Oper} {o : Oper} {a : Act} {Q : Exit → Act → World → Prop} (hgd : Region.wanted o (yielded ops a.tmps) = true) (s x : Operand) (t : TypeId)
    (ho : o.op = .call { callee := .builtin .append, args := #[s, x], argTypes := #[t, t] }) (k : IntKind) (e : TypeId) (ht : P.underlying t = some (.slice e))
    (hinfo : (P.info? e).map (fun i => (i.zero, i.size, i.bytes)) = some (some (.int k 0), 1, 8)) (w : World) (v : Value) (zs : List Int) (hs : a.eval s = v) (hown : Grows k e w W v zs)
    (ad : Option Addr) (m c : Nat) (ys : List Int) (hx : a.eval x = .slice ad m c) (vy : Sees W k ad m c ys) (hnm : zs.length + m ≤ 17592186044416)
    (h : ∀ v' w', Grows k e w w' v' (zs ++ ys) → wpList P ops Q rest (a.put o.dst v') w') : wpList P ops Q (o :: rest) a W :=
  wp_append2 hgd s x t ho k e ht hinfo w v zs hs hown ad m c ys hx vy hnm fun v' w' h1 _ => h v' w' h1
/-- A list that lies elsewhere stays while a row grows. -/
theorem Sees.grown {W w' : World} {k : IntKind} {a : Option Addr} {n c : Nat} {xs : List Int} {row : Option Nat} (h : Sees W k a n c xs) (hg : W.grownBy w' row) (hne : ∀ b off, a = some ⟨b, off, .none⟩ → some b ≠ row) :
    Sees w' k a n c xs := by
  refine ⟨h.len, h.le, h.top, h.wf, h.nil, ?_⟩
  rcases h.row with h0 | ⟨b, off, ha, hc⟩
  · exact .inl h0
  · refine .inr ⟨b, off, ha, fun i hi => ?_⟩
    rw [World.cell?_of_block (hg.block b (World.block_lt_of_cell? W _ (hc i hi)) (hne b off ha))]
    exact hc i hi
theorem apart_rows {k : IntKind} {e : TypeId} {w1 w2 w3 w4 : World} {p2 p4 : Option Addr} {n2 c2 n4 c4 : Nat} {z2 z4 : List Int} (G2 : Grows k e w1 w2 (.slice p2 n2 c2) z2) (hle : w2.heap.size ≤ w3.heap.size)
    (G4 : Grows k e w3 w4 (.slice p4 n4 c4) z4) : ∀ b off, p4 = some ⟨b, off, .none⟩ → some b ≠ (Value.slice p2 n2 c2).ownBlock := by
  intro b off h4 he
  subst h4
  have h2 := G2.own.lt b he.symm
  have h5 := G4.own.lt b rfl
  omega

/-- make([]T, n): a new row of zeros. -/
theorem wp_make {P : Program} {W : World} {ops : Array Oper} {rest : List Oper} {o : Oper} {a : Act} {Q : Exit → Act → World → Prop} (hgd : o.guard = .none) (l cc : Operand) (t : TypeId)
    (ho : o.op = Op.makeSlice t l cc) (k : IntKind) (e : TypeId) (ht : P.underlying t = some (.slice e))
    (hinfo : (P.info? e).map (fun i => (i.zero, i.size, i.bytes)) = some (some (.int k 0), 1, 8)) (w : World) (hb : Below w.heap.size w W) (kl kc : IntKind) (L C : Int) (n : Nat)
    (hl : a.eval l = .int kl L) (hc : a.eval cc = .int kc C) (hL : L = (n : Int)) (hC : C = (n : Int)) (hn : n ≤ 17592186044416)
    (h : ∀ w', Grows k e w w' (.slice (some ⟨W.heap.size, 0, .none⟩) n n) (List.replicate n 0) → wpList P ops Q rest (a.put o.dst (.slice (some ⟨W.heap.size, 0, .none⟩) n n)) w') : wpList P ops Q (o :: rest) a W := by
  obtain ⟨i0, hi, hz0, hz1, hz2⟩ := info_parts hinfo
  refine wpList_make_full W hgd l cc t ho w.heap.size e i0 (.int k 0) 1 ht hi hz0 hz1 kl kc L C n hl hc hL hC (by rw [hz2]; omega) (by unfold maxLen; omega) hb.size ?_
  intro w' h1 h2
  refine h w' ⟨?_, hb.grown h2 hb.size (fun g hg => by simp at hg)⟩
  rw [List.length_replicate]
  have e1 : (madeCells (Value.int k 0).cells (n * 1)).toList = (List.replicate n (0 : Int)).map (Value.int k) := by
    have f : (fun x : Nat => ([Value.int k 0][x % 1]?).getD default) = fun _ => Value.int k 0 := by
      funext x
      rw [Nat.mod_one]
      rfl
    rw [List.map_replicate, Nat.mul_one]
    simp [madeCells, Value.cells, f, List.map_const']
  rw [← e1]
  exact h1

/-- The same, the zeros told by a variable: for a great number written out, which the walk's simp would lay open as a list. -/
theorem wp_makeX {P : Program} {W : World} {ops : Array Oper} {rest : List Oper} {o : Oper} {a : Act} {Q : Exit → Act → World → Prop} (hgd : o.guard = .none) (l cc : Operand) (t : TypeId)
    (ho : o.op = Op.makeSlice t l cc) (k : IntKind) (e : TypeId) (ht : P.underlying t = some (.slice e))
    (hinfo : (P.info? e).map (fun i => (i.zero, i.size, i.bytes)) = some (some (.int k 0), 1, 8)) (w : World) (hb : Below w.heap.size w W) (kl kc : IntKind) (L C : Int) (n : Nat)
    (hl : a.eval l = .int kl L) (hc : a.eval cc = .int kc C) (hL : L = (n : Int)) (hC : C = (n : Int)) (hn : n ≤ 17592186044416) (xs : List Int) (hxs : List.replicate n 0 = xs)
    (h : ∀ w', Grows k e w w' (.slice (some ⟨W.heap.size, 0, .none⟩) n n) xs → wpList P ops Q rest (a.put o.dst (.slice (some ⟨W.heap.size, 0, .none⟩) n n)) w') : wpList P ops Q (o :: rest) a W := by
  subst hxs
  exact wp_make hgd l cc t ho k e ht hinfo w hb kl kc L C n hl hc hL hC hn h

/-- copy(d, s): d is a part, from off on, of the call's own list; s any slice. -/
theorem wp_copy {P : Program} {W : World} {ops : Array Oper} {rest : List Oper} {o : Oper} {a : Act} {Q : Exit → Act → World → Prop} (hgd : o.guard = .none) (d s : Operand) (t : TypeId)
    (ho : o.op = .call { callee := .builtin .copy, args := #[d, s], argTypes := #[t, t] }) (k : IntKind) (e : TypeId) (ht : P.underlying t = some (.slice e)) (hsz : (P.info? e).map (·.size) = some 1)
    (w : World) (g N cap : Nat) (zs : List Int) (hown : Grows k e w W (.slice (some ⟨g, 0, .none⟩) N cap) zs)
    (dp sp : Option Addr) (dLen dCap sLen sCap : Nat) (ys : List Int) (hd : a.eval d = .slice dp dLen dCap) (hs : a.eval s = .slice sp sLen sCap) (vy : Sees W k sp sLen sCap ys) (off : Nat)
    (hdp : 0 < Nat.min sLen dLen → dp = some ⟨g, off, .none⟩) (hfit : off + Nat.min sLen dLen ≤ zs.length)
    (h : ∀ w', Grows k e w w' (.slice (some ⟨g, 0, .none⟩) N cap) (zs.take off ++ (ys.take (Nat.min sLen dLen) ++ zs.drop (off + Nat.min sLen dLen))) → wpList P ops Q rest (a.put o.dst (goInt (Nat.min sLen dLen))) w') :
    wpList P ops Q (o :: rest) a W := by
  rcases hown.own.2 with ⟨hv, _⟩ | ⟨g', cap', cur, hv, hg, hh, hle, hm, hs', hx⟩
  · simp at hv
  simp only [Value.slice.injEq, Option.some.injEq, Addr.mk.injEq, and_true] at hv
  obtain ⟨rfl, rfl, rfl⟩ := hv
  have hyl := vy.len
  have hcl : (ys.take (Nat.min sLen dLen)).length = Nat.min sLen dLen := by
    rw [List.length_take, hyl]
    exact Nat.min_eq_left (Nat.min_le_left _ _)
  have hcl2 : cur.toList.length = cur.size := Array.length_toList
  have hcur : zs.length * 1 ≤ cur.toList.length := by omega
  refine wpList_copy_splice hgd d s t t ho e ht hsz dp sp dLen dCap sLen sCap hd hs g off cur.toList e hh ((ys.take (Nat.min sLen dLen)).map (Value.int k)) (by rw [List.length_map, hcl])
    ?_ (by rw [List.length_map, hcl]; omega) (one_cells _ _) w.heap.size w hown.below hg ?_
  · intro hp
    rw [List.length_map, hcl] at hp
    obtain ⟨b, off', hsp⟩ := vy.lies (Nat.lt_of_lt_of_le hp (Nat.min_le_left _ _))
    refine ⟨hdp hp, _, hsp, ?_⟩
    intro j u hj
    subst hsp
    apply cells_news vy
    rw [List.getElem?_map] at hj ⊢
    rw [List.getElem?_take] at hj
    split at hj
    · exact hj
    · simp at hj
  · intro w' hg' hb'
    rw [List.length_map, hcl]
    refine h w' ⟨?_, hb'⟩
    have e1 : (zs.take off ++ (ys.take (Nat.min sLen dLen) ++ zs.drop (off + Nat.min sLen dLen))).length = zs.length := by
      rw [List.length_append, List.length_append, hcl, List.length_take, List.length_drop]
      omega
    rw [e1]
    refine ⟨by rw [List.length_map, e1, Nat.mul_one], .inr ⟨g, cap, _, rfl, hg, hg'.out, hle, hm, ?_, ?_⟩⟩
    · simp only [splice, List.size_toArray, List.length_append, List.length_take, List.length_drop, List.length_map, hcl]
      omega
    · have hz : cur.toList.take (zs.length * 1) = zs.map (Value.int k) := hx
      rw [Nat.mul_one] at hz hcur ⊢
      simp only [splice, List.length_map, hcl]
      rw [← List.take_append_drop zs.length cur.toList, hz]
      have l1 : (zs.map (Value.int k)).length = zs.length := List.length_map ..
      have a1 : (zs.map (Value.int k) ++ cur.toList.drop zs.length).take off = (zs.map (Value.int k)).take off := List.take_append_of_le_length (by rw [l1]; omega)
      have a2 : (zs.map (Value.int k) ++ cur.toList.drop zs.length).drop (off + Nat.min sLen dLen) = (zs.map (Value.int k)).drop (off + Nat.min sLen dLen) ++ cur.toList.drop zs.length :=
        List.drop_append_of_le_length (by rw [l1]; omega)
      rw [a1, a2, ← List.append_assoc, ← List.append_assoc, List.take_left' (by
        rw [List.length_append, List.length_append, List.length_take, List.length_drop, List.length_map, List.length_map, hcl]
        omega)]
      simp only [List.map_append, List.map_take, List.map_drop, List.append_assoc]
end Go.Proofs.YtepiiiekcmbpaaaDoor.Sl
