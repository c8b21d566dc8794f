/-
  Contracts of ballastref06: Check, Written, Write, Read.
-/
import Derived.Test.YtepiiiekcmbpaaaDoorSbc
import Derived.Test.YtepiiiekcmbpaaaDoorSur
import Derived.LoopN
import Derived.Handy
import Derived.IntWalk
namespace Go.Proofs.YtepiiiekcmbpaaaDoor.Sb
open Go.RowKit Go.Proofs.YtepiiiekcmbpaaaDoor.Sl Go.Proofs.YtepiiiekcmbpaaaDoor.St Go.Proofs.YtepiiiekcmbpaaaDoor.Bits Go.Proofs.YtepiiiekcmbpaaaDoor.Wd Go.Proofs.YtepiiiekcmbpaaaDoor.Su Go.Proofs.YtepiiiekcmbpaaaDoor.Ir
set_option maxRecDepth 100000

theorem rcheck6_any (W T : Int) (w : World) (hT : I64 T) :
    Calls Tryd.prog 21 #[.agg #[.int .i64 W, .int .i64 T]] w fun e w' => e = .returned (.int .i64 (badE W T)) ∧ Below w.heap.size w w' := by
  obtain ⟨ht1, ht2⟩ := hT
  have hc : ¬ Img W ∨ (Img W ∧ T < 0) ∨ (Img W ∧ 0 ≤ T ∧ 8 < T) ∨ (Img W ∧ 0 ≤ T ∧ T ≤ 8) := by
    by_cases hh : Img W
    · simp only [hh, true_and, not_true_eq_false, false_or]
      omega
    · exact .inl hh
  rcases hc with h | ⟨h, h1⟩ | ⟨h, h1, h2⟩ | ⟨h, h1, h2⟩
  · have E := Lib.hid (bad_no (show ¬ IsSb W T from fun hh => h hh.1))
    go_enter Tryd.func21, Tryd.ntmps21
    go_wp2_with fail
    refine (size_no W _ h).mono ?_
    rintro e w1 ⟨rfl, rfl⟩
    go_wp2_with fail
    all_goals first | (exfalso; omega) | skip
    go_ret
    rw [E.out]
    exact ⟨rfl, below_new (Below.refl _ _)⟩
  · have E := Lib.hid (bad_no (show ¬ IsSb W T from fun hh => by have := hh.2; omega))
    go_enter Tryd.func21, Tryd.ntmps21
    go_wp2_with fail
    refine (size_yes W _ h).mono ?_
    rintro e w1 ⟨rfl, rfl⟩
    go_wp2_with fail
    all_goals first | (exfalso; omega) | skip
    go_ret
    rw [E.out]
    exact ⟨rfl, below_new (Below.refl _ _)⟩
  · have E := Lib.hid (bad_no (show ¬ IsSb W T from fun hh => by have := hh.2; omega))
    go_enter Tryd.func21, Tryd.ntmps21
    go_wp2_with fail
    refine (size_yes W _ h).mono ?_
    rintro e w1 ⟨rfl, rfl⟩
    go_wp2_with fail
    all_goals first | (exfalso; omega) | skip
    go_ret
    rw [E.out]
    exact ⟨rfl, below_new (Below.refl _ _)⟩
  · have E := Lib.hid (bad_ok (show IsSb W T from ⟨h, h1, h2⟩))
    go_enter Tryd.func21, Tryd.ntmps21
    go_wp2_with fail
    refine (size_yes W _ h).mono ?_
    rintro e w1 ⟨rfl, rfl⟩
    go_wp2_with fail
    all_goals first | (exfalso; omega) | skip
    go_ret
    rw [E.out]
    exact ⟨rfl, below_new (Below.refl _ _)⟩
theorem head_wf {W T : Int} (h : IsSb W T) : ∀ x ∈ headI W T, (Lit.int .u64 x).wf = true := fun x hx => words_wf h x (by
  unfold headI at hx
  unfold wordsI
  simp only [List.mem_cons, List.not_mem_nil, or_false] at hx ⊢
  omega)
/-- A literal list. -/
theorem grows_lit (k : IntKind) (e : TypeId) {w W : World} (hb : Below w.heap.size w W) (xs : List Int) (cs : Array Value) (n : Nat) (hcs : cs.toList = xs.map (Value.int k)) (hn : xs.length = n) (hm : n ≤ maxLen) :
    Grows k e w (W.alloc (.cells cs e)) (.slice (some ⟨W.heap.size, 0, none⟩) n n) xs := by
  subst hn
  have h := World.ownsRow_lit (base := w.heap.size) (size := 1) (e := e) W cs xs.length hb.size hm (by rw [← Array.length_toList, hcs, List.length_map, Nat.mul_one])
  rw [hcs] at h
  exact ⟨h, hb.alloc hb.size _⟩
/-- What a grown list is read as. -/
theorem grows_look {k : IntKind} {e : TypeId} {w W : World} {a : Option Addr} {n c : Nat} {xs : List Int} (h : Grows k e w W (.slice a n c) xs) (hw : ∀ x ∈ xs, (Lit.int k x).wf = true) (hn : xs.length ≤ 17592186044416) : Sees W k a n c xs := by
  obtain ⟨a1, c1, e1, S1⟩ := h.sees hw hn
  injection e1 with e1 e2 e3
  subst e1 e2 e3
  exact S1
theorem grows_nilB (k : IntKind) (e : TypeId) {w W : World} (hb : Below w.heap.size w W) : Grows k e w W (.slice .none 0 0) [] := ⟨World.ownsRow_nil _ _ _ _, hb⟩
/-- A list made later is one made since. -/
theorem made_then {k : IntKind} {e : TypeId} {w w1 w2 : World} {xs : List Int} {a : Option Addr} {c : Nat} (M : Made k e w1 xs a c w2) (C : Below w.heap.size w w1) : Made k e w xs a c w2 :=
  ⟨owns_mono M.1 C.size, below_then C M.2⟩
theorem written_any (W T : Int) (w : World) (h : IsSb W T) :
    Calls Tryd.prog 32 #[.agg #[.int .i64 W, .int .i64 T]] w (GivesList .u64 47 w (wordsI W T)) := by
  have hb := good_bd h
  have B1 := below_new (o := .cells #[.int .i64 W, .int .i64 T] 26) (Below.refl w.heap.size w)
  have G0 := grows_lit .u64 47 B1 (headI W T) #[.int .u64 32777959566500194, .int .u64 1, .int .u64 W, .int .u64 T, .int .u64 0, .int .u64 0, .int .u64 0] 7 rfl rfl (by decide)
  have S1 := grows_look G0 (head_wf h) (by unfold headI; simp)
  have hsz : (w.alloc (.cells #[.int .i64 W, .int .i64 T] 26)).heap.size = w.heap.size + 1 := by simp
  rw [hsz] at G0 S1
  go_enter Tryd.func32, Tryd.ntmps32
  go_wp2_with fail
  refine (rsum_any _ _ _ _ _ S1).mono ?_
  rintro e w2 ⟨rfl, b2⟩
  have wk : (Lit.int .u64 (sumS W T)).wf = true := wf_word (sum_bd W T)
  have G2 := (G0.keep b2).keep (below_new (o := .cells #[.int .u64 (sumS W T)] 47) (Below.refl _ _))
  go_wp2_with (at_builtin; refine wp_append rfl (.tmp 11) (.tmp 14) 22 rfl .u64 47 Tryd.underlying22 info_word w _ (headI W T) rfl G2 _ 1 1 [sumS W T] rfl (sees_one w2 .u64 47 (sumS W T) wk) (by unfold headI; simp) ?_)
  intro v3 w3 G3
  go_wp2
  go_ret
  exact gives_list G3
/-- A number of words, or of types, that is not too great. -/
theorem small_wf {xs : List Int} {i : Nat} (hl : xs.length = 8) (hi : i < 8) (hw : ∀ x ∈ xs, (Lit.int .u64 x).wf = true) : U64 (xs.getD i 0) := by
  have h : xs.getD i 0 ∈ xs := by
    rw [List.getD_eq_getElem?_getD, List.getElem?_eq_getElem (by omega)]
    exact List.getElem_mem _
  have := St.u64_of_wf (hw _ h)
  exact ⟨this.1, this.2⟩
theorem read_great {xs : List Int} (hl : xs.length = 8) (h : 2048 < xs.getD 2 0 ∨ 8 < xs.getD 3 0) : readE xs = 50 ∧ readW xs = 0 ∧ readT xs = 0 := by
  refine read_none hl fun W T hg he => ?_
  subst he
  have hb := good_bd hg
  have e2 : (wordsI W T).getD 2 0 = W := rfl
  have e3 : (wordsI W T).getD 3 0 = T := rfl
  omega
set_option maxHeartbeats 1000000 in
theorem rread6_any (a : Option Addr) (n c : Nat) (xs : List Int) (w : World) (va : Sees w .u64 a n c xs) :
    Calls Tryd.prog 40 #[.slice a n c] w fun e w' => e = .returned (.tuple #[.agg #[.int .i64 (readW xs), .int .i64 (readT xs)], .int .i64 (readE xs)]) ∧ Below w.heap.size w w' := by
  have hlx := va.len
  have htop := va.top
  by_cases h8 : n = 8
  · subst h8
    obtain ⟨b0, o0, rfl⟩ := va.lies (by decide)
    have hr := read_three xs
    have u2 := small_wf (i := 2) hlx (by decide) va.wf
    have u3 := small_wf (i := 3) hlx (by decide) va.wf
    have g2 := @read_great xs hlx
    have V1 := va.keep (below_new (o := .cells #[.int .i64 0, .int .i64 0] 26) (Below.refl w.heap.size w))
    have k2 := V1.at 2 (by decide)
    have k3 := V1.at 3 (by decide)
    have V2 := va.keep (below_new (o := .cells #[.int .i64 0, .int .i64 0] 26) (below_new (o := .cells #[.int .i64 0, .int .i64 0] 26) (Below.refl w.heap.size w)))
    have j2 := V2.at 2 (by decide)
    have j3 := V2.at 3 (by decide)
    have hgx : IsSb (xs.getD 2 0) (xs.getD 3 0) → (readE xs = 0 ↔ xs = wordsI (xs.getD 2 0) (xs.getD 3 0)) := fun hg => by
      unfold readE
      rw [if_neg (show ¬ (xs.length ≠ 8) from fun hh => hh hlx)]
      by_cases hh : xs = wordsI (xs.getD 2 0) (xs.getD 3 0)
      · rw [if_pos ⟨hg, hh⟩]
        exact ⟨fun _ => hh, fun _ => rfl⟩
      · rw [if_neg (fun x => hh x.2)]
        exact ⟨fun x => absurd x (by decide), fun x => absurd x hh⟩
    have hng : ¬ IsSb (xs.getD 2 0) (xs.getD 3 0) → readE xs ≠ 0 := fun hg => by
      unfold readE
      rw [if_neg (show ¬ (xs.length ≠ 8) from fun hh => hh hlx), if_neg (fun x => hg x.1)]
      decide
    have hwz : readE xs = 0 → readW xs = xs.getD 2 0 ∧ readT xs = xs.getD 3 0 := fun hz => by
      unfold readW readT
      rw [if_pos hz, if_pos hz]
      exact ⟨rfl, rfl⟩
    have hno : readE xs ≠ 0 → readE xs = 50 ∧ readW xs = 0 ∧ readT xs = 0 := fun hz => by
      rcases hr with h | h | ⟨_, _, _, _, h, _⟩
      · omega
      · exact h.2
      · exact absurd h hz
    clear hr
    generalize xs.getD 2 0 = p at *
    generalize xs.getD 3 0 = q at *
    have hu2 := u2.1
    have hu2' := u2.2
    have hu3 := u3.1
    have hu3' := u3.2
    rcases (by omega : 1000000 < p ∨ (p ≤ 1000000 ∧ 1000000 < q) ∨ (p ≤ 1000000 ∧ q ≤ 1000000)) with h | ⟨h, h'⟩ | ⟨h, h'⟩
    · obtain ⟨e1, e2, e3⟩ := g2 (by omega)
      replace e1 := Lib.hid e1
      replace e2 := Lib.hid e2
      replace e3 := Lib.hid e3
      clear hgx hng hwz hno g2
      go_enter Tryd.func40, Tryd.ntmps40
      go_wp2_with fail
      all_goals first | (exfalso; omega) | skip
      refine bodyPost_ret (by simp [results, Tryd.results40, go_sem]; try rfl) rfl ?_
      rw [e1.out, e2.out, e3.out]
      refine ⟨rfl, ?_⟩
      repeat' (first | (with_reducible refine Below.setCell ?_ (by simp) _) | (with_reducible refine below_new ?_) | exact Below.refl _ _)
    · obtain ⟨e1, e2, e3⟩ := g2 (by omega)
      replace e1 := Lib.hid e1
      replace e2 := Lib.hid e2
      replace e3 := Lib.hid e3
      clear hgx hng hwz hno g2
      go_enter Tryd.func40, Tryd.ntmps40
      go_wp2_with fail
      all_goals first | (exfalso; omega) | skip
      refine bodyPost_ret (by simp [results, Tryd.results40, go_sem]; try rfl) rfl ?_
      rw [e1.out, e2.out, e3.out]
      refine ⟨rfl, ?_⟩
      repeat' (first | (with_reducible refine Below.setCell ?_ (by simp) _) | (with_reducible refine below_new ?_) | exact Below.refl _ _)
    · go_enter Tryd.func40, Tryd.ntmps40
      go_wp2_with fail
      all_goals first | (exfalso; omega) | skip
      go_region
      have C2 := (below_new (o := .cells #[.int .i64 p, .int .i64 q] 26) (below_new (o := (.cells #[.int .i64 0, .int .i64 0] 26)) (Below.refl w.heap.size w))).drew
      have X1 := ((Box.new w #[.int .i64 0, .int .i64 0] 26).alloc (.cells #[.int .i64 p, .int .i64 q] 26)).drew
      have X2 := (Box.new1 w (.cells #[.int .i64 0, .int .i64 0] 26) #[.int .i64 p, .int .i64 q] 26).drew
      have V3 := va.keep C2
      generalize ((w.alloc (.cells #[.int .i64 0, .int .i64 0] 26)).alloc (.cells #[.int .i64 p, .int .i64 q] 26)).drew = w2 at C2 X1 X2 V3 ⊢
      clear V1 V2 k2 k3 j2 j3
      have x0 : _ = some (Value.int .i64 p) := X2.cell 0
      have x1 : _ = some (Value.int .i64 q) := X2.cell 1
      go_wp2_with fail
      refine (rcheck6_any p q _ ⟨by omega, by omega⟩).mono ?_
      rintro e w3 ⟨rfl, b3⟩
      have C3 := below_then C2 b3
      replace X1 := X1.keep b3
      replace X2 := X2.keep b3
      replace V3 := V3.keep b3
      have hl1 := X1.lt
      clear x0 x1
      have y0 : _ = some (Value.int .i64 0) := X1.cell 0
      have y1 : _ = some (Value.int .i64 0) := X1.cell 1
      have g0 := X1.soft 0
      have g1 := X1.soft 1
      have x0 : _ = some (Value.int .i64 p) := X2.cell 0
      have x1 : _ = some (Value.int .i64 q) := X2.cell 1
      by_cases hg : IsSb p q
      · have E := Lib.hid (bad_ok hg)
        rw [E.out]
        go_wp2_with fail
        refine (written_any p q _ hg).mono ?_
        rintro e w4 ⟨a4, c4, rfl, M4⟩
        have S4 := M4.sees (words_wf hg) (by rw [words_len]; decide)
        have C4 := below_then C3 M4.2
        replace X1 := X1.keep M4.2
        replace X2 := X2.keep M4.2
        replace V3 := V3.keep M4.2
        go_wp2_with fail
        refine (same_any _ _ _ _ _ _ _ _ _ S4 V3).mono ?_
        rintro e w5 ⟨rfl, j5, rfl⟩
        replace X1 := X1.draws j5
        replace X2 := X2.draws j5
        have C5 := below_drewN C4 j5
        generalize w4.drewN j5 = w5 at X1 X2 C5 ⊢
        clear x0 x1 y0 y1 g0 g1 hl1
        have hl1 := X1.lt
        have y0 : _ = some (Value.int .i64 0) := X1.cell 0
        have y1 : _ = some (Value.int .i64 0) := X1.cell 1
        have g0 := X1.soft 0
        have g1 := X1.soft 1
        have x0 : _ = some (Value.int .i64 p) := X2.cell 0
        have x1 : _ = some (Value.int .i64 q) := X2.cell 1
        by_cases he : wordsI p q = xs
        · have hd := decide_eq_true he
          have hz := (hgx hg).2 he.symm
          obtain ⟨hw1, hw2⟩ := hwz hz
          have hd' := Lib.hid hd
          replace hz := Lib.hid hz
          replace hw1 := Lib.hid hw1
          replace hw2 := Lib.hid hw2
          rw [hd'.out]
          clear hgx hng hwz hno he hd g2
          go_wp2_with fail
          refine bodyPost_ret (by simp [results, Tryd.results40, go_sem, y0, y1]; try rfl) rfl ?_
          rw [hz.out, hw1.out, hw2.out]
          refine ⟨rfl, ?_⟩
          repeat' (first | (with_reducible refine Below.setCell ?_ (by simp) _) | with_reducible exact C3 | with_reducible exact C4 | with_reducible exact C5)
        · have hd' := Lib.hid (decide_eq_false he)
          obtain ⟨e1, e2, e3⟩ := hno (fun hz => he ((hgx hg).1 hz).symm)
          replace e1 := Lib.hid e1
          replace e2 := Lib.hid e2
          replace e3 := Lib.hid e3
          rw [hd'.out]
          clear hgx hng hwz hno he g2
          go_wp2_with fail
          refine bodyPost_ret (by simp [results, Tryd.results40, go_sem, y0, y1]; try rfl) rfl ?_
          rw [e1.out, e2.out, e3.out]
          refine ⟨rfl, ?_⟩
          repeat' (first | (with_reducible refine Below.setCell ?_ (by simp) _) | with_reducible exact C3 | with_reducible exact C4 | with_reducible exact C5)
      · have E := Lib.hid (bad_no hg)
        rw [E.out]
        obtain ⟨e1, e2, e3⟩ := hno (hng hg)
        replace e1 := Lib.hid e1
        replace e2 := Lib.hid e2
        replace e3 := Lib.hid e3
        clear hgx hng hwz hno hg g2
        go_wp2_with fail
        refine bodyPost_ret (by simp [results, Tryd.results40, go_sem, y0, y1]; try rfl) rfl ?_
        rw [e1.out, e2.out, e3.out]
        refine ⟨rfl, ?_⟩
        repeat' (first | (with_reducible refine Below.setCell ?_ (by simp) _) | with_reducible exact C3 | with_reducible exact C4 | with_reducible exact C5)
  · obtain ⟨e1, e2, e3⟩ := read_arg (xs := xs) (by omega)
    replace e1 := Lib.hid e1
    replace e2 := Lib.hid e2
    replace e3 := Lib.hid e3
    go_enter Tryd.func40, Tryd.ntmps40
    go_wp2_with fail
    all_goals first | (exfalso; omega) | skip
    refine bodyPost_ret (by simp [results, Tryd.results40, go_sem]; try rfl) rfl ?_
    rw [e1.out, e2.out, e3.out]
    refine ⟨rfl, ?_⟩
    repeat' (first | (with_reducible refine Below.setCell ?_ (by simp) _) | (with_reducible refine below_new ?_) | exact Below.refl _ _)
end Go.Proofs.YtepiiiekcmbpaaaDoor.Sb
