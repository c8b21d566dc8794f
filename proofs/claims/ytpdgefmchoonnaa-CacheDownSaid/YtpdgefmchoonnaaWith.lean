/-
  Contract of withDirty: a word is made dirty among those of a list of the call's own.
-/
import Derived.Test.YtpdgefmchoonnaaInsertb
import Derived.Test.YtpdgefmchoonnaaLoad
namespace Go.Proofs.Ytpdgefmchoonnaa.In
open Go.RowKit Go.Lib Go.WideShapes Go.ChangeShapes Go.Proofs.Ytpdgefmchoonnaa.Sl Go.Proofs.Ytpdgefmchoonnaa.St Go.Proofs.Ytpdgefmchoonnaa.Ir Go.Proofs.Ytpdgefmchoonnaa.Dv Go.Proofs.Ytpdgefmchoonnaa.Fd
set_option maxRecDepth 100000
set_option maxHeartbeats 4000000

theorem insert_any (N : Nat) (a : Option Addr) (n c i : Nat) (zs : List Dw) (y : Dw) (B : Nat) (w : World) (hown : w.ownsRow N 44 dw.sz (.slice a n c) zs.length (zs.flatMap dw.cells)) (hn : zs.length = n) (hN : N ≤ w.heap.size)
    (hi : i ≤ n) (hB : Box w B #[.int .i64 y.p, .int .u64 y.v, .bool y.f] 44) (hne : (Value.slice a n c).ownBlock ≠ some B) (hnm : n ≤ 2048) :
    Calls Try.prog 27 #[.slice a n c, .int .i64 i, .slice (some ⟨B, 0, none⟩) 1 1] w (Ins N w (.slice a n c) (zs.take i ++ y :: zs.drop i)) := by
  rcases (by omega : i = n ∨ i < n) with h | h
  · subst h
    have e : zs.take i ++ y :: zs.drop i = zs ++ [y] := by rw [List.take_of_length_le (by omega), List.drop_of_length_le (by omega)]
    rw [e]
    exact insert_end N a i c zs y B w hown hn.symm hN hB (by omega)
  · rcases hown.2 with ⟨hv, h0⟩ | ⟨g, cap, cur, hv, hNg, hg, hle, hm, hs, hx⟩
    · omega
    · injection hv with h1 h2 h3
      subst h1 h3
      have hx' : cur.toList.take (n * 3) = zs.flatMap dw.cells := by rw [← hn]; exact hx
      rw [hn] at hle
      by_cases hc : n + 1 ≤ c
      · exact insert_in N g n c i cur zs y B w hg hNg hn hm hs hx' h hc hB (fun he => hne (by rw [he]; rfl)) hnm
      · exact insert_grow N g n c i cur zs y B w hg hN hn hle hx' h (by omega) hB hnm
theorem ins_found {p v : Int} : ∀ {xs : List Dw}, hasN p xs = true → ins p v xs = xs.set (lowN p xs) ⟨p, v, false⟩
  | x :: xs, h => by
    unfold hasN at h
    unfold ins lowN
    split
    · next h1 =>
      rw [if_pos h1] at h
      rw [ins_found h]
      rfl
    · next h1 =>
      rw [if_neg h1] at h
      rw [if_pos (by simpa using h)]
      rfl
theorem ins_new {p v : Int} : ∀ {xs : List Dw}, hasN p xs = false → ins p v xs = xs.take (lowN p xs) ++ ⟨p, v, false⟩ :: xs.drop (lowN p xs)
  | [], _ => rfl
  | x :: xs, h => by
    unfold hasN at h
    unfold ins lowN
    split
    · next h1 =>
      rw [if_pos h1] at h
      rw [ins_new h]
      rfl
    · next h1 =>
      rw [if_neg h1] at h
      rw [if_neg (by simpa using h)]
      rfl
theorem with_any (N : Nat) (a : Option Addr) (n c : Nat) (xs : List Dw) (M l p u : Int) (w : World) (hown : w.ownsRow N 44 dw.sz (.slice a n c) xs.length (xs.flatMap dw.cells)) (hn : xs.length = n) (hN : N ≤ w.heap.size)
    (hgood : ∀ x ∈ xs, dw.good x) (hok : okDl M l xs = true) (hnm : n ≤ 2048) :
    Calls Try.prog 17 #[.slice a n c, .agg #[.int .i64 p, .int .u64 u, .bool false]] w (Ins N w (.slice a n c) (ins p u xs)) := by
  obtain ⟨a', c', he, VS⟩ := seesR_of_owns (R := dw) hn (hn ▸ hown) hgood (by show n * 3 ≤ _; omega)
  injection he with h1 h2 h3
  subst h1 h3
  have HOK := Lib.hid hok
  have HN := Lib.hid hn
  have hlow := lowN_le p xs
  rw [hn] at hlow
  have B1 : Below w.heap.size w (w.alloc (.cells #[.int .i64 p, .int .u64 u, .bool false] 44)) := below_new (Below.refl _ _)
  have X1 := Box.new w #[.int .i64 p, .int .u64 u, .bool false] 44
  have X1' := X1
  cases hh : hasN p xs
  · have HI := Lib.hid (ins_new (v := u) hh)
    clear hok hn
    go_enter Try.func17, Try.ntmps17
    go_wp2_with fail
    refine (find_any _ _ _ xs M l p _ (VS.keep B1) HOK.out).mono ?_
    rintro e w2 ⟨rfl, b2⟩
    rw [hh]
    have X2 := X1.keep b2
    have t2 := X2.lt
    have x0 := X2.cell 0
    have x1 := X2.cell 1
    have x2 := X2.cell 2
    simp only [List.getElem?_toArray, List.getElem?_cons_zero, List.getElem?_cons_succ] at x0 x1 x2
    have C2 := below_then B1 b2
    have O2 := (owns_kept' hown C2).alloc (.cells #[.int .i64 p, .int .u64 u, .bool false] 44)
    have NB := Box.new w2 #[.int .i64 p, .int .u64 u, .bool false] 44
    go_wp2_with fail
    refine (insert_any N _ _ _ (lowN p xs) xs ⟨p, u, false⟩ w2.heap.size _ O2 HN.out (by have := C2.size; simp; omega) hlow NB (fun hv => by have := ((owns_kept' hown C2).lt _ hv).2; omega) hnm).mono ?_
    rintro e w3 ⟨g, cap, rfl, O3, G3⟩
    go_wp2_with fail
    go_ret
    rw [HI.out]
    exact ⟨g, cap, by simp, O3, but_grown (but_alloc (below_but C2 _) _) G3 (fun j hj => .inl hj)⟩
  · obtain ⟨hk, -, -⟩ := Ca.has_at hh
    have HI := Lib.hid (ins_found (v := u) hh)
    obtain ⟨g, rfl, hg1, hg2⟩ := owns_at0 hown (by omega)
    have HX := Lib.hid (show xs.length = n from hn)
    clear hok hn hlow
    go_enter Try.func17, Try.ntmps17
    go_wp2_with fail
    refine (find_any _ _ _ xs _ _ p _ (VS.keep B1) HOK.out).mono ?_
    rintro e w2 ⟨rfl, b2⟩
    rw [hh]
    have X2 := X1.keep b2
    have t2 := X2.lt
    have x0 := X2.cell 0
    have x1 := X2.cell 1
    have x2 := X2.cell 2
    simp only [List.getElem?_toArray, List.getElem?_cons_zero, List.getElem?_cons_succ] at x0 x1 x2
    have C2 := below_then B1 b2
    have O2 := owns_kept' hown C2
    rw [HX.out] at O2
    have hk' : lowN p xs < n := by rw [← HX.out]; exact hk
    generalize lowN p xs = k at hk hk' HI ⊢
    have c0 : w2.cell? ⟨g, k * 3, none⟩ = some (.int .i64 xs[k].p) := (O2.cellAt (k * 3) (by show _ < n * 3; omega)).trans (dw.flat_at xs k 0 hk (by decide))
    have c1 : w2.cell? ⟨g, k * 3 + 1, none⟩ = some (.int .u64 xs[k].v) := (O2.cellAt (k * 3 + 1) (by show _ < n * 3; omega)).trans (dw.flat_at xs k 1 hk (by decide))
    have c2 : w2.cell? ⟨g, k * 3 + 2, none⟩ = some (.bool xs[k].f) := (O2.cellAt (k * 3 + 2) (by show _ < n * 3; omega)).trans (dw.flat_at xs k 2 hk (by decide))
    have f0 := O2.frozenAt (k * 3)
    have f1 := O2.frozenAt (k * 3 + 1)
    have f2 := O2.frozenAt (k * 3 + 2)
    have Q0 := owns_stored O2 k 0 hk (by decide) (.int .i64 p) ⟨p, xs[k].v, xs[k].f⟩ rfl
    have Q1 := owns_stored Q0 k 1 (by rw [List.length_set]; exact hk) (by decide) (.int .u64 u) ⟨p, u, xs[k].f⟩ (by rw [List.getElem_set_self]; rfl)
    have Q2 := owns_stored Q1 k 2 (by rw [List.length_set, List.length_set]; exact hk) (by decide) (.bool false) ⟨p, u, false⟩ (by rw [List.getElem_set_self]; rfl)
    rw [List.set_set, List.set_set] at Q2
    have GG := but_set (but_set (but_set (below_but C2 (some g)) (p := ⟨g, k * 3, none⟩) (.inl rfl) (.int .i64 p)) (p := ⟨g, k * 3 + 1, none⟩) (.inl rfl) (.int .u64 u)) (p := ⟨g, k * 3 + 2, none⟩) (.inl rfl) (.bool false)
    have HQ := Lib.hid (show (xs.set k ⟨p, u, false⟩).length = n from by rw [List.length_set]; exact HX.out)
    generalize xs[k] = Y at c0 c1 c2
    clear Q0 Q1 O2
    go_wp2_with fail
    go_ret
    rw [HI.out]
    refine ⟨g, c, by rw [HQ.out]; rfl, ?_, GG⟩
    unfold OwnsL
    rw [HQ.out]
    exact Q2
end Go.Proofs.Ytpdgefmchoonnaa.In
