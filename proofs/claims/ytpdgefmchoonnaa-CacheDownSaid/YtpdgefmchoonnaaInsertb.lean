/-
  slices.Insert, continued: its three ways, and withDirty.
-/
import Derived.Test.YtpdgefmchoonnaaInsert
import Derived.Test.YtpdgefmchoonnaaFind
namespace Go.Proofs.Ytpdgefmchoonnaa.In
open Go.RowKit Go.Lib Go.WideShapes Go.ChangeShapes Go.Proofs.Ytpdgefmchoonnaa.Sl Go.Proofs.Ytpdgefmchoonnaa.St Go.Proofs.Ytpdgefmchoonnaa.Ir Go.Proofs.Ytpdgefmchoonnaa.Dv
set_option maxRecDepth 100000
set_option maxHeartbeats 4000000

/-- What inserting returns. -/
def Ins (N : Nat) (w : World) (sv : Value) (xs : List Dw) (e : Ending) (w' : World) : Prop :=
  ∃ g cap, e = .returned (.slice (some ⟨g, 0, none⟩) xs.length cap) ∧ OwnsL dw 44 N w' g cap xs ∧ w.grownBy w' sv.ownBlock
theorem insert_end (N : Nat) (a : Option Addr) (n c : Nat) (zs : List Dw) (y : Dw) (B : Nat) (w : World) (hown : w.ownsRow N 44 dw.sz (.slice a n c) zs.length (zs.flatMap dw.cells)) (hn : n = zs.length) (hN : N ≤ w.heap.size)
    (hB : Box w B #[.int .i64 y.p, .int .u64 y.v, .bool y.f] 44) (hnm : zs.length ≤ 2048) :
    Calls Try.prog 27 #[.slice a n c, .int .i64 n, .slice (some ⟨B, 0, none⟩) 1 1] w (Ins N w (.slice a n c) (zs ++ [y])) := by
  have hr : ∃ r : Value, ∀ w : World, (Instr.slice 23 (.slice a n c) (some (.int .i64 (n : Int))) .none .none).run Try.prog w = .ok r w := by
    rcases hown.2 with ⟨hv, h0⟩ | ⟨g, cap, cur, hv, _, _, hle, _⟩
    · injection hv with h1 h2 h3
      subst h1 h2 h3
      exact ⟨_, run_noneD⟩
    · injection hv with h1 h2 h3
      subst h1 h2 h3
      exact run_endD g 0 _ c hle
  obtain ⟨r, hr⟩ := hr
  have HL := Lib.hid hn
  have hn2 : (n : Int) ≤ 2048 := by omega
  have hz : (zs.length + 1) * dw.sz ≤ 17592186044416 := by simp [dw]; omega
  clear hn hnm
  go_enter Try.func27, Try.ntmps27
  go_wp2_with (at_builtin; refine wpList_appendG rfl (.tmp 23) (.tmp 24) 23 rfl dw 44 Try.underlying23 _ 24 info_dirty rfl (by decide) N (.slice a n c) zs rfl hown hN y B _ rfl hB rfl hz ?_)
  rintro g cap w5 O5 G5 -
  go_wp2_with fail
  go_ret
  exact ⟨g, cap, by simp, O5, G5⟩
/-- Cells of a row from a place on. -/
theorem drop_cells {w : World} {g : Nat} {cur : Array Value} {zs : List Dw} {n i : Nat} (hg : w.heap[g]? = some (.cells cur 44 (0, 0))) (hx : cur.toList.take (n * 3) = zs.flatMap dw.cells) (hn : zs.length = n) (hi : i ≤ n) :
    ∀ j v, ((zs.drop i).flatMap dw.cells)[j]? = some v → w.cell? ((⟨g, i * 3, none⟩ : Addr).add j) = some v := by
  intro j v h
  have e : zs.flatMap dw.cells = (zs.take i).flatMap dw.cells ++ (zs.drop i).flatMap dw.cells := by rw [← List.flatMap_append, List.take_append_drop]
  have l : ((zs.take i).flatMap dw.cells).length = i * 3 := by rw [dw.flat_len, List.length_take, Nat.min_eq_left (by omega)]; rfl
  have h1 : (zs.flatMap dw.cells)[i * 3 + j]? = some v := by rw [e, List.getElem?_append_right (by omega), l, Nat.add_sub_cancel_left]; exact h
  rw [← hx, List.getElem?_take] at h1
  split at h1
  · rw [add_plain]
    simp [World.cell?, hg]
    simpa using h1
  · cases h1
theorem one_cell3 {w : World} {B : Nat} {y : Dw} (hB : Box w B #[.int .i64 y.p, .int .u64 y.v, .bool y.f] 44) : ∀ j v, (dw.cells y)[j]? = some v → w.cell? ((⟨B, 0, none⟩ : Addr).add j) = some v := by
  intro j v h
  rw [add_plain, Nat.zero_add, hB.cell j]
  simpa [dw] using h
theorem len_ins (zs : List Dw) (i : Nat) (y : Dw) : (zs.take i ++ y :: zs.drop i).length = zs.length + 1 := by
  simp
  omega
/-- In place. -/
theorem insert_in (N g n c i : Nat) (cur : Array Value) (zs : List Dw) (y : Dw) (B : Nat) (w : World) (hg : w.heap[g]? = some (.cells cur 44 (0, 0))) (hNg : N ≤ g) (hn : zs.length = n) (hm : c ≤ maxLen) (hs : cur.size = c * 3)
    (hx : cur.toList.take (n * 3) = zs.flatMap dw.cells) (hi : i < n) (hc : n + 1 ≤ c) (hB : Box w B #[.int .i64 y.p, .int .u64 y.v, .bool y.f] 44) (hBg : B ≠ g) (hnm : n ≤ 2048) :
    Calls Try.prog 27 #[.slice (some ⟨g, 0, none⟩) n c, .int .i64 i, .slice (some ⟨B, 0, none⟩) 1 1] w (Ins N w (.slice (some ⟨g, 0, none⟩) n c) (zs.take i ++ y :: zs.drop i)) := by
  have hc63 : c ≤ 9223372036854775807 := by unfold maxLen at hm; omega
  obtain ⟨m1, hm1⟩ : ∃ m1, m1 = n + 1 := ⟨_, rfl⟩
  obtain ⟨o1, ho1⟩ : ∃ o1, o1 = (i + 1) * 3 := ⟨_, rfl⟩
  obtain ⟨o0, ho0⟩ : ∃ o0, o0 = i * 3 := ⟨_, rfl⟩
  obtain ⟨l1, hl1⟩ : ∃ l1, l1 = m1 - (i + 1) := ⟨_, rfl⟩
  obtain ⟨l0, hl0⟩ : ∃ l0, l0 = m1 - i := ⟨_, rfl⟩
  obtain ⟨k1, hk1⟩ : ∃ k1, k1 = c - (i + 1) := ⟨_, rfl⟩
  obtain ⟨k0, hk0⟩ : ∃ k0, k0 = c - i := ⟨_, rfl⟩
  have s1 : ∀ w, (Instr.slice 23 (.slice (some ⟨g, 0, none⟩) m1 c) (some (.int .i64 ((i : Int) + 1))) none none).run Try.prog w = .ok (.slice (some ⟨g, o1, none⟩) l1 k1) w := fun w => by
    rw [run_fromD g 0 m1 c (i + 1) _ (by omega) (by omega) (by omega), ho1, hl1, hk1, Nat.zero_add]
  have s0 : ∀ w, (Instr.slice 23 (.slice (some ⟨g, 0, none⟩) m1 c) (some (.int .i64 (i : Int))) none none).run Try.prog w = .ok (.slice (some ⟨g, o0, none⟩) l0 k0) w := fun w => by
    rw [run_fromD g 0 m1 c i _ rfl (by omega) (by omega), ho0, hl0, hk0, Nat.zero_add]
  have s2 : ∃ r : Value, ∀ w, (Instr.slice 23 (.slice (some ⟨g, 0, none⟩) n c) (some (.int .i64 (i : Int))) none none).run Try.prog w = .ok r w := ⟨_, fun w => run_fromD g 0 n c i _ rfl (by omega) (by omega) w⟩
  obtain ⟨r2, s2⟩ := s2
  have s3 : ∀ w, (Instr.slice 23 (.slice (some ⟨g, 0, none⟩) n c) none (some (.int .i64 ((n : Int) + 1))) none).run Try.prog w = .ok (.slice (some ⟨g, 0, none⟩) m1 c) w := fun w => run_uptoD g 0 n c m1 _ (by omega) (by omega) w
  have hov : (callFunc 35 #[.slice (some ⟨B, 0, none⟩) 1 1, .slice (some ⟨g, o1, none⟩) l1 k1]).run Try.prog w = .ok (.value (.bool false)) w := by
    have hb' := hB
    unfold Box at hb'
    rw [run_callFunc_extern Try.func35 (by kernel_rfl) (by kernel_rfl) (by kernel_rfl) (e := Extern.SlicesOverlaps.overlaps #[23, 23] #[4]) (by kernel_rfl),
      Lib.run_overlaps_apart w 23 4 44 Try.underlying23 3 Try.sizeOf44 ⟨B, 0, none⟩ ⟨g, o1, none⟩ 1 1 l1 k1 hBg 44 44 3 cur.size (by simp [World.shape?, hb']) (by simp [World.shape?, hg]) (by omega)
        (by simp [World.frozen?, hb']) (by simp [World.frozen?, hb'])]
    rfl
  have lC : ((zs.drop i).flatMap dw.cells).length = l1 * dw.sz := by
    rw [dw.flat_len, List.length_drop]
    have : zs.length - i = l1 := by omega
    rw [this]
  have lA : ((zs.take i).flatMap dw.cells).length = o0 := by
    rw [dw.flat_len, List.length_take, Nat.min_eq_left (by omega)]
    exact ho0.symm
  have hd : ∀ j v, ((zs.drop i).flatMap dw.cells)[j]? = some v → w.cell? ((⟨g, o0, none⟩ : Addr).add j) = some v := by
    rw [ho0]
    exact drop_cells hg hx hn (by omega)
  have h3 : dw.sz = 3 := rfl
  have hfit1 : o1 + ((zs.drop i).flatMap dw.cells).length ≤ cur.size := by
    rw [lC, h3]
    omega
  have hmin1 : Nat.min l0 l1 = l1 := Nat.min_eq_right (by omega)
  have hmin0 : Nat.min 1 l0 = 1 := Nat.min_eq_left (by omega)
  have hE := splice_in cur.toList ((zs.take i).flatMap dw.cells) (dw.cells y) ((zs.drop i).flatMap dw.cells) (by
    rw [← List.length_append, ← List.flatMap_append, List.take_append_drop, dw.flat_len, hn]
    exact hx) (by
    rw [lA, lC, dw.len, h3, Array.length_toList]
    omega)
  have o1e : o0 + 3 = o1 := by omega
  rw [lA, dw.len, h3, o1e, lC, h3] at hE
  have hT : o0 + (3 + l1 * 3) = (n + 1) * 3 := by omega
  rw [hT] at hE
  have hS : (splice (splice cur.toList o1 ((zs.drop i).flatMap dw.cells)) o0 (dw.cells y)).length = c * 3 := by
    rw [length_splice _ _ _ (by rw [length_splice _ _ _ (by rw [Array.length_toList]; exact hfit1), dw.len, h3, Array.length_toList]; omega), length_splice _ _ _ (by rw [Array.length_toList]; exact hfit1), Array.length_toList, hs]
  have hfit2 : o0 + (dw.cells y).length ≤ (splice cur.toList o1 ((zs.drop i).flatMap dw.cells)).length := by
    rw [length_splice _ _ _ (by rw [Array.length_toList]; exact hfit1), dw.len, h3, Array.length_toList]
    omega
  have HE := Lib.hid hE
  have HS := Lib.hid hS
  have HF1 := Lib.hid hfit1
  have HF2 := Lib.hid hfit2
  have LC := Lib.hid lC
  have HD := Lib.hid hd
  have HN := Lib.hid hn
  have HX := Lib.hid hx
  have M1 := Lib.hid hmin1
  have M0 := Lib.hid hmin0
  have HG := Lib.hid hg
  have HCS := Lib.hid hs
  have M1E := Lib.hid (show m1 = (zs.take i ++ y :: zs.drop i).length from by rw [len_ins]; omega)
  have HM := Lib.hid hm
  have H7 := Lib.hid (show n + 1 = zs.length + 1 ∧ zs.length + 1 ≤ c from ⟨by omega, by omega⟩)
  have hw1 : IntKind.i64.wrap ((i : Int) + 1) = (i : Int) + 1 := by rw [IntKind.wrap_i64]; omega
  have hb1 : (i : Int) < (n : Int) := by omega
  have hb2 : (n : Int) + 1 ≤ (c : Int) := by omega
  have hb3 : (n : Int) ≤ 2048 := by omega
  clear hE hS hfit1 hfit2 lC lA hd hn hx hmin1 hmin0 hg hs o1e hT hm1 ho1 ho0 hl1 hl0 hk1 hk0 hm hi hc hnm
  go_enter Try.func27, Try.ntmps27
  go_wp2_with (simp only [hov])
  go_region_law (refine step_copyR rfl (.tmp 73) (.tmp 76) 23 rfl 44 dw.sz Try.underlying23 size_dirty g o1 l1 k1 ⟨g, o0, none⟩ l0 k0 (by simp [Act.eval, Act.put]) (by simp [Act.eval, Act.put]) cur 44 HG.out ((zs.drop i).flatMap dw.cells) l1 M1.out LC.out HD.out HF1.out (one_cellsR dw _) ?_; intro w1 H1 G1)
  all_goals
    have HB1 := (hB.drew).grown G1 (by intro he; injection he with he; exact hBg he.symm)
    go_wp2_with (refine wpList_copyR rfl (.tmp 80) (.tmp 81) 23 rfl 44 dw.sz Try.underlying23 size_dirty g o0 l0 k0 ⟨B, 0, none⟩ 1 1 rfl rfl _ 44 H1.out (dw.cells y) 1 M0.out rfl (one_cell3 HB1) (by simpa using HF2.out) (dw.one y) ?_)
    intro w2 H2 G2
    go_wp2_with fail
    go_ret
    have h2 := H2.out
    rw [M1E.out]
    refine ⟨g, c, rfl, ?_, but_grown (but_grown (but_drew (but_refl w _)) G1 (fun j hj => .inl hj)) G2 (fun j hj => .inl hj)⟩
    refine ⟨dw.flat_len _, .inr ⟨g, c, _, rfl, hNg, h2, ?_, HM.out, ?_, ?_⟩⟩
    · rw [len_ins]
      exact H7.out.2
    · have h4 := HS.out
      rw [h3]
      simpa using h4
    · have h4 := HE.out
      rw [len_ins, List.flatMap_append, List.flatMap_cons, ← h4, H7.out.1]
      simp [h3]
/-- Into a new row. -/
theorem insert_grow (N g n c i : Nat) (cur : Array Value) (zs : List Dw) (y : Dw) (B : Nat) (w : World) (hg : w.heap[g]? = some (.cells cur 44 (0, 0))) (hN : N ≤ w.heap.size) (hn : zs.length = n) (hle : n ≤ c)
    (hx : cur.toList.take (n * 3) = zs.flatMap dw.cells) (hi : i < n) (hc : c < n + 1) (hB : Box w B #[.int .i64 y.p, .int .u64 y.v, .bool y.f] 44) (hnm : n ≤ 2048) :
    Calls Try.prog 27 #[.slice (some ⟨g, 0, none⟩) n c, .int .i64 i, .slice (some ⟨B, 0, none⟩) 1 1] w (Ins N w (.slice (some ⟨g, 0, none⟩) n c) (zs.take i ++ y :: zs.drop i)) := by
  obtain rfl : c = n := by omega
  have h3 : dw.sz = 3 := rfl
  have hgw : g < w.heap.size := (Array.getElem?_eq_some_iff.1 hg).1
  obtain ⟨i0, hi0, hz0, hzs, hzb⟩ := info_parts info_dirty
  have lA : ((zs.take i).flatMap dw.cells).length = i * 3 := by
    rw [dw.flat_len, List.length_take, Nat.min_eq_left (by omega)]
    rfl
  have hAcells : ∀ j v, ((zs.take i).flatMap dw.cells)[j]? = some v → w.cell? ((⟨g, 0, none⟩ : Addr).add j) = some v := by
    intro j v h
    have e : zs.flatMap dw.cells = (zs.take i).flatMap dw.cells ++ (zs.drop i).flatMap dw.cells := by rw [← List.flatMap_append, List.take_append_drop]
    have hj : j < ((zs.take i).flatMap dw.cells).length := (List.getElem?_eq_some_iff.1 h).1
    have h1 : (zs.flatMap dw.cells)[j]? = some v := by rw [e, List.getElem?_append_left hj]; exact h
    rw [← hx, List.getElem?_take] at h1
    split at h1
    · rw [add_plain]
      simp [World.cell?, hg]
      simpa using h1
    · cases h1
  have hold : (Builtin.firstCells i0.size i (.slice (some ⟨g, 0, none⟩) i c)).run Try.prog w.drew = .ok ((zs.take i).flatMap dw.cells).toArray w.drew := by
    rw [hzs]
    exact run_firstCells_some w.drew dw.sz i ⟨g, 0, none⟩ i c ((zs.take i).flatMap dw.cells) (by rw [lA, h3]) hAcells
  obtain ⟨z, hz⟩ : ∃ z : Value, z = .agg #[.int .i64 0, .int .u64 0, .bool false] := ⟨_, rfl⟩
  rw [← hz] at hz0
  have hzc : z.cells.size = 3 := by rw [hz]; rfl
  obtain ⟨G, hG⟩ : ∃ G, G = grownCap w (c + 1) c 44 := ⟨_, rfl⟩
  obtain ⟨ROW, hROW⟩ : ∃ ROW : Array Value, ROW = ((zs.take i).flatMap dw.cells).toArray ++ Builtin.zeroCells z.cells (c + 1 - i) ++ Builtin.zeroCells z.cells (G - (c + 1)) := ⟨_, rfl⟩
  have hik : i + (c + 1 - i) = c + 1 := by omega
  have hrz : ∀ ty, (Builtin.append_ #[23, 3] ty #[.slice (some ⟨g, 0, none⟩) i c, .int .i64 ((c : Int) + 1 - (i : Int))]).run Try.prog w =
      .ok (.slice (some ⟨w.heap.size, 0, none⟩) (c + 1) G) (w.drew.alloc (.cells ROW 44)) := fun ty => by
    have h := Lib.run_append_grow_zeros w 23 3 ty 44 i0 z .i64 .i64 Try.underlying23 Try.underlying3 hi0 hz0 (some ⟨g, 0, none⟩) i c ((zs.take i).flatMap dw.cells) hold (c + 1 - i) (by omega) (by omega) (by omega) (by omega) (by rw [hzb]; omega) (by rw [hzb, hik]; exact growslice_fits (by omega) (by omega))
    rw [hik, ← hG] at h
    rw [hROW]
    have e : (c : Int) + 1 - (i : Int) = ((c + 1 - i : Nat) : Int) := by omega
    rw [e]
    exact h
  have hGn : c + 1 ≤ G := by rw [hG]; exact grownCap_ge w _ _ _
  have hGm : G ≤ maxLen := by rw [hG]; exact grownCap_le_maxLen w _ _ _ (by unfold maxLen; omega)
  have hRs : ROW.size = G * 3 := by
    rw [hROW]
    simp [Builtin.zeroCells, hzc, lA]
    omega
  have hRA : ROW.toList.take (i * 3) = (zs.take i).flatMap dw.cells := by
    rw [hROW]
    simp only [Array.toList_append, List.append_assoc]
    rw [List.take_left' lA]
  clear hROW
  obtain ⟨m1, hm1⟩ : ∃ m1, m1 = c + 1 := ⟨_, rfl⟩
  obtain ⟨o1, ho1⟩ : ∃ o1, o1 = (i + 1) * 3 := ⟨_, rfl⟩
  obtain ⟨o0, ho0⟩ : ∃ o0, o0 = i * 3 := ⟨_, rfl⟩
  obtain ⟨l1, hl1⟩ : ∃ l1, l1 = m1 - (i + 1) := ⟨_, rfl⟩
  obtain ⟨l0, hl0⟩ : ∃ l0, l0 = m1 - i := ⟨_, rfl⟩
  obtain ⟨lz, hlz⟩ : ∃ lz, lz = c - i := ⟨_, rfl⟩
  obtain ⟨k1, hk1⟩ : ∃ k1, k1 = G - (i + 1) := ⟨_, rfl⟩
  obtain ⟨k0, hk0⟩ : ∃ k0, k0 = G - i := ⟨_, rfl⟩
  have s1 : ∀ W, (Instr.slice 23 (.slice (some ⟨w.heap.size, 0, none⟩) m1 G) (some (.int .i64 ((i : Int) + 1))) none none).run Try.prog W = .ok (.slice (some ⟨w.heap.size, o1, none⟩) l1 k1) W := fun W => by
    rw [run_fromD w.heap.size 0 m1 G (i + 1) _ (by omega) (by omega) (by omega), ho1, hl1, hk1, Nat.zero_add]
  have s0 : ∀ W, (Instr.slice 23 (.slice (some ⟨w.heap.size, 0, none⟩) m1 G) (some (.int .i64 (i : Int))) none none).run Try.prog W = .ok (.slice (some ⟨w.heap.size, o0, none⟩) l0 k0) W := fun W => by
    rw [run_fromD w.heap.size 0 m1 G i _ rfl (by omega) (by omega), ho0, hl0, hk0, Nat.zero_add]
  have s2 : ∀ W, (Instr.slice 23 (.slice (some ⟨g, 0, none⟩) c c) (some (.int .i64 (i : Int))) none none).run Try.prog W = .ok (.slice (some ⟨g, o0, none⟩) lz lz) W := fun W => by
    rw [run_fromD g 0 c c i _ rfl (by omega) (by omega), ho0, hlz, Nat.zero_add]
  have s3 : ∀ W, (Instr.slice 23 (.slice (some ⟨g, 0, none⟩) c c) none (some (.int .i64 (i : Int))) none).run Try.prog W = .ok (.slice (some ⟨g, 0, none⟩) i c) W := fun W => run_uptoD g 0 c c i _ rfl (by omega) W
  have lC : ((zs.drop i).flatMap dw.cells).length = l1 * dw.sz := by
    rw [dw.flat_len, List.length_drop]
    have : zs.length - i = l1 := by omega
    rw [this]
  have hd : ∀ j v, ((zs.drop i).flatMap dw.cells)[j]? = some v → w.cell? ((⟨g, o0, none⟩ : Addr).add j) = some v := by
    rw [ho0]
    exact drop_cells hg hx hn (by omega)
  have hmin1 : Nat.min lz l1 = l1 := Nat.min_eq_right (by omega)
  have hmin0 : Nat.min 1 l0 = 1 := Nat.min_eq_left (by omega)
  have hE := splice_new ROW.toList ((zs.take i).flatMap dw.cells) (dw.cells y) ((zs.drop i).flatMap dw.cells) (by rw [lA]; exact hRA)
  have o1e : i * 3 + 3 = o1 := by omega
  rw [lA, dw.len, h3, o1e, lC, h3, ← ho0] at hE
  have hT : o0 + (3 + l1 * 3) = (c + 1) * 3 := by omega
  rw [hT] at hE
  have hfit2 : o0 + (dw.cells y).length ≤ ROW.size := by
    rw [dw.len, h3, hRs]
    omega
  have hfit1 : o1 + ((zs.drop i).flatMap dw.cells).length ≤ (splice ROW.toList o0 (dw.cells y)).length := by
    rw [length_splice _ _ _ (by rw [Array.length_toList]; exact hfit2), lC, h3, Array.length_toList, hRs]
    omega
  have hS : (splice (splice ROW.toList o0 (dw.cells y)) o1 ((zs.drop i).flatMap dw.cells)).length = G * 3 := by
    rw [length_splice _ _ _ hfit1, length_splice _ _ _ (by rw [Array.length_toList]; exact hfit2), Array.length_toList, hRs]
  have HE := Lib.hid hE
  have HS := Lib.hid hS
  have HF1 := Lib.hid hfit1
  have HF2 := Lib.hid hfit2
  have LC := Lib.hid lC
  have HD := Lib.hid hd
  have M1 := Lib.hid hmin1
  have M0 := Lib.hid hmin0
  have HRZ := Lib.hid hrz
  have M1E := Lib.hid (show m1 = (zs.take i ++ y :: zs.drop i).length from by rw [len_ins]; omega)
  have M1F := Lib.hid hm1
  have HM := Lib.hid hGm
  have H7 := Lib.hid (show c + 1 = zs.length + 1 ∧ zs.length + 1 ≤ G from ⟨by omega, by omega⟩)
  have HGG := Lib.hid (show g ≠ w.heap.size by omega)
  have hw1 : IntKind.i64.wrap ((i : Int) + 1) = (i : Int) + 1 := by rw [IntKind.wrap_i64]; omega
  have hb1 : (i : Int) < (c : Int) := by omega
  have hb3 : (c : Int) ≤ 2048 := by omega
  have hBn := Lib.hid hN
  rw [← hm1] at hrz
  clear hE hS hfit1 hfit2 lC lA hd hn hx hmin1 hmin0 hg o1e hT hm1 ho1 ho0 hl1 hl0 hlz hk1 hk0 hGm hGn hi hc hnm hik hRs hRA hAcells hold hG hzc hz hz0 hzs hzb hi0 hle hgw hN HRZ
  go_enter Try.func27, Try.ntmps27
  have HB0 := ((hB.alloc (.cells ROW 44)).drew)
  have HR0 := (Box.new w ROW 44).drew
  have G0 : w.grownBy (w.alloc (.cells ROW 44)).drew (some g) := but_drew (but_alloc (but_refl w _) _)
  go_wp2_with (first
    | (at_builtin; refine Lib.wpList_append_run _ rfl _ _ _ _ rfl _ _ rfl rfl _ _ (hrz _) ?_)
    | (refine wpList_copyR rfl (.tmp 43) (.tmp 44) 23 rfl 44 dw.sz Try.underlying23 size_dirty w.heap.size o0 l0 k0 ⟨B, 0, none⟩ 1 1 rfl rfl ROW 44 HR0 (dw.cells y) 1 M0.out rfl (one_cell3 HB0) HF2.out (dw.one y) ?_))
  intro w1 H1 G1
  have G01 := but_grown G0 G1 (fun j hj => .inr (by injection hj with hj; omega))
  have HD1 : Hid (∀ j v, ((zs.drop i).flatMap dw.cells)[j]? = some v → w1.drew.cell? ((⟨g, o0, none⟩ : Addr).add j) = some v) := Lib.hid (fun j v h => by
    have h5 := HD.out j v h
    rw [add_plain] at h5 ⊢
    have h6 := World.block_lt_of_cell? w _ h5
    have h7 : (w.alloc (.cells ROW 44)).drew.cell? ⟨g, o0 + j, none⟩ = some v := by
      rw [← h5]
      exact World.cell?_of_block (Below.heap_alloc w _ g h6)
    exact G1.cell h7 (by intro he; injection he with he; exact HGG.out he))
  go_wp2_with fail
  go_region_law (refine step_copyR rfl (.tmp 50) (.tmp 53) 23 rfl 44 dw.sz Try.underlying23 size_dirty w.heap.size o1 l1 k1 ⟨g, o0, none⟩ lz lz (by simp [Act.eval, Act.put]) (by simp [Act.eval, Act.put]) _ 44 H1.out ((zs.drop i).flatMap dw.cells) l1 M1.out LC.out HD1.out (by simpa using HF1.out) (one_cellsR dw _) ?_; intro w2 H2 G2)
  all_goals
    go_wp2_with fail
    go_ret
    have h2 := H2.out
    rw [M1E.out]
    refine ⟨w.heap.size, G, rfl, ?_, but_grown (but_drew G01) G2 (fun j hj => .inr (by injection hj with hj; omega))⟩
    refine ⟨dw.flat_len _, .inr ⟨w.heap.size, G, _, rfl, hBn.out, h2, ?_, HM.out, ?_, ?_⟩⟩
    · rw [len_ins]
      exact H7.out.2
    · have h4 := HS.out
      rw [h3]
      simpa using h4
    · have h4 := HE.out
      rw [len_ins, List.flatMap_append, List.flatMap_cons, ← h4, H7.out.1]
      simp [h3]
end Go.Proofs.Ytpdgefmchoonnaa.In
