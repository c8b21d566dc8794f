/-
  The law ImageNames returns true: the examples, sizes, the ends of an image, and errors; no condition.
-/
import Derived.Test.YtbgeinaldkjddaaImagePut
import Derived.SizedLaws
namespace Go.Proofs.Ytbgeinaldkjddaa.imageNames
open Go.ChangeShapes Go.WideShapes Go.ChangeAt Go.RowKit Go.Proofs.Ytbgeinaldkjddaa.Sl Go.Proofs.Ytbgeinaldkjddaa.St Go.Proofs.Ytbgeinaldkjddaa.Ir Go.Proofs.Ytbgeinaldkjddaa.Iu
set_option linter.unusedVariables false
set_option maxRecDepth 100000
theorem sees_lit (W : World) (k : IntKind) (e : TypeId) (xs : List Int) (n : Nat) (hl : xs.length = n) (hw : ∀ x ∈ xs, (Lit.int k x).wf = true) (hn : n ≤ 17592186044416) :
    Sees (W.alloc (.cells (xs.map (Value.int k)).toArray e)) k (some ⟨W.heap.size, 0, none⟩) n n xs := by
  have h := World.ownsRow_lit (base := W.heap.size) (e := e) (size := 1) W (xs.map (Value.int k)).toArray n (Nat.le_refl _) (by unfold maxLen; omega) (by simp [hl])
  obtain ⟨a, c, h1, h2⟩ := sees_of_owns h hw hn
  injection h1 with e1 e2 e3
  subst e1 e3
  exact h2
def sz : List Int := [-8, 0, 8, 248, 255, 257, 260, 2047, 2049, 2056]
theorem sz_bad : ∀ k, k < 10 → ¬ Img (sz.getD k 0) ∧ ¬ Img (max 0 (sz.getD k 0)) ∧ sz.getD k 0 ≤ 2056 := by decide
theorem make_row {P : Program} {W : World} {ops : Array Oper} {rest : List Oper} {o : Oper} {a : Act} {Q : Exit → Act → World → Prop} (hgd : o.guard = none) (l cc : Operand) (t : TypeId)
    (ho : o.op = Op.makeSlice t l cc) (e : TypeId) (ht : P.underlying t = some (.slice e))
    (hinfo : (P.info? e).map (fun i => (i.zero, i.size, i.bytes)) = some (some (.int .u64 0), 1, 8)) (L : Int)
    (hl : a.eval l = .int .i64 L) (hc : a.eval cc = .int .i64 L) (h0 : 0 ≤ L) (hn : L ≤ 17592186044416)
    (h : ∀ (w' : World) (g n : Nat), Hid ((n : Int) = L) → Sees w' .u64 (some ⟨g, 0, none⟩) n n (List.replicate n 0) → Below W.heap.size W w' → wpList P ops Q rest (a.put o.dst (.slice (some ⟨g, 0, none⟩) n n)) w') : wpList P ops Q (o :: rest) a W := by
  obtain ⟨n, rfl⟩ := Int.eq_ofNat_of_zero_le h0
  refine wp_make hgd l cc t ho .u64 e ht hinfo W (Below.refl _ _) .i64 .i64 n n n hl hc rfl rfl (by omega) ?_
  intro w' G
  have hs := G.made
  obtain ⟨a', c', e1, hm⟩ := hs
  refine h w' W.heap.size n rfl ?_ G.below
  obtain ⟨a2, c2, e2, s2⟩ := sees_of_owns (n := n) (by have := G.own; rwa [List.length_replicate] at this) (wf_zero n) (by omega)
  injection e2 with f1 f2 f3
  subst f1 f3
  exact s2
theorem img2048 : Img 2048 := by decide
theorem new2048 (w : World) : Calls Try.prog 10 #[.int .i64 2048] w
    fun e w' => ∃ a c, e = .returned (.tuple #[.slice a 2048 c, .int .i64 0]) ∧ Sees w' .u64 a 2048 c (List.replicate 2048 0) ∧ Below w.heap.size w w' := by
  refine (Im.new_yes 2048 w img2048).mono fun _ _ ⟨a, c, h, hm⟩ => ?_
  have hs := hm.sees (wf_zero 2048) (by rw [List.length_replicate]; omega)
  rw [List.length_replicate] at h hs
  exact ⟨a, c, h, hs, hm.2⟩
theorem get_none (a : Option Addr) (c : Nat) (xs : List Int) (w : World) (va : Sees w .u64 a 2048 c xs) :
    Calls Try.prog 11 #[.slice a 2048 c, .int .i64 2048, .int .i64 0] w
      fun e w' => ∃ a' c', e = .returned (.tuple #[.slice a' 0 c', .int .i64 0]) ∧ Below w.heap.size w w' :=
  (imagePut.get_seen a 2048 c 2048 0 2048 0 xs [] w va img2048 (by omega) (by omega) (by omega) (by simp)).mono fun _ _ ⟨a', c', h, _, hb⟩ => ⟨a', c', h, hb⟩
theorem back7 : ((putL (List.replicate 2048 0) 2047 [7]).drop 2047).take 1 = [7] := Ip.back_put (xs := List.replicate 2048 0) (ys := [7]) (n := 2048) List.length_replicate (by decide)
theorem sees_1 (W : World) (k : IntKind) (e : TypeId) (x : Int) (hx : (Lit.int k x).wf = true) : Sees (W.alloc (.cells #[.int k x] e)) k (some ⟨W.heap.size, 0, none⟩) 1 1 [x] := sees_one W k e x hx

theorem put_i (a : Option Addr) (n c : Nat) (p : Int) (A : Nat) (b : Option Addr) (m d : Nat) (xs ys : List Int) (w : World) (va : Sees w .u64 a n c xs) (vb : Sees w .u64 b m d ys) (h : Img n) (hp : p = A) (ht : A + m ≤ n) :
    Calls Try.prog 12 #[.slice a n c, .int .i64 p, .slice b m d] w
      fun e w' => ∃ a' c', e = .returned (.tuple #[.slice a' n c', .int .i64 0]) ∧ Sees w' .u64 a' n c' (putL xs A ys) ∧ Below w.heap.size w w' := by
  subst hp
  exact imagePut.put_seen a n c A b m d xs ys w va vb h ht
theorem put7 (a : Option Addr) (c : Nat) (b : Option Addr) (d : Nat) (w : World) (va : Sees w .u64 a 2048 c (List.replicate 2048 0)) (vb : Sees w .u64 b 1 d [7]) :
    Calls Try.prog 12 #[.slice a 2048 c, .int .i64 2047, .slice b 1 d] w
      fun e w' => ∃ a c, e = .returned (.tuple #[.slice a 2048 c, .int .i64 0]) ∧ Sees w' .u64 a 2048 c (putL (List.replicate 2048 0) 2047 [7]) ∧ Below w.heap.size w w' :=
  put_i a 2048 c 2047 2047 b 1 d _ [7] w va vb img2048 (by omega) (by omega)
theorem get7 (a : Option Addr) (c : Nat) (w : World) (va : Sees w .u64 a 2048 c (putL (List.replicate 2048 0) 2047 [7])) :
    Calls Try.prog 11 #[.slice a 2048 c, .int .i64 2047, .int .i64 1] w
      fun e w' => ∃ a' c', e = .returned (.tuple #[.slice a' 1 c', .int .i64 0]) ∧ Sees w' .u64 a' 1 c' [7] ∧ Below w.heap.size w w' :=
  imagePut.get_seen a 2048 c 2047 1 2047 1 _ [7] w va img2048 (by omega) (by omega) (by omega) back7
theorem line2047 (a : Option Addr) (c : Nat) (w : World) : Calls Try.prog 13 #[.slice a 2048 c, .int .i64 2047] w
    fun e w' => e = .returned (.tuple #[.int .i64 255, .int .i64 2040, .int .i64 0]) ∧ w = w' := Im.line_yes a 2048 c 2047 w img2048 (by decide) (by decide)

set_option maxHeartbeats 16000000 in
theorem walk (w : World) :
    Calls Try.prog 3 #[] w fun e w' => e = .returned (.bool true) ∧ Below w.heap.size w w' := by
  have V0 := sees_lit w .i64 3 sz 10 rfl (by decide) (by omega)
  have B0 : Below w.heap.size w (w.alloc (.cells (sz.map (Value.int .i64)).toArray 3)) := below_new (Below.refl _ _)
  have e0 : (sz.map (Value.int .i64)).toArray = #[.int .i64 (-8), .int .i64 0, .int .i64 8, .int .i64 248, .int .i64 255, .int .i64 257, .int .i64 260, .int .i64 2047, .int .i64 2049, .int .i64 2056] := rfl
  rw [e0] at V0 B0
  clear e0
  go_enter Try.func3, Try.ntmps3
  go_wp2_with fail
  generalize w.alloc (.cells #[.int .i64 (-8), .int .i64 0, .int .i64 8, .int .i64 248, .int .i64 255, .int .i64 257, .int .i64 260, .int .i64 2047, .int .i64 2049, .int .i64 2056] 3) = w1 at V0 B0 ⊢
  go_loopw [2] (fun i wr => ∃ k : Nat, k ≤ 10 ∧ i = .int .i64 k ∧ Below w1.heap.size w1 wr) (fun i _ => 10 - (intOf i).toNat)
  case atStart => exact ⟨0, by omega, rfl, Below.refl _ _⟩
  case round =>
    obtain ⟨k, hk, rfl, hB⟩ := hrel
    by_cases hlt : k < 10
    · obtain ⟨z1, z2, z3⟩ := sz_bad k hlt
      have c0 := (V0.keep hB).at k hlt
      rw [Nat.zero_add] at c0
      generalize sz.getD k 0 = s at c0 z1 z2 z3
      have Z1 := Lib.hid z1
      have Z2 := Lib.hid z2
      clear z1 z2
      have hs : s ≤ 0 ∨ 0 < s := by omega
      rcases hs with hs | hs
      all_goals
        go_wp2_with (refine make_row rfl (.tmp 56) (.tmp 56) 23 rfl 34 Try.underlying23 info_word _ rfl rfl (by omega) (by omega) ?_)
        all_goals first | (exfalso; omega) | skip
        intro w2 g n hn V2 B2
        have ZN := Lib.hid (show ¬ Img n from by rw [hn.out]; have := Z2.out; first | rwa [Int.max_eq_left (by omega)] at this | rwa [Int.max_eq_right (by omega)] at this)
        have C0 := Lib.hid ((V0.keep hB).at k hlt)
        clear V2
        have c0' : w2.cell? ⟨w.heap.size, k, none⟩ = some (.int .i64 s) := (B2.cell (p := ⟨w.heap.size, k, none⟩) (World.block_lt_of_cell? wr _ c0)).trans c0
        clear c0 C0
        go_wp2_with fail
        all_goals first | (exfalso; omega) | skip
        refine (Im.new_no s _ Z1.out).mono ?_
        rintro e w' ⟨rfl, rfl⟩
        go_wp2_with fail
        refine (Im.get_bad _ _ _ _ _ _ ZN.out).mono ?_
        rintro e w' ⟨rfl, rfl⟩
        go_wp2_with fail
        refine (Im.put_bad _ _ _ _ _ _ _ _ ZN.out).mono ?_
        rintro e w' ⟨rfl, rfl⟩
        go_wp2_with fail
        refine (Im.line_bad _ _ _ _ _ ZN.out).mono ?_
        rintro e w' ⟨rfl, rfl⟩
        go_wp2_with (refine make_row rfl _ _ 23 (o := ⟨some 84, _, _, _, _, _⟩) rfl 34 Try.underlying23 info_word _ rfl rfl (by omega) (by omega) ?_)
        intro w3 g3 n3 hn3 V3 B3
        have Z3 := Lib.hid (show Img n3 from by rw [hn3.out]; decide)
        clear V3
        go_wp2_with fail
        refine (Im.diff_bad _ _ _ _ _ _ _ (.inl ZN.out)).mono ?_
        rintro e w' ⟨rfl, rfl⟩
        go_wp2_with (refine make_row rfl _ _ 23 (o := ⟨some 89, _, _, _, _, _⟩) rfl 34 Try.underlying23 info_word _ rfl rfl (by omega) (by omega) ?_)
        intro w4 g4 n4 hn4 V4 B4
        have Z4 := Lib.hid (show Img n4 from by rw [hn4.out]; decide)
        clear V4
        go_wp2_with fail
        refine (Im.diff_bad _ _ _ _ _ _ _ (.inr ⟨Z4.out, ZN.out⟩)).mono ?_
        rintro e w' ⟨rfl, rfl⟩
        go_wp2_with fail
        refine (Im.check_no _ _ _ _ ZN.out).mono ?_
        rintro e w' ⟨rfl, rfl⟩
        go_wp2_with fail
        go_roundw
        case rel => exact ⟨k + 1, by omega, by go_num, below_then (below_then (below_then hB B2) B3) B4⟩
        case measure => simp [intOf]; omega
    · clear V0
      go_wp2_with fail
      refine (new2048 _).mono ?_
      rintro e m1 ⟨p1, q1, rfl, t1, d1⟩
      go_wp2_with fail
      refine (Im.get_arg _ 2048 _ _ _ _ img2048 (by unfold There; omega)).mono ?_
      rintro e w' ⟨rfl, rfl⟩
      go_wp2_with fail
      refine (get_none _ _ _ _ t1).mono ?_
      rintro e m2 ⟨p2, q2, rfl, d2⟩
      go_wp2_with fail
      refine (Im.get_arg _ 2048 _ _ _ _ img2048 (by unfold There; omega)).mono ?_
      rintro e w' ⟨rfl, rfl⟩
      go_wp2_with fail
      refine (Im.get_arg _ 2048 _ _ _ _ img2048 (by unfold There; omega)).mono ?_
      rintro e w' ⟨rfl, rfl⟩
      go_wp2_with fail
      refine (Im.get_arg _ 2048 _ _ _ _ img2048 (by unfold There; omega)).mono ?_
      rintro e w' ⟨rfl, rfl⟩
      go_wp2_with fail
      refine (Im.put_arg _ 2048 _ _ _ 2 _ _ (by omega) img2048 (by unfold There; omega)).mono ?_
      rintro e w' ⟨rfl, rfl⟩
      go_wp2_with fail
      refine (Im.put_arg _ 2048 _ _ _ 0 _ _ (by omega) img2048 (by unfold There; omega)).mono ?_
      rintro e w' ⟨rfl, rfl⟩
      have dn := below_then (below_new (o := .cells #[.int .u64 1, .int .u64 2] 34) (Below.refl m2.heap.size m2)) (below_new (o := .cells #[.int .u64 7] 34) (Below.refl _ _))
      have v7 := sees_1 (m2.alloc (.cells #[.int .u64 1, .int .u64 2] 34)) .u64 34 7 (by decide)
      rw [show (m2.alloc (.cells #[.int .u64 1, .int .u64 2] 34)).heap.size = m2.heap.size + 1 from by simp] at v7
      have t2 := (t1.keep d2).keep dn
      go_wp2_with fail
      refine (put7 _ _ _ _ _ t2 v7).mono ?_
      clear t2 v7
      rintro e m3 ⟨p3, q3, rfl, t3, d3⟩
      go_wp2_with fail
      refine (get7 _ _ _ t3).mono ?_
      rintro e m4 ⟨p4, q4, rfl, t4, d4⟩
      go_wp2_with fail
      refine (Im.line_arg _ 2048 _ _ _ img2048 (.inr ⟨by omega, by omega⟩)).mono ?_
      rintro e w' ⟨rfl, rfl⟩
      go_wp2_with fail
      refine (line2047 _ _ _).mono ?_
      rintro e w' ⟨rfl, rfl⟩
      go_wp2_with (refine make_row rfl _ _ 23 (o := ⟨some 186, _, _, _, _, _⟩) rfl 34 Try.underlying23 info_word _ rfl rfl (by omega) (by omega) ?_)
      intro m5 g5 n5 hn5 V5 B5
      have Z5 := Lib.hid (show Img n5 from by rw [hn5.out]; decide)
      have N5 := Lib.hid (show 2048 ≠ n5 from fun g => by have := hn5.out; omega)
      have t5 := t4.keep B5
      clear V5 hn5 t1 t3 t4
      go_wp2_with fail
      refine (Im.diff_arg _ _ 2048 _ _ _ _ img2048 Z5.out N5.out).mono ?_
      rintro e w' ⟨rfl, rfl⟩
      have dm := below_new (o := .cells #[.int .u64 7] 34) (Below.refl m5.heap.size m5)
      go_wp2_with fail
      refine (same_self _ _ _ _ _ _ _ _ (t5.keep dm) (sees_1 _ .u64 34 7 (by decide))).mono ?_
      rintro e m6 ⟨rfl, d6⟩
      go_wp2_with fail
      refine (Ia.alive_any _).mono ?_
      rintro e m7 ⟨rfl, d7⟩
      go_wp2_with fail
      go_ret
      exact ⟨rfl, below_then (below_then (below_then (below_then (below_then (below_then (below_then (below_then (below_then (below_then B0 hB) d1) d2) dn) d3) d4) B5) dm) d6) d7⟩
/-! The row's step. -/
set_option maxRecDepth 100000 in
theorem lifted (os : Os) (started : os.Started) (H : Type) (enc : TypeId × Value → H) :
    ReturnsInHanded {} Try.checked os 3 .any (Rows.imageNamesSpec.pre6 enc Try.prog Try.f3 Rows.imageNamesRow.domain false) (Rows.imageNamesSpec.post enc Try.prog Try.f3 false true false false) := by
  refine returnsInHanded_of_change (C := Try.checked) St.own started (by kernel_rfl) Try.func3
    (ChangeSpec.witness6 (enc := enc) (C := Try.checked) false ⟨#[], #[], []⟩ 8 (by kernel_rfl) (by kernel_rfl) (by kernel_rfl) (by kernel_rfl)) ?_
  intro W base args ds gs before hval0 hW hcnd _
  have hW' := hW
  obtain ⟨p, q, hA0, hV, rfl, hfz, hnd⟩ := hW
  have hA : DataW.TrodAll enc Try.prog W 0 (fun _ => true) true Try.f3.params.toList args.toList ds p := hA0
  rw [Try.params3] at hA
  obtain ⟨rfl, rfl, rfl⟩ := trodAll_none hA
  refine (walk  W).mono fun e W' ⟨he, hb⟩ => ?_
  subst he
  exact St.law_done St.laid (by kernel_rfl) rfl rfl Try.underlying4 rfl hW' hb

theorem over : Rows.imageNamesRow.holds Try.pinned (OpenSpec.ofChange Rows.imageNamesSpec) :=
  OpenClaim.holds_of_wide 3 Try.f3 rfl rfl rfl rfl rfl rfl rfl ⟨rfl, rfl, rfl, rfl, rfl⟩ rfl rfl rfl rfl rfl (by kernel_rfl) Try.func3 (by kernel_rfl)
    (of_decide_eq_true (by kernel_rfl)) (by unfold Func.isWrapper; first | (rw [if_pos (by decide +kernel)]; kernel_rfl) | (rw [if_neg (by decide +kernel)]; exact ⟨rfl, rfl⟩))
    (fun os started H enc _ => lifted os started H enc)
theorem proved : Rows.ImageNamesSaid := over
#print axioms proved
end Go.Proofs.Ytbgeinaldkjddaa.imageNames
