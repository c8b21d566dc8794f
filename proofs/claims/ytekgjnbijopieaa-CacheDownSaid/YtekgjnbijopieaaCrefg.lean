/-
  Contracts of the reference of package cache, continued: fencing.
-/
import Derived.Test.YtekgjnbijopieaaCrefb
import Derived.Test.YtekgjnbijopieaaRecb
import Derived.LoopN
namespace Go.Proofs.Ytekgjnbijopieaa.Cr
open Go.RowKit Go.Proofs.Ytekgjnbijopieaa.Sl Go.Proofs.Ytekgjnbijopieaa.St Go.Proofs.Ytekgjnbijopieaa.Ir Go.Proofs.Ytekgjnbijopieaa.Dv
set_option maxRecDepth 100000
set_option maxHeartbeats 4000000

/-- What lies beside each other while a device is fenced. -/
structure Fr (w w3 wr : World) (cs : Array Value) (g N c : Nat) (zs : List Int) (L : Int) (Q : Bool) (ys : List Dw) (av : Option Addr) (cv : Nat) : Prop where
  below : Below w.heap.size w wr
  arg : Box wr w.heap.size cs 25
  res : Box wr (w.heap.size + 1) #[.slice none 0 0, .slice none 0 0, .int .i64 0, .bool false] 25
  var : Box wr w3.heap.size #[.slice (some ⟨g, 0, none⟩) N c, .slice av ys.length cv, .int .i64 L, .bool Q] 25
  im : wr.ownsRow (w.heap.size + 2) 26 1 (.slice (some ⟨g, 0, none⟩) N c) N (zs.map (Value.int .u64))
  dl : wr.ownsRow (w3.heap.size + 1) 28 dw.sz (.slice av ys.length cv) ys.length (ys.flatMap dw.cells)
  lo : w.heap.size + 2 ≤ g
  hi : g < w3.heap.size
theorem Fr.put {w w3 wr : World} {cs : Array Value} {g N c : Nat} {zs : List Int} {L : Int} {Q : Bool} {ys : List Dw} {av : Option Addr} {cv : Nat} (h : Fr w w3 wr cs g N c zs L Q ys av cv) (i : Nat) (x : Int) :
    Fr w w3 (wr.setCell ⟨g, i, none⟩ (.int .u64 x)).drew cs g N c (zs.set i x) L Q ys av cv := by
  have h1 := h.lo
  have h2 := h.hi
  refine ⟨(h.below.setCell (by show _ ≤ g; omega) _).drew, (h.arg.other (a := ⟨g, i, none⟩) (by show _ ≠ g; omega) _).drew, (h.res.other (a := ⟨g, i, none⟩) (by show _ ≠ g; omega) _).drew, (h.var.other (a := ⟨g, i, none⟩) (by show _ ≠ g; omega) _).drew, ?_,
    (ownsRow_setCell_below h.dl (a := ⟨g, i, none⟩) (by show g < _; omega) _).drew, h1, h2⟩
  have h3 := (h.im.stored i (.int .u64 x)).1
  rw [← List.map_set] at h3
  exact h3.drew
theorem Fr.push {w w3 wr w5 : World} {cs : Array Value} {g N c : Nat} {zs : List Int} {L : Int} {Q : Bool} {ys : List Dw} {av : Option Addr} {cv g5 cap : Nat} {X : Dw} {o : Obj} {vv : Value} (h : Fr w w3 wr cs g N c zs L Q ys av cv) (h5 : Below (w3.heap.size + 1) (wr.alloc o).drew w5)
    (hw : w.heap.size + 1 < w3.heap.size) (hT : Box w5 w3.heap.size #[.slice (some ⟨g, 0, none⟩) N c, vv, .int .i64 L, .bool Q] 25) (hO : OwnsL dw 28 (w3.heap.size + 1) w5 g5 cap (ys ++ [X])) :
    Fr w w3 (w5.setCell ⟨w3.heap.size, 1, none⟩ (.slice (some ⟨g5, 0, none⟩) (ys.length + 1) cap)) cs g N c zs L Q (ys ++ [X]) (some ⟨g5, 0, none⟩) cap := by
  have h1 := h.lo
  have h2 := h.hi
  have hL : (ys ++ [X]).length = ys.length + 1 := by simp
  have e1 := hT.set 1 (.slice (some ⟨g5, 0, none⟩) (ys.length + 1) cap)
  unfold OwnsL at hO
  have e2 := ownsRow_setCell_below hO (a := ⟨w3.heap.size, 1, none⟩) (Nat.lt_succ_self _) (.slice (some ⟨g5, 0, none⟩) (ys.length + 1) cap)
  refine ⟨((below_new (o := o) h.below).drew.trans (h5.mono (by omega))).setCell (by show _ ≤ w3.heap.size; omega) _, ?_, ?_, ?_, ?_, ?_, h1, h2⟩
  · exact ((h.arg.alloc o).drew.under (by omega) h5).other (a := ⟨w3.heap.size, 1, none⟩) (by show _ ≠ w3.heap.size; omega) _
  · exact ((h.res.alloc o).drew.under (by omega) h5).other (a := ⟨w3.heap.size, 1, none⟩) (by show _ ≠ w3.heap.size; omega) _
  · rw [hL]
    exact e1
  · refine ownsRow_setCell_other (owns_under (B := w3.heap.size + 1) (h.im.alloc o).drew (fun g' hg' => ?_) h5) (a := ⟨w3.heap.size, 1, none⟩) (fun hg' => ?_) _
    · simp only [Value.ownBlock, Option.some.injEq] at hg'
      omega
    · simp only [Value.ownBlock, Option.some.injEq] at hg'
      omega
  · rw [hL] at e2 ⊢
    exact e2
theorem filter_drop {xs : List Dw} {k : Nat} (hk : k < xs.length) : (xs.drop k).filter (fun x => !x.f) = (if xs[k].f = true then [] else [xs[k]]) ++ (xs.drop (k + 1)).filter (fun x => !x.f) := by
  rw [List.drop_eq_getElem_cons hk, List.filter_cons]
  cases h : xs[k].f <;> simp
theorem rfenced_any (a : Option Addr) (n c : Nat) (b : Option Addr) (m d : Nat) (l : Int) (q : Bool) (D : Dev) (w : World) (va : SeesD w a n c b m d l q D) (hok : okD D = true) :
    Calls Try.prog 45 #[dev a n c b m d l q] w fun e w' => ∃ v, e = .returned v ∧ MadeD w (fencedD D) v w' := by
  obtain ⟨⟨⟨h0, h1, -⟩, -⟩, hok⟩ := ok_parts hok
  have hll := va.dl.len
  have hml := okDl_len hok (by omega)
  have hm : m ≤ 2048 := by omega
  clear hml
  have B2 : Below w.heap.size w ((w.alloc (box a n c b m d l q)).alloc zbox) := below_new (below_new (Below.refl _ _))
  have X1 := (Box.new w #[.slice a n c, .slice b m d, .int .i64 l, .bool q] 25).alloc zbox
  have X2 := Box.new1 w (box a n c b m d l q) #[.slice none 0 0, .slice none 0 0, .int .i64 0, .bool false] 25
  go_enter Try.func45, Try.ntmps45
  go_wp2_with fail
  refine (rspent_any _ _ _ _ _ _ _ _ D _ (va.keep B2)).mono ?_
  rintro e w3 ⟨v3, rfl, M3⟩
  have C3 := below_then B2 M3.below
  have t1 := (X1.keep M3.below).lt
  have t2 := (X2.keep M3.below).lt
  have Y1 := X1.keep M3.below
  have Y2 := X2.keep M3.below
  obtain ⟨⟨x0, x1, x2, x3⟩, f0, f1, f2, f3⟩ := Y1.open4
  obtain ⟨⟨y0, y1, y2, y3⟩, g0, g1, g2, g3⟩ := Y2.open4
  obtain ⟨a3, c3, b3, d3, rfl, O1, O2⟩ := M3.lay
  have P1 := owns_mono O1 (show w.heap.size + 2 ≤ _ by simp)
  have P2 := owns_mono O2 (show w.heap.size + 2 ≤ _ by simp)
  clear X1 X2 O1 O2 M3 B2
  cases hM : made D
  · have HS := Lib.hid (show fencedD D = spent D from by unfold fencedD; rw [hM]; rfl)
    go_wp2
    refine bodyPost_ret (by simp [results, Try.results45, go_sem, t2, y0, y1, y2, y3]; try rfl) rfl ?_
    rw [HS.out]
    refine ⟨_, rfl, MadeD.mk (w.heap.size + 2) ?_ (by omega) (owns_mid P1 (Nat.le_refl _) ?_ (Nat.le_refl _)) (owns_mid P2 (Nat.le_refl _) ?_ (Nat.le_refl _)) rfl rfl⟩
    · repeat' (first | with_reducible exact C3 | (with_reducible refine Below.setCell ?_ (by simp) _) | (with_reducible refine below_new ?_))
    · repeat' (first | with_reducible exact Mid.refl _ _ | (with_reducible refine Mid.set ?_ (by left; simp) _) | (with_reducible refine Mid.alloc ?_ _))
    · repeat' (first | with_reducible exact Mid.refl _ _ | (with_reducible refine Mid.set ?_ (by left; simp) _) | (with_reducible refine Mid.alloc ?_ _))
  · have HS := Lib.hid (show fencedD D = { spent D with im := fenceL D.im D.dl, dl := D.dl.filter fun x => !x.f } from by unfold fencedD; rw [hM]; rfl)
    simp only [spent_im] at P1 ⊢
    clear P2
    obtain ⟨g, rfl, hg1, hg2⟩ := owns_at0 P1 (by omega)
    generalize hNI : D.im.length = NI at P1 hok ⊢
    have HOK := Lib.hid hok
    have hNI2 : 256 ≤ NI ∧ NI ≤ 2048 := by omega
    replace hNI := Lib.hid hNI
    clear hok h0 h1
    go_wp2_with fail
    go_loopw [5] (fun i wr => ∃ (k : Nat) (zs : List Int) (ys : List Dw) (av : Option Addr) (cv : Nat), k ≤ m ∧ i = .int .i64 k ∧ ys.length ≤ k ∧ Hid (zs.length = NI) ∧ Hid (fenceL D.im D.dl = fenceL zs (D.dl.drop k)) ∧ Hid ((D.dl.filter fun x => !x.f) = ys ++ (D.dl.drop k).filter fun x => !x.f) ∧
      Fr w w3 wr #[.slice a n c, .slice b m d, .int .i64 l, .bool q] g NI c3 zs (spent D).left (spent D).down ys av cv) (fun i _ => m - (intOf i).toNat)
    case atStart => exact ⟨0, D.im, [], none, 0, Nat.zero_le _, rfl, Nat.zero_le _, hNI, Lib.hid rfl, Lib.hid rfl, below_new C3, Y1.alloc _, Y2.alloc _, Box.new _ _ _, P1.alloc _, World.ownsRow_nil _ _ _ _, hg1, hg2⟩
    case round =>
      obtain ⟨k, zs, ys, av, cv, hk, rfl, hyl, hzl, hZ, hY, F⟩ := hrel
      have s1 := F.arg.lt
      have s2 := F.res.lt
      have s3 := F.var.lt
      clear x0 x1 x2 x3 f0 f1 f2 f3 y0 y1 y2 y3 g0 g1 g2 g3
      obtain ⟨⟨x0, x1, x2, x3⟩, f0, f1, f2, f3⟩ := F.arg.open4
      obtain ⟨⟨y0, y1, y2, y3⟩, g0, g1, g2, g3⟩ := F.res.open4
      obtain ⟨⟨z0, z1, z2, z3⟩, k0, k1, k2, k3⟩ := F.var.open4
      by_cases hlt : k < m
      · obtain ⟨b0, o0, rfl⟩ := va.dl.lies (by omega)
        have hlt' : k < D.dl.length := by omega
        obtain ⟨c1, c2, c4⟩ := dw_at (va.dl.keep F.below) k hlt'
        have hpk := okDl_at HOK.out hlt'
        have HZ := Lib.hid (hZ.out.trans (fenceL_drop hlt'))
        have HY := Lib.hid (hY.out.trans (congrArg (ys ++ ·) (filter_drop hlt')))
        clear hZ hY
        generalize D.dl[k] = X at c1 c2 c4 hpk HZ HY
        cases hf : X.f
        · have HZ' := Lib.hid (show fenceL D.im D.dl = fenceL zs (D.dl.drop (k + 1)) from by rw [HZ.out, if_neg (by rw [hf]; decide)])
          have HY' := Lib.hid (show (D.dl.filter fun x => !x.f) = (ys ++ [X]) ++ (D.dl.drop (k + 1)).filter fun x => !x.f from by rw [HY.out, if_neg (by rw [hf]; decide), List.append_assoc])
          clear HZ HY
          have TB := (F.var.alloc (.cells #[.int .i64 X.p, .int .u64 X.v, .bool X.f] 28)).drew
          have OB := (F.dl.alloc (.cells #[.int .i64 X.p, .int .u64 X.v, .bool X.f] 28)).drew
          have NB := (Box.new wr #[.int .i64 X.p, .int .u64 X.v, .bool X.f] 28).drew
          have hne : (Value.slice av ys.length cv).ownBlock ≠ some w3.heap.size := fun hv => by
            have := (F.dl.lt _ hv).1
            omega
          rw [hf] at TB OB NB c4
          go_wp2_with fail
          go_region_law (refine step_appendB rfl (.tmp 44) (.tmp 50) 23 rfl dw 28 Try.underlying23 _ 24 info_dirty rfl (by decide) (w3.heap.size + 1) (.slice av ys.length cv) ys rfl OB (by simp; omega) X wr.heap.size _ rfl NB (by simp [dw, hf]) (by simp [dw]; omega) w3.heap.size _ _ _ _ _ TB hne ?_; rintro g5 cap w5 O5 B5 K5 T5 ⟨⟨m0, m1, m2, m3⟩, n0, n1, n2, n3⟩ s7)
          all_goals
            go_wp2
            go_roundw
            case rel => exact ⟨k + 1, zs, ys ++ [X], some ⟨g5, 0, none⟩, cap, by omega, by go_num, by simp; omega, hzl, HZ', HY', F.push B5 t2 T5 O5⟩
            case measure => simp [intOf]; omega
        · have HZ' := Lib.hid (show fenceL D.im D.dl = fenceL (zs.set X.p.toNat X.v) (D.dl.drop (k + 1)) from by rw [HZ.out, if_pos hf])
          have HY' := Lib.hid (show (D.dl.filter fun x => !x.f) = ys ++ (D.dl.drop (k + 1)).filter fun x => !x.f from by rw [HY.out, if_pos hf]; rfl)
          clear HZ HY
          rw [hf] at c4
          have e1 : wr.cell? ⟨g, X.p.toNat, none⟩ = some (.int .u64 (zs.getD X.p.toNat 0)) := by
            rw [F.im.cellAt X.p.toNat (by omega), List.getElem?_map, List.getD_eq_getElem?_getD, List.getElem?_eq_getElem (by rw [hzl.out]; omega)]
            rfl
          have e2 := F.im.frozenAt X.p.toNat
          have F' := F.put X.p.toNat X.v
          have hz' := Lib.hid (show (zs.set X.p.toNat X.v).length = NI from by rw [List.length_set]; exact hzl.out)
          clear hf
          go_wp2_with fail
          go_region
          all_goals
            go_wp2
            go_roundw
            case rel => exact ⟨k + 1, _, ys, av, cv, by omega, by go_num, by omega, hz', HZ', HY', F'⟩
            case measure => simp [intOf]; omega
      · obtain rfl : k = m := by omega
        have hd : D.dl.drop k = [] := List.drop_of_length_le (by omega)
        have hZ' := hZ.out
        have hY' := hY.out
        rw [hd] at hZ' hY'
        have HZ := Lib.hid (show fenceL D.im D.dl = zs from hZ')
        have HY := Lib.hid (show (D.dl.filter fun x => !x.f) = ys from by rw [hY']; simp)
        clear hZ hY hZ' hY' hd
        go_wp2
        refine bodyPost_ret (by simp [results, Try.results45, go_sem, y0, y1, y2, y3]; try rfl) rfl ?_
        rw [HS.out, HZ.out, HY.out]
        have hz := hzl.out
        subst hz
        refine ⟨_, rfl, MadeD.mk (w.heap.size + 2) ?_ (by omega) (owns_mid F.im (Nat.le_refl _) ?_ (Nat.le_refl _)) (owns_mono (owns_mid (N := w3.heap.size + 1) F.dl (Nat.le_refl _) ?_ (Nat.le_refl _)) (by omega)) rfl rfl⟩
        · repeat' (first | with_reducible exact F.below | (with_reducible refine Below.setCell ?_ (by simp) _))
        · repeat' (first | with_reducible exact Mid.refl _ _ | (with_reducible refine Mid.set ?_ (by left; simp) _))
        · repeat' (first | with_reducible exact Mid.refl _ _ | (with_reducible refine Mid.set ?_ (by left; simp; omega) _))
/-- Fence. -/
theorem rfence_any (a : Option Addr) (n c : Nat) (b : Option Addr) (m d : Nat) (l : Int) (q : Bool) (D : Dev) (w : World) (va : SeesD w a n c b m d l q D) :
    Calls Try.prog 28 #[dev a n c b m d l q] w fun e w' => ∃ v, e = .returned (.tuple #[v, .int .i64 (chk D)]) ∧ MadeD w (fenceD D) v w' := by
  have B2 : Below w.heap.size w ((w.alloc (box a n c b m d l q)).alloc zbox) := below_new (below_new (Below.refl _ _))
  have X1 := (Box.new w #[.slice a n c, .slice b m d, .int .i64 l, .bool q] 25).alloc zbox
  have X2 := Box.new1 w (box a n c b m d l q) #[.slice none 0 0, .slice none 0 0, .int .i64 0, .bool false] 25
  by_cases h : okD D = true
  · have HS := Lib.hid (show fenceD D = fencedD D from by unfold fenceD; rw [if_pos h])
    have hb : (chk D == 0) = true := by rw [chk_ok h]; rfl
    have HC := Lib.hid (chk_ok h)
    have HOK := Lib.hid h
    clear h
    go_enter Try.func28, Try.ntmps28
    go_wp2_with fail
    refine (rchk_any _ _ _ _ _ _ _ _ D _ (va.keep B2)).mono ?_
    rintro e w2 ⟨rfl, o, j, rfl⟩
    have b2 := below_drewN (below_new (o := o) (Below.refl ((w.alloc (box a n c b m d l q)).alloc zbox).heap.size ((w.alloc (box a n c b m d l q)).alloc zbox))) j
    have s1 := (X1.keep b2).lt
    have s2 := (X2.keep b2).lt
    have C2 := below_then B2 b2
    go_wp2_with fail
    refine (rfenced_any _ _ _ _ _ _ _ _ D _ (va.keep C2) HOK.out).mono ?_
    rintro e w3 ⟨v3, rfl, M3⟩
    have C3 := below_then C2 M3.below
    have t2 := ((X2.keep b2).keep M3.below).lt
    obtain ⟨⟨y0, y1, y2, y3⟩, g0, g1, g2, g3⟩ := ((X2.keep b2).keep M3.below).open4
    obtain ⟨a3, c3, b3, d3, rfl, O1, O2⟩ := M3.lay
    have P1 := owns_mono O1 (show w.heap.size + 2 ≤ _ by omega)
    have P2 := owns_mono O2 (show w.heap.size + 2 ≤ _ by omega)
    clear O1 O2 M3
    go_wp2
    refine bodyPost_ret (by simp [results, Try.results28, go_sem, y0, y1, y2, y3]; try rfl) rfl ?_
    rw [HC.out, HS.out]
    refine ⟨_, rfl, MadeD.mk (w.heap.size + 2) ?_ (by omega) (owns_mid P1 (Nat.le_refl _) ?_ (Nat.le_refl _)) (owns_mid P2 (Nat.le_refl _) ?_ (Nat.le_refl _)) rfl rfl⟩
    · repeat' (first | with_reducible exact C3 | (with_reducible refine Below.setCell ?_ (by simp) _))
    · repeat' (first | with_reducible exact Mid.refl _ _ | (with_reducible refine Mid.set ?_ (by left; simp) _))
    · repeat' (first | with_reducible exact Mid.refl _ _ | (with_reducible refine Mid.set ?_ (by left; simp) _))
  · have HS := Lib.hid (show fenceD D = zdev from by unfold fenceD; rw [if_neg h])
    have hb : (chk D == 0) = false := by rw [chk_bad h]; rfl
    have HC := Lib.hid (chk_bad h)
    clear h
    go_enter Try.func28, Try.ntmps28
    go_wp2_with fail
    refine (rchk_any _ _ _ _ _ _ _ _ D _ (va.keep B2)).mono ?_
    rintro e w2 ⟨rfl, o, j, rfl⟩
    have b2 := below_drewN (below_new (o := o) (Below.refl ((w.alloc (box a n c b m d l q)).alloc zbox).heap.size ((w.alloc (box a n c b m d l q)).alloc zbox))) j
    have C2 := below_then B2 b2
    have s2 := (X2.keep b2).lt
    obtain ⟨⟨y0, y1, y2, y3⟩, g0, g1, g2, g3⟩ := (X2.keep b2).open4
    go_wp2
    refine bodyPost_ret (by simp [results, Try.results28, go_sem, y0, y1, y2, y3]; try rfl) rfl ?_
    rw [HC.out, HS.out]
    refine ⟨_, rfl, MadeD.zero ?_⟩
    repeat' (first | with_reducible exact C2 | (with_reducible refine Below.setCell ?_ (by simp) _))
end Go.Proofs.Ytekgjnbijopieaa.Cr
