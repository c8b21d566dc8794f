/-
  Contracts of the reference of package cache, continued: storing.
-/
import Derived.Test.YtekgjnbijopieaaCrefb
import Derived.Test.YtekgjnbijopieaaRecb
namespace Go.Proofs.Ytekgjnbijopieaa.Cr
open Go.RowKit Go.Proofs.Ytekgjnbijopieaa.Sl Go.Proofs.Ytekgjnbijopieaa.St Go.Proofs.Ytekgjnbijopieaa.Ir Go.Proofs.Ytekgjnbijopieaa.Dv
set_option maxRecDepth 100000
set_option maxHeartbeats 4000000

/-- A device variable behind w3, with a list of dirty words that the call makes. -/
structure Ring (w3 wr : World) (y0 : Value) (L : Int) (Q : Bool) (zs : List Dw) (av : Option Addr) (cv : Nat) : Prop where
  below : Below w3.heap.size w3 wr
  box : Box wr w3.heap.size #[y0, .slice av zs.length cv, .int .i64 L, .bool Q] 25
  own : wr.ownsRow (w3.heap.size + 1) 28 dw.sz (.slice av zs.length cv) zs.length (zs.flatMap dw.cells)
theorem Ring.push {w3 w1 w5 : World} {y0 : Value} {L : Int} {Q : Bool} {zs : List Dw} {vv : Value} {g cap : Nat} {X : Dw} (hB : Below w3.heap.size w3 w1) (h5 : Below (w3.heap.size + 1) w1 w5)
    (hT : Box w5 w3.heap.size #[y0, vv, .int .i64 L, .bool Q] 25) (hO : OwnsL dw 28 (w3.heap.size + 1) w5 g cap (zs ++ [X])) :
    Ring w3 (w5.setCell ⟨w3.heap.size, 1, none⟩ (.slice (some ⟨g, 0, none⟩) (zs.length + 1) cap)) y0 L Q (zs ++ [X]) (some ⟨g, 0, none⟩) cap := by
  have hL : (zs ++ [X]).length = zs.length + 1 := by simp
  have e1 := hT.set 1 (.slice (some ⟨g, 0, none⟩) (zs.length + 1) cap)
  unfold OwnsL at hO
  have e2 := ownsRow_setCell_below hO (a := ⟨w3.heap.size, 1, none⟩) (Nat.lt_succ_self _) (.slice (some ⟨g, 0, none⟩) (zs.length + 1) cap)
  refine ⟨(hB.trans (h5.mono (Nat.le_succ _))).setCell (Nat.le_refl _) _, ?_, ?_⟩
  · rw [hL]
    exact e1
  · rw [hL] at e2 ⊢
    exact e2
theorem Ring.apart {w3 wr : World} {y0 : Value} {L : Int} {Q : Bool} {zs : List Dw} {av : Option Addr} {cv : Nat} (h : Ring w3 wr y0 L Q zs av cv) : (Value.slice av zs.length cv).ownBlock ≠ some w3.heap.size := fun hv => by
  have := (h.own.lt _ hv).1
  omega
theorem rstored_any (a : Option Addr) (n c : Nat) (b : Option Addr) (m d : Nat) (l : Int) (q : Bool) (D : Dev) (p u : Int) (w : World) (va : SeesD w a n c b m d l q D) (hok : okD D = true) :
    Calls Try.prog 43 #[dev a n c b m d l q, .int .i64 p, .int .u64 u] w fun e w' => ∃ v, e = .returned v ∧ MadeD w (storedD D p u) v w' := by
  obtain ⟨⟨⟨h0, h1, -⟩, -⟩, hok⟩ := ok_parts hok
  have hll := va.dl.len
  have hml := okDl_len hok (by omega)
  have hm : m ≤ 2048 := by omega
  clear hml
  have B2 : Below w.heap.size w ((w.alloc (box a n c b m d l q)).alloc zbox) := below_new (below_new (Below.refl _ _))
  have X1 := (Box.new w #[.slice a n c, .slice b m d, .int .i64 l, .bool q] 25).alloc zbox
  have X2 := Box.new1 w (box a n c b m d l q) #[.slice none 0 0, .slice none 0 0, .int .i64 0, .bool false] 25
  cases hM : made D
  · have HS := Lib.hid (show storedD D p u = spent D from by unfold storedD; rw [hM]; rfl)
    go_enter Try.func43, Try.ntmps43
    go_wp2_with fail
    refine (rspent_any _ _ _ _ _ _ _ _ D _ (va.keep B2)).mono ?_
    rintro e w3 ⟨v3, rfl, M3⟩
    have C3 := below_then B2 M3.below
    have t1 := (X1.keep M3.below).lt
    have t2 := (X2.keep M3.below).lt
    obtain ⟨⟨y0, y1, y2, y3⟩, g0, g1, g2, g3⟩ := (X2.keep M3.below).open4
    obtain ⟨a3, c3, b3, d3, rfl, O1, O2⟩ := M3.lay
    have P1 := owns_mono O1 (show w.heap.size + 2 ≤ _ by simp)
    have P2 := owns_mono O2 (show w.heap.size + 2 ≤ _ by simp)
    clear X1 X2 O1 O2 M3 B2
    rw [hM]
    go_wp2
    refine bodyPost_ret (by simp [results, Try.results43, go_sem, t2, y0, y1, y2, y3]; try rfl) rfl ?_
    rw [HS.out]
    refine ⟨_, rfl, MadeD.mk (w.heap.size + 2) ?_ (by omega) (owns_mid P1 (Nat.le_refl _) ?_ (Nat.le_refl _)) (owns_mid P2 (Nat.le_refl _) ?_ (Nat.le_refl _)) rfl rfl⟩
    · repeat' (first | (with_reducible refine Below.setCell ?_ (by simp) _) | (with_reducible refine below_new ?_) | with_reducible exact C3)
    · repeat' (first | (with_reducible refine Mid.set ?_ (by left; simp) _) | (with_reducible refine Mid.alloc ?_ _) | with_reducible exact Mid.refl _ _)
    · repeat' (first | (with_reducible refine Mid.set ?_ (by left; simp) _) | (with_reducible refine Mid.alloc ?_ _) | with_reducible exact Mid.refl _ _)
  · have HS := Lib.hid (show storedD D p u = { spent D with dl := ins p u D.dl } from by unfold storedD; rw [hM]; rfl)
    have HI := Lib.hid (rins_ok (p := p) (v := u) hok)
    clear hok
    go_enter Try.func43, Try.ntmps43
    go_wp2_with fail
    refine (rspent_any _ _ _ _ _ _ _ _ D _ (va.keep B2)).mono ?_
    rintro e w3 ⟨v3, rfl, M3⟩
    have C3 := below_then B2 M3.below
    have t1 := (X1.keep M3.below).lt
    have t2 := (X2.keep M3.below).lt
    have Y1 := X1.keep M3.below
    have Y2 := X2.keep M3.below
    obtain ⟨⟨x0, x1, x2, x3⟩, f0, f1, f2, f3⟩ := Y1.open4
    obtain ⟨⟨y0, y1, y2, y3⟩, g0, g1, g2, g3⟩ := Y2.open4
    obtain ⟨a3, c3, b3, d3, rfl, O1, -⟩ := M3.lay
    have P1 := owns_mono O1 (show w.heap.size + 2 ≤ _ by simp)
    clear X1 X2 O1 M3 B2
    rw [hM]
    generalize hNI : (spent D).im.length = NI at P1
    replace hNI := Lib.hid hNI
    go_wp2_with fail
    go_loopw [9, 10] (fun pl i wr => ∃ (k : Nat) (r : Bool) (zs : List Dw) (av : Option Addr) (cv : Nat), k ≤ m ∧ pl = .bool r ∧ i = .int .i64 k ∧ zs.length ≤ 2 * k ∧ Hid (rins p u false D.dl = zs ++ rins p u r (D.dl.drop k)) ∧
      Ring w3 wr (.slice a3 NI c3) (spent D).left (spent D).down zs av cv) (fun _ i _ => m - (intOf i).toNat)
    case atStart => exact ⟨0, false, [], none, 0, Nat.zero_le _, rfl, rfl, Nat.zero_le _, Lib.hid rfl, below_new (Below.refl _ _), Box.new _ _ _, World.ownsRow_nil _ _ _ _⟩
    case round =>
      obtain ⟨k, r, zs, av, cv, hk, rfl, rfl, hzl, hR, RG⟩ := hrel
      have Y := Y1.keep RG.below
      have s1 := Y.lt
      have s2 := RG.box.lt
      clear x0 x1 x2 x3 f0 f1 f2 f3 y0 y1 y2 y3 g0 g1 g2 g3
      obtain ⟨⟨x0, x1, x2, x3⟩, f0, f1, f2, f3⟩ := Y.open4
      obtain ⟨⟨y0, y1, y2, y3⟩, g0, g1, g2, g3⟩ := RG.box.open4
      have hne := RG.apart
      by_cases hlt : k < m
      · obtain ⟨b0, o0, rfl⟩ := va.dl.lies (by omega)
        have hlt' : k < D.dl.length := by omega
        obtain ⟨c1, c2, c4⟩ := dw_at ((va.dl.keep C3).keep RG.below) k hlt'
        have HN := Lib.hid (hR.out.trans (congrArg (zs ++ ·) (rins_drop hlt')))
        clear hR
        generalize hX : D.dl[k] = X at c1 c2 c4 HN
        have NB := (Box.new wr #[.int .i64 X.p, .int .u64 X.v, .bool X.f] 28).drew
        have TB := (RG.box.alloc (.cells #[.int .i64 X.p, .int .u64 X.v, .bool X.f] 28)).drew
        have OB := (RG.own.alloc (.cells #[.int .i64 X.p, .int .u64 X.v, .bool X.f] 28)).drew
        have WB := (below_new (o := .cells #[.int .i64 X.p, .int .u64 X.v, .bool X.f] 28) RG.below).drew
        cases r
        · by_cases h2 : p ≤ X.p
          · have hX' := hX
            have hn0 : b0 ≠ w3.heap.size := by
              have hlt3 : b0 < w3.heap.size := World.block_lt_of_cell? _ _ (dw_at (va.dl.keep C3) k hlt').1
              omega
            by_cases h3 : X.p = p
            · have hb : (X.p != p) = false := by simpa using h3
              have HF := Lib.hid (show rins p u false D.dl = (zs ++ [⟨p, u, false⟩]) ++ rins p u true (D.dl.drop (k + 1)) from by
                rw [HN.out, if_pos ⟨rfl, h2⟩, if_neg (by simpa using h3), decide_eq_true h2, List.append_assoc]
                rfl)
              clear HN hX NB TB OB WB
              have NC := Box.new wr #[.int .i64 p, .int .u64 u, .bool false] 28
              have TC := RG.box.alloc (.cells #[.int .i64 p, .int .u64 u, .bool false] 28)
              have OC := RG.own.alloc (.cells #[.int .i64 p, .int .u64 u, .bool false] 28)
              have WC := below_new (o := .cells #[.int .i64 p, .int .u64 u, .bool false] 28) RG.below
              replace h3 := Lib.hid h3
              go_wp2_with (at_builtin; refine wpList_appendB rfl (.tmp 40) (.tmp 44) 23 rfl dw 28 Try.underlying23 _ 24 info_dirty rfl (by decide) (w3.heap.size + 1) (.slice av zs.length cv) zs rfl OC (by simp; omega) ⟨p, u, false⟩ wr.heap.size _ rfl NC rfl (by simp [dw]; omega) w3.heap.size _ _ _ _ _ TC hne ?_)
              rintro g cap w5 O5 B5 K5 T5 ⟨⟨k0, k1, k2, k3⟩, l0, l1, l2, l3⟩ s5
              have W5 := WC.trans (B5.mono (Nat.le_succ _))
              have RG5 := Ring.push WC B5 T5 O5
              obtain ⟨d1, d2, d4⟩ := dw_at ((va.dl.keep C3).keep W5) k hlt'
              rw [hX'] at d1 d2 d4
              obtain ⟨⟨z0, z1, z2, z3⟩, h0', h1', h2', h3'⟩ := (Y1.keep W5).open4
              have s5' := (Y1.keep W5).lt
              go_wp2_with fail
              go_roundw
              case rel => exact ⟨k + 1, true, zs ++ [⟨p, u, false⟩], some ⟨g, 0, none⟩, cap, by omega, rfl, by go_num, by simp; omega, HF, RG5⟩
              case measure => simp [intOf]; omega
            · have hb : (X.p != p) = true := by simpa using h3
              have HF := Lib.hid (show rins p u false D.dl = ((zs ++ [⟨p, u, false⟩]) ++ [X]) ++ rins p u true (D.dl.drop (k + 1)) from by
                rw [HN.out, if_pos ⟨rfl, h2⟩, if_pos h3, decide_eq_true h2]
                simp)
              clear HN hX NB TB OB WB
              have NC := Box.new wr #[.int .i64 p, .int .u64 u, .bool false] 28
              have TC := RG.box.alloc (.cells #[.int .i64 p, .int .u64 u, .bool false] 28)
              have OC := RG.own.alloc (.cells #[.int .i64 p, .int .u64 u, .bool false] 28)
              have WC := below_new (o := .cells #[.int .i64 p, .int .u64 u, .bool false] 28) RG.below
              clear h3
              go_wp2_with (at_builtin; refine wpList_appendB rfl (.tmp 40) (.tmp 44) 23 rfl dw 28 Try.underlying23 _ 24 info_dirty rfl (by decide) (w3.heap.size + 1) (.slice av zs.length cv) zs rfl OC (by simp; omega) ⟨p, u, false⟩ wr.heap.size _ rfl NC rfl (by simp [dw]; omega) w3.heap.size _ _ _ _ _ TC hne ?_)
              rintro g cap w5 O5 B5 K5 T5 ⟨⟨k0, k1, k2, k3⟩, l0, l1, l2, l3⟩ s5
              have W5 := WC.trans (B5.mono (Nat.le_succ _))
              have RG5 := Ring.push WC B5 T5 O5
              obtain ⟨d1, d2, d4⟩ := dw_at ((va.dl.keep C3).keep W5) k hlt'
              rw [hX'] at d1 d2 d4
              obtain ⟨⟨z0, z1, z2, z3⟩, h0', h1', h2', h3'⟩ := (Y1.keep W5).open4
              have s5' := (Y1.keep W5).lt
              have hL : (zs ++ [(⟨p, u, false⟩ : Dw)]).length = zs.length + 1 := by simp
              have TB := (RG5.box.alloc (.cells #[.int .i64 X.p, .int .u64 X.v, .bool X.f] 28)).drew
              have OB := (RG5.own.alloc (.cells #[.int .i64 X.p, .int .u64 X.v, .bool X.f] 28)).drew
              have hne5 := RG5.apart
              have WB := (below_new (o := .cells #[.int .i64 X.p, .int .u64 X.v, .bool X.f] 28) RG5.below).drew
              have NB := (Box.new (w5.setCell ⟨w3.heap.size, 1, none⟩ (.slice (some ⟨g, 0, none⟩) (zs.length + 1) cap)) #[.int .i64 X.p, .int .u64 X.v, .bool X.f] 28).drew
              have hsz : (w5.setCell ⟨w3.heap.size, 1, none⟩ (.slice (some ⟨g, 0, none⟩) (zs.length + 1) cap)).heap.size = w5.heap.size := by simp
              rw [hsz] at NB
              rw [hL] at TB hne5
              generalize (zs ++ [(⟨p, u, false⟩ : Dw)]) = zt at HF RG5 TB OB hne5 hL
              have OB' : ((w5.setCell ⟨w3.heap.size, 1, none⟩ (.slice (some ⟨g, 0, none⟩) (zs.length + 1) cap)).alloc (.cells #[.int .i64 X.p, .int .u64 X.v, .bool X.f] 28)).drew.ownsRow (w3.heap.size + 1) 28 dw.sz (.slice (some ⟨g, 0, none⟩) (zs.length + 1) cap) zt.length (zt.flatMap dw.cells) := by
                rw [← hL] at OB ⊢
                exact OB
              clear OB
              have hz2 : (zt.length + 1) * dw.sz ≤ 17592186044416 := by rw [hL]; simp [dw]; omega
              have hz3 : (zt ++ [X]).length ≤ 2 * (k + 1) := by simp; omega
              replace hL := Lib.hid hL
              go_wp2_with fail
              go_region_law (refine step_appendB rfl (.tmp 56) (.tmp 62) 23 rfl dw 28 Try.underlying23 _ 24 info_dirty rfl (by decide) (w3.heap.size + 1) (.slice (some ⟨g, 0, none⟩) (zs.length + 1) cap) zt rfl OB' (by simp; omega) X w5.heap.size _ rfl NB rfl hz2 w3.heap.size _ _ _ _ _ TB hne5 ?_; rintro g7 cap7 w7 O7 B7 K7 T7 ⟨⟨m0, m1, m2, m3⟩, n0, n1, n2, n3⟩ s7)
              all_goals
                go_wp2
                go_roundw
                case rel => exact ⟨k + 1, true, zt ++ [X], some ⟨g7, 0, none⟩, cap7, by omega, rfl, by go_num, hz3, HF, Ring.push WB B7 T7 O7⟩
                case measure => simp [intOf]; omega
          · have hcmp : X.p < p := by omega
            have hb : (X.p != p) = true := by simp; omega
            have HF := Lib.hid (show rins p u false D.dl = (zs ++ [X]) ++ rins p u false (D.dl.drop (k + 1)) from by
              rw [HN.out, if_neg (by omega), if_pos (by omega), decide_eq_false h2, List.append_assoc]
              rfl)
            clear HN h2 hX
            go_wp2_with fail
            go_region_law (refine step_appendB rfl (.tmp 56) (.tmp 62) 23 rfl dw 28 Try.underlying23 _ 24 info_dirty rfl (by decide) (w3.heap.size + 1) (.slice av zs.length cv) zs rfl OB (by simp; omega) X wr.heap.size _ rfl NB rfl (by simp [dw]; omega) w3.heap.size _ _ _ _ _ TB hne ?_; rintro g cap w5 O5 B5 K5 T5 ⟨⟨k0, k1, k2, k3⟩, l0, l1, l2, l3⟩ s5)
            all_goals
              go_wp2
              go_roundw
              case rel => exact ⟨k + 1, false, zs ++ [X], some ⟨g, 0, none⟩, cap, by omega, rfl, by go_num, by simp; omega, HF, Ring.push WB B5 T5 O5⟩
              case measure => simp [intOf]; omega
        · by_cases h3 : X.p = p
          · have hb : (X.p != p) = false := by simpa using h3
            have HF := Lib.hid (show rins p u false D.dl = zs ++ rins p u true (D.dl.drop (k + 1)) from by
              rw [HN.out, if_neg (by simp), if_neg (by simpa using h3)]
              rfl)
            clear HN hX h3
            go_wp2_with fail
            go_roundw
            case rel => exact ⟨k + 1, true, zs, av, cv, by omega, rfl, by go_num, by omega, HF, RG⟩
            case measure => simp [intOf]; omega
          · have hb : (X.p != p) = true := by simpa using h3
            have HF := Lib.hid (show rins p u false D.dl = (zs ++ [X]) ++ rins p u true (D.dl.drop (k + 1)) from by
              rw [HN.out, if_neg (by simp), if_pos h3, List.append_assoc]
              rfl)
            clear HN hX h3
            go_wp2_with fail
            go_region_law (refine step_appendB rfl (.tmp 56) (.tmp 62) 23 rfl dw 28 Try.underlying23 _ 24 info_dirty rfl (by decide) (w3.heap.size + 1) (.slice av zs.length cv) zs rfl OB (by simp; omega) X wr.heap.size _ rfl NB rfl (by simp [dw]; omega) w3.heap.size _ _ _ _ _ TB hne ?_; rintro g cap w5 O5 B5 K5 T5 ⟨⟨k0, k1, k2, k3⟩, l0, l1, l2, l3⟩ s5)
            all_goals
              go_wp2
              go_roundw
              case rel => exact ⟨k + 1, true, zs ++ [X], some ⟨g, 0, none⟩, cap, by omega, rfl, by go_num, by simp; omega, HF, Ring.push WB B5 T5 O5⟩
              case measure => simp [intOf]; omega
      · obtain rfl : k = m := by omega
        have hd : D.dl.drop k = [] := List.drop_of_length_le (by omega)
        have hR' := hR.out
        rw [hd] at hR'
        have MX := (Mid.refl (w.heap.size + 2) w3).keep RG.below
        clear hR hd
        cases r
        · have HF := Lib.hid (show ins p u D.dl = zs ++ [⟨p, u, false⟩] from by rw [← HI.out, hR']; rfl)
          clear hR' HI
          have NC := Box.new wr #[.int .i64 p, .int .u64 u, .bool false] 28
          have TC := RG.box.alloc (.cells #[.int .i64 p, .int .u64 u, .bool false] 28)
          have OC := RG.own.alloc (.cells #[.int .i64 p, .int .u64 u, .bool false] 28)
          have WC := below_new (o := .cells #[.int .i64 p, .int .u64 u, .bool false] 28) RG.below
          go_wp2_with (at_builtin; refine wpList_appendB rfl (.tmp 68) (.tmp 72) 23 rfl dw 28 Try.underlying23 _ 24 info_dirty rfl (by decide) (w3.heap.size + 1) (.slice av zs.length cv) zs rfl OC (by simp; omega) ⟨p, u, false⟩ wr.heap.size _ rfl NC rfl (by simp [dw]; omega) w3.heap.size _ _ _ _ _ TC hne ?_)
          rintro g cap w5 O5 B5 K5 T5 ⟨⟨k0, k1, k2, k3⟩, l0, l1, l2, l3⟩ s5
          have W5 := WC.trans (B5.mono (Nat.le_succ _))
          have RG5 := Ring.push WC B5 T5 O5
          have s5' := (Y2.keep W5).lt
          obtain ⟨⟨z0, z1, z2, z3⟩, h0', h1', h2', h3'⟩ := (Y2.keep W5).open4
          have MX5 := (Mid.refl (w.heap.size + 2) w3).keep RG5.below
          have CB := below_then C3 RG5.below
          have hL : (zs ++ [(⟨p, u, false⟩ : Dw)]).length = zs.length + 1 := by simp
          have OW := RG5.own
          rw [← HF.out] at OW hL
          have OW' : (w5.setCell ⟨w3.heap.size, 1, none⟩ (.slice (some ⟨g, 0, none⟩) (zs.length + 1) cap)).ownsRow (w3.heap.size + 1) 28 dw.sz (.slice (some ⟨g, 0, none⟩) (zs.length + 1) cap) (ins p u D.dl).length ((ins p u D.dl).flatMap dw.cells) := by
            rw [hL] at OW ⊢
            exact OW
          clear OW hL RG5 W5
          go_wp2
          refine bodyPost_ret (by simp [results, Try.results43, go_sem, z0, z1, z2, z3]; try rfl) rfl ?_
          rw [HS.out]
          have hNI' := hNI.out
          subst hNI'
          have P5 := owns_mid P1 (Nat.le_refl _) MX5 (Nat.le_refl _)
          refine ⟨_, rfl, MadeD.mk (w.heap.size + 2) ?_ (by omega) (owns_mid P5 (Nat.le_refl _) ?_ (Nat.le_refl _)) (owns_mono (owns_mid (N := w3.heap.size + 1) OW' (Nat.le_refl _) ?_ (Nat.le_refl _)) (by omega)) rfl rfl⟩
          · repeat' (first | with_reducible exact CB | (with_reducible refine Below.setCell ?_ (by simp) _))
          · repeat' (first | with_reducible exact Mid.refl _ _ | (with_reducible refine Mid.set ?_ (by left; simp) _))
          · repeat' (first | with_reducible exact Mid.refl _ _ | (with_reducible refine Mid.set ?_ (by left; simp; omega) _))
        · have HF := Lib.hid (show ins p u D.dl = zs from by rw [← HI.out, hR']; simp [rins])
          clear hR' HI
          have s5' := (Y2.keep RG.below).lt
          obtain ⟨⟨z0, z1, z2, z3⟩, h0', h1', h2', h3'⟩ := (Y2.keep RG.below).open4
          go_wp2
          refine bodyPost_ret (by simp [results, Try.results43, go_sem, z0, z1, z2, z3]; try rfl) rfl ?_
          rw [HS.out, HF.out]
          have hNI' := hNI.out
          subst hNI'
          have P5 := owns_mid P1 (Nat.le_refl _) MX (Nat.le_refl _)
          have CB := below_then C3 RG.below
          refine ⟨_, rfl, MadeD.mk (w.heap.size + 2) ?_ (by omega) (owns_mid P5 (Nat.le_refl _) ?_ (Nat.le_refl _)) (owns_mono (owns_mid (N := w3.heap.size + 1) RG.own (Nat.le_refl _) ?_ (Nat.le_refl _)) (by omega)) rfl rfl⟩
          · repeat' (first | with_reducible exact CB | (with_reducible refine Below.setCell ?_ (by simp) _))
          · repeat' (first | with_reducible exact Mid.refl _ _ | (with_reducible refine Mid.set ?_ (by left; simp) _))
          · repeat' (first | with_reducible exact Mid.refl _ _ | (with_reducible refine Mid.set ?_ (by left; simp; omega) _))
/-- Store. -/
theorem rstore_any (a : Option Addr) (n c : Nat) (b : Option Addr) (m d : Nat) (l : Int) (q : Bool) (D : Dev) (p u : Int) (w : World) (va : SeesD w a n c b m d l q D) :
    Calls Try.prog 26 #[dev a n c b m d l q, .int .i64 p, .int .u64 u] w fun e w' => ∃ v, e = .returned (.tuple #[v, .int .i64 (asked D p)]) ∧ MadeD w (storeD D p u) v w' := by
  have B2 : Below w.heap.size w ((w.alloc (box a n c b m d l q)).alloc zbox) := below_new (below_new (Below.refl _ _))
  have X1 := (Box.new w #[.slice a n c, .slice b m d, .int .i64 l, .bool q] 25).alloc zbox
  have X2 := Box.new1 w (box a n c b m d l q) #[.slice none 0 0, .slice none 0 0, .int .i64 0, .bool false] 25
  by_cases h : asked D p = 0
  · have HS := Lib.hid (show storeD D p u = storedD D p u from by unfold storeD; rw [if_pos h])
    have hb : (asked D p == 0) = true := by simpa using h
    obtain ⟨hok, -⟩ := asked_parts h
    have HOK := Lib.hid hok
    have H0 := Lib.hid h
    clear h hok
    go_enter Try.func26, Try.ntmps26
    go_wp2_with fail
    refine (rask_any _ _ _ _ _ _ _ _ D p _ (va.keep B2)).mono ?_
    rintro e w2 ⟨rfl, b2⟩
    have s1 := (X1.keep b2).lt
    have s2 := (X2.keep b2).lt
    obtain ⟨⟨x0, x1, x2, x3⟩, f0, f1, f2, f3⟩ := (X1.keep b2).open4
    have C2 := below_then B2 b2
    go_wp2_with fail
    refine (rstored_any _ _ _ _ _ _ _ _ D p u _ (va.keep C2) HOK.out).mono ?_
    rintro e w3 ⟨v3, rfl, M3⟩
    have C3 := below_then C2 M3.below
    have t2 := ((X2.keep b2).keep M3.below).lt
    obtain ⟨⟨y0, y1, y2, y3⟩, g0, g1, g2, g3⟩ := ((X2.keep b2).keep M3.below).open4
    obtain ⟨a3, c3, b3, d3, rfl, O1, O2⟩ := M3.lay
    have P1 := owns_mono O1 (show w.heap.size + 2 ≤ _ by omega)
    have P2 := owns_mono O2 (show w.heap.size + 2 ≤ _ by omega)
    clear O1 O2 M3
    go_wp2
    refine bodyPost_ret (by simp [results, Try.results26, go_sem, y0, y1, y2, y3]; try rfl) rfl ?_
    have H0' := H0.out
    rw [H0', HS.out]
    refine ⟨_, rfl, MadeD.mk (w.heap.size + 2) ?_ (by omega) (owns_mid P1 (Nat.le_refl _) ?_ (Nat.le_refl _)) (owns_mid P2 (Nat.le_refl _) ?_ (Nat.le_refl _)) rfl rfl⟩
    · repeat' (first | with_reducible exact C3 | (with_reducible refine Below.setCell ?_ (by simp) _))
    · repeat' (first | with_reducible exact Mid.refl _ _ | (with_reducible refine Mid.set ?_ (by left; simp) _))
    · repeat' (first | with_reducible exact Mid.refl _ _ | (with_reducible refine Mid.set ?_ (by left; simp) _))
  · have HS := Lib.hid (show storeD D p u = zdev from by unfold storeD; rw [if_neg h])
    have hb : (asked D p == 0) = false := by simpa using h
    clear h
    go_enter Try.func26, Try.ntmps26
    go_wp2_with fail
    refine (rask_any _ _ _ _ _ _ _ _ D p _ (va.keep B2)).mono ?_
    rintro e w2 ⟨rfl, b2⟩
    have s1 := (X1.keep b2).lt
    have s2 := (X2.keep b2).lt
    obtain ⟨⟨x0, x1, x2, x3⟩, f0, f1, f2, f3⟩ := (X1.keep b2).open4
    have C2 := below_then B2 b2
    go_wp2_with fail
    refine (rask_any _ _ _ _ _ _ _ _ D p _ (va.keep C2)).mono ?_
    rintro e w3 ⟨rfl, b3⟩
    have C3 := below_then C2 b3
    obtain ⟨⟨y0, y1, y2, y3⟩, g0, g1, g2, g3⟩ := ((X2.keep b2).keep b3).open4
    go_wp2
    refine bodyPost_ret (by simp [results, Try.results26, go_sem, y0, y1, y2, y3]; try rfl) rfl ?_
    rw [HS.out]
    refine ⟨_, rfl, MadeD.zero ?_⟩
    repeat' (first | with_reducible exact C3 | (with_reducible refine Below.setCell ?_ (by simp) _))
end Go.Proofs.Ytekgjnbijopieaa.Cr
