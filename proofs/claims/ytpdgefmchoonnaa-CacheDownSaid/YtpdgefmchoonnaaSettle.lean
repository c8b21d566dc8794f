/-
  Contract of settle: flushed words are put into an image of the call's own; those that stay are a new list.
-/
import Derived.Test.YtpdgefmchoonnaaBut
import Derived.Test.YtpdgefmchoonnaaCrefg
namespace Go.Proofs.Ytpdgefmchoonnaa.Ca
open Go.RowKit Go.Proofs.Ytpdgefmchoonnaa.Sl Go.Proofs.Ytpdgefmchoonnaa.St Go.Proofs.Ytpdgefmchoonnaa.Ir Go.Proofs.Ytpdgefmchoonnaa.Dv Go.Proofs.Ytpdgefmchoonnaa.Cr
set_option maxRecDepth 100000
set_option maxHeartbeats 4000000

/-- What lies beside each other while words are settled. -/
structure Sr (w wr : World) (base g N c : Nat) (zs : List Int) (ys : List Dw) (av : Option Addr) (cv : Nat) : Prop where
  but : w.grownBy wr (some g)
  im : wr.ownsRow base 31 1 (.slice (some ⟨g, 0, none⟩) N c) N (zs.map (Value.int .u64))
  dl : wr.ownsRow w.heap.size 44 dw.sz (.slice av ys.length cv) ys.length (ys.flatMap dw.cells)
theorem Sr.more {w wr : World} {base g N c : Nat} {zs : List Int} {ys : List Dw} {av : Option Addr} {cv : Nat} (h : Sr w wr base g N c zs ys av cv) (o : Obj) : Sr w (wr.alloc o) base g N c zs ys av cv :=
  ⟨but_alloc h.but o, h.im.alloc o, h.dl.alloc o⟩
theorem Sr.put {w wr : World} {base g N c : Nat} {zs : List Int} {ys : List Dw} {av : Option Addr} {cv : Nat} (h : Sr w wr base g N c zs ys av cv) (hg : g < w.heap.size) (i : Nat) (x : Int) :
    Sr w (wr.setCell ⟨g, i, none⟩ (.int .u64 x)) base g N c (zs.set i x) ys av cv := by
  refine ⟨but_set h.but (.inl rfl) _, ?_, ownsRow_setCell_below h.dl (a := ⟨g, i, none⟩) hg _⟩
  have h3 := (h.im.stored i (.int .u64 x)).1
  rw [← List.map_set] at h3
  exact h3
theorem Sr.push {w wr w5 : World} {base g N c : Nat} {zs : List Int} {ys : List Dw} {av : Option Addr} {cv g5 cap : Nat} {X : Dw} (h : Sr w wr base g N c zs ys av cv) (hg : g < w.heap.size) (h5 : wr.grownBy w5 (Value.slice av ys.length cv).ownBlock)
    (hO : OwnsL dw 44 w.heap.size w5 g5 cap (ys ++ [X])) : Sr w w5 base g N c zs (ys ++ [X]) (some ⟨g5, 0, none⟩) cap := by
  refine ⟨but_grown h.but h5 (fun j hj => .inr (h.dl.lt j hj).1), owns_other h.im h5 (fun j hj he => ?_), hO⟩
  simp only [Value.ownBlock, Option.some.injEq] at he
  have := (h.dl.lt j hj).1
  omega
theorem settle_any (base g N c : Nat) (zs : List Int) (b : Option Addr) (m d : Nat) (xs : List Dw) (l : Int) (w : World) (own : w.ownsRow base 31 1 (.slice (some ⟨g, 0, none⟩) N c) N (zs.map (Value.int .u64))) (hN : N ≤ 2048)
    (vb : SeesR dw w b m d xs) (hok : okDl N l xs = true) (hl : -1 ≤ l) (hb : ∀ b0 o0, b = some ⟨b0, o0, none⟩ → b0 ≠ g) :
    Calls Try.prog 20 #[.slice (some ⟨g, 0, none⟩) N c, .slice b m d] w fun e w' => ∃ av cv, e = .returned (.slice av (xs.filter fun x => !x.f).length cv) ∧ Sr w w' base g N c (fenceL zs xs) (xs.filter fun x => !x.f) av cv := by
  have hll := vb.len
  have hml := vb.short
  have hg := (own.lt g rfl).2
  have hzl : zs.length = N := by have := own.1; simpa using this
  have hm : (m : Int) ≤ 2048 := by
    rcases (by omega : l < N ∨ N ≤ l) with h | h
    · have := okDl_len hok h
      omega
    · cases xs with
      | nil => simp at hll; omega
      | cons x xs =>
        simp only [okDl, Bool.and_eq_true, decide_eq_true_eq] at hok
        omega
  have HOK := Lib.hid hok
  replace hzl := Lib.hid hzl
  clear hok
  go_enter Try.func20, Try.ntmps20
  go_wp2_with fail
  go_loopw [5, 10] (fun s i wr => ∃ (k : Nat) (zt : List Int) (ys : List Dw) (av : Option Addr) (cv : Nat), s = .slice av ys.length cv ∧ k ≤ m ∧ i = .int .i64 k ∧ ys.length ≤ k ∧ Hid (zt.length = N) ∧ Hid (fenceL zs xs = fenceL zt (xs.drop k)) ∧ Hid ((xs.filter fun x => !x.f) = ys ++ (xs.drop k).filter fun x => !x.f) ∧
    Sr w wr base g N c zt ys av cv) (fun _ i _ => m - (intOf i).toNat)
  case atStart => exact ⟨0, zs, [], none, 0, rfl, Nat.zero_le _, rfl, Nat.zero_le _, hzl, Lib.hid rfl, Lib.hid rfl, but_refl _ _, own, World.ownsRow_nil _ _ _ _⟩
  case round =>
    obtain ⟨k, zt, ys, av, cv, rfl, hk, rfl, hyl, hzt, hZ, hY, F⟩ := hrel
    by_cases hlt : k < m
    · obtain ⟨b0, o0, rfl⟩ := vb.lies (by omega)
      have hlt' : k < xs.length := by omega
      obtain ⟨c1, c2, c4⟩ := dw_at (vb.grown F.but (fun b' off' he => by
        have h1 := hb b' off' he
        intro h2
        injection h2 with h2
        exact h1 h2)) k hlt'
      have hpk := okDl_at HOK.out hlt'
      have HZ := Lib.hid (hZ.out.trans (fenceL_drop hlt'))
      have HY := Lib.hid (hY.out.trans (congrArg (ys ++ ·) (filter_drop hlt')))
      clear hZ hY
      generalize xs[k] = X at c1 c2 c4 hpk HZ HY
      have F1 := F.more (.cells #[.int .i64 X.p, .int .u64 X.v, .bool X.f] 44)
      cases hf : X.f
      · have HZ' := Lib.hid (show fenceL zs xs = fenceL zt (xs.drop (k + 1)) from by rw [HZ.out, if_neg (by rw [hf]; decide)])
        have HY' := Lib.hid (show (xs.filter fun x => !x.f) = (ys ++ [X]) ++ (xs.drop (k + 1)).filter fun x => !x.f from by rw [HY.out, if_neg (by rw [hf]; decide), List.append_assoc])
        clear HZ HY
        have F2 := F1.more (.cells #[.int .i64 X.p, .int .u64 X.v, .bool X.f] 44)
        have NB := Box.new1 wr (.cells #[.int .i64 X.p, .int .u64 X.v, .bool X.f] 44) #[.int .i64 X.p, .int .u64 X.v, .bool X.f] 44
        have hsz := F2.but.size
        rw [hf] at F1 F2 NB c4 hsz
        go_wp2_with (at_builtin; refine wpList_appendG rfl (.tmp 22) (.tmp 24) 23 rfl dw 44 Try.underlying23 _ 24 info_dirty rfl (by decide) w.heap.size (.slice av ys.length cv) ys rfl F2.dl hsz X (wr.heap.size + 1) _ rfl NB (by simp [dw, hf]) (by simp [dw]; omega) ?_)
        rintro g5 cap w5 O5 G5 -
        have F5 := F2.push hg G5 O5
        go_wp2_with fail
        go_roundw
        case rel => exact ⟨k + 1, zt, ys ++ [X], some ⟨g5, 0, none⟩, cap, by simp, by omega, by go_num, by simp; omega, hzt, HZ', HY', F5⟩
        case measure => simp [intOf]; omega
      · have HZ' := Lib.hid (show fenceL zs xs = fenceL (zt.set X.p.toNat X.v) (xs.drop (k + 1)) from by rw [HZ.out, if_pos hf])
        have HY' := Lib.hid (show (xs.filter fun x => !x.f) = ys ++ (xs.drop (k + 1)).filter fun x => !x.f from by rw [HY.out, if_pos hf]; rfl)
        clear HZ HY
        rw [hf] at c4 F1
        have e1 := F1.im.cellAt X.p.toNat (by omega)
        rw [List.getElem?_map, List.getElem?_eq_getElem (by rw [hzt.out]; omega)] at e1
        have e2 := F1.im.frozenAt X.p.toNat
        have F' := F1.put hg X.p.toNat X.v
        have hz' := Lib.hid (show (zt.set X.p.toNat X.v).length = N from by rw [List.length_set]; exact hzt.out)
        clear hf
        simp only [Option.map_some] at e1
        go_wp2_with fail
        go_roundw
        case rel => exact ⟨k + 1, _, ys, av, cv, rfl, by omega, by go_num, by omega, hz', HZ', HY', F'⟩
        case measure => simp [intOf]; omega
    · obtain rfl : k = m := by omega
      have hd : xs.drop k = [] := List.drop_of_length_le (by omega)
      have hZ' := hZ.out
      have hY' := hY.out
      rw [hd] at hZ' hY'
      have HZ := Lib.hid (show fenceL zs xs = zt from hZ')
      have HY := Lib.hid (show (xs.filter fun x => !x.f) = ys from by rw [hY']; simp)
      clear hZ hY hZ' hY' hd
      go_wp2_with fail
      go_ret
      rw [HZ.out, HY.out]
      exact ⟨_, _, rfl, F⟩
end Go.Proofs.Ytpdgefmchoonnaa.Ca
