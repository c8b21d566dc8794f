/-
  Contracts of package cache: New, Load, View.
-/
import Derived.Test.YtpdgefmchoonnaaChk
import Derived.Test.YtpdgefmchoonnaaClone
import Derived.Test.YtpdgefmchoonnaaCrefc
import Derived.Test.YtpdgefmchoonnaaPure
namespace Go.Proofs.Ytpdgefmchoonnaa.Ca
open Go.RowKit Go.Proofs.Ytpdgefmchoonnaa.Sl Go.Proofs.Ytpdgefmchoonnaa.St Go.Proofs.Ytpdgefmchoonnaa.Ir Go.Proofs.Ytpdgefmchoonnaa.Dv Go.Proofs.Ytpdgefmchoonnaa.Cr Go.Proofs.Ytpdgefmchoonnaa.Fd
set_option maxRecDepth 100000
set_option maxHeartbeats 4000000

/-- The value of the first word that does not lie before an address. -/
def valN (t : Int) : List Dw → Int
  | [] => 0
  | x :: xs => if x.p < t then valN t xs else x.v
theorem has_at {t : Int} : ∀ {xs : List Dw}, hasN t xs = true → ∃ h : lowN t xs < xs.length, xs[lowN t xs].v = valN t xs ∧ xs[lowN t xs].p = t
  | x :: xs, h => by
    unfold hasN at h
    split at h
    · next h1 =>
      obtain ⟨h2, h3, h4⟩ := has_at h
      have e : lowN t (x :: xs) = lowN t xs + 1 := by conv => lhs; unfold lowN; rw [if_pos h1]
      have e2 : valN t (x :: xs) = valN t xs := by conv => lhs; unfold valN; rw [if_pos h1]
      refine ⟨by rw [e]; simpa using h2, ?_⟩
      simp only [e, e2, List.getElem_cons_succ]
      exact ⟨h3, h4⟩
    · next h1 =>
      have e : lowN t (x :: xs) = 0 := by conv => lhs; unfold lowN; rw [if_neg h1]
      have e2 : valN t (x :: xs) = x.v := by conv => lhs; unfold valN; rw [if_neg h1]
      refine ⟨by rw [e]; simp, ?_⟩
      simp only [e, e2, List.getElem_cons_zero]
      exact ⟨trivial, by simpa using h⟩
theorem words_below {n p : Int} : ∀ {xs : List Dw} {zs : List Int}, okDl n p xs = true → 0 ≤ p → (wordsL zs xs).getD p.toNat 0 = zs.getD p.toNat 0
  | [], _, _, _ => rfl
  | x :: xs, zs, h, hp => by
    simp only [okDl, Bool.and_eq_true, decide_eq_true_eq] at h
    show (wordsL (zs.set x.p.toNat x.v) xs).getD p.toNat 0 = _
    rw [words_below (okDl_mono h.2.2 (by omega)) hp]
    simp only [List.getD_eq_getElem?_getD]
    rw [List.getElem?_set_ne (by omega)]
theorem words_find {n p : Int} (hp : 0 ≤ p) : ∀ {xs : List Dw} {l : Int} {zs : List Int}, okDl n l xs = true → -1 ≤ l → p < zs.length → (wordsL zs xs).getD p.toNat 0 = if hasN p xs = true then valN p xs else zs.getD p.toNat 0
  | [], _, _, _, _, _ => rfl
  | x :: xs, l, zs, h, hl, hz => by
    simp only [okDl, Bool.and_eq_true, decide_eq_true_eq] at h
    show (wordsL (zs.set x.p.toNat x.v) xs).getD p.toNat 0 = _
    unfold hasN valN
    split
    · next h1 =>
      rw [words_find hp h.2.2 (by omega) (by rw [List.length_set]; exact hz)]
      have e : (zs.set x.p.toNat x.v).getD p.toNat 0 = zs.getD p.toNat 0 := by
        simp only [List.getD_eq_getElem?_getD]
        rw [List.getElem?_set_ne (by omega)]
      rw [e]
    · next h1 =>
      rcases (by omega : x.p = p ∨ p < x.p) with h2 | h2
      · have h3 := h.2.2
        rw [h2] at h3
        rw [words_below h3 hp, h2, decide_eq_true rfl, if_pos rfl]
        simp only [List.getD_eq_getElem?_getD]
        rw [List.getElem?_set_self (by omega)]
        rfl
      · rw [decide_eq_false (by omega), if_neg (by decide), words_below (okDl_mono h.2.2 (by omega)) hp]
        simp only [List.getD_eq_getElem?_getD]
        rw [List.getElem?_set_ne (by omega)]

theorem new_any (a : Option Addr) (n c : Nat) (xs : List Int) (w : World) (va : Sees w .u64 a n c xs) :
    Calls Try.prog 13 #[.slice a n c] w fun e w' => ∃ v, e = .returned (.tuple #[v, .int .i64 (newE xs)]) ∧ MadeD w (newD xs) v w' := by
  have hl := va.len
  subst hl
  have B1 : Below w.heap.size w (w.alloc zbox) := below_new (Below.refl _ _)
  have X1 := Box.new w #[.slice none 0 0, .slice none 0 0, .int .i64 0, .bool false] 25
  by_cases h : Img xs.length
  · have HE := Lib.hid (show newE xs = 0 from by unfold newE; rw [if_pos h])
    have HD := Lib.hid (show newD xs = ⟨xs, [], -1, false⟩ from by unfold newD; rw [if_pos h])
    go_enter Try.func13, Try.ntmps13
    go_wp2_with fail
    refine (Im.check_yes _ _ c _ h).mono ?_
    rintro e w' ⟨rfl, rfl⟩
    go_wp2_with fail
    refine (Cn.cloneW_any _ _ _ _ _ (va.keep B1)).mono ?_
    rintro e w3 ⟨v3, rfl, G3⟩
    obtain ⟨a3, c3, rfl, M3⟩ := G3.made
    have C3 := below_then B1 M3.2
    have t1 := (X1.keep M3.2).lt
    obtain ⟨⟨y0, y1, y2, y3⟩, g0, g1, g2, g3⟩ := (X1.keep M3.2).open4
    have P1 := owns_mono M3.1 (show w.heap.size + 1 ≤ _ by simp)
    clear M3 X1
    go_wp2
    refine bodyPost_ret (by simp [results, Try.results13, go_sem, y0, y1, y2, y3]; try rfl) rfl ?_
    rw [HE.out, HD.out]
    refine ⟨_, rfl, MadeD.mk (w.heap.size + 1) ?_ (by omega) (owns_mid P1 (Nat.le_refl _) ?_ (Nat.le_refl _)) (World.ownsRow_nil _ _ _ _) rfl rfl⟩
    · repeat' (first | with_reducible exact C3 | (with_reducible refine Below.setCell ?_ (by simp) _) | (with_reducible refine below_new ?_))
    · repeat' (first | with_reducible exact Mid.refl _ _ | (with_reducible refine Mid.set ?_ (by left; simp) _) | (with_reducible refine Mid.alloc ?_ _))
  · have HE := Lib.hid (show newE xs = 8 from by unfold newE; rw [if_neg h])
    have HD := Lib.hid (show newD xs = zdev from by unfold newD; rw [if_neg h])
    go_enter Try.func13, Try.ntmps13
    go_wp2_with fail
    refine (Im.check_no _ _ c _ h).mono ?_
    rintro e w' ⟨rfl, rfl⟩
    obtain ⟨⟨y0, y1, y2, y3⟩, g0, g1, g2, g3⟩ := X1.open4
    go_wp2
    refine bodyPost_ret (by simp [results, Try.results13, go_sem, y0, y1, y2, y3]; try rfl) rfl ?_
    rw [HE.out, HD.out]
    refine ⟨_, rfl, MadeD.zero ?_⟩
    repeat' (first | with_reducible exact B1 | (with_reducible refine Below.setCell ?_ (by simp) _))
theorem load_any (a : Option Addr) (n c : Nat) (b : Option Addr) (m d : Nat) (l : Int) (q : Bool) (D : Dev) (p : Int) (w : World) (va : SeesD w a n c b m d l q D) (hp : -9223372036854775808 ≤ p ∧ p ≤ 9223372036854775807) :
    Calls Try.prog 14 #[dev a n c b m d l q, .int .i64 p] w fun e w' => e = .returned (.tuple #[.int .u64 (loadR D p), .int .i64 (asked D p)]) ∧ Below w.heap.size w w' := by
  have hli := va.im.len
  have hll := va.dl.len
  have hnt := va.im.top
  have hmt := va.dl.short
  have B1 : Below w.heap.size w (w.alloc (box a n c b m d l q)) := below_new (Below.refl _ _)
  have X1 := Box.new w #[.slice a n c, .slice b m d, .int .i64 l, .bool q] 25
  by_cases h : asked D p = 0
  · have hb : (asked D p != 0) = false := by simpa using h
    obtain ⟨hok, hp0, hp1⟩ := asked_parts h
    obtain ⟨⟨⟨h0, h1, -⟩, -⟩, hdl⟩ := ok_parts hok
    have HL := Lib.hid ((show loadR D p = (wordsL D.im D.dl).getD p.toNat 0 from by unfold loadR; rw [if_pos h]).trans (words_find hp0 hdl (by omega) hp1))
    have HOK := Lib.hid hdl
    have H0 := Lib.hid h
    clear h hok hdl
    obtain ⟨b0, o0, rfl⟩ := va.im.lies (by omega)
    go_enter Try.func14, Try.ntmps14
    go_wp2_with fail
    refine (start_any _ _ _ _ _ _ _ _ D p _ (va.keep B1)).mono ?_
    rintro e w2 ⟨rfl, b2⟩
    have s1 := (X1.keep b2).lt
    obtain ⟨⟨x0, x1, x2, x3⟩, f0, f1, f2, f3⟩ := (X1.keep b2).open4
    have B2 := below_then B1 b2
    go_wp2_with fail
    refine (find_any _ _ _ _ _ _ p _ (va.keep B2).dl HOK.out).mono ?_
    rintro e w3 ⟨rfl, b3⟩
    have B3 := below_then B2 b3
    have s3 := ((X1.keep b2).keep b3).lt
    clear x0 x1 x2 x3 f0 f1 f2 f3
    obtain ⟨⟨x0, x1, x2, x3⟩, f0, f1, f2, f3⟩ := ((X1.keep b2).keep b3).open4
    cases hh : hasN p D.dl
    · have HV := Lib.hid (show loadR D p = D.im.getD p.toNat 0 from by rw [HL.out, hh]; rfl)
      have e1 := (va.keep B3).im.at p.toNat (by omega)
      clear HL hh
      generalize D.im.getD p.toNat 0 = V at e1 HV
      go_wp2_with fail
      go_ret2
      rw [HV.out, H0.out]
      exact ⟨rfl, B3⟩
    · obtain ⟨hk, hv, -⟩ := has_at hh
      have HV := Lib.hid (show loadR D p = D.dl[lowN p D.dl].v from by rw [HL.out, hh, hv]; rfl)
      obtain ⟨b1, o1, rfl⟩ := va.dl.lies (by omega)
      obtain ⟨c1, c2, c4⟩ := dw_at (va.keep B3).dl _ hk
      clear HL hh hv
      generalize D.dl[lowN p D.dl] = X at c1 c2 c4 HV
      generalize lowN p D.dl = k at c1 c2 c4 hk ⊢
      go_wp2_with fail
      go_ret2
      rw [HV.out, H0.out]
      exact ⟨rfl, B3⟩
  · have hb : (asked D p != 0) = true := by simpa using h
    have HL := Lib.hid (show loadR D p = 0 from by unfold loadR; rw [if_neg h])
    clear h
    go_enter Try.func14, Try.ntmps14
    go_wp2_with fail
    refine (start_any _ _ _ _ _ _ _ _ D p _ (va.keep B1)).mono ?_
    rintro e w2 ⟨rfl, b2⟩
    go_wp2_with fail
    go_ret2
    rw [HL.out]
    exact ⟨rfl, below_then B1 b2⟩
end Go.Proofs.Ytpdgefmchoonnaa.Ca
