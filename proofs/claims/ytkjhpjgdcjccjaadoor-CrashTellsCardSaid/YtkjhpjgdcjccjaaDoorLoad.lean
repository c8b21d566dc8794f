/-
  Contracts of package cache: New, Load, View.
-/
import Derived.Test.YtkjhpjgdcjccjaaDoorChk
import Derived.Test.YtkjhpjgdcjccjaaDoorClone
import Derived.Test.YtkjhpjgdcjccjaaDoorCrefc
import Derived.Test.YtkjhpjgdcjccjaaDoorPure
namespace Go.Proofs.YtkjhpjgdcjccjaaDoor.Ca
open Go.RowKit Go.Proofs.YtkjhpjgdcjccjaaDoor.Sl Go.Proofs.YtkjhpjgdcjccjaaDoor.St Go.Proofs.YtkjhpjgdcjccjaaDoor.Ir Go.Proofs.YtkjhpjgdcjccjaaDoor.Dv Go.Proofs.YtkjhpjgdcjccjaaDoor.Cr Go.Proofs.YtkjhpjgdcjccjaaDoor.Fd
set_option maxRecDepth 100000
set_option maxHeartbeats 4000000

/-- The value of the first word that does not lie before an address. -/
def valN (t : Int) : List Dw → Int
  | [] => 0
  | x :: xs => if x.p < t then valN t xs else x.v
theorem has_at {t : Int} : ∀ {xs : List Dw}, hasN t xs = true → ∃ h : lowN t xs < xs.length, xs[lowN t xs].v = valN t xs ∧ xs[lowN t xs].p = t
  | x :: xs, h => by
    unfold hasN at h
    split at h
    · next h1 =>
      obtain ⟨h2, h3, h4⟩ := has_at h
      have e : lowN t (x :: xs) = lowN t xs + 1 := by conv => lhs; unfold lowN; rw [if_pos h1]
      have e2 : valN t (x :: xs) = valN t xs := by conv => lhs; unfold valN; rw [if_pos h1]
      refine ⟨by rw [e]; simpa using h2, ?_⟩
      simp only [e, e2, List.getElem_cons_succ]
      exact ⟨h3, h4⟩
    · next h1 =>
      have e : lowN t (x :: xs) = 0 := by conv => lhs; unfold lowN; rw [if_neg h1]
      have e2 : valN t (x :: xs) = x.v := by conv => lhs; unfold valN; rw [if_neg h1]
      refine ⟨by rw [e]; simp, ?_⟩
      simp only [e, e2, List.getElem_cons_zero]
      exact ⟨trivial, by simpa using h⟩
theorem words_below {n p : Int} : ∀ {xs : List Dw} {zs : List Int}, okDl n p xs = true → 0 ≤ p → (wordsL zs xs).getD p.toNat 0 = zs.getD p.toNat 0
  | [], _, _, _ => rfl
  | x :: xs, zs, h, hp => by
    simp only [okDl, Bool.and_eq_true, decide_eq_true_eq] at h
    show (wordsL (zs.set x.p.toNat x.v) xs).getD p.toNat 0 = _
    rw [words_below (okDl_mono h.2.2 (by omega)) hp]
    simp only [List.getD_eq_getElem?_getD]
    rw [List.getElem?_set_ne (by omega)]
theorem words_find {n p : Int} (hp : 0 ≤ p) : ∀ {xs : List Dw} {l : Int} {zs : List Int}, okDl n l xs = true → -1 ≤ l → p < zs.length → (wordsL zs xs).getD p.toNat 0 = if hasN p xs = true then valN p xs else zs.getD p.toNat 0
  | [], _, _, _, _, _ => rfl
  | x :: xs, l, zs, h, hl, hz => by
    simp only [okDl, Bool.and_eq_true, decide_eq_true_eq] at h
    show (wordsL (zs.set x.p.toNat x.v) xs).getD p.toNat 0 = _
    unfold hasN valN
    split
    · next h1 =>
      rw [words_find hp h.2.2 (by omega) (by rw [List.length_set]; exact hz)]
      have e : (zs.set x.p.toNat x.v).getD p.toNat 0 = zs.getD p.toNat 0 := by
        simp only [List.getD_eq_getElem?_getD]
        rw [List.getElem?_set_ne (by omega)]
      rw [e]
    · next h1 =>
      rcases (by omega : x.p = p ∨ p < x.p) with h2 | h2
      · have h3 := h.2.2
        rw [h2] at h3
        rw [words_below h3 hp, h2, decide_eq_true rfl, if_pos rfl]
        simp only [List.getD_eq_getElem?_getD]
        rw [List.getElem?_set_self (by omega)]
        rfl
      · rw [decide_eq_false (by omega), if_neg (by decide), words_below (okDl_mono h.2.2 (by omega)) hp]
        simp only [List.getD_eq_getElem?_getD]
        rw [List.getElem?_set_ne (by omega)]

theorem load_any (a : Option Addr) (n c : Nat) (b : Option Addr) (m d : Nat) (l : Int) (q : Bool) (D : Dev) (p : Int) (w : World) (va : SeesD w a n c b m d l q D) (hp : -9223372036854775808 ≤ p ∧ p ≤ 9223372036854775807) :
    Calls Tryd.prog 27 #[dev a n c b m d l q, .int .i64 p] w fun e w' => e = .returned (.tuple #[.int .u64 (loadR D p), .int .i64 (asked D p)]) ∧ Below w.heap.size w w' := by
  have hli := va.im.len
  have hll := va.dl.len
  have hnt := va.im.top
  have hmt := va.dl.short
  have B1 : Below w.heap.size w (w.alloc (box a n c b m d l q)) := below_new (Below.refl _ _)
  have X1 := Box.new w #[.slice a n c, .slice b m d, .int .i64 l, .bool q] 25
  by_cases h : asked D p = 0
  · have hb : (asked D p != 0) = false := by simpa using h
    obtain ⟨hok, hp0, hp1⟩ := asked_parts h
    obtain ⟨⟨⟨h0, h1, -⟩, -⟩, hdl⟩ := ok_parts hok
    have HL := Lib.hid ((show loadR D p = (wordsL D.im D.dl).getD p.toNat 0 from by unfold loadR; rw [if_pos h]).trans (words_find hp0 hdl (by omega) hp1))
    have HOK := Lib.hid hdl
    have H0 := Lib.hid h
    clear h hok hdl
    obtain ⟨b0, o0, rfl⟩ := va.im.lies (by omega)
    go_enter Tryd.func27, Tryd.ntmps27
    go_wp2_with fail
    refine (start_any _ _ _ _ _ _ _ _ D p _ (va.keep B1)).mono ?_
    rintro e w2 ⟨rfl, b2⟩
    have s1 := (X1.keep b2).lt
    obtain ⟨⟨x0, x1, x2, x3⟩, f0, f1, f2, f3⟩ := (X1.keep b2).open4
    have B2 := below_then B1 b2
    go_wp2_with fail
    refine (find_any _ _ _ _ _ _ p _ (va.keep B2).dl HOK.out).mono ?_
    rintro e w3 ⟨rfl, b3⟩
    have B3 := below_then B2 b3
    have s3 := ((X1.keep b2).keep b3).lt
    clear x0 x1 x2 x3 f0 f1 f2 f3
    obtain ⟨⟨x0, x1, x2, x3⟩, f0, f1, f2, f3⟩ := ((X1.keep b2).keep b3).open4
    cases hh : hasN p D.dl
    · have HV := Lib.hid (show loadR D p = D.im.getD p.toNat 0 from by rw [HL.out, hh]; rfl)
      have e1 := (va.keep B3).im.at p.toNat (by omega)
      clear HL hh
      generalize D.im.getD p.toNat 0 = V at e1 HV
      go_wp2_with fail
      go_ret2
      rw [HV.out, H0.out]
      exact ⟨rfl, B3⟩
    · obtain ⟨hk, hv, -⟩ := has_at hh
      have HV := Lib.hid (show loadR D p = D.dl[lowN p D.dl].v from by rw [HL.out, hh, hv]; rfl)
      obtain ⟨b1, o1, rfl⟩ := va.dl.lies (by omega)
      obtain ⟨c1, c2, c4⟩ := dw_at (va.keep B3).dl _ hk
      clear HL hh hv
      generalize D.dl[lowN p D.dl] = X at c1 c2 c4 HV
      generalize lowN p D.dl = k at c1 c2 c4 hk ⊢
      go_wp2_with fail
      go_ret2
      rw [HV.out, H0.out]
      exact ⟨rfl, B3⟩
  · have hb : (asked D p != 0) = true := by simpa using h
    have HL := Lib.hid (show loadR D p = 0 from by unfold loadR; rw [if_neg h])
    clear h
    go_enter Tryd.func27, Tryd.ntmps27
    go_wp2_with fail
    refine (start_any _ _ _ _ _ _ _ _ D p _ (va.keep B1)).mono ?_
    rintro e w2 ⟨rfl, b2⟩
    go_wp2_with fail
    go_ret2
    rw [HL.out]
    exact ⟨rfl, below_then B1 b2⟩
theorem view_any (a : Option Addr) (n c : Nat) (b : Option Addr) (m d : Nat) (l : Int) (q : Bool) (D : Dev) (w : World) (va : SeesD w a n c b m d l q D) :
    Calls Tryd.prog 22 #[dev a n c b m d l q] w (GivesPair .u64 30 w (viewR D) (chk D)) := by
  have hli := va.im.len
  have hll := va.dl.len
  have hnt := va.im.top
  have hm := va.dl.short
  have B1 : Below w.heap.size w (w.alloc (box a n c b m d l q)) := below_new (Below.refl _ _)
  have X1 := Box.new w #[.slice a n c, .slice b m d, .int .i64 l, .bool q] 25
  by_cases h : okD D = true
  · have hb : (chk D != 0) = false := by rw [chk_ok h]; rfl
    have HC := Lib.hid (chk_ok h)
    have HV := Lib.hid (show wordsL D.im D.dl = viewR D from by unfold viewR; rw [if_pos h])
    obtain ⟨⟨⟨h0, h1, -⟩, -⟩, hok⟩ := ok_parts h
    have HOK := Lib.hid hok
    clear h hok
    go_enter Tryd.func22, Tryd.ntmps22
    go_wp2_with fail
    refine (check_any _ _ _ _ _ _ _ _ D _ (va.keep B1)).mono ?_
    rintro e w2 ⟨rfl, b2⟩
    have B2 := below_then B1 b2
    have X2 := X1.keep b2
    have s1 := X2.lt
    obtain ⟨⟨x0, x1, x2, x3⟩, f0, f1, f2, f3⟩ := X2.open4
    go_wp2_with fail
    refine (Cn.cloneW_any _ _ _ _ _ (va.keep B2).im).mono ?_
    rintro e w3 ⟨v3, rfl, G3⟩
    obtain ⟨a3, c3, rfl, M3⟩ := G3.made
    obtain ⟨g, rfl⟩ := G3.at0 (by omega)
    have X3 := X2.keep G3.below
    have s3 := X3.lt
    clear x0 x1 x2 x3 f0 f1 f2 f3
    obtain ⟨⟨x0, x1, x2, x3⟩, f0, f1, f2, f3⟩ := X3.open4
    go_wp2_with fail
    go_loopw [19] (fun i wr => ∃ (k : Nat) (zs : List Int), k ≤ m ∧ i = .int .i64 k ∧ Hid (zs.length = D.im.length) ∧ Grows .u64 30 w2 wr (.slice (some ⟨g, 0, none⟩) D.im.length c3) zs ∧ Hid (wordsL D.im D.dl = wordsL zs (D.dl.drop k))) (fun i _ => m - (intOf i).toNat)
    case atStart => exact ⟨0, D.im, Nat.zero_le _, rfl, Lib.hid rfl, G3, Lib.hid rfl⟩
    case round =>
      obtain ⟨k, zs, hk, rfl, hz, G, hW⟩ := hrel
      by_cases hlt : k < m
      · obtain ⟨b0, o0, rfl⟩ := va.dl.lies (by omega)
        have hlt' : k < D.dl.length := by omega
        obtain ⟨c1, c2, c4⟩ := dw_at ((va.dl.keep B2).keep G.below) k hlt'
        obtain ⟨p1, p2⟩ := okDl_at HOK.out hlt'
        have HN := Lib.hid (hW.out.trans (wordsL_drop hlt'))
        generalize D.dl[k] = X at c1 c2 c4 p1 p2 HN
        have G1 := G.keep (below_new (o := .cells #[.int .i64 X.p, .int .u64 X.v, .bool X.f] 36) (Below.refl _ _))
        obtain ⟨e1, e2⟩ := G1.cellAt X.p.toNat (by rw [hz.out]; omega)
        have GS := G1.stored X.p.toNat X.v
        have hz' := Lib.hid (show (zs.set X.p.toNat X.v).length = D.im.length from by rw [List.length_set]; exact hz.out)
        clear hW hz G G1
        go_wp2_with fail
        go_roundw
        case rel => exact ⟨k + 1, _, by omega, by go_num, hz', GS, HN⟩
        case measure => simp [intOf]; omega
      · obtain rfl : k = m := by omega
        have HF := Lib.hid (show zs = viewR D from by rw [← HV.out, hW.out, List.drop_of_length_le (by omega)]; rfl)
        clear hW
        go_wp2_with fail
        go_ret2
        rw [HC.out]
        have G' := G.past B2
        rw [hli] at G'
        exact gives_pair G' HF.out
  · have hb : (chk D != 0) = true := by rw [chk_bad h]; rfl
    have HC := Lib.hid (chk_bad h)
    have HV := Lib.hid (show [] = viewR D from by unfold viewR; rw [if_neg h])
    clear h
    go_enter Tryd.func22, Tryd.ntmps22
    go_wp2_with fail
    refine (check_any _ _ _ _ _ _ _ _ D _ (va.keep B1)).mono ?_
    rintro e w2 ⟨rfl, b2⟩
    have B2 := below_then B1 b2
    go_wp2_with fail
    go_ret2
    rw [HC.out]
    exact gives_pair ((Grows.nil .u64 30 _).past B2) HV.out
end Go.Proofs.YtkjhpjgdcjccjaaDoor.Ca
