/-
  Contracts of the reference of package cache, continued: all words, loading, new devices.
-/
import Derived.Test.YtekgjnbijopieaaCrefb
namespace Go.Proofs.Ytekgjnbijopieaa.Cr
open Go.RowKit Go.Proofs.Ytekgjnbijopieaa.Sl Go.Proofs.Ytekgjnbijopieaa.St Go.Proofs.Ytekgjnbijopieaa.Ir Go.Proofs.Ytekgjnbijopieaa.Dv
set_option maxRecDepth 100000
set_option maxHeartbeats 1000000

theorem rwords_any (a : Option Addr) (n c : Nat) (b : Option Addr) (m d : Nat) (l : Int) (q : Bool) (D : Dev) (w : World) (va : SeesD w a n c b m d l q D) (h : okD D = true) :
    Calls Try.prog 41 #[dev a n c b m d l q] w (GivesList .u64 26 w (wordsL D.im D.dl)) := by
  obtain ⟨⟨⟨h0, h1, -⟩, -⟩, hok⟩ := ok_parts h
  have hli := va.im.len
  have hll := va.dl.len
  have hnt := va.im.top
  have hm := va.dl.short
  have B1 : Below w.heap.size w (w.alloc (box a n c b m d l q)) := below_new (Below.refl _ _)
  have X1 := Box.new w #[.slice a n c, .slice b m d, .int .i64 l, .bool q] 25
  have HOK := Lib.hid hok
  clear hok h
  go_enter Try.func41, Try.ntmps41
  go_wp2_with fail
  refine (twin_any _ _ _ _ _ (va.keep B1).im).mono ?_
  rintro e w2 ⟨a2, c2, rfl, M2⟩
  obtain ⟨g, rfl⟩ := M2.grows.at0 (by omega)
  have C2 := below_then B1 M2.2
  have s1 := (X1.keep M2.2).lt
  obtain ⟨⟨x0, x1, x2, x3⟩, f0, f1, f2, f3⟩ := (X1.keep M2.2).open4
  go_wp2_with fail
  go_loopw [4] (fun i wr => ∃ (k : Nat) (zs : List Int), k ≤ m ∧ i = .int .i64 k ∧ Hid (zs.length = D.im.length) ∧ Grows .u64 26 (w.alloc (box a n c b m d l q)) wr (.slice (some ⟨g, 0, none⟩) D.im.length c2) zs ∧ Hid (wordsL D.im D.dl = wordsL zs (D.dl.drop k))) (fun i _ => m - (intOf i).toNat)
  case atStart => exact ⟨0, D.im, Nat.zero_le _, rfl, Lib.hid rfl, M2.grows, Lib.hid rfl⟩
  case round =>
    obtain ⟨k, zs, hk, rfl, hz, G, hW⟩ := hrel
    have X := X1.keep G.below
    have s := X.lt
    clear x0 x1 x2 x3 f0 f1 f2 f3
    obtain ⟨⟨x0, x1, x2, x3⟩, f0, f1, f2, f3⟩ := X.open4
    by_cases hlt : k < m
    · obtain ⟨b0, o0, rfl⟩ := va.dl.lies (by omega)
      have hlt' : k < D.dl.length := by omega
      obtain ⟨c1, c2, -⟩ := dw_at ((va.dl.keep B1).keep G.below) k hlt'
      obtain ⟨p1, p2⟩ := okDl_at HOK.out hlt'
      have HN := Lib.hid (hW.out.trans (wordsL_drop hlt'))
      generalize D.dl[k].p = P at c1 p1 p2 HN
      generalize D.dl[k].v = V at c2 HN
      obtain ⟨e1, e2⟩ := G.cellAt P.toNat (by rw [hz.out]; omega)
      have GS := G.stored P.toNat V
      have hz' := Lib.hid (show (zs.set P.toNat V).length = D.im.length from by rw [List.length_set]; exact hz.out)
      clear hW hz G
      go_wp2_with fail
      go_region
      go_wp2
      go_roundw
      case rel => exact ⟨k + 1, _, by omega, by go_num, hz', GS.keep (Below.drew (Below.refl _ _)), HN⟩
      case measure => simp [intOf]; omega
    · obtain rfl : k = m := by omega
      have HF := Lib.hid (show zs = wordsL D.im D.dl from by rw [hW.out, List.drop_of_length_le (by omega)]; rfl)
      clear hW
      go_wp2
      go_ret
      have G' := G.past B1
      rw [HF.out, hli] at G'
      exact gives_list G'
/-- Load. -/
def loadR (D : Dev) (p : Int) : Int := if asked D p = 0 then (wordsL D.im D.dl).getD p.toNat 0 else 0
theorem rload_any (a : Option Addr) (n c : Nat) (b : Option Addr) (m d : Nat) (l : Int) (q : Bool) (D : Dev) (p : Int) (w : World) (va : SeesD w a n c b m d l q D) :
    Calls Try.prog 21 #[dev a n c b m d l q, .int .i64 p] w fun e w' => e = .returned (.tuple #[.int .u64 (loadR D p), .int .i64 (asked D p)]) ∧ Below w.heap.size w w' := by
  have hli := va.im.len
  have B1 : Below w.heap.size w (w.alloc (box a n c b m d l q)) := below_new (Below.refl _ _)
  have X1 := Box.new w #[.slice a n c, .slice b m d, .int .i64 l, .bool q] 25
  by_cases h : asked D p = 0
  · have hb : (asked D p == 0) = true := by simpa using h
    have HL := Lib.hid (show loadR D p = (wordsL D.im D.dl).getD p.toNat 0 from by unfold loadR; rw [if_pos h])
    have hok : okD D = true := by
      by_cases hk : okD D = true
      · exact hk
      · rw [asked_bad hk] at h
        cases h
    have hp : 0 ≤ p ∧ p < D.im.length := by
      rcases (by omega : (p < 0 ∨ (D.im.length : Int) ≤ p) ∨ (0 ≤ p ∧ p < D.im.length)) with h1 | h1
      · rw [asked_arg hok h1] at h
        cases h
      · exact h1
    have HOK := Lib.hid hok
    have H0 := Lib.hid h
    clear h hok
    go_enter Try.func21, Try.ntmps21
    go_wp2_with fail
    refine (rask_any _ _ _ _ _ _ _ _ D p _ (va.keep B1)).mono ?_
    rintro e w2 ⟨rfl, b2⟩
    have s1 := (X1.keep b2).lt
    obtain ⟨⟨x0, x1, x2, x3⟩, f0, f1, f2, f3⟩ := (X1.keep b2).open4
    have B2 := below_then B1 b2
    go_wp2_with fail
    refine (rwords_any _ _ _ _ _ _ _ _ D _ (va.keep B2) HOK.out).mono ?_
    rintro e w3 ⟨a3, c3, rfl, M3⟩
    have hw := wordsL_len D.dl D.im
    obtain ⟨g, rfl⟩ := M3.grows.at0 (by rw [hw]; omega)
    obtain ⟨e1, e2⟩ := M3.grows.cellAt p.toNat (by rw [hw]; omega)
    rw [← HL.out] at e1
    go_wp2
    go_ret2
    have H0' := H0.out
    rw [H0']
    exact ⟨rfl, below_then B2 M3.2⟩
  · have hb : (asked D p == 0) = false := by simpa using h
    have HL := Lib.hid (show loadR D p = 0 from by unfold loadR; rw [if_neg h])
    clear h
    go_enter Try.func21, Try.ntmps21
    go_wp2_with fail
    refine (rask_any _ _ _ _ _ _ _ _ D p _ (va.keep B1)).mono ?_
    rintro e w2 ⟨rfl, b2⟩
    have s1 := (X1.keep b2).lt
    obtain ⟨⟨x0, x1, x2, x3⟩, f0, f1, f2, f3⟩ := (X1.keep b2).open4
    have B2 := below_then B1 b2
    go_wp2_with fail
    refine (rask_any _ _ _ _ _ _ _ _ D p _ (va.keep B2)).mono ?_
    rintro e w3 ⟨rfl, b3⟩
    go_wp2
    go_ret2
    rw [HL.out]
    exact ⟨rfl, below_then B2 b3⟩
/-- View. -/
def viewR (D : Dev) : List Int := if okD D = true then wordsL D.im D.dl else []
theorem rview_any (a : Option Addr) (n c : Nat) (b : Option Addr) (m d : Nat) (l : Int) (q : Bool) (D : Dev) (w : World) (va : SeesD w a n c b m d l q D) :
    Calls Try.prog 22 #[dev a n c b m d l q] w (GivesPair .u64 26 w (viewR D) (chk D)) := by
  have B1 : Below w.heap.size w (w.alloc (box a n c b m d l q)) := below_new (Below.refl _ _)
  by_cases h : okD D = true
  · have hb : (chk D == 0) = true := by rw [chk_ok h]; rfl
    have HC := Lib.hid (chk_ok h)
    have HV := Lib.hid (show wordsL D.im D.dl = viewR D from by unfold viewR; rw [if_pos h])
    have HOK := Lib.hid h
    clear h
    go_enter Try.func22, Try.ntmps22
    go_wp2_with fail
    refine (rchk_any _ _ _ _ _ _ _ _ D _ (va.keep B1)).mono ?_
    rintro e w2 ⟨rfl, o, j, rfl⟩
    have B2 := below_drewN (below_new (o := o) B1) j
    go_wp2_with fail
    refine (rwords_any _ _ _ _ _ _ _ _ D _ (va.keep B2) HOK.out).mono ?_
    rintro e w3 ⟨a3, c3, rfl, M3⟩
    go_wp2
    go_ret2
    rw [HC.out]
    exact gives_pair (M3.grows.past B2) HV.out
  · have hb : (chk D == 0) = false := by rw [chk_bad h]; rfl
    have HC := Lib.hid (chk_bad h)
    have HV := Lib.hid (show [] = viewR D from by unfold viewR; rw [if_neg h])
    clear h
    go_enter Try.func22, Try.ntmps22
    go_wp2_with fail
    refine (rchk_any _ _ _ _ _ _ _ _ D _ (va.keep B1)).mono ?_
    rintro e w2 ⟨rfl, o, j, rfl⟩
    have B2 := below_drewN (below_new (o := o) B1) j
    go_wp2
    go_ret2
    rw [HC.out]
    exact gives_pair ((Grows.nil .u64 26 _).past B2) HV.out
/-- A new device. -/
def newD (xs : List Int) : Dev := if Img xs.length then ⟨xs, [], -1, false⟩ else zdev
def newE (xs : List Int) : Int := if Img xs.length then 0 else 8
theorem rnew3_any (a : Option Addr) (n c : Nat) (xs : List Int) (w : World) (va : Sees w .u64 a n c xs) :
    Calls Try.prog 25 #[.slice a n c] w fun e w' => ∃ v, e = .returned (.tuple #[v, .int .i64 (newE xs)]) ∧ MadeD w (newD xs) v w' := by
  have hl := va.len
  subst hl
  have B1 : Below w.heap.size w (w.alloc zbox) := below_new (Below.refl _ _)
  have X1 := Box.new w #[.slice none 0 0, .slice none 0 0, .int .i64 0, .bool false] 25
  by_cases h : Img xs.length
  · have HE := Lib.hid (show newE xs = 0 from by unfold newE; rw [if_pos h])
    have HD := Lib.hid (show newD xs = ⟨xs, [], -1, false⟩ from by unfold newD; rw [if_pos h])
    go_enter Try.func25, Try.ntmps25
    go_wp2_with fail
    refine (rcheck_yes _ _ c _ h).mono ?_
    rintro e w' ⟨rfl, rfl⟩
    go_wp2_with fail
    refine (twin_any _ _ _ _ _ (va.keep B1)).mono ?_
    rintro e w3 ⟨a3, c3, rfl, M3⟩
    have C3 := below_then B1 M3.2
    have t1 := (X1.keep M3.2).lt
    obtain ⟨⟨y0, y1, y2, y3⟩, g0, g1, g2, g3⟩ := (X1.keep M3.2).open4
    have P1 := owns_mono M3.1 (show w.heap.size + 1 ≤ _ by simp)
    clear M3 X1
    go_wp2
    refine bodyPost_ret (by simp [results, Try.results25, go_sem, y0, y1, y2, y3]; try rfl) rfl ?_
    rw [HE.out, HD.out]
    refine ⟨_, rfl, MadeD.mk (w.heap.size + 1) ?_ (by omega) (owns_mid P1 (Nat.le_refl _) ?_ (Nat.le_refl _)) (World.ownsRow_nil _ _ _ _) rfl rfl⟩
    · repeat' (first | (with_reducible refine Below.setCell ?_ (by simp) _) | (with_reducible refine below_new ?_) | with_reducible exact C3)
    · repeat' (first | (with_reducible refine Mid.set ?_ (by left; simp) _) | (with_reducible refine Mid.alloc ?_ _) | with_reducible exact Mid.refl _ _)
  · have HE := Lib.hid (show newE xs = 8 from by unfold newE; rw [if_neg h])
    have HD := Lib.hid (show newD xs = zdev from by unfold newD; rw [if_neg h])
    go_enter Try.func25, Try.ntmps25
    go_wp2_with fail
    refine (rcheck_no _ _ c _ h).mono ?_
    rintro e w' ⟨rfl, rfl⟩
    go_wp2
    refine bodyPost_ret (by simp [results, Try.results25, go_sem]; try rfl) rfl ?_
    rw [HE.out, HD.out]
    exact ⟨_, rfl, MadeD.zero B1⟩
end Go.Proofs.Ytekgjnbijopieaa.Cr
