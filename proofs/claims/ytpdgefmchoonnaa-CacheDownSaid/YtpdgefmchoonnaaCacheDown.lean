/-
  The law CacheDown returns true for every device, all entries and kinds; no condition.
-/
import Derived.Test.YtpdgefmchoonnaaCachex
import Derived.Test.YtpdgefmchoonnaaDevOpen
import Derived.SizedLaws
import Derived.Test.YtpdgefmchoonnaaEnt
import Derived.Test.YtpdgefmchoonnaaCachey
import Derived.Test.YtpdgefmchoonnaaCachea
import Derived.Deep.DeepCutAuto
import Derived.Deep.RegionHeld3
namespace Go.Proofs.Ytpdgefmchoonnaa.cacheDown
open Go.Proofs.Ytpdgefmchoonnaa.Cy Go.Proofs.Ytpdgefmchoonnaa.Cx Go.ChangeShapes Go.WideShapes Go.ChangeAt Go.RowKit Go.Proofs.Ytpdgefmchoonnaa.Sl Go.Proofs.Ytpdgefmchoonnaa.St Go.Proofs.Ytpdgefmchoonnaa.Ir Go.Proofs.Ytpdgefmchoonnaa.Dv Go.Proofs.Ytpdgefmchoonnaa.Cr Go.Proofs.Ytpdgefmchoonnaa.Cu
set_option linter.unusedVariables false
set_option maxRecDepth 100000


/-- What any operation leaves of a device. -/
structure Nxt (X Y : Dev) : Prop where
  ok : okD Y = true
  len : Y.im.length = X.im.length
  left : Y.left = (spent X).left
  down : Y.down = (spent X).down
  same : made X = false → Y = spent X
theorem nxt_stored {X : Dev} {p u : Int} (h : okD X = true) (hp : 0 ≤ p ∧ p < X.im.length) : Nxt X (storedD X p u) := by
  refine ⟨ok_stored h hp, len_stored, ?_, ?_, fun hm => ?_⟩
  · unfold storedD; split <;> rfl
  · unfold storedD; split <;> rfl
  · unfold storedD; rw [hm]; rfl
theorem nxt_flushed {X : Dev} {p : Int} (h : okD X = true) : Nxt X (flushedD X p) := by
  refine ⟨ok_flushed h, len_flushed, ?_, ?_, fun hm => ?_⟩
  · unfold flushedD; split <;> rfl
  · unfold flushedD; split <;> rfl
  · unfold flushedD; rw [hm]; rfl
theorem nxt_fenced {X : Dev} (h : okD X = true) : Nxt X (fencedD X) := by
  refine ⟨ok_fenced h, len_fenced, ?_, ?_, fun hm => ?_⟩
  · unfold fencedD; split <;> rfl
  · unfold fencedD; split <;> rfl
  · unfold fencedD; rw [hm]; rfl
theorem spent_same {X : Dev} (h : okD X = true) (hd : X.down = true) : spent X = X ∧ made X = false := by
  have h0 := (ok_parts h).1.2.2.2 hd
  refine ⟨?_, by unfold made; rw [decide_eq_true h0]; rfl⟩
  unfold spent
  rw [if_pos h0]
  cases X
  simp_all
/-- The device behind so many operations. -/
structure Behind (D X : Dev) (i : Nat) : Prop where
  ok : okD X = true
  len : X.im.length = D.im.length
  rest : (D.left = -1 ∧ X.left = -1) ∨ (0 ≤ D.left ∧ X.left = (if (i : Int) ≤ D.left then D.left - i else 0))
theorem Behind.start {D : Dev} (h : okD D = true) : Behind D D 0 := by
  refine ⟨h, rfl, ?_⟩
  have h1 := (ok_parts h).1.2.1
  rcases (by omega : D.left = -1 ∨ 0 ≤ D.left) with h2 | h2
  · exact .inl ⟨h2, h2⟩
  · exact .inr ⟨h2, by rw [if_pos (by omega)]; omega⟩
theorem Behind.down {D X Y : Dev} {i : Nat} (h : Behind D X i) (hY : Nxt X Y) : Y.down = decide (0 ≤ D.left ∧ D.left ≤ i) := by
  rw [hY.down, down_spent h.ok]
  unfold made
  rw [Bool.not_not]
  refine decide_eq_decide.2 ?_
  rcases h.rest with ⟨h1, h2⟩ | ⟨h1, h2⟩
  · omega
  · rw [h2]
    split <;> omega
theorem Behind.step {D X Y : Dev} {i : Nat} (h : Behind D X i) (hY : Nxt X Y) : Behind D Y (i + 1) := by
  refine ⟨hY.ok, hY.len.trans h.len, ?_⟩
  have hl := hY.left
  rcases h.rest with ⟨h1, h2⟩ | ⟨h1, h2⟩
  · refine .inl ⟨h1, ?_⟩
    rw [hl]
    unfold spent
    rw [if_neg (by omega), if_neg (by omega)]
    exact h2
  · refine .inr ⟨h1, ?_⟩
    rw [hl]
    unfold spent
    split at h2
    · by_cases h0 : X.left = 0
      · rw [if_pos h0, if_neg (by omega)]
        exact h0
      · rw [if_neg h0, if_pos (by omega), if_pos (by omega)]
        show X.left - 1 = _
        omega
    · rw [if_pos h2, if_neg (by omega)]
      exact h2
/-- A device variable, told by its block alone. -/
def VarX (W : World) (B n : Nat) (q : Bool) (X : Dev) : Prop := ∃ a c b m d l, Var W B a n c b m d l q X
theorem VarX.keep {W W' : World} {B n : Nat} {q : Bool} {X : Dev} (h : VarX W B n q X) (hb : Below W.heap.size W W') : VarX W' B n q X := by
  obtain ⟨a, c, b, m, d, l, h⟩ := h
  exact ⟨a, c, b, m, d, l, h.keep hb⟩
theorem sees_zero (W : World) : SeesD W none 0 0 none 0 0 0 false zdev :=
  ⟨⟨rfl, Nat.le_refl _, by decide, by simp [zdev], fun _ => ⟨rfl, rfl⟩, .inl rfl⟩, ⟨rfl, Nat.le_refl _, by decide, by simp [zdev], fun _ => ⟨rfl, rfl⟩, .inl rfl⟩, rfl, rfl, by decide, by decide⟩
theorem var_zero (W : World) : Var (W.alloc zbox) W.heap.size none 0 0 none 0 0 0 false zdev := Var.new (sees_zero W)
theorem put4_but (W : World) (B : Nat) (y0 y1 y2 y3 : Value) : W.grownBy (put4 W B y0 y1 y2 y3) (some B) :=
  but_set (but_set (but_set (but_set (but_refl W (some B)) (p := ⟨B, 0, none⟩) (.inl rfl) y0) (p := ⟨B, 1, none⟩) (.inl rfl) y1) (p := ⟨B, 2, none⟩) (.inl rfl) y2) (p := ⟨B, 3, none⟩) (.inl rfl) y3

set_option maxHeartbeats 4000000 in
theorem walk_main (a : Option Addr) (n c : Nat) (b : Option Addr) (m d : Nat) (l : Int) (q : Bool) (D : Dev) (ea : Option Addr) (N ec : Nat) (ka : Option Addr) (kc : Nat) (es : List En) (ks : List Int) (w : World) (s : SeesD w a n c b m d l q D) (se : SeesR en w ea N ec es) (sk : Sees w .i64 ka N kc ks) (hok : okD D = true) (hg : greatD n m = false) (hN : N ≤ 20) :
    Calls Try.prog 3 #[dev a n c b m d l q, .slice ea N ec, .slice ka N kc] w fun e w' => e = .returned (.bool true) ∧ Below w.heap.size w w' := by
  have HOK := Lib.hid hok
  have HC := Lib.hid (chk_ok hok)
  have hnt : n ≤ 2048 := by have h1 := (ok_short hok).2.1; have h2 := s.im.len; omega
  clear hok
  have C := below_new (o := box a n c b m d l q) (Below.refl w.heap.size w)
  have Hd := Var.new s
  go_enter Try.func3, Try.ntmps3
  go_wp2_with fail
  refine (rgreat_any _ _ _ _ _ _ _ _ _ s.dl.short).mono ?_
  rintro e w1 ⟨rfl, b1⟩
  replace Hd := Hd.keep b1
  replace C := below_then C b1
  rw [hg]
  have tx := Hd.box.lt
  obtain ⟨x0, x1, x2, x3⟩ := Hd.cells
  go_wp2_with fail
  refine (chk_b _ _ _ _ _ _ _ _ D _ Hd.sees).mono ?_
  rintro e w2 ⟨rfl, b2⟩
  replace Hd := Hd.keep b2
  replace C := below_then C b2
  rw [HC.out]
  clear tx x0 x1 x2 x3
  have tx := Hd.box.lt
  obtain ⟨x0, x1, x2, x3⟩ := Hd.cells
  go_wp2_with fail
  all_goals first | (exfalso; omega) | skip
  clear tx x0 x1 x2 x3
  have nb : Below w2.heap.size w2 (w2.alloc (box a n c b m d l q)) := below_new (Below.refl _ _)
  have NB := Lib.hid (Nat.ne_of_lt Hd.box.lt)
  have LB := Lib.hid C.size
  have Hx := Var.new Hd.sees
  replace Hd := Hd.keep nb
  replace C := below_then C nb
  have HST := Lib.hid (Behind.start HOK.out)
  clear nb
  go_loopw [8] (fun s8 W => ∃ (i : Nat) (X : Dev) (r : Bool), i ≤ N ∧ s8 = .int .i64 i ∧ Hid (Behind D X i) ∧ Var W w.heap.size a n c b m d l q D ∧ VarX W w2.heap.size n r X ∧ Below w.heap.size w W) (fun s8 _ => N - (intOf s8).toNat)
  case atStart => exact ⟨0, D, q, Nat.zero_le _, rfl, HST, Hd, ⟨a, c, b, m, d, l, Hx⟩, C⟩
  case round =>
    clear Hd Hx C
    obtain ⟨i, X, r, hi, rfl, HX, Hd, ⟨ax, cx, bx, mx, dx, lx, Hx⟩, C⟩ := hrel
    have tx := Hd.box.lt
    have tz := Hx.box.lt
    obtain ⟨x0, x1, x2, x3⟩ := Hd.cells
    by_cases hlt : i < N
    · obtain ⟨ge, oe, rfl⟩ := se.lies (by omega)
      obtain ⟨gk, ok, rfl⟩ := sk.lies (by omega)
      have hi' : i < es.length := by rw [se.len]; omega
      have hgood := se.good _ (List.getElem_mem hi')
      have bd : Below wr.heap.size wr wr.drew := (Below.refl _ _).drew
      obtain ⟨e1, e2⟩ := en_at (se.keep C) i hi'
      generalize hE : es[i] = E at e1 e2 hgood
      obtain ⟨P, V⟩ := E
      replace hE := Lib.hid hE
      obtain ⟨hP, hV⟩ := hgood
      simp only at e1 e2 hP hV
      rcases (by omega : P < 0 ∨ (0 ≤ P ∧ (n : Int) ≤ P) ∨ (0 ≤ P ∧ P < n)) with hp | ⟨hp0, hp⟩ | ⟨hp0, hp⟩
      · have hd1 : decide (P < 0) = true := decide_eq_true hp
        go_wp2_with fail
        go_quiet (fail)
        go_wp2_with fail
        refine (Al.alive_any _).mono ?_
        rintro e wb ⟨rfl, bb⟩
        go_wp2
        go_ret
        exact ⟨rfl, below_then (below_drewN C _) bb⟩
      · have hd1 : decide (P < 0) = false := decide_eq_false (by omega)
        go_wp2_with fail
        go_quiet (fail)
        go_wp2_with fail
        refine (Al.alive_any _).mono ?_
        rintro e wb ⟨rfl, bb⟩
        go_wp2
        go_ret
        exact ⟨rfl, below_then (below_drewN C _) bb⟩
      · have hd1 : decide (P < 0) = false := decide_eq_false (by omega)
        go_wp2_with fail
        go_quiet (fail)
        go_upto_region 9 with fail
        have bq : Below wr.heap.size wr (wr.drewN nq) := below_drewN (Below.refl _ _) _
        replace Hd := Hd.keep bq
        replace Hx := Hx.keep bq
        replace C := below_then C bq
        generalize wr.drewN nq = wq at Hd Hx C ⊢
        clear bq x0 x1 x2 x3 tx tz e1 e2 bd hd1
        go_cut [9, 10] (fun s9 s10 wx => ∃ (Bn : Nat) (Y : Dev) (ry : Bool), s9 = .pointer (some ⟨Bn, 0, none⟩) ∧ s10 = .int .i64 0 ∧ Hid (Nxt X Y) ∧ Hid (w.heap.size ≠ Bn ∧ w2.heap.size ≠ Bn ∧ w.heap.size ≤ Bn) ∧ Var wx w.heap.size a n c b m d l q D ∧ VarX wx w2.heap.size n r X ∧ VarX wx Bn n ry Y ∧ Below w.heap.size w wx)
        case first =>
          have bd : Below wq.heap.size wq wq.drew := (Below.refl _ _).drew
          have bz : Below wq.heap.size wq (wq.alloc zbox).drew := (below_new (Below.refl _ _)).drew
          have Nd := Lib.hid (Nat.ne_of_lt Hd.box.lt)
          have Hd' := Hd.keep bd
          have Hd'' := Hd.keep bz
          have Nx := Lib.hid (Nat.ne_of_lt Hx.box.lt)
          have Hx' := Hx.keep bd
          have Hx'' := Hx.keep bz
          have LA := Lib.hid C.size
          have C' := below_then C bd
          have C'' := below_then C bz
          have Zb := (var_zero wq).keep (Below.refl _ (wq.alloc zbox)).drew
          have t1 := Hx'.box.lt
          have t1' := Hx''.box.lt
          obtain ⟨e1, e2⟩ := en_at (se.keep C') i hi'
          rw [hE.out] at e1 e2
          simp only at e1 e2
          obtain ⟨f1, f2⟩ := en_at (se.keep C'') i hi'
          rw [hE.out] at f1 f2
          simp only at f1 f2
          have hok := HX.out.ok
          have hlen : X.im.length = n := Hx.sees.im.len
          have HNX := Lib.hid (nxt_stored (p := P) (u := V) hok (by omega))
          have HOX := Lib.hid hok
          clear hok hlen
          go_region_held3 (fun w' => (w'.cell? ⟨w2.heap.size, 0, none⟩ = some (.slice ax n cx) ∧ w'.cell? ⟨w2.heap.size, 1, none⟩ = some (.slice bx mx dx) ∧ w'.cell? ⟨w2.heap.size, 2, none⟩ = some (.int .i64 lx) ∧ w'.cell? ⟨w2.heap.size, 3, none⟩ = some (.bool r)) ∧ w'.cell? ⟨ge, oe + i * 2, none⟩ = some (.int .i64 P) ∧ w'.cell? ⟨ge, oe + i * 2 + 1, none⟩ = some (.int .u64 V))
            (first | with_reducible exact ⟨Hx'.cells, e1, e2⟩ | with_reducible exact ⟨Hx''.cells, f1, f2⟩ | with_reducible exact ⟨Hx2.cells, k1, k2⟩ | with_reducible exact ⟨Hxz.cells, j1, j2⟩ | with_reducible exact ⟨Hx3.cells, u1, u2⟩)
            (first
            | (go_at_call 7
               refine (store_x _ _ _ _ _ _ _ _ X P V _ Hx'.sees HOX.out (by omega) hV _ rfl _ rfl).mono ?_
               rintro e w3 ⟨a2, c2, g2, m2, d2, l2, rfl, S2, b2⟩
               have Hd2 := Hd'.keep b2
               have Hx2 := Hx'.keep b2
               have C2 := below_then C' b2
               obtain ⟨k1, k2⟩ := en_at (se.keep C2) i hi'
               rw [hE.out] at k1 k2
               simp only at k1 k2
               have bzz : Below w3.heap.size w3 (w3.alloc zbox) := below_new (Below.refl _ _)
               have Hxz := Hx2.keep bzz
               obtain ⟨j1, j2⟩ := en_at (se.keep (below_then C2 bzz)) i hi'
               rw [hE.out] at j1 j2
               simp only at j1 j2
               have H9 := Var.new S2
               have nb : Below w3.heap.size w3 (w3.alloc (box a2 n c2 g2 m2 d2 l2 (storedD X P V).down)) := below_new (Below.refl _ _)
               have HB9 := Lib.hid (show w.heap.size ≠ w3.heap.size ∧ w2.heap.size ≠ w3.heap.size ∧ w.heap.size ≤ w3.heap.size from ⟨Nat.ne_of_lt Hd2.box.lt, Nat.ne_of_lt Hx2.box.lt, C2.size⟩)
               have Hd3 := Hd2.keep nb
               have Hx3 := Hx2.keep nb
               have C3 := below_then C2 nb
               obtain ⟨u1, u2⟩ := en_at (se.keep C3) i hi'
               rw [hE.out] at u1 u2
               simp only at u1 u2
               have t2 := Hx2.box.lt)
            | (go_at_call 7
               refine (store_x _ _ _ _ _ _ _ _ X P V _ Hx''.sees HOX.out (by omega) hV _ rfl _ rfl).mono ?_
               rintro e w3 ⟨a2, c2, g2, m2, d2, l2, rfl, S2, b2⟩
               have Hd2 := Hd''.keep b2
               have Hx2 := Hx''.keep b2
               have C2 := below_then C'' b2
               obtain ⟨k1, k2⟩ := en_at (se.keep C2) i hi'
               rw [hE.out] at k1 k2
               simp only at k1 k2
               have Z2 := Zb.keep b2
               have tn := Z2.box.lt
               obtain ⟨⟨q0, q1, q2, q3⟩, g0, g1, g3, g4⟩ := Z2.box.open4
               have H9 := Z2.put S2
               have Hd3 := Z2.far (y0 := .slice a2 n c2) (y1 := .slice g2 m2 d2) (y2 := .int .i64 l2) (y3 := .bool (storedD X P V).down) Hd2 Nd.out
               have Hx3 := Z2.far (y0 := .slice a2 n c2) (y1 := .slice g2 m2 d2) (y2 := .int .i64 l2) (y3 := .bool (storedD X P V).down) Hx2 Nx.out
               have C3 := below_put (B := wq.heap.size) (y0 := .slice a2 n c2) (y1 := .slice g2 m2 d2) (y2 := .int .i64 l2) (y3 := .bool (storedD X P V).down) C2 LA.out
               have HB9 := Lib.hid (show w.heap.size ≠ wq.heap.size ∧ w2.heap.size ≠ wq.heap.size ∧ w.heap.size ≤ wq.heap.size from ⟨Nd.out, Nx.out, LA.out⟩)
               obtain ⟨u1, u2⟩ := en_at (se.keep C3) i hi'
               rw [hE.out] at u1 u2
               simp only at u1 u2
               dsimp only [put4] at H9 C3 u1 u2 Hd3 Hx3
               have t2 := Hx2.box.lt))
          all_goals
            clear t1 t1' t2 C' C'' bd bz Zb C2 S2 e1 e2 f1 f2 k1 k2 u1 u2 Hd' Hd'' Hd2 Hx' Hx'' Hx2
            go_wp2_with fail
            go_meet
            case rel => exact ⟨_, _, _, rfl, rfl, HNX, HB9, Hd3, ⟨ax, cx, bx, mx, dx, lx, Hx3⟩, ⟨a2, c2, g2, m2, d2, l2, H9⟩, C3⟩
        case rest =>
          obtain ⟨Bn, Y, ry, rfl, rfl, HN, HBN, Hd, ⟨ax', cx', bx', mx', dx', lx', Hx⟩, ⟨ay, cy, by', my, dy, ly, Hn⟩, C⟩ := hcut
          have r1 := (sk.keep C).at i hlt
          generalize ks.getD i 0 = kk at r1
          go_step
          go_step
          go_cut [10] (fun s10 wx => s10 = .int .i64 0 ∧ ∃ (Y : Dev) (ry : Bool), Hid (Nxt X Y) ∧ Var wx w.heap.size a n c b m d l q D ∧ VarX wx w2.heap.size n r X ∧ VarX wx Bn n ry Y ∧ Below w.heap.size w wx)
          case first =>
            have hok := HX.out.ok
            have hlen : X.im.length = n := Hx.sees.im.len
            have HOX := Lib.hid hok
            have HNF := Lib.hid (nxt_flushed (p := P) hok)
            have HNC := Lib.hid (nxt_fenced hok)
            clear hok hlen
            rcases (by omega : kk = 1 ∨ kk = 2 ∨ (kk ≠ 1 ∧ kk ≠ 2)) with rfl | rfl | ⟨hk1, hk2⟩
            · have bd : Below wc.heap.size wc wc.drew := (Below.refl _ _).drew
              have Hd' := Hd.keep bd
              have Hx' := Hx.keep bd
              have Hn' := Hn.keep bd
              have C' := below_then C bd
              have t1 := Hx'.box.lt
              obtain ⟨e1, -⟩ := en_at (se.keep C') i hi'
              rw [hE.out] at e1
              simp only at e1
              obtain ⟨x0, x1, x2, x3⟩ := Hx'.cells
              go_wp2_with fail
              go_region_law (first
                | (go_simp
                   go_at_call 8
                   refine (flush_x _ _ _ _ _ _ _ _ X P _ Hx'.sees HOX.out (by omega) _ rfl _ rfl).mono ?_
                   rintro e w3 ⟨a2, c2, g2, m2, d2, l2, rfl, S2, b2⟩
                   have Hd2 := Hd'.keep b2
                   have Hx2 := Hx'.keep b2
                   have Hn2 := Hn'.keep b2
                   have C2 := below_then C' b2
                   have t2 := Hx2.box.lt
                   have tn := Hn2.box.lt
                   obtain ⟨⟨q0, q1, q2, q3⟩, f0, f1, f2, f3⟩ := Hn2.box.open4))
              all_goals
                have H9 := Hn2.put S2
                have Hd3 := Hn2.far (y0 := .slice a2 n c2) (y1 := .slice g2 m2 d2) (y2 := .int .i64 l2) (y3 := .bool (flushedD X P).down) Hd2 HBN.out.1
                have Hx3 := Hn2.far (y0 := .slice a2 n c2) (y1 := .slice g2 m2 d2) (y2 := .int .i64 l2) (y3 := .bool (flushedD X P).down) Hx2 HBN.out.2.1
                have C3 := below_put (B := Bn) (y0 := .slice a2 n c2) (y1 := .slice g2 m2 d2) (y2 := .int .i64 l2) (y3 := .bool (flushedD X P).down) C2 HBN.out.2.2
                clear q0 q1 q2 q3 f0 f1 f2 f3 tn t1 t2 x0 x1 x2 x3 e1 bd Hd' Hx' Hn' C' Hd2 Hx2 Hn2 C2 S2
                dsimp only [put4] at H9 Hd3 Hx3 C3
                go_wp2_with fail
                go_meet
                case rel => exact ⟨rfl, _, _, HNF, Hd3, ⟨ax', cx', bx', mx', dx', lx', Hx3⟩, ⟨a2, c2, g2, m2, d2, l2, H9⟩, C3⟩
            · have t1 := Hx.box.lt
              obtain ⟨x0, x1, x2, x3⟩ := Hx.cells
              go_wp2_with fail
              refine (fence_x _ _ _ _ _ _ _ _ X _ Hx.sees HOX.out _ rfl _ rfl).mono ?_
              rintro e w3 ⟨a2, c2, g2, m2, d2, l2, rfl, S2, b2⟩
              have Hd2 := Hd.keep b2
              have Hx2 := Hx.keep b2
              have Hn2 := Hn.keep b2
              have C2 := below_then C b2
              have t2 := Hx2.box.lt
              have tn := Hn2.box.lt
              obtain ⟨⟨q0, q1, q2, q3⟩, f0, f1, f2, f3⟩ := Hn2.box.open4
              have H9 := Hn2.put S2
              have Hd3 := Hn2.far (y0 := .slice a2 n c2) (y1 := .slice g2 m2 d2) (y2 := .int .i64 l2) (y3 := .bool (fencedD X).down) Hd2 HBN.out.1
              have Hx3 := Hn2.far (y0 := .slice a2 n c2) (y1 := .slice g2 m2 d2) (y2 := .int .i64 l2) (y3 := .bool (fencedD X).down) Hx2 HBN.out.2.1
              have C3 := below_put (B := Bn) (y0 := .slice a2 n c2) (y1 := .slice g2 m2 d2) (y2 := .int .i64 l2) (y3 := .bool (fencedD X).down) C2 HBN.out.2.2
              clear Hd2 Hx2 Hn2 C2 S2
              dsimp only [put4] at H9 Hd3 Hx3 C3
              go_wp2_with fail
              go_meet
              case rel => exact ⟨rfl, _, _, HNC, Hd3, ⟨ax', cx', bx', mx', dx', lx', Hx3⟩, ⟨a2, c2, g2, m2, d2, l2, H9⟩, C3⟩
            · have hb1 : (kk == 1) = false := by simpa using hk1
              have hb2 : (kk == 2) = false := by simpa using hk2
              go_wp2_with fail
              go_meet
              case rel => exact ⟨rfl, _, _, HN, Hd, ⟨ax', cx', bx', mx', dx', lx', Hx⟩, ⟨ay, cy, by', my, dy, ly, Hn⟩, C⟩
          case rest =>
            clear Hd Hx Hn C HN r1
            obtain ⟨rfl, Y, ry, HN, Hd, ⟨ax', cx', bx', mx', dx', lx', Hx⟩, ⟨ay, cy, by', my, dy, ly, Hn⟩, C⟩ := hcut
            have hry : ry = decide (0 ≤ D.left ∧ D.left ≤ i) := by rw [← HX.out.down HN.out]; exact Hn.sees.down.symm
            rw [Hd.sees.left] at hry
            have td := Hd.box.lt
            have tx := Hx.box.lt
            have tn := Hn.box.lt
            obtain ⟨x0, x1, x2, x3⟩ := Hd.cells
            obtain ⟨z0, z1, z2, z3⟩ := Hx.cells
            obtain ⟨y0, y1, y2, y3⟩ := Hn.cells
            go_step
            go_step
            have hq0 : q = true → l = 0 := fun h => by
              have h3 := (ok_parts HOK.out).1.2.2.2 (Hd.sees.down.trans h)
              rw [Hd.sees.left] at h3
              exact h3
            go_cut [] (fun wx => wx = wc)
            case first =>
              cases q
              · rcases (by omega : l < 0 ∨ (0 ≤ l ∧ l ≤ i) ∨ (0 ≤ l ∧ (i : Int) < l)) with h1 | ⟨h1, h2⟩ | ⟨h1, h2⟩
                · obtain rfl : ry = false := by rw [hry]; simp; omega
                  clear hry
                  go_wp2_with fail
                  all_goals first | (exfalso; omega) | skip
                  go_meet
                  case rel => rfl
                · obtain rfl : ry = true := by rw [hry]; simp; omega
                  clear hry
                  go_wp2_with fail
                  all_goals first | (exfalso; omega) | skip
                  go_meet
                  case rel => rfl
                · obtain rfl : ry = false := by rw [hry]; simp; omega
                  clear hry
                  go_wp2_with fail
                  all_goals first | (exfalso; omega) | skip
                  go_meet
                  case rel => rfl
              · have h1 := hq0 rfl
                obtain rfl : ry = true := by rw [hry]; simp; omega
                clear hry hq0
                go_wp2_with fail
                all_goals first | (exfalso; omega) | skip
                go_meet
                case rel => rfl
            case rest =>
            subst hcut
            clear hry hq0 x0 x1 x2 x3 y0 y1 y2 y3
            go_step
            go_step
            go_cut [] (fun wx => Var wx w.heap.size a n c b m d l q D ∧ VarX wx w2.heap.size n r X ∧ VarX wx Bn n ry Y ∧ Below w.heap.size w wx)
            case first =>
              cases r
              · go_wp2_with fail
                go_meet
                case rel => exact ⟨Hd, ⟨ax', cx', bx', mx', dx', lx', Hx⟩, ⟨ay, cy, by', my, dy, ly, Hn⟩, C⟩
              · have hok := HX.out.ok
                have hsp := spent_same hok Hx.sees.down
                obtain rfl : Y = X := (HN.out.same hsp.2).trans hsp.1
                have HFL := Lib.hid (((nxt_flushed (p := P) hok).same hsp.2).trans hsp.1)
                have HFC := Lib.hid (((nxt_fenced hok).same hsp.2).trans hsp.1)
                have HXD := Lib.hid Hx.sees.down
                have HOX := Lib.hid hok
                clear hok hsp
                go_upto_region 18 with fail
                clear z0 z1 z2 z3 td tx tn
                go_cut [11, 12] (fun s11 s12 wx => ∃ (By : Nat), s11 = .pointer (some ⟨By, 0, none⟩) ∧ s12 = .int .i64 0 ∧ Var wx w.heap.size a n c b m d l q D ∧ VarX wx w2.heap.size n true Y ∧ VarX wx Bn n ry Y ∧ VarX wx By n true Y ∧ Below w.heap.size w wx)
                case first =>
                  have bd : Below wc.heap.size wc wc.drew := (Below.refl _ _).drew
                  have bz : Below wc.heap.size wc (wc.alloc zbox).drew := (below_new (Below.refl _ _)).drew
                  have Nd := Lib.hid (Nat.ne_of_lt Hd.box.lt)
                  have Hd' := Hd.keep bd
                  have Hd'' := Hd.keep bz
                  have Nx := Lib.hid (Nat.ne_of_lt Hx.box.lt)
                  have Hx' := Hx.keep bd
                  have Hx'' := Hx.keep bz
                  have Nn := Lib.hid (Nat.ne_of_lt Hn.box.lt)
                  have Hn' := Hn.keep bd
                  have Hn'' := Hn.keep bz
                  have LA := Lib.hid C.size
                  have C' := below_then C bd
                  have C'' := below_then C bz
                  have Zb := (var_zero wc).keep (Below.refl _ (wc.alloc zbox)).drew
                  have t1 := Hx'.box.lt
                  have t1' := Hx''.box.lt
                  obtain ⟨e1, e2⟩ := en_at (se.keep C') i hi'
                  rw [hE.out] at e1 e2
                  simp only at e1 e2
                  obtain ⟨f1, f2⟩ := en_at (se.keep C'') i hi'
                  rw [hE.out] at f1 f2
                  simp only at f1 f2
                  go_region_held3 (fun w' => (w'.cell? ⟨w2.heap.size, 0, none⟩ = some (.slice ax' n cx') ∧ w'.cell? ⟨w2.heap.size, 1, none⟩ = some (.slice bx' mx' dx') ∧ w'.cell? ⟨w2.heap.size, 2, none⟩ = some (.int .i64 lx') ∧ w'.cell? ⟨w2.heap.size, 3, none⟩ = some (.bool true)) ∧ w'.cell? ⟨ge, oe + i * 2, none⟩ = some (.int .i64 P))
                    (first | with_reducible exact ⟨Hx'.cells, e1⟩ | with_reducible exact ⟨Hx''.cells, f1⟩ | with_reducible exact ⟨Hx2.cells, k1⟩ | with_reducible exact ⟨Hxz.cells, j1⟩ | with_reducible exact ⟨Hx3.cells, u1⟩)
                    (first
                    | (go_at_call 8
                       refine (flush_x _ _ _ _ _ _ _ _ Y P _ Hx'.sees HOX.out (by omega) _ HFL.out true HXD.out).mono ?_
                       rintro e w3 ⟨a2, c2, g2, m2, d2, l2, rfl, S2, b2⟩
                       have Hd2 := Hd'.keep b2
                       have Hx2 := Hx'.keep b2
                       have Hn2 := Hn'.keep b2
                       have C2 := below_then C' b2
                       obtain ⟨k1, k2⟩ := en_at (se.keep C2) i hi'
                       rw [hE.out] at k1 k2
                       simp only at k1 k2
                       have bzz : Below w3.heap.size w3 (w3.alloc zbox) := below_new (Below.refl _ _)
                       have Hxz := Hx2.keep bzz
                       obtain ⟨j1, j2⟩ := en_at (se.keep (below_then C2 bzz)) i hi'
                       rw [hE.out] at j1 j2
                       simp only at j1 j2
                       have H9 := Var.new S2
                       have nb : Below w3.heap.size w3 (w3.alloc (box a2 n c2 g2 m2 d2 l2 true)) := below_new (Below.refl _ _)
                       have HB9 := Lib.hid (show w.heap.size ≠ w3.heap.size ∧ w2.heap.size ≠ w3.heap.size ∧ w.heap.size ≤ w3.heap.size from ⟨Nat.ne_of_lt Hd2.box.lt, Nat.ne_of_lt Hx2.box.lt, C2.size⟩)
                       have Hd3 := Hd2.keep nb
                       have Hx3 := Hx2.keep nb
                       have Hn3 := Hn2.keep nb
                       have C3 := below_then C2 nb
                       obtain ⟨u1, u2⟩ := en_at (se.keep C3) i hi'
                       rw [hE.out] at u1 u2
                       simp only at u1 u2
                       have t2 := Hx2.box.lt)
                    | (go_at_call 8
                       refine (flush_x _ _ _ _ _ _ _ _ Y P _ Hx''.sees HOX.out (by omega) _ HFL.out true HXD.out).mono ?_
                       rintro e w3 ⟨a2, c2, g2, m2, d2, l2, rfl, S2, b2⟩
                       have Hd2 := Hd''.keep b2
                       have Hx2 := Hx''.keep b2
                       have Hn2 := Hn''.keep b2
                       have C2 := below_then C'' b2
                       obtain ⟨k1, k2⟩ := en_at (se.keep C2) i hi'
                       rw [hE.out] at k1 k2
                       simp only at k1 k2
                       have Z2 := Zb.keep b2
                       have tn := Z2.box.lt
                       obtain ⟨⟨q0, q1, q2, q3⟩, g0, g1, g3, g4⟩ := Z2.box.open4
                       have H9 := Z2.put S2
                       have Hd3 := Z2.far (y0 := .slice a2 n c2) (y1 := .slice g2 m2 d2) (y2 := .int .i64 l2) (y3 := .bool true) Hd2 Nd.out
                       have Hx3 := Z2.far (y0 := .slice a2 n c2) (y1 := .slice g2 m2 d2) (y2 := .int .i64 l2) (y3 := .bool true) Hx2 Nx.out
                       have Hn3 := Z2.far (y0 := .slice a2 n c2) (y1 := .slice g2 m2 d2) (y2 := .int .i64 l2) (y3 := .bool true) Hn2 Nn.out
                       have C3 := below_put (B := wc.heap.size) (y0 := .slice a2 n c2) (y1 := .slice g2 m2 d2) (y2 := .int .i64 l2) (y3 := .bool true) C2 LA.out
                       have HB9 := Lib.hid (show w.heap.size ≠ wc.heap.size ∧ w2.heap.size ≠ wc.heap.size ∧ w.heap.size ≤ wc.heap.size from ⟨Nd.out, Nx.out, LA.out⟩)
                       obtain ⟨u1, u2⟩ := en_at (se.keep C3) i hi'
                       rw [hE.out] at u1 u2
                       simp only at u1 u2
                       dsimp only [put4] at H9 C3 u1 u2 Hd3 Hx3 Hn3
                       have t2 := Hx2.box.lt))
                  all_goals
                    clear t1 t1' t2 C' C'' bd bz Zb C2 S2 e1 e2 f1 f2 k1 k2 u1 u2 Hd' Hd'' Hd2 Hx' Hx'' Hx2 Hn' Hn'' Hn2
                    go_wp2_with fail
                    go_meet
                    case rel => exact ⟨_, rfl, rfl, Hd3, ⟨ax', cx', bx', mx', dx', lx', Hx3⟩, ⟨ay, cy, by', my, dy, ly, Hn3⟩, ⟨a2, c2, g2, m2, d2, l2, H9⟩, C3⟩
                case rest =>
                  clear Hd Hx Hn C
                  obtain ⟨By, rfl, rfl, Hd, ⟨ax', cx', bx', mx', dx', lx', Hx⟩, ⟨ay, cy, by', my, dy, ly, Hn⟩, ⟨av, cv, bv, mv, dv, lv, Hv⟩, C⟩ := hcut
                  have tx := Hx.box.lt
                  obtain ⟨x0, x1, x2, x3⟩ := Hx.cells
                  go_wp2_with fail
                  refine (fence_x _ _ _ _ _ _ _ _ Y _ Hx.sees HOX.out Y HFC.out true HXD.out).mono ?_
                  rintro e w3 ⟨a2, c2, g2, m2, d2, l2, rfl, S2, b2⟩
                  have Hz := Var.new S2
                  have nb : Below w3.heap.size w3 (w3.alloc (box a2 n c2 g2 m2 d2 l2 true)) := below_new (Below.refl _ _)
                  replace Hd := (Hd.keep b2).keep nb
                  replace Hx := (Hx.keep b2).keep nb
                  replace Hn := (Hn.keep b2).keep nb
                  replace Hv := (Hv.keep b2).keep nb
                  replace C := below_then (below_then C b2) nb
                  clear nb S2 x0 x1 x2 x3 tx
                  have tx := Hx.box.lt
                  obtain ⟨x0, x1, x2, x3⟩ := Hx.cells
                  have tn := Hn.box.lt
                  obtain ⟨y0, y1, y2, y3⟩ := Hn.cells
                  go_wp2_with fail
                  refine (same_selfD _ _ _ _ _ _ _ _ _ _ _ _ _ _ _ _ Y _ Hn.sees Hx.sees).mono ?_
                  rintro e w4 ⟨rfl, b4⟩
                  replace Hd := Hd.keep b4
                  replace Hx := Hx.keep b4
                  replace Hn := Hn.keep b4
                  replace Hv := Hv.keep b4
                  replace Hz := Hz.keep b4
                  replace C := below_then C b4
                  clear x0 x1 x2 x3 tx y0 y1 y2 y3 tn
                  have tx := Hx.box.lt
                  obtain ⟨x0, x1, x2, x3⟩ := Hx.cells
                  have tn := Hv.box.lt
                  obtain ⟨y0, y1, y2, y3⟩ := Hv.cells
                  go_wp2_with fail
                  refine (same_selfD _ _ _ _ _ _ _ _ _ _ _ _ _ _ _ _ Y _ Hv.sees Hx.sees).mono ?_
                  rintro e w5 ⟨rfl, b5⟩
                  replace Hd := Hd.keep b5
                  replace Hx := Hx.keep b5
                  replace Hn := Hn.keep b5
                  replace Hz := Hz.keep b5
                  replace C := below_then C b5
                  clear x0 x1 x2 x3 tx y0 y1 y2 y3 tn Hv
                  have tx := Hx.box.lt
                  obtain ⟨x0, x1, x2, x3⟩ := Hx.cells
                  have tn := Hz.box.lt
                  obtain ⟨y0, y1, y2, y3⟩ := Hz.cells
                  go_wp2_with fail
                  refine (same_selfD _ _ _ _ _ _ _ _ _ _ _ _ _ _ _ _ Y _ Hz.sees Hx.sees).mono ?_
                  rintro e w6 ⟨rfl, b6⟩
                  replace Hd := Hd.keep b6
                  replace Hx := Hx.keep b6
                  replace Hn := Hn.keep b6
                  replace C := below_then C b6
                  clear x0 x1 x2 x3 tx y0 y1 y2 y3 tn Hz
                  go_wp2_with fail
                  go_meet
                  case rel => exact ⟨Hd, ⟨ax', cx', bx', mx', dx', lx', Hx⟩, ⟨ay, cy, by', my, dy, ly, Hn⟩, C⟩
            case rest =>
            clear Hd Hx Hn C z0 z1 z2 z3 td tx tn
            obtain ⟨Hd, ⟨ax', cx', bx', mx', dx', lx', Hx⟩, ⟨ay, cy, by', my, dy, ly, Hn⟩, C⟩ := hcut
            have tx := Hx.box.lt
            have tn := Hn.box.lt
            obtain ⟨⟨q0, q1, q2, q3⟩, f0, f1, f2, f3⟩ := Hx.box.open4
            obtain ⟨y0, y1, y2, y3⟩ := Hn.cells
            have Hd4 := Hx.far (y0 := .slice ay n cy) (y1 := .slice by' my dy) (y2 := .int .i64 ly) (y3 := .bool ry) Hd NB.out
            have Hx4 := Hx.put Hn.sees
            have C4 := below_put (B := w2.heap.size) (y0 := .slice ay n cy) (y1 := .slice by' my dy) (y2 := .int .i64 ly) (y3 := .bool ry) C LB.out
            have HS9 := Lib.hid (HX.out.step HN.out)
            clear Hd Hx C Hn
            dsimp only [put4] at Hd4 Hx4 C4
            go_wp2_with fail
            go_roundw
            case rel => exact ⟨i + 1, Y, ry, by omega, by go_num, HS9, Hd4, ⟨ay, cy, by', my, dy, ly, Hx4⟩, C4⟩
            case measure => simp [intOf]; omega
    · obtain rfl : i = N := by omega
      go_wp2_with fail
      refine (Al.alive_any _).mono ?_
      rintro e wb ⟨rfl, bb⟩
      go_wp2
      go_ret
      exact ⟨rfl, below_then C bb⟩

set_option maxHeartbeats 4000000 in
theorem walk_guard (a : Option Addr) (n c : Nat) (b : Option Addr) (m d : Nat) (l : Int) (q : Bool) (D : Dev) (ea : Option Addr) (N ec : Nat) (ka : Option Addr) (kN kc : Nat) (w : World) (s : SeesD w a n c b m d l q D) (hg : greatD n m = true ∨ (greatD n m = false ∧ okD D = false) ∨ (greatD n m = false ∧ okD D = true ∧ 20 < N) ∨ (greatD n m = false ∧ okD D = true ∧ N ≤ 20 ∧ kN ≠ N)) :
    Calls Try.prog 3 #[dev a n c b m d l q, .slice ea N ec, .slice ka kN kc] w fun e w' => e = .returned (.bool true) ∧ Below w.heap.size w w' := by
  have C := below_new (o := box a n c b m d l q) (Below.refl w.heap.size w)
  have Hd := Var.new s
  have hnt := s.im.top
  have hmt := s.dl.short
  rcases hg with hg | ⟨hg, hok⟩ | ⟨hg, hok, h0⟩ | ⟨hg, hok, h0, h1⟩
  · go_enter Try.func3, Try.ntmps3
    go_wp2_with fail
    refine (rgreat_any _ _ _ _ _ _ _ _ _ s.dl.short).mono ?_
    rintro e w1 ⟨rfl, b1⟩
    rw [hg]
    go_wp2_with fail
    refine (Al.alive_any _).mono ?_
    rintro e wb ⟨rfl, bb⟩
    go_wp2
    go_ret
    exact ⟨rfl, below_then (below_then C b1) bb⟩
  · have hc : chk D = 8 := chk_bad (by rw [hok]; decide)
    go_enter Try.func3, Try.ntmps3
    go_wp2_with fail
    refine (rgreat_any _ _ _ _ _ _ _ _ _ s.dl.short).mono ?_
    rintro e w1 ⟨rfl, b1⟩
    rw [hg]
    replace Hd := Hd.keep b1
    have td := Hd.box.lt
    obtain ⟨x0, x1, x2, x3⟩ := Hd.cells
    go_wp2_with fail
    refine (chk_b _ _ _ _ _ _ _ _ D _ Hd.sees).mono ?_
    rintro e w2 ⟨rfl, b2⟩
    rw [hc]
    go_wp2_with fail
    refine (Al.alive_any _).mono ?_
    rintro e wb ⟨rfl, bb⟩
    go_wp2
    go_ret
    exact ⟨rfl, below_then (below_then (below_then C b1) b2) bb⟩
  · have hc : chk D = 0 := chk_ok hok
    go_enter Try.func3, Try.ntmps3
    go_wp2_with fail
    refine (rgreat_any _ _ _ _ _ _ _ _ _ s.dl.short).mono ?_
    rintro e w1 ⟨rfl, b1⟩
    rw [hg]
    replace Hd := Hd.keep b1
    have td := Hd.box.lt
    obtain ⟨x0, x1, x2, x3⟩ := Hd.cells
    go_wp2_with fail
    refine (chk_b _ _ _ _ _ _ _ _ D _ Hd.sees).mono ?_
    rintro e w2 ⟨rfl, b2⟩
    rw [hc]
    replace Hd := Hd.keep b2
    clear x0 x1 x2 x3 td
    have td := Hd.box.lt
    obtain ⟨x0, x1, x2, x3⟩ := Hd.cells
    go_wp2_with fail
    all_goals first | (exfalso; omega) | skip
    all_goals
      refine (Al.alive_any _).mono ?_
      rintro e wb ⟨rfl, bb⟩
      go_wp2
      go_ret
      exact ⟨rfl, below_then (below_then (below_then C b1) b2) bb⟩
  · have hc : chk D = 0 := chk_ok hok
    have hb : ((kN : Int) != (N : Int)) = true := by simp; omega
    go_enter Try.func3, Try.ntmps3
    go_wp2_with fail
    refine (rgreat_any _ _ _ _ _ _ _ _ _ s.dl.short).mono ?_
    rintro e w1 ⟨rfl, b1⟩
    rw [hg]
    replace Hd := Hd.keep b1
    have td := Hd.box.lt
    obtain ⟨x0, x1, x2, x3⟩ := Hd.cells
    go_wp2_with fail
    refine (chk_b _ _ _ _ _ _ _ _ D _ Hd.sees).mono ?_
    rintro e w2 ⟨rfl, b2⟩
    rw [hc]
    replace Hd := Hd.keep b2
    clear x0 x1 x2 x3 td
    have td := Hd.box.lt
    obtain ⟨x0, x1, x2, x3⟩ := Hd.cells
    go_wp2_with fail
    all_goals first | (exfalso; omega) | skip
    all_goals
      refine (Al.alive_any _).mono ?_
      rintro e wb ⟨rfl, bb⟩
      go_wp2
      go_ret
      exact ⟨rfl, below_then (below_then (below_then C b1) b2) bb⟩

theorem walk (a : Option Addr) (n c : Nat) (b : Option Addr) (m d : Nat) (l : Int) (q : Bool) (D : Dev) (ea : Option Addr) (N ec : Nat) (es : List En) (ka : Option Addr) (kN kc : Nat) (ks : List Int) (w : World) (s : SeesD w a n c b m d l q D) (se : SeesR en w ea N ec es) (sk : Sees w .i64 ka kN kc ks) (_t : kc ≤ 17592186044416) :
    Calls Try.prog 3 #[dev a n c b m d l q, .slice ea N ec, .slice ka kN kc] w fun e w' => e = .returned (.bool true) ∧ Below w.heap.size w w' := by
  by_cases hg : greatD n m = true
  · exact walk_guard a n c b m d l q D ea N ec ka kN kc w s (.inl hg)
  · have hg' : greatD n m = false := by simpa using hg
    by_cases hok : okD D = true
    · by_cases hN : N ≤ 20
      · by_cases hk : kN = N
        · subst hk
          exact walk_main a n c b m d l q D ea kN ec ka kc es ks w s se sk hok hg' hN
        · exact walk_guard a n c b m d l q D ea N ec ka kN kc w s (.inr (.inr (.inr ⟨hg', hok, hN, hk⟩)))
      · exact walk_guard a n c b m d l q D ea N ec ka kN kc w s (.inr (.inr (.inl ⟨hg', hok, by omega⟩)))
    · exact walk_guard a n c b m d l q D ea N ec ka kN kc w s (.inr (.inl ⟨hg', by simpa using hok⟩))

/-! The row's step. -/
set_option maxRecDepth 100000 in
theorem lifted (os : Os) (started : os.Started) (H : Type) (enc : TypeId × Value → H) :
    ReturnsInHanded {} Try.checked os 3 .any (Rows.cacheDownSpec.pre6 enc Try.prog Try.f3 Rows.cacheDownRow.domain false) (Rows.cacheDownSpec.post enc Try.prog Try.f3 false true false false) := by
  refine returnsInHanded_of_change_sized (C := Try.checked) St.own started (by kernel_rfl) Try.func3
    (ChangeSpec.witness6 (enc := enc) (C := Try.checked) false ⟨#[], #[.agg #[.slice .none 0 0, .slice .none 0 0, .int .i64 0, .bool false], .slice .none 0 0, .slice .none 0 0], []⟩ 8 (by kernel_rfl) (by kernel_rfl) (by kernel_rfl) (by kernel_rfl)) ?_
  intro W base args ds gs before hval0 hW hcnd hsz0 _
  have hsz : (DataW.weightsEach Try.prog (Try.f3.params.toList ++ Rows.cacheDownSpec.plain.varTypes Try.prog) (ds ++ gs)).all (· ≤ reachBytes) = true := hsz0
  have hval : ∀ (j : Nat) t v, Try.f3.params[j]? = some t → args[j]? = some v → Value.okWide Try.prog W .any base t v := hval0
  have hW' := hW
  obtain ⟨p, q, hA0, hV, rfl, hfz, hnd⟩ := hW
  have hA : DataW.TrodAll enc Try.prog W 0 (fun _ => true) true Try.f3.params.toList args.toList ds p := hA0
  rw [Try.params3] at hA hval hsz
  obtain ⟨v0, vs0, d0, ds0, p0, q0, hargs, rfl, rfl, h0, r0⟩ := trodAll_cons hA
  obtain ⟨v1, vs1, d1, ds1, p1, q1, rfl, rfl, rfl, h1, r1⟩ := trodAll_cons r0
  obtain ⟨v2, vs2, d2, ds2, p2, q2, rfl, rfl, rfl, h2, r2⟩ := trodAll_cons r1
  obtain ⟨rfl, rfl, rfl⟩ := trodAll_nil r2
  obtain rfl : args = #[v0, v1, v2] := by cases args; simp_all
  have z2 : ∀ es sp, d2 = .slice es sp → (es.length + sp.length) * 8 ≤ 140737488351232 := fun es sp e => by
    have := sized_slice hsz (j := 2) (t := 27) (e := 3) rfl (congrArg some e) Try.underlying27
    rw [show Try.prog.bytesOf 3 = 8 from by kernel_rfl] at this
    simpa [reachBytes] using this
  obtain ⟨a0, n0, c0, b0, m0, e0, l0, b0', D0, rfl, s0⟩ := Dv.open_dev (hval 0 25 v0 rfl rfl) h0 (fun n hn => by
    have := List.all_eq_true.1 hsz _ (DataW.weights_mem_each (j := 0) (t := 25) rfl rfl n hn)
    exact of_decide_eq_true this)
  have z1 : ∀ es sp, d1 = .slice es sp → (es.length + sp.length) * 16 ≤ 140737488351232 := fun es sp e => by
    have := sized_slice hsz (j := 1) (t := 26) (e := 33) rfl (congrArg some e) Try.underlying26
    rw [show Try.prog.bytesOf 33 = 16 from by kernel_rfl] at this
    simpa [reachBytes] using this
  obtain ⟨a1, n1, c1, xs1, rfl, s1⟩ := Dv.open_ents (hval 1 26 v1 rfl rfl) h1 z1
  obtain ⟨a2, n2, c2, xs2, rfl, s2, t2⟩ := Sl.open_slice Try.underlying27 Try.underlying3 (by kernel_rfl) (hval 2 27 v2 rfl rfl) h2 z2
  refine (walk a0 n0 c0 b0 m0 e0 l0 b0' D0 a1 n1 c1 xs1 a2 n2 c2 xs2 W s0 s1 s2 t2).mono fun e W' ⟨he, hb⟩ => ?_
  subst he
  exact St.law_done St.laid (by kernel_rfl) rfl rfl Try.underlying4 rfl hW' hb

theorem over : Rows.cacheDownRow.holds Try.pinned (OpenSpec.ofChange Rows.cacheDownSpec) :=
  OpenClaim.holds_of_wide 3 Try.f3 rfl rfl rfl rfl rfl rfl rfl ⟨rfl, rfl, rfl, rfl, rfl⟩ rfl rfl rfl rfl rfl (by kernel_rfl) Try.func3 (by kernel_rfl)
    (of_decide_eq_true (by kernel_rfl)) (by unfold Func.isWrapper; first | (rw [if_pos (by decide +kernel)]; kernel_rfl) | (rw [if_neg (by decide +kernel)]; exact ⟨rfl, rfl⟩))
    (fun os started H enc _ => lifted os started H enc)
theorem proved : Rows.CacheDownSaid := over
#print axioms proved
end Go.Proofs.Ytpdgefmchoonnaa.cacheDown

