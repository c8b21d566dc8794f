/-
  The words of a superblock, on numbers: one form for each, and what one byte that is another one does.
-/
import Derived.Test.YtepiiiekcmbpaaaDoorSui
import Derived.Test.YtepiiiekcmbpaaaDoorIrefb
namespace Go.Proofs.YtepiiiekcmbpaaaDoor.Sb
open Go.RowKit Go.Proofs.YtepiiiekcmbpaaaDoor.Sl Go.Proofs.YtepiiiekcmbpaaaDoor.St Go.Proofs.YtepiiiekcmbpaaaDoor.Bits Go.Proofs.YtepiiiekcmbpaaaDoor.Wd Go.Proofs.YtepiiiekcmbpaaaDoor.Su Go.Proofs.YtepiiiekcmbpaaaDoor.Ir
set_option maxRecDepth 100000

/-- A valid superblock. -/
def IsSb (W T : Int) : Prop := Img W ∧ 0 ≤ T ∧ T ≤ 8
instance (W T : Int) : Decidable (IsSb W T) := by
  unfold IsSb Img
  infer_instance
def headI (W T : Int) : List Int := [32777959566500194, 1, W, T, 0, 0, 0]
def sumS (W T : Int) : Int := behI firstI (headI W T)
/-- The words of a superblock. -/
def wordsI (W T : Int) : List Int := [32777959566500194, 1, W, T, 0, 0, 0, sumS W T]
def badE (W T : Int) : Int := if IsSb W T then 0 else 8
/-- What is written of any superblock. -/
def wroteI (W T : Int) : List Int := if IsSb W T then wordsI W T else []
/-- What is read of any words: the error, the number of words, the number of types. -/
def readE (xs : List Int) : Int := if xs.length ≠ 8 then 2 else if IsSb (xs.getD 2 0) (xs.getD 3 0) ∧ xs = wordsI (xs.getD 2 0) (xs.getD 3 0) then 0 else 50
def readW (xs : List Int) : Int := if readE xs = 0 then xs.getD 2 0 else 0
def readT (xs : List Int) : Int := if readE xs = 0 then xs.getD 3 0 else 0

theorem bad_ok {W T : Int} (h : IsSb W T) : badE W T = 0 := if_pos h
theorem bad_no {W T : Int} (h : ¬ IsSb W T) : badE W T = 8 := if_neg h
theorem wrote_ok {W T : Int} (h : IsSb W T) : wroteI W T = wordsI W T := if_pos h
theorem wrote_no {W T : Int} (h : ¬ IsSb W T) : wroteI W T = [] := if_neg h
theorem read_arg {xs : List Int} (h : xs.length ≠ 8) : readE xs = 2 ∧ readW xs = 0 ∧ readT xs = 0 := by
  have e : readE xs = 2 := if_pos h
  unfold readW readT
  rw [e]
  exact ⟨rfl, rfl, rfl⟩
theorem read_words {W T : Int} (h : IsSb W T) : readE (wordsI W T) = 0 ∧ readW (wordsI W T) = W ∧ readT (wordsI W T) = T := by
  have e : readE (wordsI W T) = 0 := by
    unfold readE
    rw [if_neg (show ¬ ((wordsI W T).length ≠ 8) from fun hh => hh rfl), if_pos ⟨h, rfl⟩]
  unfold readW readT
  rw [e]
  exact ⟨rfl, rfl, rfl⟩
theorem read_none {xs : List Int} (h8 : xs.length = 8) (h : ∀ W T, IsSb W T → xs ≠ wordsI W T) : readE xs = 50 ∧ readW xs = 0 ∧ readT xs = 0 := by
  have e : readE xs = 50 := by
    unfold readE
    rw [if_neg (show ¬ (xs.length ≠ 8) from fun hh => hh h8), if_neg (fun hh => h _ _ hh.1 hh.2)]
  unfold readW readT
  rw [e]
  exact ⟨rfl, rfl, rfl⟩
/-- What is read is one of three things. -/
theorem read_three (xs : List Int) : (xs.length ≠ 8 ∧ readE xs = 2 ∧ readW xs = 0 ∧ readT xs = 0) ∨ (xs.length = 8 ∧ readE xs = 50 ∧ readW xs = 0 ∧ readT xs = 0) ∨
    (∃ W T, IsSb W T ∧ xs = wordsI W T ∧ readE xs = 0 ∧ readW xs = W ∧ readT xs = T) := by
  by_cases h8 : xs.length = 8
  · by_cases h : IsSb (xs.getD 2 0) (xs.getD 3 0) ∧ xs = wordsI (xs.getD 2 0) (xs.getD 3 0)
    · obtain ⟨h1, h2⟩ := h
      refine .inr (.inr ⟨_, _, h1, h2, ?_⟩)
      generalize xs.getD 2 0 = W at h1 h2 ⊢
      generalize xs.getD 3 0 = T at h1 h2 ⊢
      subst h2
      exact read_words h1
    · refine .inr (.inl ⟨h8, ?_⟩)
      have e : readE xs = 50 := by
        unfold readE
        rw [if_neg (show ¬ (xs.length ≠ 8) from fun hh => hh h8), if_neg h]
      unfold readW readT
      rw [e]
      exact ⟨rfl, rfl, rfl⟩
  · exact .inl ⟨h8, read_arg h8⟩
theorem words_len (W T : Int) : (wordsI W T).length = 8 := rfl
theorem words_eq {W T W' T' : Int} : wordsI W T = wordsI W' T' ↔ W = W' ∧ T = T' := by
  constructor
  · intro h
    unfold wordsI at h
    simp only [List.cons.injEq] at h
    exact ⟨h.2.2.1, h.2.2.2.1⟩
  · rintro ⟨rfl, rfl⟩
    rfl
theorem sum_bd (W T : Int) : 0 ≤ sumS W T ∧ sumS W T < 18446744073709551616 := beh_bd first_u64 _
theorem good_bd {W T : Int} (h : IsSb W T) : 256 ≤ W ∧ W ≤ 2048 ∧ 0 ≤ T ∧ T ≤ 8 := ⟨h.1.1, h.1.2.1, h.2.1, h.2.2⟩
theorem wf_word {x : Int} (h : 0 ≤ x ∧ x < 18446744073709551616) : (Lit.int .u64 x).wf = true := WalkArith.wf_u64 (by omega)
theorem words_wf {W T : Int} (h : IsSb W T) : ∀ x ∈ wordsI W T, (Lit.int .u64 x).wf = true := by
  have hb := good_bd h
  have hs := sum_bd W T
  intro x hx
  unfold wordsI at hx
  simp only [List.mem_cons, List.not_mem_nil, or_false] at hx
  rcases hx with rfl | rfl | rfl | rfl | rfl | rfl | rfl | rfl <;> exact wf_word (by omega)
theorem wrote_wf (W T : Int) : ∀ x ∈ wroteI W T, (Lit.int .u64 x).wf = true := by
  by_cases h : IsSb W T
  · rw [wrote_ok h]
    exact words_wf h
  · rw [wrote_no h]
    simp
theorem wrote_len (W T : Int) : (wroteI W T).length ≤ 8 := by
  by_cases h : IsSb W T
  · rw [wrote_ok h, words_len]
    exact Nat.le_refl _
  · rw [wrote_no h]
    exact Nat.zero_le _
/-- A change of one byte of a word. -/
theorem flip_val {v g : Int} {K : Nat} (hv : U64 v) (hg : 0 ≤ g ∧ g < 256) (hK : K ≤ 7) : bits .xor .u64 v (IntKind.u64.wrap (g * 2 ^ (8 * K))) = ((v.toNat ^^^ g.toNat * 2 ^ (8 * K) : Nat) : Int) := by
  obtain ⟨G, rfl⟩ := Int.eq_ofNat_of_zero_le hg.1
  have h1 : G * 2 ^ (8 * K) < 18446744073709551616 := by
    have h2 : G * 2 ^ (8 * K) < 2 ^ 8 * 2 ^ (8 * K) := Nat.mul_lt_mul_of_pos_right (by omega) (Nat.two_pow_pos _)
    have h3 : 2 ^ 8 * 2 ^ (8 * K) ≤ 2 ^ 64 := by
      rw [← Nat.pow_add]
      exact Nat.pow_le_pow_right (by decide) (by omega)
    exact Nat.lt_of_lt_of_le h2 h3
  have e1 : (G : Int) * 2 ^ (8 * K) = ((G * 2 ^ (8 * K) : Nat) : Int) := by simp
  have e2 : IntKind.u64.wrap ((G : Int) * 2 ^ (8 * K)) = ((G * 2 ^ (8 * K) : Nat) : Int) := by
    rw [e1, IntKind.wrap_u64]
    generalize G * 2 ^ (8 * K) = q at h1
    omega
  have hv1 := hv.1
  have hv2 := hv.2
  rw [e2, u64_xor _ _ hv1 hv2 (by omega) (by omega), Int.toNat_natCast, Int.toNat_natCast]
theorem val_u64 {v g : Int} {K : Nat} (hv : U64 v) (hg : 0 ≤ g ∧ g < 256) (hK : K ≤ 7) : U64 (bits .xor .u64 v (IntKind.u64.wrap (g * 2 ^ (8 * K)))) := by
  rw [flip_val hv hg hK]
  have h1 : v.toNat < 2 ^ 64 := by
    have := hv.1
    have := hv.2
    have e : (2 : Nat) ^ 64 = 18446744073709551616 := by decide +kernel
    omega
  have h2 : g.toNat * 2 ^ (8 * K) < 2 ^ 64 := by
    have h2 : g.toNat * 2 ^ (8 * K) < 2 ^ 8 * 2 ^ (8 * K) := Nat.mul_lt_mul_of_pos_right (by omega) (Nat.two_pow_pos _)
    have h3 : 2 ^ 8 * 2 ^ (8 * K) ≤ 2 ^ 64 := by
      rw [← Nat.pow_add]
      exact Nat.pow_le_pow_right (by decide) (by omega)
    exact Nat.lt_of_lt_of_le h2 h3
  have h3 := Nat.xor_lt_two_pow h1 h2
  have e : (2 : Nat) ^ 64 = 18446744073709551616 := by decide +kernel
  rw [e] at h3
  exact ⟨by omega, by omega⟩
theorem beh_flip {s g : Int} {xs : List Int} {i K : Nat} (hs : U64 s) (hi : i < xs.length) (hv : U64 xs[i]) (hg : 0 ≤ g ∧ g < 256) (hK : K ≤ 7) :
    behI s xs = behI s (xs.set i (bits .xor .u64 xs[i] (IntKind.u64.wrap (g * 2 ^ (8 * K))))) ↔ g = 0 := by
  rw [beh_eq hs hs, flip_val hv hg hK, flip_eq hi (by decide) (by decide) _ (by omega) (by omega)]
  omega
/-- A word is another one just if the change is. -/
theorem val_same {v g : Int} {K : Nat} (hv : U64 v) (hg : 0 ≤ g ∧ g < 256) (hK : K ≤ 7) : bits .xor .u64 v (IntKind.u64.wrap (g * 2 ^ (8 * K))) = v ↔ g = 0 := by
  rw [flip_val hv hg hK]
  have hv1 := hv.1
  constructor
  · intro h
    have h2 : v.toNat ^^^ g.toNat * 2 ^ (8 * K) = v.toNat := by omega
    have h3 : g.toNat * 2 ^ (8 * K) = 0 := xor_zero_iff.1 h2.symm
    have h4 := Nat.two_pow_pos (8 * K)
    rcases Nat.mul_eq_zero.1 h3 with h5 | h5 <;> omega
  · rintro rfl
    rw [Int.toNat_zero, Nat.zero_mul, Nat.xor_zero]
    omega
/-- With one byte that is another one they are those of none. -/
theorem read_flip {W T g : Int} {i K : Nat} (h : IsSb W T) (hi : i < 8) (hg : 0 ≤ g ∧ g < 256) (hK : K ≤ 7) (v : Int) (hv : (wordsI W T).getD i 0 = v) (v' : Int) (hv' : bits .xor .u64 v (IntKind.u64.wrap (g * 2 ^ (8 * K))) = v') :
    readE ((wordsI W T).set i v') = if g = 0 then 0 else 50 := by
  have hil : i < (wordsI W T).length := by rw [words_len]; exact hi
  have hvi : (wordsI W T)[i] = v := by rw [← hv, List.getD_eq_getElem?_getD, List.getElem?_eq_getElem hil, Option.getD_some]
  have hu : U64 v := by
    have := words_wf h v (by rw [← hvi]; exact List.getElem_mem _)
    exact ⟨(St.u64_of_wf this).1, (St.u64_of_wf this).2⟩
  have hs := val_same (g := g) (K := K) hu hg hK
  rw [hv'] at hs
  by_cases g0 : g = 0
  · have e : v' = v := hs.2 g0
    rw [if_pos g0, e, ← hvi, List.set_getElem_self]
    exact (read_words h).1
  · rw [if_neg g0]
    refine (read_none (by rw [List.length_set, words_len]) fun W' T' h' he => g0 ?_).1
    have hlast : ((wordsI W T).set i v').getD 7 0 = (wordsI W' T').getD 7 0 := by rw [he]
    rcases (by omega : i = 7 ∨ i < 7) with rfl | hi7
    · apply hs.1
      unfold wordsI at he hv
      simp only [List.set_cons_succ, List.set_cons_zero, List.cons.injEq] at he
      simp only [List.getD_cons_succ, List.getD_cons_zero] at hv
      obtain ⟨-, -, rfl, rfl, -, -, -, e7, -⟩ := he
      rw [e7, hv]
    · have hh : i < (headI W T).length := hi7
      have e1 : (wordsI W T).take 7 = headI W T := rfl
      have e2 : (wordsI W' T').take 7 = headI W' T' := rfl
      have eh : (headI W T)[i] = v := by
        rw [← hvi]
        have : (headI W T)[i]? = (wordsI W T)[i]? := by rw [← e1, List.getElem?_take, if_pos hi7]
        rw [List.getElem?_eq_getElem hh, List.getElem?_eq_getElem hil] at this
        exact Option.some.inj this
      have e3 : (headI W T).set i v' = headI W' T' := by rw [← e1, ← e2, ← he, List.take_set]
      have e4 : sumS W T = sumS W' T' := by
        have e5 : ((wordsI W T).set i v')[7]? = (wordsI W' T')[7]? := by rw [he]
        rw [List.getElem?_set_ne (by omega)] at e5
        exact Option.some.inj e5
      unfold sumS at e4
      rw [← e3, ← hv', ← eh] at e4
      exact (beh_flip (K := K) first_u64 hh (by rw [eh]; exact hu) hg hK).1 e4
end Go.Proofs.YtepiiiekcmbpaaaDoor.Sb
