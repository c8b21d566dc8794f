/-
  Sums of words as numbers: a step with a byte, the state behind words; parts; each word matters, in each low part; steps undone. Numbers only; no program.
-/
import Derived.Laws.BitsAllLaws
namespace Go.Proofs.YtepiiiekcmbpaaaDoor.Su

/-- 2 to the power of 64, behind a name that no tactic looks into. -/
def top : Nat := 18446744073709551616
theorem top_two : top = 2 ^ 64 := by decide +kernel
theorem top_pos : 0 < top := by decide +kernel
theorem top_num : top = 18446744073709551616 := rfl
def prime : Nat := 1099511628211
def inv : Nat := 14886173955864302971
/-- A step of a state with a byte. -/
def stepN (s b : Nat) : Nat := (s ^^^ b) * prime % top
def byteN (w k : Nat) : Nat := w / 2 ^ (8 * k) % 256
def bytesN (w : Nat) : List Nat := [byteN w 0, byteN w 1, byteN w 2, byteN w 3, byteN w 4, byteN w 5, byteN w 6, byteN w 7]
def bsteps (s : Nat) (bs : List Nat) : Nat := bs.foldl stepN s
def wordN (s w : Nat) : Nat := bsteps s (bytesN w)
/-- The state behind words. -/
def behind (s : Nat) (l : List Nat) : Nat := l.foldl wordN s

theorem bsteps_nil (s : Nat) : bsteps s [] = s := by
  unfold bsteps
  rw [List.foldl_nil]
theorem bsteps_cons (s b : Nat) (bs : List Nat) : bsteps s (b :: bs) = bsteps (stepN s b) bs := by
  unfold bsteps
  rw [List.foldl_cons]
theorem bsteps_append (s : Nat) (bs cs : List Nat) : bsteps s (bs ++ cs) = bsteps (bsteps s bs) cs := by
  unfold bsteps
  rw [List.foldl_append]
theorem behind_nil (s : Nat) : behind s [] = s := by
  unfold behind
  rw [List.foldl_nil]
theorem behind_cons (s w : Nat) (l : List Nat) : behind s (w :: l) = behind (wordN s w) l := by
  unfold behind
  rw [List.foldl_cons]
theorem stepN_lt (s b : Nat) : stepN s b < top := Nat.mod_lt _ top_pos
theorem bsteps_lt : ∀ (bs : List Nat) (s : Nat), s < top → bsteps s bs < top
  | [], s, h => by
    rw [bsteps_nil]
    exact h
  | b :: bs, s, _ => by
    rw [bsteps_cons]
    exact bsteps_lt bs _ (stepN_lt s b)
theorem wordN_lt (s w : Nat) : wordN s w < top := by
  unfold wordN bytesN
  rw [bsteps_cons]
  exact bsteps_lt _ _ (stepN_lt _ _)
theorem behind_lt : ∀ (l : List Nat) (s : Nat), s < top → behind s l < top
  | [], s, h => by
    rw [behind_nil]
    exact h
  | w :: l, s, _ => by
    rw [behind_cons]
    exact behind_lt l _ (wordN_lt s w)
theorem behind_parts (s : Nat) (l m : List Nat) : behind s (l ++ m) = behind (behind s l) m := by
  unfold behind
  rw [List.foldl_append]
theorem behind_snoc (s : Nat) (l : List Nat) (w : Nat) : behind s (l ++ [w]) = wordN (behind s l) w := by
  rw [behind_parts, behind_cons, behind_nil]
theorem behind_take {s : Nat} {l : List Nat} {k : Nat} (h : k < l.length) : behind s (l.take (k + 1)) = wordN (behind s (l.take k)) l[k] := by
  rw [List.take_succ_eq_append_getElem h, behind_snoc]

/-! The prime can be undone, for each width. -/
theorem prime_inv : ∃ c, prime * inv = 1 + top * c := ⟨887285111055, by decide +kernel⟩
theorem mul_cong {w x y : Nat} (hw : w ≤ 64) : x * prime % 2 ^ w = y * prime % 2 ^ w ↔ x % 2 ^ w = y % 2 ^ w := by
  constructor
  · intro h
    obtain ⟨c, hc⟩ := prime_inv
    have e64 : top = 2 ^ w * 2 ^ (64 - w) := by
      rw [← Nat.pow_add, show w + (64 - w) = 64 from by omega, top_two]
    have key : ∀ z : Nat, z * prime * inv % 2 ^ w = z % 2 ^ w := fun z => by
      have e1 : z * prime * inv = z + 2 ^ w * (2 ^ (64 - w) * (z * c)) := by
        rw [Nat.mul_assoc, hc, e64, Nat.mul_add, Nat.mul_one]
        congr 1
        rw [Nat.mul_assoc (2 ^ w), Nat.mul_left_comm z, Nat.mul_left_comm z]
      rw [e1, Nat.add_mul_mod_self_left]
    have h2 : x * prime * inv % 2 ^ w = y * prime * inv % 2 ^ w := by
      rw [Nat.mul_mod, h, ← Nat.mul_mod]
    rwa [key, key] at h2
  · intro h
    rw [Nat.mul_mod, h, ← Nat.mul_mod]
theorem step_low {w : Nat} (hw : w ≤ 64) (s b : Nat) : stepN s b % 2 ^ w = (s ^^^ b) * prime % 2 ^ w := by
  unfold stepN
  exact Nat.mod_mod_of_dvd _ ⟨2 ^ (64 - w), by rw [← Nat.pow_add, show w + (64 - w) = 64 from by omega, top_two]⟩
theorem step_cong {w : Nat} (hw : w ≤ 64) (s b s' b' : Nat) : stepN s b % 2 ^ w = stepN s' b' % 2 ^ w ↔ (s % 2 ^ w) ^^^ (b % 2 ^ w) = (s' % 2 ^ w) ^^^ (b' % 2 ^ w) := by
  rw [step_low hw, step_low hw, mul_cong hw, Nat.xor_mod_two_pow, Nat.xor_mod_two_pow]
theorem xor_same {a b c : Nat} : a ^^^ c = b ^^^ c ↔ a = b := by
  constructor
  · intro h
    have h2 : a ^^^ c ^^^ c = b ^^^ c ^^^ c := by rw [h]
    rwa [Nat.xor_assoc, Nat.xor_assoc, Nat.xor_self, Nat.xor_zero, Nat.xor_zero] at h2
  · intro h
    rw [h]
theorem xor_same' {a b c : Nat} : c ^^^ a = c ^^^ b ↔ a = b := by rw [Nat.xor_comm c a, Nat.xor_comm c b, xor_same]
/-- States stay different behind the same bytes. -/
theorem bsteps_cong {w : Nat} (hw : w ≤ 64) : ∀ (bs : List Nat) (s s' : Nat), bsteps s bs % 2 ^ w = bsteps s' bs % 2 ^ w ↔ s % 2 ^ w = s' % 2 ^ w
  | [], _, _ => by rw [bsteps_nil, bsteps_nil]
  | b :: bs, s, s' => by rw [bsteps_cons, bsteps_cons, bsteps_cong hw bs, step_cong hw, xor_same]
theorem behind_cong {w : Nat} (hw : w ≤ 64) : ∀ (l : List Nat) (s s' : Nat), behind s l % 2 ^ w = behind s' l % 2 ^ w ↔ s % 2 ^ w = s' % 2 ^ w
  | [], _, _ => by rw [behind_nil, behind_nil]
  | x :: l, s, s' => by
    rw [behind_cons, behind_cons, behind_cong hw l]
    unfold wordN
    exact bsteps_cong hw _ _ _
/-- Bytes that differ, from the same state on. -/
theorem step_byte {w : Nat} (hw : w ≤ 64) (h8 : 8 ≤ w) (s : Nat) {b b' : Nat} (hb : b < 256) (hb' : b' < 256) : stepN s b % 2 ^ w = stepN s b' % 2 ^ w ↔ b = b' := by
  have h256 : 256 ≤ 2 ^ w := Nat.le_trans (by decide) (Nat.pow_le_pow_right (by decide) h8 : 2 ^ 8 ≤ 2 ^ w)
  rw [step_cong hw, xor_same', Nat.mod_eq_of_lt (by omega), Nat.mod_eq_of_lt (by omega)]
theorem bsteps_byte {w : Nat} (hw : w ≤ 64) (h8 : 8 ≤ w) (pre post : List Nat) (s : Nat) {b b' : Nat} (hb : b < 256) (hb' : b' < 256) :
    bsteps s (pre ++ b :: post) % 2 ^ w = bsteps s (pre ++ b' :: post) % 2 ^ w ↔ b = b' := by
  rw [bsteps_append, bsteps_append, bsteps_cons, bsteps_cons, bsteps_cong hw, step_byte hw h8 _ hb hb']

/-! A word of which one byte is changed. -/
theorem byteN_lt (v k : Nat) : byteN v k < 256 := Nat.mod_lt _ (by decide)
theorem byteN_xor (x y k : Nat) : byteN (x ^^^ y) k = byteN x k ^^^ byteN y k := by
  unfold byteN
  rw [Nat.xor_div_two_pow, show (256 : Nat) = 2 ^ 8 from rfl, Nat.xor_mod_two_pow]
theorem byteN_put {c k j : Nat} (hc : c < 256) : byteN (c * 2 ^ (8 * k)) j = if j = k then c else 0 := by
  unfold byteN
  rcases (by omega : j < k ∨ j = k ∨ k < j) with h | h | h
  · rw [if_neg (by omega), show 8 * k = 8 * j + (8 + 8 * (k - j - 1)) from by omega, Nat.pow_add, Nat.pow_add, Nat.mul_comm c, Nat.mul_assoc, Nat.mul_div_cancel_left _ (Nat.two_pow_pos _), Nat.mul_assoc, show (2 : Nat) ^ 8 = 256 from rfl, Nat.mul_mod_right]
  · subst h
    rw [if_pos rfl, Nat.mul_div_cancel _ (Nat.two_pow_pos _), Nat.mod_eq_of_lt hc]
  · rw [if_neg (by omega), show 8 * j = 8 * k + (8 + 8 * (j - k - 1)) from by omega, Nat.pow_add, ← Nat.div_div_eq_div_mul, Nat.mul_div_cancel _ (Nat.two_pow_pos _), Nat.pow_add, ← Nat.div_div_eq_div_mul]
    rw [Nat.div_eq_of_lt (show c < 2 ^ 8 from hc)]
    simp
theorem byteN_flip {v c k j : Nat} (hc : c < 256) : byteN (v ^^^ c * 2 ^ (8 * k)) j = byteN v j ^^^ (if j = k then c else 0) := by rw [byteN_xor, byteN_put hc]
theorem xor_zero_iff {a c : Nat} : a = a ^^^ c ↔ c = 0 := by
  constructor
  · intro h
    have h2 : a ^^^ a = a ^^^ (a ^^^ c) := by rw [← h]
    rw [Nat.xor_self, ← Nat.xor_assoc, Nat.xor_self, Nat.zero_xor] at h2
    exact h2.symm
  · intro h
    rw [h, Nat.xor_zero]
theorem xor_256 {a c : Nat} (ha : a < 256) (hc : c < 256) : a ^^^ c < 256 := Nat.xor_lt_two_pow (n := 8) ha hc
theorem word_flip {w : Nat} (hw : w ≤ 64) (h8 : 8 ≤ w) (s v : Nat) {c k : Nat} (hk : k < 8) (hc : c < 256) : wordN s v % 2 ^ w = wordN s (v ^^^ c * 2 ^ (8 * k)) % 2 ^ w ↔ c = 0 := by
  unfold wordN bytesN
  simp only [byteN_flip hc]
  have key : ∀ (pre post : List Nat), bsteps s (pre ++ byteN v k :: post) % 2 ^ w = bsteps s (pre ++ (byteN v k ^^^ c) :: post) % 2 ^ w ↔ c = 0 := fun pre post => by
    rw [bsteps_byte hw h8 pre post s (byteN_lt v k) (xor_256 (byteN_lt v k) hc), xor_zero_iff]
  rcases (by omega : k = 0 ∨ k = 1 ∨ k = 2 ∨ k = 3 ∨ k = 4 ∨ k = 5 ∨ k = 6 ∨ k = 7) with rfl | rfl | rfl | rfl | rfl | rfl | rfl | rfl
  · simpa using key [] [byteN v 1, byteN v 2, byteN v 3, byteN v 4, byteN v 5, byteN v 6, byteN v 7]
  · simpa using key [byteN v 0] [byteN v 2, byteN v 3, byteN v 4, byteN v 5, byteN v 6, byteN v 7]
  · simpa using key [byteN v 0, byteN v 1] [byteN v 3, byteN v 4, byteN v 5, byteN v 6, byteN v 7]
  · simpa using key [byteN v 0, byteN v 1, byteN v 2] [byteN v 4, byteN v 5, byteN v 6, byteN v 7]
  · simpa using key [byteN v 0, byteN v 1, byteN v 2, byteN v 3] [byteN v 5, byteN v 6, byteN v 7]
  · simpa using key [byteN v 0, byteN v 1, byteN v 2, byteN v 3, byteN v 4] [byteN v 6, byteN v 7]
  · simpa using key [byteN v 0, byteN v 1, byteN v 2, byteN v 3, byteN v 4, byteN v 5] [byteN v 7]
  · simpa using key [byteN v 0, byteN v 1, byteN v 2, byteN v 3, byteN v 4, byteN v 5, byteN v 6] []
/-- Each word matters, in each low part. -/
theorem behind_flip {w : Nat} (hw : w ≤ 64) (h8 : 8 ≤ w) (s : Nat) {l : List Nat} {at' c k : Nat} (ha : at' < l.length) (hk : k < 8) (hc : c < 256) :
    behind s l % 2 ^ w = behind s (l.set at' (l[at'] ^^^ c * 2 ^ (8 * k))) % 2 ^ w ↔ c = 0 := by
  have e1 : l = l.take at' ++ l[at'] :: l.drop (at' + 1) := by
    rw [← List.drop_eq_getElem_cons ha, List.take_append_drop]
  have e2 : ∀ v, l.set at' v = l.take at' ++ v :: l.drop (at' + 1) := fun v => by
    rw [List.set_eq_take_append_cons_drop, if_pos ha]
  rw [e2]
  generalize l[at'] = v at e1 ⊢
  generalize l.take at' = p at e1 ⊢
  generalize l.drop (at' + 1) = q at e1 ⊢
  subst e1
  rw [behind_parts, behind_parts, behind_cons, behind_cons, behind_cong hw, word_flip hw h8 _ v hk hc]

/-! Steps undone; words 0. -/
theorem step_back {s b : Nat} (hs : s < top) (hb : b < 256) : stepN s b * inv % top ^^^ b = s := by
  have h1 : s ^^^ b < top := by
    rw [top_two] at hs ⊢
    exact Nat.xor_lt_two_pow hs (Nat.lt_of_lt_of_le hb (by decide +kernel))
  have h2 : stepN s b * inv % top = s ^^^ b := by
    obtain ⟨c, hc⟩ := prime_inv
    unfold stepN
    rw [Nat.mod_mul_mod, Nat.mul_assoc, hc, Nat.mul_add, Nat.mul_one, Nat.mul_left_comm, Nat.add_mul_mod_self_left, Nat.mod_eq_of_lt h1]
  rw [h2, Nat.xor_assoc, Nat.xor_self, Nat.xor_zero]
/-- The state before the last bytes of a word. -/
def upto (s w k : Nat) : Nat := bsteps s ((bytesN w).take k)
theorem upto_lt {s : Nat} (hs : s < top) (w k : Nat) : upto s w k < top := bsteps_lt _ _ hs
theorem bytes_at {w k : Nat} (hk : k < 8) : (bytesN w)[k]'(by simpa [bytesN] using hk) = byteN w k := by
  rcases (by omega : k = 0 ∨ k = 1 ∨ k = 2 ∨ k = 3 ∨ k = 4 ∨ k = 5 ∨ k = 6 ∨ k = 7) with rfl | rfl | rfl | rfl | rfl | rfl | rfl | rfl <;> rfl
theorem upto_succ {s w k : Nat} (hk : k < 8) : upto s w (k + 1) = stepN (upto s w k) (byteN w k) := by
  unfold upto
  rw [List.take_succ_eq_append_getElem (show k < (bytesN w).length by simpa [bytesN] using hk), bsteps_append, bytes_at hk, bsteps_cons, bsteps_nil]
theorem upto_all (s w : Nat) : upto s w 8 = wordN s w := by
  unfold upto wordN
  rw [List.take_of_length_le (by simp [bytesN])]
theorem upto_none (s w : Nat) : upto s w 0 = s := by
  unfold upto
  rw [List.take_zero, bsteps_nil]
theorem upto_back {s w k : Nat} (hs : s < top) (hk : k < 8) : upto s w (k + 1) * inv % top ^^^ byteN w k = upto s w k := by
  rw [upto_succ hk, step_back (upto_lt hs w k) (byteN_lt w k)]
theorem step_zero (s : Nat) : stepN s 0 = s * prime % top := by
  unfold stepN
  rw [Nat.xor_zero]
/-- So many bytes 0. -/
def zeros (s : Nat) : Nat → Nat
  | 0 => s
  | k + 1 => zeros s k * prime % top
theorem zeros_succ (s k : Nat) : zeros s (k + 1) = zeros s k * prime % top := by rw [zeros]
theorem zeros_lt {s : Nat} (hs : s < top) : ∀ k, zeros s k < top
  | 0 => by
    rw [zeros]
    exact hs
  | k + 1 => by
    rw [zeros_succ]
    exact Nat.mod_lt _ top_pos
theorem step_zeros (s k : Nat) : stepN (zeros s k) 0 = zeros s (k + 1) := by rw [step_zero, zeros_succ]
theorem bytes_zero : bytesN 0 = [0, 0, 0, 0, 0, 0, 0, 0] := by decide +kernel
theorem word_zero (s k : Nat) : wordN (zeros s k) 0 = zeros s (k + 8) := by
  unfold wordN
  rw [bytes_zero]
  simp only [bsteps_cons, bsteps_nil, step_zeros, Nat.add_assoc]
theorem behind_zeros (s : Nat) : ∀ n, behind s (List.replicate n 0) = zeros s (8 * n)
  | 0 => by rw [List.replicate_zero, behind_nil, Nat.mul_zero, zeros]
  | n + 1 => by rw [List.replicate_succ', behind_snoc, behind_zeros s n, word_zero, Nat.mul_succ]
end Go.Proofs.YtepiiiekcmbpaaaDoor.Su
