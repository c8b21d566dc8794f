/-
  Sums of words over the integers of the model: what Next, Of and Low return.
-/
import Derived.Test.YtepiiiekcmbpaaaDoorSup
import Derived.Test.YtepiiiekcmbpaaaDoorWord
import Derived.Test.YtepiiiekcmbpaaaDoorOwn
namespace Go.Proofs.YtepiiiekcmbpaaaDoor.Su
open Go.RowKit Go.Proofs.YtepiiiekcmbpaaaDoor.Sl Go.Proofs.YtepiiiekcmbpaaaDoor.Bits Go.Proofs.YtepiiiekcmbpaaaDoor.Wd
set_option maxRecDepth 100000

def toN (xs : List Int) : List Nat := xs.map Int.toNat
theorem toN_len (xs : List Int) : (toN xs).length = xs.length := List.length_map _
theorem toN_append (xs ys : List Int) : toN (xs ++ ys) = toN xs ++ toN ys := List.map_append
theorem toN_zeros (n : Nat) : toN (List.replicate n 0) = List.replicate n 0 := by
  unfold toN
  rw [List.map_replicate]
  rfl
/-- The state behind words. -/
def behI (s : Int) (xs : List Int) : Int := ((behind s.toNat (toN xs) : Nat) : Int)
theorem u64_top {s : Int} (h : U64 s) : s.toNat < top := by
  rw [top_num]
  have := h.1
  have := h.2
  omega
theorem beh_bd {s : Int} (h : U64 s) (xs : List Int) : 0 ≤ behI s xs ∧ behI s xs < 18446744073709551616 := by
  have h1 := behind_lt (toN xs) _ (u64_top h)
  rw [top_num] at h1
  unfold behI
  omega
theorem beh_u64 {s : Int} (h : U64 s) (xs : List Int) : U64 (behI s xs) := ⟨(beh_bd h xs).1, (beh_bd h xs).2⟩
theorem beh_parts (s : Int) (xs ys : List Int) : behI (behI s xs) ys = behI s (xs ++ ys) := by
  unfold behI
  rw [Int.toNat_natCast, toN_append, behind_parts]
theorem beh_nil {s : Int} (h : 0 ≤ s) : behI s [] = s := by
  unfold behI
  show ((behind s.toNat [] : Nat) : Int) = s
  rw [behind_nil]
  omega
def uptoI (s v : Int) (k : Nat) : Int := ((upto s.toNat v.toNat k : Nat) : Int)
theorem uptoI_bd {s : Int} (hs : U64 s) (v : Int) (k : Nat) : 0 ≤ uptoI s v k ∧ uptoI s v k < 18446744073709551616 := by
  have h := upto_lt (u64_top hs) v.toNat k
  rw [top_num] at h
  unfold uptoI
  omega
theorem uptoI_all (s v : Int) : uptoI s v 8 = ((wordN s.toNat v.toNat : Nat) : Int) := by
  unfold uptoI
  rw [upto_all]
theorem uptoI_none {s : Int} (hs : 0 ≤ s) (v : Int) : uptoI s v 0 = s := by
  unfold uptoI
  rw [upto_none]
  omega
def byteI (v : Int) (j : Nat) : Int := ((byteN v.toNat j : Nat) : Int)
theorem byteI_bd (v : Int) (j : Nat) : 0 ≤ byteI v j ∧ byteI v j < 256 := by
  have := byteN_lt v.toNat j
  unfold byteI
  omega
def stepI (s b : Int) : Int := ((stepN s.toNat b.toNat : Nat) : Int)
theorem stepI_bd (s b : Int) : 0 ≤ stepI s b ∧ stepI s b < 18446744073709551616 := by
  have h := stepN_lt s.toNat b.toNat
  rw [top_num] at h
  unfold stepI
  omega
theorem stepI_upto (s v : Int) {j : Nat} (hj : j < 8) : stepI (uptoI s v j) (byteI v j) = uptoI s v (j + 1) := by
  unfold stepI uptoI byteI
  rw [Int.toNat_natCast, Int.toNat_natCast, upto_succ hj]
theorem beh_next {s : Int} {xs : List Int} {k : Nat} (hk : k < xs.length) : uptoI (behI s (xs.take k)) xs[k] 8 = behI s (xs.take (k + 1)) := by
  rw [uptoI_all]
  unfold behI
  rw [Int.toNat_natCast]
  have e : toN (xs.take (k + 1)) = (toN xs).take (k + 1) := by unfold toN; rw [List.map_take]
  have e0 : toN (xs.take k) = (toN xs).take k := by unfold toN; rw [List.map_take]
  have hk' : k < (toN xs).length := by rw [toN_len]; exact hk
  have e2 : (toN xs)[k] = xs[k].toNat := by simp [toN]
  rw [e, e0, behind_take hk', e2]
/-- The bytes of a word as Bytes tells them. -/
theorem bytes_eq {v : Int} (hv : U64 v) : v % 256 = byteI v 0 ∧ v / 256 % 256 = byteI v 1 ∧ v / 65536 % 256 = byteI v 2 ∧ v / 16777216 % 256 = byteI v 3 ∧ v / 4294967296 % 256 = byteI v 4 ∧ v / 1099511627776 % 256 = byteI v 5 ∧ v / 281474976710656 % 256 = byteI v 6 ∧ v / 72057594037927936 = byteI v 7 := by
  obtain ⟨V, rfl⟩ := Int.eq_ofNat_of_zero_le hv.1
  have hV := hv.2
  unfold byteI byteN
  rw [Int.toNat_natCast, show (2 : Nat) ^ (8 * 0) = 1 from rfl, show (2 : Nat) ^ (8 * 1) = 256 from rfl, show (2 : Nat) ^ (8 * 2) = 65536 from rfl, show (2 : Nat) ^ (8 * 3) = 16777216 from rfl, show (2 : Nat) ^ (8 * 4) = 4294967296 from rfl, show (2 : Nat) ^ (8 * 5) = 1099511627776 from rfl, show (2 : Nat) ^ (8 * 6) = 281474976710656 from rfl, show (2 : Nat) ^ (8 * 7) = 72057594037927936 from rfl]
  omega
def firstI : Int := 14695981039346656037
theorem first_u64 : U64 firstI := ⟨by decide, by decide⟩
/-- The errors. -/
def manyE (n : Nat) : Int := if 2048 < n then 4 else 0
def lowE (n : Nat) (t : Int) : Int := if 2048 < n then 4 else if t < 8 ∨ 64 < t then 2 else 0
def nextI (s : Int) (xs : List Int) : Int := if 2048 < xs.length then 0 else behI s xs
def lowI (xs : List Int) (t : Int) : Int := if lowE xs.length t = 0 then ((behind firstI.toNat (toN xs) % 2 ^ t.toNat : Nat) : Int) else 0
theorem many_ok {n : Nat} (h : n ≤ 2048) : manyE n = 0 := by unfold manyE; rw [if_neg (by omega)]
theorem next_ok {s : Int} {xs : List Int} (h : xs.length ≤ 2048) : nextI s xs = behI s xs := by unfold nextI; rw [if_neg (by omega)]
theorem lowE_ok {n : Nat} {t : Int} (h : n ≤ 2048) (ht : 8 ≤ t ∧ t ≤ 64) : lowE n t = 0 := by unfold lowE; rw [if_neg (by omega), if_neg (by omega)]
theorem low_ok {xs : List Int} {t : Int} (h : xs.length ≤ 2048) (ht : 8 ≤ t ∧ t ≤ 64) : lowI xs t = ((behind firstI.toNat (toN xs) % 2 ^ t.toNat : Nat) : Int) := by
  unfold lowI
  rw [if_pos (lowE_ok h ht)]
theorem beh_eq {s s' : Int} {xs ys : List Int} (hs : U64 s) (hs' : U64 s') : behI s xs = behI s' ys ↔ behind s.toNat (toN xs) % 2 ^ 64 = behind s'.toNat (toN ys) % 2 ^ 64 := by
  have h1 := behind_lt (toN xs) _ (u64_top hs)
  have h2 := behind_lt (toN ys) _ (u64_top hs')
  rw [top_two] at h1 h2
  rw [Nat.mod_eq_of_lt h1, Nat.mod_eq_of_lt h2]
  unfold behI
  omega
/-- States stay different behind the same words. -/
theorem beh_apart {s s' : Int} (xs : List Int) (hs : U64 s) (hs' : U64 s') : behI s xs = behI s' xs ↔ s = s' := by
  have h1 := u64_top hs
  have h2 := u64_top hs'
  rw [beh_eq hs hs', behind_cong (by decide)]
  rw [top_two] at h1 h2
  rw [Nat.mod_eq_of_lt h1, Nat.mod_eq_of_lt h2]
  have := hs.1
  have := hs'.1
  omega
theorem toN_set (xs : List Int) (i : Nat) (v : Int) : toN (xs.set i v) = (toN xs).set i v.toNat := by
  unfold toN
  rw [List.map_set]
/-- A change of one byte of one word. -/
theorem flip_eq {xs : List Int} {i k c : Nat} (hi : i < xs.length) {w : Nat} (hw : w ≤ 64) (h8 : 8 ≤ w) (s : Nat) (hk : k < 8) (hc : c < 256) :
    behind s (toN xs) % 2 ^ w = behind s (toN (xs.set i (((xs[i].toNat ^^^ c * 2 ^ (8 * k) : Nat)) : Int))) % 2 ^ w ↔ c = 0 := by
  rw [toN_set, Int.toNat_natCast]
  have hi' : i < (toN xs).length := by rw [toN_len]; exact hi
  have e : (toN xs)[i] = xs[i].toNat := by simp [toN]
  rw [← e]
  exact behind_flip hw h8 s hi' hk hc
theorem low_get {S : Nat} {t : Int} : getI (S : Int) 0 t = ((S % 2 ^ t.toNat : Nat) : Int) := by
  unfold getI fld
  rw [Int.toNat_natCast]
  simp
end Go.Proofs.YtepiiiekcmbpaaaDoor.Su
