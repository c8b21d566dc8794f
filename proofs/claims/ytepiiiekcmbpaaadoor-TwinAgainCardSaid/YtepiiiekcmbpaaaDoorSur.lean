/-
  Contracts of the reference of package sum: Step, Behind, Next, Sum, Of, Part, Low.
-/
import Derived.Test.YtepiiiekcmbpaaaDoorSui
import Derived.Test.YtepiiiekcmbpaaaDoorSlice
import Derived.Test.YtepiiiekcmbpaaaDoorArr
import Derived.Test.YtepiiiekcmbpaaaDoorRef
import Derived.Test.YtepiiiekcmbpaaaDoorRec
import Derived.LoopN
import Derived.Handy
import Derived.IntWalk
namespace Go.Proofs.YtepiiiekcmbpaaaDoor.Su
open Go.RowKit Go.Proofs.YtepiiiekcmbpaaaDoor.Sl Go.Proofs.YtepiiiekcmbpaaaDoor.St Go.Proofs.YtepiiiekcmbpaaaDoor.Bits Go.Proofs.YtepiiiekcmbpaaaDoor.Wd Go.Proofs.YtepiiiekcmbpaaaDoor.Rf
set_option maxRecDepth 100000

/-- A state of which the lowest bits are changed. -/
theorem low_xor (s b : Nat) (hb : b < 256) : s - s % 256 + (s % 256 ^^^ b) = s ^^^ b := by
  have h1 : (s ^^^ b) / 256 = s / 256 := by
    have := Nat.xor_div_two_pow (a := s) (b := b) (n := 8)
    rw [show (2 : Nat) ^ 8 = 256 from rfl, Nat.div_eq_of_lt hb, Nat.xor_zero] at this
    exact this
  have h2 : (s ^^^ b) % 256 = s % 256 ^^^ b := by
    have := Nat.xor_mod_two_pow (a := s) (b := b) (n := 8)
    rw [show (2 : Nat) ^ 8 = 256 from rfl, Nat.mod_eq_of_lt hb] at this
    exact this
  omega
theorem step_any (s b : Int) (w : World) (hs : U64 s) (hb : 0 ≤ b ∧ b < 256) :
    Calls Tryd.prog 46 #[.int .u64 s, .int .u8 b] w fun e w' => e = .returned (.int .u64 (stepI s b)) ∧ w = w' := by
  obtain ⟨S, rfl⟩ := Int.eq_ofNat_of_zero_le hs.1
  obtain ⟨B, rfl⟩ := Int.eq_ofNat_of_zero_le hb.1
  have hS : S < 18446744073709551616 := by have := hs.2; omega
  have hB : B < 256 := by omega
  have hx : bits .xor .u8 ((S : Int) % 256) B = ((S % 256 ^^^ B : Nat) : Int) := by
    have := u8_xor_nat (S % 256) B (by omega) hB
    rw [← this]
    congr 1
  have hx2 : S % 256 ^^^ B < 256 := xor_256 (Nat.mod_lt _ (by decide)) hB
  have hl := low_xor S B hB
  have hxl : S ^^^ B < 18446744073709551616 := by
    have h1 : (18446744073709551616 : Nat) = 2 ^ 64 := by decide +kernel
    rw [h1] at hS ⊢
    exact Nat.xor_lt_two_pow hS (Nat.lt_of_lt_of_le hB (by decide +kernel))
  go_enter Tryd.func46, Tryd.ntmps46
  go_wp2
  go_ret
  refine ⟨ret_int ?_, rfl⟩
  have e1 : (S : Int) - (S : Int) % 256 + ((S % 256 ^^^ B : Nat) : Int) = ((S ^^^ B : Nat) : Int) := by omega
  rw [e1, IntKind.wrap_u64]
  unfold stepI stepN prime
  rw [Int.toNat_natCast, Int.toNat_natCast, top_num]
  omega
theorem refBytes_any (a : Int) (w : World) (ha : U64 a) :
    Calls Tryd.prog 45 #[.int .u64 a] w fun e w' => e = .returned (.agg #[.int .u8 (byteI a 0), .int .u8 (byteI a 1), .int .u8 (byteI a 2), .int .u8 (byteI a 3), .int .u8 (byteI a 4), .int .u8 (byteI a 5), .int .u8 (byteI a 6), .int .u8 (byteI a 7)]) ∧ Below w.heap.size w w' := by
  obtain ⟨h0, h1, h2, h3, h4, h5, h6, h7⟩ := bytes_eq ha
  refine (Ar.refBytes_ex a w ha).mono ?_
  rintro e w' ⟨rfl, rfl⟩
  rw [h0, h1, h2, h3, h4, h5, h6, h7]
  exact ⟨rfl, below_new (below_new (Below.refl _ _))⟩
set_option maxHeartbeats 1000000 in
theorem rbehind_any (s : Int) (a : Option Addr) (n c : Nat) (xs : List Int) (w : World) (hs : U64 s) (va : Sees w .u64 a n c xs) :
    Calls Tryd.prog 43 #[.int .u64 s, .slice a n c] w fun e w' => e = .returned (.int .u64 (behI s xs)) ∧ Below w.heap.size w w' := by
  have hlx := va.len
  have htop := va.top
  have H0 := Lib.hid (show behI s (xs.take 0) = s from beh_nil hs.1)
  go_enter Tryd.func43, Tryd.ntmps43
  go_wp2_with fail
  go_loopw [0, 5] (fun x i wr => ∃ k : Nat, k ≤ n ∧ i = .int .i64 k ∧ x = .int .u64 (behI s (xs.take k)) ∧ Below w.heap.size w wr) (fun _ i _ => n - (intOf i).toNat)
  case atStart => exact ⟨0, Nat.zero_le _, rfl, by rw [H0.out], Below.refl _ _⟩
  case round =>
    obtain ⟨k, hk, rfl, rfl, C⟩ := hrel
    by_cases hlt : k < n
    · have hk' : k < xs.length := by omega
      obtain ⟨b0, o0, rfl⟩ := va.lies (by omega)
      have r1 := (va.keep C).at k hlt
      have hvw := va.wf _ (List.getElem_mem hk')
      rw [List.getD_eq_getElem?_getD, List.getElem?_eq_getElem hk', Option.getD_some] at r1
      have HN := Lib.hid (beh_next (s := s) hk')
      have hv := St.u64_of_wf hvw
      have HU := Lib.hid (beh_u64 hs (xs.take k))
      generalize behI s (xs.take k) = S at HN HU
      generalize xs[k] = v at r1 HN hv
      clear hvw
      go_wp2_with fail
      refine (refBytes_any v _ ⟨hv.1, hv.2⟩).mono ?_
      rintro e w2 ⟨rfl, b2⟩
      have C2 := below_then C b2
      have Y := Box.new w2 #[.int .u8 (byteI v 0), .int .u8 (byteI v 1), .int .u8 (byteI v 2), .int .u8 (byteI v 3), .int .u8 (byteI v 4), .int .u8 (byteI v 5), .int .u8 (byteI v 6), .int .u8 (byteI v 7)] 82
      have C3 := below_new (o := .cells #[.int .u8 (byteI v 0), .int .u8 (byteI v 1), .int .u8 (byteI v 2), .int .u8 (byteI v 3), .int .u8 (byteI v 4), .int .u8 (byteI v 5), .int .u8 (byteI v 6), .int .u8 (byteI v 7)] 82) C2
      have HC := Lib.hid (fun (j : Nat) (hj : j < 8) => show (w2.alloc (.cells #[.int .u8 (byteI v 0), .int .u8 (byteI v 1), .int .u8 (byteI v 2), .int .u8 (byteI v 3), .int .u8 (byteI v 4), .int .u8 (byteI v 5), .int .u8 (byteI v 6), .int .u8 (byteI v 7)] 82)).cell? ⟨w2.heap.size, j, none⟩ = some (.int .u8 (byteI v j)) from by
        rw [Y.cell j]
        rcases (by omega : j = 0 ∨ j = 1 ∨ j = 2 ∨ j = 3 ∨ j = 4 ∨ j = 5 ∨ j = 6 ∨ j = 7) with rfl | rfl | rfl | rfl | rfl | rfl | rfl | rfl <;> rfl)
      clear Y
      have HU0 := Lib.hid (uptoI_none HU.out.1 v)
      go_wp2_with fail
      generalize w2.alloc (.cells #[.int .u8 (byteI v 0), .int .u8 (byteI v 1), .int .u8 (byteI v 2), .int .u8 (byteI v 3), .int .u8 (byteI v 4), .int .u8 (byteI v 5), .int .u8 (byteI v 6), .int .u8 (byteI v 7)] 82) = W at HC C3 ⊢
      go_loopw [0, 7] (fun x i wr => ∃ j : Nat, j ≤ 8 ∧ i = .int .i64 j ∧ x = .int .u64 (uptoI S v j) ∧ wr = W) (fun _ i _ => 8 - (intOf i).toNat)
      case atStart => exact ⟨0, Nat.zero_le _, rfl, by rw [HU0.out], rfl⟩
      case round =>
        obtain ⟨j, hj, rfl, rfl, rfl⟩ := hrel
        by_cases hjl : j < 8
        · have r2 := HC.out j hjl
          have hb := byteI_bd v j
          have HS := Lib.hid (stepI_upto S v hjl)
          have hu := uptoI_bd HU.out v j
          go_wp2_with fail
          refine (step_any _ _ _ ⟨hu.1, hu.2⟩ hb).mono ?_
          rintro e w4 ⟨rfl, rfl⟩
          go_wp2
          go_roundw
          case rel => exact ⟨j + 1, by omega, by go_num, by rw [HS.out], trivial⟩
          case measure => simp [intOf]; omega
        · obtain rfl : j = 8 := by omega
          rw [HN.out]
          go_wp2
          go_roundw
          case rel => exact ⟨k + 1, by omega, by go_num, rfl, C3⟩
          case measure => simp [intOf]; omega
    · obtain rfl : k = n := by omega
      have HF := Lib.hid (show xs.take k = xs from List.take_of_length_le (by omega))
      rw [HF.out]
      go_wp2
      go_ret
      exact ⟨rfl, C⟩
theorem rsum_any (a : Option Addr) (n c : Nat) (xs : List Int) (w : World) (va : Sees w .u64 a n c xs) :
    Calls Tryd.prog 41 #[.slice a n c] w fun e w' => e = .returned (.int .u64 (behI firstI xs)) ∧ Below w.heap.size w w' := by
  go_enter Tryd.func41, Tryd.ntmps41
  go_wp2_with fail
  refine (rbehind_any 14695981039346656037 _ _ _ _ _ first_u64 va).mono ?_
  rintro e w1 ⟨rfl, b1⟩
  go_wp2
  go_ret
  exact ⟨rfl, b1⟩
end Go.Proofs.YtepiiiekcmbpaaaDoor.Su
