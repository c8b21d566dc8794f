/-
  Contracts of package sum: Next, Of, Low.
-/
import Derived.Test.YtepiiiekcmbpaaaDoorSui
import Derived.Test.YtepiiiekcmbpaaaDoorSlice
import Derived.Test.YtepiiiekcmbpaaaDoorArr
import Derived.LoopN
import Derived.Handy
import Derived.IntWalk
namespace Go.Proofs.YtepiiiekcmbpaaaDoor.Su
open Go.RowKit Go.Proofs.YtepiiiekcmbpaaaDoor.Sl Go.Proofs.YtepiiiekcmbpaaaDoor.St Go.Proofs.YtepiiiekcmbpaaaDoor.Bits Go.Proofs.YtepiiiekcmbpaaaDoor.Wd
set_option maxRecDepth 100000

/-- A step as the program computes it. -/
theorem step_val {s b : Int} (hs : U64 s) (hb : 0 ≤ b ∧ b < 256) : IntKind.u64.wrap (bits .xor .u64 s b * 1099511628211) = stepI s b := by
  have hs1 := hs.1
  have hs2 := hs.2
  rw [u64_xor _ _ hs1 hs2 hb.1 (by omega), IntKind.wrap_u64]
  unfold stepI stepN prime
  rw [top_num]
  omega
theorem bytes_b (a : Int) (w : World) (ha : U64 a) :
    Calls Tryd.prog 47 #[.int .u64 a] w fun e w' => e = .returned (.agg #[.int .u8 (byteI a 0), .int .u8 (byteI a 1), .int .u8 (byteI a 2), .int .u8 (byteI a 3), .int .u8 (byteI a 4), .int .u8 (byteI a 5), .int .u8 (byteI a 6), .int .u8 (byteI a 7)]) ∧ Below w.heap.size w w' := by
  obtain ⟨h0, h1, h2, h3, h4, h5, h6, h7⟩ := bytes_eq ha
  refine (Ar.bytes_any a w ha).mono ?_
  rintro e w' ⟨rfl, h⟩
  rw [h0, h1, h2, h3, h4, h5, h6, h7]
  exact ⟨rfl, h⟩
/-- An element of eight bytes by value. -/
theorem idx8 (b0 b1 b2 b3 b4 b5 b6 b7 : Int) : (∀ w, (Instr.index 82 (.agg #[.int .u8 b0, .int .u8 b1, .int .u8 b2, .int .u8 b3, .int .u8 b4, .int .u8 b5, .int .u8 b6, .int .u8 b7]) (.int .i64 0)).run Tryd.prog w = .ok (.int .u8 b0) w) ∧ (∀ w, (Instr.index 82 (.agg #[.int .u8 b0, .int .u8 b1, .int .u8 b2, .int .u8 b3, .int .u8 b4, .int .u8 b5, .int .u8 b6, .int .u8 b7]) (.int .i64 1)).run Tryd.prog w = .ok (.int .u8 b1) w) ∧ (∀ w, (Instr.index 82 (.agg #[.int .u8 b0, .int .u8 b1, .int .u8 b2, .int .u8 b3, .int .u8 b4, .int .u8 b5, .int .u8 b6, .int .u8 b7]) (.int .i64 2)).run Tryd.prog w = .ok (.int .u8 b2) w) ∧ (∀ w, (Instr.index 82 (.agg #[.int .u8 b0, .int .u8 b1, .int .u8 b2, .int .u8 b3, .int .u8 b4, .int .u8 b5, .int .u8 b6, .int .u8 b7]) (.int .i64 3)).run Tryd.prog w = .ok (.int .u8 b3) w) ∧ (∀ w, (Instr.index 82 (.agg #[.int .u8 b0, .int .u8 b1, .int .u8 b2, .int .u8 b3, .int .u8 b4, .int .u8 b5, .int .u8 b6, .int .u8 b7]) (.int .i64 4)).run Tryd.prog w = .ok (.int .u8 b4) w) ∧ (∀ w, (Instr.index 82 (.agg #[.int .u8 b0, .int .u8 b1, .int .u8 b2, .int .u8 b3, .int .u8 b4, .int .u8 b5, .int .u8 b6, .int .u8 b7]) (.int .i64 5)).run Tryd.prog w = .ok (.int .u8 b5) w) ∧ (∀ w, (Instr.index 82 (.agg #[.int .u8 b0, .int .u8 b1, .int .u8 b2, .int .u8 b3, .int .u8 b4, .int .u8 b5, .int .u8 b6, .int .u8 b7]) (.int .i64 6)).run Tryd.prog w = .ok (.int .u8 b6) w) ∧ (∀ w, (Instr.index 82 (.agg #[.int .u8 b0, .int .u8 b1, .int .u8 b2, .int .u8 b3, .int .u8 b4, .int .u8 b5, .int .u8 b6, .int .u8 b7]) (.int .i64 7)).run Tryd.prog w = .ok (.int .u8 b7) w) :=
  ⟨fun _ => by kernel_rfl, fun _ => by kernel_rfl, fun _ => by kernel_rfl, fun _ => by kernel_rfl, fun _ => by kernel_rfl, fun _ => by kernel_rfl, fun _ => by kernel_rfl, fun _ => by kernel_rfl⟩
set_option maxHeartbeats 1000000 in
theorem mstep_any (s b : Int) (w : World) (hs : U64 s) (hb : 0 ≤ b ∧ b < 256) :
    Calls Tryd.prog 48 #[.int .u64 s, .int .u8 b] w fun e w' => e = .returned (.int .u64 (stepI s b)) ∧ w = w' := by
  have HV := Lib.hid (step_val hs hb)
  go_enter Tryd.func48, Tryd.ntmps48
  go_wp2_with fail
  go_ret
  exact ⟨congrArg (fun v => Ending.returned (.int .u64 v)) HV.out, rfl⟩
set_option maxHeartbeats 1000000 in
theorem next_any (s : Int) (a : Option Addr) (n c : Nat) (xs : List Int) (w : World) (hs : U64 s) (va : Sees w .u64 a n c xs) :
    Calls Tryd.prog 44 #[.int .u64 s, .slice a n c] w fun e w' => e = .returned (.tuple #[.int .u64 (nextI s xs), .int .i64 (manyE n)]) ∧ Below w.heap.size w w' := by
  have hlx := va.len
  have htop := va.top
  by_cases h : 2048 < n
  · have H1 := Lib.hid (show nextI s xs = 0 from by unfold nextI; rw [if_pos (by omega)])
    have H2 := Lib.hid (show manyE n = 4 from by unfold manyE; rw [if_pos h])
    go_enter Tryd.func44, Tryd.ntmps44
    go_wp2_with fail
    go_ret2
    rw [H1.out, H2.out]
    exact ⟨rfl, Below.refl _ _⟩
  · have H1 := Lib.hid (next_ok (s := s) (xs := xs) (by omega))
    have H2 := Lib.hid (many_ok (n := n) (by omega))
    have H0 := Lib.hid (show behI s (xs.take 0) = s from beh_nil hs.1)
    go_enter Tryd.func44, Tryd.ntmps44
    go_wp2_with fail
    go_loopw [0, 15] (fun x i wr => ∃ k : Nat, k ≤ n ∧ i = .int .i64 k ∧ x = .int .u64 (behI s (xs.take k)) ∧ Below w.heap.size w wr) (fun _ i _ => n - (intOf i).toNat)
    case atStart => exact ⟨0, Nat.zero_le _, rfl, by rw [H0.out], Below.refl _ _⟩
    case round =>
      obtain ⟨k, hk, rfl, rfl, C⟩ := hrel
      by_cases hlt : k < n
      · have hk' : k < xs.length := by omega
        obtain ⟨b0, o0, rfl⟩ := va.lies (by omega)
        have r1 := (va.keep C).at k hlt
        have hvw := va.wf _ (List.getElem_mem hk')
        rw [List.getD_eq_getElem?_getD, List.getElem?_eq_getElem hk', Option.getD_some] at r1
        have HN := Lib.hid (beh_next (s := s) hk')
        have hv := St.u64_of_wf hvw
        have HU := Lib.hid (beh_u64 hs (xs.take k))
        generalize behI s (xs.take k) = S at HN HU
        generalize xs[k] = v at r1 HN hv
        clear hvw
        have HU0 := Lib.hid (uptoI_none HU.out.1 v)
        go_wp2_with fail
        refine (bytes_b v _ ⟨hv.1, hv.2⟩).mono ?_
        rintro e w2 ⟨rfl, b2⟩
        have C2 := below_then C b2
        go_wp2_with fail
        go_loopw [0, 21] (fun x i wr => ∃ j : Nat, j ≤ 8 ∧ i = .int .i64 j ∧ x = .int .u64 (uptoI S v j) ∧ wr = w2) (fun _ i _ => 8 - (intOf i).toNat)
        case atStart => exact ⟨0, Nat.zero_le _, rfl, by rw [HU0.out], rfl⟩
        case round =>
          obtain ⟨j, hj, rfl, rfl, rfl⟩ := hrel
          by_cases hjl : j < 8
          · have hb := byteI_bd v j
            have HS := Lib.hid (stepI_upto S v hjl)
            have hu := uptoI_bd HU.out v j
            obtain ⟨i0, i1, i2, i3, i4, i5, i6, i7⟩ := idx8 (byteI v 0) (byteI v 1) (byteI v 2) (byteI v 3) (byteI v 4) (byteI v 5) (byteI v 6) (byteI v 7)
            rcases (by omega : j = 0 ∨ j = 1 ∨ j = 2 ∨ j = 3 ∨ j = 4 ∨ j = 5 ∨ j = 6 ∨ j = 7) with rfl | rfl | rfl | rfl | rfl | rfl | rfl | rfl
            all_goals
              go_wp2_with fail
              refine (mstep_any _ _ _ ⟨hu.1, hu.2⟩ hb).mono ?_
              rintro e w3 ⟨rfl, rfl⟩
              rw [HS.out]
              go_wp2_with fail
              go_roundw
              case rel => exact ⟨_ + 1, by omega, by go_num, rfl, trivial⟩
              case measure => simp [intOf]
          · obtain rfl : j = 8 := by omega
            rw [HN.out]
            go_wp2_with fail
            go_roundw
            case rel => exact ⟨k + 1, by omega, by go_num, rfl, C2⟩
            case measure => simp [intOf]; omega
      · obtain rfl : k = n := by omega
        have HF := Lib.hid (show xs.take k = xs from List.take_of_length_le (by omega))
        rw [HF.out]
        go_wp2_with fail
        go_ret2
        rw [H1.out, H2.out]
        exact ⟨rfl, C⟩
theorem of_any (a : Option Addr) (n c : Nat) (xs : List Int) (w : World) (va : Sees w .u64 a n c xs) :
    Calls Tryd.prog 42 #[.slice a n c] w fun e w' => e = .returned (.tuple #[.int .u64 (nextI firstI xs), .int .i64 (manyE n)]) ∧ Below w.heap.size w w' := by
  go_enter Tryd.func42, Tryd.ntmps42
  go_wp2_with fail
  refine (next_any 14695981039346656037 _ _ _ _ _ first_u64 va).mono ?_
  rintro e w1 ⟨rfl, b1⟩
  go_wp2_with fail
  go_ret2
  exact ⟨rfl, b1⟩
end Go.Proofs.YtepiiiekcmbpaaaDoor.Su
