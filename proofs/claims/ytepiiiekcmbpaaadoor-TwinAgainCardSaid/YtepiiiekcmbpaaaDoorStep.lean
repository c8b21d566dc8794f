/-
  The last step of a law's row, the same for each law: a call that returns true and turns nothing that was there fulfils the row; and how eight bytes that come in are opened.
-/
import Derived.Test.YtepiiiekcmbpaaaDoorRows
import Derived.WalkKit
import Derived.ProofKit
import Derived.OpenShut
import Derived.Carry
namespace Go.Proofs.YtepiiiekcmbpaaaDoor.St
open Go.ChangeShapes Go.WideShapes Go.ChangeAt Go.RowKit

theorem own : ownKnob Tryd.prog.godebug = none := by kernel_rfl
theorem laid : laidOutB Tryd.prog = true := by kernel_rfl

/-- A new block leaves what was there. -/
theorem below_then {a b c : World} (h : Below a.heap.size a b) (k : Below b.heap.size b c) : Below a.heap.size a c := h.trans (k.mono h.size)
theorem below_new {a w : World} {o : Obj} (h : Below a.heap.size a w) : Below a.heap.size a (w.alloc o) := h.alloc h.size o

section
variable {H : Type} {enc : TypeId × Value → H} {P : Program}

/-- The types of the arguments can be read again. -/
def rowed (P : Program) (ts : List TypeId) : Bool := ts.all fun t => P.readableRec t && decide (t < P.types.size)

/-- All arguments read as they did, where nothing has turned below the heap's old size. -/
theorem all_stay (hl : laidOutB P = true) {W W' : World} (hb : Below W.heap.size W W') :
    ∀ {ts : List TypeId} {vs : List Value} {ds : List (DataW H)} {ps : List MemPlace}, rowed P ts = true → DataW.TrodAll enc P W 0 (fun _ => true) true ts vs ds ps →
      DataW.TrodAll enc P W' 0 (fun b => decide (b < W.heap.size)) true ts vs ds ps
  | [], _, _, _, _, h => by
    obtain ⟨rfl, rfl, rfl⟩ := trodAll_nil h
    exact trodAll_mk0
  | t :: ts, _, _, _, hr, h => by
    have hlt := DataW.TrodAll.lt h
    obtain ⟨v, vs, d, ds, p, q, rfl, rfl, rfl, h1, h2⟩ := trodAll_cons h
    simp only [rowed, List.all_cons, Bool.and_eq_true, decide_eq_true_eq] at hr
    exact trodAll_cons_mk (Below.trod hl hr.1.1 hr.1.2 h1 hb (fun x hx => hlt x (List.mem_append_left _ hx))) (all_stay hl hb hr.2 h2)

/-- The law has returned true, and what was there is as it was. -/
theorem law_done {f : Func} {s : ChangeSpec} {T : TypeId} {W W' : World} {args : Array Value} {ds gs : List (DataW H)} {before : List MemPlace}
    (hl : laidOutB P = true) (hr : rowed P f.params.toList = true) (hsv : s.vars = []) (hrt : f.resultTypes = #[T]) (hT : P.underlying T = some .bool)
    (hfn : s.fn H ds = { results := [.lit (.bool true)], args := ds }) (hW : DataW.Whole enc P f.params.toList s.vars false W args.toList ds gs before) (hb : Below W.heap.size W W') :
    ∃ v, Ending.returned (.bool true) = .returned v ∧ s.post enc P f false true false false W args v W' := by
  have hW' := hW
  obtain ⟨p, q, hA, hV, rfl, hfz, hnd⟩ := hW
  rw [hsv] at hV
  obtain ⟨rfl, rfl⟩ := trodVars_none hV
  refine ⟨_, rfl, ds, [], p ++ [], [], p, [], hW', ?_, ?_, ?_, hb.frame _, fun h => by cases h⟩
  · rw [List.append_nil, hfn, hrt]
    exact trodAll_cons_mk (shut_bool hT true) trodAll_mk0
  · rw [List.append_nil, hfn]
    exact all_stay hl hb hr hA
  · rw [List.append_nil, hfn, hsv]
    rfl

/-- Eight bytes by value. -/
theorem open_bytes8 {t e : TypeId} {W : World} {base : Nat} {v : Value} {d : DataW H} {ps : List MemPlace} {b : Nat} {sp : Nat → Bool} {hd : Bool} {m : Reach}
    (ht : P.underlying t = some (.array 8 e)) (he : P.underlying e = some (.int .u8)) (hct : P.cellsOf t = 8) (hce : P.cellsOf e = 1)
    (hv : Value.okWide P W m base t v) (h : DataW.Trod enc P W b sp hd t v d ps) :
    ∃ b0 b1 b2 b3 b4 b5 b6 b7 : Int, v = .agg #[.int .u8 b0, .int .u8 b1, .int .u8 b2, .int .u8 b3, .int .u8 b4, .int .u8 b5, .int .u8 b6, .int .u8 b7] ∧
      (0 ≤ b0 ∧ b0 < 256) ∧ (0 ≤ b1 ∧ b1 < 256) ∧ (0 ≤ b2 ∧ b2 < 256) ∧ (0 ≤ b3 ∧ b3 < 256) ∧ (0 ≤ b4 ∧ b4 < 256) ∧ (0 ≤ b5 ∧ b5 < 256) ∧ (0 ≤ b6 ∧ b6 < 256) ∧ (0 ≤ b7 ∧ b7 < 256) := by
  obtain ⟨cs, rfl, hsz, _⟩ : ∃ cs, v = .agg cs ∧ cs.size = P.cellsOf t ∧ Row.okWide P W m base t cs := by
    simpa [Value.okWide, ht] using hv
  rw [hct] at hsz
  obtain ⟨l⟩ := cs
  match l, hsz with
  | [c0, c1, c2, c3, c4, c5, c6, c7], _ =>
  obtain ⟨fuel, hf⟩ := h
  obtain ⟨xs, n, _, _, _, hx, hi⟩ := DataW.trod_array ht hf
  rw [hce] at hi
  have key : ∀ (i : Nat) (c : Value), i < 8 → (([c0, c1, c2, c3, c4, c5, c6, c7].drop (i * 1)).take 1) = [c] → ∃ z : Int, c = .int .u8 z ∧ (0 ≤ z ∧ z < 256) := by
    intro i c hlt hc
    have h1 := hi i hlt
    have h2 : DataW.trod enc P W b sp hd n e [c] = xs[i]? := by rw [← hc]; exact h1
    rw [List.getElem?_eq_getElem (by omega)] at h2
    obtain ⟨z, e1, _, wz⟩ := DataW.trod_int he h2
    simp only [List.cons.injEq, and_true] at e1
    refine ⟨z, e1, ?_⟩
    simp [Lit.wf, IntKind.min, IntKind.max, IntKind.signed, IntKind.bits] at wz
    omega
  obtain ⟨b0, rfl, h0⟩ := key 0 c0 (by decide) rfl
  obtain ⟨b1, rfl, h1⟩ := key 1 c1 (by decide) rfl
  obtain ⟨b2, rfl, h2⟩ := key 2 c2 (by decide) rfl
  obtain ⟨b3, rfl, h3⟩ := key 3 c3 (by decide) rfl
  obtain ⟨b4, rfl, h4⟩ := key 4 c4 (by decide) rfl
  obtain ⟨b5, rfl, h5⟩ := key 5 c5 (by decide) rfl
  obtain ⟨b6, rfl, h6⟩ := key 6 c6 (by decide) rfl
  obtain ⟨b7, rfl, h7⟩ := key 7 c7 (by decide) rfl
  exact ⟨b0, b1, b2, b3, b4, b5, b6, b7, rfl, h0, h1, h2, h3, h4, h5, h6, h7⟩
theorem u64_of_wf {a : Int} (h : (Lit.int .u64 a).wf = true) : 0 ≤ a ∧ a < 18446744073709551616 := by
  simp [Lit.wf, IntKind.min, IntKind.max, IntKind.signed, IntKind.bits] at h
  omega
theorem u8_of_wf {a : Int} (h : (Lit.int .u8 a).wf = true) : 0 ≤ a ∧ a < 256 := by
  simp [Lit.wf, IntKind.min, IntKind.max, IntKind.signed, IntKind.bits] at h
  omega
theorem i64_of_wf {a : Int} (h : (Lit.int .i64 a).wf = true) : -9223372036854775808 ≤ a ∧ a ≤ 9223372036854775807 := by
  simp [Lit.wf, IntKind.min, IntKind.max, IntKind.signed, IntKind.bits] at h
  omega
end
end Go.Proofs.YtepiiiekcmbpaaaDoor.St
