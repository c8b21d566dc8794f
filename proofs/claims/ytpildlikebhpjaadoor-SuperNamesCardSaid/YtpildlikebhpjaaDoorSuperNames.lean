/-
  The law SuperNames returns true; no condition.
-/
import Derived.Test.YtpildlikebhpjaaDoorSbl
import Derived.Test.YtpildlikebhpjaaDoorSbo
import Derived.Test.YtpildlikebhpjaaDoorGl
import Derived.Test.YtpildlikebhpjaaDoorSal
import Derived.Test.YtpildlikebhpjaaDoorRecb
namespace Go.Proofs.YtpildlikebhpjaaDoor.superNames
open Go.ChangeShapes Go.WideShapes Go.ChangeAt Go.RowKit Go.Proofs.YtpildlikebhpjaaDoor.Gv Go.Proofs.YtpildlikebhpjaaDoor.Sb Go.Proofs.YtpildlikebhpjaaDoor.Sl Go.Proofs.YtpildlikebhpjaaDoor.St Go.Proofs.YtpildlikebhpjaaDoor.Bits Go.Proofs.YtpildlikebhpjaaDoor.Wd Go.Proofs.YtpildlikebhpjaaDoor.Su Go.Proofs.YtpildlikebhpjaaDoor.Ir
set_option linter.unusedVariables false
set_option maxRecDepth 100000
def badW (k : Nat) : Int := match k with
  | 0 => 0 | 1 => 248 | 2 => 2056 | 3 => 257 | 4 => 256 | 5 => 256 | _ => -256
def badT (k : Nat) : Int := match k with
  | 4 => -1 | 5 => 9 | _ => 0
def none7 (k : Nat) : List Int := match k with
  | 0 => [32777959566500194, 1, 248, 0, 0, 0, 0]
  | 1 => [32777959566500194, 1, 256, 9, 0, 0, 0]
  | 2 => [32777959566500194, 2, 256, 0, 0, 0, 0]
  | 3 => [32777959566500195, 1, 256, 0, 0, 0, 0]
  | 4 => [32777959566500194, 1, 256, 0, 1, 0, 0]
  | 5 => [32777959566500194, 1, 256, 0, 0, 0, 1]
  | 6 => [32777959566500194, 1, 4294967552, 0, 0, 0, 0]
  | _ => [32777959566500194, 1, 256, 9223372036854775808, 0, 0, 0]
theorem eight {p : Nat → Prop} (h0 : p 0) (h1 : p 1) (h2 : p 2) (h3 : p 3) (h4 : p 4) (h5 : p 5) (h6 : p 6) (h7 : p 7) : ∀ k, k < 8 → p k := fun k hk => by
  rcases (by omega : k = 0 ∨ k = 1 ∨ k = 2 ∨ k = 3 ∨ k = 4 ∨ k = 5 ∨ k = 6 ∨ k = 7) with rfl | rfl | rfl | rfl | rfl | rfl | rfl | rfl
  · exact h0
  · exact h1
  · exact h2
  · exact h3
  · exact h4
  · exact h5
  · exact h6
  · exact h7
theorem seven {p : Nat → Prop} (h0 : p 0) (h1 : p 1) (h2 : p 2) (h3 : p 3) (h4 : p 4) (h5 : p 5) (h6 : p 6) : ∀ k, k < 7 → p k := fun k hk => by
  rcases (by omega : k = 0 ∨ k = 1 ∨ k = 2 ∨ k = 3 ∨ k = 4 ∨ k = 5 ∨ k = 6) with rfl | rfl | rfl | rfl | rfl | rfl | rfl
  · exact h0
  · exact h1
  · exact h2
  · exact h3
  · exact h4
  · exact h5
  · exact h6
theorem bad_not : ∀ k, k < 7 → ¬ IsSb (badW k) (badT k) := seven (by decide) (by decide) (by decide) (by decide) (by decide) (by decide) (by decide)
theorem bad_i64 : ∀ k, k < 7 → I64 (badW k) ∧ I64 (badT k) := seven (by unfold I64; decide) (by unfold I64; decide) (by unfold I64; decide) (by unfold I64; decide) (by unfold I64; decide) (by unfold I64; decide) (by unfold I64; decide)
def badCells : Array Value := #[.int .i64 0, .int .i64 0, .int .i64 248, .int .i64 0, .int .i64 2056, .int .i64 0, .int .i64 257, .int .i64 0, .int .i64 256, .int .i64 (-1), .int .i64 256, .int .i64 9, .int .i64 (-256), .int .i64 0]
theorem bad_at : ∀ k, k < 7 → badCells[k * 2]? = some (.int .i64 (badW k)) ∧ badCells[k * 2 + 1]? = some (.int .i64 (badT k)) := seven ⟨rfl, rfl⟩ ⟨rfl, rfl⟩ ⟨rfl, rfl⟩ ⟨rfl, rfl⟩ ⟨rfl, rfl⟩ ⟨rfl, rfl⟩ ⟨rfl, rfl⟩
theorem none_len : ∀ k, k < 8 → (none7 k).length = 7 := eight rfl rfl rfl rfl rfl rfl rfl rfl
theorem none_wf : ∀ k, k < 8 → ∀ x ∈ none7 k, (Lit.int .u64 x).wf = true := eight (by decide) (by decide) (by decide) (by decide) (by decide) (by decide) (by decide) (by decide)
theorem none_read (s : Int) : ∀ k, k < 8 → readE (none7 k ++ [s]) = 50 ∧ readW (none7 k ++ [s]) = 0 ∧ readT (none7 k ++ [s]) = 0 := fun k hk => by
  refine read_none (by rw [List.length_append, none_len k hk]; rfl) fun W T hg he => ?_
  have hb := good_bd hg
  have h8 := hg.1.2.2
  unfold wordsI at he
  rcases (by omega : k = 0 ∨ k = 1 ∨ k = 2 ∨ k = 3 ∨ k = 4 ∨ k = 5 ∨ k = 6 ∨ k = 7) with rfl | rfl | rfl | rfl | rfl | rfl | rfl | rfl
  all_goals
    simp only [none7, List.cons_append, List.nil_append, List.cons.injEq] at he
    omega
/-- The cells of a list of words. -/
def wcells (xs : List Int) : Array Value := (xs.map (Value.int .u64)).toArray
def listCells (N : Nat) : Array Value := #[.slice (some ⟨N, 0, none⟩) 7 7, .slice (some ⟨N + 1, 0, none⟩) 7 7, .slice (some ⟨N + 2, 0, none⟩) 7 7, .slice (some ⟨N + 3, 0, none⟩) 7 7, .slice (some ⟨N + 4, 0, none⟩) 7 7, .slice (some ⟨N + 5, 0, none⟩) 7 7, .slice (some ⟨N + 6, 0, none⟩) 7 7, .slice (some ⟨N + 7, 0, none⟩) 7 7]
theorem list_at (N : Nat) : ∀ k, k < 8 → (listCells N)[k]? = some (.slice (some ⟨N + k, 0, none⟩) 7 7) := eight rfl rfl rfl rfl rfl rfl rfl rfl
/-- A block of the call's own is a list of its own. -/
theorem box_grows {w W : World} {B : Nat} {xs : List Int} (h : Box W B (wcells xs) 30) (hb : Below w.heap.size w W) (hB : w.heap.size ≤ B) (n : Nat) (hn : xs.length = n) (hm : n ≤ 17592186044416) :
    Grows .u64 30 w W (.slice (some ⟨B, 0, none⟩) n n) xs := by
  subst hn
  refine ⟨⟨by simp, .inr ⟨B, xs.length, wcells xs, rfl, hB, h, Nat.le_refl _, Nat.le_trans hm (by decide), ?_, ?_⟩⟩, hb⟩
  · simp [wcells]
  · rw [Nat.mul_one]
    exact List.take_of_length_le (by simp [wcells])
theorem Box.at {w : World} {cs : Array Value} {e : TypeId} {M : Nat} (hM : w.heap.size = M) : Box (w.alloc (.cells cs e)) M cs e := by
  subst hM
  exact Box.new w cs e
theorem Box.then {w : World} {B : Nat} {cs : Array Value} {e : TypeId} (h : Box w B cs e) (cs' : Array Value) (e' : TypeId) : Box (w.alloc (.cells cs' e')) B cs e := h.alloc _
/-- The world behind the literal of the lists. -/
def listed (w : World) : World := ((((((((w.alloc (.cells #[.int .u64 32777959566500194, .int .u64 1, .int .u64 248, .int .u64 0, .int .u64 0, .int .u64 0, .int .u64 0] 30)).alloc (.cells #[.int .u64 32777959566500194, .int .u64 1, .int .u64 256, .int .u64 9, .int .u64 0, .int .u64 0, .int .u64 0] 30)).alloc (.cells #[.int .u64 32777959566500194, .int .u64 2, .int .u64 256, .int .u64 0, .int .u64 0, .int .u64 0, .int .u64 0] 30)).alloc (.cells #[.int .u64 32777959566500195, .int .u64 1, .int .u64 256, .int .u64 0, .int .u64 0, .int .u64 0, .int .u64 0] 30)).alloc (.cells #[.int .u64 32777959566500194, .int .u64 1, .int .u64 256, .int .u64 0, .int .u64 1, .int .u64 0, .int .u64 0] 30)).alloc (.cells #[.int .u64 32777959566500194, .int .u64 1, .int .u64 256, .int .u64 0, .int .u64 0, .int .u64 0, .int .u64 1] 30)).alloc (.cells #[.int .u64 32777959566500194, .int .u64 1, .int .u64 4294967552, .int .u64 0, .int .u64 0, .int .u64 0, .int .u64 0] 30)).alloc (.cells #[.int .u64 32777959566500194, .int .u64 1, .int .u64 256, .int .u64 9223372036854775808, .int .u64 0, .int .u64 0, .int .u64 0] 30)).alloc (.cells (listCells w.heap.size) 25)
theorem listed_below (w : World) : Below w.heap.size w (listed w) := below_new (below_new (below_new (below_new (below_new (below_new (below_new (below_new (below_new (Below.refl _ _)))))))))
theorem listed_row (w : World) : Box (listed w) (w.heap.size + 8) (listCells w.heap.size) 25 := Box.at (by simp)
theorem listed_at (w : World) : ∀ j, j < 8 → Box (listed w) (w.heap.size + j) (wcells (none7 j)) 30 := eight
  (Box.then (Box.then (Box.then (Box.then (Box.then (Box.then (Box.then (Box.then (show Box _ _ #[.int .u64 32777959566500194, .int .u64 1, .int .u64 248, .int .u64 0, .int .u64 0, .int .u64 0, .int .u64 0] 30 from Box.at (w := w) (by simp)) #[.int .u64 32777959566500194, .int .u64 1, .int .u64 256, .int .u64 9, .int .u64 0, .int .u64 0, .int .u64 0] 30) #[.int .u64 32777959566500194, .int .u64 2, .int .u64 256, .int .u64 0, .int .u64 0, .int .u64 0, .int .u64 0] 30) #[.int .u64 32777959566500195, .int .u64 1, .int .u64 256, .int .u64 0, .int .u64 0, .int .u64 0, .int .u64 0] 30) #[.int .u64 32777959566500194, .int .u64 1, .int .u64 256, .int .u64 0, .int .u64 1, .int .u64 0, .int .u64 0] 30) #[.int .u64 32777959566500194, .int .u64 1, .int .u64 256, .int .u64 0, .int .u64 0, .int .u64 0, .int .u64 1] 30) #[.int .u64 32777959566500194, .int .u64 1, .int .u64 4294967552, .int .u64 0, .int .u64 0, .int .u64 0, .int .u64 0] 30) #[.int .u64 32777959566500194, .int .u64 1, .int .u64 256, .int .u64 9223372036854775808, .int .u64 0, .int .u64 0, .int .u64 0] 30) (listCells w.heap.size) 25)
  (Box.then (Box.then (Box.then (Box.then (Box.then (Box.then (Box.then (show Box _ _ #[.int .u64 32777959566500194, .int .u64 1, .int .u64 256, .int .u64 9, .int .u64 0, .int .u64 0, .int .u64 0] 30 from Box.at (w := (w.alloc (.cells #[.int .u64 32777959566500194, .int .u64 1, .int .u64 248, .int .u64 0, .int .u64 0, .int .u64 0, .int .u64 0] 30))) (by simp)) #[.int .u64 32777959566500194, .int .u64 2, .int .u64 256, .int .u64 0, .int .u64 0, .int .u64 0, .int .u64 0] 30) #[.int .u64 32777959566500195, .int .u64 1, .int .u64 256, .int .u64 0, .int .u64 0, .int .u64 0, .int .u64 0] 30) #[.int .u64 32777959566500194, .int .u64 1, .int .u64 256, .int .u64 0, .int .u64 1, .int .u64 0, .int .u64 0] 30) #[.int .u64 32777959566500194, .int .u64 1, .int .u64 256, .int .u64 0, .int .u64 0, .int .u64 0, .int .u64 1] 30) #[.int .u64 32777959566500194, .int .u64 1, .int .u64 4294967552, .int .u64 0, .int .u64 0, .int .u64 0, .int .u64 0] 30) #[.int .u64 32777959566500194, .int .u64 1, .int .u64 256, .int .u64 9223372036854775808, .int .u64 0, .int .u64 0, .int .u64 0] 30) (listCells w.heap.size) 25)
  (Box.then (Box.then (Box.then (Box.then (Box.then (Box.then (show Box _ _ #[.int .u64 32777959566500194, .int .u64 2, .int .u64 256, .int .u64 0, .int .u64 0, .int .u64 0, .int .u64 0] 30 from Box.at (w := ((w.alloc (.cells #[.int .u64 32777959566500194, .int .u64 1, .int .u64 248, .int .u64 0, .int .u64 0, .int .u64 0, .int .u64 0] 30)).alloc (.cells #[.int .u64 32777959566500194, .int .u64 1, .int .u64 256, .int .u64 9, .int .u64 0, .int .u64 0, .int .u64 0] 30))) (by simp)) #[.int .u64 32777959566500195, .int .u64 1, .int .u64 256, .int .u64 0, .int .u64 0, .int .u64 0, .int .u64 0] 30) #[.int .u64 32777959566500194, .int .u64 1, .int .u64 256, .int .u64 0, .int .u64 1, .int .u64 0, .int .u64 0] 30) #[.int .u64 32777959566500194, .int .u64 1, .int .u64 256, .int .u64 0, .int .u64 0, .int .u64 0, .int .u64 1] 30) #[.int .u64 32777959566500194, .int .u64 1, .int .u64 4294967552, .int .u64 0, .int .u64 0, .int .u64 0, .int .u64 0] 30) #[.int .u64 32777959566500194, .int .u64 1, .int .u64 256, .int .u64 9223372036854775808, .int .u64 0, .int .u64 0, .int .u64 0] 30) (listCells w.heap.size) 25)
  (Box.then (Box.then (Box.then (Box.then (Box.then (show Box _ _ #[.int .u64 32777959566500195, .int .u64 1, .int .u64 256, .int .u64 0, .int .u64 0, .int .u64 0, .int .u64 0] 30 from Box.at (w := (((w.alloc (.cells #[.int .u64 32777959566500194, .int .u64 1, .int .u64 248, .int .u64 0, .int .u64 0, .int .u64 0, .int .u64 0] 30)).alloc (.cells #[.int .u64 32777959566500194, .int .u64 1, .int .u64 256, .int .u64 9, .int .u64 0, .int .u64 0, .int .u64 0] 30)).alloc (.cells #[.int .u64 32777959566500194, .int .u64 2, .int .u64 256, .int .u64 0, .int .u64 0, .int .u64 0, .int .u64 0] 30))) (by simp)) #[.int .u64 32777959566500194, .int .u64 1, .int .u64 256, .int .u64 0, .int .u64 1, .int .u64 0, .int .u64 0] 30) #[.int .u64 32777959566500194, .int .u64 1, .int .u64 256, .int .u64 0, .int .u64 0, .int .u64 0, .int .u64 1] 30) #[.int .u64 32777959566500194, .int .u64 1, .int .u64 4294967552, .int .u64 0, .int .u64 0, .int .u64 0, .int .u64 0] 30) #[.int .u64 32777959566500194, .int .u64 1, .int .u64 256, .int .u64 9223372036854775808, .int .u64 0, .int .u64 0, .int .u64 0] 30) (listCells w.heap.size) 25)
  (Box.then (Box.then (Box.then (Box.then (show Box _ _ #[.int .u64 32777959566500194, .int .u64 1, .int .u64 256, .int .u64 0, .int .u64 1, .int .u64 0, .int .u64 0] 30 from Box.at (w := ((((w.alloc (.cells #[.int .u64 32777959566500194, .int .u64 1, .int .u64 248, .int .u64 0, .int .u64 0, .int .u64 0, .int .u64 0] 30)).alloc (.cells #[.int .u64 32777959566500194, .int .u64 1, .int .u64 256, .int .u64 9, .int .u64 0, .int .u64 0, .int .u64 0] 30)).alloc (.cells #[.int .u64 32777959566500194, .int .u64 2, .int .u64 256, .int .u64 0, .int .u64 0, .int .u64 0, .int .u64 0] 30)).alloc (.cells #[.int .u64 32777959566500195, .int .u64 1, .int .u64 256, .int .u64 0, .int .u64 0, .int .u64 0, .int .u64 0] 30))) (by simp)) #[.int .u64 32777959566500194, .int .u64 1, .int .u64 256, .int .u64 0, .int .u64 0, .int .u64 0, .int .u64 1] 30) #[.int .u64 32777959566500194, .int .u64 1, .int .u64 4294967552, .int .u64 0, .int .u64 0, .int .u64 0, .int .u64 0] 30) #[.int .u64 32777959566500194, .int .u64 1, .int .u64 256, .int .u64 9223372036854775808, .int .u64 0, .int .u64 0, .int .u64 0] 30) (listCells w.heap.size) 25)
  (Box.then (Box.then (Box.then (show Box _ _ #[.int .u64 32777959566500194, .int .u64 1, .int .u64 256, .int .u64 0, .int .u64 0, .int .u64 0, .int .u64 1] 30 from Box.at (w := (((((w.alloc (.cells #[.int .u64 32777959566500194, .int .u64 1, .int .u64 248, .int .u64 0, .int .u64 0, .int .u64 0, .int .u64 0] 30)).alloc (.cells #[.int .u64 32777959566500194, .int .u64 1, .int .u64 256, .int .u64 9, .int .u64 0, .int .u64 0, .int .u64 0] 30)).alloc (.cells #[.int .u64 32777959566500194, .int .u64 2, .int .u64 256, .int .u64 0, .int .u64 0, .int .u64 0, .int .u64 0] 30)).alloc (.cells #[.int .u64 32777959566500195, .int .u64 1, .int .u64 256, .int .u64 0, .int .u64 0, .int .u64 0, .int .u64 0] 30)).alloc (.cells #[.int .u64 32777959566500194, .int .u64 1, .int .u64 256, .int .u64 0, .int .u64 1, .int .u64 0, .int .u64 0] 30))) (by simp)) #[.int .u64 32777959566500194, .int .u64 1, .int .u64 4294967552, .int .u64 0, .int .u64 0, .int .u64 0, .int .u64 0] 30) #[.int .u64 32777959566500194, .int .u64 1, .int .u64 256, .int .u64 9223372036854775808, .int .u64 0, .int .u64 0, .int .u64 0] 30) (listCells w.heap.size) 25)
  (Box.then (Box.then (show Box _ _ #[.int .u64 32777959566500194, .int .u64 1, .int .u64 4294967552, .int .u64 0, .int .u64 0, .int .u64 0, .int .u64 0] 30 from Box.at (w := ((((((w.alloc (.cells #[.int .u64 32777959566500194, .int .u64 1, .int .u64 248, .int .u64 0, .int .u64 0, .int .u64 0, .int .u64 0] 30)).alloc (.cells #[.int .u64 32777959566500194, .int .u64 1, .int .u64 256, .int .u64 9, .int .u64 0, .int .u64 0, .int .u64 0] 30)).alloc (.cells #[.int .u64 32777959566500194, .int .u64 2, .int .u64 256, .int .u64 0, .int .u64 0, .int .u64 0, .int .u64 0] 30)).alloc (.cells #[.int .u64 32777959566500195, .int .u64 1, .int .u64 256, .int .u64 0, .int .u64 0, .int .u64 0, .int .u64 0] 30)).alloc (.cells #[.int .u64 32777959566500194, .int .u64 1, .int .u64 256, .int .u64 0, .int .u64 1, .int .u64 0, .int .u64 0] 30)).alloc (.cells #[.int .u64 32777959566500194, .int .u64 1, .int .u64 256, .int .u64 0, .int .u64 0, .int .u64 0, .int .u64 1] 30))) (by simp)) #[.int .u64 32777959566500194, .int .u64 1, .int .u64 256, .int .u64 9223372036854775808, .int .u64 0, .int .u64 0, .int .u64 0] 30) (listCells w.heap.size) 25)
  (Box.then (show Box _ _ #[.int .u64 32777959566500194, .int .u64 1, .int .u64 256, .int .u64 9223372036854775808, .int .u64 0, .int .u64 0, .int .u64 0] 30 from Box.at (w := (((((((w.alloc (.cells #[.int .u64 32777959566500194, .int .u64 1, .int .u64 248, .int .u64 0, .int .u64 0, .int .u64 0, .int .u64 0] 30)).alloc (.cells #[.int .u64 32777959566500194, .int .u64 1, .int .u64 256, .int .u64 9, .int .u64 0, .int .u64 0, .int .u64 0] 30)).alloc (.cells #[.int .u64 32777959566500194, .int .u64 2, .int .u64 256, .int .u64 0, .int .u64 0, .int .u64 0, .int .u64 0] 30)).alloc (.cells #[.int .u64 32777959566500195, .int .u64 1, .int .u64 256, .int .u64 0, .int .u64 0, .int .u64 0, .int .u64 0] 30)).alloc (.cells #[.int .u64 32777959566500194, .int .u64 1, .int .u64 256, .int .u64 0, .int .u64 1, .int .u64 0, .int .u64 0] 30)).alloc (.cells #[.int .u64 32777959566500194, .int .u64 1, .int .u64 256, .int .u64 0, .int .u64 0, .int .u64 0, .int .u64 1] 30)).alloc (.cells #[.int .u64 32777959566500194, .int .u64 1, .int .u64 4294967552, .int .u64 0, .int .u64 0, .int .u64 0, .int .u64 0] 30))) (by simp)) (listCells w.heap.size) 25)
theorem zero_wf7 : ∀ x ∈ [0, 0, 0, 0, 0, 0, 0], (Lit.int .u64 x).wf = true := by decide
theorem zero_wf9 : ∀ x ∈ [0, 0, 0, 0, 0, 0, 0, 0, 0], (Lit.int .u64 x).wf = true := by decide
theorem zero_wf8 : ∀ x ∈ [0, 0, 0, 0, 0, 0, 0, 0], (Lit.int .u64 x).wf = true := by decide
theorem zero_read7 : readE [0, 0, 0, 0, 0, 0, 0] = 2 ∧ readW [0, 0, 0, 0, 0, 0, 0] = 0 ∧ readT [0, 0, 0, 0, 0, 0, 0] = 0 := read_arg (by decide)
theorem zero_read9 : readE [0, 0, 0, 0, 0, 0, 0, 0, 0] = 2 ∧ readW [0, 0, 0, 0, 0, 0, 0, 0, 0] = 0 ∧ readT [0, 0, 0, 0, 0, 0, 0, 0, 0] = 0 := read_arg (by decide)
theorem zero_read0 : readE [] = 2 ∧ readW [] = 0 ∧ readT [] = 0 := read_arg (by decide)
theorem zero_read8 : readE [0, 0, 0, 0, 0, 0, 0, 0] = 50 ∧ readW [0, 0, 0, 0, 0, 0, 0, 0] = 0 ∧ readT [0, 0, 0, 0, 0, 0, 0, 0] = 0 := read_none rfl fun W T hg he => by
  unfold wordsI at he
  simp only [List.cons.injEq] at he
  omega
theorem great_good : IsSb 2048 8 := by decide
set_option maxHeartbeats 8000000 in
theorem walk (w : World) (L : NoSb w) : Calls Tryd.prog 3 #[] w fun e w' => e = .returned (.bool true) ∧ Below w.heap.size w w' := by
  go_enter Tryd.func3, Tryd.ntmps3
  go_wp2_with fail
  go_loopw [2] (fun i wr => ∃ k : Nat, k ≤ 7 ∧ i = .int .i64 k ∧ Below w.heap.size w wr ∧ Box wr w.heap.size badCells 23) (fun i _ => 7 - (intOf i).toNat)
  case atStart => exact ⟨0, Nat.zero_le _, rfl, below_new (Below.refl _ _), Box.new w badCells 23⟩
  case round =>
    obtain ⟨k, hk, rfl, C, X⟩ := hrel
    by_cases hk7 : k < 7
    · have r0 : wr.cell? ⟨w.heap.size, k * 2, none⟩ = some (.int .i64 (badW k)) := (X.cell _).trans (bad_at k hk7).1
      have r1 : wr.cell? ⟨w.heap.size, k * 2 + 1, none⟩ = some (.int .i64 (badT k)) := (X.cell _).trans (bad_at k hk7).2
      have hb := Lib.hid (bad_i64 k hk7)
      have hn := Lib.hid (bad_not k hk7)
      have hc0 := Lib.hid (bad_at k hk7).1
      have hc1 := Lib.hid (bad_at k hk7).2
      generalize badW k = W at r0 r1 hb hn hc0
      generalize badT k = T at r0 r1 hb hn hc1
      have hE := Lib.hid (bad_no hn.out)
      go_wp2_with fail
      refine (write_bad W T _ hb.out.1 hb.out.2 hn.out).mono ?_
      rintro e w2 ⟨a2, c2, rfl, b2⟩
      have C2 := below_then C b2
      have X2 := X.keep b2
      clear r0 r1
      have r0 : w2.cell? ⟨w.heap.size, k * 2, none⟩ = some (.int .i64 W) := (X2.cell _).trans hc0.out
      have r1 : w2.cell? ⟨w.heap.size, k * 2 + 1, none⟩ = some (.int .i64 T) := (X2.cell _).trans hc1.out
      go_wp2_with fail
      refine (check_x W T _ hb.out.1 hb.out.2 8 hE.out).mono ?_
      rintro e w3 ⟨rfl, b3⟩
      have C3 := below_then C2 b3
      have X3 := X2.keep b3
      go_wp2_with fail
      go_roundw
      case rel => exact ⟨k + 1, by omega, by go_num, C3, X3⟩
      case measure => simp [intOf]; omega
    · obtain rfl : k = 7 := by omega
      clear hk hk7 X
      obtain ⟨uu, huu⟩ : ∃ uu, uu = wr := ⟨wr, rfl⟩
      subst huu
      go_wp2_with fail
      have LB := listed_below uu
      have LR := listed_row uu
      have LA := listed_at uu
      have hsz : w.heap.size ≤ uu.heap.size := C.size
      have CL : Below w.heap.size w (listed uu) := below_then C LB
      go_loopw [6] (fun i wq => ∃ k : Nat, k ≤ 8 ∧ i = .int .i64 k ∧ Below w.heap.size w wq ∧ Box wq (uu.heap.size + 1 + 1 + 1 + 1 + 1 + 1 + 1 + 1) (listCells uu.heap.size) 25 ∧ ∀ j, j < 8 → k ≤ j → Box wq (uu.heap.size + j) (wcells (none7 j)) 30) (fun i _ => 8 - (intOf i).toNat)
      case atStart => exact ⟨0, Nat.zero_le _, rfl, CL, LR, fun j hj _ => LA j hj⟩
      case round =>
        obtain ⟨k, hk, rfl, C, XR, XA⟩ := hrel
        clear LB LR LA CL
        by_cases hk8 : k < 8
        · have r0 : wr.cell? ⟨uu.heap.size + 1 + 1 + 1 + 1 + 1 + 1 + 1 + 1, k, none⟩ = some (Value.slice (some ⟨uu.heap.size + k, 0, none⟩) 7 7) := (XR.cell _).trans (list_at _ k hk8)
          have hl := none_len k hk8
          have hw := none_wf k hk8
          have G := box_grows (XA k hk8 (Nat.le_refl _)) C (Nat.le_trans hsz (Nat.le_add_right _ _)) 7 hl (by decide)
          have S := grows_look G hw (by rw [hl]; decide)
          go_wp2_with fail
          refine (of_x _ _ _ _ _ S (by decide) _ rfl).mono ?_
          rintro e w2 ⟨rfl, b2⟩
          have hu := beh_bd first_u64 (none7 k)
          generalize behI firstI (none7 k) = s at hu ⊢
          have hs := wf_word hu
          have HR := Lib.hid (none_read s k hk8)
          have C2 := below_then C b2
          have XR2 := XR.keep b2
          have XA2 : ∀ j, j < 8 → k ≤ j → Box w2 (uu.heap.size + j) (wcells (none7 j)) 30 := fun j h1 h2 => (XA j h1 h2).keep b2
          have r2 : w2.cell? ⟨uu.heap.size + 1 + 1 + 1 + 1 + 1 + 1 + 1 + 1, k, none⟩ = some (Value.slice (some ⟨uu.heap.size + k, 0, none⟩) 7 7) := (XR2.cell _).trans (list_at _ k hk8)
          have G2 := (G.keep b2).keep (below_new (o := .cells #[.int .u64 s] 30) (Below.refl _ _))
          have V2 := sees_one w2 .u64 30 s hs
          clear r0 XA XR G S C hu
          go_wp2_with (at_builtin; refine wp_append2 rfl (.tmp 82) (.tmp 84) 25 rfl .u64 30 Tryd.underlying25 info_word w _ (none7 k) rfl G2 _ 1 1 [s] rfl V2 (by rw [hl]; decide) ?_)
          intro v3 w3 G3 hg3
          have XR3 := (XR2.alloc (.cells #[.int .u64 s] 30)).grown hg3 (by
            intro he
            injection he with he
            replace he : uu.heap.size + k = uu.heap.size + 8 := he
            omega)
          have XA3 : ∀ j, j < 8 → k + 1 ≤ j → Box w3 (uu.heap.size + j) (wcells (none7 j)) 30 := fun j h1 h2 => ((XA2 j h1 (by omega)).alloc (.cells #[.int .u64 s] 30)).grown hg3 (by
            intro he
            injection he with he
            replace he : uu.heap.size + k = uu.heap.size + j := he
            omega)
          obtain ⟨a3, c3, rfl, S3⟩ := G3.sees (fun x hx => by
            rcases List.mem_append.1 hx with h | h
            · exact hw x h
            · rw [List.mem_singleton.1 h]
              exact hs) (by simp only [List.length_append, hl, List.length_singleton]; decide)
          have hY : (none7 k ++ [s]).length = 8 := by simp only [List.length_append, hl, List.length_singleton]
          have C3 := G3.below
          clear G2 V2 XR2 XA2 r2 G3 hg3 hs hw
          generalize none7 k ++ [s] = Y at S3 HR hY ⊢
          rw [hY] at S3 ⊢
          go_wp2_with fail
          refine (read_x _ _ _ _ _ S3 (L.keep C3) 50 0 0 HR.out).mono ?_
          rintro e w4 ⟨rfl, b4⟩
          replace b4 := below_new (o := .cells #[.int .i64 0, .int .i64 0] 23) b4
          have C4 := below_then C3 b4
          have XR4 := XR3.keep b4
          have XA4 : ∀ j, j < 8 → k + 1 ≤ j → Box (w4.alloc (.cells #[.int .i64 0, .int .i64 0] 23)) (uu.heap.size + j) (wcells (none7 j)) 30 := fun j h1 h2 => (XA3 j h1 h2).keep b4
          go_wp2_with fail
          refine ⟨?_, ?measure⟩
          · repeat apply Exists.intro
            refine ⟨?rel, rfl⟩
            exact ⟨k + 1, by omega, by go_num, C4, XR4, XA4⟩
          case measure => simp [intOf]; omega
        · obtain rfl : k = 8 := by omega
          clear hk hk8 XR XA
          have C0 := C
          clear C
          generalize wr = y0 at C0 ⊢
          go_wp2_with (refine wp_makeX rfl (.const (.int .i64 7)) (.const (.int .i64 7)) 25 rfl .u64 30 Tryd.underlying25 info_word w C0 .i64 .i64 7 7 7 rfl rfl rfl rfl (by decide) [0, 0, 0, 0, 0, 0, 0] rfl ?_)
          intro m0 G0
          have S0 := grows_look G0 zero_wf7 (by decide)
          have D0 := G0.below
          clear G0
          go_wp2_with fail
          refine (read_x _ _ _ _ _ S0 (L.keep D0) 2 0 0 zero_read7).mono ?_
          rintro e x0 ⟨rfl, b0⟩
          have C1 := below_new (o := (.cells #[.int .i64 0, .int .i64 0] 23)) (below_then D0 b0)
          clear S0 D0 b0 C0
          go_wp2_with (refine wp_makeX rfl (.const (.int .i64 9)) (.const (.int .i64 9)) 25 rfl .u64 30 Tryd.underlying25 info_word w C1 .i64 .i64 9 9 9 rfl rfl rfl rfl (by decide) [0, 0, 0, 0, 0, 0, 0, 0, 0] rfl ?_)
          intro m1 G1
          have S1 := grows_look G1 zero_wf9 (by decide)
          have D1 := G1.below
          clear G1
          go_wp2_with fail
          refine (read_x _ _ _ _ _ S1 (L.keep D1) 2 0 0 zero_read9).mono ?_
          rintro e x1 ⟨rfl, b1⟩
          have C2 := below_new (o := (.cells #[.int .i64 0, .int .i64 0] 23)) (below_then D1 b1)
          clear S1 D1 b1 C1
          go_wp2_with fail
          refine (read_x _ _ _ _ _ (sees_none _) (L.keep C2) 2 0 0 zero_read0).mono ?_
          rintro e x2 ⟨rfl, b2⟩
          have C3 := below_new (o := (.cells #[.int .i64 0, .int .i64 0] 23)) (below_then C2 b2)
          clear b2 C2
          go_wp2_with (refine wp_makeX rfl (.const (.int .i64 8)) (.const (.int .i64 8)) 25 rfl .u64 30 Tryd.underlying25 info_word w C3 .i64 .i64 8 8 8 rfl rfl rfl rfl (by decide) [0, 0, 0, 0, 0, 0, 0, 0] rfl ?_)
          intro m3 G3
          have S3 := grows_look G3 zero_wf8 (by decide)
          have D3 := G3.below
          clear G3
          go_wp2_with fail
          refine (read_x _ _ _ _ _ S3 (L.keep D3) 50 0 0 zero_read8).mono ?_
          rintro e x3 ⟨rfl, b3⟩
          have C4 := below_new (o := (.cells #[.int .i64 0, .int .i64 0] 23)) (below_then D3 b3)
          clear S3 D3 b3 C3
          go_wp2_with fail
          refine (write_x 2048 8 _ great_good _ rfl).mono ?_
          rintro e x4 ⟨g4, c4, rfl, hc4, G4⟩
          have C5 := below_then C4 G4.below
          have S5 := grows_look G4 (words_wf great_good) (by rw [words_len]; decide)
          clear G4 C4
          go_wp2_with fail
          refine (read_x _ _ _ _ _ S5 (L.keep C5) 0 2048 8 (read_words great_good)).mono ?_
          rintro e x5 ⟨rfl, b5⟩
          have C6 := below_new (o := .cells #[.int .i64 2048, .int .i64 8] 23) (below_then C5 b5)
          clear S5 b5 C5
          go_wp2_with fail
          refine (alive_any _ (L.keep C6)).mono ?_
          rintro e x6 ⟨rfl, b6⟩
          go_wp2
          go_ret
          exact ⟨rfl, below_then C6 b6⟩

/-! The row's step. -/
set_option maxRecDepth 100000 in
theorem lifted (os : Os) (started : os.Started) (H : Type) (enc : TypeId × Value → H) :
    ReturnsInHanded {} Tryd.checked os 3 .any (fun w args => (Rows.superNamesSpec.pre enc Tryd.prog Tryd.f3 [] false w args ∧ laidMetH Tryd.prog Gv.laid1 w) ∧ sizedMet enc Tryd.prog Tryd.f3 (OpenSpec.ofChange Rows.superNamesSpec) false w args) (Rows.superNamesSpec.post enc Tryd.prog Tryd.f3 false true false false) := by
  refine returnsInHanded_of_change_and (C := Tryd.checked) (X := fun w _ => laidMetH Tryd.prog Gv.laid1 w) (fun _ _ _ hh h => h.of_heap hh) St.own started (by kernel_rfl) Tryd.func3
    (ChangeSpec.witness_shaped (enc := enc) (C := Tryd.checked) (os := os) (X := fun w _ => laidMetH Tryd.prog Gv.laid1 w) false (World.doorLaid Tryd.prog 400 os) #[] 8 rfl (World.shaped_of_RefB (by kernel_rfl) (by kernel_rfl)) (by kernel_rfl) (by kernel_rfl) (by kernel_rfl) (Gv.door_met os _)) ?_
  intro W base args ds gs before hval0 hW hcnd hsz0 hL _
  have hW' := hW
  obtain ⟨p, q, hA0, hV, rfl, hfz, hnd⟩ := hW
  have hA : DataW.TrodAll enc Tryd.prog W 0 (fun _ => true) true Tryd.f3.params.toList args.toList ds p := hA0
  rw [Tryd.params3] at hA
  obtain ⟨rfl, rfl, rfl⟩ := trodAll_none hA
  refine (walk  W (Gv.of_laid hL)).mono fun e W' ⟨he, hb⟩ => ?_
  subst he
  exact St.law_done St.laid (by kernel_rfl) rfl rfl Tryd.underlying4 rfl hW' hb

theorem over : Rows.superNamesRow.holds Tryd.pinned (OpenSpec.ofChange Rows.superNamesSpec) :=
  OpenClaim.holds_of_wide 3 Tryd.f3 rfl rfl rfl rfl rfl rfl rfl ⟨rfl, rfl, rfl, rfl, rfl⟩ rfl rfl rfl rfl rfl (by kernel_rfl) Tryd.func3 (by kernel_rfl)
    (of_decide_eq_true (by kernel_rfl)) (by unfold Func.isWrapper; first | (rw [if_pos (by decide +kernel)]; kernel_rfl) | (rw [if_neg (by decide +kernel)]; exact ⟨rfl, rfl⟩))
    (fun os started H enc _ => lifted os started H enc)
theorem proved : Rows.SuperNamesCardSaid :=
  Claim7.holds_tied_plain_at .later [] [.data] true Rows.superNamesCard.stood.harness false over (fun _ h => by cases h) (by kernel_rfl) (fun _ h => by cases h) superNames_row_tie rfl ⟨rfl, rfl⟩ (by kernel_rfl) rfl
    (fun f fn hf hfn => by
      obtain rfl : f = 3 := Option.some.inj ((show Tryd.prog.funcNamed "ballast/ballastlaw06.SuperNames" = some 3 by kernel_rfl).symm.trans hf) |>.symm
      obtain rfl : fn = Tryd.f3 := (Option.some.inj (Tryd.func3.symm.trans hfn)).symm
      exact ⟨by kernel_rfl, fun j t ht => by
        rw [Tryd.params3] at ht
        simp at ht⟩)
    (by kernel_rfl)
#print axioms proved
end Go.Proofs.YtpildlikebhpjaaDoor.superNames
