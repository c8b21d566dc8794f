/-
  Entries as data: an address and a word.
-/
import Derived.Test.YtepiiiekcmbpaaaDoorRec
namespace Go.Proofs.YtepiiiekcmbpaaaDoor.Dv
open Go.RowKit Go.Proofs.YtepiiiekcmbpaaaDoor.Sl
set_option maxRecDepth 100000

/-- An entry. -/
structure En where
  p : Int
  v : Int
  deriving DecidableEq, Inhabited
def en : Rec En where
  sz := 2
  cells x := [.int .i64 x.p, .int .u64 x.v]
  good x := (-9223372036854775808 ≤ x.p ∧ x.p ≤ 9223372036854775807) ∧ (0 ≤ x.v ∧ x.v < 18446744073709551616)
  len _ := rfl
  one x u h := by
    simp at h
    rcases h with rfl | rfl <;> rfl
  pos := by decide
theorem en_at {w : World} {b off m d : Nat} {xs : List En} (h : SeesR en w (some ⟨b, off, none⟩) m d xs) (k : Nat) (hk : k < xs.length) :
    w.cell? ⟨b, off + k * 2, none⟩ = some (.int .i64 xs[k].p) ∧ w.cell? ⟨b, off + k * 2 + 1, none⟩ = some (.int .u64 xs[k].v) :=
  ⟨h.at k hk 0 _ rfl, h.at k hk 1 _ rfl⟩
end Go.Proofs.YtepiiiekcmbpaaaDoor.Dv
