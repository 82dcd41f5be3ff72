/-
  A slice of integers that the call made itself, read as a list.
-/
import Derived.Test.YtdcnlhjfncdacaaKit
import Derived.Test.YtdcnlhjfncdacaaNatSum
namespace Go.Proofs.Ytdcnlhjfncdacaa.W
set_option linter.unusedVariables false
open Go.ChangeShapes Go.WideShapes Go.ChangeAt Go.RowKit

/-- integers as values; closed to the walk -/
def vals (xs : List Int) : List Value := xs.map (Value.int .i64)
theorem vals_snoc (xs : List Int) (x : Int) : vals (xs ++ [x]) = vals xs ++ [.int .i64 x] := by simp [vals]
theorem own_ints {w : World} {base : Nat} {e : TypeId} {v : Value} {xs : List Int} (h : w.ownsRow base e 1 v xs.length (vals xs)) :
    ∃ a cap, v = .slice a xs.length cap ∧ IntsAt w a xs := by
  unfold vals at h
  have hc := fun g => h.cells (g := g)
  obtain ⟨hl, h | ⟨g, cap, rest, rfl, _⟩⟩ := h
  · obtain ⟨rfl, hx⟩ := h
    have hx' : xs = [] := by simpa using hx
    subst hx'
    exact ⟨none, 0, rfl, .inl rfl⟩
  · refine ⟨_, _, rfl, .inr ⟨g, 0, rfl, fun i hi => ?_⟩⟩
    have := hc g rfl i (.int .i64 xs[i]) (by simp [hi])
    rwa [add_plain] at this
theorem IntsAt.later {w w' : World} {a : Option Addr} {xs : List Int} (h : IntsAt w a xs) (hb : Below w.heap.size w w') : IntsAt w' a xs := by
  rcases h with rfl | ⟨b, off, rfl, hc⟩
  · exact .inl rfl
  · exact .inr ⟨b, off, rfl, fun i hi => (hb.cell (World.block_lt_of_cell? _ _ (hc i hi))).trans (hc i hi)⟩
/-- where there is one, its cell -/
theorem IntsAt.row {w : World} {a : Option Addr} {xs : List Int} (h : IntsAt w a xs) (hp : 0 < xs.length) :
    ∃ b off, a = some ⟨b, off, none⟩ ∧ b < w.heap.size ∧ ∀ i (h : i < xs.length), w.cell? ⟨b, off + i, none⟩ = some (.int .i64 xs[i]) := by
  rcases h with rfl | ⟨b, off, rfl, hc⟩
  · simp at hp
  · exact ⟨b, off, rfl, World.block_lt_of_cell? _ _ (hc 0 hp), hc⟩
theorem reverse_take_snoc (xs : List Int) (k : Nat) (h : k < xs.length) : xs.reverse.take (k + 1) = xs.reverse.take k ++ [xs[xs.length - 1 - k]] := by
  rw [take_snoc _ k (by simpa using h), List.getElem_reverse]
end Go.Proofs.Ytdcnlhjfncdacaa.W
