/-
  What is to be placed, in a block: its six cells. What a law's first questions come to.
-/
import Derived.Test.YtncedpjgmoncpaaPlAwake
import Derived.Test.YtncedpjgmoncpaaPlTimes
import Derived.Test.YtncedpjgmoncpaaFramePl
import Derived.Test.YtncedpjgmoncpaaMono
namespace Go.Proofs.Ytncedpjgmoncpaa.W
set_option linter.unusedVariables false
set_option linter.unusedSimpArgs false
open Go.ChangeShapes Go.WideShapes Go.ChangeAt Go.RowKit

structure Want6 (w : World) (g : Nat) (b : Option Addr) (n cb : Nat) (many : Int) (need : V) : Prop where
  c0 : w.cell? ⟨g, 0, none⟩ = some (.slice b n cb)
  c1 : w.cell? ⟨g, 1, none⟩ = some (.int .i64 many)
  c2 : w.cell? ⟨g, 2, none⟩ = some (.int .i64 need.cpu)
  c3 : w.cell? ⟨g, 3, none⟩ = some (.int .i64 need.mem)
  c4 : w.cell? ⟨g, 4, none⟩ = some (.int .i64 need.gpu)
  c5 : w.cell? ⟨g, 5, none⟩ = some (.int .i64 need.lic)
theorem Want6.later {w w' : World} {g : Nat} {b : Option Addr} {n cb : Nat} {many : Int} {need : V} (h : Want6 w g b n cb many need) (hb : Below w.heap.size w w') : Want6 w' g b n cb many need :=
  ⟨carry hb h.c0, carry hb h.c1, carry hb h.c2, carry hb h.c3, carry hb h.c4, carry hb h.c5⟩
/-- what is placed is right, is just so many, and fits where it is -/
theorem place_in {fs : List V} {part : List Int} {many : Int} {need : V} (hr : RiseN fs.length (-1) part) (hp : ¬ many < 1 ∧ ¬ 0 < plLeft fs need many part) :
    rightH (placeS fs part many need) fs.length = true ∧ totalH (placeS fs part many need) = many ∧
    ∀ s ∈ placeS fs part many need, s.node ∈ part ∧ 1 ≤ s.many ∧ s.many ≤ 64 ∧ ∃ k : Nat, s.node = k ∧ k < fs.length ∧ need.Ok ∧ ∃ h : k < fs.length, V.Le (need.by s.many) fs[k] := by
  have e : placeS fs part many need = plPut fs need many part := if_pos hp
  rw [e]
  have hrise := put_rise (fs := fs) (need := need) (left := many) hr
  refine ⟨decide_eq_true hrise, ?_, fun s hs => ?_⟩
  · have h1 := put_total (fs := fs) (need := need) (l := part) (left := many)
    have h2 := pl_room fs need part many (by omega)
    have h3 := roomS_bd fs need part
    have h4 := hp.2
    split at h2 <;> omega
  · obtain ⟨h1, h2, h3, h4⟩ := put_mem s hs
    have h5 := riseH_mem hrise s hs
    obtain ⟨k, hk⟩ : ∃ k : Nat, s.node = (k : Int) := ⟨s.node.toNat, by omega⟩
    have hkl : k < fs.length := by omega
    rw [hk] at h4
    obtain ⟨h6, h7⟩ := fit_le hkl h2 h3 h4
    exact ⟨h1, h2, h3, k, hk, hkl, h6, hkl, h7⟩
end Go.Proofs.Ytncedpjgmoncpaa.W
