/-
  No cell of these rows narrows 'for every input' (looked for: loops, veiled, ifaces, maps, wideKeys, modest, calm, conditions, laid).
  DERIVED. THE GIVEN ROWS OF THIS SEAT. 4 by the template 'for every input the law returns true; each argument reads behind the call as it read before'; 0 by the template 'total and deterministic' (their statements: YtcnpppkndcgmpaaTotals.lean).
  GIVEN WITH THE SEED: the statements are not yours to turn. If you find one false, say at which input.
  Laid BY PROGRAM, IN A SANDBOX (cutbox-rows.mjs): the forced cells as the released guide's own fill.sh prints them over the translation c32da79c42b8f765… (all of the seat's roots in one cut). By AI agents, Wed Nov 11 2026. No macro, syntax, notation, axiom, sorry.
-/
import Derived.Test.YtcnpppkndcgmpaaChecked
import GoSem.Claim
import GoSem.ClaimJoined
import GoSem.ClaimMapViews
import Derived.JoinedTies
import Derived.KernelRfl
namespace Go.Proofs.Ytcnpppkndcgmpaa
/- THE CELL 'sum', in the pinned program and in every row, IS THE sha256 OF THE DUMP (.gsa) THAT YtcnpppkndcgmpaaProg.lean LOADS. Nothing in Lean hashes anything: it is a label: what it is worth is what the hold of that sum in a sandbox is worth. -/
noncomputable def Try.pinned : Pinned := { name := "ytcnpppkndcgmpaa", sum := "c32da79c42b8f7653eb5749da216dae9e3b5afc2170e8cda383e0d0735edb08a", checked := Try.checked }
namespace Rows
def none {H : Type} : Left H := { results := [], args := [] }

/-- 'drayagelaw10.StepsTells': WHATEVER THE INPUT: true; the input reads as it did. -/
def stepsTellsSpec : ChangeSpec := { name := "stepsTells", fn := fun _ => fun
  | [d1, d2, d3] => { results := [.lit (.bool true)], args := [d1, d2, d3] }
  | _ => none }
def stepsTellsRow : OpenClaim := { program := "ytcnpppkndcgmpaa", sum := "c32da79c42b8f7653eb5749da216dae9e3b5afc2170e8cda383e0d0735edb08a", func := "drayage/drayagelaw10.StepsTells", spec := "stepsTells", unfollowed := true, recurses := true, apart := false }
def StepsTellsSaid : Prop := stepsTellsRow.holds Try.pinned (OpenSpec.ofChange stepsTellsSpec)

/-- ITS FALSE NEIGHBOUR: 'it returns false'. Refute it at one input. -/
def stepsTellsWrong : ChangeSpec := { name := "stepsTells", fn := fun _ => fun
  | [d1, d2, d3] => { results := [.lit (.bool false)], args := [d1, d2, d3] }
  | _ => none }
def StepsTellsWrongFalsely : Prop := stepsTellsRow.holds Try.pinned (OpenSpec.ofChange stepsTellsWrong)

/-- 'drayagelaw10.StepsTurns': WHATEVER THE INPUT: true; the input reads as it did. -/
def stepsTurnsSpec : ChangeSpec := { name := "stepsTurns", fn := fun _ => fun
  | [d1, d2, d3] => { results := [.lit (.bool true)], args := [d1, d2, d3] }
  | _ => none }
def stepsTurnsRow : OpenClaim := { program := "ytcnpppkndcgmpaa", sum := "c32da79c42b8f7653eb5749da216dae9e3b5afc2170e8cda383e0d0735edb08a", func := "drayage/drayagelaw10.StepsTurns", spec := "stepsTurns", unfollowed := true, recurses := true, apart := false }
def StepsTurnsSaid : Prop := stepsTurnsRow.holds Try.pinned (OpenSpec.ofChange stepsTurnsSpec)

/-- ITS FALSE NEIGHBOUR: 'it returns false'. Refute it at one input. -/
def stepsTurnsWrong : ChangeSpec := { name := "stepsTurns", fn := fun _ => fun
  | [d1, d2, d3] => { results := [.lit (.bool false)], args := [d1, d2, d3] }
  | _ => none }
def StepsTurnsWrongFalsely : Prop := stepsTurnsRow.holds Try.pinned (OpenSpec.ofChange stepsTurnsWrong)

/-- 'drayagelaw10.StepsBack': WHATEVER THE INPUT: true; the input reads as it did. -/
def stepsBackSpec : ChangeSpec := { name := "stepsBack", fn := fun _ => fun
  | [d1, d2, d3] => { results := [.lit (.bool true)], args := [d1, d2, d3] }
  | _ => none }
def stepsBackRow : OpenClaim := { program := "ytcnpppkndcgmpaa", sum := "c32da79c42b8f7653eb5749da216dae9e3b5afc2170e8cda383e0d0735edb08a", func := "drayage/drayagelaw10.StepsBack", spec := "stepsBack", unfollowed := true, recurses := true, apart := false }
def StepsBackSaid : Prop := stepsBackRow.holds Try.pinned (OpenSpec.ofChange stepsBackSpec)

/-- ITS FALSE NEIGHBOUR: 'it returns false'. Refute it at one input. -/
def stepsBackWrong : ChangeSpec := { name := "stepsBack", fn := fun _ => fun
  | [d1, d2, d3] => { results := [.lit (.bool false)], args := [d1, d2, d3] }
  | _ => none }
def StepsBackWrongFalsely : Prop := stepsBackRow.holds Try.pinned (OpenSpec.ofChange stepsBackWrong)

/-- 'drayagelaw10.StepsOrder': WHATEVER THE INPUT: true; the input reads as it did. -/
def stepsOrderSpec : ChangeSpec := { name := "stepsOrder", fn := fun _ => fun
  | [d1, d2] => { results := [.lit (.bool true)], args := [d1, d2] }
  | _ => none }
def stepsOrderRow : OpenClaim := { program := "ytcnpppkndcgmpaa", sum := "c32da79c42b8f7653eb5749da216dae9e3b5afc2170e8cda383e0d0735edb08a", func := "drayage/drayagelaw10.StepsOrder", spec := "stepsOrder", unfollowed := true, recurses := true, apart := false }
def StepsOrderSaid : Prop := stepsOrderRow.holds Try.pinned (OpenSpec.ofChange stepsOrderSpec)

/-- ITS FALSE NEIGHBOUR: 'it returns false'. Refute it at one input. -/
def stepsOrderWrong : ChangeSpec := { name := "stepsOrder", fn := fun _ => fun
  | [d1, d2] => { results := [.lit (.bool false)], args := [d1, d2] }
  | _ => none }
def StepsOrderWrongFalsely : Prop := stepsOrderRow.holds Try.pinned (OpenSpec.ofChange stepsOrderWrong)

/- THE SECOND FORM. 'bulk': how many values and letters a reading holds, each counted each time it is reached (what is shared counts as often as it is met; a slice's spare places count too). A statement '..UptoSaid' is the law's where the arguments, and the package variables that the reading takes, are together of bulk at most 1048576: NARROWER than '..Said'. Prove '..Said' where nothing that the law and all that it calls make is longer than what came in: it says more and counts as full. Else prove '..UptoSaid'. A law counts once. -/
mutual
def uptoBulk {H : Type} : DataW H → Nat
  | .lit (.string bytes) => bytes.length + 1
  | .lit _ => 1
  | .nil => 1
  | .ptr d => uptoBulk d + 1
  | .slice elems spare => uptoBulkAll elems + uptoBulkAll spare + 1
  | .agg parts => uptoBulkAll parts + 1
  | .iface _ d => uptoBulk d + 1
  | .map entries => uptoBulkEntries entries + 1
  | .held _ => 1
def uptoBulkAll {H : Type} : List (DataW H) → Nat
  | [] => 0
  | d :: r => uptoBulk d + uptoBulkAll r
def uptoBulkEntries {H : Type} : List (Lit × DataW H) → Nat
  | [] => 0
  | x :: r => uptoBulkEntry x + uptoBulkEntries r
def uptoBulkEntry {H : Type} : Lit × DataW H → Nat
  | (.string bytes, d) => bytes.length + uptoBulk d + 1
  | (_, d) => uptoBulk d + 1
 end
def uptoSmall : (H : Type) → List (DataW H) → Bool := fun _ ds => decide (uptoBulkAll ds ≤ 1048576)
def OpenSpec.upto (s : _root_.Go.ChangeSpec) : _root_.Go.OpenSpec := { _root_.Go.OpenSpec.ofChange s with cond := some uptoSmall }

/-- 'drayagelaw10.StepsTells', WHERE WHAT IT READS IS OF BULK AT MOST 1048576: true; the input reads as it did. -/
def stepsTellsUptoRow : OpenClaim := { program := "ytcnpppkndcgmpaa", sum := "c32da79c42b8f7653eb5749da216dae9e3b5afc2170e8cda383e0d0735edb08a", func := "drayage/drayagelaw10.StepsTells", spec := "stepsTells", unfollowed := true, recurses := true, apart := false, narrowed := true }
def StepsTellsUptoSaid : Prop := stepsTellsUptoRow.holds Try.pinned (OpenSpec.upto stepsTellsSpec)

/-- 'drayagelaw10.StepsTurns', WHERE WHAT IT READS IS OF BULK AT MOST 1048576: true; the input reads as it did. -/
def stepsTurnsUptoRow : OpenClaim := { program := "ytcnpppkndcgmpaa", sum := "c32da79c42b8f7653eb5749da216dae9e3b5afc2170e8cda383e0d0735edb08a", func := "drayage/drayagelaw10.StepsTurns", spec := "stepsTurns", unfollowed := true, recurses := true, apart := false, narrowed := true }
def StepsTurnsUptoSaid : Prop := stepsTurnsUptoRow.holds Try.pinned (OpenSpec.upto stepsTurnsSpec)

/-- 'drayagelaw10.StepsBack', WHERE WHAT IT READS IS OF BULK AT MOST 1048576: true; the input reads as it did. -/
def stepsBackUptoRow : OpenClaim := { program := "ytcnpppkndcgmpaa", sum := "c32da79c42b8f7653eb5749da216dae9e3b5afc2170e8cda383e0d0735edb08a", func := "drayage/drayagelaw10.StepsBack", spec := "stepsBack", unfollowed := true, recurses := true, apart := false, narrowed := true }
def StepsBackUptoSaid : Prop := stepsBackUptoRow.holds Try.pinned (OpenSpec.upto stepsBackSpec)

/-- 'drayagelaw10.StepsOrder', WHERE WHAT IT READS IS OF BULK AT MOST 1048576: true; the input reads as it did. -/
def stepsOrderUptoRow : OpenClaim := { program := "ytcnpppkndcgmpaa", sum := "c32da79c42b8f7653eb5749da216dae9e3b5afc2170e8cda383e0d0735edb08a", func := "drayage/drayagelaw10.StepsOrder", spec := "stepsOrder", unfollowed := true, recurses := true, apart := false, narrowed := true }
def StepsOrderUptoSaid : Prop := stepsOrderUptoRow.holds Try.pinned (OpenSpec.upto stepsOrderSpec)

end Rows
end Go.Proofs.Ytcnpppkndcgmpaa
