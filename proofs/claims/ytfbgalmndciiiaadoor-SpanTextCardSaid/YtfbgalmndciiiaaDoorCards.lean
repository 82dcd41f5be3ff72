/-
  DERIVED. GIVEN WITH THE SEED: THE CARDS: each row of YtfbgalmndciiiaaDoorRows.lean that lists a variable, with what it lists TIED to the program's text (the seventh form; the later family's looks); each row that meets fmt, with fmt's text TOLD by the authors' own Lean function (tested against real Go, not proved from fmt's source: count such statements apart). THE CARD IS WHAT COUNTS. Prove the row's statement (the work); the ties are given (YtfbgalmndciiiaaDoorTie.lean); close each card by the builder's one call (the guide's Derived/Test/ToyasCard.lean, 'card_holds'). Laid BY PROGRAM, IN A SANDBOX (cutbox-door.mjs). By AI agents, Wed Nov 11 2026. No macro, syntax, notation, axiom, sorry.
-/
import Derived.Test.YtfbgalmndciiiaaDoorRows
import GoSem.ClaimSeven
namespace Go.Proofs.YtfbgalmndciiiaaDoor
namespace Rows

/-- THE TIED CARD OF 'drayagelaw04.SpanText'. -/
def spanTextCard : Claim7 := { stood := { row := spanTextRow, standIns := [], harness := (true, "8f17c47b0d25edfe7f81c8c175a2c4c3170049529bfc53e06a4f4b21f96d3d0a"), looks := true }, kinds := [], alts := [], laidByText := true, laidKinds := [.data, .data, .data, .sentinel, .sentinel], laidTests := true, laidLooks := .later }
def SpanTextCardSaid : Prop := Claim7.holds Tryd.pinned (.plain (OpenSpec.ofChange spanTextSpec)) spanTextCard

/-- THE TIED CARD OF 'drayagelaw04.SpanRead'. -/
def spanReadCard : Claim7 := { stood := { row := spanReadRow, standIns := [], harness := (true, "8f17c47b0d25edfe7f81c8c175a2c4c3170049529bfc53e06a4f4b21f96d3d0a"), looks := true }, kinds := [], alts := [], laidByText := true, laidKinds := [.data, .data, .data, .sentinel, .sentinel], laidTests := true, laidLooks := .later }
def SpanReadCardSaid : Prop := Claim7.holds Tryd.pinned (.plain (OpenSpec.ofChange spanReadSpec)) spanReadCard

/-- THE SECOND FORM's CARD OF 'drayagelaw04.SpanText'. -/
def spanTextUptoCard : Claim7 := { stood := { row := spanTextUptoRow, standIns := [], harness := (true, "8f17c47b0d25edfe7f81c8c175a2c4c3170049529bfc53e06a4f4b21f96d3d0a"), looks := true }, kinds := [], alts := [], laidByText := true, laidKinds := [.data, .data, .data, .sentinel, .sentinel], laidTests := true, laidLooks := .later }
def SpanTextUptoCardSaid : Prop := Claim7.holds Tryd.pinned (.plain (OpenSpec.upto spanTextSpec)) spanTextUptoCard

/-- THE SECOND FORM's CARD OF 'drayagelaw04.SpanRead'. -/
def spanReadUptoCard : Claim7 := { stood := { row := spanReadUptoRow, standIns := [], harness := (true, "8f17c47b0d25edfe7f81c8c175a2c4c3170049529bfc53e06a4f4b21f96d3d0a"), looks := true }, kinds := [], alts := [], laidByText := true, laidKinds := [.data, .data, .data, .sentinel, .sentinel], laidTests := true, laidLooks := .later }
def SpanReadUptoCardSaid : Prop := Claim7.holds Tryd.pinned (.plain (OpenSpec.upto spanReadSpec)) spanReadUptoCard
end Rows
end Go.Proofs.YtfbgalmndciiiaaDoor
