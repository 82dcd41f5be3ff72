/-
  DERIVED. GIVEN WITH THE SEED: THE CARDS: each row of YtbnlchbklpgejaaDoorRows.lean that lists a variable, with what it lists TIED to the program's text (the seventh form; the later family's looks); each row that meets fmt, with fmt's text TOLD by the authors' own Lean function (tested against real Go, not proved from fmt's source: count such statements apart). THE CARD IS WHAT COUNTS. Prove the row's statement (the work); the ties are given (YtbnlchbklpgejaaDoorTie.lean); close each card by the builder's one call (the guide's Derived/Test/ToyasCard.lean, 'card_holds'). Laid BY PROGRAM, IN A SANDBOX (cutbox-door.mjs). By AI agents, Wed Nov 11 2026. No macro, syntax, notation, axiom, sorry.
-/
import Derived.Test.YtbnlchbklpgejaaDoorRows
import GoSem.ClaimSeven
namespace Go.Proofs.YtbnlchbklpgejaaDoor
namespace Rows

/-- THE TIED CARD OF 'drayagelaw09.ReplyWrites'. -/
def replyWritesCard : Claim7 := { stood := { row := replyWritesRow, standIns := [], harness := (true, "96ccab172872a4187f2fa203c306e1b5fc38f31c054ede3b7c6b5ab3ec3cc74b"), looks := false }, kinds := [], alts := [], laidByText := true, laidKinds := [.data], laidTests := true, laidLooks := .later }
def ReplyWritesCardSaid : Prop := Claim7.holds Tryd.pinned (.plain (OpenSpec.ofChange replyWritesSpec)) replyWritesCard

/-- THE TIED CARD OF 'drayagelaw09.ReplyReads'. -/
def replyReadsCard : Claim7 := { stood := { row := replyReadsRow, standIns := [], harness := (true, "96ccab172872a4187f2fa203c306e1b5fc38f31c054ede3b7c6b5ab3ec3cc74b"), looks := false }, kinds := [], alts := [], laidByText := true, laidKinds := [.data], laidTests := true, laidLooks := .later }
def ReplyReadsCardSaid : Prop := Claim7.holds Tryd.pinned (.plain (OpenSpec.ofChange replyReadsSpec)) replyReadsCard

/-- THE TIED CARD OF 'drayagelaw09.ReplyRefuses'. -/
def replyRefusesCard : Claim7 := { stood := { row := replyRefusesRow, standIns := [], harness := (true, "96ccab172872a4187f2fa203c306e1b5fc38f31c054ede3b7c6b5ab3ec3cc74b"), looks := false }, kinds := [], alts := [], laidByText := true, laidKinds := [.data], laidTests := true, laidLooks := .later }
def ReplyRefusesCardSaid : Prop := Claim7.holds Tryd.pinned (.plain (OpenSpec.ofChange replyRefusesSpec)) replyRefusesCard

/-- THE SECOND FORM's CARD OF 'drayagelaw09.ReplyWrites'. -/
def replyWritesUptoCard : Claim7 := { stood := { row := replyWritesUptoRow, standIns := [], harness := (true, "96ccab172872a4187f2fa203c306e1b5fc38f31c054ede3b7c6b5ab3ec3cc74b"), looks := false }, kinds := [], alts := [], laidByText := true, laidKinds := [.data], laidTests := true, laidLooks := .later }
def ReplyWritesUptoCardSaid : Prop := Claim7.holds Tryd.pinned (.plain (OpenSpec.upto replyWritesSpec)) replyWritesUptoCard

/-- THE SECOND FORM's CARD OF 'drayagelaw09.ReplyReads'. -/
def replyReadsUptoCard : Claim7 := { stood := { row := replyReadsUptoRow, standIns := [], harness := (true, "96ccab172872a4187f2fa203c306e1b5fc38f31c054ede3b7c6b5ab3ec3cc74b"), looks := false }, kinds := [], alts := [], laidByText := true, laidKinds := [.data], laidTests := true, laidLooks := .later }
def ReplyReadsUptoCardSaid : Prop := Claim7.holds Tryd.pinned (.plain (OpenSpec.upto replyReadsSpec)) replyReadsUptoCard

/-- THE SECOND FORM's CARD OF 'drayagelaw09.ReplyRefuses'. -/
def replyRefusesUptoCard : Claim7 := { stood := { row := replyRefusesUptoRow, standIns := [], harness := (true, "96ccab172872a4187f2fa203c306e1b5fc38f31c054ede3b7c6b5ab3ec3cc74b"), looks := false }, kinds := [], alts := [], laidByText := true, laidKinds := [.data], laidTests := true, laidLooks := .later }
def ReplyRefusesUptoCardSaid : Prop := Claim7.holds Tryd.pinned (.plain (OpenSpec.upto replyRefusesSpec)) replyRefusesUptoCard
end Rows
end Go.Proofs.YtbnlchbklpgejaaDoor
