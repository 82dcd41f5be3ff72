/-
  NARROWER THAN 'FOR EVERY INPUT', by the rows' own cells (each row's printed sentence says how): ReplyWrites: laid · ReplyReads: laid · ReplyRefuses: laid.
  DERIVED. THE GIVEN ROWS OF THIS SEAT. 3 by the template 'for every input the law returns true; each argument reads behind the call as it read before'; 0 by the template 'total and deterministic' (their statements: YtbnlchbklpgejaaDoorTotals.lean).
  GIVEN WITH THE SEED: the statements are not yours to turn. If you find one false, say at which input.
  Laid BY PROGRAM, IN A SANDBOX (cutbox-rows.mjs): the forced cells as the released guide's own fill.sh prints them over the translation 5962d109d3d2775d… (all of the seat's roots in one cut). By AI agents, Wed Nov 11 2026. No macro, syntax, notation, axiom, sorry.
-/
import Derived.Test.YtbnlchbklpgejaaDoorChecked
import GoSem.Claim
import GoSem.ClaimJoined
import GoSem.ClaimMapViews
import Derived.JoinedTies
import Derived.KernelRfl
namespace Go.Proofs.YtbnlchbklpgejaaDoor
/- THE CELL 'sum', in the pinned program and in every row, IS THE sha256 OF THE DUMP (.gsa) THAT YtbnlchbklpgejaaDoorProg.lean LOADS. Nothing in Lean hashes anything: it is a label: what it is worth is what the hold of that sum in a sandbox is worth. -/
noncomputable def Tryd.pinned : Pinned := { name := "ytbnlchbklpgejaadoor", sum := "5962d109d3d2775df535267a37224502c0c8d3e16365131385b8e29966931ec0", checked := Tryd.checked }
namespace Rows
def none {H : Type} : Left H := { results := [], args := [] }

/- WHAT THE LISTED PACKAGE-LEVEL VARIABLES READ AS WHEN THE CALL BEGINS. Each datum BY PROGRAM (the guide's laid-datum.mjs) off the statement by which the dump's own 'gosem.cut.vars' lays the variable. In a bare row this is a premise. The card (YtbnlchbklpgejaaDoorCards.lean) ties it to the program's text. -/
def laid_drayage_reply_most {H : Type} : DataW H := .agg [.lit (.int .i64 1073741824), .lit (.int .i64 99), .lit (.int .i64 281474976710656), .lit (.int .i64 281474976710656)]

/-- 'drayagelaw09.ReplyWrites': WHATEVER THE INPUT: true; the input reads as it did. -/
def replyWritesSpec : ChangeSpec := { name := "replyWrites", fn := fun _ => fun
  | [d1, d2] => { results := [.lit (.bool true)], args := [d1, d2] }
  | _ => none }
def replyWritesRow : OpenClaim := { program := "ytbnlchbklpgejaadoor", sum := "5962d109d3d2775df535267a37224502c0c8d3e16365131385b8e29966931ec0", func := "drayage/drayagelaw09.ReplyWrites", spec := "replyWrites", recurses := true, named := ["drayage/reply.most"], apart := false, laid := [("drayage/reply.most", laid_drayage_reply_most)] }
def ReplyWritesSaid : Prop := replyWritesRow.holds Tryd.pinned (OpenSpec.ofChange replyWritesSpec)

/-- ITS FALSE NEIGHBOUR: 'it returns false'. Refute it at one input. -/
def replyWritesWrong : ChangeSpec := { name := "replyWrites", fn := fun _ => fun
  | [d1, d2] => { results := [.lit (.bool false)], args := [d1, d2] }
  | _ => none }
def ReplyWritesWrongFalsely : Prop := replyWritesRow.holds Tryd.pinned (OpenSpec.ofChange replyWritesWrong)

/-- 'drayagelaw09.ReplyReads': WHATEVER THE INPUT: true; the input reads as it did. -/
def replyReadsSpec : ChangeSpec := { name := "replyReads", fn := fun _ => fun
  | [d] => { results := [.lit (.bool true)], args := [d] }
  | _ => none }
def replyReadsRow : OpenClaim := { program := "ytbnlchbklpgejaadoor", sum := "5962d109d3d2775df535267a37224502c0c8d3e16365131385b8e29966931ec0", func := "drayage/drayagelaw09.ReplyReads", spec := "replyReads", recurses := true, named := ["drayage/reply.most"], apart := false, laid := [("drayage/reply.most", laid_drayage_reply_most)] }
def ReplyReadsSaid : Prop := replyReadsRow.holds Tryd.pinned (OpenSpec.ofChange replyReadsSpec)

/-- ITS FALSE NEIGHBOUR: 'it returns false'. Refute it at one input. -/
def replyReadsWrong : ChangeSpec := { name := "replyReads", fn := fun _ => fun
  | [d] => { results := [.lit (.bool false)], args := [d] }
  | _ => none }
def ReplyReadsWrongFalsely : Prop := replyReadsRow.holds Tryd.pinned (OpenSpec.ofChange replyReadsWrong)

/-- 'drayagelaw09.ReplyRefuses': WHATEVER THE INPUT: true; the input reads as it did. -/
def replyRefusesSpec : ChangeSpec := { name := "replyRefuses", fn := fun _ => fun
  | [d1, d2] => { results := [.lit (.bool true)], args := [d1, d2] }
  | _ => none }
def replyRefusesRow : OpenClaim := { program := "ytbnlchbklpgejaadoor", sum := "5962d109d3d2775df535267a37224502c0c8d3e16365131385b8e29966931ec0", func := "drayage/drayagelaw09.ReplyRefuses", spec := "replyRefuses", named := ["drayage/reply.most"], apart := false, laid := [("drayage/reply.most", laid_drayage_reply_most)] }
def ReplyRefusesSaid : Prop := replyRefusesRow.holds Tryd.pinned (OpenSpec.ofChange replyRefusesSpec)

/-- ITS FALSE NEIGHBOUR: 'it returns false'. Refute it at one input. -/
def replyRefusesWrong : ChangeSpec := { name := "replyRefuses", fn := fun _ => fun
  | [d1, d2] => { results := [.lit (.bool false)], args := [d1, d2] }
  | _ => none }
def ReplyRefusesWrongFalsely : Prop := replyRefusesRow.holds Tryd.pinned (OpenSpec.ofChange replyRefusesWrong)

/- THE SECOND FORM. 'bulk': how many values and letters a reading holds, each counted each time it is reached (what is shared counts as often as it is met; a slice's spare places count too). A statement '..UptoSaid' is the law's where the arguments, and the package variables that the reading takes, are together of bulk at most 1048576: NARROWER than '..Said'. Prove '..Said' where nothing that the law and all that it calls make is longer than what came in: it says more and counts as full. Else prove '..UptoSaid'. A law counts once. -/
mutual
def uptoBulk {H : Type} : DataW H → Nat
  | .lit (.string bytes) => bytes.length + 1
  | .lit _ => 1
  | .nil => 1
  | .ptr d => uptoBulk d + 1
  | .slice elems spare => uptoBulkAll elems + uptoBulkAll spare + 1
  | .agg parts => uptoBulkAll parts + 1
  | .iface _ d => uptoBulk d + 1
  | .map entries => uptoBulkEntries entries + 1
  | .held _ => 1
def uptoBulkAll {H : Type} : List (DataW H) → Nat
  | [] => 0
  | d :: r => uptoBulk d + uptoBulkAll r
def uptoBulkEntries {H : Type} : List (Lit × DataW H) → Nat
  | [] => 0
  | x :: r => uptoBulkEntry x + uptoBulkEntries r
def uptoBulkEntry {H : Type} : Lit × DataW H → Nat
  | (.string bytes, d) => bytes.length + uptoBulk d + 1
  | (_, d) => uptoBulk d + 1
 end
def uptoSmall : (H : Type) → List (DataW H) → Bool := fun _ ds => decide (uptoBulkAll ds ≤ 1048576)
def OpenSpec.upto (s : _root_.Go.ChangeSpec) : _root_.Go.OpenSpec := { _root_.Go.OpenSpec.ofChange s with cond := some uptoSmall }

/-- 'drayagelaw09.ReplyWrites', WHERE WHAT IT READS IS OF BULK AT MOST 1048576: true; the input reads as it did. -/
def replyWritesUptoRow : OpenClaim := { program := "ytbnlchbklpgejaadoor", sum := "5962d109d3d2775df535267a37224502c0c8d3e16365131385b8e29966931ec0", func := "drayage/drayagelaw09.ReplyWrites", spec := "replyWrites", recurses := true, named := ["drayage/reply.most"], apart := false, laid := [("drayage/reply.most", laid_drayage_reply_most)], narrowed := true }
def ReplyWritesUptoSaid : Prop := replyWritesUptoRow.holds Tryd.pinned (OpenSpec.upto replyWritesSpec)

/-- 'drayagelaw09.ReplyReads', WHERE WHAT IT READS IS OF BULK AT MOST 1048576: true; the input reads as it did. -/
def replyReadsUptoRow : OpenClaim := { program := "ytbnlchbklpgejaadoor", sum := "5962d109d3d2775df535267a37224502c0c8d3e16365131385b8e29966931ec0", func := "drayage/drayagelaw09.ReplyReads", spec := "replyReads", recurses := true, named := ["drayage/reply.most"], apart := false, laid := [("drayage/reply.most", laid_drayage_reply_most)], narrowed := true }
def ReplyReadsUptoSaid : Prop := replyReadsUptoRow.holds Tryd.pinned (OpenSpec.upto replyReadsSpec)

/-- 'drayagelaw09.ReplyRefuses', WHERE WHAT IT READS IS OF BULK AT MOST 1048576: true; the input reads as it did. -/
def replyRefusesUptoRow : OpenClaim := { program := "ytbnlchbklpgejaadoor", sum := "5962d109d3d2775df535267a37224502c0c8d3e16365131385b8e29966931ec0", func := "drayage/drayagelaw09.ReplyRefuses", spec := "replyRefuses", named := ["drayage/reply.most"], apart := false, laid := [("drayage/reply.most", laid_drayage_reply_most)], narrowed := true }
def ReplyRefusesUptoSaid : Prop := replyRefusesUptoRow.holds Tryd.pinned (OpenSpec.upto replyRefusesSpec)

end Rows
end Go.Proofs.YtbnlchbklpgejaaDoor
