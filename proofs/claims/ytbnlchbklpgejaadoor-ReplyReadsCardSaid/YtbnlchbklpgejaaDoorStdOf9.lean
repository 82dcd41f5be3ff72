/-
  What the rows' list of variables gives the walks: the program's own table holds what its text lays in it.
-/
import Derived.Test.YtbnlchbklpgejaaDoorCards
import Derived.Test.YtbnlchbklpgejaaDoorReplyMem
import Derived.Lib.LaidTab
import Derived.LaidMore
import Derived.Deep.DeepHandedRow
namespace Go.Proofs.YtbnlchbklpgejaaDoor.W
set_option linter.unusedVariables false
open Go.ChangeShapes Go.WideShapes Go.ChangeAt Go.RowKit

theorem gMost : Tryd.prog.globalNamed "drayage/reply.most" = some 0 := by kernel_rfl
theorem tMost : (Tryd.prog.globals[0]?).map (·.type) = some 41 := by kernel_rfl
theorem cMost : Tryd.prog.cellsOf 41 = 4 := by kernel_rfl
theorem cInt : Tryd.prog.cellsOf 3 = 1 := by kernel_rfl
theorem datum : (Rows.laid_drayage_reply_most : DataW Unit) = Lib.tabData .i64 [1073741824, 99, 281474976710656, 281474976710656] := by kernel_rfl
theorem std_of {W : World} (h : laidMetH Tryd.prog [("drayage/reply.most", Rows.laid_drayage_reply_most)] W) (hsh : W.ShapedOpen Tryd.prog) : Std W := by
  have h3 : laidMet Tryd.prog [("drayage/reply.most", Lib.tabData .i64 [1073741824, 99, 281474976710656, 281474976710656])] W := by
    rw [← datum]
    exact h
  have ht := Lib.tabIs_of_head (rest := []) gMost tMost Tryd.underlying41 Tryd.underlying3 cInt cMost h3
  have c0 := ht.cell gMost 0 (by decide)
  exact ⟨c0, ht.cell gMost 1 (by decide), ht.cell gMost 2 (by decide), ht.cell gMost 3 (by decide), World.block_lt_of_cell? _ _ c0⟩
end Go.Proofs.YtbnlchbklpgejaaDoor.W
