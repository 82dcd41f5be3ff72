/-
  What the rows' list of variables and the world's shape give the walks: the library's own variables hold what they hold from the start.
-/
import Derived.Test.YtcnenpkmlindaaaDoorCards
import Derived.Test.YtcnenpkmlindaaaDoorUnitsLib
import Derived.Lib.LaidTab
import Derived.LaidMore
import Derived.Stop.LaidErr
import Derived.Deep.DeepHandedRow
namespace Go.Proofs.YtcnenpkmlindaaaDoor.W
set_option linter.unusedVariables false
open Go.ChangeShapes Go.WideShapes Go.ChangeAt Go.RowKit

theorem tTab : (Tryd.prog.globals[1]?).map (·.type) = some 75 := by kernel_rfl
theorem cTab : Tryd.prog.cellsOf 75 = 20 := by kernel_rfl
theorem cWord : Tryd.prog.cellsOf 63 = 1 := by kernel_rfl
theorem datum : (Rows.laid_internal_strconv_uint64pow10 : DataW Unit) = Lib.tabData .u64 Lib.pow10Tab := by kernel_rfl
theorem gBig : Tryd.prog.globalNamed "math/bits.deBruijn64tab" = some 3 := by kernel_rfl

theorem std_of {W : World} (h : laidMetH Tryd.prog [("math/bits.deBruijn32tab", Rows.laid_math_bits_deBruijn32tab), ("math/bits.deBruijn64tab", Rows.laid_math_bits_deBruijn64tab), ("internal/strconv.uint64pow10", Rows.laid_internal_strconv_uint64pow10)] W)
    (hsh : W.ShapedOpen Tryd.prog) : Std W := by
  have h3 : laidMet Tryd.prog [("internal/strconv.uint64pow10", Lib.tabData .u64 Lib.pow10Tab)] W := by
    rw [← datum]
    exact laidMet.tail (laidMet.tail h)
  refine ⟨Tryd.laysM145.s1_3 W hsh, Lib.tabIs_of_head (rest := []) gTab tTab Tryd.underlying75 Tryd.underlying63 cWord cTab h3, ?_⟩
  obtain ⟨ps, ⟨g', t', cs, fuel, p, q, hg', ht', hvar, hd, _, _⟩, _⟩ := laidMet.tail h
  obtain rfl := Option.some.inj (gBig.symm.trans hg')
  by_cases hlt : 4 ≤ W.heap.size
  · exact hlt
  · exfalso
    unfold World.var? at hvar
    rw [gBig] at hvar
    simp only [Option.bind_some] at hvar
    rw [Array.getElem?_eq_none (by omega)] at hvar
    simp at hvar

end Go.Proofs.YtcnenpkmlindaaaDoor.W
