/-
  What the rows' list of variables and the world's shape give the walks: the library's own variables hold what they hold from the start.
-/
import Derived.Test.YtfbgalmndciiiaaDoorCards
import Derived.Test.YtfbgalmndciiiaaDoorSpanLib
import Derived.Lib.LaidTab
import Derived.LaidMore
import Derived.Stop.LaidErr
import Derived.Deep.DeepHandedRow
namespace Go.Proofs.YtfbgalmndciiiaaDoor.W
set_option linter.unusedVariables false
open Go.ChangeShapes Go.WideShapes Go.ChangeAt Go.RowKit

theorem tTab : (Tryd.prog.globals[1]?).map (·.type) = some 72 := by kernel_rfl
theorem cTab : Tryd.prog.cellsOf 72 = 20 := by kernel_rfl
theorem cWord : Tryd.prog.cellsOf 55 = 1 := by kernel_rfl
theorem datum : (Rows.laid_internal_strconv_uint64pow10 : DataW Unit) = Lib.tabData .u64 Lib.pow10Tab := by kernel_rfl
theorem tSyn : (Tryd.prog.globals[2]?).map (·.type) = some 45 := by kernel_rfl
theorem tRan : (Tryd.prog.globals[3]?).map (·.type) = some 45 := by kernel_rfl
theorem rowErr (u : TypeId) (h : Tryd.prog.typeName? 3 u = some "*errors.errorString") : u = 86 :=
  typeName_ptr_named (nm := "errors.errorString") (by kernel_rfl) (by kernel_rfl) (by decide) u h
theorem cErr : Tryd.prog.cellsOf 88 = 1 := by kernel_rfl
theorem cStr : Tryd.prog.cellsOf 9 = 1 := by kernel_rfl

theorem std_of {W : World} (h : laidMetH Tryd.prog [("math/bits.deBruijn32tab", Rows.laid_math_bits_deBruijn32tab), ("math/bits.deBruijn64tab", Rows.laid_math_bits_deBruijn64tab), ("internal/strconv.uint64pow10", Rows.laid_internal_strconv_uint64pow10), ("strconv.ErrRange", Rows.laid_strconv_ErrRange), ("strconv.ErrSyntax", Rows.laid_strconv_ErrSyntax)] W)
    (hsh : W.ShapedOpen Tryd.prog) : Std W := by
  have h3 : laidMet Tryd.prog (("internal/strconv.uint64pow10", Lib.tabData .u64 Lib.pow10Tab) :: [("strconv.ErrRange", Rows.laid_strconv_ErrRange), ("strconv.ErrSyntax", Rows.laid_strconv_ErrSyntax)]) W := by
    rw [← datum]
    exact laidMet.tail (laidMet.tail h)
  have h4 := laidMet.tail h3
  have h5 := laidMet.tail h4
  obtain ⟨a1, s1, hv1, _⟩ := laid_sentinel h4 gRan tRan Tryd.underlying45 rowErr Tryd.underlying86 Tryd.underlying88 rfl rfl Tryd.underlying9 cErr cStr
  obtain ⟨a2, s2, hv2, _⟩ := laid_sentinel h5 gSyn tSyn Tryd.underlying45 rowErr Tryd.underlying86 Tryd.underlying88 rfl rfl Tryd.underlying9 cErr cStr
  refine ⟨Tryd.laysM145.s1_3 W hsh, Lib.tabIs_of_head gTab tTab Tryd.underlying72 Tryd.underlying55 cWord cTab h3, ⟨_, _, hv2⟩, ⟨_, _, hv1⟩, ?_⟩
  by_cases hlt : 4 ≤ W.heap.size
  · exact hlt
  · exfalso
    unfold World.var? at hv1
    rw [gRan] at hv1
    simp only [Option.bind_some] at hv1
    rw [Array.getElem?_eq_none (by omega)] at hv1
    simp at hv1

end Go.Proofs.YtfbgalmndciiiaaDoor.W
