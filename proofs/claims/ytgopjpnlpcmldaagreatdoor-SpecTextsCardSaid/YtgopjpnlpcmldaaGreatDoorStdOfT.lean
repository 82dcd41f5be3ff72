/-
  What the rows' list of variables and the world's shape give the walks: the library's own variables hold what they hold from the start.
-/
import Derived.Test.YtgopjpnlpcmldaaGreatDoorCards
import Derived.Test.YtgopjpnlpcmldaaGreatDoorShelf
import Derived.Test.YtgopjpnlpcmldaaGreatDoorTextsWalk
import Derived.Lib.LaidTab
import Derived.LaidMore
import Derived.Stop.LaidErr
import Derived.Deep.DeepHandedRow
namespace Go.Proofs.YtgopjpnlpcmldaaGreatDoor.W
set_option linter.unusedVariables false
open Go.ChangeShapes Go.WideShapes Go.ChangeAt Go.RowKit

theorem tTab : (Tryz.prog.globals[3]?).map (·.type) = some 145 := by kernel_rfl
theorem cTab : Tryz.prog.cellsOf 145 = 20 := by kernel_rfl
theorem cWord : Tryz.prog.cellsOf 119 = 1 := by kernel_rfl
theorem datum : (Rows.laid_internal_strconv_uint64pow10 : DataW Unit) = Lib.tabData .u64 Lib.pow10Tab := by kernel_rfl
theorem tSyn : (Tryz.prog.globals[1]?).map (·.type) = some 59 := by kernel_rfl
theorem tRan : (Tryz.prog.globals[2]?).map (·.type) = some 59 := by kernel_rfl
theorem rowErr (u : TypeId) (h : Tryz.prog.typeName? 3 u = some "*errors.errorString") : u = 153 :=
  typeName_ptr_named (nm := "errors.errorString") (by kernel_rfl) (by kernel_rfl) (by decide) u h
theorem cErr : Tryz.prog.cellsOf 155 = 1 := by kernel_rfl
theorem cStr : Tryz.prog.cellsOf 9 = 1 := by kernel_rfl
theorem gBig : Tryz.prog.globalNamed "unicode/utf8.first" = some 4 := by kernel_rfl
def StdT (w : World) : Prop := Std w ∧ StdE w

theorem std_of {W : World} (h : laidMetH Tryz.prog Rows.specTextsRow.laid W) (hsh : W.ShapedOpen Tryz.prog) : StdT W := by
  have h0 : laidMet Tryz.prog [("math/bits.deBruijn32tab", Rows.laid_math_bits_deBruijn32tab), ("math/bits.deBruijn64tab", Rows.laid_math_bits_deBruijn64tab), ("internal/strconv.uint64pow10", Rows.laid_internal_strconv_uint64pow10), ("unicode/utf8.acceptRanges", Rows.laid_unicode_utf8_acceptRanges), ("strconv.ErrRange", Rows.laid_strconv_ErrRange), ("strconv.ErrSyntax", Rows.laid_strconv_ErrSyntax), ("unicode/utf8.first", Rows.laid_unicode_utf8_first)] W := h
  have h3 : laidMet Tryz.prog (("internal/strconv.uint64pow10", Lib.tabData .u64 Lib.pow10Tab) :: [("unicode/utf8.acceptRanges", Rows.laid_unicode_utf8_acceptRanges), ("strconv.ErrRange", Rows.laid_strconv_ErrRange), ("strconv.ErrSyntax", Rows.laid_strconv_ErrSyntax), ("unicode/utf8.first", Rows.laid_unicode_utf8_first)]) W := by
    rw [← datum]
    exact laidMet.tail (laidMet.tail h0)
  have h4 := laidMet.tail (laidMet.tail h3)
  have h5 := laidMet.tail h4
  obtain ⟨a1, s1, hv1, _⟩ := laid_sentinel h4 gRan tRan Tryz.underlying59 rowErr Tryz.underlying153 Tryz.underlying155 rfl rfl Tryz.underlying9 cErr cStr
  obtain ⟨a2, s2, hv2, _⟩ := laid_sentinel h5 gSyn tSyn Tryz.underlying59 rowErr Tryz.underlying153 Tryz.underlying155 rfl rfl Tryz.underlying9 cErr cStr
  refine ⟨⟨Tryz.laysM145.s1_3 W hsh, Lib.tabIs_of_head gTab tTab Tryz.underlying145 Tryz.underlying119 cWord cTab h3, ?_⟩, ⟨_, _, hv2⟩, ⟨_, _, hv1⟩⟩
  obtain ⟨ps, ⟨g', t', cs, fuel, p, q, hg', ht', hvar, hd, _, _⟩, _⟩ := laidMet.tail h5
  obtain rfl := Option.some.inj (gBig.symm.trans hg')
  by_cases hlt : 4 ≤ W.heap.size
  · exact hlt
  · exfalso
    unfold World.var? at hvar
    rw [gBig] at hvar
    simp only [Option.bind_some] at hvar
    rw [Array.getElem?_eq_none (by omega)] at hvar
    simp at hvar

end Go.Proofs.YtgopjpnlpcmldaaGreatDoor.W
