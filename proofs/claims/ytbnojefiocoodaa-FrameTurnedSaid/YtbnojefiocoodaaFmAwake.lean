/-
  The chapter's example, as the laws of layer 6 ask it first.
-/
import Derived.Test.YtbnojefiocoodaaFmRef
import Derived.Test.YtbnojefiocoodaaSame
namespace Go.Proofs.Ytbnojefiocoodaa.W
set_option linter.unusedVariables false
set_option linter.unusedSimpArgs false
open Go.ChangeShapes Go.WideShapes Go.ChangeAt Go.RowKit

theorem mk7 : mk [7] = [0, 1, 7, 23] := rfl
theorem row7 (w : World) (t : TypeId) : RowAt (w.alloc (.cells #[.int .u8 7] t)) (some ⟨w.heap.size, 0, none⟩) (bytesV [7]) := by
  rw [show bytesV [7] = [Value.int .u8 7] from by simp [bytesV]]; exact row_new w _ t
theorem row23 (w : World) (t : TypeId) : RowAt (w.alloc (.cells #[.int .u8 0, .int .u8 1, .int .u8 7, .int .u8 23] t)) (some ⟨w.heap.size, 0, none⟩) (bytesV [0, 1, 7, 23]) := by
  rw [show bytesV [0, 1, 7, 23] = [Value.int .u8 0, .int .u8 1, .int .u8 7, .int .u8 23] from by simp [bytesV]]; exact row_new w _ t
/-- a call behind what the caller made -/
theorem behind {B : Nat} {w v w1 : World} (h : Below v.heap.size v w1) (hB : B ≤ v.heap.size) (k : Below B w v) : Below B w w1 := k.trans (h.mono hB)

set_option maxHeartbeats 400000 in
set_option maxRecDepth 100000 in
theorem awake (w : World) : Calls Try.prog 6 #[] w fun e w' => e = .returned (.bool true) ∧ Below w.heap.size w w' := by
  have HM := Lib.hid (fun (a : Option Addr) (w : World) => make a 1 [7] (by decide) (by decide) w)
  rw [mk7] at HM
  have HS := Lib.hid (fun a b ca w => sameB a b ca 4 [0, 1, 7, 23] (by decide) w)
  go_enter Try.func6, Try.ntmps6
  go_wp2_with fail
  have R1 := row7 w 5
  have K := HM.out (some ⟨w.heap.size, 0, none⟩) (w.alloc (.cells #[.int .u8 7] 5)) (fun h => by cases h) R1
  refine K.mono ?_; rintro e w1 ⟨x1, rfl, hown1, hb1⟩
  clear K R1
  obtain ⟨a1, cap1, rfl, hcap1, hrow1, _⟩ := own_reads hown1
  have hy1 : w.heap.size + 1 ≤ w1.heap.size := by simpa using hb1.size
  have hbel1 : Below w.heap.size w w1 := behind hb1 (by simp) ((Below.refl _ w).alloc (Nat.le_refl _) _)
  have HR1 := Lib.hid hrow1
  clear hown1 hrow1
  go_wp2_with fail
  have R3 := row23 w1 5
  have K := HS.out _ _ cap1 _ (HR1.out.alloc _) R3
  refine K.mono ?_; rintro e w2 ⟨rfl, hb2⟩
  clear K R3
  have hbel2 : Below w.heap.size w w2 := behind hb2 (by simp; omega) (hbel1.alloc (by omega) _)
  go_wp2
  go_ret
  exact ⟨rfl, hbel2⟩
end Go.Proofs.Ytbnojefiocoodaa.W
