/-
  The examples that each law of layer 2 begins with.
-/
import Derived.Test.YtgmkdcjcmoonaaaVecAdd
import Derived.Test.YtgmkdcjcmoonaaaVecCount
namespace Go.Proofs.Ytgmkdcjcmoonaaa.W
set_option linter.unusedVariables false
set_option linter.unusedSimpArgs false
open Go.ChangeShapes Go.WideShapes Go.ChangeAt Go.RowKit

def ex1 : V := ⟨1, 2, 0, 0⟩
def ex2 : V := ⟨0, 3, 0, 4⟩
def ex3 : V := ⟨7, 9, 0, 0⟩
def ex4 : V := ⟨2, 3, 0, 0⟩
theorem ex_add : addR ex1 ex2 = ⟨1, 5, 0, 4⟩ ∧ addE ex1 ex2 = 0 :=
  ⟨V.ext' (by decide +kernel) (by decide +kernel) (by decide +kernel) (by decide +kernel), by decide +kernel⟩
theorem ex_count : countV ex3 ex4 = 3 := by decide +kernel
set_option maxHeartbeats 1000000 in
theorem awake (w : World) : Calls Try.prog 6 #[] w fun e w' => e = .returned (.bool true) ∧ Below w.heap.size w w' := by
  have H1 := Lib.hid (fun w => add ex1 ex2 w)
  rw [ex_add.1, ex_add.2] at H1
  have H2 := Lib.hid (fun w => count ex3 ex4 w)
  rw [ex_count] at H2
  go_enter Try.func6, Try.ntmps6
  go_wp2_with fail
  refine (H1.out _).mono ?_; rintro e w1 ⟨rfl, hb1⟩; obtain ⟨hc1, hf1⟩ := bcell hb1; have hz1 := hb1.size; (try simp at hz1)
  go_wp2_with fail
  refine (H2.out _).mono ?_; rintro e w2 ⟨rfl, hb2⟩; obtain ⟨hc2, hf2⟩ := bcell hb2; have hz2 := hb2.size; (try simp at hz2)
  go_wp2
  go_ret
  exact ⟨by simp, (by repeat' (first | exact Below.refl _ _ | assumption | exact And.left (by assumption) | refine Below.drew ?_ | refine below_drewN ?_ _ | refine Below.setCell ?_ (by first | (simp; done) | (simp; omega) | omega) _ | refine Below.alloc ?_ (by first | (simp; done) | (simp; omega) | omega) _ | refine after (by assumption) (by first | (simp; done) | (simp; omega) | omega) ?_))⟩
end Go.Proofs.Ytgmkdcjcmoonaaa.W
