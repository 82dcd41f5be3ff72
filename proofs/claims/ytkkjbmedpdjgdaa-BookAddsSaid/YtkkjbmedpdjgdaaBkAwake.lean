/-
  The chapter's example of layer 12.
-/
import Derived.Test.YtkkjbmedpdjgdaaBkAdd
import Derived.Test.YtkkjbmedpdjgdaaBkRef
namespace Go.Proofs.Ytkkjbmedpdjgdaa.W
set_option linter.unusedVariables false
set_option linter.unusedSimpArgs false
open Go.ChangeShapes Go.WideShapes Go.ChangeAt Go.RowKit

def awL : List Bk := [⟨1, 2, 5, 8⟩]
def awX : Bk := ⟨2, 2, 8, 9⟩
theorem aw_add : addEk awL 3 awX = 0 ∧ meetsB awL 2 8 9 = false ∧ meetsB awL 2 7 9 = true := by decide
set_option maxHeartbeats 2000000 in
theorem awakeBk (w : World) : Calls Try.prog 5 #[] w fun e w' => e = .returned (.bool true) ∧ Below w.heap.size w w' := by
  have K1 := Lib.hid (fun a c w' h => bAdd a c awL (by decide) 3 awX w' h)
  rw [aw_add.1] at K1
  have K2 := Lib.hid (fun a c w' h => bMeets a c awL (by decide) 2 8 9 w' h)
  rw [aw_add.2.1] at K2
  have K3 := Lib.hid (fun a c w' h => bMeets a c awL (by decide) 2 7 9 w' h)
  rw [aw_add.2.2] at K3
  go_enter Try.func5, Try.ntmps5
  go_wp2_with fail
  generalize hw1 : World.alloc w _ = w1
  have hb1 : Below w.heap.size w w1 := by rw [← hw1]; exact (by repeat' (first | exact Below.refl _ _ | assumption | exact And.left (by assumption) | refine Below.drew ?_ | refine below_drewN ?_ _ | refine Below.setCell ?_ (by first | (simp; done) | (simp; omega) | omega) _ | refine Below.alloc ?_ (by first | (simp; done) | (simp; omega) | omega) _ | refine after (by assumption) (by first | (simp; done) | (simp; omega) | omega) ?_))
  have HS1 : Hid (BkAt w1 (some ⟨w.heap.size, 0, none⟩) 1 awL) := Lib.hid ⟨by rw [← hw1]; exact row_new _ _ _, Nat.le_refl _, fun h => (by cases h)⟩
  clear hw1
  refine (K1.out _ _ w1 HS1.out).mono ?_
  rintro e w2 ⟨v2, rfl, hb2, hc⟩
  rcases hc with ⟨hc, _⟩ | ⟨_, hO2⟩
  · exact absurd rfl hc
  obtain ⟨a2, c2, rfl, hs2⟩ := own_bk (l := awL ++ [awX]) hO2
  clear hO2 hs2
  have h3 : (awL ++ [awX]).length = 2 := rfl
  have h1 := hb1.size
  have k2 := hb1.trans (hb2.mono h1)
  go_wp2_with fail
  refine (K2.out _ _ w2 (HS1.out.later hb2)).mono ?_
  rintro e w3 ⟨rfl, hb3⟩
  have k3 := k2.trans (hb3.mono k2.size)
  go_wp2_with fail
  refine (K3.out _ _ w3 ((HS1.out.later hb2).later hb3)).mono ?_
  rintro e w4 ⟨rfl, hb4⟩
  go_wp2
  go_ret
  exact ⟨rfl, k3.trans (hb4.mono k3.size)⟩
end Go.Proofs.Ytkkjbmedpdjgdaa.W
