/-
  The chapter's example; what is told of what was taken; the law's arguments.
-/
import Derived.Test.YtcnpppkndcgmpaaStChange
import Derived.Test.YtcnpppkndcgmpaaStNew
import Derived.Test.YtcnpppkndcgmpaaStSame
namespace Go.Proofs.Ytcnpppkndcgmpaa.W
set_option linter.unusedVariables false
set_option linter.unusedSimpArgs false
open Go.ChangeShapes Go.WideShapes Go.ChangeAt Go.RowKit

theorem leastS_ok {l : List St} (h : OkS l) (f t : Int) : (leastS l f t).Ok := by
  by_cases hc : OkS l ∧ begin_ l ≤ f ∧ f < t
  · have key : ∀ (p : V → Int), (∀ a b, p (a.least b) = low (p a) (p b)) → (∀ v : V, v.Ok → 0 ≤ p v ∧ p v ≤ 1048576) → 0 ≤ p (leastS l f t) ∧ p (leastS l f t) ≤ 1048576 := by
      intro p hp ho
      obtain ⟨_, u, _, _, e⟩ := least_lowest hp h hc.2.1 hc.2.2
      rw [e]
      exact ho _ (at_ok h u)
    exact ⟨key V.cpu (fun _ _ => rfl) (fun _ h => h.1), key V.mem (fun _ _ => rfl) (fun _ h => h.2.1), key V.gpu (fun _ _ => rfl) (fun _ h => h.2.2.1), key V.lic (fun _ _ => rfl) (fun _ h => h.2.2.2)⟩
  · rw [leastS_no hc]
    unfold V.Ok V.zero; simp
theorem back_at {l : List St} {f t : Int} {need : V} (h : ArgsOk l f t need) (g : Fine false l f t need) (u : Int) :
    (f ≤ u → u < t → (atR (turnR false l f t need) u).plus need = atR l u) ∧ (¬ (f ≤ u ∧ u < t) → atR (turnR false l f t need) u = atR l u) := by
  obtain ⟨a, b, c⟩ := turnR_ok h g
  have e1 : atR (turnR false l f t need) u = atL (turnR false l f t need) u := if_pos a
  have e2 : atR l u = atL l u := if_pos h.1
  rw [e1, e2]
  refine ⟨fun u0 u1 => ?_, fun k => ?_⟩
  · rw [c u (by have := h.2.2.1; omega), if_pos ⟨u0, u1⟩]
    exact less_plus _ _
  · by_cases hu : begin_ l ≤ u
    · rw [c u hu, if_neg k]
    · have p0 := List.length_pos_iff.2 h.1.1
      have p1 := List.length_pos_iff.2 a.1
      rw [atL_no (l := l) p0 (by rw [← begin_at p0]; omega), atL_no (l := turnR false l f t need) p1 (by rw [← begin_at p1]; omega)]

def s4 : V := ⟨4, 0, 0, 0⟩
def want3 : List St := [⟨0, ⟨4, 0, 0, 0⟩⟩, ⟨2, ⟨1, 0, 0, 0⟩⟩, ⟨5, ⟨4, 0, 0, 0⟩⟩]
theorem aw_new : newR 0 ⟨4, 0, 0, 0⟩ = [⟨0, ⟨4, 0, 0, 0⟩⟩] ∧ newE 0 ⟨4, 0, 0, 0⟩ = 0 := by constructor <;> kernel_rfl
theorem aw_take : turnR false [⟨0, ⟨4, 0, 0, 0⟩⟩] 2 5 ⟨3, 0, 0, 0⟩ = want3 ∧ turnE false [⟨0, ⟨4, 0, 0, 0⟩⟩] 2 5 ⟨3, 0, 0, 0⟩ = 0 := by constructor <;> kernel_rfl
theorem aw_least : leastS want3 1 3 = ⟨1, 0, 0, 0⟩ := by kernel_rfl
set_option maxHeartbeats 2000000 in
theorem awakeSt (w : World) : Calls Try.prog 7 #[] w fun e w' => e = .returned (.bool true) ∧ Below w.heap.size w w' := by
  have K1 := Lib.hid (fun w => sNew 0 ⟨4, 0, 0, 0⟩ w)
  rw [aw_new.1, aw_new.2] at K1
  have K2 := Lib.hid (fun a c w' h => sTake a c [⟨0, ⟨4, 0, 0, 0⟩⟩] (by simp) 2 5 ⟨3, 0, 0, 0⟩ w' h)
  rw [aw_take.1, aw_take.2] at K2
  have K3 := Lib.hid (fun a b ca cb w' ha hb => rSame a b ca cb want3 want3 (by decide) (by decide) w' ha hb)
  rw [decide_eq_true (rfl : want3 = want3)] at K3
  have K4 := Lib.hid (fun a c w' h => sLeast a c want3 (by decide) 1 3 w' h)
  rw [aw_least] at K4
  go_enter Try.func7, Try.ntmps7
  go_wp2_with fail
  refine (K1.out w).mono ?_
  rintro e w1 ⟨v1, rfl, hO1, hb1⟩
  obtain ⟨a1, c1, rfl, hs1⟩ := own_st (l := [⟨0, ⟨4, 0, 0, 0⟩⟩]) hO1
  have HS1 := Lib.hid hs1
  clear hO1 hs1
  go_wp2_with fail
  refine (K2.out a1 c1 _ HS1.out).mono ?_
  rintro e w2 ⟨v2, rfl, hO2, hb2⟩
  obtain ⟨a2, c2, rfl, hs2⟩ := own_st (l := want3) hO2
  have HS2 := Lib.hid hs2
  clear hO2 hs2
  have h3 : want3.length = 3 := rfl
  go_wp2_with fail
  generalize hw3 : World.alloc w2 _ = w3
  have hb3 : Below w2.heap.size w2 w3 := by rw [← hw3]; exact (Below.refl _ _).alloc (Nat.le_refl _) _
  have HS3 : Hid (StAt w3 (some ⟨w2.heap.size, 0, none⟩) 3 want3) := Lib.hid ⟨by rw [← hw3]; exact row_new _ _ _, Nat.le_refl _, fun h => (by cases h)⟩
  clear hw3
  refine (K3.out a2 _ c2 3 _ (HS2.out.later hb3) HS3.out).mono ?_
  rintro e w4 ⟨rfl, hb4⟩
  go_wp2_with fail
  refine (K4.out a2 c2 _ ((HS2.out.later hb3).later hb4)).mono ?_
  rintro e w5 ⟨rfl, hb5⟩
  go_wp2
  go_ret
  have h1 := hb1.size
  have k2 := hb1.trans (hb2.mono h1)
  have k3 := k2.trans (hb3.mono k2.size)
  have k4 := k3.trans (hb4.mono k3.size)
  exact ⟨rfl, k4.trans (hb5.mono k4.size)⟩
end Go.Proofs.Ytcnpppkndcgmpaa.W
