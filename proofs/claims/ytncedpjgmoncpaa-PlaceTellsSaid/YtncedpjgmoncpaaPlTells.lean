/-
  The walk of PlaceTells.
-/
import Derived.Test.YtncedpjgmoncpaaPlAwake
import Derived.Test.YtncedpjgmoncpaaFramePl
namespace Go.Proofs.Ytncedpjgmoncpaa.W
set_option linter.unusedVariables false
set_option linter.unusedSimpArgs false
open Go.ChangeShapes Go.WideShapes Go.ChangeAt Go.RowKit

set_option maxHeartbeats 2000000 in
theorem placeTells_at (a : Option Addr) (cap : Nat) (l : List Sh) (n : Int) (w : World) (HA : ShAt w a cap l) :
    Calls Try.prog 3 #[.slice a l.length cap, .int .i64 n] w fun e w' => e = .returned (.bool true) ∧ Below w.heap.size w w' := by
  by_cases hl : 60 < l.length
  · clear HA
    go_enter Try.func3, Try.ntmps3
    go_wp2_with fail
    refine (awakePl _).mono ?_; rintro e w1 ⟨rfl, hb1⟩
    go_wp2
    go_ret
    exact ⟨rfl, (by repeat' (first | exact Below.refl _ _ | assumption | exact And.left (by assumption) | refine Below.drew ?_ | refine below_drewN ?_ _ | refine Below.setCell ?_ (by first | (simp; done) | (simp; omega) | omega) _ | refine Below.alloc ?_ (by first | (simp; done) | (simp; omega) | omega) _ | refine after (by assumption) (by first | (simp; done) | (simp; omega) | omega) ?_))⟩
  · have hl2 : l.length ≤ 60 := by omega
    have H1 := Lib.hid (fun w' h => pRight a cap l (by omega) n w' h)
    have H2 := Lib.hid (fun w' h => rShRight a cap l (by omega) n w' h)
    have H3 := Lib.hid (fun w' h => pTotal a cap l (by omega) w' h)
    have H4 := Lib.hid (fun w' h => rShTotal a cap l (by omega) w' h)
    have HR := Lib.hid HA
    clear HA
    generalize rightH l n = x at *
    generalize totalH l = y at *
    go_enter Try.func3, Try.ntmps3
    go_wp2_with fail
    refine (awakePl _).mono ?_; rintro e w1 ⟨rfl, hb1⟩
    have k1 := hb1
    go_wp2_with fail
    refine (H1.out _ (HR.out.later k1)).mono ?_; rintro e w2 ⟨rfl, hb2⟩
    have k2 := k1.trans (hb2.mono k1.size)
    go_wp2_with fail
    refine (H2.out _ (HR.out.later k2)).mono ?_; rintro e w3 ⟨rfl, hb3⟩
    have k3 := k2.trans (hb3.mono k2.size)
    go_wp2_with fail
    refine (H3.out _ (HR.out.later k3)).mono ?_; rintro e w4 ⟨rfl, hb4⟩
    have k4 := k3.trans (hb4.mono k3.size)
    go_wp2_with fail
    refine (H4.out _ (HR.out.later k4)).mono ?_; rintro e w5 ⟨rfl, hb5⟩
    have k5 := k4.trans (hb5.mono k4.size)
    go_wp2
    go_ret
    exact ⟨by simp, k5⟩
theorem placeTells_walk (v0 : Value) (v1 : Value) (w : World) (F0 : FShs w v0) (F1 : FInt .i64 v1) :
    Calls Try.prog 3 #[v0, v1] w fun e w' => e = .returned (.bool true) ∧ Below w.heap.size w w' := by
  obtain ⟨a, cap, l, rfl, HA⟩ := F0
  obtain ⟨n, rfl, _⟩ := F1
  exact placeTells_at a cap l n w HA
end Go.Proofs.Ytncedpjgmoncpaa.W
