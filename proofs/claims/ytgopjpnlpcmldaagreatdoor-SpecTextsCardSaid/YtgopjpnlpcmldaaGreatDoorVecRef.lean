/-
  Contracts of the reference of layer 2 (drayageref02), and of the law's own 'told'.
-/
import Derived.Test.YtgopjpnlpcmldaaGreatDoorOrders
import Derived.Deep.QuietTactic
import Derived.BigQuiet
import Derived.StillTailTactics
namespace Go.Proofs.YtgopjpnlpcmldaaGreatDoor.W
set_option linter.unusedVariables false
set_option linter.unusedSimpArgs false
open Go.ChangeShapes Go.WideShapes Go.ChangeAt Go.RowKit

def in20 (n : Int) : Bool := decide (0 ≤ n ∧ n ≤ 1048576)
theorem rright1 (n : Int) (w : World) :
    Calls Tryz.prog 100 #[.int .i64 n] w fun e w' => e = .returned (.bool (in20 n)) ∧ w = w' := by
  by_cases h0 : 0 ≤ n
  · by_cases h1 : n ≤ 1048576
    · rw [show in20 n = true from decide_eq_true ⟨h0, h1⟩]
      go_enter Tryz.func100, Tryz.ntmps100
      go_wp2
      go_ret
      exact ⟨rfl, rfl⟩
    · rw [show in20 n = false from decide_eq_false (fun x => h1 x.2)]
      go_enter Tryz.func100, Tryz.ntmps100
      go_wp2
      go_ret
      exact ⟨rfl, rfl⟩
  · rw [show in20 n = false from decide_eq_false (fun x => h0 x.1)]
    go_enter Tryz.func100, Tryz.ntmps100
    go_wp2
    go_ret
    exact ⟨rfl, rfl⟩

theorem right_four (a : V) : rightB a = (in20 a.cpu && (in20 a.mem && (in20 a.gpu && in20 a.lic))) := by
  rw [Bool.eq_iff_iff]
  unfold rightB
  rw [decide_eq_true_iff]
  simp [in20, V.Ok]
theorem rright (a : V) (w : World) :
    Calls Tryz.prog 84 #[(.agg #[.int .i64 a.cpu, .int .i64 a.mem, .int .i64 a.gpu, .int .i64 a.lic])] w fun e w' => e = .returned (.bool (rightB a)) ∧ Below w.heap.size w w' := by
  rw [right_four]
  have H0 := Lib.hid (fun w => rright1 a.cpu w)
  have H1 := Lib.hid (fun w => rright1 a.mem w)
  have H2 := Lib.hid (fun w => rright1 a.gpu w)
  have H3 := Lib.hid (fun w => rright1 a.lic w)
  cases h0 : in20 a.cpu <;> rw [h0] at H0 <;> clear h0
  · go_enter Tryz.func84, Tryz.ntmps84
    go_wp2_with fail
    refine (H0.out _).mono ?_; rintro e w' ⟨rfl, rfl⟩
    go_wp2
    go_ret
    exact ⟨by simp, (by repeat' (first | exact Below.refl _ _ | assumption | exact And.left (by assumption) | refine Below.drew ?_ | refine below_drewN ?_ _ | refine Below.setCell ?_ (by first | (simp; done) | (simp; omega) | omega) _ | refine Below.alloc ?_ (by first | (simp; done) | (simp; omega) | omega) _ | refine after (by assumption) (by first | (simp; done) | (simp; omega) | omega) ?_))⟩
  · cases h1 : in20 a.mem <;> rw [h1] at H1 <;> clear h1
    · go_enter Tryz.func84, Tryz.ntmps84
      go_wp2_with fail
      refine (H0.out _).mono ?_; rintro e w' ⟨rfl, rfl⟩
      go_wp2_with fail
      refine (H1.out _).mono ?_; rintro e w' ⟨rfl, rfl⟩
      go_wp2
      go_ret
      exact ⟨by simp, (by repeat' (first | exact Below.refl _ _ | assumption | exact And.left (by assumption) | refine Below.drew ?_ | refine below_drewN ?_ _ | refine Below.setCell ?_ (by first | (simp; done) | (simp; omega) | omega) _ | refine Below.alloc ?_ (by first | (simp; done) | (simp; omega) | omega) _ | refine after (by assumption) (by first | (simp; done) | (simp; omega) | omega) ?_))⟩
    · cases h2 : in20 a.gpu <;> rw [h2] at H2 <;> clear h2
      · go_enter Tryz.func84, Tryz.ntmps84
        go_wp2_with fail
        refine (H0.out _).mono ?_; rintro e w' ⟨rfl, rfl⟩
        go_wp2_with fail
        refine (H1.out _).mono ?_; rintro e w' ⟨rfl, rfl⟩
        go_wp2_with fail
        refine (H2.out _).mono ?_; rintro e w' ⟨rfl, rfl⟩
        go_wp2
        go_ret
        exact ⟨by simp, (by repeat' (first | exact Below.refl _ _ | assumption | exact And.left (by assumption) | refine Below.drew ?_ | refine below_drewN ?_ _ | refine Below.setCell ?_ (by first | (simp; done) | (simp; omega) | omega) _ | refine Below.alloc ?_ (by first | (simp; done) | (simp; omega) | omega) _ | refine after (by assumption) (by first | (simp; done) | (simp; omega) | omega) ?_))⟩
      · go_enter Tryz.func84, Tryz.ntmps84
        go_wp2_with fail
        refine (H0.out _).mono ?_; rintro e w' ⟨rfl, rfl⟩
        go_wp2_with fail
        refine (H1.out _).mono ?_; rintro e w' ⟨rfl, rfl⟩
        go_wp2_with fail
        refine (H2.out _).mono ?_; rintro e w' ⟨rfl, rfl⟩
        go_wp2_with fail
        refine (H3.out _).mono ?_; rintro e w' ⟨rfl, rfl⟩
        go_wp2
        go_ret
        exact ⟨by simp, (by repeat' (first | exact Below.refl _ _ | assumption | exact And.left (by assumption) | refine Below.drew ?_ | refine below_drewN ?_ _ | refine Below.setCell ?_ (by first | (simp; done) | (simp; omega) | omega) _ | refine Below.alloc ?_ (by first | (simp; done) | (simp; omega) | omega) _ | refine after (by assumption) (by first | (simp; done) | (simp; omega) | omega) ?_))⟩
