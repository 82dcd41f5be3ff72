/-
  Contracts of the reference of layer 2 (drayageref02), and of the law's own 'told'.
-/
import Derived.Test.YtncedpjgmoncpaaOrders
import Derived.Deep.QuietTactic
import Derived.BigQuiet
import Derived.StillTailTactics
namespace Go.Proofs.Ytncedpjgmoncpaa.W
set_option linter.unusedVariables false
set_option linter.unusedSimpArgs false
open Go.ChangeShapes Go.WideShapes Go.ChangeAt Go.RowKit

theorem rfits (a b : V) (w : World) :
    Calls Try.prog 16 #[(.agg #[.int .i64 a.cpu, .int .i64 a.mem, .int .i64 a.gpu, .int .i64 a.lic]), (.agg #[.int .i64 b.cpu, .int .i64 b.mem, .int .i64 b.gpu, .int .i64 b.lic])] w fun e w' => e = .returned (.bool (fitsB a b)) ∧ Below w.heap.size w w' := by
  by_cases h : V.Le a b
  · rw [fits_yes h]
    obtain ⟨h0, h1, h2, h3⟩ := h
    go_enter Try.func16, Try.ntmps16
    go_wp2
    go_ret
    exact ⟨rfl, (by repeat' (first | exact Below.refl _ _ | assumption | exact And.left (by assumption) | refine Below.drew ?_ | refine below_drewN ?_ _ | refine Below.setCell ?_ (by first | (simp; done) | (simp; omega) | omega) _ | refine Below.alloc ?_ (by first | (simp; done) | (simp; omega) | omega) _ | refine after (by assumption) (by first | (simp; done) | (simp; omega) | omega) ?_))⟩
  · rw [fits_no h]
    by_cases h0 : a.cpu ≤ b.cpu
    · by_cases h1 : a.mem ≤ b.mem
      · by_cases h2 : a.gpu ≤ b.gpu
        · have h3 : ¬ a.lic ≤ b.lic := fun x => h ⟨h0, h1, h2, x⟩
          clear h
          go_enter Try.func16, Try.ntmps16
          go_wp2
          go_ret
          exact ⟨rfl, (by repeat' (first | exact Below.refl _ _ | assumption | exact And.left (by assumption) | refine Below.drew ?_ | refine below_drewN ?_ _ | refine Below.setCell ?_ (by first | (simp; done) | (simp; omega) | omega) _ | refine Below.alloc ?_ (by first | (simp; done) | (simp; omega) | omega) _ | refine after (by assumption) (by first | (simp; done) | (simp; omega) | omega) ?_))⟩
        · clear h
          go_enter Try.func16, Try.ntmps16
          go_wp2
          go_ret
          exact ⟨rfl, (by repeat' (first | exact Below.refl _ _ | assumption | exact And.left (by assumption) | refine Below.drew ?_ | refine below_drewN ?_ _ | refine Below.setCell ?_ (by first | (simp; done) | (simp; omega) | omega) _ | refine Below.alloc ?_ (by first | (simp; done) | (simp; omega) | omega) _ | refine after (by assumption) (by first | (simp; done) | (simp; omega) | omega) ?_))⟩
      · clear h
        go_enter Try.func16, Try.ntmps16
        go_wp2
        go_ret
        exact ⟨rfl, (by repeat' (first | exact Below.refl _ _ | assumption | exact And.left (by assumption) | refine Below.drew ?_ | refine below_drewN ?_ _ | refine Below.setCell ?_ (by first | (simp; done) | (simp; omega) | omega) _ | refine Below.alloc ?_ (by first | (simp; done) | (simp; omega) | omega) _ | refine after (by assumption) (by first | (simp; done) | (simp; omega) | omega) ?_))⟩
    · clear h
      go_enter Try.func16, Try.ntmps16
      go_wp2
      go_ret
      exact ⟨rfl, (by repeat' (first | exact Below.refl _ _ | assumption | exact And.left (by assumption) | refine Below.drew ?_ | refine below_drewN ?_ _ | refine Below.setCell ?_ (by first | (simp; done) | (simp; omega) | omega) _ | refine Below.alloc ?_ (by first | (simp; done) | (simp; omega) | omega) _ | refine after (by assumption) (by first | (simp; done) | (simp; omega) | omega) ?_))⟩

def in20 (n : Int) : Bool := decide (0 ≤ n ∧ n ≤ 1048576)
theorem rright1 (n : Int) (w : World) :
    Calls Try.prog 22 #[.int .i64 n] w fun e w' => e = .returned (.bool (in20 n)) ∧ w = w' := by
  by_cases h0 : 0 ≤ n
  · by_cases h1 : n ≤ 1048576
    · rw [show in20 n = true from decide_eq_true ⟨h0, h1⟩]
      go_enter Try.func22, Try.ntmps22
      go_wp2
      go_ret
      exact ⟨rfl, rfl⟩
    · rw [show in20 n = false from decide_eq_false (fun x => h1 x.2)]
      go_enter Try.func22, Try.ntmps22
      go_wp2
      go_ret
      exact ⟨rfl, rfl⟩
  · rw [show in20 n = false from decide_eq_false (fun x => h0 x.1)]
    go_enter Try.func22, Try.ntmps22
    go_wp2
    go_ret
    exact ⟨rfl, rfl⟩

theorem right_four (a : V) : rightB a = (in20 a.cpu && (in20 a.mem && (in20 a.gpu && in20 a.lic))) := by
  rw [Bool.eq_iff_iff]
  unfold rightB
  rw [decide_eq_true_iff]
  simp [in20, V.Ok]
theorem rright (a : V) (w : World) :
    Calls Try.prog 13 #[(.agg #[.int .i64 a.cpu, .int .i64 a.mem, .int .i64 a.gpu, .int .i64 a.lic])] w fun e w' => e = .returned (.bool (rightB a)) ∧ Below w.heap.size w w' := by
  rw [right_four]
  have H0 := Lib.hid (fun w => rright1 a.cpu w)
  have H1 := Lib.hid (fun w => rright1 a.mem w)
  have H2 := Lib.hid (fun w => rright1 a.gpu w)
  have H3 := Lib.hid (fun w => rright1 a.lic w)
  cases h0 : in20 a.cpu <;> rw [h0] at H0 <;> clear h0
  · go_enter Try.func13, Try.ntmps13
    go_wp2_with fail
    refine (H0.out _).mono ?_; rintro e w' ⟨rfl, rfl⟩
    go_wp2
    go_ret
    exact ⟨by simp, (by repeat' (first | exact Below.refl _ _ | assumption | exact And.left (by assumption) | refine Below.drew ?_ | refine below_drewN ?_ _ | refine Below.setCell ?_ (by first | (simp; done) | (simp; omega) | omega) _ | refine Below.alloc ?_ (by first | (simp; done) | (simp; omega) | omega) _ | refine after (by assumption) (by first | (simp; done) | (simp; omega) | omega) ?_))⟩
  · cases h1 : in20 a.mem <;> rw [h1] at H1 <;> clear h1
    · go_enter Try.func13, Try.ntmps13
      go_wp2_with fail
      refine (H0.out _).mono ?_; rintro e w' ⟨rfl, rfl⟩
      go_wp2_with fail
      refine (H1.out _).mono ?_; rintro e w' ⟨rfl, rfl⟩
      go_wp2
      go_ret
      exact ⟨by simp, (by repeat' (first | exact Below.refl _ _ | assumption | exact And.left (by assumption) | refine Below.drew ?_ | refine below_drewN ?_ _ | refine Below.setCell ?_ (by first | (simp; done) | (simp; omega) | omega) _ | refine Below.alloc ?_ (by first | (simp; done) | (simp; omega) | omega) _ | refine after (by assumption) (by first | (simp; done) | (simp; omega) | omega) ?_))⟩
    · cases h2 : in20 a.gpu <;> rw [h2] at H2 <;> clear h2
      · go_enter Try.func13, Try.ntmps13
        go_wp2_with fail
        refine (H0.out _).mono ?_; rintro e w' ⟨rfl, rfl⟩
        go_wp2_with fail
        refine (H1.out _).mono ?_; rintro e w' ⟨rfl, rfl⟩
        go_wp2_with fail
        refine (H2.out _).mono ?_; rintro e w' ⟨rfl, rfl⟩
        go_wp2
        go_ret
        exact ⟨by simp, (by repeat' (first | exact Below.refl _ _ | assumption | exact And.left (by assumption) | refine Below.drew ?_ | refine below_drewN ?_ _ | refine Below.setCell ?_ (by first | (simp; done) | (simp; omega) | omega) _ | refine Below.alloc ?_ (by first | (simp; done) | (simp; omega) | omega) _ | refine after (by assumption) (by first | (simp; done) | (simp; omega) | omega) ?_))⟩
      · go_enter Try.func13, Try.ntmps13
        go_wp2_with fail
        refine (H0.out _).mono ?_; rintro e w' ⟨rfl, rfl⟩
        go_wp2_with fail
        refine (H1.out _).mono ?_; rintro e w' ⟨rfl, rfl⟩
        go_wp2_with fail
        refine (H2.out _).mono ?_; rintro e w' ⟨rfl, rfl⟩
        go_wp2_with fail
        refine (H3.out _).mono ?_; rintro e w' ⟨rfl, rfl⟩
        go_wp2
        go_ret
        exact ⟨by simp, (by repeat' (first | exact Below.refl _ _ | assumption | exact And.left (by assumption) | refine Below.drew ?_ | refine below_drewN ?_ _ | refine Below.setCell ?_ (by first | (simp; done) | (simp; omega) | omega) _ | refine Below.alloc ?_ (by first | (simp; done) | (simp; omega) | omega) _ | refine after (by assumption) (by first | (simp; done) | (simp; omega) | omega) ?_))⟩

theorem radd (a b : V) (w : World) (h : (a.plus b).in64) :
    Calls Try.prog 24 #[(.agg #[.int .i64 a.cpu, .int .i64 a.mem, .int .i64 a.gpu, .int .i64 a.lic]), (.agg #[.int .i64 b.cpu, .int .i64 b.mem, .int .i64 b.gpu, .int .i64 b.lic])] w fun e w' => e = .returned (.agg #[.int .i64 (a.plus b).cpu, .int .i64 (a.plus b).mem, .int .i64 (a.plus b).gpu, .int .i64 (a.plus b).lic]) ∧ Below w.heap.size w w' := by
  obtain ⟨⟨l0, l1⟩, ⟨l2, l3⟩, ⟨l4, l5⟩, l6, l7⟩ := h
  simp only [V.plus] at l0 l1 l2 l3 l4 l5 l6 l7
  go_enter Try.func24, Try.ntmps24
  go_wp2
  exact bodyPost_ret (v := (.agg #[.int .i64 (a.plus b).cpu, .int .i64 (a.plus b).mem, .int .i64 (a.plus b).gpu, .int .i64 (a.plus b).lic])) (by simp [results, Try.results24, go_sem, V.plus]) rfl ⟨rfl, (by repeat' (first | exact Below.refl _ _ | assumption | exact And.left (by assumption) | refine Below.drew ?_ | refine below_drewN ?_ _ | refine Below.setCell ?_ (by first | (simp; done) | (simp; omega) | omega) _ | refine Below.alloc ?_ (by first | (simp; done) | (simp; omega) | omega) _ | refine after (by assumption) (by first | (simp; done) | (simp; omega) | omega) ?_))⟩

theorem rsub (a b : V) (w : World) (h : (a.less b).in64) :
    Calls Try.prog 19 #[(.agg #[.int .i64 a.cpu, .int .i64 a.mem, .int .i64 a.gpu, .int .i64 a.lic]), (.agg #[.int .i64 b.cpu, .int .i64 b.mem, .int .i64 b.gpu, .int .i64 b.lic])] w fun e w' => e = .returned (.agg #[.int .i64 (a.less b).cpu, .int .i64 (a.less b).mem, .int .i64 (a.less b).gpu, .int .i64 (a.less b).lic]) ∧ Below w.heap.size w w' := by
  obtain ⟨⟨l0, l1⟩, ⟨l2, l3⟩, ⟨l4, l5⟩, l6, l7⟩ := h
  simp only [V.less] at l0 l1 l2 l3 l4 l5 l6 l7
  go_enter Try.func19, Try.ntmps19
  go_wp2
  exact bodyPost_ret (v := (.agg #[.int .i64 (a.less b).cpu, .int .i64 (a.less b).mem, .int .i64 (a.less b).gpu, .int .i64 (a.less b).lic])) (by simp [results, Try.results19, go_sem, V.less]) rfl ⟨rfl, (by repeat' (first | exact Below.refl _ _ | assumption | exact And.left (by assumption) | refine Below.drew ?_ | refine below_drewN ?_ _ | refine Below.setCell ?_ (by first | (simp; done) | (simp; omega) | omega) _ | refine Below.alloc ?_ (by first | (simp; done) | (simp; omega) | omega) _ | refine after (by assumption) (by first | (simp; done) | (simp; omega) | omega) ?_))⟩
