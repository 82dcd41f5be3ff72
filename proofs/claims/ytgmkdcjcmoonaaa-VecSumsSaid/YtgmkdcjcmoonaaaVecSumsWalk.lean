/-
  The walk of VecSums.
-/
import Derived.Test.YtgmkdcjcmoonaaaLaw02
import Derived.Test.YtgmkdcjcmoonaaaVecSub
import Derived.Test.YtgmkdcjcmoonaaaVecRef
import Derived.Test.YtgmkdcjcmoonaaaFrameV
import Derived.Lib.QuietBelow
namespace Go.Proofs.Ytgmkdcjcmoonaaa.W
set_option linter.unusedVariables false
set_option linter.unusedSimpArgs false
open Go.ChangeShapes Go.WideShapes Go.ChangeAt Go.RowKit

theorem Small.in64 {a : V} (h : Small a) : a.in64 := by
  obtain ⟨h0, h1, h2, h3⟩ := h
  unfold V.in64; omega

/-- a contract that ends in 'Below', in a world of the class of a region that reads -/
theorem quiet_below {P : Program} {f : FuncId} {args : Array Value} {w : World} {d : Nat} {os : Array Obj} {v : Value}
    (h : ∀ w', Calls P f args w' fun e w'' => e = .returned v ∧ Below w'.heap.size w' w'') : Calls P f args (Go.Sort.grow (redrawn w d) os) fun e w'' => e = .returned v ∧ ∃ p : Regrown, w'' = Go.Sort.grow (redrawn w p.d) p.os :=
  Calls.regrown_of (h _)

set_option maxHeartbeats 4000000 in
theorem sums_a (a b : V) (w : World) (h0 : ¬ a.Ok) :
    Calls Try.prog 3 #[(.agg #[.int .i64 a.cpu, .int .i64 a.mem, .int .i64 a.gpu, .int .i64 a.lic]), (.agg #[.int .i64 b.cpu, .int .i64 b.mem, .int .i64 b.gpu, .int .i64 b.lic])] w fun e w' => e = .returned (.bool true) ∧ Below w.heap.size w w' := by
  have S := Lib.hid (fun w => add a b w)
  have D := Lib.hid (fun w => sub a b w)
  have HA := Lib.hid (fun w => rright a w)
  have HB := Lib.hid (fun w => rright b w)
  have h : ¬ (a.Ok ∧ b.Ok) := fun x => h0 x.1
  rw [(add_arg h).1, (add_arg h).2] at S
  rw [(sub_arg h).1, (sub_arg h).2] at D
  rw [right_no h0] at HA
  clear h h0
  go_enter Try.func3, Try.ntmps3
  go_wp2_with fail
  refine (awake _).mono ?_; rintro e w1 ⟨rfl, hb1⟩; obtain ⟨hc1, hf1⟩ := bcell hb1; have hz1 := hb1.size; (try simp at hz1); have lt_w1_0 : w.heap.size < w1.heap.size := (by omega); have lt_w1_1 : w.heap.size + 1 < w1.heap.size := (by omega)
  go_wp2_with fail
  refine (S.out _).mono ?_; rintro e w2 ⟨rfl, hb2⟩; obtain ⟨hc2, hf2⟩ := bcell hb2; have hz2 := hb2.size; (try simp at hz2); have lt_w2_0 : w.heap.size < w2.heap.size := (by omega); have lt_w2_1 : w.heap.size + 1 < w2.heap.size := (by omega)
  go_wp2_with fail
  refine (D.out _).mono ?_; rintro e w3 ⟨rfl, hb3⟩; obtain ⟨hc3, hf3⟩ := bcell hb3; have hz3 := hb3.size; (try simp at hz3); have lt_w3_0 : w.heap.size < w3.heap.size := (by omega); have lt_w3_1 : w.heap.size + 1 < w3.heap.size := (by omega); have lt_3_w2 : w2.heap.size < w3.heap.size := (by omega)
  go_wp2_with fail
  generalize hw4 : w3.alloc _ = w4
  have hb4 : Below w3.heap.size w3 w4 := by rw [← hw4]; exact (by repeat' (first | exact Below.refl _ _ | assumption | exact And.left (by assumption) | refine Below.drew ?_ | refine below_drewN ?_ _ | refine Below.setCell ?_ (by first | (simp; done) | (simp; omega) | omega) _ | refine Below.alloc ?_ (by first | (simp; done) | (simp; omega) | omega) _ | refine after (by assumption) (by first | (simp; done) | (simp; omega) | omega) ?_))
  have dd0 : w4.cell? ⟨w3.heap.size, 0, none⟩ = some (.int .i64 V.zero.cpu) := by rw [← hw4]; simp [go_sem]
  have dd1 : w4.cell? ⟨w3.heap.size, 1, none⟩ = some (.int .i64 V.zero.mem) := by rw [← hw4]; simp [go_sem]
  have dd2 : w4.cell? ⟨w3.heap.size, 2, none⟩ = some (.int .i64 V.zero.gpu) := by rw [← hw4]; simp [go_sem]
  have dd3 : w4.cell? ⟨w3.heap.size, 3, none⟩ = some (.int .i64 V.zero.lic) := by rw [← hw4]; simp [go_sem]
  have hz4 : w3.heap.size + 1 ≤ w4.heap.size := by rw [← hw4]; simp
  clear hw4
  have ga0 := fun d os => cell_regrown (w := w4) (a := ⟨w.heap.size, 0, none⟩) (v := .int .i64 a.cpu) (by repeat' (first | assumption | (simp [go_sem]; done) | refine carry (by assumption) ?_ | refine carry_alloc ?_ _)) d os
  have ga1 := fun d os => cell_regrown (w := w4) (a := ⟨w.heap.size, 1, none⟩) (v := .int .i64 a.mem) (by repeat' (first | assumption | (simp [go_sem]; done) | refine carry (by assumption) ?_ | refine carry_alloc ?_ _)) d os
  have ga2 := fun d os => cell_regrown (w := w4) (a := ⟨w.heap.size, 2, none⟩) (v := .int .i64 a.gpu) (by repeat' (first | assumption | (simp [go_sem]; done) | refine carry (by assumption) ?_ | refine carry_alloc ?_ _)) d os
  have ga3 := fun d os => cell_regrown (w := w4) (a := ⟨w.heap.size, 3, none⟩) (v := .int .i64 a.lic) (by repeat' (first | assumption | (simp [go_sem]; done) | refine carry (by assumption) ?_ | refine carry_alloc ?_ _)) d os
  have gb0 := fun d os => cell_regrown (w := w4) (a := ⟨w.heap.size + 1, 0, none⟩) (v := .int .i64 b.cpu) (by repeat' (first | assumption | (simp [go_sem]; done) | refine carry (by assumption) ?_ | refine carry_alloc ?_ _)) d os
  have gb1 := fun d os => cell_regrown (w := w4) (a := ⟨w.heap.size + 1, 1, none⟩) (v := .int .i64 b.mem) (by repeat' (first | assumption | (simp [go_sem]; done) | refine carry (by assumption) ?_ | refine carry_alloc ?_ _)) d os
  have gb2 := fun d os => cell_regrown (w := w4) (a := ⟨w.heap.size + 1, 2, none⟩) (v := .int .i64 b.gpu) (by repeat' (first | assumption | (simp [go_sem]; done) | refine carry (by assumption) ?_ | refine carry_alloc ?_ _)) d os
  have gb3 := fun d os => cell_regrown (w := w4) (a := ⟨w.heap.size + 1, 3, none⟩) (v := .int .i64 b.lic) (by repeat' (first | assumption | (simp [go_sem]; done) | refine carry (by assumption) ?_ | refine carry_alloc ?_ _)) d os
  refine wp_region_quiet_below (by kernel_rfl) (by kernel_rfl) ?_
  repeat (quiet_step (first | (with_reducible exact quiet_below (right a)) | (with_reducible exact quiet_below (rright a)) | (with_reducible exact quiet_below (fits a b)) | (with_reducible exact quiet_below (rfits a b)) | (with_reducible exact quiet_below (least a b)) | (with_reducible exact quiet_below (rleast a b))))
  refine wpQuiet_nil ?_
  intro _ hw'
  obtain ⟨⟨dq, osq⟩, rfl⟩ := hw'
  have hb5 := below_regrown w4 dq osq
  clear ga0 ga1 ga2 ga3 gb0 gb1 gb2 gb3
  generalize Go.Sort.grow (redrawn w4 dq) osq = w5 at hb5 ⊢
  obtain ⟨hc4, hf4⟩ := bcell hb4
  obtain ⟨hc5, hf5⟩ := bcell hb5
  have hz5 := hb5.size
  have lt_w4_0 : w.heap.size < w4.heap.size := (by omega); have lt_w4_1 : w.heap.size + 1 < w4.heap.size := (by omega); have lt_w5_0 : w.heap.size < w5.heap.size := (by omega); have lt_w5_1 : w.heap.size + 1 < w5.heap.size := (by omega)
  have lt_4_2 : w2.heap.size < w4.heap.size := (by omega)
  have lt_4_3 : w3.heap.size < w4.heap.size := (by omega)
  have lt_5_2 : w2.heap.size < w5.heap.size := (by omega)
  have lt_5_3 : w3.heap.size < w5.heap.size := (by omega)
  go_wp2_with fail
  refine (HA.out _).mono ?_; rintro e w6 ⟨rfl, hb6⟩; obtain ⟨hc6, hf6⟩ := bcell hb6; have hz6 := hb6.size; (try simp at hz6); have lt_w6_0 : w.heap.size < w6.heap.size := (by omega); have lt_w6_1 : w.heap.size + 1 < w6.heap.size := (by omega); have lt_6_w2 : w2.heap.size < w6.heap.size := (by omega); have lt_6_w3 : w3.heap.size < w6.heap.size := (by omega)
  go_wp2
  go_ret
  exact ⟨by simp [V.zero], (by repeat' (first | exact Below.refl _ _ | assumption | exact And.left (by assumption) | refine Below.drew ?_ | refine below_drewN ?_ _ | refine Below.setCell ?_ (by first | (simp; done) | (simp; omega) | omega) _ | refine Below.alloc ?_ (by first | (simp; done) | (simp; omega) | omega) _ | refine after (by assumption) (by first | (simp; done) | (simp; omega) | omega) ?_))⟩

set_option maxHeartbeats 4000000 in
theorem sums_b (a b : V) (w : World) (h0 : a.Ok) (h1 : ¬ b.Ok) :
    Calls Try.prog 3 #[(.agg #[.int .i64 a.cpu, .int .i64 a.mem, .int .i64 a.gpu, .int .i64 a.lic]), (.agg #[.int .i64 b.cpu, .int .i64 b.mem, .int .i64 b.gpu, .int .i64 b.lic])] w fun e w' => e = .returned (.bool true) ∧ Below w.heap.size w w' := by
  have S := Lib.hid (fun w => add a b w)
  have D := Lib.hid (fun w => sub a b w)
  have HA := Lib.hid (fun w => rright a w)
  have HB := Lib.hid (fun w => rright b w)
  have h : ¬ (a.Ok ∧ b.Ok) := fun x => h1 x.2
  rw [(add_arg h).1, (add_arg h).2] at S
  rw [(sub_arg h).1, (sub_arg h).2] at D
  rw [right_yes h0] at HA
  rw [right_no h1] at HB
  clear h h0 h1
  go_enter Try.func3, Try.ntmps3
  go_wp2_with fail
  refine (awake _).mono ?_; rintro e w1 ⟨rfl, hb1⟩; obtain ⟨hc1, hf1⟩ := bcell hb1; have hz1 := hb1.size; (try simp at hz1); have lt_w1_0 : w.heap.size < w1.heap.size := (by omega); have lt_w1_1 : w.heap.size + 1 < w1.heap.size := (by omega)
  go_wp2_with fail
  refine (S.out _).mono ?_; rintro e w2 ⟨rfl, hb2⟩; obtain ⟨hc2, hf2⟩ := bcell hb2; have hz2 := hb2.size; (try simp at hz2); have lt_w2_0 : w.heap.size < w2.heap.size := (by omega); have lt_w2_1 : w.heap.size + 1 < w2.heap.size := (by omega)
  go_wp2_with fail
  refine (D.out _).mono ?_; rintro e w3 ⟨rfl, hb3⟩; obtain ⟨hc3, hf3⟩ := bcell hb3; have hz3 := hb3.size; (try simp at hz3); have lt_w3_0 : w.heap.size < w3.heap.size := (by omega); have lt_w3_1 : w.heap.size + 1 < w3.heap.size := (by omega); have lt_3_w2 : w2.heap.size < w3.heap.size := (by omega)
  go_wp2_with fail
  generalize hw4 : w3.alloc _ = w4
  have hb4 : Below w3.heap.size w3 w4 := by rw [← hw4]; exact (by repeat' (first | exact Below.refl _ _ | assumption | exact And.left (by assumption) | refine Below.drew ?_ | refine below_drewN ?_ _ | refine Below.setCell ?_ (by first | (simp; done) | (simp; omega) | omega) _ | refine Below.alloc ?_ (by first | (simp; done) | (simp; omega) | omega) _ | refine after (by assumption) (by first | (simp; done) | (simp; omega) | omega) ?_))
  have dd0 : w4.cell? ⟨w3.heap.size, 0, none⟩ = some (.int .i64 V.zero.cpu) := by rw [← hw4]; simp [go_sem]
  have dd1 : w4.cell? ⟨w3.heap.size, 1, none⟩ = some (.int .i64 V.zero.mem) := by rw [← hw4]; simp [go_sem]
  have dd2 : w4.cell? ⟨w3.heap.size, 2, none⟩ = some (.int .i64 V.zero.gpu) := by rw [← hw4]; simp [go_sem]
  have dd3 : w4.cell? ⟨w3.heap.size, 3, none⟩ = some (.int .i64 V.zero.lic) := by rw [← hw4]; simp [go_sem]
  have hz4 : w3.heap.size + 1 ≤ w4.heap.size := by rw [← hw4]; simp
  clear hw4
  have ga0 := fun d os => cell_regrown (w := w4) (a := ⟨w.heap.size, 0, none⟩) (v := .int .i64 a.cpu) (by repeat' (first | assumption | (simp [go_sem]; done) | refine carry (by assumption) ?_ | refine carry_alloc ?_ _)) d os
  have ga1 := fun d os => cell_regrown (w := w4) (a := ⟨w.heap.size, 1, none⟩) (v := .int .i64 a.mem) (by repeat' (first | assumption | (simp [go_sem]; done) | refine carry (by assumption) ?_ | refine carry_alloc ?_ _)) d os
  have ga2 := fun d os => cell_regrown (w := w4) (a := ⟨w.heap.size, 2, none⟩) (v := .int .i64 a.gpu) (by repeat' (first | assumption | (simp [go_sem]; done) | refine carry (by assumption) ?_ | refine carry_alloc ?_ _)) d os
  have ga3 := fun d os => cell_regrown (w := w4) (a := ⟨w.heap.size, 3, none⟩) (v := .int .i64 a.lic) (by repeat' (first | assumption | (simp [go_sem]; done) | refine carry (by assumption) ?_ | refine carry_alloc ?_ _)) d os
  have gb0 := fun d os => cell_regrown (w := w4) (a := ⟨w.heap.size + 1, 0, none⟩) (v := .int .i64 b.cpu) (by repeat' (first | assumption | (simp [go_sem]; done) | refine carry (by assumption) ?_ | refine carry_alloc ?_ _)) d os
  have gb1 := fun d os => cell_regrown (w := w4) (a := ⟨w.heap.size + 1, 1, none⟩) (v := .int .i64 b.mem) (by repeat' (first | assumption | (simp [go_sem]; done) | refine carry (by assumption) ?_ | refine carry_alloc ?_ _)) d os
  have gb2 := fun d os => cell_regrown (w := w4) (a := ⟨w.heap.size + 1, 2, none⟩) (v := .int .i64 b.gpu) (by repeat' (first | assumption | (simp [go_sem]; done) | refine carry (by assumption) ?_ | refine carry_alloc ?_ _)) d os
  have gb3 := fun d os => cell_regrown (w := w4) (a := ⟨w.heap.size + 1, 3, none⟩) (v := .int .i64 b.lic) (by repeat' (first | assumption | (simp [go_sem]; done) | refine carry (by assumption) ?_ | refine carry_alloc ?_ _)) d os
  refine wp_region_quiet_below (by kernel_rfl) (by kernel_rfl) ?_
  repeat (quiet_step (first | (with_reducible exact quiet_below (right a)) | (with_reducible exact quiet_below (rright a)) | (with_reducible exact quiet_below (fits a b)) | (with_reducible exact quiet_below (rfits a b)) | (with_reducible exact quiet_below (least a b)) | (with_reducible exact quiet_below (rleast a b))))
  refine wpQuiet_nil ?_
  intro _ hw'
  obtain ⟨⟨dq, osq⟩, rfl⟩ := hw'
  have hb5 := below_regrown w4 dq osq
  clear ga0 ga1 ga2 ga3 gb0 gb1 gb2 gb3
  generalize Go.Sort.grow (redrawn w4 dq) osq = w5 at hb5 ⊢
  obtain ⟨hc4, hf4⟩ := bcell hb4
  obtain ⟨hc5, hf5⟩ := bcell hb5
  have hz5 := hb5.size
  have lt_w4_0 : w.heap.size < w4.heap.size := (by omega); have lt_w4_1 : w.heap.size + 1 < w4.heap.size := (by omega); have lt_w5_0 : w.heap.size < w5.heap.size := (by omega); have lt_w5_1 : w.heap.size + 1 < w5.heap.size := (by omega)
  have lt_4_2 : w2.heap.size < w4.heap.size := (by omega)
  have lt_4_3 : w3.heap.size < w4.heap.size := (by omega)
  have lt_5_2 : w2.heap.size < w5.heap.size := (by omega)
  have lt_5_3 : w3.heap.size < w5.heap.size := (by omega)
  go_wp2_with fail
  refine (HA.out _).mono ?_; rintro e w6 ⟨rfl, hb6⟩; obtain ⟨hc6, hf6⟩ := bcell hb6; have hz6 := hb6.size; (try simp at hz6); have lt_w6_0 : w.heap.size < w6.heap.size := (by omega); have lt_w6_1 : w.heap.size + 1 < w6.heap.size := (by omega); have lt_6_w2 : w2.heap.size < w6.heap.size := (by omega); have lt_6_w3 : w3.heap.size < w6.heap.size := (by omega)
  go_wp2_with fail
  refine (HB.out _).mono ?_; rintro e w7 ⟨rfl, hb7⟩; obtain ⟨hc7, hf7⟩ := bcell hb7; have hz7 := hb7.size; (try simp at hz7); have lt_w7_0 : w.heap.size < w7.heap.size := (by omega); have lt_w7_1 : w.heap.size + 1 < w7.heap.size := (by omega); have lt_7_w2 : w2.heap.size < w7.heap.size := (by omega); have lt_7_w3 : w3.heap.size < w7.heap.size := (by omega)
  go_wp2
  go_ret
  exact ⟨by simp [V.zero], (by repeat' (first | exact Below.refl _ _ | assumption | exact And.left (by assumption) | refine Below.drew ?_ | refine below_drewN ?_ _ | refine Below.setCell ?_ (by first | (simp; done) | (simp; omega) | omega) _ | refine Below.alloc ?_ (by first | (simp; done) | (simp; omega) | omega) _ | refine after (by assumption) (by first | (simp; done) | (simp; omega) | omega) ?_))⟩

set_option maxHeartbeats 4000000 in
theorem sums_in (a b : V) (w : World) (h0 : a.Ok) (h1 : b.Ok) :
    Calls Try.prog 3 #[(.agg #[.int .i64 a.cpu, .int .i64 a.mem, .int .i64 a.gpu, .int .i64 a.lic]), (.agg #[.int .i64 b.cpu, .int .i64 b.mem, .int .i64 b.gpu, .int .i64 b.lic])] w fun e w' => e = .returned (.bool true) ∧ Below w.heap.size w w' := by
  have S := Lib.hid (fun w => add a b w)
  have D := Lib.hid (fun w => sub a b w)
  have HA := Lib.hid (fun w => rright a w)
  have HB := Lib.hid (fun w => rright b w)
  rw [(add_in ⟨h0, h1⟩).1, (add_in ⟨h0, h1⟩).2] at S
  rw [(sub_in ⟨h0, h1⟩).1, (sub_in ⟨h0, h1⟩).2] at D
  rw [right_yes h0] at HA
  rw [right_yes h1] at HB
  have P := Lib.hid (fun w => radd a b w (small_plus h0 h1).in64)
  have L := Lib.hid (fun w => rsub a b w (small_less h0 h1).in64)
  clear h0 h1
  go_enter Try.func3, Try.ntmps3
  go_wp2_with fail
  refine (awake _).mono ?_; rintro e w1 ⟨rfl, hb1⟩; obtain ⟨hc1, hf1⟩ := bcell hb1; have hz1 := hb1.size; (try simp at hz1); have lt_w1_0 : w.heap.size < w1.heap.size := (by omega); have lt_w1_1 : w.heap.size + 1 < w1.heap.size := (by omega)
  go_wp2_with fail
  refine (S.out _).mono ?_; rintro e w2 ⟨rfl, hb2⟩; obtain ⟨hc2, hf2⟩ := bcell hb2; have hz2 := hb2.size; (try simp at hz2); have lt_w2_0 : w.heap.size < w2.heap.size := (by omega); have lt_w2_1 : w.heap.size + 1 < w2.heap.size := (by omega)
  go_wp2_with fail
  refine (D.out _).mono ?_; rintro e w3 ⟨rfl, hb3⟩; obtain ⟨hc3, hf3⟩ := bcell hb3; have hz3 := hb3.size; (try simp at hz3); have lt_w3_0 : w.heap.size < w3.heap.size := (by omega); have lt_w3_1 : w.heap.size + 1 < w3.heap.size := (by omega); have lt_3_w2 : w2.heap.size < w3.heap.size := (by omega)
  go_wp2_with fail
  generalize hw4 : w3.alloc _ = w4
  have hb4 : Below w3.heap.size w3 w4 := by rw [← hw4]; exact (by repeat' (first | exact Below.refl _ _ | assumption | exact And.left (by assumption) | refine Below.drew ?_ | refine below_drewN ?_ _ | refine Below.setCell ?_ (by first | (simp; done) | (simp; omega) | omega) _ | refine Below.alloc ?_ (by first | (simp; done) | (simp; omega) | omega) _ | refine after (by assumption) (by first | (simp; done) | (simp; omega) | omega) ?_))
  have dd0 : w4.cell? ⟨w3.heap.size, 0, none⟩ = some (.int .i64 (outR (a.less b)).cpu) := by rw [← hw4]; simp [go_sem]
  have dd1 : w4.cell? ⟨w3.heap.size, 1, none⟩ = some (.int .i64 (outR (a.less b)).mem) := by rw [← hw4]; simp [go_sem]
  have dd2 : w4.cell? ⟨w3.heap.size, 2, none⟩ = some (.int .i64 (outR (a.less b)).gpu) := by rw [← hw4]; simp [go_sem]
  have dd3 : w4.cell? ⟨w3.heap.size, 3, none⟩ = some (.int .i64 (outR (a.less b)).lic) := by rw [← hw4]; simp [go_sem]
  have hz4 : w3.heap.size + 1 ≤ w4.heap.size := by rw [← hw4]; simp
  clear hw4
  have ga0 := fun d os => cell_regrown (w := w4) (a := ⟨w.heap.size, 0, none⟩) (v := .int .i64 a.cpu) (by repeat' (first | assumption | (simp [go_sem]; done) | refine carry (by assumption) ?_ | refine carry_alloc ?_ _)) d os
  have ga1 := fun d os => cell_regrown (w := w4) (a := ⟨w.heap.size, 1, none⟩) (v := .int .i64 a.mem) (by repeat' (first | assumption | (simp [go_sem]; done) | refine carry (by assumption) ?_ | refine carry_alloc ?_ _)) d os
  have ga2 := fun d os => cell_regrown (w := w4) (a := ⟨w.heap.size, 2, none⟩) (v := .int .i64 a.gpu) (by repeat' (first | assumption | (simp [go_sem]; done) | refine carry (by assumption) ?_ | refine carry_alloc ?_ _)) d os
  have ga3 := fun d os => cell_regrown (w := w4) (a := ⟨w.heap.size, 3, none⟩) (v := .int .i64 a.lic) (by repeat' (first | assumption | (simp [go_sem]; done) | refine carry (by assumption) ?_ | refine carry_alloc ?_ _)) d os
  have gb0 := fun d os => cell_regrown (w := w4) (a := ⟨w.heap.size + 1, 0, none⟩) (v := .int .i64 b.cpu) (by repeat' (first | assumption | (simp [go_sem]; done) | refine carry (by assumption) ?_ | refine carry_alloc ?_ _)) d os
  have gb1 := fun d os => cell_regrown (w := w4) (a := ⟨w.heap.size + 1, 1, none⟩) (v := .int .i64 b.mem) (by repeat' (first | assumption | (simp [go_sem]; done) | refine carry (by assumption) ?_ | refine carry_alloc ?_ _)) d os
  have gb2 := fun d os => cell_regrown (w := w4) (a := ⟨w.heap.size + 1, 2, none⟩) (v := .int .i64 b.gpu) (by repeat' (first | assumption | (simp [go_sem]; done) | refine carry (by assumption) ?_ | refine carry_alloc ?_ _)) d os
  have gb3 := fun d os => cell_regrown (w := w4) (a := ⟨w.heap.size + 1, 3, none⟩) (v := .int .i64 b.lic) (by repeat' (first | assumption | (simp [go_sem]; done) | refine carry (by assumption) ?_ | refine carry_alloc ?_ _)) d os
  refine wp_region_quiet_below (by kernel_rfl) (by kernel_rfl) ?_
  repeat (quiet_step (first | (with_reducible exact quiet_below (right a)) | (with_reducible exact quiet_below (rright a)) | (with_reducible exact quiet_below (fits a b)) | (with_reducible exact quiet_below (rfits a b)) | (with_reducible exact quiet_below (least a b)) | (with_reducible exact quiet_below (rleast a b))))
  refine wpQuiet_nil ?_
  intro _ hw'
  obtain ⟨⟨dq, osq⟩, rfl⟩ := hw'
  have hb5 := below_regrown w4 dq osq
  clear ga0 ga1 ga2 ga3 gb0 gb1 gb2 gb3
  generalize Go.Sort.grow (redrawn w4 dq) osq = w5 at hb5 ⊢
  obtain ⟨hc4, hf4⟩ := bcell hb4
  obtain ⟨hc5, hf5⟩ := bcell hb5
  have hz5 := hb5.size
  have lt_w4_0 : w.heap.size < w4.heap.size := (by omega); have lt_w4_1 : w.heap.size + 1 < w4.heap.size := (by omega); have lt_w5_0 : w.heap.size < w5.heap.size := (by omega); have lt_w5_1 : w.heap.size + 1 < w5.heap.size := (by omega)
  have lt_4_2 : w2.heap.size < w4.heap.size := (by omega)
  have lt_4_3 : w3.heap.size < w4.heap.size := (by omega)
  have lt_5_2 : w2.heap.size < w5.heap.size := (by omega)
  have lt_5_3 : w3.heap.size < w5.heap.size := (by omega)
  go_wp2_with fail
  refine (HA.out _).mono ?_; rintro e w6 ⟨rfl, hb6⟩; obtain ⟨hc6, hf6⟩ := bcell hb6; have hz6 := hb6.size; (try simp at hz6); have lt_w6_0 : w.heap.size < w6.heap.size := (by omega); have lt_w6_1 : w.heap.size + 1 < w6.heap.size := (by omega); have lt_6_w2 : w2.heap.size < w6.heap.size := (by omega); have lt_6_w3 : w3.heap.size < w6.heap.size := (by omega)
  go_wp2_with fail
  refine (HB.out _).mono ?_; rintro e w7 ⟨rfl, hb7⟩; obtain ⟨hc7, hf7⟩ := bcell hb7; have hz7 := hb7.size; (try simp at hz7); have lt_w7_0 : w.heap.size < w7.heap.size := (by omega); have lt_w7_1 : w.heap.size + 1 < w7.heap.size := (by omega); have lt_7_w2 : w2.heap.size < w7.heap.size := (by omega); have lt_7_w3 : w3.heap.size < w7.heap.size := (by omega)
  go_wp2_with fail
  have ga0 := fun d os => cell_regrown (w := w7) (a := ⟨w.heap.size, 0, none⟩) (v := .int .i64 a.cpu) (by repeat' (first | assumption | (simp [go_sem]; done) | refine carry (by assumption) ?_ | refine carry_alloc ?_ _)) d os
  have ga1 := fun d os => cell_regrown (w := w7) (a := ⟨w.heap.size, 1, none⟩) (v := .int .i64 a.mem) (by repeat' (first | assumption | (simp [go_sem]; done) | refine carry (by assumption) ?_ | refine carry_alloc ?_ _)) d os
  have ga2 := fun d os => cell_regrown (w := w7) (a := ⟨w.heap.size, 2, none⟩) (v := .int .i64 a.gpu) (by repeat' (first | assumption | (simp [go_sem]; done) | refine carry (by assumption) ?_ | refine carry_alloc ?_ _)) d os
  have ga3 := fun d os => cell_regrown (w := w7) (a := ⟨w.heap.size, 3, none⟩) (v := .int .i64 a.lic) (by repeat' (first | assumption | (simp [go_sem]; done) | refine carry (by assumption) ?_ | refine carry_alloc ?_ _)) d os
  have gb0 := fun d os => cell_regrown (w := w7) (a := ⟨w.heap.size + 1, 0, none⟩) (v := .int .i64 b.cpu) (by repeat' (first | assumption | (simp [go_sem]; done) | refine carry (by assumption) ?_ | refine carry_alloc ?_ _)) d os
  have gb1 := fun d os => cell_regrown (w := w7) (a := ⟨w.heap.size + 1, 1, none⟩) (v := .int .i64 b.mem) (by repeat' (first | assumption | (simp [go_sem]; done) | refine carry (by assumption) ?_ | refine carry_alloc ?_ _)) d os
  have gb2 := fun d os => cell_regrown (w := w7) (a := ⟨w.heap.size + 1, 2, none⟩) (v := .int .i64 b.gpu) (by repeat' (first | assumption | (simp [go_sem]; done) | refine carry (by assumption) ?_ | refine carry_alloc ?_ _)) d os
  have gb3 := fun d os => cell_regrown (w := w7) (a := ⟨w.heap.size + 1, 3, none⟩) (v := .int .i64 b.lic) (by repeat' (first | assumption | (simp [go_sem]; done) | refine carry (by assumption) ?_ | refine carry_alloc ?_ _)) d os
  have gs0 := fun d os => cell_regrown (w := w7) (a := ⟨w2.heap.size, 0, none⟩) (v := .int .i64 (outR (a.plus b)).cpu) (by repeat' (first | assumption | (simp [go_sem]; done) | refine carry (by assumption) ?_ | refine carry_alloc ?_ _)) d os
  have gs1 := fun d os => cell_regrown (w := w7) (a := ⟨w2.heap.size, 1, none⟩) (v := .int .i64 (outR (a.plus b)).mem) (by repeat' (first | assumption | (simp [go_sem]; done) | refine carry (by assumption) ?_ | refine carry_alloc ?_ _)) d os
  have gs2 := fun d os => cell_regrown (w := w7) (a := ⟨w2.heap.size, 2, none⟩) (v := .int .i64 (outR (a.plus b)).gpu) (by repeat' (first | assumption | (simp [go_sem]; done) | refine carry (by assumption) ?_ | refine carry_alloc ?_ _)) d os
  have gs3 := fun d os => cell_regrown (w := w7) (a := ⟨w2.heap.size, 3, none⟩) (v := .int .i64 (outR (a.plus b)).lic) (by repeat' (first | assumption | (simp [go_sem]; done) | refine carry (by assumption) ?_ | refine carry_alloc ?_ _)) d os
  have gd0 := fun d os => cell_regrown (w := w7) (a := ⟨w3.heap.size, 0, none⟩) (v := .int .i64 (outR (a.less b)).cpu) (by repeat' (first | assumption | (simp [go_sem]; done) | refine carry (by assumption) ?_ | refine carry_alloc ?_ _)) d os
  have gd1 := fun d os => cell_regrown (w := w7) (a := ⟨w3.heap.size, 1, none⟩) (v := .int .i64 (outR (a.less b)).mem) (by repeat' (first | assumption | (simp [go_sem]; done) | refine carry (by assumption) ?_ | refine carry_alloc ?_ _)) d os
  have gd2 := fun d os => cell_regrown (w := w7) (a := ⟨w3.heap.size, 2, none⟩) (v := .int .i64 (outR (a.less b)).gpu) (by repeat' (first | assumption | (simp [go_sem]; done) | refine carry (by assumption) ?_ | refine carry_alloc ?_ _)) d os
  have gd3 := fun d os => cell_regrown (w := w7) (a := ⟨w3.heap.size, 3, none⟩) (v := .int .i64 (outR (a.less b)).lic) (by repeat' (first | assumption | (simp [go_sem]; done) | refine carry (by assumption) ?_ | refine carry_alloc ?_ _)) d os
  refine wp_region_quiet_below (by kernel_rfl) (by kernel_rfl) ?_
  repeat (quiet_step (first | (with_reducible exact quiet_below P.out) | (with_reducible exact quiet_below L.out) | (with_reducible exact quiet_below (told (a.plus b))) | (with_reducible exact quiet_below (told (a.less b)))))
  refine wpQuiet_nil ?_
  intro _ hw'
  obtain ⟨⟨dq, osq⟩, rfl⟩ := hw'
  have hb8 := below_regrown w7 dq osq
  generalize Go.Sort.grow (redrawn w7 dq) osq = w8 at hb8 ⊢
  have hz8 := hb8.size
  go_wp2
  go_ret
  exact ⟨by simp, (by repeat' (first | exact Below.refl _ _ | assumption | exact And.left (by assumption) | refine Below.drew ?_ | refine below_drewN ?_ _ | refine Below.setCell ?_ (by first | (simp; done) | (simp; omega) | omega) _ | refine Below.alloc ?_ (by first | (simp; done) | (simp; omega) | omega) _ | refine after (by assumption) (by first | (simp; done) | (simp; omega) | omega) ?_))⟩

theorem vecSums_walk (v0 : Value) (v1 : Value) (w : World) (F0 : FRes v0) (F1 : FRes v1) :
    Calls Try.prog 3 #[v0, v1] w fun e w' => e = .returned (.bool true) ∧ Below w.heap.size w w' := by
  obtain ⟨a, rfl, _⟩ := F0
  obtain ⟨b, rfl, _⟩ := F1
  by_cases h0 : a.Ok
  · by_cases h1 : b.Ok
    · exact sums_in a b w h0 h1
    · exact sums_b a b w h0 h1
  · exact sums_a a b w h0
end Go.Proofs.Ytgmkdcjcmoonaaa.W
