/-
  The walk of VecBack.
-/
import Derived.Test.YtgmkdcjcmoonaaaLaw02
import Derived.Test.YtgmkdcjcmoonaaaVecSub
import Derived.Test.YtgmkdcjcmoonaaaVecRef
import Derived.Test.YtgmkdcjcmoonaaaFrameV
namespace Go.Proofs.Ytgmkdcjcmoonaaa.W
set_option linter.unusedVariables false
set_option linter.unusedSimpArgs false
open Go.ChangeShapes Go.WideShapes Go.ChangeAt Go.RowKit

theorem plus_less (a b : V) : (a.plus b).less b = a := by unfold V.plus V.less; exact V.ext' (by simp only; omega) (by simp only; omega) (by simp only; omega) (by simp only; omega)
theorem plus_comm (a b : V) : b.plus a = a.plus b := by unfold V.plus; exact V.ext' (by simp only; omega) (by simp only; omega) (by simp only; omega) (by simp only; omega)
theorem le_plus {a b : V} (h : b.Ok) : V.Le a (a.plus b) := by obtain ⟨h0, h1, h2, h3⟩ := h; unfold V.Le V.plus; simp only; omega
theorem less_ok {a b : V} (h : a.Ok) (g : b.Ok) : (a.less b).Ok ↔ V.Le b a := by
  obtain ⟨h0, h1, h2, h3⟩ := h; obtain ⟨g0, g1, g2, g3⟩ := g
  unfold V.Le V.less V.Ok; simp only; omega
/-- what a difference tells is what 'fits' tells -/
theorem sub_fits {a b : V} (h : a.Ok) (g : b.Ok) : (subE a b = 0 ∧ fitsB b a = true) ∨ (subE a b = 20 ∧ fitsB b a = false) := by
  by_cases l : V.Le b a
  · left; rw [(sub_in ⟨h, g⟩).2, (out_ok ((less_ok h g).2 l)).2]; exact ⟨rfl, fits_yes l⟩
  · right; rw [(sub_in ⟨h, g⟩).2, (out_over (fun x => l ((less_ok h g).1 x))).2]; exact ⟨rfl, fits_no l⟩

set_option maxHeartbeats 4000000 in
theorem back_arg (a b : V) (w : World) (h : ¬ (a.Ok ∧ b.Ok)) :
    Calls Try.prog 4 #[(.agg #[.int .i64 a.cpu, .int .i64 a.mem, .int .i64 a.gpu, .int .i64 a.lic]), (.agg #[.int .i64 b.cpu, .int .i64 b.mem, .int .i64 b.gpu, .int .i64 b.lic])] w fun e w' => e = .returned (.bool true) ∧ Below w.heap.size w w' := by
  have HA := Lib.hid (fun w => rright a w)
  have HB := Lib.hid (fun w => rright b w)
  by_cases h0 : a.Ok
  · have h1 : ¬ b.Ok := fun x => h ⟨h0, x⟩
    rw [right_yes h0] at HA
    rw [right_no h1] at HB
    clear h h0 h1
    go_enter Try.func4, Try.ntmps4
    go_wp2_with fail
    refine (awake _).mono ?_; rintro e w1 ⟨rfl, hb1⟩; obtain ⟨hc1, hf1⟩ := bcell hb1; have hz1 := hb1.size; (try simp at hz1); have lt_w1_0 : w.heap.size < w1.heap.size := (by omega); have lt_w1_1 : w.heap.size + 1 < w1.heap.size := (by omega)
    go_wp2_with fail
    refine (HA.out _).mono ?_; rintro e w2 ⟨rfl, hb2⟩; obtain ⟨hc2, hf2⟩ := bcell hb2; have hz2 := hb2.size; (try simp at hz2); have lt_w2_0 : w.heap.size < w2.heap.size := (by omega); have lt_w2_1 : w.heap.size + 1 < w2.heap.size := (by omega)
    go_wp2_with fail
    refine (HB.out _).mono ?_; rintro e w3 ⟨rfl, hb3⟩; obtain ⟨hc3, hf3⟩ := bcell hb3; have hz3 := hb3.size; (try simp at hz3); have lt_w3_0 : w.heap.size < w3.heap.size := (by omega); have lt_w3_1 : w.heap.size + 1 < w3.heap.size := (by omega)
    go_wp2
    go_ret
    exact ⟨by simp, (by repeat' (first | exact Below.refl _ _ | assumption | exact And.left (by assumption) | refine Below.drew ?_ | refine below_drewN ?_ _ | refine Below.setCell ?_ (by first | (simp; done) | (simp; omega) | omega) _ | refine Below.alloc ?_ (by first | (simp; done) | (simp; omega) | omega) _ | refine after (by assumption) (by first | (simp; done) | (simp; omega) | omega) ?_))⟩
  · rw [right_no h0] at HA
    clear h h0
    go_enter Try.func4, Try.ntmps4
    go_wp2_with fail
    refine (awake _).mono ?_; rintro e w1 ⟨rfl, hb1⟩; obtain ⟨hc1, hf1⟩ := bcell hb1; have hz1 := hb1.size; (try simp at hz1); have lt_w1_0 : w.heap.size < w1.heap.size := (by omega); have lt_w1_1 : w.heap.size + 1 < w1.heap.size := (by omega)
    go_wp2_with fail
    refine (HA.out _).mono ?_; rintro e w2 ⟨rfl, hb2⟩; obtain ⟨hc2, hf2⟩ := bcell hb2; have hz2 := hb2.size; (try simp at hz2); have lt_w2_0 : w.heap.size < w2.heap.size := (by omega); have lt_w2_1 : w.heap.size + 1 < w2.heap.size := (by omega)
    go_wp2
    go_ret
    exact ⟨by simp, (by repeat' (first | exact Below.refl _ _ | assumption | exact And.left (by assumption) | refine Below.drew ?_ | refine below_drewN ?_ _ | refine Below.setCell ?_ (by first | (simp; done) | (simp; omega) | omega) _ | refine Below.alloc ?_ (by first | (simp; done) | (simp; omega) | omega) _ | refine after (by assumption) (by first | (simp; done) | (simp; omega) | omega) ?_))⟩

set_option maxHeartbeats 4000000 in
theorem back_over (a b : V) (w : World) (h0 : a.Ok) (h1 : b.Ok) (h2 : ¬ (a.plus b).Ok) :
    Calls Try.prog 4 #[(.agg #[.int .i64 a.cpu, .int .i64 a.mem, .int .i64 a.gpu, .int .i64 a.lic]), (.agg #[.int .i64 b.cpu, .int .i64 b.mem, .int .i64 b.gpu, .int .i64 b.lic])] w fun e w' => e = .returned (.bool true) ∧ Below w.heap.size w w' := by
  have HA := Lib.hid (fun w => rright a w)
  have HB := Lib.hid (fun w => rright b w)
  rw [right_yes h0] at HA
  rw [right_yes h1] at HB
  have S := Lib.hid (fun w => add a b w)
  rw [(add_in ⟨h0, h1⟩).1, (add_in ⟨h0, h1⟩).2, (out_over h2).1, (out_over h2).2] at S
  have D := Lib.hid (fun w => sub a b w)
  have FT := Lib.hid (fun w => fits b a w)
  have key := sub_fits h0 h1
  clear h0 h1 h2
  rcases key with ⟨k0, k1⟩ | ⟨k0, k1⟩ <;> rw [k0] at D <;> rw [k1] at FT <;> clear k0 k1
  all_goals
    go_enter Try.func4, Try.ntmps4
    go_wp2_with fail
    refine (awake _).mono ?_; rintro e w1 ⟨rfl, hb1⟩; obtain ⟨hc1, hf1⟩ := bcell hb1; have hz1 := hb1.size; (try simp at hz1); have lt_w1_0 : w.heap.size < w1.heap.size := (by omega); have lt_w1_1 : w.heap.size + 1 < w1.heap.size := (by omega)
    go_wp2_with fail
    refine (HA.out _).mono ?_; rintro e w2 ⟨rfl, hb2⟩; obtain ⟨hc2, hf2⟩ := bcell hb2; have hz2 := hb2.size; (try simp at hz2); have lt_w2_0 : w.heap.size < w2.heap.size := (by omega); have lt_w2_1 : w.heap.size + 1 < w2.heap.size := (by omega)
    go_wp2_with fail
    refine (HB.out _).mono ?_; rintro e w3 ⟨rfl, hb3⟩; obtain ⟨hc3, hf3⟩ := bcell hb3; have hz3 := hb3.size; (try simp at hz3); have lt_w3_0 : w.heap.size < w3.heap.size := (by omega); have lt_w3_1 : w.heap.size + 1 < w3.heap.size := (by omega)
    go_wp2_with fail
    refine (S.out _).mono ?_; rintro e w4 ⟨rfl, hb4⟩; obtain ⟨hc4, hf4⟩ := bcell hb4; have hz4 := hb4.size; (try simp at hz4); have lt_w4_0 : w.heap.size < w4.heap.size := (by omega); have lt_w4_1 : w.heap.size + 1 < w4.heap.size := (by omega)
    go_wp2_with fail
    refine (D.out _).mono ?_; rintro e w5 ⟨rfl, hb5⟩; obtain ⟨hc5, hf5⟩ := bcell hb5; have hz5 := hb5.size; (try simp at hz5); have lt_w5_0 : w.heap.size < w5.heap.size := (by omega); have lt_w5_1 : w.heap.size + 1 < w5.heap.size := (by omega)
    go_wp2_with fail
    refine (FT.out _).mono ?_; rintro e w6 ⟨rfl, hb6⟩; obtain ⟨hc6, hf6⟩ := bcell hb6; have hz6 := hb6.size; (try simp at hz6); have lt_w6_0 : w.heap.size < w6.heap.size := (by omega); have lt_w6_1 : w.heap.size + 1 < w6.heap.size := (by omega)
    go_wp2
    go_ret
    exact ⟨by simp, (by repeat' (first | exact Below.refl _ _ | assumption | exact And.left (by assumption) | refine Below.drew ?_ | refine below_drewN ?_ _ | refine Below.setCell ?_ (by first | (simp; done) | (simp; omega) | omega) _ | refine Below.alloc ?_ (by first | (simp; done) | (simp; omega) | omega) _ | refine after (by assumption) (by first | (simp; done) | (simp; omega) | omega) ?_))⟩

set_option maxHeartbeats 4000000 in
theorem back_ok (a b : V) (w : World) (h0 : a.Ok) (h1 : b.Ok) (h2 : (a.plus b).Ok) :
    Calls Try.prog 4 #[(.agg #[.int .i64 a.cpu, .int .i64 a.mem, .int .i64 a.gpu, .int .i64 a.lic]), (.agg #[.int .i64 b.cpu, .int .i64 b.mem, .int .i64 b.gpu, .int .i64 b.lic])] w fun e w' => e = .returned (.bool true) ∧ Below w.heap.size w w' := by
  have HA := Lib.hid (fun w => rright a w)
  have HB := Lib.hid (fun w => rright b w)
  rw [right_yes h0] at HA
  rw [right_yes h1] at HB
  have S := Lib.hid (fun w => add a b w)
  rw [(add_in ⟨h0, h1⟩).1, (add_in ⟨h0, h1⟩).2, (out_ok h2).1, (out_ok h2).2] at S
  have T := Lib.hid (fun w => add b a w)
  rw [(add_in ⟨h1, h0⟩).1, (add_in ⟨h1, h0⟩).2, plus_comm a b, (out_ok h2).1, (out_ok h2).2] at T
  have L := Lib.hid (fun w => sub (a.plus b) b w)
  rw [(sub_in ⟨h2, h1⟩).1, (sub_in ⟨h2, h1⟩).2, plus_less, (out_ok h0).1, (out_ok h0).2] at L
  have F1 := Lib.hid (fun w => fits a (a.plus b) w)
  rw [fits_yes (le_plus h1)] at F1
  have D := Lib.hid (fun w => sub a b w)
  have FT := Lib.hid (fun w => fits b a w)
  have key := sub_fits h0 h1
  clear h0 h1 h2
  rcases key with ⟨k0, k1⟩ | ⟨k0, k1⟩ <;> rw [k0] at D <;> rw [k1] at FT <;> clear k0 k1
  all_goals
    go_enter Try.func4, Try.ntmps4
    go_wp2_with fail
    refine (awake _).mono ?_; rintro e w1 ⟨rfl, hb1⟩; obtain ⟨hc1, hf1⟩ := bcell hb1; have hz1 := hb1.size; (try simp at hz1); have lt_w1_0 : w.heap.size < w1.heap.size := (by omega); have lt_w1_1 : w.heap.size + 1 < w1.heap.size := (by omega)
    go_wp2_with fail
    refine (HA.out _).mono ?_; rintro e w2 ⟨rfl, hb2⟩; obtain ⟨hc2, hf2⟩ := bcell hb2; have hz2 := hb2.size; (try simp at hz2); have lt_w2_0 : w.heap.size < w2.heap.size := (by omega); have lt_w2_1 : w.heap.size + 1 < w2.heap.size := (by omega)
    go_wp2_with fail
    refine (HB.out _).mono ?_; rintro e w3 ⟨rfl, hb3⟩; obtain ⟨hc3, hf3⟩ := bcell hb3; have hz3 := hb3.size; (try simp at hz3); have lt_w3_0 : w.heap.size < w3.heap.size := (by omega); have lt_w3_1 : w.heap.size + 1 < w3.heap.size := (by omega)
    go_wp2_with fail
    refine (S.out _).mono ?_; rintro e w4 ⟨rfl, hb4⟩; obtain ⟨hc4, hf4⟩ := bcell hb4; have hz4 := hb4.size; (try simp at hz4); have lt_w4_0 : w.heap.size < w4.heap.size := (by omega); have lt_w4_1 : w.heap.size + 1 < w4.heap.size := (by omega)
    go_wp2_with fail
    refine (L.out _).mono ?_; rintro e w5 ⟨rfl, hb5⟩; obtain ⟨hc5, hf5⟩ := bcell hb5; have hz5 := hb5.size; (try simp at hz5); have lt_w5_0 : w.heap.size < w5.heap.size := (by omega); have lt_w5_1 : w.heap.size + 1 < w5.heap.size := (by omega); have lt_5_w4 : w4.heap.size < w5.heap.size := (by omega)
    go_wp2_with fail
    refine (T.out _).mono ?_; rintro e w6 ⟨rfl, hb6⟩; obtain ⟨hc6, hf6⟩ := bcell hb6; have hz6 := hb6.size; (try simp at hz6); have lt_w6_0 : w.heap.size < w6.heap.size := (by omega); have lt_w6_1 : w.heap.size + 1 < w6.heap.size := (by omega); have lt_6_w4 : w4.heap.size < w6.heap.size := (by omega); have lt_6_w5 : w5.heap.size < w6.heap.size := (by omega)
    go_wp2_with fail
    refine (F1.out _).mono ?_; rintro e w7 ⟨rfl, hb7⟩; obtain ⟨hc7, hf7⟩ := bcell hb7; have hz7 := hb7.size; (try simp at hz7); have lt_w7_0 : w.heap.size < w7.heap.size := (by omega); have lt_w7_1 : w.heap.size + 1 < w7.heap.size := (by omega); have lt_7_w4 : w4.heap.size < w7.heap.size := (by omega); have lt_7_w5 : w5.heap.size < w7.heap.size := (by omega); have lt_7_w6 : w6.heap.size < w7.heap.size := (by omega)
    go_wp2_with fail
    refine (D.out _).mono ?_; rintro e w8 ⟨rfl, hb8⟩; obtain ⟨hc8, hf8⟩ := bcell hb8; have hz8 := hb8.size; (try simp at hz8); have lt_w8_0 : w.heap.size < w8.heap.size := (by omega); have lt_w8_1 : w.heap.size + 1 < w8.heap.size := (by omega)
    go_wp2_with fail
    refine (FT.out _).mono ?_; rintro e w9 ⟨rfl, hb9⟩; obtain ⟨hc9, hf9⟩ := bcell hb9; have hz9 := hb9.size; (try simp at hz9); have lt_w9_0 : w.heap.size < w9.heap.size := (by omega); have lt_w9_1 : w.heap.size + 1 < w9.heap.size := (by omega)
    go_wp2
    go_ret
    exact ⟨by simp, (by repeat' (first | exact Below.refl _ _ | assumption | exact And.left (by assumption) | refine Below.drew ?_ | refine below_drewN ?_ _ | refine Below.setCell ?_ (by first | (simp; done) | (simp; omega) | omega) _ | refine Below.alloc ?_ (by first | (simp; done) | (simp; omega) | omega) _ | refine after (by assumption) (by first | (simp; done) | (simp; omega) | omega) ?_))⟩

theorem vecBack_walk (v0 : Value) (v1 : Value) (w : World) (F0 : FRes v0) (F1 : FRes v1) :
    Calls Try.prog 4 #[v0, v1] w fun e w' => e = .returned (.bool true) ∧ Below w.heap.size w w' := by
  obtain ⟨a, rfl, _⟩ := F0
  obtain ⟨b, rfl, _⟩ := F1
  by_cases h : a.Ok ∧ b.Ok
  · by_cases h2 : (a.plus b).Ok
    · exact back_ok a b w h.1 h.2 h2
    · exact back_over a b w h.1 h.2 h2
  · exact back_arg a b w h
end Go.Proofs.Ytgmkdcjcmoonaaa.W
