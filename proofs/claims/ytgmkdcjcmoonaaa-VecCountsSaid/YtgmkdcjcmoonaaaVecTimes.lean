/-
  Contract of vec.Times.
-/
import Derived.Test.YtgmkdcjcmoonaaaVec
namespace Go.Proofs.Ytgmkdcjcmoonaaa.W
set_option linter.unusedVariables false
set_option linter.unusedSimpArgs false
open Go.ChangeShapes Go.WideShapes Go.ChangeAt Go.RowKit
attribute [local go_sem] run_store_complex

theorem fl_zero : fl 0 = 0 := by decide +kernel
theorem mul0 {a : V} {n : Int} (h : a.Ok) (g : 0 ≤ n ∧ n ≤ 1048577) (t : TypeId) (w : World) :
    (binOp .mul t (.complex .f64 (fl a.cpu) (fl a.mem)) (.complex .f64 (floatOfInt .f64 n) 0)).run Try.prog w = .ok (.complex .f64 (fl (a.by n).cpu) (fl (a.by n).mem)) w := by
  have := run_complex_mul (P := Try.prog) w t _ _ _ _ _ _ (cmul_by0 h g)
  rw [fl_zero] at this; exact this
theorem mul1 {a : V} {n : Int} (h : a.Ok) (g : 0 ≤ n ∧ n ≤ 1048577) (t : TypeId) (w : World) :
    (binOp .mul t (.complex .f64 (fl a.gpu) (fl a.lic)) (.complex .f64 (floatOfInt .f64 n) 0)).run Try.prog w = .ok (.complex .f64 (fl (a.by n).gpu) (fl (a.by n).lic)) w := by
  have := run_complex_mul (P := Try.prog) w t _ _ _ _ _ _ (cmul_by1 h g)
  rw [fl_zero] at this; exact this
set_option maxHeartbeats 4000000 in
/-- so many times, and so many are not too many to be reckoned -/
theorem times (a : V) (n : Int) (w : World) (hn : n ≤ 9223372036854775807) :
    Calls Try.prog 20 #[(.agg #[.int .i64 a.cpu, .int .i64 a.mem, .int .i64 a.gpu, .int .i64 a.lic]), .int .i64 n] w
      fun e w' => e = .returned (.tuple #[(.agg #[.int .i64 (timesR a n).cpu, .int .i64 (timesR a n).mem, .int .i64 (timesR a n).gpu, .int .i64 (timesR a n).lic]), .int .i64 (timesE a n)]) ∧ Below w.heap.size w w' := by
  have HA := Lib.hid (fun w => right a w)
  have hs1 : ∀ a b : Nat, a < b → a < b + 1 := (fun _ _ _ => by omega); have hs2 : ∀ a b : Nat, a < b → a < b + 1 + 1 := (fun _ _ _ => by omega); have hs3 : ∀ a b : Nat, a < b → a < b + 1 + 1 + 1 := (fun _ _ _ => by omega); have hs4 : ∀ a b : Nat, a < b → a < b + 1 + 1 + 1 + 1 := (fun _ _ _ => by omega); have hs5 : ∀ a b : Nat, a < b → a < b + 1 + 1 + 1 + 1 + 1 := (fun _ _ _ => by omega)
  by_cases h0 : a.Ok
  · rw [right_yes h0] at HA
    by_cases h1 : 0 ≤ n
    · rw [(times_in ⟨h0, h1⟩).1, (times_in ⟨h0, h1⟩).2]
      by_cases h2 : 1048577 < n
      · rw [(by_enough h0 h2).1, (by_enough h0 h2).2]
        have U := Lib.hid (fun w => unpair (a.by 1048577) w (small_by h0 (by omega)))
        have e0 := fun t w => mul0 (n := 1048577) h0 (by omega) t w
        have e1 := fun t w => mul1 (n := 1048577) h0 (by omega) t w
        clear h0
        go_enter Try.func20, Try.ntmps20
        go_wp2_with fail
        refine (HA.out _).mono ?_; rintro e w1 ⟨rfl, hb1⟩
        obtain ⟨hc1, hf1⟩ := bcell hb1
        have hz1 := hb1.size; try simp at hz1
        have lt_w1_0 : w.heap.size < w1.heap.size := (by omega); have lt_w1_1 : w.heap.size + 1 < w1.heap.size := (by omega)
        go_wp2_with fail
        refine (pair a _).mono ?_; rintro e w2 ⟨rfl, rfl⟩
        go_wp2_with (simp only [e0, e1])
        refine (U.out _).mono ?_; rintro e w3 ⟨rfl, hb3⟩
        obtain ⟨hc3, hf3⟩ := bcell hb3
        have hz3 := hb3.size; try simp at hz3
        have lt_w3_0 : w.heap.size < w3.heap.size := (by omega); have lt_w3_1 : w.heap.size + 1 < w3.heap.size := (by omega)
        have q_w3_0 : w3.cell? ⟨w.heap.size + 1, 0, none⟩ = some (.int .i64 0) := (by repeat' (first | assumption | (simp [go_sem]; done) | refine carry (by assumption) ?_ | refine carry_alloc ?_ _)); have q_w3_1 : w3.cell? ⟨w.heap.size + 1, 1, none⟩ = some (.int .i64 0) := (by repeat' (first | assumption | (simp [go_sem]; done) | refine carry (by assumption) ?_ | refine carry_alloc ?_ _)); have q_w3_2 : w3.cell? ⟨w.heap.size + 1, 2, none⟩ = some (.int .i64 0) := (by repeat' (first | assumption | (simp [go_sem]; done) | refine carry (by assumption) ?_ | refine carry_alloc ?_ _)); have q_w3_3 : w3.cell? ⟨w.heap.size + 1, 3, none⟩ = some (.int .i64 0) := (by repeat' (first | assumption | (simp [go_sem]; done) | refine carry (by assumption) ?_ | refine carry_alloc ?_ _))
        go_wp2
        exact bodyPost_ret (v := .tuple #[(.agg #[.int .i64 (outR (a.by 1048577)).cpu, .int .i64 (outR (a.by 1048577)).mem, .int .i64 (outR (a.by 1048577)).gpu, .int .i64 (outR (a.by 1048577)).lic]), .int .i64 (outE (a.by 1048577))]) (by simp [results, Try.results20, go_sem, *]) rfl ⟨rfl, (by repeat' (first | exact Below.refl _ _ | assumption | exact And.left (by assumption) | refine Below.drew ?_ | refine below_drewN ?_ _ | refine Below.setCell ?_ (by first | (simp; done) | (simp; omega) | omega) _ | refine Below.alloc ?_ (by first | (simp; done) | (simp; omega) | omega) _ | refine after (by assumption) (by first | (simp; done) | (simp; omega) | omega) ?_))⟩
      · have h3 : n ≤ 1048577 := by omega
        have U := Lib.hid (fun w => unpair (a.by n) w (small_by h0 (by omega)))
        have e0 := fun t w => mul0 (n := n) h0 (by omega) t w
        have e1 := fun t w => mul1 (n := n) h0 (by omega) t w
        clear h0
        go_enter Try.func20, Try.ntmps20
        go_wp2_with fail
        refine (HA.out _).mono ?_; rintro e w1 ⟨rfl, hb1⟩
        obtain ⟨hc1, hf1⟩ := bcell hb1
        have hz1 := hb1.size; try simp at hz1
        have lt_w1_0 : w.heap.size < w1.heap.size := (by omega); have lt_w1_1 : w.heap.size + 1 < w1.heap.size := (by omega)
        go_wp2_with fail
        refine (pair a _).mono ?_; rintro e w2 ⟨rfl, rfl⟩
        go_wp2_with (simp only [e0, e1])
        refine (U.out _).mono ?_; rintro e w3 ⟨rfl, hb3⟩
        obtain ⟨hc3, hf3⟩ := bcell hb3
        have hz3 := hb3.size; try simp at hz3
        have lt_w3_0 : w.heap.size < w3.heap.size := (by omega); have lt_w3_1 : w.heap.size + 1 < w3.heap.size := (by omega)
        have q_w3_0 : w3.cell? ⟨w.heap.size + 1, 0, none⟩ = some (.int .i64 0) := (by repeat' (first | assumption | (simp [go_sem]; done) | refine carry (by assumption) ?_ | refine carry_alloc ?_ _)); have q_w3_1 : w3.cell? ⟨w.heap.size + 1, 1, none⟩ = some (.int .i64 0) := (by repeat' (first | assumption | (simp [go_sem]; done) | refine carry (by assumption) ?_ | refine carry_alloc ?_ _)); have q_w3_2 : w3.cell? ⟨w.heap.size + 1, 2, none⟩ = some (.int .i64 0) := (by repeat' (first | assumption | (simp [go_sem]; done) | refine carry (by assumption) ?_ | refine carry_alloc ?_ _)); have q_w3_3 : w3.cell? ⟨w.heap.size + 1, 3, none⟩ = some (.int .i64 0) := (by repeat' (first | assumption | (simp [go_sem]; done) | refine carry (by assumption) ?_ | refine carry_alloc ?_ _))
        go_wp2
        exact bodyPost_ret (v := .tuple #[(.agg #[.int .i64 (outR (a.by n)).cpu, .int .i64 (outR (a.by n)).mem, .int .i64 (outR (a.by n)).gpu, .int .i64 (outR (a.by n)).lic]), .int .i64 (outE (a.by n))]) (by simp [results, Try.results20, go_sem, *]) rfl ⟨rfl, (by repeat' (first | exact Below.refl _ _ | assumption | exact And.left (by assumption) | refine Below.drew ?_ | refine below_drewN ?_ _ | refine Below.setCell ?_ (by first | (simp; done) | (simp; omega) | omega) _ | refine Below.alloc ?_ (by first | (simp; done) | (simp; omega) | omega) _ | refine after (by assumption) (by first | (simp; done) | (simp; omega) | omega) ?_))⟩
    · rw [(times_arg (fun x => h1 x.2)).1, (times_arg (fun x => h1 x.2)).2]
      clear h0
      go_enter Try.func20, Try.ntmps20
      go_wp2_with fail
      refine (HA.out _).mono ?_; rintro e w1 ⟨rfl, hb1⟩
      obtain ⟨hc1, hf1⟩ := bcell hb1
      have hz1 := hb1.size; try simp at hz1
      have lt_w1_0 : w.heap.size < w1.heap.size := (by omega); have lt_w1_1 : w.heap.size + 1 < w1.heap.size := (by omega)
      go_wp2
      exact bodyPost_ret (v := .tuple #[(.agg #[.int .i64 V.zero.cpu, .int .i64 V.zero.mem, .int .i64 V.zero.gpu, .int .i64 V.zero.lic]), .int .i64 2]) (by simp [results, Try.results20, go_sem, V.zero, *]) rfl ⟨rfl, (by repeat' (first | exact Below.refl _ _ | assumption | exact And.left (by assumption) | refine Below.drew ?_ | refine below_drewN ?_ _ | refine Below.setCell ?_ (by first | (simp; done) | (simp; omega) | omega) _ | refine Below.alloc ?_ (by first | (simp; done) | (simp; omega) | omega) _ | refine after (by assumption) (by first | (simp; done) | (simp; omega) | omega) ?_))⟩
  · rw [right_no h0] at HA
    rw [(times_arg (fun x => h0 x.1)).1, (times_arg (fun x => h0 x.1)).2]
    clear h0
    go_enter Try.func20, Try.ntmps20
    go_wp2_with fail
    refine (HA.out _).mono ?_; rintro e w1 ⟨rfl, hb1⟩
    obtain ⟨hc1, hf1⟩ := bcell hb1
    have hz1 := hb1.size; try simp at hz1
    have lt_w1_0 : w.heap.size < w1.heap.size := (by omega); have lt_w1_1 : w.heap.size + 1 < w1.heap.size := (by omega)
    go_wp2
    exact bodyPost_ret (v := .tuple #[(.agg #[.int .i64 V.zero.cpu, .int .i64 V.zero.mem, .int .i64 V.zero.gpu, .int .i64 V.zero.lic]), .int .i64 2]) (by simp [results, Try.results20, go_sem, V.zero, *]) rfl ⟨rfl, (by repeat' (first | exact Below.refl _ _ | assumption | exact And.left (by assumption) | refine Below.drew ?_ | refine below_drewN ?_ _ | refine Below.setCell ?_ (by first | (simp; done) | (simp; omega) | omega) _ | refine Below.alloc ?_ (by first | (simp; done) | (simp; omega) | omega) _ | refine after (by assumption) (by first | (simp; done) | (simp; omega) | omega) ?_))⟩
end Go.Proofs.Ytgmkdcjcmoonaaa.W
