/-
  Plain functions: what the sums, products and quotients of layer 1 come to. No Go in sight.
-/
import Derived.Test.YtdcnlhjfncdacaaRows
import Derived.WalkKit
namespace Go.Proofs.Ytdcnlhjfncdacaa.W
set_option linter.unusedVariables false

/-- a + b, at most l: the value -/
def addV (a b l : Int) : Int := if a < 0 ∨ b < 0 ∨ l < 0 then 0 else if l < a + b then 0 else a + b
/-- a + b, at most l: the error -/
def addE (a b l : Int) : Int := if a < 0 ∨ b < 0 ∨ l < 0 then 2 else if l < a + b then 20 else 0
def mulV (a b l : Int) : Int := if a < 0 ∨ b < 0 ∨ l < 0 then 0 else if l < a * b then 0 else a * b
def mulE (a b l : Int) : Int := if a < 0 ∨ b < 0 ∨ l < 0 then 2 else if l < a * b then 20 else 0
def upV (a b : Int) : Int := if a < 1 ∨ b < 1 then 0 else (a - 1) / b + 1

theorem addV_arg {a b l : Int} (h : a < 0 ∨ b < 0 ∨ l < 0) : addV a b l = 0 := by unfold addV; rw [if_pos h]
theorem addE_arg {a b l : Int} (h : a < 0 ∨ b < 0 ∨ l < 0) : addE a b l = 2 := by unfold addE; rw [if_pos h]
theorem addV_over {a b l : Int} (h : ¬ (a < 0 ∨ b < 0 ∨ l < 0)) (g : l < a + b) : addV a b l = 0 := by unfold addV; rw [if_neg h, if_pos g]
theorem addE_over {a b l : Int} (h : ¬ (a < 0 ∨ b < 0 ∨ l < 0)) (g : l < a + b) : addE a b l = 20 := by unfold addE; rw [if_neg h, if_pos g]
theorem addV_ok {a b l : Int} (h : ¬ (a < 0 ∨ b < 0 ∨ l < 0)) (g : ¬ l < a + b) : addV a b l = a + b := by unfold addV; rw [if_neg h, if_neg g]
theorem addE_ok {a b l : Int} (h : ¬ (a < 0 ∨ b < 0 ∨ l < 0)) (g : ¬ l < a + b) : addE a b l = 0 := by unfold addE; rw [if_neg h, if_neg g]
theorem mulV_arg {a b l : Int} (h : a < 0 ∨ b < 0 ∨ l < 0) : mulV a b l = 0 := by unfold mulV; rw [if_pos h]
theorem mulE_arg {a b l : Int} (h : a < 0 ∨ b < 0 ∨ l < 0) : mulE a b l = 2 := by unfold mulE; rw [if_pos h]
theorem mulV_over {a b l : Int} (h : ¬ (a < 0 ∨ b < 0 ∨ l < 0)) (g : l < a * b) : mulV a b l = 0 := by unfold mulV; rw [if_neg h, if_pos g]
theorem mulE_over {a b l : Int} (h : ¬ (a < 0 ∨ b < 0 ∨ l < 0)) (g : l < a * b) : mulE a b l = 20 := by unfold mulE; rw [if_neg h, if_pos g]
theorem mulV_ok {a b l : Int} (h : ¬ (a < 0 ∨ b < 0 ∨ l < 0)) (g : ¬ l < a * b) : mulV a b l = a * b := by unfold mulV; rw [if_neg h, if_neg g]
theorem mulE_ok {a b l : Int} (h : ¬ (a < 0 ∨ b < 0 ∨ l < 0)) (g : ¬ l < a * b) : mulE a b l = 0 := by unfold mulE; rw [if_neg h, if_neg g]
theorem upV_zero {a b : Int} (h : a < 1 ∨ b < 1) : upV a b = 0 := by unfold upV; rw [if_pos h]
theorem upV_pos {a b : Int} (h : ¬ (a < 1 ∨ b < 1)) : upV a b = (a - 1) / b + 1 := by unfold upV; rw [if_neg h]

theorem addE_bd (a b l : Int) : 0 ≤ addE a b l ∧ addE a b l ≤ 20 := by unfold addE; (repeat' split) <;> omega
theorem mulE_bd (a b l : Int) : 0 ≤ mulE a b l ∧ mulE a b l ≤ 20 := by unfold mulE; (repeat' split) <;> omega
theorem addV_bd (a b l : Int) : 0 ≤ addV a b l ∧ (l < 0 ∨ addV a b l ≤ l) := by unfold addV; (repeat' split) <;> omega

/-- a limit divided by a: below b just where a times b is above it -/
theorem div_lt (a b l : Int) (ha : 0 < a) : l / a < b ↔ l < a * b := by
  rw [Int.ediv_lt_iff_lt_mul ha, Int.mul_comm]
/-- a quotient, one more if there is a rest, is the one that is rounded up -/
theorem up_rest (a b : Int) (ha : 1 ≤ a) (hb : 1 ≤ b) : (a % b ≠ 0 → a / b + 1 = (a - 1) / b + 1) ∧ (a % b = 0 → a / b = (a - 1) / b + 1) := by
  have h := Int.mul_ediv_add_emod a b
  have r0 := Int.emod_nonneg a (show b ≠ 0 by omega)
  have r1 := Int.emod_lt_of_pos a (show 0 < b by omega)
  have key : ∀ q r : Int, 0 ≤ r → r < b → a - 1 = b * q + r → (a - 1) / b = q := by
    intro q r h0 h1 e
    rw [e, Int.add_comm, Int.add_mul_ediv_left _ _ (by omega), Int.ediv_eq_zero_of_lt h0 h1]; omega
  constructor
  · intro hr
    rw [key (a / b) (a % b - 1) (by omega) (by omega) (by omega)]
  · intro hr
    have e : b * (a / b - 1) = b * (a / b) - b := by rw [Int.mul_sub, Int.mul_one]
    rw [key (a / b - 1) (b - 1) (by omega) (by omega) (by omega)]; omega
end Go.Proofs.Ytdcnlhjfncdacaa.W
