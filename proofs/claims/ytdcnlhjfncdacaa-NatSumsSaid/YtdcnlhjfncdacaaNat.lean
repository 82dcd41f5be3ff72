/-
  Contracts of the functions of layer 1 (nat) and of its reference: what each call comes to, in whatever world; none of them touches memory.
-/
import Derived.Test.YtdcnlhjfncdacaaNatSpec
import Derived.WalkKit
import Derived.ProofKit
import Derived.WalkLawsBesides
import Derived.Lib.Hide
namespace Go.Proofs.Ytdcnlhjfncdacaa.W
set_option linter.unusedVariables false
open Go.ChangeShapes Go.WideShapes Go.ChangeAt Go.RowKit

theorem add (a b l : Int) (w : World) (ha : a ≤ 9223372036854775807) (hb : b ≤ 9223372036854775807) (hl : l ≤ 9223372036854775807) :
    Calls Try.prog 10 #[.int .i64 a, .int .i64 b, .int .i64 l] w fun e w' => e = .returned (.tuple #[.int .i64 (addV a b l), .int .i64 (addE a b l)]) ∧ w = w' := by
  by_cases h : a < 0 ∨ b < 0 ∨ l < 0
  · rw [addV_arg h, addE_arg h]
    by_cases h0 : a < 0
    · clear h
      go_enter Try.func10, Try.ntmps10
      go_wp2
      go_ret2
      exact ⟨rfl, rfl⟩
    · by_cases h1 : b < 0
      · clear h
        go_enter Try.func10, Try.ntmps10
        go_wp2
        go_ret2
        exact ⟨rfl, rfl⟩
      · have h2 : l < 0 := by omega
        clear h
        go_enter Try.func10, Try.ntmps10
        go_wp2
        go_ret2
        exact ⟨rfl, rfl⟩
  · have h0 : 0 ≤ a := by omega
    have h1 : 0 ≤ b := by omega
    have h2 : 0 ≤ l := by omega
    by_cases g : l < a + b
    · rw [addV_over h g, addE_over h g]
      clear h
      go_enter Try.func10, Try.ntmps10
      go_wp2
      go_ret2
      exact ⟨rfl, rfl⟩
    · rw [addV_ok h g, addE_ok h g]
      clear h
      go_enter Try.func10, Try.ntmps10
      go_wp2
      go_ret2
      exact ⟨rfl, rfl⟩

theorem radd (a b l : Int) (w : World) (ha : a ≤ 9223372036854775807) (hb : b ≤ 9223372036854775807) (hl : l ≤ 9223372036854775807) :
    Calls Try.prog 12 #[.int .i64 a, .int .i64 b, .int .i64 l] w fun e w' => e = .returned (.tuple #[.int .i64 (addV a b l), .int .i64 (addE a b l)]) ∧ w = w' := by
  by_cases h : a < 0 ∨ b < 0 ∨ l < 0
  · rw [addV_arg h, addE_arg h]
    by_cases h0 : a < 0
    · clear h
      go_enter Try.func12, Try.ntmps12
      go_wp2
      go_ret2
      exact ⟨rfl, rfl⟩
    · by_cases h1 : b < 0
      · clear h
        go_enter Try.func12, Try.ntmps12
        go_wp2
        go_ret2
        exact ⟨rfl, rfl⟩
      · have h2 : l < 0 := by omega
        clear h
        go_enter Try.func12, Try.ntmps12
        go_wp2
        go_ret2
        exact ⟨rfl, rfl⟩
  · have h0 : 0 ≤ a := by omega
    have h1 : 0 ≤ b := by omega
    have h2 : 0 ≤ l := by omega
    by_cases g : l < a + b
    · rw [addV_over h g, addE_over h g]
      clear h
      by_cases g0 : l < a
      · go_enter Try.func12, Try.ntmps12
        go_wp2
        go_ret2
        exact ⟨rfl, rfl⟩
      · go_enter Try.func12, Try.ntmps12
        go_wp2
        go_ret2
        exact ⟨rfl, rfl⟩
    · rw [addV_ok h g, addE_ok h g]
      have g0 : ¬ l < a := by omega
      clear h
      go_enter Try.func12, Try.ntmps12
      go_wp2
      go_ret2
      exact ⟨rfl, rfl⟩

theorem mul (a b l : Int) (w : World) (ha : a ≤ 9223372036854775807) (hb : b ≤ 9223372036854775807) (hl : l ≤ 9223372036854775807) :
    Calls Try.prog 11 #[.int .i64 a, .int .i64 b, .int .i64 l] w fun e w' => e = .returned (.tuple #[.int .i64 (mulV a b l), .int .i64 (mulE a b l)]) ∧ w = w' := by
  by_cases h : a < 0 ∨ b < 0 ∨ l < 0
  · rw [mulV_arg h, mulE_arg h]
    by_cases h0 : a < 0
    · clear h
      go_enter Try.func11, Try.ntmps11
      go_wp2
      go_ret2
      exact ⟨rfl, rfl⟩
    · by_cases h1 : b < 0
      · clear h
        go_enter Try.func11, Try.ntmps11
        go_wp2
        go_ret2
        exact ⟨rfl, rfl⟩
      · have h2 : l < 0 := by omega
        clear h
        go_enter Try.func11, Try.ntmps11
        go_wp2
        go_ret2
        exact ⟨rfl, rfl⟩
  · have h0 : 0 ≤ a := by omega
    have h1 : 0 ≤ b := by omega
    have h2 : 0 ≤ l := by omega
    by_cases z : a = 0
    · subst z
      have g : ¬ l < 0 * b := by omega
      rw [mulV_ok h g, mulE_ok h g]
      clear h g
      go_enter Try.func11, Try.ntmps11
      go_wp2
      go_ret2
      exact ⟨by simp, rfl⟩
    · have z0 : 1 ≤ a := by omega
      have q := div_lt a b l (by omega)
      have q0 : 0 ≤ l / a := Int.ediv_nonneg h2 h0
      have q1 : l / a ≤ l := Int.ediv_le_self _ h2
      have q2 : 0 ≤ a * b := Int.mul_nonneg h0 h1
      by_cases g : l < a * b
      · rw [mulV_over h g, mulE_over h g]
        have g1 := q.2 g
        clear h q
        go_enter Try.func11, Try.ntmps11
        go_wp2
        go_ret2
        exact ⟨rfl, rfl⟩
      · rw [mulV_ok h g, mulE_ok h g]
        have g1 : ¬ l / a < b := fun x => g (q.1 x)
        have g2 : a * b ≤ 9223372036854775807 := by omega
        clear h q
        go_enter Try.func11, Try.ntmps11
        go_wp2
        go_ret2
        exact ⟨rfl, rfl⟩

theorem rmul (a b l : Int) (w : World) (ha : a ≤ 9223372036854775807) (hb : b ≤ 9223372036854775807) (hl : l ≤ 9223372036854775807) :
    Calls Try.prog 13 #[.int .i64 a, .int .i64 b, .int .i64 l] w fun e w' => e = .returned (.tuple #[.int .i64 (mulV a b l), .int .i64 (mulE a b l)]) ∧ w = w' := by
  by_cases h : a < 0 ∨ b < 0 ∨ l < 0
  · rw [mulV_arg h, mulE_arg h]
    by_cases h0 : a < 0
    · clear h
      go_enter Try.func13, Try.ntmps13
      go_wp2
      go_ret2
      exact ⟨rfl, rfl⟩
    · by_cases h1 : b < 0
      · clear h
        go_enter Try.func13, Try.ntmps13
        go_wp2
        go_ret2
        exact ⟨rfl, rfl⟩
      · have h2 : l < 0 := by omega
        clear h
        go_enter Try.func13, Try.ntmps13
        go_wp2
        go_ret2
        exact ⟨rfl, rfl⟩
  · have h0 : 0 ≤ a := by omega
    have h1 : 0 ≤ b := by omega
    have h2 : 0 ≤ l := by omega
    by_cases z : a = 0
    · subst z
      have g : ¬ l < 0 * b := by omega
      rw [mulV_ok h g, mulE_ok h g]
      clear h g
      go_enter Try.func13, Try.ntmps13
      go_wp2
      go_ret2
      exact ⟨by simp, rfl⟩
    · have z0 : 1 ≤ a := by omega
      have za : (a == 0) = false := beq_eq_false_iff_ne.2 z
      by_cases y : b = 0
      · subst y
        have g : ¬ l < a * 0 := by omega
        rw [mulV_ok h g, mulE_ok h g]
        clear h g
        go_enter Try.func13, Try.ntmps13
        go_wp2
        go_ret2
        exact ⟨by simp, rfl⟩
      have zb : (b == 0) = false := beq_eq_false_iff_ne.2 y
      have q := div_lt a b l (by omega)
      have q0 : 0 ≤ l / a := Int.ediv_nonneg h2 h0
      have q1 : l / a ≤ l := Int.ediv_le_self _ h2
      have q2 : 0 ≤ a * b := Int.mul_nonneg h0 h1
      by_cases g : l < a * b
      · rw [mulV_over h g, mulE_over h g]
        have g1 := q.2 g
        clear h q
        go_enter Try.func13, Try.ntmps13
        go_wp2
        go_ret2
        exact ⟨rfl, rfl⟩
      · rw [mulV_ok h g, mulE_ok h g]
        have g1 : ¬ l / a < b := fun x => g (q.1 x)
        have g2 : a * b ≤ 9223372036854775807 := by omega
        clear h q
        go_enter Try.func13, Try.ntmps13
        go_wp2
        go_ret2
        exact ⟨rfl, rfl⟩

theorem up (a b : Int) (w : World) (ha : a ≤ 9223372036854775807) (hb : b ≤ 9223372036854775807) :
    Calls Try.prog 14 #[.int .i64 a, .int .i64 b] w fun e w' => e = .returned (.int .i64 (upV a b)) ∧ w = w' := by
  by_cases h : a < 1 ∨ b < 1
  · rw [upV_zero h]
    by_cases ha : a < 1
    · clear h
      go_enter Try.func14, Try.ntmps14
      go_wp2
      go_ret
      exact ⟨rfl, rfl⟩
    · have hb : b < 1 := by omega
      clear h
      go_enter Try.func14, Try.ntmps14
      go_wp2
      go_ret
      exact ⟨rfl, rfl⟩
  · rw [upV_pos h]
    have h0 : 1 ≤ a := by omega
    have h00 : 1 ≤ b := by omega
    have h1 : (a - 1) / b ≤ a - 1 := Int.ediv_le_self b (by omega)
    have h2 : 0 ≤ (a - 1) / b := Int.ediv_nonneg (by omega) (by omega)
    clear h
    go_enter Try.func14, Try.ntmps14
    go_wp2
    go_ret
    exact ⟨rfl, rfl⟩

theorem rup (a b : Int) (w : World) (ha : a ≤ 9223372036854775807) (hb : b ≤ 9223372036854775807) :
    Calls Try.prog 15 #[.int .i64 a, .int .i64 b] w fun e w' => e = .returned (.int .i64 (upV a b)) ∧ w = w' := by
  by_cases h : a < 1 ∨ b < 1
  · rw [upV_zero h]
    by_cases ha : a < 1
    · clear h
      go_enter Try.func15, Try.ntmps15
      go_wp2
      go_ret
      exact ⟨rfl, rfl⟩
    · have hb : b < 1 := by omega
      clear h
      go_enter Try.func15, Try.ntmps15
      go_wp2
      go_ret
      exact ⟨rfl, rfl⟩
  · rw [upV_pos h]
    have h0 : 1 ≤ a := by omega
    have h00 : 1 ≤ b := by omega
    have k := up_rest a b h0 h00
    have h3 : a / b ≤ a := Int.ediv_le_self b (by omega)
    have h4 : 0 ≤ a / b := Int.ediv_nonneg (by omega) (by omega)
    by_cases r : a % b = 0
    · rw [← k.2 r]
      have r' : (a % b != 0) = false := by simp [r]
      clear h k r
      go_enter Try.func15, Try.ntmps15
      go_wp2
      go_ret
      exact ⟨rfl, rfl⟩
    · rw [← k.1 r]
      have r' : (a % b != 0) = true := by simp [r]
      have h5 : a / b < a := by
        have h1 : (a - 1) / b ≤ a - 1 := Int.ediv_le_self b (by omega)
        have := k.1 r
        omega
      clear h k r
      go_enter Try.func15, Try.ntmps15
      go_wp2
      go_ret
      exact ⟨rfl, rfl⟩
end Go.Proofs.Ytdcnlhjfncdacaa.W
