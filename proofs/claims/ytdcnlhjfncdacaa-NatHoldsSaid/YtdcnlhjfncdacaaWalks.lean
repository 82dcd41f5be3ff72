/-
  Contracts of the functions of layer 1 (nat) and of its reference: what each call comes to, in whatever world; none of them touches memory.
-/
import Derived.Test.YtdcnlhjfncdacaaRows
import Derived.WalkKit
import Derived.ProofKit
import Derived.WalkLawsBesides
import Derived.Lib.Hide
namespace Go.Proofs.Ytdcnlhjfncdacaa.W
open Go.ChangeShapes Go.WideShapes Go.ChangeAt Go.RowKit

theorem awake (w : World) : Calls Try.prog 7 #[] w fun e w' => e = .returned (.bool true) ∧ w = w' := by
  go_enter Try.func7, Try.ntmps7
  go_wp2
  go_ret
  exact ⟨rfl, rfl⟩

theorem up_zero (a b : Int) (w : World) (h : a < 1 ∨ b < 1) : Calls Try.prog 14 #[.int .i64 a, .int .i64 b] w fun e w' => e = .returned (.int .i64 0) ∧ w = w' := by
  by_cases ha : a < 1
  · go_enter Try.func14, Try.ntmps14
    go_wp2
    go_ret
    exact ⟨rfl, rfl⟩
  · have hb : b < 1 := by omega
    clear h
    go_enter Try.func14, Try.ntmps14
    go_wp2
    go_ret
    exact ⟨rfl, rfl⟩

theorem up_pos (a b : Int) (w : World) (ha : 1 ≤ a) (hb : 1 ≤ b) (ha' : a ≤ 9223372036854775807) (hb' : b ≤ 9223372036854775807) :
    Calls Try.prog 14 #[.int .i64 a, .int .i64 b] w fun e w' => e = .returned (.int .i64 ((a - 1) / b + 1)) ∧ w = w' := by
  have h1 : (a - 1) / b ≤ a - 1 := Int.ediv_le_self b (by omega)
  have h2 : 0 ≤ (a - 1) / b := Int.ediv_nonneg (by omega) (by omega)
  go_enter Try.func14, Try.ntmps14
  go_wp2
  go_ret
  exact ⟨rfl, rfl⟩
end Go.Proofs.Ytdcnlhjfncdacaa.W
