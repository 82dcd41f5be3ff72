/-
  Contract of the judge's own comparison of two slices of bytes, where they read alike.
-/
import Derived.Test.YtbnojefiocoodaaBytes
import Derived.Deep.QuietTactic
import Derived.BigQuiet
namespace Go.Proofs.Ytbnojefiocoodaa.W
set_option linter.unusedVariables false
set_option linter.unusedSimpArgs false
open Go.ChangeShapes Go.WideShapes Go.ChangeAt Go.RowKit

set_option maxHeartbeats 2000000 in
theorem sameB (a b : Option Addr) (ca cb : Nat) (l : List UInt8) (hl : l.length ≤ 1048576) (w : World) (ha : RowAt w a (bytesV l)) (hb : RowAt w b (bytesV l)) :
    Calls Try.prog 10 #[.slice a l.length ca, .slice b l.length cb] w fun e w' => e = .returned (.bool true) ∧ Below w.heap.size w w' := by
  have HA := Lib.hid ha
  have HB := Lib.hid hb
  clear ha hb
  go_enter Try.func10, Try.ntmps10
  go_wp2
  go_loopw [5] (fun i wr => ∃ k : Nat, k ≤ l.length ∧ i = .int .i64 (k : Int) ∧ Below w.heap.size w wr) (fun i _ => l.length - (intOf i).toNat)
  case atStart => exact ⟨0, Nat.zero_le _, rfl, Below.refl _ _⟩
  case round =>
    obtain ⟨k, hk, rfl, hbw⟩ := hrel
    by_cases hlt : k < l.length
    · obtain ⟨b1, o1, e1, _, c1⟩ := (HA.out.later hbw).row (by rw [bytesV_len]; omega)
      obtain ⟨b2, o2, e2, _, c2⟩ := (HB.out.later hbw).row (by rw [bytesV_len]; omega)
      have d1 := c1 k _ (bytesV_at l k hlt)
      have d2 := c2 k _ (bytesV_at l k hlt)
      generalize (l[k]'hlt).toNat = x at d1 d2
      have E1 := Lib.hid e1
      have E2 := Lib.hid e2
      clear c1 c2 e1 e2
      obtain rfl := E1.out
      obtain rfl := E2.out
      go_wp2_with fail
      go_quiet (fail)
      go_wp2
      go_roundw
      case rel => exact ⟨k + 1, by omega, by go_num, (by repeat' (first | exact Below.refl _ _ | assumption | exact And.left (by assumption) | refine Below.drew ?_ | refine below_drewN ?_ _ | refine Below.setCell ?_ (by first | (simp; done) | (simp; omega) | omega) _ | refine Below.alloc ?_ (by first | (simp; done) | (simp; omega) | omega) _ | refine after (by assumption) (by first | (simp; done) | (simp; omega) | omega) ?_))⟩
      case measure => simp [intOf]; omega
    · go_wp2
      go_ret
      exact ⟨rfl, hbw⟩
end Go.Proofs.Ytbnojefiocoodaa.W
