/-
  Contracts of the small functions of layer 7 (spec) and of the document's own: within, rises, has, in, Rising.
-/
import Derived.Test.YtgopjpnlpcmldaaGreatDoorSpecMem
import Derived.Deep.QuietTactic
import Derived.BigQuiet
import Derived.IntWalk
namespace Go.Proofs.YtgopjpnlpcmldaaGreatDoor.W
set_option linter.unusedVariables false
set_option linter.unusedSimpArgs false
open Go.ChangeShapes Go.WideShapes Go.ChangeAt Go.RowKit

def Within (l : List Int) (lo hi : Int) : Prop := ∀ i, i < l.length → lo ≤ l.getD i 0 ∧ l.getD i 0 ≤ hi
instance (l : List Int) (lo hi : Int) : Decidable (Within l lo hi) := by unfold Within; infer_instance
def withinB (l : List Int) (lo hi : Int) : Bool := decide (Within l lo hi)

theorem within (lo hi : Int) (a : Option Addr) (cap : Nat) (l : List Int) (w : World) (hp : SlAt w ⟨a, cap, l⟩) (hl : l.length ≤ 100000) :
    Calls Tryz.prog 64 #[.int .i64 lo, .int .i64 hi, .slice a l.length cap] w fun e w' => e = .returned (.bool (withinB l lo hi)) ∧ w = w' := by
  have HP := Lib.hid hp
  have HT := Lib.hid (show (∀ i, i < l.length → lo ≤ l.getD i 0 ∧ l.getD i 0 ≤ hi) → withinB l lo hi = true from fun h => decide_eq_true h)
  have HF := Lib.hid (show ∀ i, i < l.length → ¬ (lo ≤ l.getD i 0 ∧ l.getD i 0 ≤ hi) → withinB l lo hi = false from fun i hi' h => decide_eq_false fun x => h (x i hi'))
  clear hp
  go_enter Tryz.func64, Tryz.ntmps64
  go_wp2
  go_loop [11] (fun x => ∃ k : Nat, k ≤ l.length ∧ x = .int .i64 k ∧ ∀ i, i < k → lo ≤ l.getD i 0 ∧ l.getD i 0 ≤ hi) (fun x => l.length - (intOf x).toNat)
  case atStart => exact ⟨0, Nat.zero_le _, rfl, fun i h => by omega⟩
  case round =>
    obtain ⟨k, hk, rfl, hall⟩ := hrel
    have HA := Lib.hid hall
    clear hall
    by_cases hlt : k < l.length
    · obtain ⟨b, off, x, ex, rfl, hb, hc⟩ := HP.out.at_ hlt
      have HX := Lib.hid ex
      clear ex
      have HC := Lib.hid hc
      clear hc
      by_cases h0 : lo ≤ x
      · by_cases h1 : x ≤ hi
        · have hc := HC.out
          go_wp2
          go_round
          case rel => exact ⟨k + 1, by omega, by go_num, fun i hi' => by
            rcases Nat.lt_or_ge i k with h | h
            · exact HA.out i h
            · obtain rfl : i = k := by omega
              exact HX.out ▸ ⟨h0, h1⟩⟩
          case measure => simp [intOf]; omega
        · have E := Lib.hid (HF.out k hlt (fun z => h1 (HX.out ▸ z.2)))
          have hc := HC.out
          go_wp2
          go_ret
          exact ⟨by rw [E.out]; rfl, rfl⟩
      · have E := Lib.hid (HF.out k hlt (fun z => h0 (HX.out ▸ z.1)))
        have hc := HC.out
        go_wp2
        go_ret
        exact ⟨by rw [E.out]; rfl, rfl⟩
    · have E := Lib.hid (HT.out fun i hi' => HA.out i (by omega))
      go_wp2
      go_ret
      exact ⟨by rw [E.out]; rfl, rfl⟩

theorem rises (a : Option Addr) (cap : Nat) (l : List Int) (n : Int) (w : World) (hp : SlAt w ⟨a, cap, l⟩) (hl : l.length ≤ 100000) :
    Calls Tryz.prog 91 #[.slice a l.length cap, .int .i64 n] w fun e w' => e = .returned (.bool (riseB l n)) ∧ w = w' := by
  have HP := Lib.hid hp
  have HT := Lib.hid (show (∀ i, i < l.length → prevI l i < l.getD i 0 ∧ l.getD i 0 < n) → riseB l n = true from fun h => decide_eq_true h)
  have HF := Lib.hid (show ∀ i, i < l.length → ¬ (prevI l i < l.getD i 0 ∧ l.getD i 0 < n) → riseB l n = false from fun i hi' h => decide_eq_false fun x => h (x i hi'))
  clear hp
  go_enter Tryz.func91, Tryz.ntmps91
  go_wp2
  go_loop [5, 10] (fun y x => ∃ k : Nat, k ≤ l.length ∧ x = .int .i64 k ∧ y = .int .i64 (prevI l k) ∧ ∀ i, i < k → prevI l i < l.getD i 0 ∧ l.getD i 0 < n) (fun _ x => l.length - (intOf x).toNat)
  case atStart => exact ⟨0, Nat.zero_le _, rfl, rfl, fun i h => by omega⟩
  case round =>
    obtain ⟨k, hk, rfl, rfl, hall⟩ := hrel
    obtain ⟨y, ey⟩ : ∃ y, y = prevI l k := ⟨_, rfl⟩
    rw [← ey]
    have HY := Lib.hid ey
    clear ey
    have HA := Lib.hid hall
    clear hall
    by_cases hlt : k < l.length
    · obtain ⟨b, off, x, ex, rfl, hb, hc⟩ := HP.out.at_ hlt
      have HX := Lib.hid ex
      clear ex
      have HC := Lib.hid hc
      clear hc
      by_cases h0 : y < x
      · by_cases h1 : x < n
        · have hc := HC.out
          go_wp2
          go_round
          case rel => exact ⟨k + 1, by omega, by go_num, by rw [HX.out]; rfl, fun i hi' => by
            rcases Nat.lt_or_ge i k with h | h
            · exact HA.out i h
            · obtain rfl : i = k := by omega
              exact HX.out ▸ HY.out ▸ ⟨h0, h1⟩⟩
          case measure => simp [intOf]; omega
        · have E := Lib.hid (HF.out k hlt (fun z => h1 (HX.out ▸ z.2)))
          have hc := HC.out
          go_wp2
          go_ret
          exact ⟨by rw [E.out]; rfl, rfl⟩
      · have E := Lib.hid (HF.out k hlt (fun z => h0 (HX.out ▸ HY.out ▸ z.1)))
        have hc := HC.out
        go_wp2
        go_ret
        exact ⟨by rw [E.out]; rfl, rfl⟩
    · have E := Lib.hid (HT.out fun i hi' => HA.out i (by omega))
      go_wp2
      go_ret
      exact ⟨by rw [E.out]; rfl, rfl⟩

def hasB (len : Nat) (n : Int) : Bool := decide (0 ≤ n ∧ n < len)
theorem hasParts (a : Option Addr) (len cap : Nat) (n : Int) (w : World) :
    Calls Tryz.prog 59 #[.slice a len cap, .int .i64 n] w fun e w' => e = .returned (.bool (hasB len n)) ∧ w = w' := by
  by_cases h0 : 0 ≤ n
  · by_cases h1 : n < len
    · rw [show hasB len n = true from decide_eq_true ⟨h0, h1⟩]
      go_enter Tryz.func59, Tryz.ntmps59
      go_wp2
      go_ret
      exact ⟨rfl, rfl⟩
    · rw [show hasB len n = false from decide_eq_false fun x => h1 x.2]
      go_enter Tryz.func59, Tryz.ntmps59
      go_wp2
      go_ret
      exact ⟨rfl, rfl⟩
  · rw [show hasB len n = false from decide_eq_false fun x => h0 x.1]
    go_enter Tryz.func59, Tryz.ntmps59
    go_wp2
    go_ret
    exact ⟨rfl, rfl⟩
theorem hasQueues (a : Option Addr) (len cap : Nat) (n : Int) (w : World) :
    Calls Tryz.prog 25 #[.slice a len cap, .int .i64 n] w fun e w' => e = .returned (.bool (hasB len n)) ∧ w = w' := by
  by_cases h0 : 0 ≤ n
  · by_cases h1 : n < len
    · rw [show hasB len n = true from decide_eq_true ⟨h0, h1⟩]
      go_enter Tryz.func25, Tryz.ntmps25
      go_wp2
      go_ret
      exact ⟨rfl, rfl⟩
    · rw [show hasB len n = false from decide_eq_false fun x => h1 x.2]
      go_enter Tryz.func25, Tryz.ntmps25
      go_wp2
      go_ret
      exact ⟨rfl, rfl⟩
  · rw [show hasB len n = false from decide_eq_false fun x => h0 x.1]
    go_enter Tryz.func25, Tryz.ntmps25
    go_wp2
    go_ret
    exact ⟨rfl, rfl⟩
theorem rin (n lo hi : Int) (w : World) :
    Calls Tryz.prog 50 #[.int .i64 n, .int .i64 lo, .int .i64 hi] w fun e w' => e = .returned (.bool (inB n lo hi)) ∧ w = w' := by
  by_cases h0 : lo ≤ n
  · by_cases h1 : n ≤ hi
    · rw [show inB n lo hi = true from decide_eq_true ⟨h0, h1⟩]
      go_enter Tryz.func50, Tryz.ntmps50
      go_wp2
      go_ret
      exact ⟨rfl, rfl⟩
    · rw [show inB n lo hi = false from decide_eq_false fun x => h1 x.2]
      go_enter Tryz.func50, Tryz.ntmps50
      go_wp2
      go_ret
      exact ⟨rfl, rfl⟩
  · rw [show inB n lo hi = false from decide_eq_false fun x => h0 x.1]
    go_enter Tryz.func50, Tryz.ntmps50
    go_wp2
    go_ret
    exact ⟨rfl, rfl⟩
end Go.Proofs.YtgopjpnlpcmldaaGreatDoor.W
