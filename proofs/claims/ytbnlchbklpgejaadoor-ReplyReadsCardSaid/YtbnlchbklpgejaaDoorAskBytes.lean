/-
  Contract of the judge's own comparison of two slices of bytes.
-/
import Derived.Test.YtbnlchbklpgejaaDoorBytes
import Derived.Test.YtbnlchbklpgejaaDoorVec
import Derived.Deep.QuietTactic
import Derived.BigQuiet
namespace Go.Proofs.YtbnlchbklpgejaaDoor.W
set_option linter.unusedVariables false
set_option linter.unusedSimpArgs false
open Go.ChangeShapes Go.WideShapes Go.ChangeAt Go.RowKit

theorem take_eq_succ8 {x y : List UInt8} {k : Nat} (h : x.take k = y.take k) (hx : k < x.length) (hy : k < y.length) (e : (x[k]'hx).toNat = (y[k]'hy).toNat) : x.take (k + 1) = y.take (k + 1) := by
  rw [take_snoc x k hx, take_snoc y k hy, h, UInt8.toNat_inj.1 e]
set_option maxHeartbeats 2000000 in
theorem bytesD (a b : Option Addr) (ca cb : Nat) (x y : List UInt8) (hx : x.length ≤ 1048576) (w : World) (ha : RowAt w a (bytesV x)) (hb : RowAt w b (bytesV y)) :
    Calls Tryd.prog 13 #[.slice a x.length ca, .slice b y.length cb] w fun e w' => e = .returned (.bool (decide (x = y))) ∧ Below w.heap.size w w' := by
  by_cases hl : x.length = y.length
  · have HA := Lib.hid ha
    have HB := Lib.hid hb
    have HL := Lib.hid hl
    clear ha hb
    rw [← hl]
    clear hl
    go_enter Tryd.func13, Tryd.ntmps13
    go_wp2
    go_loopw [5] (fun i wr => ∃ k : Nat, k ≤ x.length ∧ i = .int .i64 (k : Int) ∧ Hid (x.take k = y.take k) ∧ Below w.heap.size w wr) (fun i _ => x.length - (intOf i).toNat)
    case atStart => exact ⟨0, Nat.zero_le _, rfl, Lib.hid rfl, Below.refl _ _⟩
    case round =>
      obtain ⟨k, hk, rfl, HE, hbw⟩ := hrel
      by_cases hlt : k < x.length
      · have hlt2 : k < y.length := by have := HL.out; omega
        obtain ⟨b1, o1, e1, _, c1⟩ := (HA.out.later hbw).row (by rw [bytesV_len]; omega)
        obtain ⟨b2, o2, e2, _, c2⟩ := (HB.out.later hbw).row (by rw [bytesV_len]; omega)
        have d1 := c1 k _ (bytesV_at x k hlt)
        have d2 := c2 k _ (bytesV_at y k hlt2)
        have HT : Hid ((x[k]'hlt).toNat = (y[k]'hlt2).toNat → x.take (k + 1) = y.take (k + 1)) := Lib.hid (fun e => take_eq_succ8 HE.out hlt hlt2 e)
        have HF : Hid (¬ (x[k]'hlt).toNat = (y[k]'hlt2).toNat → decide (x = y) = false) := Lib.hid (fun e => decide_eq_false (fun h => e (by subst h; rfl)))
        have E1 := Lib.hid e1
        have E2 := Lib.hid e2
        clear c1 c2 e1 e2
        generalize (x[k]'hlt).toNat = p at d1 HT HF
        generalize (y[k]'hlt2).toNat = r at d2 HT HF
        clear hlt2
        obtain rfl := E1.out
        obtain rfl := E2.out
        by_cases he : p = r
        · subst he
          have HT2 := Lib.hid (HT.out rfl)
          clear HT HF
          go_wp2_with fail
          go_quiet (fail)
          go_wp2
          go_roundw
          case rel => exact ⟨k + 1, by omega, by go_num, HT2, (by repeat' (first | exact Below.refl _ _ | assumption | exact And.left (by assumption) | refine Below.drew ?_ | refine below_drewN ?_ _ | refine Below.setCell ?_ (by first | (simp; done) | (simp; omega) | omega) _ | refine Below.alloc ?_ (by first | (simp; done) | (simp; omega) | omega) _ | refine after (by assumption) (by first | (simp; done) | (simp; omega) | omega) ?_))⟩
          case measure => simp [intOf]; omega
        · have HD := Lib.hid (HF.out he)
          have q0 : ¬ ((p : Int) = (r : Int)) := by omega
          have q1 : ((p : Int) == (r : Int)) = false := by simpa using q0
          have q2 : ((p : Int) != (r : Int)) = true := by simpa using q0
          clear he q0 HT HF
          go_wp2_with fail
          go_quiet (fail)
          go_wp2
          go_ret
          exact ⟨by rw [HD.out]; rfl, (by repeat' (first | exact Below.refl _ _ | assumption | exact And.left (by assumption) | refine Below.drew ?_ | refine below_drewN ?_ _ | refine Below.setCell ?_ (by first | (simp; done) | (simp; omega) | omega) _ | refine Below.alloc ?_ (by first | (simp; done) | (simp; omega) | omega) _ | refine after (by assumption) (by first | (simp; done) | (simp; omega) | omega) ?_))⟩
      · have hkl : k = x.length := by omega
        subst hkl
        have HD : Hid (decide (x = y) = true) := Lib.hid (decide_eq_true (by
          have h1 := HE.out
          have h2 := HL.out
          rw [List.take_length] at h1
          rw [h1, List.take_of_length_le (by omega)]))
        go_wp2
        go_ret
        exact ⟨by rw [HD.out]; rfl, hbw⟩
  · have HD : Hid (decide (x = y) = false) := Lib.hid (decide_eq_false (fun e => hl (by rw [e])))
    have h1 : ¬ ((x.length : Int) = (y.length : Int)) := by omega
    have h2 : ((x.length : Int) == (y.length : Int)) = false := by simpa using h1
    have h3 : ((x.length : Int) != (y.length : Int)) = true := by simpa using h1
    clear hl ha hb
    go_enter Tryd.func13, Tryd.ntmps13
    go_wp2
    go_ret
    exact ⟨by rw [HD.out]; rfl, Below.refl _ _⟩
end Go.Proofs.YtbnlchbklpgejaaDoor.W
