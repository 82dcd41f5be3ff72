/-
  Contracts of the document's own answers of layer 11: Right, Total, On, Same, Times; of Rising (layer 7).
-/
import Derived.Test.YtncedpjgmoncpaaPlMem
import Derived.Test.YtncedpjgmoncpaaVecRef
import Derived.Deep.QuietTactic
import Derived.BigQuiet
namespace Go.Proofs.Ytncedpjgmoncpaa.W
set_option linter.unusedVariables false
set_option linter.unusedSimpArgs false
open Go.ChangeShapes Go.WideShapes Go.ChangeAt Go.RowKit

def aheadH (l : List Sh) (k : Nat) : Int := if k = 0 then -1 else (l.getD (k - 1) default).node
set_option maxHeartbeats 4000000 in
theorem rShRight (a : Option Addr) (cap : Nat) (l : List Sh) (hl : l.length ≤ 100000) (n : Int) (w : World) (HA : ShAt w a cap l) :
    Calls Try.prog 8 #[.slice a l.length cap, .int .i64 n] w fun e w' => e = .returned (.bool (rightH l n)) ∧ Below w.heap.size w w' := by
  have HR := Lib.hid HA
  clear HA
  go_enter Try.func8, Try.ntmps8
  go_wp2
  go_loopw [5] (fun x wr => ∃ k : Nat, k ≤ l.length ∧ x = .int .i64 k ∧ Below w.heap.size w wr ∧ Hid ((RiseH n (-1) l ↔ RiseH n (aheadH l k) (l.drop k)) ∧ -1 ≤ aheadH l k)) (fun x _ => l.length - (intOf x).toNat)
  case atStart => exact ⟨0, Nat.zero_le _, rfl, (by repeat' (first | exact Below.refl _ _ | assumption | exact And.left (by assumption) | refine Below.drew ?_ | refine below_drewN ?_ _ | refine Below.setCell ?_ (by first | (simp; done) | (simp; omega) | omega) _ | refine Below.alloc ?_ (by first | (simp; done) | (simp; omega) | omega) _ | refine after (by assumption) (by first | (simp; done) | (simp; omega) | omega) ?_)), Lib.hid (by simp [aheadH])⟩
  case round =>
    obtain ⟨k, hk, rfl, hb, HI⟩ := hrel
    have hz := hb.size
    by_cases hlt : k < l.length
    · obtain ⟨b, off, ea, hbl, q0, q1⟩ := (HR.out.later hb).row.sh hlt
      have HN2 : Hid (RiseH n (-1) l ↔ aheadH l k < l[k].node ∧ (l[k].node < n ∧ 1 ≤ l[k].many ∧ l[k].many ≤ 64) ∧ RiseH n l[k].node (l.drop (k + 1))) := Lib.hid (by rw [HI.out.1, drop_at l k hlt]; exact (⟨fun x => ⟨x.1, ⟨x.2.1, x.2.2.1, x.2.2.2.1⟩, x.2.2.2.2⟩, fun x => ⟨x.1, x.2.1.1, x.2.1.2.1, x.2.1.2.2, x.2.2⟩⟩))
      have HB := Lib.hid HI.out.2
      have HP : Hid (aheadH l (k + 1) = l[k].node) := Lib.hid (by unfold aheadH; simp [hlt])
      have HJ : Hid (∀ j, k = j + 1 → ∃ pv, pv = aheadH l k ∧ wr.cell? ⟨b, off + j * 2, none⟩ = some (.int .i64 pv)) := Lib.hid (by
        rintro j rfl
        obtain ⟨b', off', ea', _, p0, _⟩ := (HR.out.later hb).row.sh (k := j) (by omega)
        rw [ea] at ea'
        simp only [Option.some.injEq, Addr.mk.injEq, and_true] at ea'
        obtain ⟨rfl, rfl⟩ := ea'
        refine ⟨_, rfl, ?_⟩
        rw [p0]; unfold aheadH; simp [show j < l.length by omega])
      subst ea
      clear HI
      generalize l[k] = s at q0 q1 HN2 HP
      have hk0 : (0 : Int) ≤ k := by omega
      have hk1 : (k : Int) < l.length := by omega
      have hkt : ((k : Int)).toNat = k := by omega
      by_cases c0 : s.node < 0
      · have g0 : decide (s.node < 0) = true := decide_eq_true c0
        have E : Hid (rightH l n = false) := Lib.hid (decide_eq_false (fun x => by have := HN2.out.1 x; have := HB.out; omega))
        clear HN2 HP HJ HB
        go_wp2_with fail
        go_quiet (fail)
        go_wp2
        go_ret
        exact ⟨by rw [E.out]; rfl, (by repeat' (first | exact Below.refl _ _ | assumption | exact And.left (by assumption) | refine Below.drew ?_ | refine below_drewN ?_ _ | refine Below.setCell ?_ (by first | (simp; done) | (simp; omega) | omega) _ | refine Below.alloc ?_ (by first | (simp; done) | (simp; omega) | omega) _ | refine after (by assumption) (by first | (simp; done) | (simp; omega) | omega) ?_))⟩
      · have g0 : decide (s.node < 0) = false := decide_eq_false c0
        by_cases c1 : n ≤ s.node
        · have g1 : decide (n ≤ s.node) = true := decide_eq_true c1
          have E : Hid (rightH l n = false) := Lib.hid (decide_eq_false (fun x => by have := HN2.out.1 x; omega))
          clear HN2 HP HJ HB
          go_wp2_with fail
          go_quiet (fail)
          go_wp2
          go_ret
          exact ⟨by rw [E.out]; rfl, (by repeat' (first | exact Below.refl _ _ | assumption | exact And.left (by assumption) | refine Below.drew ?_ | refine below_drewN ?_ _ | refine Below.setCell ?_ (by first | (simp; done) | (simp; omega) | omega) _ | refine Below.alloc ?_ (by first | (simp; done) | (simp; omega) | omega) _ | refine after (by assumption) (by first | (simp; done) | (simp; omega) | omega) ?_))⟩
        · have g1 : decide (n ≤ s.node) = false := decide_eq_false c1
          by_cases c2 : s.many < 1
          · have g2 : decide (s.many < 1) = true := decide_eq_true c2
            have E : Hid (rightH l n = false) := Lib.hid (decide_eq_false (fun x => by have := HN2.out.1 x; omega))
            clear HN2 HP HJ HB
            go_wp2_with fail
            go_quiet (fail)
            go_wp2
            go_ret
            exact ⟨by rw [E.out]; rfl, (by repeat' (first | exact Below.refl _ _ | assumption | exact And.left (by assumption) | refine Below.drew ?_ | refine below_drewN ?_ _ | refine Below.setCell ?_ (by first | (simp; done) | (simp; omega) | omega) _ | refine Below.alloc ?_ (by first | (simp; done) | (simp; omega) | omega) _ | refine after (by assumption) (by first | (simp; done) | (simp; omega) | omega) ?_))⟩
          · have g2 : decide (s.many < 1) = false := decide_eq_false c2
            by_cases c3 : 64 < s.many
            · have g3 : decide (64 < s.many) = true := decide_eq_true c3
              have E : Hid (rightH l n = false) := Lib.hid (decide_eq_false (fun x => by have := HN2.out.1 x; omega))
              clear HN2 HP HJ HB
              go_wp2_with fail
              go_quiet (fail)
              go_wp2
              go_ret
              exact ⟨by rw [E.out]; rfl, (by repeat' (first | exact Below.refl _ _ | assumption | exact And.left (by assumption) | refine Below.drew ?_ | refine below_drewN ?_ _ | refine Below.setCell ?_ (by first | (simp; done) | (simp; omega) | omega) _ | refine Below.alloc ?_ (by first | (simp; done) | (simp; omega) | omega) _ | refine after (by assumption) (by first | (simp; done) | (simp; omega) | omega) ?_))⟩
            · have g3 : decide (64 < s.many) = false := decide_eq_false c3
              have HX : Hid (aheadH l k < s.node → (RiseH n (-1) l ↔ RiseH n (aheadH l (k + 1)) (l.drop (k + 1))) ∧ -1 ≤ aheadH l (k + 1)) := Lib.hid (fun x => by
                rw [HP.out]
                exact ⟨HN2.out.trans ⟨fun y => y.2.2, fun y => ⟨x, by omega, y⟩⟩, by omega⟩)
              have HD : Hid (¬ aheadH l k < s.node → rightH l n = false) := Lib.hid (fun x => decide_eq_false (fun y => x (HN2.out.1 y).1))
              by_cases hz0 : k = 0
              · have HX := Lib.hid (HX.out (by rw [hz0]; unfold aheadH; simp; omega))
                have hzz : decide (0 < k) = false := by rw [hz0]; rfl
                clear HD HJ hz0 HN2 HP HB
                go_wp2_with fail
                go_quiet (fail)
                go_wp2
                go_roundw
                case rel => exact ⟨k + 1, by omega, by go_num, (by repeat' (first | exact Below.refl _ _ | assumption | exact And.left (by assumption) | refine Below.drew ?_ | refine below_drewN ?_ _ | refine Below.setCell ?_ (by first | (simp; done) | (simp; omega) | omega) _ | refine Below.alloc ?_ (by first | (simp; done) | (simp; omega) | omega) _ | refine after (by assumption) (by first | (simp; done) | (simp; omega) | omega) ?_)), HX⟩
                case measure => simp [intOf]; omega
              · obtain ⟨j, hj⟩ : ∃ j, k = j + 1 := ⟨k - 1, by omega⟩
                obtain ⟨pv, hp, p0⟩ := HJ.out j hj
                have hzz : decide (0 < k) = true := by simp; omega
                have hwr : IntKind.i64.wrap ((k : Int) - 1) = (j : Int) := by rw [show (k : Int) - 1 = (j : Int) by omega]; exact IntWalk.i64_in _ (by omega)
                have hj0 : (0 : Int) ≤ j := by omega
                have hj1 : (j : Int) < l.length := by omega
                have hjt : ((j : Int)).toNat = j := by omega
                rw [← hp] at HX HD
                have HJJ := Lib.hid hj
                clear hj hp hz0 HN2 HP HB HJ
                by_cases hq : s.node ≤ pv
                · have hqq : decide (s.node ≤ pv) = true := decide_eq_true hq
                  have E := Lib.hid (HD.out (by omega))
                  clear HX HD hq
                  go_wp2_with fail
                  go_quiet (fail)
                  go_wp2
                  go_ret
                  exact ⟨by rw [E.out]; rfl, (by repeat' (first | exact Below.refl _ _ | assumption | exact And.left (by assumption) | refine Below.drew ?_ | refine below_drewN ?_ _ | refine Below.setCell ?_ (by first | (simp; done) | (simp; omega) | omega) _ | refine Below.alloc ?_ (by first | (simp; done) | (simp; omega) | omega) _ | refine after (by assumption) (by first | (simp; done) | (simp; omega) | omega) ?_))⟩
                · have hqq : decide (s.node ≤ pv) = false := decide_eq_false hq
                  have HX := Lib.hid (HX.out (by omega))
                  clear HD hq
                  go_wp2_with fail
                  go_quiet (fail)
                  go_wp2
                  go_roundw
                  case rel => exact ⟨k + 1, by omega, by go_num, (by repeat' (first | exact Below.refl _ _ | assumption | exact And.left (by assumption) | refine Below.drew ?_ | refine below_drewN ?_ _ | refine Below.setCell ?_ (by first | (simp; done) | (simp; omega) | omega) _ | refine Below.alloc ?_ (by first | (simp; done) | (simp; omega) | omega) _ | refine after (by assumption) (by first | (simp; done) | (simp; omega) | omega) ?_)), HX⟩
                  case measure => simp [intOf]; omega
    · have hkl : k = l.length := by omega
      subst hkl
      have E : Hid (rightH l n = true) := Lib.hid (decide_eq_true (by
        have h := HI.out.1
        rw [List.drop_length] at h
        exact h.2 trivial))
      clear HI
      go_wp2
      go_ret
      exact ⟨by rw [E.out]; rfl, (by repeat' (first | exact Below.refl _ _ | assumption | exact And.left (by assumption) | refine Below.drew ?_ | refine below_drewN ?_ _ | refine Below.setCell ?_ (by first | (simp; done) | (simp; omega) | omega) _ | refine Below.alloc ?_ (by first | (simp; done) | (simp; omega) | omega) _ | refine after (by assumption) (by first | (simp; done) | (simp; omega) | omega) ?_))⟩

def aheadN (l : List Int) (k : Nat) : Int := if k = 0 then -1 else (l.getD (k - 1) default)
set_option maxHeartbeats 4000000 in
theorem rNmRising (a : Option Addr) (cap : Nat) (l : List Int) (hl : l.length ≤ 100000) (n : Int) (w : World) (HA : NmAt w a cap l) :
    Calls Try.prog 12 #[.slice a l.length cap, .int .i64 n] w fun e w' => e = .returned (.bool (risingB l n)) ∧ Below w.heap.size w w' := by
  have HR := Lib.hid HA
  clear HA
  go_enter Try.func12, Try.ntmps12
  go_wp2
  go_loopw [5] (fun x wr => ∃ k : Nat, k ≤ l.length ∧ x = .int .i64 k ∧ Below w.heap.size w wr ∧ Hid ((RiseN n (-1) l ↔ RiseN n (aheadN l k) (l.drop k)) ∧ -1 ≤ aheadN l k)) (fun x _ => l.length - (intOf x).toNat)
  case atStart => exact ⟨0, Nat.zero_le _, rfl, (by repeat' (first | exact Below.refl _ _ | assumption | exact And.left (by assumption) | refine Below.drew ?_ | refine below_drewN ?_ _ | refine Below.setCell ?_ (by first | (simp; done) | (simp; omega) | omega) _ | refine Below.alloc ?_ (by first | (simp; done) | (simp; omega) | omega) _ | refine after (by assumption) (by first | (simp; done) | (simp; omega) | omega) ?_)), Lib.hid (by simp [aheadN])⟩
  case round =>
    obtain ⟨k, hk, rfl, hb, HI⟩ := hrel
    have hz := hb.size
    by_cases hlt : k < l.length
    · obtain ⟨b, off, ea, hbl, q0⟩ := (HR.out.later hb).row.nm hlt
      have HN2 : Hid (RiseN n (-1) l ↔ aheadN l k < l[k] ∧ l[k] < n ∧ RiseN n l[k] (l.drop (k + 1))) := Lib.hid (by rw [HI.out.1, drop_at l k hlt]; exact (Iff.rfl))
      have HB := Lib.hid HI.out.2
      have HP : Hid (aheadN l (k + 1) = l[k]) := Lib.hid (by unfold aheadN; simp [hlt])
      have HJ : Hid (∀ j, k = j + 1 → ∃ pv, pv = aheadN l k ∧ wr.cell? ⟨b, off + j, none⟩ = some (.int .i64 pv)) := Lib.hid (by
        rintro j rfl
        obtain ⟨b', off', ea', _, p0⟩ := (HR.out.later hb).row.nm (k := j) (by omega)
        rw [ea] at ea'
        simp only [Option.some.injEq, Addr.mk.injEq, and_true] at ea'
        obtain ⟨rfl, rfl⟩ := ea'
        refine ⟨_, rfl, ?_⟩
        rw [p0]; unfold aheadN; simp [show j < l.length by omega])
      subst ea
      clear HI
      generalize l[k] = s at q0 HN2 HP
      have hk0 : (0 : Int) ≤ k := by omega
      have hk1 : (k : Int) < l.length := by omega
      have hkt : ((k : Int)).toNat = k := by omega
      by_cases c0 : s < 0
      · have g0 : decide (s < 0) = true := decide_eq_true c0
        have E : Hid (risingB l n = false) := Lib.hid (decide_eq_false (fun x => by have := HN2.out.1 x; have := HB.out; omega))
        clear HN2 HP HJ HB
        go_wp2_with fail
        go_quiet (fail)
        go_wp2
        go_ret
        exact ⟨by rw [E.out]; rfl, (by repeat' (first | exact Below.refl _ _ | assumption | exact And.left (by assumption) | refine Below.drew ?_ | refine below_drewN ?_ _ | refine Below.setCell ?_ (by first | (simp; done) | (simp; omega) | omega) _ | refine Below.alloc ?_ (by first | (simp; done) | (simp; omega) | omega) _ | refine after (by assumption) (by first | (simp; done) | (simp; omega) | omega) ?_))⟩
      · have g0 : decide (s < 0) = false := decide_eq_false c0
        by_cases c1 : n ≤ s
        · have g1 : decide (n ≤ s) = true := decide_eq_true c1
          have E : Hid (risingB l n = false) := Lib.hid (decide_eq_false (fun x => by have := HN2.out.1 x; omega))
          clear HN2 HP HJ HB
          go_wp2_with fail
          go_quiet (fail)
          go_wp2
          go_ret
          exact ⟨by rw [E.out]; rfl, (by repeat' (first | exact Below.refl _ _ | assumption | exact And.left (by assumption) | refine Below.drew ?_ | refine below_drewN ?_ _ | refine Below.setCell ?_ (by first | (simp; done) | (simp; omega) | omega) _ | refine Below.alloc ?_ (by first | (simp; done) | (simp; omega) | omega) _ | refine after (by assumption) (by first | (simp; done) | (simp; omega) | omega) ?_))⟩
        · have g1 : decide (n ≤ s) = false := decide_eq_false c1
          have HX : Hid (aheadN l k < s → (RiseN n (-1) l ↔ RiseN n (aheadN l (k + 1)) (l.drop (k + 1))) ∧ -1 ≤ aheadN l (k + 1)) := Lib.hid (fun x => by
            rw [HP.out]
            exact ⟨HN2.out.trans ⟨fun y => y.2.2, fun y => ⟨x, by omega, y⟩⟩, by omega⟩)
          have HD : Hid (¬ aheadN l k < s → risingB l n = false) := Lib.hid (fun x => decide_eq_false (fun y => x (HN2.out.1 y).1))
          by_cases hz0 : k = 0
          · have HX := Lib.hid (HX.out (by rw [hz0]; unfold aheadN; simp; omega))
            have hzz : decide (0 < k) = false := by rw [hz0]; rfl
            clear HD HJ hz0 HN2 HP HB
            go_wp2_with fail
            go_quiet (fail)
            go_wp2
            go_roundw
            case rel => exact ⟨k + 1, by omega, by go_num, (by repeat' (first | exact Below.refl _ _ | assumption | exact And.left (by assumption) | refine Below.drew ?_ | refine below_drewN ?_ _ | refine Below.setCell ?_ (by first | (simp; done) | (simp; omega) | omega) _ | refine Below.alloc ?_ (by first | (simp; done) | (simp; omega) | omega) _ | refine after (by assumption) (by first | (simp; done) | (simp; omega) | omega) ?_)), HX⟩
            case measure => simp [intOf]; omega
          · obtain ⟨j, hj⟩ : ∃ j, k = j + 1 := ⟨k - 1, by omega⟩
            obtain ⟨pv, hp, p0⟩ := HJ.out j hj
            have hzz : decide (0 < k) = true := by simp; omega
            have hwr : IntKind.i64.wrap ((k : Int) - 1) = (j : Int) := by rw [show (k : Int) - 1 = (j : Int) by omega]; exact IntWalk.i64_in _ (by omega)
            have hj0 : (0 : Int) ≤ j := by omega
            have hj1 : (j : Int) < l.length := by omega
            have hjt : ((j : Int)).toNat = j := by omega
            rw [← hp] at HX HD
            have HJJ := Lib.hid hj
            clear hj hp hz0 HN2 HP HB HJ
            by_cases hq : s ≤ pv
            · have hqq : decide (s ≤ pv) = true := decide_eq_true hq
              have E := Lib.hid (HD.out (by omega))
              clear HX HD hq
              go_wp2_with fail
              go_quiet (fail)
              go_wp2
              go_ret
              exact ⟨by rw [E.out]; rfl, (by repeat' (first | exact Below.refl _ _ | assumption | exact And.left (by assumption) | refine Below.drew ?_ | refine below_drewN ?_ _ | refine Below.setCell ?_ (by first | (simp; done) | (simp; omega) | omega) _ | refine Below.alloc ?_ (by first | (simp; done) | (simp; omega) | omega) _ | refine after (by assumption) (by first | (simp; done) | (simp; omega) | omega) ?_))⟩
            · have hqq : decide (s ≤ pv) = false := decide_eq_false hq
              have HX := Lib.hid (HX.out (by omega))
              clear HD hq
              go_wp2_with fail
              go_quiet (fail)
              go_wp2
              go_roundw
              case rel => exact ⟨k + 1, by omega, by go_num, (by repeat' (first | exact Below.refl _ _ | assumption | exact And.left (by assumption) | refine Below.drew ?_ | refine below_drewN ?_ _ | refine Below.setCell ?_ (by first | (simp; done) | (simp; omega) | omega) _ | refine Below.alloc ?_ (by first | (simp; done) | (simp; omega) | omega) _ | refine after (by assumption) (by first | (simp; done) | (simp; omega) | omega) ?_)), HX⟩
              case measure => simp [intOf]; omega
    · have hkl : k = l.length := by omega
      subst hkl
      have E : Hid (risingB l n = true) := Lib.hid (decide_eq_true (by
        have h := HI.out.1
        rw [List.drop_length] at h
        exact h.2 trivial))
      clear HI
      go_wp2
      go_ret
      exact ⟨by rw [E.out]; rfl, (by repeat' (first | exact Below.refl _ _ | assumption | exact And.left (by assumption) | refine Below.drew ?_ | refine below_drewN ?_ _ | refine Below.setCell ?_ (by first | (simp; done) | (simp; omega) | omega) _ | refine Below.alloc ?_ (by first | (simp; done) | (simp; omega) | omega) _ | refine after (by assumption) (by first | (simp; done) | (simp; omega) | omega) ?_))⟩

set_option maxHeartbeats 2000000 in
theorem rShTotal (a : Option Addr) (cap : Nat) (l : List Sh) (hl : l.length ≤ 100000) (w : World) (HA : ShAt w a cap l) :
    Calls Try.prog 10 #[.slice a l.length cap] w fun e w' => e = .returned (.int .i64 (totalH l)) ∧ Below w.heap.size w w' := by
  have HR := Lib.hid HA
  clear HA
  go_enter Try.func10, Try.ntmps10
  go_wp2
  go_loopw [3, 4] (fun v3 x wr => ∃ k : Nat, k ≤ l.length ∧ x = .int .i64 k ∧ ∃ d : Int, v3 = .int .i64 d ∧ Below w.heap.size w wr ∧ 0 ≤ d ∧ d ≤ 64 * k ∧ Hid (totalH l = d + totalH (l.drop k))) (fun _ x _ => l.length - (intOf x).toNat)
  case atStart => exact ⟨0, Nat.zero_le _, rfl, 0, rfl, (by repeat' (first | exact Below.refl _ _ | assumption | exact And.left (by assumption) | refine Below.drew ?_ | refine below_drewN ?_ _ | refine Below.setCell ?_ (by first | (simp; done) | (simp; omega) | omega) _ | refine Below.alloc ?_ (by first | (simp; done) | (simp; omega) | omega) _ | refine after (by assumption) (by first | (simp; done) | (simp; omega) | omega) ?_)), by omega, by omega, Lib.hid (by simp)⟩
  case round =>
    obtain ⟨k, hk, rfl, d, rfl, hb, hd0, hd1, HI⟩ := hrel
    have hz := hb.size
    by_cases hlt : k < l.length
    · obtain ⟨b, off, ea, hbl, q0, q1⟩ := (HR.out.later hb).row.sh hlt
      subst ea
      have HN : Hid (totalH l = d + (holdM l[k].many + totalH (l.drop (k + 1)))) := Lib.hid (by rw [HI.out, drop_at l k hlt]; rfl)
      clear HI
      generalize l[k] = s at q0 q1 HN
      by_cases h0 : 64 < s.many
      · have HX : Hid (totalH l = d + 64 + totalH (l.drop (k + 1))) := Lib.hid (by rw [HN.out, show holdM s.many = 64 from (if_neg (by omega)).trans (if_pos h0), Int.add_assoc])
        go_wp2
        go_roundw
        case rel => exact ⟨k + 1, by omega, by go_num, d + 64, rfl, (by repeat' (first | exact Below.refl _ _ | assumption | exact And.left (by assumption) | refine Below.drew ?_ | refine below_drewN ?_ _ | refine Below.setCell ?_ (by first | (simp; done) | (simp; omega) | omega) _ | refine Below.alloc ?_ (by first | (simp; done) | (simp; omega) | omega) _ | refine after (by assumption) (by first | (simp; done) | (simp; omega) | omega) ?_)), by omega, by omega, HX⟩
        case measure => simp [intOf]; omega
      · by_cases h1 : 0 < s.many
        · have HX : Hid (totalH l = d + s.many + totalH (l.drop (k + 1))) := Lib.hid (by rw [HN.out, hold_in ⟨by omega, by omega⟩, Int.add_assoc])
          go_wp2
          go_roundw
          case rel => exact ⟨k + 1, by omega, by go_num, d + s.many, rfl, (by repeat' (first | exact Below.refl _ _ | assumption | exact And.left (by assumption) | refine Below.drew ?_ | refine below_drewN ?_ _ | refine Below.setCell ?_ (by first | (simp; done) | (simp; omega) | omega) _ | refine Below.alloc ?_ (by first | (simp; done) | (simp; omega) | omega) _ | refine after (by assumption) (by first | (simp; done) | (simp; omega) | omega) ?_)), by omega, by omega, HX⟩
          case measure => simp [intOf]; omega
        · have HX : Hid (totalH l = d + totalH (l.drop (k + 1))) := Lib.hid (by
            have : holdM s.many = 0 := by unfold holdM; split <;> simp_all; omega
            rw [HN.out, this, Int.zero_add])
          go_wp2
          go_roundw
          case rel => exact ⟨k + 1, by omega, by go_num, d, rfl, (by repeat' (first | exact Below.refl _ _ | assumption | exact And.left (by assumption) | refine Below.drew ?_ | refine below_drewN ?_ _ | refine Below.setCell ?_ (by first | (simp; done) | (simp; omega) | omega) _ | refine Below.alloc ?_ (by first | (simp; done) | (simp; omega) | omega) _ | refine after (by assumption) (by first | (simp; done) | (simp; omega) | omega) ?_)), by omega, by omega, HX⟩
          case measure => simp [intOf]; omega
    · have hkl : k = l.length := by omega
      have E : Hid (totalH l = d) := Lib.hid (by rw [HI.out, hkl, List.drop_length]; simp [totalH])
      clear HI
      go_wp2
      go_ret
      exact ⟨by rw [E.out]; rfl, (by repeat' (first | exact Below.refl _ _ | assumption | exact And.left (by assumption) | refine Below.drew ?_ | refine below_drewN ?_ _ | refine Below.setCell ?_ (by first | (simp; done) | (simp; omega) | omega) _ | refine Below.alloc ?_ (by first | (simp; done) | (simp; omega) | omega) _ | refine after (by assumption) (by first | (simp; done) | (simp; omega) | omega) ?_))⟩

set_option maxHeartbeats 2000000 in
theorem rShOn (a : Option Addr) (cap : Nat) (l : List Sh) (hl : l.length ≤ 100000) (n : Int) (hm : ∀ s ∈ l, 1 ≤ s.many ∧ s.many ≤ 64) (w : World) (HA : ShAt w a cap l) :
    Calls Try.prog 18 #[.slice a l.length cap, .int .i64 n] w fun e w' => e = .returned (.int .i64 (onH n l)) ∧ Below w.heap.size w w' := by
  have HR := Lib.hid HA
  have HM := Lib.hid hm
  clear HA hm
  go_enter Try.func18, Try.ntmps18
  go_wp2
  go_loopw [5, 6] (fun v3 x wr => ∃ k : Nat, k ≤ l.length ∧ x = .int .i64 k ∧ ∃ d : Int, v3 = .int .i64 d ∧ Below w.heap.size w wr ∧ 0 ≤ d ∧ d ≤ 64 * k ∧ Hid (onH n l = d + onH n (l.drop k))) (fun _ x _ => l.length - (intOf x).toNat)
  case atStart => exact ⟨0, Nat.zero_le _, rfl, 0, rfl, (by repeat' (first | exact Below.refl _ _ | assumption | exact And.left (by assumption) | refine Below.drew ?_ | refine below_drewN ?_ _ | refine Below.setCell ?_ (by first | (simp; done) | (simp; omega) | omega) _ | refine Below.alloc ?_ (by first | (simp; done) | (simp; omega) | omega) _ | refine after (by assumption) (by first | (simp; done) | (simp; omega) | omega) ?_)), by omega, by omega, Lib.hid (by simp)⟩
  case round =>
    obtain ⟨k, hk, rfl, d, rfl, hb, hd0, hd1, HI⟩ := hrel
    have hz := hb.size
    by_cases hlt : k < l.length
    · obtain ⟨b, off, ea, hbl, q0, q1⟩ := (HR.out.later hb).row.sh hlt
      subst ea
      have HN : Hid (onH n l = d + ((if l[k].node = n then l[k].many else 0) + onH n (l.drop (k + 1)))) := Lib.hid (by rw [HI.out, drop_at l k hlt]; rfl)
      have hsm := HM.out l[k] (List.getElem_mem hlt)
      clear HI
      generalize l[k] = s at q0 q1 HN hsm
      by_cases h0 : s.node = n
      · have g0 : (s.node == n) = true := by simpa using h0
        have HX : Hid (onH n l = d + s.many + onH n (l.drop (k + 1))) := Lib.hid (by rw [HN.out, if_pos h0, Int.add_assoc])
        clear h0
        go_wp2
        go_roundw
        case rel => exact ⟨k + 1, by omega, by go_num, d + s.many, rfl, (by repeat' (first | exact Below.refl _ _ | assumption | exact And.left (by assumption) | refine Below.drew ?_ | refine below_drewN ?_ _ | refine Below.setCell ?_ (by first | (simp; done) | (simp; omega) | omega) _ | refine Below.alloc ?_ (by first | (simp; done) | (simp; omega) | omega) _ | refine after (by assumption) (by first | (simp; done) | (simp; omega) | omega) ?_)), by omega, by omega, HX⟩
        case measure => simp [intOf]; omega
      · have g0 : (s.node == n) = false := by simpa using h0
        have HX : Hid (onH n l = d + onH n (l.drop (k + 1))) := Lib.hid (by rw [HN.out, if_neg h0, Int.zero_add])
        clear h0
        go_wp2
        go_roundw
        case rel => exact ⟨k + 1, by omega, by go_num, d, rfl, (by repeat' (first | exact Below.refl _ _ | assumption | exact And.left (by assumption) | refine Below.drew ?_ | refine below_drewN ?_ _ | refine Below.setCell ?_ (by first | (simp; done) | (simp; omega) | omega) _ | refine Below.alloc ?_ (by first | (simp; done) | (simp; omega) | omega) _ | refine after (by assumption) (by first | (simp; done) | (simp; omega) | omega) ?_)), by omega, by omega, HX⟩
        case measure => simp [intOf]; omega
    · have hkl : k = l.length := by omega
      have E : Hid (onH n l = d) := Lib.hid (by rw [HI.out, hkl, List.drop_length]; simp [onH])
      clear HI
      go_wp2
      go_ret
      exact ⟨by rw [E.out]; rfl, (by repeat' (first | exact Below.refl _ _ | assumption | exact And.left (by assumption) | refine Below.drew ?_ | refine below_drewN ?_ _ | refine Below.setCell ?_ (by first | (simp; done) | (simp; omega) | omega) _ | refine Below.alloc ?_ (by first | (simp; done) | (simp; omega) | omega) _ | refine after (by assumption) (by first | (simp; done) | (simp; omega) | omega) ?_))⟩

theorem sh_first {a b : Sh} (h : ¬ a = b) : (a.node == b.node) = false ∨ ((a.node == b.node) = true ∧ (a.many == b.many) = false) := by
  by_cases h0 : a.node = b.node
  · exact .inr ⟨by simpa using h0, by simpa using fun x => h (Sh.ext' h0 x)⟩
  · exact .inl (by simpa using h0)
theorem take_next {α : Type} {x y : List α} {k : Nat} (h : x.take k = y.take k) (hx : k < x.length) (hy : k < y.length) (e : x[k] = y[k]) : x.take (k + 1) = y.take (k + 1) := by
  rw [take_app x k hx, take_app y k hy, h, e]
set_option maxHeartbeats 2000000 in
theorem rShSame (a b : Option Addr) (ca cb : Nat) (x y : List Sh) (hx : x.length ≤ 100000) (hy : y.length ≤ 100000) (w : World) (ha : ShAt w a ca x) (hb : ShAt w b cb y) :
    Calls Try.prog 20 #[.slice a x.length ca, .slice b y.length cb] w fun e w' => e = .returned (.bool (decide (x = y))) ∧ Below w.heap.size w w' := by
  by_cases hl : x.length = y.length
  · have HA := Lib.hid ha
    have HB := Lib.hid hb
    have HL := Lib.hid hl
    clear ha hb
    rw [← hl]
    clear hl hy
    go_enter Try.func20, Try.ntmps20
    go_wp2
    go_loopw [5] (fun i wr => ∃ k : Nat, k ≤ x.length ∧ i = .int .i64 (k : Int) ∧ Hid (x.take k = y.take k) ∧ Below w.heap.size w wr) (fun i _ => x.length - (intOf i).toNat)
    case atStart => exact ⟨0, Nat.zero_le _, rfl, Lib.hid rfl, Below.refl _ _⟩
    case round =>
      obtain ⟨k, hk, rfl, HE, hbw⟩ := hrel
      by_cases hlt : k < x.length
      · have hlt2 : k < y.length := by have := HL.out; omega
        obtain ⟨b1, o1, e1, _, c0, c1⟩ := (HA.out.later hbw).row.sh hlt
        obtain ⟨b2, o2, e2, _, d0, d1⟩ := (HB.out.later hbw).row.sh hlt2
        have HT : Hid (x[k] = y[k] → x.take (k + 1) = y.take (k + 1)) := Lib.hid (fun e => take_next HE.out hlt hlt2 e)
        have HF := Lib.hid (fun (e : ¬ x[k] = y[k]) => (decide_eq_false (fun (h : x = y) => e (by subst h; rfl)) : decide (x = y) = false))
        have E1 := Lib.hid e1
        have E2 := Lib.hid e2
        clear e1 e2
        generalize x[k] = p at c0 c1 HT HF
        generalize y[k] = r at d0 d1 HT HF
        clear hlt2
        obtain rfl := E1.out
        obtain rfl := E2.out
        by_cases he : p = r
        · subst he
          have HT2 := Lib.hid (HT.out rfl)
          clear HT HF
          go_wp2_with fail
          go_quiet (fail)
          go_wp2
          go_roundw
          case rel => exact ⟨k + 1, by omega, by go_num, HT2, (by repeat' (first | exact Below.refl _ _ | assumption | exact And.left (by assumption) | refine Below.drew ?_ | refine below_drewN ?_ _ | refine Below.setCell ?_ (by first | (simp; done) | (simp; omega) | omega) _ | refine Below.alloc ?_ (by first | (simp; done) | (simp; omega) | omega) _ | refine after (by assumption) (by first | (simp; done) | (simp; omega) | omega) ?_))⟩
          case measure => simp [intOf]; omega
        · have HD := Lib.hid (HF.out he)
          have key := sh_first he
          clear he HT HF
          rcases key with h1 | ⟨h1, h2⟩
          all_goals
            go_wp2_with fail
            go_quiet (fail)
            go_wp2
            go_ret
            exact ⟨by rw [HD.out]; rfl, (by repeat' (first | exact Below.refl _ _ | assumption | exact And.left (by assumption) | refine Below.drew ?_ | refine below_drewN ?_ _ | refine Below.setCell ?_ (by first | (simp; done) | (simp; omega) | omega) _ | refine Below.alloc ?_ (by first | (simp; done) | (simp; omega) | omega) _ | refine after (by assumption) (by first | (simp; done) | (simp; omega) | omega) ?_))⟩
      · have hkl : k = x.length := by omega
        subst hkl
        have HD : Hid (decide (x = y) = true) := Lib.hid (decide_eq_true (by
          have h1 := HE.out
          have h2 := HL.out
          rw [List.take_length] at h1
          rw [h1, List.take_of_length_le (by omega)]))
        go_wp2
        go_ret
        exact ⟨by rw [HD.out]; rfl, hbw⟩
  · have HD : Hid (decide (x = y) = false) := Lib.hid (decide_eq_false (fun e => hl (by rw [e])))
    have h1 : ¬ ((x.length : Int) = (y.length : Int)) := by omega
    have h2 : ((x.length : Int) == (y.length : Int)) = false := by simpa using h1
    have h3 : ((x.length : Int) != (y.length : Int)) = true := by simpa using h1
    clear hl ha hb
    go_enter Try.func20, Try.ntmps20
    go_wp2
    go_ret
    exact ⟨by rw [HD.out]; rfl, (by repeat' (first | exact Below.refl _ _ | assumption | exact And.left (by assumption) | refine Below.drew ?_ | refine below_drewN ?_ _ | refine Below.setCell ?_ (by first | (simp; done) | (simp; omega) | omega) _ | refine Below.alloc ?_ (by first | (simp; done) | (simp; omega) | omega) _ | refine after (by assumption) (by first | (simp; done) | (simp; omega) | omega) ?_))⟩
end Go.Proofs.Ytncedpjgmoncpaa.W
