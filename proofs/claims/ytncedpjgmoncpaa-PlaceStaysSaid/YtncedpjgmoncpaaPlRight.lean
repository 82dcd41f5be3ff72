/-
  Contracts of place.Right, place.Total, nat.Hold over int.
-/
import Derived.Test.YtncedpjgmoncpaaPlMem
import Derived.Deep.QuietTactic
import Derived.BigQuiet
namespace Go.Proofs.Ytncedpjgmoncpaa.W
set_option linter.unusedVariables false
set_option linter.unusedSimpArgs false
open Go.ChangeShapes Go.WideShapes Go.ChangeAt Go.RowKit

theorem hold64 (m : Int) (w : World) :
    Calls Try.prog 21 #[.int .i64 m, .int .i64 0, .int .i64 64] w fun e w' => e = .returned (.int .i64 (holdM m)) ∧ w = w' := by
  by_cases h0 : m < 0
  · rw [show holdM m = 0 from if_pos h0]
    go_enter Try.func21, Try.ntmps21
    go_wp2
    go_ret
    exact ⟨rfl, rfl⟩
  · by_cases h1 : 64 < m
    · rw [show holdM m = 64 from (if_neg h0).trans (if_pos h1)]
      go_enter Try.func21, Try.ntmps21
      go_wp2
      go_ret
      exact ⟨rfl, rfl⟩
    · rw [show holdM m = m from (if_neg h0).trans (if_neg h1)]
      go_enter Try.func21, Try.ntmps21
      go_wp2
      go_ret
      exact ⟨rfl, rfl⟩

set_option maxHeartbeats 2000000 in
theorem pRight (a : Option Addr) (cap : Nat) (l : List Sh) (hl : l.length ≤ 100000) (n : Int) (w : World) (HA : ShAt w a cap l) :
    Calls Try.prog 7 #[.slice a l.length cap, .int .i64 n] w fun e w' => e = .returned (.bool (rightH l n)) ∧ Below w.heap.size w w' := by
  have HR := Lib.hid HA
  clear HA
  go_enter Try.func7, Try.ntmps7
  go_wp2
  go_loopw [5, 10] (fun v3 x wr => ∃ k : Nat, k ≤ l.length ∧ x = .int .i64 k ∧ ∃ d : Int, v3 = .int .i64 d ∧ Below w.heap.size w wr ∧ Hid (RiseH n (-1) l ↔ RiseH n d (l.drop k))) (fun _ x _ => l.length - (intOf x).toNat)
  case atStart => exact ⟨0, Nat.zero_le _, rfl, -1, rfl, (by repeat' (first | exact Below.refl _ _ | assumption | exact And.left (by assumption) | refine Below.drew ?_ | refine below_drewN ?_ _ | refine Below.setCell ?_ (by first | (simp; done) | (simp; omega) | omega) _ | refine Below.alloc ?_ (by first | (simp; done) | (simp; omega) | omega) _ | refine after (by assumption) (by first | (simp; done) | (simp; omega) | omega) ?_)), Lib.hid (by simp)⟩
  case round =>
    obtain ⟨k, hk, rfl, d, rfl, hb, HI⟩ := hrel
    have hz := hb.size
    by_cases hlt : k < l.length
    · obtain ⟨b, off, ea, hbl, q0, q1⟩ := (HR.out.later hb).row.sh hlt
      subst ea
      have HN : Hid (RiseH n (-1) l ↔ d < l[k].node ∧ l[k].node < n ∧ 1 ≤ l[k].many ∧ l[k].many ≤ 64 ∧ RiseH n l[k].node (l.drop (k + 1))) := Lib.hid (by rw [HI.out, drop_at l k hlt]; exact Iff.rfl)
      clear HI
      generalize l[k] = s at q0 q1 HN
      by_cases h0 : s.node ≤ d
      · have E : Hid (rightH l n = false) := Lib.hid (decide_eq_false (fun x => by have := (HN.out.1 x).1; omega))
        go_wp2
        go_ret
        exact ⟨by rw [E.out]; rfl, (by repeat' (first | exact Below.refl _ _ | assumption | exact And.left (by assumption) | refine Below.drew ?_ | refine below_drewN ?_ _ | refine Below.setCell ?_ (by first | (simp; done) | (simp; omega) | omega) _ | refine Below.alloc ?_ (by first | (simp; done) | (simp; omega) | omega) _ | refine after (by assumption) (by first | (simp; done) | (simp; omega) | omega) ?_))⟩
      · by_cases h1 : n ≤ s.node
        · have E : Hid (rightH l n = false) := Lib.hid (decide_eq_false (fun x => by have := (HN.out.1 x).2.1; omega))
          go_wp2
          go_ret
          exact ⟨by rw [E.out]; rfl, (by repeat' (first | exact Below.refl _ _ | assumption | exact And.left (by assumption) | refine Below.drew ?_ | refine below_drewN ?_ _ | refine Below.setCell ?_ (by first | (simp; done) | (simp; omega) | omega) _ | refine Below.alloc ?_ (by first | (simp; done) | (simp; omega) | omega) _ | refine after (by assumption) (by first | (simp; done) | (simp; omega) | omega) ?_))⟩
        · by_cases h2 : s.many < 1
          · have E : Hid (rightH l n = false) := Lib.hid (decide_eq_false (fun x => by have := (HN.out.1 x).2.2.1; omega))
            go_wp2
            go_ret
            exact ⟨by rw [E.out]; rfl, (by repeat' (first | exact Below.refl _ _ | assumption | exact And.left (by assumption) | refine Below.drew ?_ | refine below_drewN ?_ _ | refine Below.setCell ?_ (by first | (simp; done) | (simp; omega) | omega) _ | refine Below.alloc ?_ (by first | (simp; done) | (simp; omega) | omega) _ | refine after (by assumption) (by first | (simp; done) | (simp; omega) | omega) ?_))⟩
          · by_cases h3 : 64 < s.many
            · have E : Hid (rightH l n = false) := Lib.hid (decide_eq_false (fun x => by have := (HN.out.1 x).2.2.2.1; omega))
              go_wp2
              go_ret
              exact ⟨by rw [E.out]; rfl, (by repeat' (first | exact Below.refl _ _ | assumption | exact And.left (by assumption) | refine Below.drew ?_ | refine below_drewN ?_ _ | refine Below.setCell ?_ (by first | (simp; done) | (simp; omega) | omega) _ | refine Below.alloc ?_ (by first | (simp; done) | (simp; omega) | omega) _ | refine after (by assumption) (by first | (simp; done) | (simp; omega) | omega) ?_))⟩
            · have HX : Hid (RiseH n (-1) l ↔ RiseH n s.node (l.drop (k + 1))) := Lib.hid (HN.out.trans ⟨fun x => x.2.2.2.2, fun x => ⟨by omega, by omega, by omega, by omega, x⟩⟩)
              clear HN
              go_wp2
              go_roundw
              case rel => exact ⟨k + 1, by omega, by go_num, s.node, rfl, (by repeat' (first | exact Below.refl _ _ | assumption | exact And.left (by assumption) | refine Below.drew ?_ | refine below_drewN ?_ _ | refine Below.setCell ?_ (by first | (simp; done) | (simp; omega) | omega) _ | refine Below.alloc ?_ (by first | (simp; done) | (simp; omega) | omega) _ | refine after (by assumption) (by first | (simp; done) | (simp; omega) | omega) ?_)), HX⟩
              case measure => simp [intOf]; omega
    · have hkl : k = l.length := by omega
      subst hkl
      have E : Hid (rightH l n = true) := Lib.hid (decide_eq_true (by
        have h := HI.out
        rw [List.drop_length] at h
        exact h.2 trivial))
      clear HI
      go_wp2
      go_ret
      exact ⟨by rw [E.out]; rfl, (by repeat' (first | exact Below.refl _ _ | assumption | exact And.left (by assumption) | refine Below.drew ?_ | refine below_drewN ?_ _ | refine Below.setCell ?_ (by first | (simp; done) | (simp; omega) | omega) _ | refine Below.alloc ?_ (by first | (simp; done) | (simp; omega) | omega) _ | refine after (by assumption) (by first | (simp; done) | (simp; omega) | omega) ?_))⟩

set_option maxHeartbeats 2000000 in
theorem pTotal (a : Option Addr) (cap : Nat) (l : List Sh) (hl : l.length ≤ 100000) (w : World) (HA : ShAt w a cap l) :
    Calls Try.prog 9 #[.slice a l.length cap] w fun e w' => e = .returned (.int .i64 (totalH l)) ∧ Below w.heap.size w w' := by
  have HR := Lib.hid HA
  have HH := Lib.hid hold64
  clear HA
  go_enter Try.func9, Try.ntmps9
  go_wp2
  go_loopw [3, 8] (fun v3 x wr => ∃ k : Nat, k ≤ l.length ∧ x = .int .i64 k ∧ ∃ d : Int, v3 = .int .i64 d ∧ Below w.heap.size w wr ∧ 0 ≤ d ∧ d ≤ 64 * k ∧ Hid (totalH l = d + totalH (l.drop k))) (fun _ x _ => l.length - (intOf x).toNat)
  case atStart => exact ⟨0, Nat.zero_le _, rfl, 0, rfl, (by repeat' (first | exact Below.refl _ _ | assumption | exact And.left (by assumption) | refine Below.drew ?_ | refine below_drewN ?_ _ | refine Below.setCell ?_ (by first | (simp; done) | (simp; omega) | omega) _ | refine Below.alloc ?_ (by first | (simp; done) | (simp; omega) | omega) _ | refine after (by assumption) (by first | (simp; done) | (simp; omega) | omega) ?_)), by omega, by omega, Lib.hid (by simp)⟩
  case round =>
    obtain ⟨k, hk, rfl, d, rfl, hb, hd0, hd1, HI⟩ := hrel
    have hz := hb.size
    by_cases hlt : k < l.length
    · obtain ⟨b, off, ea, hbl, q0, q1⟩ := (HR.out.later hb).row.sh hlt
      subst ea
      have HN : Hid (totalH l = d + (holdM l[k].many + totalH (l.drop (k + 1)))) := Lib.hid (by rw [HI.out, drop_at l k hlt]; rfl)
      clear HI
      generalize l[k] = s at q0 q1 HN
      have hbd := holdM_bd s.many
      have HS := Lib.hid (HH.out s.many)
      generalize holdM s.many = f at HN hbd HS
      have hwr : IntKind.i64.wrap (d + f) = d + f := IntWalk.i64_in _ (by omega)
      go_wp2_with fail
      refine (HS.out _).mono ?_; rintro e w2 ⟨rfl, rfl⟩
      go_wp2
      go_roundw
      case rel => exact ⟨k + 1, by omega, by go_num, d + f, rfl, (by repeat' (first | exact Below.refl _ _ | assumption | exact And.left (by assumption) | refine Below.drew ?_ | refine below_drewN ?_ _ | refine Below.setCell ?_ (by first | (simp; done) | (simp; omega) | omega) _ | refine Below.alloc ?_ (by first | (simp; done) | (simp; omega) | omega) _ | refine after (by assumption) (by first | (simp; done) | (simp; omega) | omega) ?_)), by omega, by omega, Lib.hid (by rw [HN.out, Int.add_assoc])⟩
      case measure => simp [intOf]; omega
    · have hkl : k = l.length := by omega
      have E : Hid (totalH l = d) := Lib.hid (by rw [HI.out, hkl, List.drop_length]; simp [totalH])
      clear HI
      go_wp2
      go_ret
      exact ⟨by rw [E.out]; rfl, (by repeat' (first | exact Below.refl _ _ | assumption | exact And.left (by assumption) | refine Below.drew ?_ | refine below_drewN ?_ _ | refine Below.setCell ?_ (by first | (simp; done) | (simp; omega) | omega) _ | refine Below.alloc ?_ (by first | (simp; done) | (simp; omega) | omega) _ | refine after (by assumption) (by first | (simp; done) | (simp; omega) | omega) ?_))⟩
end Go.Proofs.Ytncedpjgmoncpaa.W
