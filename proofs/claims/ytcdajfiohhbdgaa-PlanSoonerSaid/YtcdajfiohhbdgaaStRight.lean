/-
  Contracts of steps.Right, steps.last, steps.At.
-/
import Derived.Test.YtcdajfiohhbdgaaStMem
namespace Go.Proofs.Ytcdajfiohhbdgaa.W
set_option linter.unusedVariables false
set_option linter.unusedSimpArgs false
open Go.ChangeShapes Go.WideShapes Go.ChangeAt Go.RowKit

set_option maxHeartbeats 1000000 in
theorem sRight (a : Option Addr) (cap : Nat) (l : List St) (hl : l.length ≤ 100000) (w : World) (HA : StAt w a cap l) :
    Calls Try.prog 45 #[.slice a l.length cap] w fun e w' => e = .returned (.bool (rightS l)) ∧ Below w.heap.size w w' := by
  have HR := Lib.hid HA
  clear HA
  go_enter Try.func45, Try.ntmps45
  go_wp2
  go_loopw [3, 8] (fun v3 x wr => ∃ k : Nat, k ≤ l.length ∧ x = .int .i64 k ∧ ∃ d : Int, v3 = .int .i64 d ∧ Below w.heap.size w wr ∧ Hid (Rise (-1) l ↔ Rise d (l.drop k))) (fun _ x _ => l.length - (intOf x).toNat)
  case atStart => exact ⟨0, Nat.zero_le _, rfl, -1, rfl, (by repeat' (first | exact Below.refl _ _ | assumption | exact And.left (by assumption) | refine Below.drew ?_ | refine below_drewN ?_ _ | refine Below.setCell ?_ (by first | (simp; done) | (simp; omega) | omega) _ | refine Below.alloc ?_ (by first | (simp; done) | (simp; omega) | omega) _ | refine after (by assumption) (by first | (simp; done) | (simp; omega) | omega) ?_)), Lib.hid (by simp)⟩
  case round =>
    obtain ⟨k, hk, rfl, d, rfl, hb, HI⟩ := hrel
    have hz := hb.size
    by_cases hlt : k < l.length
    · obtain ⟨b, off, ea, hbl, q0, q1, q2, q3, q4⟩ := (HR.out.later hb).row.step hlt
      subst ea
      have HN : Hid (Rise (-1) l ↔ d < l[k].at_ ∧ l[k].at_ ≤ 281474976710656 ∧ l[k].free.Ok ∧ Rise l[k].at_ (l.drop (k + 1))) := Lib.hid (by rw [HI.out, drop_at l k hlt]; exact Iff.rfl)
      clear HI
      generalize l[k] = s at q0 q1 q2 q3 q4 HN
      by_cases h0 : s.at_ ≤ d
      · have E : Hid (rightS l = false) := Lib.hid (decide_eq_false (fun x => by have := (HN.out.1 x.2).1; omega))
        go_wp2
        go_ret
        exact ⟨by rw [E.out]; rfl, (by repeat' (first | exact Below.refl _ _ | assumption | exact And.left (by assumption) | refine Below.drew ?_ | refine below_drewN ?_ _ | refine Below.setCell ?_ (by first | (simp; done) | (simp; omega) | omega) _ | refine Below.alloc ?_ (by first | (simp; done) | (simp; omega) | omega) _ | refine after (by assumption) (by first | (simp; done) | (simp; omega) | omega) ?_))⟩
      · by_cases h1 : 281474976710656 < s.at_
        · have E : Hid (rightS l = false) := Lib.hid (decide_eq_false (fun x => by have := (HN.out.1 x.2).2.1; omega))
          go_wp2
          go_ret
          exact ⟨by rw [E.out]; rfl, (by repeat' (first | exact Below.refl _ _ | assumption | exact And.left (by assumption) | refine Below.drew ?_ | refine below_drewN ?_ _ | refine Below.setCell ?_ (by first | (simp; done) | (simp; omega) | omega) _ | refine Below.alloc ?_ (by first | (simp; done) | (simp; omega) | omega) _ | refine after (by assumption) (by first | (simp; done) | (simp; omega) | omega) ?_))⟩
        · have HK := Lib.hid (fun w => right s.free w)
          by_cases ho : s.free.Ok
          · rw [right_yes ho] at HK
            have HX : Hid (Rise (-1) l ↔ Rise s.at_ (l.drop (k + 1))) := Lib.hid (HN.out.trans ⟨fun x => x.2.2.2, fun x => ⟨by omega, by omega, ho, x⟩⟩)
            clear ho HN
            go_wp2_with fail
            refine (HK.out _).mono ?_; rintro e w2 ⟨rfl, hb2⟩
            obtain ⟨hc2, hf2⟩ := bcell hb2
            have hz2 := hb2.size; try simp at hz2
            go_wp2
            go_roundw
            case rel => exact ⟨k + 1, by omega, by go_num, s.at_, rfl, (by repeat' (first | exact Below.refl _ _ | assumption | exact And.left (by assumption) | refine Below.drew ?_ | refine below_drewN ?_ _ | refine Below.setCell ?_ (by first | (simp; done) | (simp; omega) | omega) _ | refine Below.alloc ?_ (by first | (simp; done) | (simp; omega) | omega) _ | refine after (by assumption) (by first | (simp; done) | (simp; omega) | omega) ?_)), HX⟩
            case measure => simp [intOf]; omega
          · rw [right_no ho] at HK
            have E : Hid (rightS l = false) := Lib.hid (decide_eq_false (fun x => ho (HN.out.1 x.2).2.2.1))
            clear ho HN
            go_wp2_with fail
            refine (HK.out _).mono ?_; rintro e w2 ⟨rfl, hb2⟩
            obtain ⟨hc2, hf2⟩ := bcell hb2
            have hz2 := hb2.size; try simp at hz2
            go_wp2
            go_ret
            exact ⟨by rw [E.out]; rfl, (by repeat' (first | exact Below.refl _ _ | assumption | exact And.left (by assumption) | refine Below.drew ?_ | refine below_drewN ?_ _ | refine Below.setCell ?_ (by first | (simp; done) | (simp; omega) | omega) _ | refine Below.alloc ?_ (by first | (simp; done) | (simp; omega) | omega) _ | refine after (by assumption) (by first | (simp; done) | (simp; omega) | omega) ?_))⟩
    · have hkl : k = l.length := by omega
      subst hkl
      have E : Hid (rightS l = decide (0 < l.length)) := Lib.hid (by
        have h := HI.out
        rw [List.drop_length] at h
        unfold rightS
        rw [decide_eq_decide]
        exact ⟨fun x => List.length_pos_iff.2 x.1, fun x => ⟨List.length_pos_iff.1 x, h.2 trivial⟩⟩)
      clear HI
      by_cases h0 : 0 < l.length
      · go_wp2
        go_ret
        exact ⟨by rw [E.out, decide_eq_true h0]; rfl, (by repeat' (first | exact Below.refl _ _ | assumption | exact And.left (by assumption) | refine Below.drew ?_ | refine below_drewN ?_ _ | refine Below.setCell ?_ (by first | (simp; done) | (simp; omega) | omega) _ | refine Below.alloc ?_ (by first | (simp; done) | (simp; omega) | omega) _ | refine after (by assumption) (by first | (simp; done) | (simp; omega) | omega) ?_))⟩
      · have e0 : l.length = 0 := by omega
        go_wp2
        go_ret
        exact ⟨by rw [E.out, decide_eq_false h0]; rfl, (by repeat' (first | exact Below.refl _ _ | assumption | exact And.left (by assumption) | refine Below.drew ?_ | refine below_drewN ?_ _ | refine Below.setCell ?_ (by first | (simp; done) | (simp; omega) | omega) _ | refine Below.alloc ?_ (by first | (simp; done) | (simp; omega) | omega) _ | refine after (by assumption) (by first | (simp; done) | (simp; omega) | omega) ?_))⟩

theorem run_next {t : Int} {l : List St} {k : Nat} (h : k + 1 < l.length) : run t (l.drop (k + 1)) = if l[k + 1].at_ ≤ t then run t (l.drop (k + 1 + 1)) + 1 else 0 := by
  rw [drop_at l (k + 1) h, run]
set_option maxHeartbeats 1000000 in
theorem sLast (a : Option Addr) (cap : Nat) (l : List St) (hl : l.length ≤ 100000) (h0 : 0 < l.length) (t : Int) (w : World) (HA : StAt w a cap l) :
    Calls Try.prog 46 #[.slice a l.length cap, .int .i64 t] w fun e w' => e = .returned (.int .i64 (run t l.tail : Nat)) ∧ Below w.heap.size w w' := by
  have HR := Lib.hid HA
  clear HA
  go_enter Try.func46, Try.ntmps46
  go_wp2
  go_loopw [5] (fun x wr => ∃ k : Nat, k + 1 ≤ l.length ∧ x = .int .i64 k ∧ Below w.heap.size w wr ∧ Hid (run t l.tail = k + run t (l.drop (k + 1)))) (fun x _ => l.length - (intOf x).toNat)
  case atStart => exact ⟨0, h0, rfl, (by repeat' (first | exact Below.refl _ _ | assumption | exact And.left (by assumption) | refine Below.drew ?_ | refine below_drewN ?_ _ | refine Below.setCell ?_ (by first | (simp; done) | (simp; omega) | omega) _ | refine Below.alloc ?_ (by first | (simp; done) | (simp; omega) | omega) _ | refine after (by assumption) (by first | (simp; done) | (simp; omega) | omega) ?_)), Lib.hid (by rw [List.drop_one, Nat.zero_add])⟩
  case round =>
    obtain ⟨k, hk, rfl, hb, HI⟩ := hrel
    have hz := hb.size
    by_cases hlt : k + 1 < l.length
    · obtain ⟨b, off, ea, hbl, q0, q1, q2, q3, q4⟩ := (HR.out.later hb).row.step hlt
      subst ea
      have HN := Lib.hid (run_next (t := t) hlt)
      generalize l[k + 1] = s at q0 q1 q2 q3 q4 HN
      by_cases h1 : s.at_ ≤ t
      · have HX : Hid (run t l.tail = k + 1 + run t (l.drop (k + 1 + 1))) := Lib.hid (by rw [HI.out, HN.out, if_pos h1]; omega)
        clear HN HI
        go_wp2
        go_roundw
        case rel => exact ⟨k + 1, by omega, by go_num, (by repeat' (first | exact Below.refl _ _ | assumption | exact And.left (by assumption) | refine Below.drew ?_ | refine below_drewN ?_ _ | refine Below.setCell ?_ (by first | (simp; done) | (simp; omega) | omega) _ | refine Below.alloc ?_ (by first | (simp; done) | (simp; omega) | omega) _ | refine after (by assumption) (by first | (simp; done) | (simp; omega) | omega) ?_)), HX⟩
        case measure => simp [intOf]; omega
      · have HX : Hid (run t l.tail = k) := Lib.hid (by rw [HI.out, HN.out, if_neg h1]; rfl)
        clear HN HI
        go_wp2
        go_ret
        exact ⟨by rw [HX.out]; rfl, (by repeat' (first | exact Below.refl _ _ | assumption | exact And.left (by assumption) | refine Below.drew ?_ | refine below_drewN ?_ _ | refine Below.setCell ?_ (by first | (simp; done) | (simp; omega) | omega) _ | refine Below.alloc ?_ (by first | (simp; done) | (simp; omega) | omega) _ | refine after (by assumption) (by first | (simp; done) | (simp; omega) | omega) ?_))⟩
    · have hkl : k + 1 = l.length := by omega
      have HX : Hid (run t l.tail = k) := Lib.hid (by rw [HI.out, hkl, List.drop_length]; rfl)
      clear HI
      go_wp2
      go_ret
      exact ⟨by rw [HX.out]; rfl, (by repeat' (first | exact Below.refl _ _ | assumption | exact And.left (by assumption) | refine Below.drew ?_ | refine below_drewN ?_ _ | refine Below.setCell ?_ (by first | (simp; done) | (simp; omega) | omega) _ | refine Below.alloc ?_ (by first | (simp; done) | (simp; omega) | omega) _ | refine after (by assumption) (by first | (simp; done) | (simp; omega) | omega) ?_))⟩

/-- what is free, of a step function; nothing, if it is none -/
def atR (l : List St) (t : Int) : V := if OkS l then atL l t else V.zero
theorem begin_at {l : List St} (h : 0 < l.length) : begin_ l = l[0].at_ := by unfold begin_; simp [h]
theorem atL_no {l : List St} {t : Int} (h : 0 < l.length) (ht : t < l[0].at_) : atL l t = V.zero := by
  cases l with
  | nil => simp at h
  | cons s r => exact if_neg (by simp at ht; omega)
set_option maxHeartbeats 2000000 in
theorem sAt (a : Option Addr) (cap : Nat) (l : List St) (hl : l.length ≤ 100000) (t : Int) (w : World) (HA : StAt w a cap l) :
    Calls Try.prog 26 #[.slice a l.length cap, .int .i64 t] w fun e w' => e = .returned (.agg #[.int .i64 (atR l t).cpu, .int .i64 (atR l t).mem, .int .i64 (atR l t).gpu, .int .i64 (atR l t).lic]) ∧ Below w.heap.size w w' := by
  have HR := Lib.hid HA
  have HP := Lib.hid (fun w' h => sRight a cap l hl w' h)
  by_cases h : OkS l
  · rw [show rightS l = true from decide_eq_true h, show atR l t = atL l t from if_pos h] at *
    have hpos : 0 < l.length := List.length_pos_iff.2 h.1
    have HL := Lib.hid (fun w' h => sLast a cap l hl hpos t w' h)
    by_cases ht : l[0].at_ ≤ t
    · have HF := Lib.hid (lastOf_free h (t := t) (by rw [begin_at hpos]; exact ht))
      have hrun : run t l.tail < l.length := by
        have := run_lt t l.tail
        rw [List.length_tail] at this; omega
      have HG : Hid (l[run t l.tail].free = atL l t) := Lib.hid (by rw [← HF.out]; unfold lastOf; simp [hrun])
      obtain ⟨b, off, ea, hbl, q0, q1, q2, q3, q4⟩ := HA.row.first hpos
      obtain ⟨b', off', ea', hbl', r0, r1, r2, r3, r4⟩ := HA.row.step hrun
      rw [ea] at ea'
      simp only [Option.some.injEq, Addr.mk.injEq, and_true] at ea'
      obtain ⟨rfl, rfl⟩ := ea'
      rw [HG.out] at r1 r2 r3 r4
      generalize atL l t = v at r1 r2 r3 r4 ⊢
      generalize run t l.tail = k at hrun r0 r1 r2 r3 r4 HL
      generalize l[0] = s at q0 q1 q2 q3 q4 ht
      clear HF HG h HA r0
      subst ea
      go_enter Try.func26, Try.ntmps26
      go_wp2_with fail
      refine (HP.out _ (HR.out.later ?_)).mono ?_; exact (by repeat' (first | exact Below.refl _ _ | assumption | exact And.left (by assumption) | refine Below.drew ?_ | refine below_drewN ?_ _ | refine Below.setCell ?_ (by first | (simp; done) | (simp; omega) | omega) _ | refine Below.alloc ?_ (by first | (simp; done) | (simp; omega) | omega) _ | refine after (by assumption) (by first | (simp; done) | (simp; omega) | omega) ?_)); rintro e w1 ⟨rfl, hb1⟩; obtain ⟨hc1, hf1⟩ := bcell hb1; have hz1 := hb1.size; (try simp at hz1); have lt_w1_0 : w.heap.size < w1.heap.size := (by omega)
      go_wp2_with fail
      refine (HL.out _ (HR.out.later ?_)).mono ?_; exact (by repeat' (first | exact Below.refl _ _ | assumption | exact And.left (by assumption) | refine Below.drew ?_ | refine below_drewN ?_ _ | refine Below.setCell ?_ (by first | (simp; done) | (simp; omega) | omega) _ | refine Below.alloc ?_ (by first | (simp; done) | (simp; omega) | omega) _ | refine after (by assumption) (by first | (simp; done) | (simp; omega) | omega) ?_)); rintro e w2 ⟨rfl, hb2⟩; obtain ⟨hc2, hf2⟩ := bcell hb2; have hz2 := hb2.size; (try simp at hz2); have lt_w2_0 : w.heap.size < w2.heap.size := (by omega)
      have hW : Below w.heap.size w w2 := (by repeat' (first | exact Below.refl _ _ | assumption | exact And.left (by assumption) | refine Below.drew ?_ | refine below_drewN ?_ _ | refine Below.setCell ?_ (by first | (simp; done) | (simp; omega) | omega) _ | refine Below.alloc ?_ (by first | (simp; done) | (simp; omega) | omega) _ | refine after (by assumption) (by first | (simp; done) | (simp; omega) | omega) ?_))
      have m1 := carry hW r1
      have m2 : w2.cell? ⟨b, off + k * 5 + 1 + 1, none⟩ = some (.int .i64 v.mem) := carry hW r2
      have m3 : w2.cell? ⟨b, off + k * 5 + 1 + 2, none⟩ = some (.int .i64 v.gpu) := carry hW r3
      have m4 : w2.cell? ⟨b, off + k * 5 + 1 + 3, none⟩ = some (.int .i64 v.lic) := carry hW r4
      go_wp2
      exact bodyPost_ret (v := (.agg #[.int .i64 v.cpu, .int .i64 v.mem, .int .i64 v.gpu, .int .i64 v.lic])) (by simp [results, Try.results26, go_sem, *]) rfl ⟨rfl, (by repeat' (first | exact Below.refl _ _ | assumption | exact And.left (by assumption) | refine Below.drew ?_ | refine below_drewN ?_ _ | refine Below.setCell ?_ (by first | (simp; done) | (simp; omega) | omega) _ | refine Below.alloc ?_ (by first | (simp; done) | (simp; omega) | omega) _ | refine after (by assumption) (by first | (simp; done) | (simp; omega) | omega) ?_))⟩
    · have HZ := Lib.hid (atL_no (l := l) (t := t) hpos (by omega))
      rw [HZ.out]
      obtain ⟨b, off, ea, hbl, q0, q1, q2, q3, q4⟩ := HA.row.first hpos
      generalize l[0] = s at q0 q1 q2 q3 q4 ht
      clear h HA
      subst ea
      go_enter Try.func26, Try.ntmps26
      go_wp2_with fail
      refine (HP.out _ (HR.out.later ?_)).mono ?_; exact (by repeat' (first | exact Below.refl _ _ | assumption | exact And.left (by assumption) | refine Below.drew ?_ | refine below_drewN ?_ _ | refine Below.setCell ?_ (by first | (simp; done) | (simp; omega) | omega) _ | refine Below.alloc ?_ (by first | (simp; done) | (simp; omega) | omega) _ | refine after (by assumption) (by first | (simp; done) | (simp; omega) | omega) ?_)); rintro e w1 ⟨rfl, hb1⟩; obtain ⟨hc1, hf1⟩ := bcell hb1; have hz1 := hb1.size; (try simp at hz1); have lt_w1_0 : w.heap.size < w1.heap.size := (by omega)
      go_wp2
      exact bodyPost_ret (v := (.agg #[.int .i64 V.zero.cpu, .int .i64 V.zero.mem, .int .i64 V.zero.gpu, .int .i64 V.zero.lic])) (by simp [results, Try.results26, go_sem, V.zero, *]) rfl ⟨rfl, (by repeat' (first | exact Below.refl _ _ | assumption | exact And.left (by assumption) | refine Below.drew ?_ | refine below_drewN ?_ _ | refine Below.setCell ?_ (by first | (simp; done) | (simp; omega) | omega) _ | refine Below.alloc ?_ (by first | (simp; done) | (simp; omega) | omega) _ | refine after (by assumption) (by first | (simp; done) | (simp; omega) | omega) ?_))⟩
  · rw [show rightS l = false from decide_eq_false h, show atR l t = V.zero from if_neg h] at *
    clear h HA
    go_enter Try.func26, Try.ntmps26
    go_wp2_with fail
    refine (HP.out _ (HR.out.later ?_)).mono ?_; exact (by repeat' (first | exact Below.refl _ _ | assumption | exact And.left (by assumption) | refine Below.drew ?_ | refine below_drewN ?_ _ | refine Below.setCell ?_ (by first | (simp; done) | (simp; omega) | omega) _ | refine Below.alloc ?_ (by first | (simp; done) | (simp; omega) | omega) _ | refine after (by assumption) (by first | (simp; done) | (simp; omega) | omega) ?_)); rintro e w1 ⟨rfl, hb1⟩; obtain ⟨hc1, hf1⟩ := bcell hb1; have hz1 := hb1.size; (try simp at hz1); have lt_w1_0 : w.heap.size < w1.heap.size := (by omega)
    go_wp2
    exact bodyPost_ret (v := (.agg #[.int .i64 V.zero.cpu, .int .i64 V.zero.mem, .int .i64 V.zero.gpu, .int .i64 V.zero.lic])) (by simp [results, Try.results26, go_sem, V.zero, *]) rfl ⟨rfl, (by repeat' (first | exact Below.refl _ _ | assumption | exact And.left (by assumption) | refine Below.drew ?_ | refine below_drewN ?_ _ | refine Below.setCell ?_ (by first | (simp; done) | (simp; omega) | omega) _ | refine Below.alloc ?_ (by first | (simp; done) | (simp; omega) | omega) _ | refine after (by assumption) (by first | (simp; done) | (simp; omega) | omega) ?_))⟩
end Go.Proofs.Ytcdajfiohhbdgaa.W
