/-
  Contract of the document's own queues.
-/
import Derived.Test.YtgopjpnlpcmldaaGreatDoorSpecRRise
namespace Go.Proofs.YtgopjpnlpcmldaaGreatDoor.W
set_option linter.unusedVariables false
set_option linter.unusedSimpArgs false
open Go.ChangeShapes Go.WideShapes Go.ChangeAt Go.RowKit

set_option maxHeartbeats 4000000 in
theorem rqueues (s : S) (qa : Option Addr) (hqa : s.qa = qa) (w : World) (HR : Rows w s) (hfew : s.queues.length ≤ 40) (hs : ∀ q ∈ s.queues, q.users.l.length ≤ 1000) :
    Calls Tryz.prog 53 #[.agg #[.slice s.na s.nodes.length s.nc, .slice s.pa s.parts.length s.pc, .slice s.qa s.queues.length s.qc, .int .i64 s.users, .int .i64 s.age, .int .i64 s.size, .int .i64 s.qos, .int .i64 s.share, .int .i64 s.decay, .int .i64 s.mode, .int .i64 s.jobs, .int .i64 s.ids, .int .i64 s.versions, .int .i64 s.linger, .int .i64 s.keep, .int .i64 s.inn, .int .i64 s.out, .int .i64 s.cache]] w fun e w' => e = .returned (.bool (queuesB s)) ∧ Below w.heap.size w w' := by
  have HN := Lib.hid hqa
  have HR := Lib.hid HR
  have HW := Lib.hid hs
  rw [hqa]
  clear hqa hs
  have HT := Lib.hid (show (∀ i (hi : i < s.queues.length), QueueOk s s.queues[i]) → queuesB s = inB s.queues.length 1 8 from fun hh => by
    unfold queuesB inB QueuesOk
    congr 1
    rw [eq_iff_iff]
    constructor
    · intro x; omega
    · intro x; exact ⟨by omega, fun v hv => by obtain ⟨i, hi, rfl⟩ := List.getElem_of_mem hv; exact hh i hi⟩)
  have HF := Lib.hid (show ∀ i (hi : i < s.queues.length), ¬ QueueOk s s.queues[i] → queuesB s = false from fun i hi hh => decide_eq_false fun x => hh (x.2 _ (List.getElem_mem hi)))
  have HI := Lib.hid (fun w => rin (s.queues.length : Int) 1 8 w)
  go_enter Tryz.func53, Tryz.ntmps53
  go_wp2
  generalize hw0 : w.alloc _ = w0
  have hb0 : Below w.heap.size w w0 := by rw [← hw0]; exact (by repeat' (first | exact Below.refl _ _ | assumption | exact And.left (by assumption) | refine Below.drew ?_ | refine below_drewN ?_ _ | refine Below.setCell ?_ (by first | (simp; done) | (simp; omega) | omega) _ | refine Below.alloc ?_ (by first | (simp; done) | (simp; omega) | omega) _ | refine after (by assumption) (by first | (simp; done) | (simp; omega) | omega) ?_))
  have b1 : w0.cell? ⟨w.heap.size, 1, none⟩ = some (.slice s.pa s.parts.length s.pc) := by rw [← hw0]; simp [go_sem]
  have b2 : w0.cell? ⟨w.heap.size, 2, none⟩ = some (.slice qa s.queues.length s.qc) := by rw [← hw0]; simp [go_sem]
  have b3 : w0.cell? ⟨w.heap.size, 3, none⟩ = some (.int .i64 s.users) := by rw [← hw0]; simp [go_sem]
  have hz0 := hb0.size
  clear hw0
  go_loopw [3] (fun x wr => ∃ k : Nat, k ≤ s.queues.length ∧ x = .int .i64 k ∧ Below w0.heap.size w0 wr ∧ Hid (∀ i (hi : i < s.queues.length), i < k → QueueOk s s.queues[i])) (fun x _ => s.queues.length - (intOf x).toNat)
  case atStart => exact ⟨0, Nat.zero_le _, rfl, (by repeat' (first | exact Below.refl _ _ | assumption | exact And.left (by assumption) | refine Below.drew ?_ | refine below_drewN ?_ _ | refine Below.setCell ?_ (by first | (simp; done) | (simp; omega) | omega) _ | refine Below.alloc ?_ (by first | (simp; done) | (simp; omega) | omega) _ | refine after (by assumption) (by first | (simp; done) | (simp; omega) | omega) ?_)), Lib.hid fun i hi h => by omega⟩
  case round =>
    obtain ⟨k, hk, rfl, hb, HA⟩ := hrel
    have hz := hb.size
    have d1 := carry hb b1
    have d2 := carry hb b2
    have d3 := carry hb b3
    by_cases hlt : k < s.queues.length
    · obtain ⟨b, off, ea, hbl, q0, q1, q2, q3, q4, q5⟩ := ((HR.out.later hb0).later hb).queue hlt
      rw [HN.out] at ea
      subst ea
      have hk0 : (0 : Int) ≤ k := by omega
      have hl0 := World.block_lt_of_cell? _ _ d1
      simp only at hl0
      have hk1 : (k : Int) < s.queues.length := by omega
      have HSP := Lib.hid (((HR.out.later hb0).later hb).users _ (List.getElem_mem hlt))
      have HWL := HW.out _ (List.getElem_mem hlt)
      have HL := Lib.hid (HF.out k hlt)
      have HG := Lib.hid (fun (h : QueueOk s s.queues[k]) i (hi : i < s.queues.length) (h' : i < k + 1) => (show QueueOk s s.queues[i] by
          rcases Nat.lt_or_ge i k with h'' | h''
          · exact HA.out i hi h''
          · obtain rfl : i = k := by omega
            exact h))
      generalize s.queues[k] = q at q0 q1 q2 q3 q4 q5 HSP HWL HL HG
      have HP := Lib.hid (fun w' (h : SlAt w' q.users) => rrising q.users.a q.users.cap q.users.l s.users w' h HWL)
      have H1 := Lib.hid (fun w' => rin q.mj 1 256 w')
      have H2 := Lib.hid (fun w' => rin q.mr 1 256 w')
      have H3 := Lib.hid (fun w' => rin q.mu 1 256 w')
      have H4 := Lib.hid (fun w' => rin q.qos 0 100 w')
      by_cases c0 : q.part < 0
      · have g0 : decide (q.part < 0) = true := by simp; omega
        have E := Lib.hid (HL.out fun z => by have := z.1.1; omega)
        clear c0
        go_wp2_with fail
        generalize hw4 : wr.alloc _ = w4
        have hb4 : Below wr.heap.size wr w4 := by rw [← hw4]; exact (by repeat' (first | exact Below.refl _ _ | assumption | exact And.left (by assumption) | refine Below.drew ?_ | refine below_drewN ?_ _ | refine Below.setCell ?_ (by first | (simp; done) | (simp; omega) | omega) _ | refine Below.alloc ?_ (by first | (simp; done) | (simp; omega) | omega) _ | refine after (by assumption) (by first | (simp; done) | (simp; omega) | omega) ?_))
        have k0 : w4.cell? ⟨wr.heap.size, 0, none⟩ = some (.int .i64 q.part) := by rw [← hw4]; simp [go_sem]
        have k1 : w4.cell? ⟨wr.heap.size, 1, none⟩ = some (.slice q.users.a q.users.l.length q.users.cap) := by rw [← hw4]; simp [go_sem]
        have k2 : w4.cell? ⟨wr.heap.size, 2, none⟩ = some (.int .i64 q.mj) := by rw [← hw4]; simp [go_sem]
        have k3 : w4.cell? ⟨wr.heap.size, 3, none⟩ = some (.int .i64 q.mr) := by rw [← hw4]; simp [go_sem]
        have k4 : w4.cell? ⟨wr.heap.size, 4, none⟩ = some (.int .i64 q.mu) := by rw [← hw4]; simp [go_sem]
        have k5 : w4.cell? ⟨wr.heap.size, 5, none⟩ = some (.int .i64 q.qos) := by rw [← hw4]; simp [go_sem]
        clear hw4
        have hz4 := hb4.size
        have e1 := carry hb4 d1
        have e2 := carry hb4 d2
        have e3 := carry hb4 d3
        go_wp2
        go_ret
        exact ⟨by rw [E.out]; rfl, (by repeat' (first | exact Below.refl _ _ | assumption | exact And.left (by assumption) | refine Below.drew ?_ | refine below_drewN ?_ _ | refine Below.setCell ?_ (by first | (simp; done) | (simp; omega) | omega) _ | refine Below.alloc ?_ (by first | (simp; done) | (simp; omega) | omega) _ | refine after (by assumption) (by first | (simp; done) | (simp; omega) | omega) ?_))⟩
      · have g0 : decide (q.part < 0) = false := by simp; omega
        by_cases c1 : (s.parts.length : Int) ≤ q.part
        · have g1 : decide ((s.parts.length : Int) ≤ q.part) = true := by simp; omega
          have E := Lib.hid (HL.out fun z => by have := z.1.2; omega)
          clear c0 c1
          go_wp2_with fail
          generalize hw4 : wr.alloc _ = w4
          have hb4 : Below wr.heap.size wr w4 := by rw [← hw4]; exact (by repeat' (first | exact Below.refl _ _ | assumption | exact And.left (by assumption) | refine Below.drew ?_ | refine below_drewN ?_ _ | refine Below.setCell ?_ (by first | (simp; done) | (simp; omega) | omega) _ | refine Below.alloc ?_ (by first | (simp; done) | (simp; omega) | omega) _ | refine after (by assumption) (by first | (simp; done) | (simp; omega) | omega) ?_))
          have k0 : w4.cell? ⟨wr.heap.size, 0, none⟩ = some (.int .i64 q.part) := by rw [← hw4]; simp [go_sem]
          have k1 : w4.cell? ⟨wr.heap.size, 1, none⟩ = some (.slice q.users.a q.users.l.length q.users.cap) := by rw [← hw4]; simp [go_sem]
          have k2 : w4.cell? ⟨wr.heap.size, 2, none⟩ = some (.int .i64 q.mj) := by rw [← hw4]; simp [go_sem]
          have k3 : w4.cell? ⟨wr.heap.size, 3, none⟩ = some (.int .i64 q.mr) := by rw [← hw4]; simp [go_sem]
          have k4 : w4.cell? ⟨wr.heap.size, 4, none⟩ = some (.int .i64 q.mu) := by rw [← hw4]; simp [go_sem]
          have k5 : w4.cell? ⟨wr.heap.size, 5, none⟩ = some (.int .i64 q.qos) := by rw [← hw4]; simp [go_sem]
          clear hw4
          have hz4 := hb4.size
          have e1 := carry hb4 d1
          have e2 := carry hb4 d2
          have e3 := carry hb4 d3
          go_wp2
          go_ret
          exact ⟨by rw [E.out]; rfl, (by repeat' (first | exact Below.refl _ _ | assumption | exact And.left (by assumption) | refine Below.drew ?_ | refine below_drewN ?_ _ | refine Below.setCell ?_ (by first | (simp; done) | (simp; omega) | omega) _ | refine Below.alloc ?_ (by first | (simp; done) | (simp; omega) | omega) _ | refine after (by assumption) (by first | (simp; done) | (simp; omega) | omega) ?_))⟩
        · have g1 : decide ((s.parts.length : Int) ≤ q.part) = false := by simp; omega
          by_cases c2 : Rise q.users.l s.users
          · rw [show riseB q.users.l s.users = true from decide_eq_true c2] at HP
            by_cases t1 : 1 ≤ q.mj ∧ q.mj ≤ 256
            · rw [show inB q.mj 1 256 = true from decide_eq_true t1] at H1
              by_cases t2 : 1 ≤ q.mr ∧ q.mr ≤ 256
              · rw [show inB q.mr 1 256 = true from decide_eq_true t2] at H2
                by_cases t3 : 1 ≤ q.mu ∧ q.mu ≤ 256
                · rw [show inB q.mu 1 256 = true from decide_eq_true t3] at H3
                  by_cases t4 : 0 ≤ q.qos ∧ q.qos ≤ 100
                  · rw [show inB q.qos 0 100 = true from decide_eq_true t4] at H4
                    have HO := Lib.hid (HG.out ⟨by omega, c2, t1, t2, t3, t4⟩)
                    clear c0 c1 c2 t1 t2 t3 t4
                    go_wp2_with fail
                    generalize hw4 : wr.alloc _ = w4
                    have hb4 : Below wr.heap.size wr w4 := by rw [← hw4]; exact (by repeat' (first | exact Below.refl _ _ | assumption | exact And.left (by assumption) | refine Below.drew ?_ | refine below_drewN ?_ _ | refine Below.setCell ?_ (by first | (simp; done) | (simp; omega) | omega) _ | refine Below.alloc ?_ (by first | (simp; done) | (simp; omega) | omega) _ | refine after (by assumption) (by first | (simp; done) | (simp; omega) | omega) ?_))
                    have k0 : w4.cell? ⟨wr.heap.size, 0, none⟩ = some (.int .i64 q.part) := by rw [← hw4]; simp [go_sem]
                    have k1 : w4.cell? ⟨wr.heap.size, 1, none⟩ = some (.slice q.users.a q.users.l.length q.users.cap) := by rw [← hw4]; simp [go_sem]
                    have k2 : w4.cell? ⟨wr.heap.size, 2, none⟩ = some (.int .i64 q.mj) := by rw [← hw4]; simp [go_sem]
                    have k3 : w4.cell? ⟨wr.heap.size, 3, none⟩ = some (.int .i64 q.mr) := by rw [← hw4]; simp [go_sem]
                    have k4 : w4.cell? ⟨wr.heap.size, 4, none⟩ = some (.int .i64 q.mu) := by rw [← hw4]; simp [go_sem]
                    have k5 : w4.cell? ⟨wr.heap.size, 5, none⟩ = some (.int .i64 q.qos) := by rw [← hw4]; simp [go_sem]
                    clear hw4
                    have hz4 := hb4.size
                    have e1 := carry hb4 d1
                    have e2 := carry hb4 d2
                    have e3 := carry hb4 d3
                    go_wp2_with fail
                    refine (HP.out _ (SlAt.later HSP.out hb4)).mono ?_; rintro e w5 ⟨rfl, hb5⟩
                    have hz5 := hb5.size
                    have j2 := carry hb5 k2
                    have j3 := carry hb5 k3
                    have j4 := carry hb5 k4
                    have j5 := carry hb5 k5
                    go_wp2_with fail
                    refine (H1.out _).mono ?_; rintro e w' ⟨rfl, rfl⟩
                    go_wp2_with fail
                    refine (H2.out _).mono ?_; rintro e w' ⟨rfl, rfl⟩
                    go_wp2_with fail
                    refine (H3.out _).mono ?_; rintro e w' ⟨rfl, rfl⟩
                    go_wp2_with fail
                    refine (H4.out _).mono ?_; rintro e w' ⟨rfl, rfl⟩
                    go_wp2
                    go_roundw
                    case rel => exact ⟨k + 1, by omega, by go_num, (by repeat' (first | exact Below.refl _ _ | assumption | exact And.left (by assumption) | refine Below.drew ?_ | refine below_drewN ?_ _ | refine Below.setCell ?_ (by first | (simp; done) | (simp; omega) | omega) _ | refine Below.alloc ?_ (by first | (simp; done) | (simp; omega) | omega) _ | refine after (by assumption) (by first | (simp; done) | (simp; omega) | omega) ?_)), HO⟩
                    case measure => simp [intOf]; omega
                  · rw [show inB q.qos 0 100 = false from decide_eq_false t4] at H4
                    have E := Lib.hid (HL.out fun z => t4 z.2.2.2.2.2)
                    clear c0 c1 c2 t1 t2 t3 t4
                    go_wp2_with fail
                    generalize hw4 : wr.alloc _ = w4
                    have hb4 : Below wr.heap.size wr w4 := by rw [← hw4]; exact (by repeat' (first | exact Below.refl _ _ | assumption | exact And.left (by assumption) | refine Below.drew ?_ | refine below_drewN ?_ _ | refine Below.setCell ?_ (by first | (simp; done) | (simp; omega) | omega) _ | refine Below.alloc ?_ (by first | (simp; done) | (simp; omega) | omega) _ | refine after (by assumption) (by first | (simp; done) | (simp; omega) | omega) ?_))
                    have k0 : w4.cell? ⟨wr.heap.size, 0, none⟩ = some (.int .i64 q.part) := by rw [← hw4]; simp [go_sem]
                    have k1 : w4.cell? ⟨wr.heap.size, 1, none⟩ = some (.slice q.users.a q.users.l.length q.users.cap) := by rw [← hw4]; simp [go_sem]
                    have k2 : w4.cell? ⟨wr.heap.size, 2, none⟩ = some (.int .i64 q.mj) := by rw [← hw4]; simp [go_sem]
                    have k3 : w4.cell? ⟨wr.heap.size, 3, none⟩ = some (.int .i64 q.mr) := by rw [← hw4]; simp [go_sem]
                    have k4 : w4.cell? ⟨wr.heap.size, 4, none⟩ = some (.int .i64 q.mu) := by rw [← hw4]; simp [go_sem]
                    have k5 : w4.cell? ⟨wr.heap.size, 5, none⟩ = some (.int .i64 q.qos) := by rw [← hw4]; simp [go_sem]
                    clear hw4
                    have hz4 := hb4.size
                    have e1 := carry hb4 d1
                    have e2 := carry hb4 d2
                    have e3 := carry hb4 d3
                    go_wp2_with fail
                    refine (HP.out _ (SlAt.later HSP.out hb4)).mono ?_; rintro e w5 ⟨rfl, hb5⟩
                    have hz5 := hb5.size
                    have j2 := carry hb5 k2
                    have j3 := carry hb5 k3
                    have j4 := carry hb5 k4
                    have j5 := carry hb5 k5
                    go_wp2_with fail
                    refine (H1.out _).mono ?_; rintro e w' ⟨rfl, rfl⟩
                    go_wp2_with fail
                    refine (H2.out _).mono ?_; rintro e w' ⟨rfl, rfl⟩
                    go_wp2_with fail
                    refine (H3.out _).mono ?_; rintro e w' ⟨rfl, rfl⟩
                    go_wp2_with fail
                    refine (H4.out _).mono ?_; rintro e w' ⟨rfl, rfl⟩
                    go_wp2
                    go_ret
                    exact ⟨by rw [E.out]; rfl, (by repeat' (first | exact Below.refl _ _ | assumption | exact And.left (by assumption) | refine Below.drew ?_ | refine below_drewN ?_ _ | refine Below.setCell ?_ (by first | (simp; done) | (simp; omega) | omega) _ | refine Below.alloc ?_ (by first | (simp; done) | (simp; omega) | omega) _ | refine after (by assumption) (by first | (simp; done) | (simp; omega) | omega) ?_))⟩
                · rw [show inB q.mu 1 256 = false from decide_eq_false t3] at H3
                  have E := Lib.hid (HL.out fun z => t3 z.2.2.2.2.1)
                  clear c0 c1 c2 t1 t2 t3
                  go_wp2_with fail
                  generalize hw4 : wr.alloc _ = w4
                  have hb4 : Below wr.heap.size wr w4 := by rw [← hw4]; exact (by repeat' (first | exact Below.refl _ _ | assumption | exact And.left (by assumption) | refine Below.drew ?_ | refine below_drewN ?_ _ | refine Below.setCell ?_ (by first | (simp; done) | (simp; omega) | omega) _ | refine Below.alloc ?_ (by first | (simp; done) | (simp; omega) | omega) _ | refine after (by assumption) (by first | (simp; done) | (simp; omega) | omega) ?_))
                  have k0 : w4.cell? ⟨wr.heap.size, 0, none⟩ = some (.int .i64 q.part) := by rw [← hw4]; simp [go_sem]
                  have k1 : w4.cell? ⟨wr.heap.size, 1, none⟩ = some (.slice q.users.a q.users.l.length q.users.cap) := by rw [← hw4]; simp [go_sem]
                  have k2 : w4.cell? ⟨wr.heap.size, 2, none⟩ = some (.int .i64 q.mj) := by rw [← hw4]; simp [go_sem]
                  have k3 : w4.cell? ⟨wr.heap.size, 3, none⟩ = some (.int .i64 q.mr) := by rw [← hw4]; simp [go_sem]
                  have k4 : w4.cell? ⟨wr.heap.size, 4, none⟩ = some (.int .i64 q.mu) := by rw [← hw4]; simp [go_sem]
                  have k5 : w4.cell? ⟨wr.heap.size, 5, none⟩ = some (.int .i64 q.qos) := by rw [← hw4]; simp [go_sem]
                  clear hw4
                  have hz4 := hb4.size
                  have e1 := carry hb4 d1
                  have e2 := carry hb4 d2
                  have e3 := carry hb4 d3
                  go_wp2_with fail
                  refine (HP.out _ (SlAt.later HSP.out hb4)).mono ?_; rintro e w5 ⟨rfl, hb5⟩
                  have hz5 := hb5.size
                  have j2 := carry hb5 k2
                  have j3 := carry hb5 k3
                  have j4 := carry hb5 k4
                  have j5 := carry hb5 k5
                  go_wp2_with fail
                  refine (H1.out _).mono ?_; rintro e w' ⟨rfl, rfl⟩
                  go_wp2_with fail
                  refine (H2.out _).mono ?_; rintro e w' ⟨rfl, rfl⟩
                  go_wp2_with fail
                  refine (H3.out _).mono ?_; rintro e w' ⟨rfl, rfl⟩
                  go_wp2
                  go_ret
                  exact ⟨by rw [E.out]; rfl, (by repeat' (first | exact Below.refl _ _ | assumption | exact And.left (by assumption) | refine Below.drew ?_ | refine below_drewN ?_ _ | refine Below.setCell ?_ (by first | (simp; done) | (simp; omega) | omega) _ | refine Below.alloc ?_ (by first | (simp; done) | (simp; omega) | omega) _ | refine after (by assumption) (by first | (simp; done) | (simp; omega) | omega) ?_))⟩
              · rw [show inB q.mr 1 256 = false from decide_eq_false t2] at H2
                have E := Lib.hid (HL.out fun z => t2 z.2.2.2.1)
                clear c0 c1 c2 t1 t2
                go_wp2_with fail
                generalize hw4 : wr.alloc _ = w4
                have hb4 : Below wr.heap.size wr w4 := by rw [← hw4]; exact (by repeat' (first | exact Below.refl _ _ | assumption | exact And.left (by assumption) | refine Below.drew ?_ | refine below_drewN ?_ _ | refine Below.setCell ?_ (by first | (simp; done) | (simp; omega) | omega) _ | refine Below.alloc ?_ (by first | (simp; done) | (simp; omega) | omega) _ | refine after (by assumption) (by first | (simp; done) | (simp; omega) | omega) ?_))
                have k0 : w4.cell? ⟨wr.heap.size, 0, none⟩ = some (.int .i64 q.part) := by rw [← hw4]; simp [go_sem]
                have k1 : w4.cell? ⟨wr.heap.size, 1, none⟩ = some (.slice q.users.a q.users.l.length q.users.cap) := by rw [← hw4]; simp [go_sem]
                have k2 : w4.cell? ⟨wr.heap.size, 2, none⟩ = some (.int .i64 q.mj) := by rw [← hw4]; simp [go_sem]
                have k3 : w4.cell? ⟨wr.heap.size, 3, none⟩ = some (.int .i64 q.mr) := by rw [← hw4]; simp [go_sem]
                have k4 : w4.cell? ⟨wr.heap.size, 4, none⟩ = some (.int .i64 q.mu) := by rw [← hw4]; simp [go_sem]
                have k5 : w4.cell? ⟨wr.heap.size, 5, none⟩ = some (.int .i64 q.qos) := by rw [← hw4]; simp [go_sem]
                clear hw4
                have hz4 := hb4.size
                have e1 := carry hb4 d1
                have e2 := carry hb4 d2
                have e3 := carry hb4 d3
                go_wp2_with fail
                refine (HP.out _ (SlAt.later HSP.out hb4)).mono ?_; rintro e w5 ⟨rfl, hb5⟩
                have hz5 := hb5.size
                have j2 := carry hb5 k2
                have j3 := carry hb5 k3
                have j4 := carry hb5 k4
                have j5 := carry hb5 k5
                go_wp2_with fail
                refine (H1.out _).mono ?_; rintro e w' ⟨rfl, rfl⟩
                go_wp2_with fail
                refine (H2.out _).mono ?_; rintro e w' ⟨rfl, rfl⟩
                go_wp2
                go_ret
                exact ⟨by rw [E.out]; rfl, (by repeat' (first | exact Below.refl _ _ | assumption | exact And.left (by assumption) | refine Below.drew ?_ | refine below_drewN ?_ _ | refine Below.setCell ?_ (by first | (simp; done) | (simp; omega) | omega) _ | refine Below.alloc ?_ (by first | (simp; done) | (simp; omega) | omega) _ | refine after (by assumption) (by first | (simp; done) | (simp; omega) | omega) ?_))⟩
            · rw [show inB q.mj 1 256 = false from decide_eq_false t1] at H1
              have E := Lib.hid (HL.out fun z => t1 z.2.2.1)
              clear c0 c1 c2 t1
              go_wp2_with fail
              generalize hw4 : wr.alloc _ = w4
              have hb4 : Below wr.heap.size wr w4 := by rw [← hw4]; exact (by repeat' (first | exact Below.refl _ _ | assumption | exact And.left (by assumption) | refine Below.drew ?_ | refine below_drewN ?_ _ | refine Below.setCell ?_ (by first | (simp; done) | (simp; omega) | omega) _ | refine Below.alloc ?_ (by first | (simp; done) | (simp; omega) | omega) _ | refine after (by assumption) (by first | (simp; done) | (simp; omega) | omega) ?_))
              have k0 : w4.cell? ⟨wr.heap.size, 0, none⟩ = some (.int .i64 q.part) := by rw [← hw4]; simp [go_sem]
              have k1 : w4.cell? ⟨wr.heap.size, 1, none⟩ = some (.slice q.users.a q.users.l.length q.users.cap) := by rw [← hw4]; simp [go_sem]
              have k2 : w4.cell? ⟨wr.heap.size, 2, none⟩ = some (.int .i64 q.mj) := by rw [← hw4]; simp [go_sem]
              have k3 : w4.cell? ⟨wr.heap.size, 3, none⟩ = some (.int .i64 q.mr) := by rw [← hw4]; simp [go_sem]
              have k4 : w4.cell? ⟨wr.heap.size, 4, none⟩ = some (.int .i64 q.mu) := by rw [← hw4]; simp [go_sem]
              have k5 : w4.cell? ⟨wr.heap.size, 5, none⟩ = some (.int .i64 q.qos) := by rw [← hw4]; simp [go_sem]
              clear hw4
              have hz4 := hb4.size
              have e1 := carry hb4 d1
              have e2 := carry hb4 d2
              have e3 := carry hb4 d3
              go_wp2_with fail
              refine (HP.out _ (SlAt.later HSP.out hb4)).mono ?_; rintro e w5 ⟨rfl, hb5⟩
              have hz5 := hb5.size
              have j2 := carry hb5 k2
              have j3 := carry hb5 k3
              have j4 := carry hb5 k4
              have j5 := carry hb5 k5
              go_wp2_with fail
              refine (H1.out _).mono ?_; rintro e w' ⟨rfl, rfl⟩
              go_wp2
              go_ret
              exact ⟨by rw [E.out]; rfl, (by repeat' (first | exact Below.refl _ _ | assumption | exact And.left (by assumption) | refine Below.drew ?_ | refine below_drewN ?_ _ | refine Below.setCell ?_ (by first | (simp; done) | (simp; omega) | omega) _ | refine Below.alloc ?_ (by first | (simp; done) | (simp; omega) | omega) _ | refine after (by assumption) (by first | (simp; done) | (simp; omega) | omega) ?_))⟩
          · rw [show riseB q.users.l s.users = false from decide_eq_false c2] at HP
            have E := Lib.hid (HL.out fun z => c2 z.2.1)
            clear c0 c1 c2
            go_wp2_with fail
            generalize hw4 : wr.alloc _ = w4
            have hb4 : Below wr.heap.size wr w4 := by rw [← hw4]; exact (by repeat' (first | exact Below.refl _ _ | assumption | exact And.left (by assumption) | refine Below.drew ?_ | refine below_drewN ?_ _ | refine Below.setCell ?_ (by first | (simp; done) | (simp; omega) | omega) _ | refine Below.alloc ?_ (by first | (simp; done) | (simp; omega) | omega) _ | refine after (by assumption) (by first | (simp; done) | (simp; omega) | omega) ?_))
            have k0 : w4.cell? ⟨wr.heap.size, 0, none⟩ = some (.int .i64 q.part) := by rw [← hw4]; simp [go_sem]
            have k1 : w4.cell? ⟨wr.heap.size, 1, none⟩ = some (.slice q.users.a q.users.l.length q.users.cap) := by rw [← hw4]; simp [go_sem]
            have k2 : w4.cell? ⟨wr.heap.size, 2, none⟩ = some (.int .i64 q.mj) := by rw [← hw4]; simp [go_sem]
            have k3 : w4.cell? ⟨wr.heap.size, 3, none⟩ = some (.int .i64 q.mr) := by rw [← hw4]; simp [go_sem]
            have k4 : w4.cell? ⟨wr.heap.size, 4, none⟩ = some (.int .i64 q.mu) := by rw [← hw4]; simp [go_sem]
            have k5 : w4.cell? ⟨wr.heap.size, 5, none⟩ = some (.int .i64 q.qos) := by rw [← hw4]; simp [go_sem]
            clear hw4
            have hz4 := hb4.size
            have e1 := carry hb4 d1
            have e2 := carry hb4 d2
            have e3 := carry hb4 d3
            go_wp2_with fail
            refine (HP.out _ (SlAt.later HSP.out hb4)).mono ?_; rintro e w5 ⟨rfl, hb5⟩
            have hz5 := hb5.size
            have j2 := carry hb5 k2
            have j3 := carry hb5 k3
            have j4 := carry hb5 k4
            have j5 := carry hb5 k5
            go_wp2
            go_ret
            exact ⟨by rw [E.out]; rfl, (by repeat' (first | exact Below.refl _ _ | assumption | exact And.left (by assumption) | refine Below.drew ?_ | refine below_drewN ?_ _ | refine Below.setCell ?_ (by first | (simp; done) | (simp; omega) | omega) _ | refine Below.alloc ?_ (by first | (simp; done) | (simp; omega) | omega) _ | refine after (by assumption) (by first | (simp; done) | (simp; omega) | omega) ?_))⟩
    · have E := Lib.hid (HT.out fun i hi => HA.out i hi (by omega))
      go_wp2_with fail
      refine (HI.out _).mono ?_; rintro e w2 ⟨rfl, rfl⟩
      go_wp2
      go_ret
      exact ⟨by rw [E.out]; rfl, (by repeat' (first | exact Below.refl _ _ | assumption | exact And.left (by assumption) | refine Below.drew ?_ | refine below_drewN ?_ _ | refine Below.setCell ?_ (by first | (simp; done) | (simp; omega) | omega) _ | refine Below.alloc ?_ (by first | (simp; done) | (simp; omega) | omega) _ | refine after (by assumption) (by first | (simp; done) | (simp; omega) | omega) ?_))⟩
end Go.Proofs.YtgopjpnlpcmldaaGreatDoor.W
