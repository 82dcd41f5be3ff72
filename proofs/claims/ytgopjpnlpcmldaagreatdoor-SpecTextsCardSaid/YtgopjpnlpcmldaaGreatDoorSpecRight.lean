/-
  Contracts of Right (layer 7), and of the law's own Few.
-/
import Derived.Test.YtgopjpnlpcmldaaGreatDoorSpecFlaw
namespace Go.Proofs.YtgopjpnlpcmldaaGreatDoor.W
set_option linter.unusedVariables false
set_option linter.unusedSimpArgs false
open Go.ChangeShapes Go.WideShapes Go.ChangeAt Go.RowKit

set_option maxHeartbeats 1000000 in
theorem sright (s : S) (hs : SmallS s) (w : World) (HR : Rows w s) :
    Calls Tryz.prog 12 #[.agg #[.slice s.na s.nodes.length s.nc, .slice s.pa s.parts.length s.pc, .slice s.qa s.queues.length s.qc, .int .i64 s.users, .int .i64 s.age, .int .i64 s.size, .int .i64 s.qos, .int .i64 s.share, .int .i64 s.decay, .int .i64 s.mode, .int .i64 s.jobs, .int .i64 s.ids, .int .i64 s.versions, .int .i64 s.linger, .int .i64 s.keep, .int .i64 s.inn, .int .i64 s.out, .int .i64 s.cache]] w fun e w' => e = .returned (.bool (rightS s)) ∧ Below w.heap.size w w' := by
  have H := Lib.hid (fun w' hr => flaw s hs w' hr)
  have HR := Lib.hid HR
  have E := Lib.hid (flaw_empty s)
  clear hs
  generalize rightS s = r at E ⊢
  generalize flawW s = l at H E
  go_enter Tryz.func12, Tryz.ntmps12
  have HB := Lib.hid (fun t => Box.new w s t)
  go_wp2_with (with_reducible refine wpList_load_box rfl (.tmp 1) rfl rfl (HB.out _) ?_)
  refine (H.out _ (HR.out.later ((by repeat' (first | exact Below.refl _ _ | assumption | exact And.left (by assumption) | refine Below.drew ?_ | refine below_drewN ?_ _ | refine Below.setCell ?_ (by first | (simp; done) | (simp; omega) | omega) _ | refine Below.alloc ?_ (by first | (simp; done) | (simp; omega) | omega) _ | refine after (by assumption) (by first | (simp; done) | (simp; omega) | omega) ?_))))).mono ?_; rintro e w1 ⟨rfl, hb1⟩; obtain ⟨hc1, hf1⟩ := bcell hb1; have hz1 := hb1.size; (try simp at hz1); have lt_w1_0 : w.heap.size < w1.heap.size := (by omega)
  go_wp2
  go_ret
  exact ⟨by rw [← E.out]; rfl, (by repeat' (first | exact Below.refl _ _ | assumption | exact And.left (by assumption) | refine Below.drew ?_ | refine below_drewN ?_ _ | refine Below.setCell ?_ (by first | (simp; done) | (simp; omega) | omega) _ | refine Below.alloc ?_ (by first | (simp; done) | (simp; omega) | omega) _ | refine after (by assumption) (by first | (simp; done) | (simp; omega) | omega) ?_))⟩

theorem few_split (s : S) : fewB s = decide ((s.nodes.length ≤ 40 ∧ s.parts.length ≤ 20 ∧ s.queues.length ≤ 20) ∧ (∀ p ∈ s.parts, p.l.length ≤ 40) ∧ ∀ q ∈ s.queues, q.users.l.length ≤ 40) := by
  unfold fewB Few
  congr 1
  rw [eq_iff_iff]
  constructor
  · rintro ⟨a, b, c, d, e⟩; exact ⟨⟨a, b, c⟩, d, e⟩
  · rintro ⟨⟨a, b, c⟩, d, e⟩; exact ⟨a, b, c, d, e⟩
theorem few_no (s : S) (w : World) (h : ¬ (s.nodes.length ≤ 40 ∧ s.parts.length ≤ 20 ∧ s.queues.length ≤ 20)) :
    Calls Tryz.prog 5 #[.agg #[.slice s.na s.nodes.length s.nc, .slice s.pa s.parts.length s.pc, .slice s.qa s.queues.length s.qc, .int .i64 s.users, .int .i64 s.age, .int .i64 s.size, .int .i64 s.qos, .int .i64 s.share, .int .i64 s.decay, .int .i64 s.mode, .int .i64 s.jobs, .int .i64 s.ids, .int .i64 s.versions, .int .i64 s.linger, .int .i64 s.keep, .int .i64 s.inn, .int .i64 s.out, .int .i64 s.cache]] w fun e w' => e = .returned (.bool false) ∧ Below w.heap.size w w' := by
  by_cases h0 : s.nodes.length ≤ 40
  · by_cases h1 : s.parts.length ≤ 20
    · have h2 : ¬ s.queues.length ≤ 20 := fun x => h ⟨h0, h1, x⟩
      have g0 : decide (40 < (s.nodes.length : Int)) = false := by simp; omega
      have g1 : decide (20 < (s.parts.length : Int)) = false := by simp; omega
      have g2 : decide (20 < (s.queues.length : Int)) = true := by simp; omega
      clear h h0 h1 h2
      go_enter Tryz.func5, Tryz.ntmps5
      go_wp2
      go_ret
      exact ⟨rfl, (by repeat' (first | exact Below.refl _ _ | assumption | exact And.left (by assumption) | refine Below.drew ?_ | refine below_drewN ?_ _ | refine Below.setCell ?_ (by first | (simp; done) | (simp; omega) | omega) _ | refine Below.alloc ?_ (by first | (simp; done) | (simp; omega) | omega) _ | refine after (by assumption) (by first | (simp; done) | (simp; omega) | omega) ?_))⟩
    · have g0 : decide (40 < (s.nodes.length : Int)) = false := by simp; omega
      have g1 : decide (20 < (s.parts.length : Int)) = true := by simp; omega
      clear h h0 h1
      go_enter Tryz.func5, Tryz.ntmps5
      go_wp2
      go_ret
      exact ⟨rfl, (by repeat' (first | exact Below.refl _ _ | assumption | exact And.left (by assumption) | refine Below.drew ?_ | refine below_drewN ?_ _ | refine Below.setCell ?_ (by first | (simp; done) | (simp; omega) | omega) _ | refine Below.alloc ?_ (by first | (simp; done) | (simp; omega) | omega) _ | refine after (by assumption) (by first | (simp; done) | (simp; omega) | omega) ?_))⟩
  · have g0 : decide (40 < (s.nodes.length : Int)) = true := by simp; omega
    clear h h0
    go_enter Tryz.func5, Tryz.ntmps5
    go_wp2
    go_ret
    exact ⟨rfl, (by repeat' (first | exact Below.refl _ _ | assumption | exact And.left (by assumption) | refine Below.drew ?_ | refine below_drewN ?_ _ | refine Below.setCell ?_ (by first | (simp; done) | (simp; omega) | omega) _ | refine Below.alloc ?_ (by first | (simp; done) | (simp; omega) | omega) _ | refine after (by assumption) (by first | (simp; done) | (simp; omega) | omega) ?_))⟩
set_option maxHeartbeats 2000000 in
theorem few_in (s : S) (pa qa : Option Addr) (hpa : s.pa = pa) (hqa : s.qa = qa) (w : World) (HR : Rows w s) (h0 : s.nodes.length ≤ 40) (h1 : s.parts.length ≤ 20) (h2 : s.queues.length ≤ 20) :
    Calls Tryz.prog 5 #[.agg #[.slice s.na s.nodes.length s.nc, .slice s.pa s.parts.length s.pc, .slice s.qa s.queues.length s.qc, .int .i64 s.users, .int .i64 s.age, .int .i64 s.size, .int .i64 s.qos, .int .i64 s.share, .int .i64 s.decay, .int .i64 s.mode, .int .i64 s.jobs, .int .i64 s.ids, .int .i64 s.versions, .int .i64 s.linger, .int .i64 s.keep, .int .i64 s.inn, .int .i64 s.out, .int .i64 s.cache]] w fun e w' => e = .returned (.bool (fewB s)) ∧ Below w.heap.size w w' := by
  rw [few_split]
  have HR := Lib.hid HR
  have HPA := Lib.hid hpa
  have HQA := Lib.hid hqa
  have HT := Lib.hid (show (∀ i (hi : i < s.parts.length), s.parts[i].l.length ≤ 40) → (∀ i (hi : i < s.queues.length), s.queues[i].users.l.length ≤ 40) → decide ((s.nodes.length ≤ 40 ∧ s.parts.length ≤ 20 ∧ s.queues.length ≤ 20) ∧ (∀ p ∈ s.parts, p.l.length ≤ 40) ∧ ∀ q ∈ s.queues, q.users.l.length ≤ 40) = true from
    fun a b => decide_eq_true ⟨⟨h0, h1, h2⟩, fun p hp => by obtain ⟨i, hi, rfl⟩ := List.getElem_of_mem hp; exact a i hi, fun p hp => by obtain ⟨i, hi, rfl⟩ := List.getElem_of_mem hp; exact b i hi⟩)
  have HP := Lib.hid (show ∀ i (hi : i < s.parts.length), ¬ s.parts[i].l.length ≤ 40 → decide ((s.nodes.length ≤ 40 ∧ s.parts.length ≤ 20 ∧ s.queues.length ≤ 20) ∧ (∀ p ∈ s.parts, p.l.length ≤ 40) ∧ ∀ q ∈ s.queues, q.users.l.length ≤ 40) = false from
    fun i hi hh => decide_eq_false fun x => hh (x.2.1 _ (List.getElem_mem hi)))
  have HQ := Lib.hid (show ∀ i (hi : i < s.queues.length), ¬ s.queues[i].users.l.length ≤ 40 → decide ((s.nodes.length ≤ 40 ∧ s.parts.length ≤ 20 ∧ s.queues.length ≤ 20) ∧ (∀ p ∈ s.parts, p.l.length ≤ 40) ∧ ∀ q ∈ s.queues, q.users.l.length ≤ 40) = false from
    fun i hi hh => decide_eq_false fun x => hh (x.2.2 _ (List.getElem_mem hi)))
  generalize decide ((s.nodes.length ≤ 40 ∧ s.parts.length ≤ 20 ∧ s.queues.length ≤ 20) ∧ (∀ p ∈ s.parts, p.l.length ≤ 40) ∧ ∀ q ∈ s.queues, q.users.l.length ≤ 40) = r at HT HP HQ ⊢
  have g0 : decide (40 < (s.nodes.length : Int)) = false := by simp; omega
  have g1 : decide (20 < (s.parts.length : Int)) = false := by simp; omega
  have g2 : decide (20 < (s.queues.length : Int)) = false := by simp; omega
  rw [hpa, hqa]
  clear hpa hqa
  go_enter Tryz.func5, Tryz.ntmps5
  go_wp2
  go_loopw [26] (fun x wr => ∃ k : Nat, k ≤ s.parts.length ∧ x = .int .i64 k ∧ wr = w.alloc (.cells #[.slice s.na s.nodes.length s.nc, .slice pa s.parts.length s.pc, .slice qa s.queues.length s.qc, .int .i64 s.users, .int .i64 s.age, .int .i64 s.size, .int .i64 s.qos, .int .i64 s.share, .int .i64 s.decay, .int .i64 s.mode, .int .i64 s.jobs, .int .i64 s.ids, .int .i64 s.versions, .int .i64 s.linger, .int .i64 s.keep, .int .i64 s.inn, .int .i64 s.out, .int .i64 s.cache] 28) ∧ Hid (∀ i (hi : i < s.parts.length), i < k → s.parts[i].l.length ≤ 40)) (fun x _ => s.parts.length - (intOf x).toNat)
  case atStart => exact ⟨0, Nat.zero_le _, rfl, rfl, Lib.hid fun i hi h => by omega⟩
  case round =>
    obtain ⟨k, hk, rfl, rfl, HA⟩ := hrel
    by_cases hlt : k < s.parts.length
    · obtain ⟨b, off, ea, hbl, q0⟩ := HR.out.part_ hlt
      rw [HPA.out] at ea
      subst ea
      have HL := Lib.hid (HP.out k hlt)
      have HG := Lib.hid (fun (h : s.parts[k].l.length ≤ 40) i (hi : i < s.parts.length) (h' : i < k + 1) => (show s.parts[i].l.length ≤ 40 by
          rcases Nat.lt_or_ge i k with h'' | h''
          · exact HA.out i hi h''
          · obtain rfl : i = k := by omega
            exact h))
      generalize s.parts[k] = p at q0 HL HG
      by_cases ho : p.l.length ≤ 40
      · have gg : decide (40 < (p.l.length : Int)) = false := by simp; omega
        have HO := Lib.hid (HG.out ho)
        clear ho
        go_wp2
        go_roundw
        case rel => exact ⟨k + 1, by omega, by go_num, by first | rfl | trivial, HO⟩
        case measure => simp [intOf]; omega
      · have gg : decide (40 < (p.l.length : Int)) = true := by simp; omega
        have E := Lib.hid (HL.out ho)
        clear ho
        go_wp2
        go_ret
        exact ⟨by rw [E.out]; rfl, (by repeat' (first | exact Below.refl _ _ | assumption | exact And.left (by assumption) | refine Below.drew ?_ | refine below_drewN ?_ _ | refine Below.setCell ?_ (by first | (simp; done) | (simp; omega) | omega) _ | refine Below.alloc ?_ (by first | (simp; done) | (simp; omega) | omega) _ | refine after (by assumption) (by first | (simp; done) | (simp; omega) | omega) ?_))⟩
    · have HAP := Lib.hid (fun i hi => HA.out i hi (by omega))
      go_wp2
      go_loopw [37] (fun x wr => ∃ k : Nat, k ≤ s.queues.length ∧ x = .int .i64 k ∧ Below w.heap.size w wr ∧ Hid (∀ i (hi : i < s.queues.length), i < k → s.queues[i].users.l.length ≤ 40)) (fun x _ => s.queues.length - (intOf x).toNat)
      case atStart => exact ⟨0, Nat.zero_le _, rfl, (by repeat' (first | exact Below.refl _ _ | assumption | exact And.left (by assumption) | refine Below.drew ?_ | refine below_drewN ?_ _ | refine Below.setCell ?_ (by first | (simp; done) | (simp; omega) | omega) _ | refine Below.alloc ?_ (by first | (simp; done) | (simp; omega) | omega) _ | refine after (by assumption) (by first | (simp; done) | (simp; omega) | omega) ?_)), Lib.hid fun i hi h => by omega⟩
      case round =>
        obtain ⟨j, hj, rfl, hb, HB⟩ := hrel
        have hz := hb.size
        by_cases hlt2 : j < s.queues.length
        · obtain ⟨b, off, ea, hbl, q0, q1, q2, q3, q4, q5⟩ := (HR.out.later hb).queue hlt2
          rw [HQA.out] at ea
          subst ea
          have HL := Lib.hid (HQ.out j hlt2)
          have HG := Lib.hid (fun (h : s.queues[j].users.l.length ≤ 40) i (hi : i < s.queues.length) (h' : i < j + 1) => (show s.queues[i].users.l.length ≤ 40 by
              rcases Nat.lt_or_ge i j with h'' | h''
              · exact HB.out i hi h''
              · obtain rfl : i = j := by omega
                exact h))
          generalize s.queues[j] = q at q0 q1 q2 q3 q4 q5 HL HG
          by_cases ho : q.users.l.length ≤ 40
          · have gg : decide (40 < (q.users.l.length : Int)) = false := by simp; omega
            have HO := Lib.hid (HG.out ho)
            clear ho
            go_wp2
            go_roundw
            case rel => exact ⟨j + 1, by omega, by go_num, (by repeat' (first | exact Below.refl _ _ | assumption | exact And.left (by assumption) | refine Below.drew ?_ | refine below_drewN ?_ _ | refine Below.setCell ?_ (by first | (simp; done) | (simp; omega) | omega) _ | refine Below.alloc ?_ (by first | (simp; done) | (simp; omega) | omega) _ | refine after (by assumption) (by first | (simp; done) | (simp; omega) | omega) ?_)), HO⟩
            case measure => simp [intOf]; omega
          · have gg : decide (40 < (q.users.l.length : Int)) = true := by simp; omega
            have E := Lib.hid (HL.out ho)
            clear ho
            go_wp2
            go_ret
            exact ⟨by rw [E.out]; rfl, (by repeat' (first | exact Below.refl _ _ | assumption | exact And.left (by assumption) | refine Below.drew ?_ | refine below_drewN ?_ _ | refine Below.setCell ?_ (by first | (simp; done) | (simp; omega) | omega) _ | refine Below.alloc ?_ (by first | (simp; done) | (simp; omega) | omega) _ | refine after (by assumption) (by first | (simp; done) | (simp; omega) | omega) ?_))⟩
        · have E := Lib.hid (HT.out HAP.out fun i hi => HB.out i hi (by omega))
          go_wp2
          go_ret
          exact ⟨by rw [E.out]; rfl, (by repeat' (first | exact Below.refl _ _ | assumption | exact And.left (by assumption) | refine Below.drew ?_ | refine below_drewN ?_ _ | refine Below.setCell ?_ (by first | (simp; done) | (simp; omega) | omega) _ | refine Below.alloc ?_ (by first | (simp; done) | (simp; omega) | omega) _ | refine after (by assumption) (by first | (simp; done) | (simp; omega) | omega) ?_))⟩
theorem few (s : S) (w : World) (HR : Rows w s) :
    Calls Tryz.prog 5 #[.agg #[.slice s.na s.nodes.length s.nc, .slice s.pa s.parts.length s.pc, .slice s.qa s.queues.length s.qc, .int .i64 s.users, .int .i64 s.age, .int .i64 s.size, .int .i64 s.qos, .int .i64 s.share, .int .i64 s.decay, .int .i64 s.mode, .int .i64 s.jobs, .int .i64 s.ids, .int .i64 s.versions, .int .i64 s.linger, .int .i64 s.keep, .int .i64 s.inn, .int .i64 s.out, .int .i64 s.cache]] w fun e w' => e = .returned (.bool (fewB s)) ∧ Below w.heap.size w w' := by
  by_cases h : s.nodes.length ≤ 40 ∧ s.parts.length ≤ 20 ∧ s.queues.length ≤ 20
  · exact few_in s _ _ rfl rfl w HR h.1 h.2.1 h.2.2
  · rw [few_split, decide_eq_false (fun x => h x.1)]
    exact few_no s w h
end Go.Proofs.YtgopjpnlpcmldaaGreatDoor.W
