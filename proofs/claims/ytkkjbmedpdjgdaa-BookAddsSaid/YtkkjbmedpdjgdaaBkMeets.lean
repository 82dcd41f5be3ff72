/-
  Contracts of book.Meets, book.alone; of the document's Meets, One.
-/
import Derived.Test.YtkkjbmedpdjgdaaBkMem
import Derived.Deep.QuietTactic
import Derived.BigQuiet
namespace Go.Proofs.Ytkkjbmedpdjgdaa.W
set_option linter.unusedVariables false
set_option linter.unusedSimpArgs false
open Go.ChangeShapes Go.WideShapes Go.ChangeAt Go.RowKit

theorem meets_next {l : List Bk} {k : Nat} (hk : k < l.length) {n f t : Int} : Meets (l.drop k) n f t ↔ Meet l[k] n f t ∨ Meets (l.drop (k + 1)) n f t := by
  rw [drop_at l k hk]
  generalize l[k] = x
  unfold Meets
  constructor
  · rintro ⟨b, hb, hm⟩
    rcases List.mem_cons.1 hb with rfl | hb
    · exact .inl hm
    · exact .inr ⟨b, hb, hm⟩
  · rintro (h | ⟨b, hb, hm⟩)
    · exact ⟨x, by simp, h⟩
    · exact ⟨b, List.mem_cons_of_mem _ hb, hm⟩
def mxK (b : Bk) (f : Int) : Int := if b.frm < f then f else b.frm
def mnK (b : Bk) (t : Int) : Int := if t < b.til then t else b.til
theorem meet_mx (b : Bk) (n f t : Int) : Meet b n f t ↔ b.node = n ∧ mxK b f < mnK b t := by
  unfold Meet mxK mnK
  constructor
  · rintro ⟨h0, h1, h2, h3, h4⟩
    refine ⟨h0, ?_⟩
    split <;> split <;> omega
  · rintro ⟨h0, h1⟩
    refine ⟨h0, ?_⟩
    split at h1 <;> split at h1 <;> omega
set_option maxHeartbeats 1000000 in
theorem bMeets (a : Option Addr) (cap : Nat) (l : List Bk) (hl : l.length ≤ 100000) (n f t : Int) (w : World) (HA : BkAt w a cap l) :
    Calls Try.prog 12 #[.slice a l.length cap, .int .i64 n, .int .i64 f, .int .i64 t] w fun e w' => e = .returned (.bool (meetsB l n f t)) ∧ Below w.heap.size w w' := by
  have HR := Lib.hid HA
  clear HA
  go_enter Try.func12, Try.ntmps12
  go_wp2
  go_loopw [13] (fun x wr => ∃ k : Nat, k ≤ l.length ∧ x = .int .i64 k ∧ Below w.heap.size w wr ∧ Hid (Meets l n f t ↔ Meets (l.drop k) n f t)) (fun x _ => l.length - (intOf x).toNat)
  case atStart => exact ⟨0, Nat.zero_le _, rfl, (by repeat' (first | exact Below.refl _ _ | assumption | exact And.left (by assumption) | refine Below.drew ?_ | refine below_drewN ?_ _ | refine Below.setCell ?_ (by first | (simp; done) | (simp; omega) | omega) _ | refine Below.alloc ?_ (by first | (simp; done) | (simp; omega) | omega) _ | refine after (by assumption) (by first | (simp; done) | (simp; omega) | omega) ?_)), Lib.hid (by simp)⟩
  case round =>
    obtain ⟨k, hk, rfl, hb, HI⟩ := hrel
    have hz := hb.size
    by_cases hlt : k < l.length
    · obtain ⟨b, off, ea, hbl, q0, q1, q2, q3⟩ := (HR.out.later hb).row.bk hlt
      subst ea
      have HN : Hid (Meets l n f t ↔ (l[k].node = n ∧ mxK l[k] f < mnK l[k] t) ∨ Meets (l.drop (k + 1)) n f t) := Lib.hid (by rw [HI.out, meets_next hlt, meet_mx])
      clear HI
      generalize l[k] = s at q0 q1 q2 q3 HN
      have hmx : ∀ ts ty W, (Builtin.max_ ts ty #[.int .i64 s.frm, .int .i64 f]).run Try.prog W = .ok (.int .i64 (mxK s f)) W := fun ts ty W => max2_run _ ts ty _ _ W
      have hmn : ∀ ts ty W, (Builtin.min_ ts ty #[.int .i64 s.til, .int .i64 t]).run Try.prog W = .ok (.int .i64 (mnK s t)) W := fun ts ty W => least_run _ ts ty _ _ W
      generalize mxK s f = mx at hmx HN
      generalize mnK s t = mn at hmn HN
      by_cases h0 : s.node = n
      · have g0 : (s.node == n) = true := by simpa using h0
        by_cases h1 : mx < mn
        · have g1 : decide (mx < mn) = true := decide_eq_true h1
          have E : Hid (meetsB l n f t = true) := Lib.hid (decide_eq_true (HN.out.2 (.inl ⟨h0, h1⟩)))
          clear HN h0 h1
          go_wp2
          go_ret
          exact ⟨by rw [E.out]; rfl, (by repeat' (first | exact Below.refl _ _ | assumption | exact And.left (by assumption) | refine Below.drew ?_ | refine below_drewN ?_ _ | refine Below.setCell ?_ (by first | (simp; done) | (simp; omega) | omega) _ | refine Below.alloc ?_ (by first | (simp; done) | (simp; omega) | omega) _ | refine after (by assumption) (by first | (simp; done) | (simp; omega) | omega) ?_))⟩
        · have g1 : decide (mx < mn) = false := decide_eq_false h1
          have HX : Hid (Meets l n f t ↔ Meets (l.drop (k + 1)) n f t) := Lib.hid (by rw [HN.out]; exact ⟨fun x => x.elim (fun y => absurd y.2 h1) id, .inr⟩)
          clear HN h0 h1
          go_wp2
          go_roundw
          case rel => exact ⟨k + 1, by omega, by go_num, (by repeat' (first | exact Below.refl _ _ | assumption | exact And.left (by assumption) | refine Below.drew ?_ | refine below_drewN ?_ _ | refine Below.setCell ?_ (by first | (simp; done) | (simp; omega) | omega) _ | refine Below.alloc ?_ (by first | (simp; done) | (simp; omega) | omega) _ | refine after (by assumption) (by first | (simp; done) | (simp; omega) | omega) ?_)), HX⟩
          case measure => simp [intOf]; omega
      · have g0 : (s.node == n) = false := by simpa using h0
        have HX : Hid (Meets l n f t ↔ Meets (l.drop (k + 1)) n f t) := Lib.hid (by rw [HN.out]; exact ⟨fun x => x.elim (fun y => absurd y.1 h0) id, .inr⟩)
        clear HN h0
        go_wp2
        go_roundw
        case rel => exact ⟨k + 1, by omega, by go_num, (by repeat' (first | exact Below.refl _ _ | assumption | exact And.left (by assumption) | refine Below.drew ?_ | refine below_drewN ?_ _ | refine Below.setCell ?_ (by first | (simp; done) | (simp; omega) | omega) _ | refine Below.alloc ?_ (by first | (simp; done) | (simp; omega) | omega) _ | refine after (by assumption) (by first | (simp; done) | (simp; omega) | omega) ?_)), HX⟩
        case measure => simp [intOf]; omega
    · have hkl : k = l.length := by omega
      subst hkl
      have E : Hid (meetsB l n f t = false) := Lib.hid (decide_eq_false (by
        rw [HI.out, List.drop_length]; rintro ⟨_, h, _⟩; cases h))
      clear HI
      go_wp2
      go_ret
      exact ⟨by rw [E.out]; rfl, (by repeat' (first | exact Below.refl _ _ | assumption | exact And.left (by assumption) | refine Below.drew ?_ | refine below_drewN ?_ _ | refine Below.setCell ?_ (by first | (simp; done) | (simp; omega) | omega) _ | refine Below.alloc ?_ (by first | (simp; done) | (simp; omega) | omega) _ | refine after (by assumption) (by first | (simp; done) | (simp; omega) | omega) ?_))⟩

/-- the first question that goes the other way -/
theorem meet_first {b : Bk} {n f t : Int} (h : ¬ Meet b n f t) : (b.node == n) = false ∨ ((b.node == n) = true ∧ decide (b.frm < b.til) = false) ∨ ((b.node == n) = true ∧ decide (b.frm < b.til) = true ∧ decide (f < t) = false) ∨
    ((b.node == n) = true ∧ decide (b.frm < b.til) = true ∧ decide (f < t) = true ∧ decide (b.frm < t) = false) ∨ ((b.node == n) = true ∧ decide (b.frm < b.til) = true ∧ decide (f < t) = true ∧ decide (b.frm < t) = true ∧ decide (f < b.til) = false) := by
  unfold Meet at h
  by_cases h0 : b.node = n
  · by_cases h1 : b.frm < b.til
    · by_cases h2 : f < t
      · by_cases h3 : b.frm < t
        · by_cases h4 : f < b.til
          · exact absurd ⟨h0, h1, h2, h3, h4⟩ h
          · simp [h0, h1, h2, h3, h4]
        · simp [h0, h1, h2, h3]
      · simp [h0, h1, h2]
    · simp [h0, h1]
  · simp [h0]
set_option maxHeartbeats 2000000 in
theorem rBkMeets (a : Option Addr) (cap : Nat) (l : List Bk) (hl : l.length ≤ 100000) (n f t : Int) (w : World) (HA : BkAt w a cap l) :
    Calls Try.prog 16 #[.slice a l.length cap, .int .i64 n, .int .i64 f, .int .i64 t] w fun e w' => e = .returned (.bool (meetsB l n f t)) ∧ Below w.heap.size w w' := by
  have HR := Lib.hid HA
  clear HA
  go_enter Try.func16, Try.ntmps16
  go_wp2
  go_loopw [9] (fun x wr => ∃ k : Nat, k ≤ l.length ∧ x = .int .i64 k ∧ Below w.heap.size w wr ∧ Hid (Meets l n f t ↔ Meets (l.drop k) n f t)) (fun x _ => l.length - (intOf x).toNat)
  case atStart => exact ⟨0, Nat.zero_le _, rfl, (by repeat' (first | exact Below.refl _ _ | assumption | exact And.left (by assumption) | refine Below.drew ?_ | refine below_drewN ?_ _ | refine Below.setCell ?_ (by first | (simp; done) | (simp; omega) | omega) _ | refine Below.alloc ?_ (by first | (simp; done) | (simp; omega) | omega) _ | refine after (by assumption) (by first | (simp; done) | (simp; omega) | omega) ?_)), Lib.hid (by simp)⟩
  case round =>
    obtain ⟨k, hk, rfl, hb, HI⟩ := hrel
    have hz := hb.size
    by_cases hlt : k < l.length
    · obtain ⟨b, off, ea, hbl, q0, q1, q2, q3⟩ := (HR.out.later hb).row.bk hlt
      subst ea
      have HN : Hid (Meets l n f t ↔ Meet l[k] n f t ∨ Meets (l.drop (k + 1)) n f t) := Lib.hid (by rw [HI.out, meets_next hlt])
      clear HI
      generalize l[k] = s at q0 q1 q2 q3 HN
      by_cases hm : Meet s n f t
      · have E : Hid (meetsB l n f t = true) := Lib.hid (decide_eq_true (HN.out.2 (.inl hm)))
        obtain ⟨h0, h1, h2, h3, h4⟩ := hm
        have g0 : (s.node == n) = true := by simpa using h0
        have g1 := decide_eq_true h1
        have g2 := decide_eq_true h2
        have g3 := decide_eq_true h3
        have g4 := decide_eq_true h4
        clear HN h0 h1 h2 h3 h4
        go_wp2
        go_ret
        exact ⟨by rw [E.out]; rfl, (by repeat' (first | exact Below.refl _ _ | assumption | exact And.left (by assumption) | refine Below.drew ?_ | refine below_drewN ?_ _ | refine Below.setCell ?_ (by first | (simp; done) | (simp; omega) | omega) _ | refine Below.alloc ?_ (by first | (simp; done) | (simp; omega) | omega) _ | refine after (by assumption) (by first | (simp; done) | (simp; omega) | omega) ?_))⟩
      · have HX : Hid (Meets l n f t ↔ Meets (l.drop (k + 1)) n f t) := Lib.hid (by rw [HN.out]; exact ⟨fun x => x.elim (fun y => absurd y hm) id, .inr⟩)
        have key := meet_first hm
        clear HN hm
        rcases key with g0 | ⟨g0, g1⟩ | ⟨g0, g1, g2⟩ | ⟨g0, g1, g2, g3⟩ | ⟨g0, g1, g2, g3, g4⟩
        all_goals
          go_wp2
          go_roundw
          case rel => exact ⟨k + 1, by omega, by go_num, (by repeat' (first | exact Below.refl _ _ | assumption | exact And.left (by assumption) | refine Below.drew ?_ | refine below_drewN ?_ _ | refine Below.setCell ?_ (by first | (simp; done) | (simp; omega) | omega) _ | refine Below.alloc ?_ (by first | (simp; done) | (simp; omega) | omega) _ | refine after (by assumption) (by first | (simp; done) | (simp; omega) | omega) ?_)), HX⟩
          case measure => simp [intOf]; omega
    · have hkl : k = l.length := by omega
      subst hkl
      have E : Hid (meetsB l n f t = false) := Lib.hid (decide_eq_false (by
        rw [HI.out, List.drop_length]; rintro ⟨_, h, _⟩; cases h))
      clear HI
      go_wp2
      go_ret
      exact ⟨by rw [E.out]; rfl, (by repeat' (first | exact Below.refl _ _ | assumption | exact And.left (by assumption) | refine Below.drew ?_ | refine below_drewN ?_ _ | refine Below.setCell ?_ (by first | (simp; done) | (simp; omega) | omega) _ | refine Below.alloc ?_ (by first | (simp; done) | (simp; omega) | omega) _ | refine after (by assumption) (by first | (simp; done) | (simp; omega) | omega) ?_))⟩
end Go.Proofs.Ytkkjbmedpdjgdaa.W
