/-
  Contracts of book.alone; of the document's One.
-/
import Derived.Test.YtkkjbmedpdjgdaaBkMem
import Derived.Deep.QuietTactic
import Derived.BigQuiet
namespace Go.Proofs.Ytkkjbmedpdjgdaa.W
set_option linter.unusedVariables false
set_option linter.unusedSimpArgs false
open Go.ChangeShapes Go.WideShapes Go.ChangeAt Go.RowKit

def okB (n : Int) (b : Bk) : Bool := decide (BkOk n b)
/-- the first question that goes the other way -/
theorem ok_first {n : Int} {b : Bk} (h : ¬ BkOk n b) : decide (0 < b.id) = false ∨ (decide (0 < b.id) = true ∧ decide (b.id ≤ 281474976710656) = false) ∨ (decide (0 < b.id) = true ∧ decide (b.id ≤ 281474976710656) = true ∧ decide (0 ≤ b.node) = false) ∨
    (decide (0 < b.id) = true ∧ decide (b.id ≤ 281474976710656) = true ∧ decide (0 ≤ b.node) = true ∧ decide (b.node < n) = false) ∨
    (decide (0 < b.id) = true ∧ decide (b.id ≤ 281474976710656) = true ∧ decide (0 ≤ b.node) = true ∧ decide (b.node < n) = true ∧ decide (0 ≤ b.frm) = false) ∨
    (decide (0 < b.id) = true ∧ decide (b.id ≤ 281474976710656) = true ∧ decide (0 ≤ b.node) = true ∧ decide (b.node < n) = true ∧ decide (0 ≤ b.frm) = true ∧ decide (b.frm < b.til) = false) ∨
    (decide (0 < b.id) = true ∧ decide (b.id ≤ 281474976710656) = true ∧ decide (0 ≤ b.node) = true ∧ decide (b.node < n) = true ∧ decide (0 ≤ b.frm) = true ∧ decide (b.frm < b.til) = true ∧ decide (b.til ≤ 1099511627776) = false) := by
  unfold BkOk at h
  by_cases h0 : 0 < b.id
  · by_cases h1 : b.id ≤ 281474976710656
    · by_cases h2 : 0 ≤ b.node
      · by_cases h3 : b.node < n
        · by_cases h4 : 0 ≤ b.frm
          · by_cases h5 : b.frm < b.til
            · by_cases h6 : b.til ≤ 1099511627776
              · exact absurd ⟨⟨h0, h1⟩, ⟨h2, h3⟩, h4, h5, h6⟩ h
              · simp [h0, h1, h2, h3, h4, h5, h6]
            · simp [h0, h1, h2, h3, h4, h5]
          · simp [h0, h1, h2, h3, h4]
        · simp [h0, h1, h2, h3]
      · simp [h0, h1, h2]
    · simp [h0, h1]
  · simp [h0]
theorem one_le (x : Int) : decide (1 ≤ x) = decide (0 < x) := by rw [decide_eq_decide]; omega
set_option maxHeartbeats 2000000 in
theorem bAlone (b : Bk) (n : Int) (w : World) :
    Calls Try.prog 13 #[.agg #[.int .i64 b.id, .int .i64 b.node, .int .i64 b.frm, .int .i64 b.til], .int .i64 n] w fun e w' => e = .returned (.bool (okB n b)) ∧ Below w.heap.size w w' := by
  by_cases h : BkOk n b
  · rw [show okB n b = true from decide_eq_true h]
    obtain ⟨⟨h0, h1⟩, ⟨h2, h3⟩, h4, h5, h6⟩ := h
    have g0 : decide (1 ≤ b.id) = true := decide_eq_true h0
    have g1 := decide_eq_true h1
    have g2 := decide_eq_true h2
    have g3 := decide_eq_true h3
    have g4 := decide_eq_true h4
    have g5 := decide_eq_true h5
    have g6 := decide_eq_true h6
    clear h0 h1 h2 h3 h4 h5 h6
    go_enter Try.func13, Try.ntmps13
    go_wp2
    go_ret
    exact ⟨by simp [g6], (by repeat' (first | exact Below.refl _ _ | assumption | exact And.left (by assumption) | refine Below.drew ?_ | refine below_drewN ?_ _ | refine Below.setCell ?_ (by first | (simp; done) | (simp; omega) | omega) _ | refine Below.alloc ?_ (by first | (simp; done) | (simp; omega) | omega) _ | refine after (by assumption) (by first | (simp; done) | (simp; omega) | omega) ?_))⟩
  · rw [show okB n b = false from decide_eq_false h]
    have key := ok_first h
    rw [← one_le] at key
    clear h
    rcases key with g0 | ⟨g0, g1⟩ | ⟨g0, g1, g2⟩ | ⟨g0, g1, g2, g3⟩ | ⟨g0, g1, g2, g3, g4⟩ | ⟨g0, g1, g2, g3, g4, g5⟩ | ⟨g0, g1, g2, g3, g4, g5, g6⟩
    all_goals
      go_enter Try.func13, Try.ntmps13
      go_wp2
      go_ret
      exact ⟨by simp [*], (by repeat' (first | exact Below.refl _ _ | assumption | exact And.left (by assumption) | refine Below.drew ?_ | refine below_drewN ?_ _ | refine Below.setCell ?_ (by first | (simp; done) | (simp; omega) | omega) _ | refine Below.alloc ?_ (by first | (simp; done) | (simp; omega) | omega) _ | refine after (by assumption) (by first | (simp; done) | (simp; omega) | omega) ?_))⟩

def inM (n : Int) : Bool := decide (0 ≤ n ∧ n ≤ 281474976710656)
theorem nRight (n : Int) (w : World) :
    Calls Try.prog 19 #[.int .i64 n] w fun e w' => e = .returned (.bool (inM n)) ∧ w = w' := by
  by_cases h0 : 0 ≤ n
  · by_cases h1 : n ≤ 281474976710656
    · rw [show inM n = true from decide_eq_true ⟨h0, h1⟩]
      go_enter Try.func19, Try.ntmps19
      go_wp2
      go_ret
      exact ⟨rfl, rfl⟩
    · rw [show inM n = false from decide_eq_false (fun x => h1 x.2)]
      go_enter Try.func19, Try.ntmps19
      go_wp2
      go_ret
      exact ⟨rfl, rfl⟩
  · rw [show inM n = false from decide_eq_false (fun x => h0 x.1)]
    go_enter Try.func19, Try.ntmps19
    go_wp2
    go_ret
    exact ⟨rfl, rfl⟩
theorem inM_pos {x : Int} (h : 0 < x) : inM x = decide (x ≤ 281474976710656) := by
  unfold inM; rw [decide_eq_decide]; omega
set_option maxHeartbeats 2000000 in
theorem rBkOne (b : Bk) (n : Int) (w : World) :
    Calls Try.prog 15 #[.agg #[.int .i64 b.id, .int .i64 b.node, .int .i64 b.frm, .int .i64 b.til], .int .i64 n] w fun e w' => e = .returned (.bool (okB n b)) ∧ Below w.heap.size w w' := by
  have HN := Lib.hid (fun w => nRight b.id w)
  by_cases h : BkOk n b
  · rw [show okB n b = true from decide_eq_true h]
    obtain ⟨⟨h0, h1⟩, ⟨h2, h3⟩, h4, h5, h6⟩ := h
    rw [inM_pos h0, decide_eq_true h1] at HN
    have g0 := decide_eq_true h0
    have g2 := decide_eq_true h2
    have g3 := decide_eq_true h3
    have g4 := decide_eq_true h4
    have g5 := decide_eq_true h5
    have g6 := decide_eq_true h6
    clear h0 h1 h2 h3 h4 h5 h6
    go_enter Try.func15, Try.ntmps15
    go_wp2_with fail
    refine (HN.out _).mono ?_; rintro e w1 ⟨rfl, rfl⟩
    go_wp2
    go_ret
    exact ⟨by simp [g6], (by repeat' (first | exact Below.refl _ _ | assumption | exact And.left (by assumption) | refine Below.drew ?_ | refine below_drewN ?_ _ | refine Below.setCell ?_ (by first | (simp; done) | (simp; omega) | omega) _ | refine Below.alloc ?_ (by first | (simp; done) | (simp; omega) | omega) _ | refine after (by assumption) (by first | (simp; done) | (simp; omega) | omega) ?_))⟩
  · rw [show okB n b = false from decide_eq_false h]
    have key := ok_first h
    clear h
    rcases key with g0 | ⟨g0, g1⟩ | ⟨g0, g1, g2⟩ | ⟨g0, g1, g2, g3⟩ | ⟨g0, g1, g2, g3, g4⟩ | ⟨g0, g1, g2, g3, g4, g5⟩ | ⟨g0, g1, g2, g3, g4, g5, g6⟩
    · go_enter Try.func15, Try.ntmps15
      go_wp2
      go_ret
      exact ⟨rfl, (by repeat' (first | exact Below.refl _ _ | assumption | exact And.left (by assumption) | refine Below.drew ?_ | refine below_drewN ?_ _ | refine Below.setCell ?_ (by first | (simp; done) | (simp; omega) | omega) _ | refine Below.alloc ?_ (by first | (simp; done) | (simp; omega) | omega) _ | refine after (by assumption) (by first | (simp; done) | (simp; omega) | omega) ?_))⟩
    all_goals
      rw [inM_pos (of_decide_eq_true g0), g1] at HN
      go_enter Try.func15, Try.ntmps15
      go_wp2_with fail
      refine (HN.out _).mono ?_; rintro e w1 ⟨rfl, rfl⟩
      go_wp2
      go_ret
      exact ⟨by simp [*], (by repeat' (first | exact Below.refl _ _ | assumption | exact And.left (by assumption) | refine Below.drew ?_ | refine below_drewN ?_ _ | refine Below.setCell ?_ (by first | (simp; done) | (simp; omega) | omega) _ | refine Below.alloc ?_ (by first | (simp; done) | (simp; omega) | omega) _ | refine after (by assumption) (by first | (simp; done) | (simp; omega) | omega) ?_))⟩
end Go.Proofs.Ytkkjbmedpdjgdaa.W
