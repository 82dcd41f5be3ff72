/-
  Plain functions: the sum of many, at most a limit. No Go in sight.
-/
import Derived.Test.YtdcnlhjfncdacaaNatSpec
namespace Go.Proofs.Ytdcnlhjfncdacaa.W
set_option linter.unusedVariables false

def anyNeg : List Int → Bool
  | [] => false
  | x :: r => if x < 0 then true else anyNeg r
def total : List Int → Int
  | [] => 0
  | x :: r => x + total r
def sumV (xs : List Int) (l : Int) : Int := if l < 0 ∨ anyNeg xs = true then 0 else if l < total xs then 0 else total xs
def sumE (xs : List Int) (l : Int) : Int := if l < 0 ∨ anyNeg xs = true then 2 else if l < total xs then 20 else 0

theorem anyNeg_append (a b : List Int) : anyNeg (a ++ b) = (anyNeg a || anyNeg b) := by
  induction a with
  | nil => simp [anyNeg]
  | cons x r ih => simp only [List.cons_append, anyNeg, ih]; split <;> simp
theorem total_append (a b : List Int) : total (a ++ b) = total a + total b := by
  induction a with
  | nil => simp [total]
  | cons x r ih => simp only [List.cons_append, total, ih]; omega
theorem anyNeg_reverse (a : List Int) : anyNeg a.reverse = anyNeg a := by
  induction a with
  | nil => rfl
  | cons x r ih => rw [List.reverse_cons, anyNeg_append, ih]; simp only [anyNeg]; split <;> simp
theorem total_reverse (a : List Int) : total a.reverse = total a := by
  induction a with
  | nil => rfl
  | cons x r ih => rw [List.reverse_cons, total_append, ih]; simp only [total]; omega
theorem sumV_reverse (a : List Int) (l : Int) : sumV a.reverse l = sumV a l := by unfold sumV; rw [anyNeg_reverse, total_reverse]
theorem sumE_reverse (a : List Int) (l : Int) : sumE a.reverse l = sumE a l := by unfold sumE; rw [anyNeg_reverse, total_reverse]
theorem total_nonneg : ∀ (a : List Int), anyNeg a = false → 0 ≤ total a
  | [], _ => by simp [total]
  | x :: r, h => by
    simp only [anyNeg] at h
    split at h
    · simp at h
    · have := total_nonneg r h; simp only [total]; omega
theorem take_snoc {α : Type} (xs : List α) (k : Nat) (h : k < xs.length) : xs.take (k + 1) = xs.take k ++ [xs[k]] := by
  rw [List.take_succ_eq_append_getElem h]
theorem anyNeg_snoc (xs : List Int) (k : Nat) (h : k < xs.length) : anyNeg (xs.take (k + 1)) = (anyNeg (xs.take k) || decide (xs[k] < 0)) := by
  rw [take_snoc xs k h, anyNeg_append]; congr 1
theorem total_snoc (xs : List Int) (k : Nat) (h : k < xs.length) : total (xs.take (k + 1)) = total (xs.take k) + xs[k] := by
  rw [take_snoc xs k h, total_append]; simp [total]
theorem anyNeg_part (xs : List Int) (k : Nat) (h : anyNeg xs = false) : anyNeg (xs.take k) = false ∧ anyNeg (xs.drop k) = false := by
  rw [← List.take_append_drop k xs, anyNeg_append] at h
  simpa using h
theorem anyNeg_at (xs : List Int) (k : Nat) (hk : k < xs.length) (h : xs[k] < 0) : anyNeg xs = true := by
  cases e : anyNeg xs with
  | true => rfl
  | false =>
    have := (anyNeg_part xs (k + 1) e).1
    rw [anyNeg_snoc xs k hk, decide_eq_true h, Bool.or_true] at this
    cases this
theorem neg_at (xs : List Int) (k : Nat) (hk : k < xs.length) (h : anyNeg xs = false) : 0 ≤ xs[k] := by
  by_cases g : xs[k] < 0
  · rw [anyNeg_at xs k hk g] at h; simp at h
  · omega
/-- the sum of the first is at most that of all -/
theorem total_part (xs : List Int) (k : Nat) (h : anyNeg xs = false) : 0 ≤ total (xs.take k) ∧ total (xs.take k) ≤ total xs := by
  have e := total_append (xs.take k) (xs.drop k)
  rw [List.take_append_drop] at e
  have := total_nonneg _ (anyNeg_part xs k h).1
  have := total_nonneg _ (anyNeg_part xs k h).2
  omega
/-- one more: what 'add' says of the sum so far -/
theorem step_ok (xs : List Int) (k : Nat) (l : Int) (hk : k < xs.length) (h : anyNeg xs = false) (hl : 0 ≤ l) (g : ¬ l < total (xs.take (k + 1))) :
    addV (total (xs.take k)) xs[k] l = total (xs.take (k + 1)) ∧ addE (total (xs.take k)) xs[k] l = 0 := by
  have p := total_part xs k h
  have q := neg_at xs k hk h
  have e := total_snoc xs k hk
  exact ⟨by rw [addV_ok (by omega) (by omega)]; omega, by rw [addE_ok (by omega) (by omega)]⟩
theorem step_over (xs : List Int) (k : Nat) (l : Int) (hk : k < xs.length) (h : anyNeg xs = false) (hl : 0 ≤ l) (g : l < total (xs.take (k + 1))) :
    addV (total (xs.take k)) xs[k] l = 0 ∧ addE (total (xs.take k)) xs[k] l = 20 ∧ l < total xs := by
  have p := total_part xs k h
  have p' := total_part xs (k + 1) h
  have q := neg_at xs k hk h
  have e := total_snoc xs k hk
  exact ⟨by rw [addV_over (by omega) (by omega)], by rw [addE_over (by omega) (by omega)], by omega⟩
theorem sumE_bd (xs : List Int) (l : Int) : 0 ≤ sumE xs l ∧ sumE xs l ≤ 20 := by unfold sumE; (repeat' split) <;> omega
theorem sum_arg {xs : List Int} {l : Int} (h : l < 0 ∨ anyNeg xs = true) : sumV xs l = 0 ∧ sumE xs l = 2 := by unfold sumV sumE; rw [if_pos h, if_pos h]; exact ⟨rfl, rfl⟩
theorem sum_over {xs : List Int} {l : Int} (h : ¬ (l < 0 ∨ anyNeg xs = true)) (g : l < total xs) : sumV xs l = 0 ∧ sumE xs l = 20 := by unfold sumV sumE; rw [if_neg h, if_neg h, if_pos g, if_pos g]; exact ⟨rfl, rfl⟩
theorem sum_ok {xs : List Int} {l : Int} (h : ¬ (l < 0 ∨ anyNeg xs = true)) (g : ¬ l < total xs) : sumV xs l = total xs ∧ sumE xs l = 0 := by unfold sumV sumE; rw [if_neg h, if_neg h, if_neg g, if_neg g]; exact ⟨rfl, rfl⟩
/-- is the limit, or one of the first k, below 0? -/
def wrongAt (l : Int) (xs : List Int) (k : Nat) : Bool := decide (l < 0) || anyNeg (xs.take k)
theorem wrongAt_zero (l : Int) (xs : List Int) : wrongAt l xs 0 = decide (l < 0) := by simp [wrongAt, anyNeg]
theorem wrongAt_more (l : Int) (xs : List Int) (k : Nat) (hk : k < xs.length) : wrongAt l xs (k + 1) = (wrongAt l xs k || decide (xs[k] < 0)) := by
  unfold wrongAt; rw [anyNeg_snoc xs k hk, Bool.or_assoc]
theorem wrongAt_all (l : Int) (xs : List Int) : (wrongAt l xs xs.length = true ↔ (l < 0 ∨ anyNeg xs = true)) := by
  unfold wrongAt; rw [List.take_of_length_le (Nat.le_refl _)]; simp
end Go.Proofs.Ytdcnlhjfncdacaa.W
