/-
  Plain functions: the number at a place, as the document's own reader finds it: how many bytes go on, what they come to. No Go in sight.
-/
import Derived.Test.YtbnlchbklpgejaaDoorCodecSpec
namespace Go.Proofs.YtbnlchbklpgejaaDoor.W
set_option linter.unusedVariables false
set_option linter.unusedSimpArgs false

/-- how many bytes ahead go on -/
def leadS : List UInt8 → Nat
  | [] => 0
  | d :: t => if 128 ≤ d.toNat then leadS t + 1 else 0
def valF : List UInt8 → Nat
  | [] => 0
  | d :: t => d.toNat % 128 + 128 * valF t
theorem lead_le : ∀ l : List UInt8, leadS l ≤ l.length
  | [] => Nat.le_refl _
  | d :: t => by
    unfold leadS
    have := lead_le t
    split
    · rw [List.length_cons]; omega
    · omega
theorem lead_at : ∀ (l : List UInt8) (k : Nat) (h : k < l.length), k ≤ leadS l → (128 ≤ (l[k]).toNat ↔ k + 1 ≤ leadS l)
  | d :: t, 0, _, _ => by
    unfold leadS
    simp only [List.getElem_cons_zero]
    split <;> omega
  | d :: t, k + 1, h, hk => by
    unfold leadS at hk ⊢
    simp only [List.getElem_cons_succ]
    split at hk
    · rename_i hd
      rw [if_pos hd]
      have := lead_at t k (by simpa using h) (by omega)
      omega
    · omega
theorem valF_lt : ∀ l : List UInt8, valF l < 128 ^ l.length
  | [] => by simp [valF]
  | d :: t => by
    have := valF_lt t
    unfold valF
    rw [List.length_cons, Nat.pow_succ]
    omega
theorem valF_app : ∀ (a b : List UInt8), valF (a ++ b) = valF a + 128 ^ a.length * valF b
  | [], b => by simp [valF]
  | d :: t, b => by
    show d.toNat % 128 + 128 * valF (t ++ b) = d.toNat % 128 + 128 * valF t + 128 ^ (t.length + 1) * valF b
    rw [valF_app t b, Nat.pow_succ, Nat.mul_add, Nat.mul_comm (128 ^ t.length) 128, Nat.mul_assoc]
    omega
theorem valF_bound (l : List UInt8) (h : l.length ≤ 8) : valF l ≤ 72057594037927936 := by
  have h1 := valF_lt l
  have h2 : 128 ^ l.length ≤ 128 ^ 8 := Nat.pow_le_pow_right (by omega) h
  have h3 : 128 ^ 8 = 72057594037927936 := by decide
  omega
theorem valF_drop (l : List UInt8) (i : Nat) (h : i < l.length) : valF (l.drop i) = (l[i]).toNat % 128 + 128 * valF (l.drop (i + 1)) := by
  rw [List.drop_eq_getElem_cons h]; rfl
def refS (l : List UInt8) : Nat × Nat × Nat :=
  if 8 ≤ leadS l then (0, 0, 11) else if l.length ≤ leadS l then (0, 0, 10) else
    if okN (valF (l.take (leadS l + 1)) : Int) = false ∨ (enc (valF (l.take (leadS l + 1)))).length ≠ leadS l + 1 then (0, 0, 11) else (valF (l.take (leadS l + 1)), leadS l + 1, 0)
theorem goF_lead (l : List UInt8) : ∀ size n, size ≤ 8 → goF size n l =
    if 8 ≤ size + leadS l then (0, 0, 11) else if l.length ≤ leadS l then (0, 0, 10) else
      if 281474976710656 < n + 128 ^ size * valF (l.take (leadS l + 1)) ∨ ((l.getD (leadS l) 0).toNat = 0 ∧ 0 < size + leadS l) then (0, 0, 11) else (n + 128 ^ size * valF (l.take (leadS l + 1)), size + leadS l + 1, 0) := by
  induction l with
  | nil =>
    intro size n h
    by_cases h8 : size = 8
    · subst h8; simp [goF]
    · rw [goF_end n h8, if_neg (by simp [leadS]; omega)]; rfl
  | cons d t ih =>
    intro size n h
    by_cases h8 : size = 8
    · subst h8; rw [goF_eight, if_pos (by omega)]
    · by_cases hd : 128 ≤ d.toNat
      · have hl : leadS (d :: t) = leadS t + 1 := by unfold leadS; rw [if_pos hd]; cases t <;> rfl
        rw [goF_more n h8 t hd, ih (size + 1) _ (by omega), hl]
        have hv : n + d.toNat % 128 * 128 ^ size + 128 ^ (size + 1) * valF (t.take (leadS t + 1)) = n + 128 ^ size * valF ((d :: t).take (leadS t + 1 + 1)) := by
          rw [List.take_succ_cons]
          show _ = n + 128 ^ size * (d.toNat % 128 + 128 * valF (t.take (leadS t + 1)))
          rw [Nat.mul_add, Nat.pow_succ, Nat.mul_assoc, Nat.mul_comm (d.toNat % 128)]
          omega
        rw [hv]
        have e1 : size + 1 + leadS t = size + (leadS t + 1) := by omega
        have e2 : ((d :: t).getD (leadS t + 1) 0) = t.getD (leadS t) 0 := rfl
        rw [e1, e2]
        have e3 : (d :: t).length ≤ leadS t + 1 ↔ t.length ≤ leadS t := by rw [List.length_cons]; omega
        simp only [e3]
      · have hl : leadS (d :: t) = 0 := by unfold leadS; rw [if_neg hd]
        rw [hl, if_neg (by omega), if_neg (by simp)]
        have e2 : ((d :: t).getD 0 0) = d := rfl
        have hv : n + 128 ^ size * valF ((d :: t).take (0 + 1)) = n + d.toNat % 128 * 128 ^ size := by
          show n + 128 ^ size * (d.toNat % 128 + 128 * 0) = _
          rw [Nat.mul_zero, Nat.add_zero, Nat.mul_comm]
        rw [hv, e2]
        by_cases k : 281474976710656 < n + d.toNat % 128 * 128 ^ size ∨ (d.toNat = 0 ∧ 0 < size)
        · rw [goF_bad n h8 t hd k, if_pos (by simpa using k)]
        · rw [goF_good n h8 t hd k, if_neg (by simpa using k)]
theorem enc_ge : ∀ (k n : Nat), 128 ^ k ≤ n → k + 1 ≤ (enc n).length
  | 0, n, _ => enc_len1 n
  | k + 1, n, h => by
    have hp : 0 < 128 ^ k := Nat.pow_pos (by omega)
    rw [Nat.pow_succ] at h
    rw [enc_big (by omega), List.length_cons]
    have := enc_ge k (n / 128) (by omega)
    omega
theorem firstS_ref (l : List UInt8) : firstS l = refS l := by
  unfold firstS refS
  rw [goF_lead l 0 0 (by omega)]
  simp only [Nat.zero_add, Nat.pow_zero, Nat.one_mul]
  by_cases h8 : 8 ≤ leadS l
  · rw [if_pos h8, if_pos h8]
  · rw [if_neg h8, if_neg h8]
    by_cases hl : l.length ≤ leadS l
    · rw [if_pos hl, if_pos hl]
    · rw [if_neg hl, if_neg hl]
      have hlt : leadS l < l.length := by omega
      have hd : ¬ 128 ≤ (l[leadS l]).toNat := fun h => by have := (lead_at l (leadS l) hlt (Nat.le_refl _)).1 h; omega
      have hg : l.getD (leadS l) 0 = l[leadS l] := by simp [hlt]
      have ht : valF (l.take (leadS l + 1)) = valF (l.take (leadS l)) + 128 ^ leadS l * (l[leadS l]).toNat := by
        rw [take_snoc l _ hlt, valF_app, List.length_take, Nat.min_eq_left (Nat.le_of_lt hlt)]
        show _ + _ * ((l[leadS l]).toNat % 128 + 128 * 0) = _
        rw [Nat.mul_zero, Nat.add_zero, Nat.mod_eq_of_lt (by omega)]
      have hv := valF_lt (l.take (leadS l))
      rw [List.length_take, Nat.min_eq_left (Nat.le_of_lt hlt)] at hv
      have hv1 := valF_lt (l.take (leadS l + 1))
      rw [List.length_take, Nat.min_eq_left hlt] at hv1
      have key : (281474976710656 < valF (l.take (leadS l + 1)) ∨ ((l.getD (leadS l) 0).toNat = 0 ∧ 0 < leadS l)) ↔
          (okN (valF (l.take (leadS l + 1)) : Int) = false ∨ (enc (valF (l.take (leadS l + 1)))).length ≠ leadS l + 1) := by
        rw [hg]
        generalize hm : valF (l.take (leadS l + 1)) = m at ht hv1
        by_cases hb : 281474976710656 < m
        · have : okN (m : Int) = false := decide_eq_false (by omega)
          simp [hb, this]
        · have : okN (m : Int) = true := decide_eq_true ⟨by omega, by omega⟩
          simp only [hb, this, false_or, Bool.true_eq_false]
          generalize leadS l = k at *
          generalize valF (l.take k) = c at *
          generalize (l[k]).toNat = x at *
          constructor
          · rintro ⟨h0, hk⟩
            subst h0
            obtain ⟨j, rfl⟩ : ∃ j, k = j + 1 := ⟨k - 1, by omega⟩
            have := enc_lenk j m (by omega)
            omega
          · intro h
            have hx : x = 0 := by
              apply Classical.byContradiction
              intro hx
              have h1 : 128 ^ k * 1 ≤ 128 ^ k * x := Nat.mul_le_mul_left _ (by omega)
              have h2 := enc_ge k m (by omega)
              have h3 := enc_lenk k m hv1
              omega
            refine ⟨hx, ?_⟩
            apply Classical.byContradiction
            intro hk
            have hk0 : k = 0 := by omega
            subst hk0
            have h3 := enc_lenk 0 m (by simpa using hv1)
            have h4 := enc_len1 m
            omega
      by_cases hc : 281474976710656 < valF (l.take (leadS l + 1)) ∨ ((l.getD (leadS l) 0).toNat = 0 ∧ 0 < leadS l)
      · rw [if_pos hc, if_pos (key.1 hc)]
      · rw [if_neg hc, if_neg (fun h => hc (key.2 h))]
end Go.Proofs.YtbnlchbklpgejaaDoor.W
