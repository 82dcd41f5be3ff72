/-
  Plain functions: the bytes of a number, and the number with whose bytes a list begins. No Go in sight.
-/
import Derived.Test.YtcdajfiohhbdgaaRows
namespace Go.Proofs.Ytcdajfiohhbdgaa.W
set_option linter.unusedVariables false

/-- the bytes of a number -/
def enc (n : Nat) : List UInt8 := if n < 128 then [UInt8.ofNat n] else UInt8.ofNat (128 + n % 128) :: enc (n / 128)
termination_by n
decreasing_by omega
theorem enc_small {n : Nat} (h : n < 128) : enc n = [UInt8.ofNat n] := by rw [enc, if_pos h]
theorem enc_big {n : Nat} (h : ¬ n < 128) : enc n = UInt8.ofNat (128 + n % 128) :: enc (n / 128) := by rw [enc, if_neg h]
/-- those of many, behind one another -/
def putL (xs : List Int) : List UInt8 := xs.flatMap fun x => enc x.toNat
theorem putL_nil : putL [] = [] := rfl
theorem putL_cons (x : Int) (r : List Int) : putL (x :: r) = enc x.toNat ++ putL r := rfl
theorem putL_snoc (xs : List Int) (x : Int) : putL (xs ++ [x]) = putL xs ++ enc x.toNat := by simp [putL]
theorem take_snoc {α : Type} (xs : List α) (k : Nat) (h : k < xs.length) : xs.take (k + 1) = xs.take k ++ [xs[k]] := by
  rw [List.take_succ_eq_append_getElem h]
theorem putL_take (xs : List Int) (k : Nat) (h : k < xs.length) : putL (xs.take (k + 1)) = putL (xs.take k) ++ enc (xs[k]).toNat := by rw [take_snoc xs k h, putL_snoc]
theorem putL_drop (xs : List Int) (k : Nat) (h : k < xs.length) : putL (xs.drop k) = enc (xs[k]).toNat ++ putL (xs.drop (k + 1)) := by
  rw [List.drop_eq_getElem_cons h, putL_cons]

theorem of_nat {n : Nat} (h : n < 256) : (UInt8.ofNat n).toNat = n := by simp [UInt8.toNat_ofNat']; omega
theorem to_of (d : UInt8) : UInt8.ofNat d.toNat = d := UInt8.ofNat_toNat

theorem enc_len1 (n : Nat) : 0 < (enc n).length := by rw [enc]; split <;> simp
theorem enc_lenk : ∀ (k n : Nat), n < 128 ^ (k + 1) → (enc n).length ≤ k + 1
  | 0, n, h => by rw [enc_small (by omega)]; simp
  | k + 1, n, h => by
    by_cases g : n < 128
    · rw [enc_small g]; simp
    · rw [enc_big g, List.length_cons]
      have := enc_lenk k (n / 128) (by rw [Nat.pow_succ] at h; omega)
      omega
theorem enc_len (n : Nat) (h : n ≤ 281474976710656) : (enc n).length ≤ 7 := by
  have e : 128 ^ (6 + 1) = 562949953421312 := by decide
  exact enc_lenk 6 n (by omega)
theorem enc_len9 (n : Nat) (h : n ≤ 9223372036854775807) : (enc n).length ≤ 9 := by
  have e : 128 ^ (8 + 1) = 9223372036854775808 := by decide
  exact enc_lenk 8 n (by omega)

/-- what is read of bytes, when so many digits are read, and what they come to: number, size, what is wrong -/
def goF (size n : Nat) : List UInt8 → Nat × Nat × Nat
  | [] => if size = 8 then (0, 0, 11) else (0, 0, 10)
  | d :: t => if size = 8 then (0, 0, 11) else
      if 128 ≤ d.toNat then goF (size + 1) (n + d.toNat % 128 * 128 ^ size) t
      else if 281474976710656 < n + d.toNat % 128 * 128 ^ size ∨ (d.toNat = 0 ∧ 0 < size) then (0, 0, 11) else (n + d.toNat % 128 * 128 ^ size, size + 1, 0)
def firstS (l : List UInt8) : Nat × Nat × Nat := goF 0 0 l
theorem goF_eight (n : Nat) (l : List UInt8) : goF 8 n l = (0, 0, 11) := by cases l <;> simp [goF]
theorem goF_end {size : Nat} (n : Nat) (h : size ≠ 8) : goF size n [] = (0, 0, 10) := by simp [goF, h]
theorem goF_more {size : Nat} (n : Nat) (h : size ≠ 8) {d : UInt8} (t : List UInt8) (g : 128 ≤ d.toNat) : goF size n (d :: t) = goF (size + 1) (n + d.toNat % 128 * 128 ^ size) t := by simp [goF, h, g]
theorem goF_bad {size : Nat} (n : Nat) (h : size ≠ 8) {d : UInt8} (t : List UInt8) (g : ¬ 128 ≤ d.toNat) (k : 281474976710656 < n + d.toNat % 128 * 128 ^ size ∨ (d.toNat = 0 ∧ 0 < size)) : goF size n (d :: t) = (0, 0, 11) := by
  rw [goF, if_neg h, if_neg g, if_pos k]
theorem goF_good {size : Nat} (n : Nat) (h : size ≠ 8) {d : UInt8} (t : List UInt8) (g : ¬ 128 ≤ d.toNat) (k : ¬ (281474976710656 < n + d.toNat % 128 * 128 ^ size ∨ (d.toNat = 0 ∧ 0 < size))) :
    goF size n (d :: t) = (n + d.toNat % 128 * 128 ^ size, size + 1, 0) := by
  rw [goF, if_neg h, if_neg g, if_neg k]

theorem digit_sum (n m p : Nat) : n + m % 128 * p + m / 128 * (p * 128) = n + m * p := by
  have h := Nat.div_add_mod m 128
  have e : m * p = (128 * (m / 128) + m % 128) * p := by rw [h]
  rw [e, Nat.add_mul, Nat.mul_comm p 128, ← Nat.mul_assoc, Nat.mul_comm (m / 128) 128]
  omega
/-- what was put is read -/
theorem goF_put (m : Nat) : ∀ (size n : Nat) (t : List UInt8), (m ≠ 0 ∨ size = 0) → n + m * 128 ^ size ≤ 281474976710656 → size + (enc m).length ≤ 7 →
    goF size n (enc m ++ t) = (n + m * 128 ^ size, size + (enc m).length, 0) := by
  induction m using Nat.strongRecOn with
  | _ m ih =>
    intro size n t h0 hm hl
    by_cases g : m < 128
    · rw [enc_small g] at hl ⊢
      have e := of_nat (n := m) (by omega)
      have e2 : m % 128 = m := Nat.mod_eq_of_lt g
      simp only [List.length_cons, List.length_nil] at hl ⊢
      rw [List.singleton_append, goF_good n (by omega) t (by rw [e]; omega) (by rw [e, e2]; omega), e, e2]
    · rw [enc_big g] at hl ⊢
      have e := of_nat (n := 128 + m % 128) (by omega)
      have e2 : (128 + m % 128) % 128 = m % 128 := by omega
      simp only [List.length_cons] at hl ⊢
      have hs := digit_sum n m (128 ^ size)
      rw [List.cons_append, goF_more n (by omega) _ (by rw [e]; omega), e, e2, ih (m / 128) (by omega) (size + 1) _ t (Or.inl (by omega)) (by rw [Nat.pow_succ, hs]; exact hm) (by omega), Nat.pow_succ, hs]
      congr 2
      omega
theorem first_put (m : Nat) (h : m ≤ 281474976710656) (t : List UInt8) : firstS (enc m ++ t) = (m, (enc m).length, 0) := by
  have := goF_put m 0 0 t (Or.inr rfl) (by simpa using h) (by have := enc_len m h; omega)
  simpa [firstS] using this
/-- what is read is put so -/
theorem goF_back (l : List UInt8) : ∀ (size n N S : Nat), goF size n l = (N, S, 0) →
    ∃ m t, (m ≠ 0 ∨ size = 0) ∧ l = enc m ++ t ∧ N = n + m * 128 ^ size ∧ S = size + (enc m).length ∧ N ≤ 281474976710656 := by
  induction l with
  | nil => intro size n N S h; rw [goF] at h; split at h <;> simp at h
  | cons d t ih =>
    intro size n N S h
    by_cases h8 : size = 8
    · subst h8; rw [goF_eight] at h; simp at h
    · by_cases g : 128 ≤ d.toNat
      · rw [goF_more n h8 t g] at h
        obtain ⟨m, u, h0, hu, hN, hS, hM⟩ := ih _ _ _ _ h
        have hm : m ≠ 0 := by omega
        have hd : d.toNat < 256 := d.toNat_lt
        obtain ⟨M, hMe⟩ : ∃ M, M = d.toNat % 128 + 128 * m := ⟨_, rfl⟩
        have e1 : M % 128 = d.toNat % 128 := by omega
        have e2 : M / 128 = m := by omega
        have e3 : 128 + M % 128 = d.toNat := by omega
        have hs := digit_sum n M (128 ^ size)
        have he : enc M = d :: enc m := by rw [enc_big (by omega), e3, e2, to_of]
        refine ⟨M, u, Or.inl (by omega), by rw [he, hu]; rfl, ?_, ?_, hM⟩
        · rw [hN, ← hs, e1, e2, Nat.pow_succ]
        · rw [hS, he, List.length_cons]; omega
      · by_cases k : 281474976710656 < n + d.toNat % 128 * 128 ^ size ∨ (d.toNat = 0 ∧ 0 < size)
        · rw [goF_bad n h8 t g k] at h; simp at h
        · rw [goF_good n h8 t g k] at h
          simp only [Prod.mk.injEq] at h
          obtain ⟨hN, hS, _⟩ := h
          have e2 : d.toNat % 128 = d.toNat := Nat.mod_eq_of_lt (by omega)
          have he : enc d.toNat = [d] := by rw [enc_small (by omega), to_of]
          refine ⟨d.toNat, t, by omega, by rw [he]; rfl, by rw [← hN, e2], by rw [he]; simp; omega, by omega⟩
theorem first_back {l : List UInt8} {N S : Nat} (h : firstS l = (N, S, 0)) : N ≤ 281474976710656 ∧ S = (enc N).length ∧ ∃ t, l = enc N ++ t := by
  obtain ⟨m, t, _, hl, hN, hS, hM⟩ := goF_back l 0 0 N S h
  have : N = m := by simpa using hN
  subst this
  exact ⟨hM, by omega, t, hl⟩
/-- where something is wrong -/
theorem goF_wrong (l : List UInt8) : ∀ (size n N S E : Nat), goF size n l = (N, S, E) → E ≠ 0 → N = 0 ∧ S = 0 ∧ E ≤ 11 := by
  induction l with
  | nil => intro size n N S E h hE; rw [goF] at h; split at h <;> (simp at h; omega)
  | cons d t ih =>
    intro size n N S E h hE
    by_cases h8 : size = 8
    · subst h8; rw [goF_eight] at h; simp at h; omega
    · by_cases g : 128 ≤ d.toNat
      · rw [goF_more n h8 t g] at h
        exact ih _ _ _ _ _ h hE
      · by_cases k : 281474976710656 < n + d.toNat % 128 * 128 ^ size ∨ (d.toNat = 0 ∧ 0 < size)
        · rw [goF_bad n h8 t g k] at h; simp at h; omega
        · rw [goF_good n h8 t g k] at h; simp at h; omega
theorem first_wrong {l : List UInt8} {N S E : Nat} (h : firstS l = (N, S, E)) (hE : E ≠ 0) : N = 0 ∧ S = 0 ∧ E ≤ 11 := goF_wrong l 0 0 N S E h hE
/-- is each one such that it can be put? -/
def okN (x : Int) : Bool := decide (0 ≤ x ∧ x ≤ 281474976710656)
def okL (xs : List Int) : Bool := xs.all okN
theorem okN_iff (x : Int) : okN x = true ↔ 0 ≤ x ∧ x ≤ 281474976710656 := by simp [okN]
theorem okL_at {xs : List Int} (h : okL xs = true) (i : Nat) (hi : i < xs.length) : 0 ≤ xs[i] ∧ xs[i] ≤ 281474976710656 := (okN_iff _).1 (List.all_eq_true.1 h _ (List.getElem_mem hi))
theorem okL_no {xs : List Int} (i : Nat) (hi : i < xs.length) (h : ¬ (0 ≤ xs[i] ∧ xs[i] ≤ 281474976710656)) : okL xs = false := by
  cases e : okL xs with
  | false => rfl
  | true => exact absurd (okL_at e i hi) h
theorem okL_yes {xs : List Int} (h : ∀ i (hi : i < xs.length), 0 ≤ xs[i] ∧ xs[i] ≤ 281474976710656) : okL xs = true :=
  List.all_eq_true.2 fun x hx => by
    obtain ⟨i, hi, rfl⟩ := List.getElem_of_mem hx
    exact (okN_iff _).2 (h i hi)
theorem putL_len : ∀ {xs : List Int}, okL xs = true → (putL xs).length ≤ 7 * xs.length
  | [], _ => by simp [putL]
  | x :: r, h => by
    have h' : okN x = true ∧ okL r = true := by simpa [okL] using h
    have h1 := (okN_iff x).1 h'.1
    have h2 := putL_len h'.2
    have h3 := enc_len x.toNat (by omega)
    rw [putL_cons, List.length_append, List.length_cons]
    omega
end Go.Proofs.Ytcdajfiohhbdgaa.W
