/-
  Plain functions: a load's frame, and the load of the frame with which a list of bytes begins. No Go in sight.
-/
import Derived.Test.YtbnojefiocoodaaCodecSpec
namespace Go.Proofs.Ytbnojefiocoodaa.W
set_option linter.unusedVariables false

/-- each byte times its place, counted from k + 1 on -/
def sumAt : Nat → List UInt8 → Nat
  | _, [] => 0
  | k, d :: t => (k + 1) * d.toNat + sumAt (k + 1) t
theorem sumAt_app : ∀ (l r : List UInt8) (k : Nat), sumAt k (l ++ r) = sumAt k l + sumAt (k + l.length) r
  | [], r, k => by simp [sumAt]
  | d :: t, r, k => by
    rw [List.cons_append, sumAt, sumAt, sumAt_app t r (k + 1), List.length_cons, show k + 1 + t.length = k + (t.length + 1) by omega]
    omega
theorem sumAt_snoc (l : List UInt8) (d : UInt8) (k : Nat) : sumAt k (l ++ [d]) = sumAt k l + (k + l.length + 1) * d.toNat := by
  rw [sumAt_app]; simp [sumAt]
theorem sumAt_take (l : List UInt8) (i : Nat) (h : i < l.length) : sumAt 0 (l.take (i + 1)) = sumAt 0 (l.take i) + (i + 1) * (l[i]).toNat := by
  rw [take_snoc l i h, sumAt_snoc, List.length_take, Nat.zero_add, Nat.min_eq_left (by omega)]
theorem sumAt_le (M : Nat) : ∀ (l : List UInt8) (k : Nat), k + l.length ≤ M → sumAt k l ≤ 255 * M * l.length
  | [], k, h => by simp [sumAt]
  | d :: t, k, h => by
    rw [List.length_cons] at h
    have h1 := sumAt_le M t (k + 1) (by omega)
    have h2 : d.toNat < 256 := d.toNat_lt
    have h3 : (k + 1) * d.toNat ≤ M * 255 := Nat.mul_le_mul (by omega) (by omega)
    rw [sumAt, List.length_cons, Nat.mul_add, Nat.mul_one]
    omega
theorem sumAt_le0 (l : List UInt8) (h : l.length ≤ 100000) : sumAt 0 l ≤ 2550000000000 := by
  have h1 := sumAt_le 100000 l 0 (by omega)
  omega
/-- the check behind a list -/
def chk (l : List UInt8) : UInt8 := UInt8.ofNat (sumAt 0 l % 251)
theorem chk_nat (l : List UInt8) : (chk l).toNat = sumAt 0 l % 251 := of_nat (by omega)
/-- the two bytes of a length -/
def hd (n : Nat) : List UInt8 := [UInt8.ofNat (n / 256), UInt8.ofNat (n % 256)]
theorem hd_len (n : Nat) : (hd n).length = 2 := rfl
/-- a load's frame -/
def mk (l : List UInt8) : List UInt8 := hd l.length ++ l ++ [chk (hd l.length ++ l)]
theorem mk_len (l : List UInt8) : (mk l).length = l.length + 3 := by simp [mk, hd_len]; omega
theorem mk_at (l : List UInt8) (i : Nat) (h : i < l.length) : (mk l)[i + 2]? = some l[i] := by
  have e : (mk l)[i + 2]? = (l ++ [chk (hd l.length ++ l)])[i]? := by unfold mk hd; simp
  rw [e, List.getElem?_append_left h, List.getElem?_eq_getElem h]
/-- what its first two bytes say -/
def lenOf (l : List UInt8) : Nat := 256 * (l[0]?.getD 0).toNat + (l[1]?.getD 0).toNat
theorem lenOf_two (x y : UInt8) (r : List UInt8) : lenOf (x :: y :: r) = 256 * x.toNat + y.toNat := rfl
theorem hd_lenOf (x y : UInt8) : hd (256 * x.toNat + y.toNat) = [x, y] := by
  have h1 : x.toNat < 256 := x.toNat_lt
  have h2 : y.toNat < 256 := y.toNat_lt
  unfold hd
  rw [show (256 * x.toNat + y.toNat) / 256 = x.toNat by omega, show (256 * x.toNat + y.toNat) % 256 = y.toNat by omega, to_of, to_of]
theorem lenOf_hd (n : Nat) (h : n < 65536) (r : List UInt8) : lenOf (hd n ++ r) = n := by
  show lenOf (UInt8.ofNat (n / 256) :: UInt8.ofNat (n % 256) :: r) = n
  rw [lenOf_two, of_nat (by omega), of_nat (by omega)]
  omega
/-- what is read of a list: the load, its frame's bytes, what is wrong -/
def nextS (l : List UInt8) : List UInt8 × Nat × Nat :=
  if l.length < 2 then ([], 0, 10)
  else if lenOf l = 0 ∨ 240 < lenOf l then ([], 0, 12)
  else if l.length < lenOf l + 3 then ([], 0, 10)
  else if l[lenOf l + 2]?.getD 0 = chk (l.take (lenOf l + 2)) then ((l.drop 2).take (lenOf l), lenOf l + 3, 0) else ([], 0, 11)
def openS (l : List UInt8) : List UInt8 × Nat := if (nextS l).2.2 = 0 ∧ (nextS l).2.1 < l.length then ([], 11) else ((nextS l).1, (nextS l).2.2)
theorem next_few {l : List UInt8} (h : l.length < 2) : nextS l = ([], 0, 10) := by rw [nextS, if_pos h]
theorem next_size {l : List UInt8} (h : ¬ l.length < 2) (g : lenOf l = 0 ∨ 240 < lenOf l) : nextS l = ([], 0, 12) := by rw [nextS, if_neg h, if_pos g]
theorem next_short {l : List UInt8} (h : ¬ l.length < 2) (g : ¬ (lenOf l = 0 ∨ 240 < lenOf l)) (k : l.length < lenOf l + 3) : nextS l = ([], 0, 10) := by rw [nextS, if_neg h, if_neg g, if_pos k]
theorem next_form {l : List UInt8} (h : ¬ l.length < 2) (g : ¬ (lenOf l = 0 ∨ 240 < lenOf l)) (k : ¬ l.length < lenOf l + 3) (c : l[lenOf l + 2]?.getD 0 ≠ chk (l.take (lenOf l + 2))) : nextS l = ([], 0, 11) := by
  rw [nextS, if_neg h, if_neg g, if_neg k, if_neg c]
theorem next_good {l : List UInt8} (h : ¬ l.length < 2) (g : ¬ (lenOf l = 0 ∨ 240 < lenOf l)) (k : ¬ l.length < lenOf l + 3) (c : l[lenOf l + 2]?.getD 0 = chk (l.take (lenOf l + 2))) : nextS l = ((l.drop 2).take (lenOf l), lenOf l + 3, 0) := by
  rw [nextS, if_neg h, if_neg g, if_neg k, if_pos c]
/-- the bytes ahead of the check -/
theorem ahead {l : List UInt8} (h : ¬ l.length < 2) : l.take (lenOf l + 2) = hd (lenOf l) ++ (l.drop 2).take (lenOf l) := by
  match l, h with
  | [], h => simp at h
  | [_], h => simp at h
  | x :: y :: r, _ => rw [lenOf_two, hd_lenOf]; simp
theorem load_len {l : List UInt8} (k : ¬ l.length < lenOf l + 3) : ((l.drop 2).take (lenOf l)).length = lenOf l := by
  rw [List.length_take, List.length_drop]; omega
/-- what was made is read, whatever stands behind it -/
theorem next_mk (l t : List UInt8) (h1 : 1 ≤ l.length) (h2 : l.length ≤ 240) : nextS (mk l ++ t) = (l, l.length + 3, 0) := by
  have e : mk l ++ t = hd l.length ++ (l ++ (chk (hd l.length ++ l) :: t)) := by unfold mk; simp
  have hn : lenOf (mk l ++ t) = l.length := by rw [e]; exact lenOf_hd _ (by omega) _
  have hl : (mk l ++ t).length = l.length + 3 + t.length := by rw [List.length_append, mk_len]
  have ht : (mk l ++ t).take (l.length + 2) = hd l.length ++ l := by
    rw [e, ← List.append_assoc]
    rw [List.take_append_of_le_length (by rw [List.length_append, hd_len]; omega), List.take_of_length_le (by rw [List.length_append, hd_len]; omega)]
  have hc : (mk l ++ t)[l.length + 2]? = some (chk (hd l.length ++ l)) := by
    rw [e, ← List.append_assoc, List.getElem?_append_right (by rw [List.length_append, hd_len]; omega)]
    rw [List.length_append, hd_len, show l.length + 2 - (2 + l.length) = 0 by omega]
    rfl
  have hd2 : (mk l ++ t).drop 2 = l ++ (chk (hd l.length ++ l) :: t) := by rw [e]; rfl
  rw [next_good (by omega) (by rw [hn]; omega) (by rw [hn]; omega) (by rw [hn, hc, ht]; rfl), hn, hd2, List.take_left]
/-- what is read was made so -/
theorem next_ok {l N : List UInt8} {S : Nat} (h : nextS l = (N, S, 0)) : 1 ≤ N.length ∧ N.length ≤ 240 ∧ S = N.length + 3 ∧ ∃ t, l = mk N ++ t := by
  by_cases a : l.length < 2
  · rw [next_few a] at h; simp at h
  by_cases b : lenOf l = 0 ∨ 240 < lenOf l
  · rw [next_size a b] at h; simp at h
  by_cases c : l.length < lenOf l + 3
  · rw [next_short a b c] at h; simp at h
  by_cases d : l[lenOf l + 2]?.getD 0 = chk (l.take (lenOf l + 2))
  · rw [next_good a b c d] at h
    simp only [Prod.mk.injEq] at h
    obtain ⟨h1, h2, _⟩ := h
    have hl := load_len c
    rw [h1] at hl
    refine ⟨by omega, by omega, by omega, l.drop (lenOf l + 3), ?_⟩
    have h3 := ahead a
    rw [h1] at h3
    have h4 : l[lenOf l + 2]'(by omega) = chk (l.take (lenOf l + 2)) := by
      rw [List.getElem?_eq_getElem (by omega)] at d; exact d
    have h5 : l.take (lenOf l + 3) = mk N := by
      rw [take_snoc l (lenOf l + 2) (by omega), h4, h3]
      unfold mk
      rw [hl]
    rw [← h5, List.take_append_drop]
  · rw [next_form a b c d] at h; simp at h
theorem next_wrong {l N : List UInt8} {S E : Nat} (h : nextS l = (N, S, E)) (hE : E ≠ 0) : N = [] ∧ S = 0 ∧ E ≤ 12 := by
  by_cases a : l.length < 2
  · rw [next_few a] at h; simp at h; obtain ⟨rfl, rfl, rfl⟩ := h; simp
  by_cases b : lenOf l = 0 ∨ 240 < lenOf l
  · rw [next_size a b] at h; simp at h; obtain ⟨rfl, rfl, rfl⟩ := h; simp
  by_cases c : l.length < lenOf l + 3
  · rw [next_short a b c] at h; simp at h; obtain ⟨rfl, rfl, rfl⟩ := h; simp
  by_cases d : l[lenOf l + 2]?.getD 0 = chk (l.take (lenOf l + 2))
  · rw [next_good a b c d] at h; simp at h; omega
  · rw [next_form a b c d] at h; simp at h; obtain ⟨rfl, rfl, rfl⟩ := h; simp
theorem open_mk (l : List UInt8) (h1 : 1 ≤ l.length) (h2 : l.length ≤ 240) : openS (mk l) = (l, 0) := by
  have h := next_mk l [] h1 h2
  rw [List.append_nil] at h
  unfold openS
  rw [h, if_neg (by rw [mk_len]; simp)]
theorem open_more {l N : List UInt8} {S : Nat} (h : nextS l = (N, S, 0)) (g : S < l.length) : openS l = ([], 11) := by
  unfold openS; rw [h, if_pos ⟨rfl, g⟩]
theorem open_all {l N : List UInt8} {S : Nat} (h : nextS l = (N, S, 0)) (g : ¬ S < l.length) : openS l = (N, 0) := by
  unfold openS; rw [h, if_neg (fun x => g x.2)]
theorem open_wrong {l N : List UInt8} {S E : Nat} (h : nextS l = (N, S, E)) (g : E ≠ 0) : openS l = (N, E) := by
  unfold openS; rw [h, if_neg (fun x => g x.1)]
theorem open_ok {l N : List UInt8} (h : openS l = (N, 0)) : 1 ≤ N.length ∧ N.length ≤ 240 ∧ l = mk N := by
  obtain ⟨L, S, E, hx⟩ : ∃ L S E, nextS l = (L, S, E) := ⟨_, _, _, rfl⟩
  by_cases hE : E = 0
  · subst hE
    by_cases hS : S < l.length
    · rw [open_more hx hS] at h; simp at h
    · rw [open_all hx hS] at h
      have : L = N := by simpa using h
      subst this
      obtain ⟨h1, h2, h3, t, ht⟩ := next_ok hx
      have hl : l.length = L.length + 3 + t.length := by rw [ht, List.length_append, mk_len]
      have : t = [] := List.eq_nil_of_length_eq_zero (by omega)
      subst this
      exact ⟨h1, h2, by rw [ht, List.append_nil]⟩
  · rw [open_wrong hx hE] at h
    simp at h
    exact absurd h.2 hE
theorem open_bad {l N : List UInt8} {E : Nat} (h : openS l = (N, E)) (g : E ≠ 0) : N = [] ∧ E ≤ 12 := by
  obtain ⟨L, S, F, hx⟩ : ∃ L S E, nextS l = (L, S, E) := ⟨_, _, _, rfl⟩
  by_cases hE : F = 0
  · subst hE
    by_cases hS : S < l.length
    · rw [open_more hx hS] at h; simp at h; obtain ⟨rfl, rfl⟩ := h; simp
    · rw [open_all hx hS] at h; simp at h; exact absurd h.2.symm g
  · rw [open_wrong hx hE] at h
    simp at h
    obtain ⟨rfl, rfl⟩ := h
    have := next_wrong hx hE
    exact ⟨this.1, this.2.2⟩

set_option maxRecDepth 100000 in
/-- 251 is a prime: no multiple of it is a product of two that aren't -/
theorem co251 : ∀ m : Fin 251, m.val = 0 ∨ Nat.gcd 251 m.val = 1 := by decide
theorem prime251 {m d : Nat} (h0 : 0 < m) (h1 : m < 251) (h : 251 ∣ m * d) : 251 ∣ d :=
  Nat.Coprime.dvd_of_dvd_mul_left ((co251 ⟨m, h1⟩).resolve_left (Nat.ne_of_gt h0)) h
theorem mod_prime {m a b s : Nat} (h0 : 0 < m) (h1 : m < 251) (h : (s + m * a) % 251 = (s + m * b) % 251) : a % 251 = b % 251 := by
  have aux : ∀ a b : Nat, a ≤ b → (s + m * a) % 251 = (s + m * b) % 251 → a % 251 = b % 251 := by
    intro a b hab h
    obtain ⟨d, rfl⟩ : ∃ d, b = a + d := ⟨b - a, by omega⟩
    rw [Nat.mul_add] at h
    have : 251 ∣ m * d := by omega
    have := prime251 h0 h1 this
    omega
  rcases Nat.le_total a b with g | g
  · exact aux a b g h
  · exact (aux b a g h.symm).symm
theorem sumAt_set : ∀ (l : List UInt8) (i : Nat) (h : i < l.length) (c : UInt8) (k : Nat), ∃ s, sumAt k l = s + (k + i + 1) * (l[i]).toNat ∧ sumAt k (l.set i c) = s + (k + i + 1) * c.toNat
  | [], i, h, c, k => by simp at h
  | d :: t, 0, h, c, k => ⟨sumAt (k + 1) t, by simp [sumAt]; omega, by simp [sumAt]; omega⟩
  | d :: t, i + 1, h, c, k => by
    obtain ⟨s, h1, h2⟩ := sumAt_set t i (by simpa using h) c (k + 1)
    refine ⟨s + (k + 1) * d.toNat, ?_, ?_⟩
    · rw [sumAt, h1, List.getElem_cons_succ, show k + 1 + i + 1 = k + (i + 1) + 1 by omega]; omega
    · rw [List.set_cons_succ, sumAt, h2, show k + 1 + i + 1 = k + (i + 1) + 1 by omega]; omega
/-- a frame in which one byte of the load is another one -/
theorem mk_set (l : List UInt8) (i : Nat) (h : i < l.length) (c : UInt8) : (mk l).set (i + 2) c = hd l.length ++ l.set i c ++ [chk (hd l.length ++ l)] := by
  unfold mk hd
  simp only [List.cons_append, List.nil_append, List.set_cons_succ]
  rw [List.set_append, if_pos h]
theorem turned {l : List UInt8} (h1 : 1 ≤ l.length) (h2 : l.length ≤ 240) (i : Nat) (h : i < l.length) (c : UInt8) (hc : (l[i]).toNat % 251 ≠ c.toNat % 251) : openS ((mk l).set (i + 2) c) = ([], 11) := by
  rw [mk_set l i h c]
  obtain ⟨b, hb⟩ : ∃ b, b = hd l.length ++ l.set i c ++ [chk (hd l.length ++ l)] := ⟨_, rfl⟩
  rw [← hb]
  have hl : b.length = l.length + 3 := by rw [hb]; simp [hd_len]; omega
  have hn : lenOf b = l.length := by rw [hb, List.append_assoc]; exact lenOf_hd _ (by omega) _
  have ht : b.take (l.length + 2) = hd l.length ++ l.set i c := by
    rw [hb, List.take_append_of_le_length (by rw [List.length_append, hd_len, List.length_set]; omega), List.take_of_length_le (by rw [List.length_append, hd_len, List.length_set]; omega)]
  have hk : b[l.length + 2]? = some (chk (hd l.length ++ l)) := by
    rw [hb, List.getElem?_append_right (by rw [List.length_append, hd_len, List.length_set]; omega), List.length_append, hd_len, List.length_set, show l.length + 2 - (2 + l.length) = 0 by omega]
    rfl
  have hne : chk (hd l.length ++ l) ≠ chk (hd l.length ++ l.set i c) := by
    intro e
    have e := congrArg UInt8.toNat e
    rw [chk_nat, chk_nat, sumAt_app, sumAt_app, hd_len] at e
    obtain ⟨s, e1, e2⟩ := sumAt_set l i h c (0 + 2)
    rw [e1, e2, ← Nat.add_assoc, ← Nat.add_assoc] at e
    exact hc (mod_prime (by omega) (by omega) e)
  exact open_wrong (next_form (by omega) (by rw [hn]; omega) (by rw [hn]; omega) (by rw [hn, hk, ht]; exact hne)) (by decide)
end Go.Proofs.Ytbnojefiocoodaa.W
