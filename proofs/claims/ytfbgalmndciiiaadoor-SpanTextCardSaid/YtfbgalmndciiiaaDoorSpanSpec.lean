/-
  Lengths of time as text, in plain lists of bytes: a length's text, and what the two readers compute of a text.
-/
import Derived.Lib.AtoiAllCases
import Derived.Test.YtfbgalmndciiiaaDoorUnitsStep
namespace Go.Proofs.YtfbgalmndciiiaaDoor.W
set_option linter.unusedVariables false
set_option linter.unusedSimpArgs false

/-- two digits -/
def dig2 (m : Nat) : List UInt8 := [UInt8.ofNat (48 + m / 10), UInt8.ofNat (48 + m % 10)]
def pairL (m r : Nat) : List UInt8 := 58 :: (dig2 m ++ 58 :: dig2 r)
/-- a length's text -/
def stext (n : Nat) : List UInt8 := Lib.decDigits (n / 3600) ++ pairL (n % 3600 / 60) (n % 60)

/-! the first reader: the parts' numbers -/
def numOf (l : List UInt8) : Nat := match Lib.atoiAll l with
  | .ok v => if 0 ≤ v ∧ v ≤ 65536 then v.toNat else 0
  | _ => 0
theorem numOf_le (l : List UInt8) : numOf l ≤ 65536 := by
  unfold numOf
  split
  · split
    · omega
    · omega
  · omega
theorem dig_ne {d : Nat} (h : d < 10) : (UInt8.ofNat (48 + d)).toNat ≠ 43 ∧ (UInt8.ofNat (48 + d)).toNat ≠ 45 ∧ 48 ≤ (UInt8.ofNat (48 + d)).toNat ∧ (UInt8.ofNat (48 + d)).toNat ≤ 57 ∧ (UInt8.ofNat (48 + d)).toNat - 48 = d := by
  rw [dig_toNat h]; omega
theorem numOf_one {d : Nat} (h : d < 10) : numOf [UInt8.ofNat (48 + d)] = d := by
  obtain ⟨h1, h2, h3, h4, h5⟩ := dig_ne h
  have e : Lib.atoiAll [UInt8.ofNat (48 + d)] = .ok (d : Int) := by
    rw [Lib.atoiAll_plain _ _ h1 h2]
    have : Lib.parseMag [UInt8.ofNat (48 + d)] = .ok d := by
      unfold Lib.parseMag
      rw [if_neg (by simp)]
      rw [Lib.parseUint10, if_pos ⟨h3, h4⟩, if_neg (by omega), if_neg (by omega), Lib.parseUint10, h5]
      simp
    rw [this]
    simp only [Lib.signless]
    rw [if_neg (by omega)]
  unfold numOf
  rw [e]
  simp only
  rw [if_pos (by omega)]
  omega
theorem numOf_two {a b : Nat} (ha : a < 10) (hb : b < 10) : numOf [UInt8.ofNat (48 + a), UInt8.ofNat (48 + b)] = 10 * a + b := by
  obtain ⟨h1, h2, h3, h4, h5⟩ := dig_ne ha
  obtain ⟨_, _, g3, g4, g5⟩ := dig_ne hb
  have e : Lib.atoiAll [UInt8.ofNat (48 + a), UInt8.ofNat (48 + b)] = .ok ((10 * a + b : Nat) : Int) := by
    rw [Lib.atoiAll_plain _ _ h1 h2]
    have : Lib.parseMag [UInt8.ofNat (48 + a), UInt8.ofNat (48 + b)] = .ok (10 * a + b) := by
      unfold Lib.parseMag
      rw [if_neg (by simp)]
      rw [Lib.parseUint10, if_pos ⟨h3, h4⟩, if_neg (by omega), if_neg (by omega), Lib.parseUint10, if_pos ⟨g3, g4⟩, if_neg (by omega), if_neg (by omega), Lib.parseUint10, h5, g5]
      congr 1
      omega
    rw [this]
    simp only [Lib.signless]
    rw [if_neg (by omega)]
  unfold numOf
  rw [e]
  simp only
  rw [if_pos (by omega)]
  omega
def spanN (l : List UInt8) : Nat := 3600 * numOf (cutAt 58 l).1 + 60 * numOf (cutAt 58 (cutAt 58 l).2.1).1 + numOf (cutAt 58 (cutAt 58 l).2.1).2.1

/-! the second reader: byte by byte -/
def stepR (st : Nat × Nat) (c : UInt8) : Nat × Nat := if c.toNat = 58 then ((st.1 + st.2) * 60, 0) else (st.1, 10 * st.2 + c.toNat % 48 % 10)
def foldR (l : List UInt8) : Nat × Nat := l.foldl stepR (0, 0)
def refN (l : List UInt8) : Nat := (foldR (l.take 9)).1 + (foldR (l.take 9)).2
theorem stepR_dig (st : Nat × Nat) {d : Nat} (h : d < 10) : stepR st (UInt8.ofNat (48 + d)) = (st.1, 10 * st.2 + d) := by
  unfold stepR
  rw [dig_toNat h, if_neg (by omega), show (48 + d) % 48 % 10 = d by omega]
theorem stepR_colon (st : Nat × Nat) : stepR st 58 = ((st.1 + st.2) * 60, 0) := rfl

theorem dec_small {h : Nat} (hh : h ≤ 18) : (h < 10 ∧ Lib.decDigits h = [UInt8.ofNat (48 + h)]) ∨ (10 ≤ h ∧ Lib.decDigits h = [UInt8.ofNat (48 + 1), UInt8.ofNat (48 + (h - 10))]) := by
  by_cases h10 : h < 10
  · exact Or.inl ⟨h10, Lib.decDigits_one h10⟩
  · refine Or.inr ⟨by omega, ?_⟩
    have := dec_snoc (n := 1) (d := h - 10) (by omega) (by omega)
    rw [show 10 * 1 + (h - 10) = h by omega, Lib.decDigits_one (i := 1) (by omega)] at this
    exact this

theorem refN_text {n : Nat} (hn : n ≤ 65536) : refN (stext n) = n := by
  have hm1 : n % 3600 / 60 / 10 < 10 := by omega
  have hm2 : n % 3600 / 60 % 10 < 10 := by omega
  have hr1 : n % 60 / 10 < 10 := by omega
  have hr2 : n % 60 % 10 < 10 := by omega
  rcases dec_small (h := n / 3600) (by omega) with ⟨h1, e⟩ | ⟨h1, e⟩
  · unfold refN foldR stext pairL dig2
    rw [e]
    simp only [List.cons_append, List.nil_append, List.take_succ_cons, List.take_zero, List.take_nil, List.foldl_cons, List.foldl_nil, stepR_colon, stepR_dig _ hm1, stepR_dig _ hm2, stepR_dig _ hr1, stepR_dig _ hr2, stepR_dig _ h1]
    omega
  · have h2 : n / 3600 - 10 < 10 := by omega
    unfold refN foldR stext pairL dig2
    rw [e]
    simp only [List.cons_append, List.nil_append, List.take_succ_cons, List.take_zero, List.take_nil, List.foldl_cons, List.foldl_nil, stepR_colon, stepR_dig _ hm1, stepR_dig _ hm2, stepR_dig _ hr1, stepR_dig _ hr2, stepR_dig _ h2, stepR_dig _ (show 1 < 10 by omega)]
    omega

theorem dig_no58 {d : Nat} (h : d < 10) : ¬ (58 : UInt8) = UInt8.ofNat (48 + d) := by
  intro x
  have := congrArg UInt8.toNat x
  rw [dig_toNat h] at this
  have e : (58 : UInt8).toNat = 58 := rfl
  omega
theorem spanN_text {n : Nat} (hn : n ≤ 65536) : spanN (stext n) = n := by
  have hm1 : n % 3600 / 60 / 10 < 10 := by omega
  have hm2 : n % 3600 / 60 % 10 < 10 := by omega
  have hr1 : n % 60 / 10 < 10 := by omega
  have hr2 : n % 60 % 10 < 10 := by omega
  have c1 : cutAt 58 (stext n) = (Lib.decDigits (n / 3600), dig2 (n % 3600 / 60) ++ 58 :: dig2 (n % 60), true) := by
    refine cutAt_app _ ?_
    refine not_dec ?_ _
    unfold isDig
    decide
  have c2 : cutAt 58 (dig2 (n % 3600 / 60) ++ 58 :: dig2 (n % 60)) = (dig2 (n % 3600 / 60), dig2 (n % 60), true) := by
    refine cutAt_app _ ?_
    unfold dig2
    simp only [List.mem_cons, List.not_mem_nil, or_false, not_or]
    exact ⟨dig_no58 hm1, dig_no58 hm2⟩
  unfold spanN
  rw [c1]
  simp only
  rw [c2]
  simp only
  have e2 : numOf (dig2 (n % 3600 / 60)) = 10 * (n % 3600 / 60 / 10) + n % 3600 / 60 % 10 := numOf_two hm1 hm2
  have e3 : numOf (dig2 (n % 60)) = 10 * (n % 60 / 10) + n % 60 % 10 := numOf_two hr1 hr2
  rw [e2, e3]
  rcases dec_small (h := n / 3600) (by omega) with ⟨h1, e⟩ | ⟨h1, e⟩
  · rw [e, numOf_one h1]
    omega
  · rw [e, numOf_two (by omega) (show n / 3600 - 10 < 10 by omega)]
    omega

/-! what is answered -/
def readOf (N : Nat) (l : List UInt8) : Nat × Nat := if N ≤ 65536 ∧ stext N = l then (N, 0) else (0, 11)
theorem readOf_yes {N : Nat} {l : List UInt8} (h : N ≤ 65536 ∧ stext N = l) : readOf N l = (N, 0) := if_pos h
theorem readOf_no {N : Nat} {l : List UInt8} (h : ¬ (N ≤ 65536 ∧ stext N = l)) : readOf N l = (0, 11) := if_neg h
/-- both readers answer the same -/
theorem read_same (l : List UInt8) : readOf (spanN l) l = readOf (refN l) l := by
  by_cases h : ∃ n, n ≤ 65536 ∧ stext n = l
  · obtain ⟨n, hn, rfl⟩ := h
    rw [spanN_text hn, refN_text hn]
  · rw [readOf_no (fun x => h ⟨_, x⟩), readOf_no (fun x => h ⟨_, x⟩)]
theorem readOf_err {N : Nat} {l : List UInt8} (h : (readOf N l).2 = 0) : (readOf N l).1 ≤ 65536 ∧ stext (readOf N l).1 = l := by
  by_cases g : N ≤ 65536 ∧ stext N = l
  · rw [readOf_yes g]
    exact g
  · rw [readOf_no g] at h
    cases h

theorem stext_len {n : Nat} (hn : n ≤ 65536) : (stext n).length ≤ 8 := by
  rcases dec_small (h := n / 3600) (by omega) with ⟨h1, e⟩ | ⟨h1, e⟩
  · unfold stext pairL dig2
    rw [e]
    simp
  · unfold stext pairL dig2
    rw [e]
    simp
theorem ex_text : stext 3723 = [49, 58, 48, 50, 58, 48, 51] := by
  unfold stext
  rw [show 3723 / 3600 = 1 by rfl, Lib.decDigits_one (by omega)]
  decide
theorem ex_seven : stext 7 = [48, 58, 48, 48, 58, 48, 55] := by
  unfold stext
  rw [show 7 / 3600 = 0 by rfl, Lib.decDigits_one (by omega)]
  decide

end Go.Proofs.YtfbgalmndciiiaaDoor.W
