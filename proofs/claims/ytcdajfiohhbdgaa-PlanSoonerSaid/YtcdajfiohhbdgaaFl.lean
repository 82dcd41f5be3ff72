/-
  Whole numbers as floats of 64 bits: sums, differences and products that stay within 2^52 are exact, and come back as they were.
-/
import Derived.Laws.FloatArith
import Derived.Laws.ComplexArith
import Derived.Test.YtcdajfiohhbdgaaVecSpec
namespace Go.Proofs.Ytcdajfiohhbdgaa.W
open Ieee

/-- 'mag * 2 ^ place' is the whole number n -/
def Says (n : Int) (d : Datum) : Prop := ∃ m i, d = .number (decide (n < 0)) m i ∧ i ≤ 0 ∧ m = n.natAbs * 2 ^ (-i).toNat

theorem log2_mul_pow (n k : Nat) (h : n ≠ 0) : (n * 2 ^ k).log2 = n.log2 + k := by
  have h1 : n * 2 ^ k ≠ 0 := Nat.mul_ne_zero h (by have := Nat.two_pow_pos k; omega)
  have a := Nat.log2_self_le h
  have b := @Nat.lt_log2_self n
  rw [Nat.log2_eq_iff h1]
  constructor
  · rw [Nat.pow_add]; exact Nat.mul_le_mul_right _ a
  · rw [show n.log2 + k + 1 = (n.log2 + 1) + k by omega, Nat.pow_add]
    exact Nat.mul_lt_mul_of_pos_right b (Nat.two_pow_pos k)

theorem cut_exact (way : Toward) (neg : Bool) (a d : Nat) (ha : a ≠ 0) : way.cut neg (a * 2 ^ d) d = a := by
  have hl := log2_mul_pow a d ha
  have hm : min d ((a * 2 ^ d).log2 + 2) = d := by omega
  have hp := Nat.two_pow_pos d
  unfold Toward.cut
  simp only [hm, Nat.one_shiftLeft]
  rw [Nat.mul_div_cancel _ hp, Nat.mul_mod_left]
  cases way <;> simp
theorem cut_zero (way : Toward) (neg : Bool) (d : Nat) : way.cut neg 0 d = 0 := by
  unfold Toward.cut
  cases way <;> simp <;> (have := Nat.two_pow_pos (min d ((0 : Nat).log2 + 2)); simp [Nat.one_shiftLeft])

/-- which word it is does not turn on how the number is spelled -/
theorem nearest_says (neg : Bool) (a : Nat) (i : Int) (hi : i ≤ 0) (ha : a < 2 ^ 53) : double.nearest neg (a * 2 ^ (-i).toNat) i = double.nearest neg a 0 := by
  by_cases h : a = 0
  · subst h; simp [Format.nearest]
  have hp := Nat.two_pow_pos (-i).toNat
  have h1 : a * 2 ^ (-i).toNat ≠ 0 := Nat.mul_ne_zero h (by omega)
  have hl := log2_mul_pow a (-i).toNat h
  have hb : a.log2 < 53 := (Nat.log2_lt h).2 ha
  have hlast : max (i + ((a * 2 ^ (-i).toNat).log2 : Nat) - (double.fractionBits : Nat)) double.leastPlace = (a.log2 : Int) - 52 := by
    rw [hl]; simp [double, Format.leastPlace]; omega
  have hlast0 : max ((0 : Int) + (a.log2 : Nat) - (double.fractionBits : Nat)) double.leastPlace = (a.log2 : Int) - 52 := by
    simp [double, Format.leastPlace]; omega
  unfold Format.nearest
  rw [if_neg h1, if_neg h]
  simp only [hlast, hlast0]
  have e : Toward.even.cut neg ((a * 2 ^ (-i).toNat) <<< (i - ((a.log2 : Int) - 52)).toNat) (((a.log2 : Int) - 52) - i).toNat
      = Toward.even.cut neg (a <<< ((0 : Int) - ((a.log2 : Int) - 52)).toNat) (((a.log2 : Int) - 52) - 0).toNat := by
    have z : (((a.log2 : Int) - 52) - 0).toNat = 0 := by omega
    have hr := cut_exact .even neg (a * 2 ^ (52 - a.log2)) 0 (Nat.mul_ne_zero h (by have := Nat.two_pow_pos (52 - a.log2); omega))
    rw [Nat.pow_zero, Nat.mul_one] at hr
    rw [z, Nat.shiftLeft_eq a, show ((0 : Int) - ((a.log2 : Int) - 52)).toNat = 52 - a.log2 by omega, hr]
    by_cases g : i ≤ (a.log2 : Int) - 52
    · have g0 : (i - ((a.log2 : Int) - 52)).toNat = 0 := by omega
      rw [g0, Nat.shiftLeft_zero]
      have : a * 2 ^ (-i).toNat = (a * 2 ^ (52 - a.log2)) * 2 ^ (((a.log2 : Int) - 52) - i).toNat := by
        rw [Nat.mul_assoc, ← Nat.pow_add]; congr 2; omega
      rw [this]
      exact cut_exact _ _ _ _ (Nat.mul_ne_zero h (by have := Nat.two_pow_pos (52 - a.log2); omega))
    · have g0 : (((a.log2 : Int) - 52) - i).toNat = 0 := by omega
      rw [g0, Nat.shiftLeft_eq, Nat.mul_assoc, ← Nat.pow_add]
      rw [show (-i).toNat + (i - ((a.log2 : Int) - 52)).toNat = 52 - a.log2 by omega]
      exact hr
  rw [e]

/-- a whole number's word -/
def fl (n : Int) : Nat := floatOfInt .f64 n
theorem fl_eq (n : Int) : fl n = double.nearest (decide (n < 0)) n.natAbs 0 := rfl
theorem write_says {n : Int} {d : Datum} (h : Says n d) (hn : n.natAbs < 2 ^ 53) : double.write d = fl n := by
  obtain ⟨m, i, rfl, hi, rfl⟩ := h
  show double.nearest _ _ _ = _
  rw [nearest_says _ _ _ hi hn, fl_eq]
theorem double_inf : double.infRung = 2047 * 2 ^ 52 := by decide +kernel
theorem double_binade : double.binade = 2 ^ 52 := by decide +kernel
theorem double_least : double.leastPlace = -1074 := by decide +kernel
theorem double_sign : double.signWeight = 2 ^ 63 := by decide +kernel
/-- so many whole ones of the lowest place it has -/
def lift (a : Nat) : Nat := a * 2 ^ (52 - a.log2)
theorem lift_bd (a : Nat) (h0 : a ≠ 0) (hn : a < 2 ^ 53) : 2 ^ 52 ≤ lift a ∧ lift a < 2 ^ 53 ∧ a.log2 < 53 := by
  have hb : a.log2 < 53 := (Nat.log2_lt h0).2 hn
  have h1 := Nat.log2_self_le h0
  have h2 := @Nat.lt_log2_self a
  have hp := Nat.two_pow_pos (52 - a.log2)
  unfold lift
  refine ⟨?_, ?_, hb⟩
  · have k : 2 ^ a.log2 * 2 ^ (52 - a.log2) = 2 ^ 52 := by rw [← Nat.pow_add]; congr 1; omega
    have := Nat.mul_le_mul_right (2 ^ (52 - a.log2)) h1
    rw [k] at this; exact this
  · have k : 2 ^ (a.log2 + 1) * 2 ^ (52 - a.log2) = 2 ^ 53 := by rw [← Nat.pow_add]; congr 1; omega
    have := Nat.mul_lt_mul_of_pos_right h2 hp
    rw [k] at this; exact this
theorem nearest_small (neg : Bool) (a : Nat) (h0 : a ≠ 0) (hn : a < 2 ^ 53) : double.nearest neg a 0 = double.word neg ((a.log2 + 1022) * 2 ^ 52 + lift a) := by
  obtain ⟨k1, k2, hb⟩ := lift_bd a h0 hn
  have hlast0 : max ((0 : Int) + (a.log2 : Nat) - (double.fractionBits : Nat)) double.leastPlace = (a.log2 : Int) - 52 := by
    rw [double_least, show double.fractionBits = 52 from rfl]; omega
  have hr := cut_exact .even neg (lift a) 0 (by omega)
  rw [Nat.pow_zero, Nat.mul_one] at hr
  have e1 : (((a.log2 : Int) - 52) - 0).toNat = 0 := by omega
  have e2 : a <<< ((0 : Int) - ((a.log2 : Int) - 52)).toNat = lift a := by
    rw [Nat.shiftLeft_eq, show ((0 : Int) - ((a.log2 : Int) - 52)).toNat = 52 - a.log2 by omega]; rfl
  have e3 : ((a.log2 : Int) - 52 - double.leastPlace).toNat = a.log2 + 1022 := by rw [double_least]; omega
  unfold Format.nearest
  rw [if_neg h0]
  simp only [hlast0, e1, e2, hr, e3, double_inf, double_binade]
  rw [Nat.min_eq_left (by omega)]
theorem fl_small (n : Int) (h : n ≠ 0) (hn : n.natAbs < 2 ^ 53) : fl n = double.word (decide (n < 0)) ((n.natAbs.log2 + 1022) * 2 ^ 52 + lift n.natAbs) := by
  rw [fl_eq, nearest_small _ _ (by omega) hn]

theorem read_word (neg : Bool) (l k : Nat) (hl : l < 53) (k1 : 2 ^ 52 ≤ k) (k2 : k < 2 ^ 53) : double.read (double.word neg ((l + 1022) * 2 ^ 52 + k)) = .number neg k ((l : Int) - 52) := by
  have hr : (l + 1022) * 2 ^ 52 + k < 2 ^ 63 := by omega
  have hneg : (double.word neg ((l + 1022) * 2 ^ 52 + k) / double.signWeight % 2 == 1) = neg := by
    unfold Format.word
    rw [double_sign]
    cases neg
    · simp; omega
    · simp; omega
  have hrung : double.word neg ((l + 1022) * 2 ^ 52 + k) % double.signWeight = (l + 1022) * 2 ^ 52 + k := by
    unfold Format.word
    rw [double_sign]
    cases neg
    · simp; omega
    · simp; omega
  unfold Format.read
  simp only [hneg, hrung, double_inf, double_binade, double_least]
  rw [if_neg (by omega), if_pos (by omega)]
  congr 1
  · omega
  · omega
theorem read_zero : double.read (fl 0) = .number false 0 (-1074) := by decide +kernel

theorem says_fl (n : Int) (hn : n.natAbs < 2 ^ 53) : Says n (double.read (fl n)) := by
  by_cases h : n = 0
  · subst h
    rw [read_zero]
    exact ⟨0, -1074, rfl, by decide, by rw [Int.natAbs_zero, Nat.zero_mul]⟩
  have e := fl_small n h hn
  obtain ⟨k1, k2, hb⟩ := lift_bd n.natAbs (by omega) hn
  refine ⟨lift n.natAbs, (n.natAbs.log2 : Int) - 52, ?_, by omega, ?_⟩
  · rw [e, read_word _ _ _ hb k1 k2]
  · unfold lift; congr 2; omega

/-- a float that is a whole number, and which one -/
def IsFl (b : Nat) (n : Int) : Prop := b = fl n ∧ n.natAbs < 2 ^ 53

theorem shift_says (neg : Bool) (a : Nat) (i base : Int) (hi : i ≤ 0) (hb : base ≤ i) : signed neg (a * 2 ^ (-i).toNat) (i - base).toNat = (if neg then -(a : Int) else a) * 2 ^ (-base).toNat := by
  have e : a * 2 ^ (-i).toNat * 2 ^ (i - base).toNat = a * 2 ^ (-base).toNat := by
    rw [Nat.mul_assoc, ← Nat.pow_add]; congr 2; omega
  unfold signed
  rw [Nat.shiftLeft_eq, e]
  cases neg
  · simp
  · simp [Int.neg_mul]

theorem signed_says (n : Int) : (if decide (n < 0) = true then -(n.natAbs : Int) else n.natAbs) = n := by
  by_cases h : n < 0 <;> simp [h] <;> omega
theorem sign_mul (n : Int) (k : Nat) : decide (n * 2 ^ k < 0) = decide (n < 0) ∧ (n * 2 ^ k = 0 ↔ n = 0) ∧ (n * 2 ^ k).natAbs = n.natAbs * 2 ^ k := by
  have hp : (0 : Int) < 2 ^ k := Int.pow_pos (by decide)
  refine ⟨?_, ?_, ?_⟩
  · by_cases h : n < 0
    · simp [h, Int.mul_neg_of_neg_of_pos h hp]
    · have : 0 ≤ n * 2 ^ k := Int.mul_nonneg (by omega) (by omega)
      simp [h]; omega
  · constructor
    · intro h; rcases Int.mul_eq_zero.1 h with h | h
      · exact h
      · omega
    · intro h; rw [h]; simp
  · rw [Int.natAbs_mul]; congr 1

theorem add_fl (a b : Int) (ha : a.natAbs < 2 ^ 53) (hb : b.natAbs < 2 ^ 53) (hs : (a + b).natAbs < 2 ^ 53) : floatBits .add .f64 (fl a) (fl b) = some (fl (a + b)) := by
  show ((double.read (fl a)).sum (double.read (fl b))).map double.write = _
  obtain ⟨m, i, e1, hi, rfl⟩ := says_fl a ha
  obtain ⟨n, j, e2, hj, rfl⟩ := says_fl b hb
  rw [e1, e2]
  unfold Datum.sum
  simp only [Option.map_some, Option.some.injEq]
  refine write_says (n := a + b) ⟨_, min i j, ?_, by omega, rfl⟩ hs
  rw [shift_says _ _ _ _ hi (by omega), shift_says _ _ _ _ hj (by omega), signed_says, signed_says, ← Int.add_mul]
  have q := sign_mul (a + b) (-(min i j)).toNat
  rw [q.2.2]
  congr 1
  by_cases h : a + b = 0
  · rw [if_pos (q.2.1.2 h)]
    by_cases h1 : a < 0 <;> by_cases h2 : b < 0 <;> simp [h1, h2] <;> omega
  · rw [if_neg (fun x => h (q.2.1.1 x)), q.1]

theorem sub_fl (a b : Int) (ha : a.natAbs < 2 ^ 53) (hb : b.natAbs < 2 ^ 53) (hs : (a - b).natAbs < 2 ^ 53) : floatBits .sub .f64 (fl a) (fl b) = some (fl (a - b)) := by
  show ((double.read (fl a)).sum (double.read (fl b)).opposite).map double.write = _
  obtain ⟨m, i, e1, hi, rfl⟩ := says_fl a ha
  obtain ⟨n, j, e2, hj, rfl⟩ := says_fl b hb
  rw [e1, e2]
  unfold Datum.sum Datum.opposite
  simp only [Option.map_some, Option.some.injEq]
  refine write_says (n := a - b) ⟨_, min i j, ?_, by omega, rfl⟩ hs
  have neg_says : (if (!decide (b < 0)) = true then -(b.natAbs : Int) else b.natAbs) = -b := by
    by_cases h : b < 0 <;> simp [h] <;> omega
  rw [shift_says _ _ _ _ hi (by omega), shift_says _ _ _ _ hj (by omega), signed_says, neg_says, ← Int.add_mul, show a + -b = a - b by omega]
  have q := sign_mul (a - b) (-(min i j)).toNat
  rw [q.2.2]
  congr 1
  by_cases h : a - b = 0
  · rw [if_pos (q.2.1.2 h)]
    by_cases h1 : a < 0 <;> by_cases h2 : b < 0 <;> simp [h1, h2] <;> omega
  · rw [if_neg (fun x => h (q.2.1.1 x)), q.1]

theorem mul_fl (a b : Int) (h0 : 0 ≤ a) (h1 : 0 ≤ b) (ha : a.natAbs < 2 ^ 53) (hb : b.natAbs < 2 ^ 53) (hs : (a * b).natAbs < 2 ^ 53) : floatBits .mul .f64 (fl a) (fl b) = some (fl (a * b)) := by
  show ((double.read (fl a)).product (double.read (fl b))).map double.write = _
  obtain ⟨m, i, e1, hi, rfl⟩ := says_fl a ha
  obtain ⟨n, j, e2, hj, rfl⟩ := says_fl b hb
  rw [e1, e2]
  unfold Datum.product
  simp only [Option.map_some, Option.some.injEq]
  refine write_says (n := a * b) ⟨_, i + j, ?_, by omega, rfl⟩ hs
  have hp : 0 ≤ a * b := Int.mul_nonneg h0 h1
  rw [show a.natAbs * 2 ^ (-i).toNat * (b.natAbs * 2 ^ (-j).toNat) = (a * b).natAbs * 2 ^ (-(i + j)).toNat by
    rw [Int.natAbs_mul, show (-(i + j)).toNat = (-i).toNat + (-j).toNat by omega, Nat.pow_add]
    simp only [Nat.mul_assoc, Nat.mul_left_comm]]
  congr 1
  simp [show ¬ a < 0 by omega, show ¬ b < 0 by omega]; omega

theorem toInt_fl (n : Int) (hn : n.natAbs < 2 ^ 53) : floatToIntVal .f64 (fl n) .i64 = some n := by
  have e : (FloatKind.f64.decode (fl n)).toInt .zero = some n := by
    show (double.read (fl n)).toInt .zero = _
    obtain ⟨m, i, e1, hi, rfl⟩ := says_fl n hn
    rw [e1]
    unfold Datum.toInt Datum.integral
    simp only [Option.some.injEq]
    rw [show i.toNat = 0 by omega, Nat.shiftLeft_zero]
    have c : Toward.zero.cut (decide (n < 0)) (n.natAbs * 2 ^ (-i).toNat) (-i).toNat = n.natAbs := by
      by_cases h : n = 0
      · subst h; simp only [Int.natAbs_zero, Nat.zero_mul]; exact cut_zero _ _ _
      · exact cut_exact _ _ _ _ (by omega)
    rw [c]
    have := signed_says n
    unfold signed
    simpa using this
  unfold floatToIntVal
  rw [e]
  have h1 : IntKind.i64.min = -9223372036854775808 := by decide
  have h2 : IntKind.i64.max = 9223372036854775807 := by decide
  simp only [h1, h2]
  rw [if_pos (by omega)]

/-- two sums, two differences, two products at once -/
theorem csum_fl (a b c d : Int) (ha : a.natAbs < 2 ^ 52) (hb : b.natAbs < 2 ^ 52) (hc : c.natAbs < 2 ^ 52) (hd : d.natAbs < 2 ^ 52) : cSumBits .add .f64 (fl a) (fl b) (fl c) (fl d) = some (fl (a + c), fl (b + d)) := by
  unfold cSumBits
  rw [add_fl a c (by omega) (by omega) (by omega), add_fl b d (by omega) (by omega) (by omega)]; rfl
theorem cdiff_fl (a b c d : Int) (ha : a.natAbs < 2 ^ 52) (hb : b.natAbs < 2 ^ 52) (hc : c.natAbs < 2 ^ 52) (hd : d.natAbs < 2 ^ 52) : cSumBits .sub .f64 (fl a) (fl b) (fl c) (fl d) = some (fl (a - c), fl (b - d)) := by
  unfold cSumBits
  rw [sub_fl a c (by omega) (by omega) (by omega), sub_fl b d (by omega) (by omega) (by omega)]; rfl
theorem csum_plus0 {a b : V} (h : a.Ok) (g : b.Ok) : cSumBits .add .f64 (fl a.cpu) (fl a.mem) (fl b.cpu) (fl b.mem) = some (fl (a.plus b).cpu, fl (a.plus b).mem) := by
  obtain ⟨h0, h1, h2, h3⟩ := h; obtain ⟨g0, g1, g2, g3⟩ := g
  exact csum_fl _ _ _ _ (by omega) (by omega) (by omega) (by omega)
theorem csum_plus1 {a b : V} (h : a.Ok) (g : b.Ok) : cSumBits .add .f64 (fl a.gpu) (fl a.lic) (fl b.gpu) (fl b.lic) = some (fl (a.plus b).gpu, fl (a.plus b).lic) := by
  obtain ⟨h0, h1, h2, h3⟩ := h; obtain ⟨g0, g1, g2, g3⟩ := g
  exact csum_fl _ _ _ _ (by omega) (by omega) (by omega) (by omega)
theorem cdiff_less0 {a b : V} (h : a.Ok) (g : b.Ok) : cSumBits .sub .f64 (fl a.cpu) (fl a.mem) (fl b.cpu) (fl b.mem) = some (fl (a.less b).cpu, fl (a.less b).mem) := by
  obtain ⟨h0, h1, h2, h3⟩ := h; obtain ⟨g0, g1, g2, g3⟩ := g
  exact cdiff_fl _ _ _ _ (by omega) (by omega) (by omega) (by omega)
theorem cdiff_less1 {a b : V} (h : a.Ok) (g : b.Ok) : cSumBits .sub .f64 (fl a.gpu) (fl a.lic) (fl b.gpu) (fl b.lic) = some (fl (a.less b).gpu, fl (a.less b).lic) := by
  obtain ⟨h0, h1, h2, h3⟩ := h; obtain ⟨g0, g1, g2, g3⟩ := g
  exact cdiff_fl _ _ _ _ (by omega) (by omega) (by omega) (by omega)
/-- a product by a real number that is whole -/
theorem cmul_fl (a b n : Int) (ha : 0 ≤ a ∧ a ≤ 1048576) (hb : 0 ≤ b ∧ b ≤ 1048576) (hn : 0 ≤ n ∧ n ≤ 1048577) : cMulBits (fl a) (fl b) (fl n) (fl 0) = some (fl (a * n), fl (b * n)) := by
  have p := by_bd ha hn
  have q := by_bd hb hn
  unfold cMulBits
  rw [mul_fl a n (by omega) (by omega) (by omega) (by omega) (by omega), mul_fl b 0 (by omega) (by omega) (by omega) (by omega) (by omega), mul_fl a 0 (by omega) (by omega) (by omega) (by omega) (by omega), mul_fl b n (by omega) (by omega) (by omega) (by omega) (by omega)]
  simp only [Option.bind_some, Int.mul_zero]
  rw [sub_fl (a * n) 0 (by omega) (by omega) (by omega), add_fl 0 (b * n) (by omega) (by omega) (by omega)]
  simp
theorem cmul_by0 {a : V} {n : Int} (h : a.Ok) (g : 0 ≤ n ∧ n ≤ 1048577) : cMulBits (fl a.cpu) (fl a.mem) (fl n) (fl 0) = some (fl (a.by n).cpu, fl (a.by n).mem) := cmul_fl _ _ _ h.1 h.2.1 g
theorem cmul_by1 {a : V} {n : Int} (h : a.Ok) (g : 0 ≤ n ∧ n ≤ 1048577) : cMulBits (fl a.gpu) (fl a.lic) (fl n) (fl 0) = some (fl (a.by n).gpu, fl (a.by n).lic) := cmul_fl _ _ _ h.2.2.1 h.2.2.2 g
end Go.Proofs.Ytcdajfiohhbdgaa.W
