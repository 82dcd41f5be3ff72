/-
  How often a vector fits another one: the least of the four quotients, and the greatest number of times that it fits.
-/
import Derived.Test.YtcdajfiohhbdgaaVecSpec
namespace Go.Proofs.Ytcdajfiohhbdgaa.W
theorem low_le {k a b : Int} : k ≤ low a b ↔ k ≤ a ∧ k ≤ b := by unfold low; split <;> omega
theorem into_le {k f n : Int} (hf : 0 ≤ f) (hn : 0 ≤ n) (hk : k ≤ 64) : k ≤ intoV f n ↔ n * k ≤ f := by
  by_cases z : n = 0
  · subst z; rw [into_zero]; simp; omega
  · rw [into_pos z, Int.le_ediv_iff_mul_le (by omega), Int.mul_comm]
/-- so many times it fits just if they are no more than the four quotients' least -/
theorem count_le {f n : V} {k : Int} (hf : f.Ok) (hn : n.Ok) (hk : k ≤ 64) : V.Le (n.by k) f ↔ k ≤ times4 f n := by
  obtain ⟨f0, f1, f2, f3⟩ := hf; obtain ⟨n0, n1, n2, n3⟩ := hn
  unfold times4
  rw [low_le, low_le, low_le, low_le, into_le f3.1 n3.1 hk, into_le f2.1 n2.1 hk, into_le f1.1 n1.1 hk, into_le f0.1 n0.1 hk]
  unfold V.Le V.by
  simp only
  constructor
  · rintro ⟨a, b, c, d⟩; exact ⟨d, c, b, a, hk⟩
  · rintro ⟨a, b, c, d, _⟩; exact ⟨d, c, b, a⟩
theorem times4_bd {f n : V} (hf : f.Ok) (hn : n.Ok) : 0 ≤ times4 f n ∧ times4 f n ≤ 64 := by
  constructor
  · rw [← count_le hf hn (by omega)]
    obtain ⟨f0, f1, f2, f3⟩ := hf
    unfold V.Le V.by; simp only [Int.mul_zero]; omega
  · unfold times4; have := (low_le (k := times4 f n)).1 (Int.le_refl _); unfold times4 at this
    have a := low_le.1 this.2; have b := low_le.1 a.2; have c := low_le.1 b.2; omega
theorem countV_bd (f n : V) : 0 ≤ countV f n ∧ countV f n ≤ 64 := by
  unfold countV; split
  · rename_i h; exact times4_bd h.1 h.2.1
  · omega
theorem by_succ (n : V) (k : Int) : (n.by k).plus n = n.by (k + 1) := by
  unfold V.by V.plus; exact V.ext' (by simp only [Int.mul_add, Int.mul_one]) (by simp only [Int.mul_add, Int.mul_one]) (by simp only [Int.mul_add, Int.mul_one]) (by simp only [Int.mul_add, Int.mul_one])
theorem by_one (n : V) : n.by 1 = n := by unfold V.by; exact V.ext' (by simp) (by simp) (by simp) (by simp)
theorem by_zero (n : V) : n.by 0 = V.zero := by unfold V.by V.zero; exact V.ext' (by simp) (by simp) (by simp) (by simp)
theorem by_in64 {n : V} {k : Int} (h : n.Ok) (h0 : 0 ≤ k) (h1 : k ≤ 1000) : (n.by k).in64 := by
  obtain ⟨n0, n1, n2, n3⟩ := h
  have a := by_bd n0 ⟨h0, by omega⟩; have b := by_bd n1 ⟨h0, by omega⟩; have c := by_bd n2 ⟨h0, by omega⟩; have d := by_bd n3 ⟨h0, by omega⟩
  unfold V.in64 V.by; simp only; omega
theorem by_ok {f n : V} {k : Int} (hf : f.Ok) (hn : n.Ok) (hk : 0 ≤ k) (h : V.Le (n.by k) f) : (n.by k).Ok := by
  obtain ⟨f0, f1, f2, f3⟩ := hf; obtain ⟨n0, n1, n2, n3⟩ := hn; obtain ⟨a, b, c, d⟩ := h
  have e0 : 0 ≤ (n.by k).cpu := Int.mul_nonneg n0.1 hk
  have e1 : 0 ≤ (n.by k).mem := Int.mul_nonneg n1.1 hk
  have e2 : 0 ≤ (n.by k).gpu := Int.mul_nonneg n2.1 hk
  have e3 : 0 ≤ (n.by k).lic := Int.mul_nonneg n3.1 hk
  exact ⟨⟨e0, by omega⟩, ⟨e1, by omega⟩, ⟨e2, by omega⟩, e3, by omega⟩
theorem is0_le (n : V) (h : n.Ok) : fitsB n V.zero = decide n.is0 := by
  obtain ⟨n0, n1, n2, n3⟩ := h
  unfold fitsB; congr 1; unfold V.Le V.is0 V.zero; simp only
  rw [eq_iff_iff]; omega
end Go.Proofs.Ytcdajfiohhbdgaa.W
