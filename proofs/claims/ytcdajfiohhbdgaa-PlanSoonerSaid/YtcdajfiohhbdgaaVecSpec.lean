/-
  Vectors of resources, as plain records: right, fits, sums, differences, so many times, how often.
-/
namespace Go.Proofs.Ytcdajfiohhbdgaa.W

structure V where
  cpu : Int
  mem : Int
  gpu : Int
  lic : Int
theorem V.ext' {a b : V} (h0 : a.cpu = b.cpu) (h1 : a.mem = b.mem) (h2 : a.gpu = b.gpu) (h3 : a.lic = b.lic) : a = b := by
  cases a; cases b; simp_all
/-- its numbers are those of 64 bits -/
def V.in64 (a : V) : Prop := (-9223372036854775808 ≤ a.cpu ∧ a.cpu ≤ 9223372036854775807) ∧ (-9223372036854775808 ≤ a.mem ∧ a.mem ≤ 9223372036854775807) ∧ (-9223372036854775808 ≤ a.gpu ∧ a.gpu ≤ 9223372036854775807) ∧ (-9223372036854775808 ≤ a.lic ∧ a.lic ≤ 9223372036854775807)
def V.zero : V := ⟨0, 0, 0, 0⟩
def V.top : V := ⟨1048576, 1048576, 1048576, 1048576⟩
def V.is0 (a : V) : Prop := a.cpu = 0 ∧ a.mem = 0 ∧ a.gpu = 0 ∧ a.lic = 0
def V.plus (a b : V) : V := ⟨a.cpu + b.cpu, a.mem + b.mem, a.gpu + b.gpu, a.lic + b.lic⟩
def V.less (a b : V) : V := ⟨a.cpu - b.cpu, a.mem - b.mem, a.gpu - b.gpu, a.lic - b.lic⟩
def V.by (a : V) (n : Int) : V := ⟨a.cpu * n, a.mem * n, a.gpu * n, a.lic * n⟩
def low (a b : Int) : Int := if a < b then a else b
def V.least (a b : V) : V := ⟨low a.cpu b.cpu, low a.mem b.mem, low a.gpu b.gpu, low a.lic b.lic⟩
/-- a's numbers are each at most b's -/
def V.Le (a b : V) : Prop := a.cpu ≤ b.cpu ∧ a.mem ≤ b.mem ∧ a.gpu ≤ b.gpu ∧ a.lic ≤ b.lic
def V.Ok (a : V) : Prop := (0 ≤ a.cpu ∧ a.cpu ≤ 1048576) ∧ (0 ≤ a.mem ∧ a.mem ≤ 1048576) ∧ (0 ≤ a.gpu ∧ a.gpu ≤ 1048576) ∧ (0 ≤ a.lic ∧ a.lic ≤ 1048576)
instance (a b : V) : Decidable (V.Le a b) := by unfold V.Le; infer_instance
instance (a : V) : Decidable (V.Ok a) := by unfold V.Ok; infer_instance
instance (a : V) : Decidable (V.is0 a) := by unfold V.is0; infer_instance
def fitsB (a b : V) : Bool := decide (V.Le a b)
def rightB (a : V) : Bool := decide (V.Ok a)
theorem fits_yes {a b : V} (h : V.Le a b) : fitsB a b = true := decide_eq_true h
theorem fits_no {a b : V} (h : ¬ V.Le a b) : fitsB a b = false := decide_eq_false h
theorem right_yes {a : V} (h : V.Ok a) : rightB a = true := decide_eq_true h
theorem right_no {a : V} (h : ¬ V.Ok a) : rightB a = false := decide_eq_false h
theorem fits_iff {a b : V} : fitsB a b = true ↔ V.Le a b := decide_eq_true_iff
theorem right_iff {a : V} : rightB a = true ↔ V.Ok a := decide_eq_true_iff
theorem right_two (a : V) : rightB a = (fitsB V.zero a && fitsB a V.top) := by
  unfold rightB fitsB
  by_cases h : V.Ok a
  · have h1 : V.Le V.zero a := ⟨h.1.1, h.2.1.1, h.2.2.1.1, h.2.2.2.1⟩
    have h2 : V.Le a V.top := ⟨h.1.2, h.2.1.2, h.2.2.1.2, h.2.2.2.2⟩
    simp [h, h1, h2]
  · by_cases h1 : V.Le V.zero a
    · by_cases h2 : V.Le a V.top
      · exact absurd ⟨⟨h1.1, h2.1⟩, ⟨h1.2.1, h2.2.1⟩, ⟨h1.2.2.1, h2.2.2.1⟩, h1.2.2.2, h2.2.2.2⟩ h
      · simp [h, h2]
    · simp [h, h1]
theorem V.Ok.in64 {a : V} (h : a.Ok) : a.in64 := by
  obtain ⟨h0, h1, h2, h3⟩ := h
  unfold V.in64; omega

/-- what comes of a sum, of a difference, of so many times: the vector and the error's number -/
def outR (a : V) : V := if a.Ok then a else V.zero
def outE (a : V) : Int := if a.Ok then 0 else 20
def addR (a b : V) : V := if a.Ok ∧ b.Ok then outR (a.plus b) else V.zero
def addE (a b : V) : Int := if a.Ok ∧ b.Ok then outE (a.plus b) else 2
def subR (a b : V) : V := if a.Ok ∧ b.Ok then outR (a.less b) else V.zero
def subE (a b : V) : Int := if a.Ok ∧ b.Ok then outE (a.less b) else 2
def timesR (a : V) (n : Int) : V := if a.Ok ∧ 0 ≤ n then outR (a.by n) else V.zero
def timesE (a : V) (n : Int) : Int := if a.Ok ∧ 0 ≤ n then outE (a.by n) else 2
theorem out_ok {a : V} (h : a.Ok) : outR a = a ∧ outE a = 0 := by unfold outR outE; rw [if_pos h, if_pos h]; exact ⟨rfl, rfl⟩
theorem out_over {a : V} (h : ¬ a.Ok) : outR a = V.zero ∧ outE a = 20 := by unfold outR outE; rw [if_neg h, if_neg h]; exact ⟨rfl, rfl⟩
theorem outE_bd (a : V) : outE a = 0 ∨ outE a = 20 := by unfold outE; split <;> simp
theorem add_arg {a b : V} (h : ¬ (a.Ok ∧ b.Ok)) : addR a b = V.zero ∧ addE a b = 2 := by unfold addR addE; rw [if_neg h, if_neg h]; exact ⟨rfl, rfl⟩
theorem add_in {a b : V} (h : a.Ok ∧ b.Ok) : addR a b = outR (a.plus b) ∧ addE a b = outE (a.plus b) := by unfold addR addE; rw [if_pos h, if_pos h]; exact ⟨rfl, rfl⟩
theorem sub_arg {a b : V} (h : ¬ (a.Ok ∧ b.Ok)) : subR a b = V.zero ∧ subE a b = 2 := by unfold subR subE; rw [if_neg h, if_neg h]; exact ⟨rfl, rfl⟩
theorem sub_in {a b : V} (h : a.Ok ∧ b.Ok) : subR a b = outR (a.less b) ∧ subE a b = outE (a.less b) := by unfold subR subE; rw [if_pos h, if_pos h]; exact ⟨rfl, rfl⟩
theorem times_arg {a : V} {n : Int} (h : ¬ (a.Ok ∧ 0 ≤ n)) : timesR a n = V.zero ∧ timesE a n = 2 := by unfold timesR timesE; rw [if_neg h, if_neg h]; exact ⟨rfl, rfl⟩
theorem times_in {a : V} {n : Int} (h : a.Ok ∧ 0 ≤ n) : timesR a n = outR (a.by n) ∧ timesE a n = outE (a.by n) := by unfold timesR timesE; rw [if_pos h, if_pos h]; exact ⟨rfl, rfl⟩
/-- numbers that a float holds -/
def Small (a : V) : Prop := a.cpu.natAbs < 2 ^ 53 ∧ a.mem.natAbs < 2 ^ 53 ∧ a.gpu.natAbs < 2 ^ 53 ∧ a.lic.natAbs < 2 ^ 53
theorem Small.of {a : V} (h : a.Ok) : Small a := by obtain ⟨h0, h1, h2, h3⟩ := h; unfold Small; omega
theorem small_plus {a b : V} (h : a.Ok) (g : b.Ok) : Small (a.plus b) := by
  obtain ⟨h0, h1, h2, h3⟩ := h; obtain ⟨g0, g1, g2, g3⟩ := g
  unfold Small V.plus; simp only; omega
theorem small_less {a b : V} (h : a.Ok) (g : b.Ok) : Small (a.less b) := by
  obtain ⟨h0, h1, h2, h3⟩ := h; obtain ⟨g0, g1, g2, g3⟩ := g
  unfold Small V.less; simp only; omega
theorem by_bd {x n : Int} (h : 0 ≤ x ∧ x ≤ 1048576) (g : 0 ≤ n ∧ n ≤ 1048577) : 0 ≤ x * n ∧ x * n ≤ 1048576 * 1048577 := ⟨Int.mul_nonneg h.1 g.1, Int.mul_le_mul h.2 g.2 g.1 (by omega)⟩
theorem small_by {a : V} {n : Int} (h : a.Ok) (g : 0 ≤ n ∧ n ≤ 1048577) : Small (a.by n) := by
  obtain ⟨h0, h1, h2, h3⟩ := h
  have := by_bd h0 g; have := by_bd h1 g; have := by_bd h2 g; have := by_bd h3 g
  unfold Small V.by; simp only; omega
/-- how often one number goes into another one -/
def intoV (f n : Int) : Int := if n = 0 then 64 else f / n
theorem into_zero (f : Int) : intoV f 0 = 64 := rfl
theorem into_pos {f n : Int} (h : n ≠ 0) : intoV f n = f / n := by unfold intoV; rw [if_neg h]
def times4 (f n : V) : Int := low (intoV f.lic n.lic) (low (intoV f.gpu n.gpu) (low (intoV f.mem n.mem) (low (intoV f.cpu n.cpu) 64)))
/-- how often a vector fits another one -/
def countV (f n : V) : Int := if f.Ok ∧ n.Ok ∧ ¬ n.is0 then times4 f n else 0
theorem count_no {f n : V} (h : ¬ (f.Ok ∧ n.Ok ∧ ¬ n.is0)) : countV f n = 0 := by unfold countV; rw [if_neg h]
theorem count_in {f n : V} (h : f.Ok ∧ n.Ok ∧ ¬ n.is0) : countV f n = times4 f n := by unfold countV; rw [if_pos h]
theorem by_enough {a : V} {n : Int} (h : a.Ok) (g : 1048577 < n) : outR (a.by n) = outR (a.by 1048577) ∧ outE (a.by n) = outE (a.by 1048577) := by
  by_cases z : a.is0
  · obtain ⟨z0, z1, z2, z3⟩ := z
    have e : a.by n = a.by 1048577 := by unfold V.by; rw [z0, z1, z2, z3]; simp
    rw [e]; exact ⟨rfl, rfl⟩
  · obtain ⟨h0, h1, h2, h3⟩ := h
    have k : ∀ x m : Int, 1 ≤ x → 1048577 ≤ m → 1048576 < x * m := fun x m hx hm => by
      have := Int.mul_le_mul hx hm (by omega) (by omega); omega
    have o : ∀ m : Int, 1048577 ≤ m → ¬ (a.by m).Ok := fun m hm ho => by
      unfold V.by V.Ok at ho
      simp only at ho
      unfold V.is0 at z
      by_cases z0 : a.cpu = 0
      · by_cases z1 : a.mem = 0
        · by_cases z2 : a.gpu = 0
          · have := k a.lic m (by omega) hm; omega
          · have := k a.gpu m (by omega) hm; omega
        · have := k a.mem m (by omega) hm; omega
      · have := k a.cpu m (by omega) hm; omega
    have p := out_over (o n (by omega))
    have q := out_over (o 1048577 (by omega))
    rw [p.1, p.2, q.1, q.2]; exact ⟨rfl, rfl⟩
end Go.Proofs.Ytcdajfiohhbdgaa.W
