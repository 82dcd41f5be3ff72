/-
  Contracts of vec.Least, vec.Times, vec.Count.
-/
import Derived.Test.YtcdajfiohhbdgaaVec
import Derived.Deep.QuietTactic
import Derived.BigQuiet
namespace Go.Proofs.Ytcdajfiohhbdgaa.W
set_option linter.unusedVariables false
set_option linter.unusedSimpArgs false
open Go.ChangeShapes Go.WideShapes Go.ChangeAt Go.RowKit
attribute [local go_sem] run_store_complex

theorem into (f n : Int) (w : World) (h0 : 0 ≤ f) (h1 : 0 ≤ n) (hf : f ≤ 1048576) (hn : n ≤ 1048576) :
    Calls Try.prog 86 #[.int .i64 f, .int .i64 n] w fun e w' => e = .returned (.int .i64 (intoV f n)) ∧ w' = w := by
  by_cases z : n = 0
  · subst z
    rw [into_zero]
    go_enter Try.func86, Try.ntmps86
    go_wp2
    go_ret
    exact ⟨rfl, rfl⟩
  · have q := Int.ediv_le_self n h0
    have q0 := Int.ediv_nonneg h0 h1
    rw [into_pos z]
    have z1 : 1 ≤ n := by omega
    have q1 : f / n ≤ f := Int.ediv_le_self _ h0
    clear z q
    go_enter Try.func86, Try.ntmps86
    go_wp2
    go_ret
    exact ⟨rfl, rfl⟩

theorem least (a b : V) (w : World) :
    Calls Try.prog 47 #[(.agg #[.int .i64 a.cpu, .int .i64 a.mem, .int .i64 a.gpu, .int .i64 a.lic]), (.agg #[.int .i64 b.cpu, .int .i64 b.mem, .int .i64 b.gpu, .int .i64 b.lic])] w fun e w' => e = .returned (.agg #[.int .i64 (a.least b).cpu, .int .i64 (a.least b).mem, .int .i64 (a.least b).gpu, .int .i64 (a.least b).lic]) ∧ Below w.heap.size w w' := by
  go_enter Try.func47, Try.ntmps47
  go_wp2
  all_goals
    refine bodyPost_ret (v := (.agg #[.int .i64 (a.least b).cpu, .int .i64 (a.least b).mem, .int .i64 (a.least b).gpu, .int .i64 (a.least b).lic])) ?_ rfl ⟨rfl, (by repeat' (first | exact Below.refl _ _ | assumption | exact And.left (by assumption) | refine Below.drew ?_ | refine below_drewN ?_ _ | refine Below.setCell ?_ (by first | (simp; done) | (simp; omega) | omega) _ | refine Below.alloc ?_ (by first | (simp; done) | (simp; omega) | omega) _ | refine after (by assumption) (by first | (simp; done) | (simp; omega) | omega) ?_))⟩
    simp [results, Try.results47, go_sem, V.least, low]
    try omega

theorem min5 (P : Program) (ts : Array TypeId) (t : TypeId) (a b c d e : Int) (W : World) :
    (Builtin.min_ ts t #[.int .i64 a, .int .i64 b, .int .i64 c, .int .i64 d, .int .i64 e]).run P W = .ok (.int .i64 (low e (low d (low c (low b a))))) W := by
  simp [Builtin.min_, Builtin.min2]; rfl
/-- which of its numbers is the first that is not 0 -/
theorem first_not (n : V) (h : ¬ n.is0) : (n.cpu == 0) = false ∨ ((n.cpu == 0) = true ∧ (n.mem == 0) = false) ∨ ((n.cpu == 0) = true ∧ (n.mem == 0) = true ∧ (n.gpu == 0) = false) ∨
    ((n.cpu == 0) = true ∧ (n.mem == 0) = true ∧ (n.gpu == 0) = true ∧ (n.lic == 0) = false) := by
  unfold V.is0 at h
  simp
  omega
set_option maxHeartbeats 2000000 in
theorem count (f n : V) (w : World) :
    Calls Try.prog 56 #[(.agg #[.int .i64 f.cpu, .int .i64 f.mem, .int .i64 f.gpu, .int .i64 f.lic]), (.agg #[.int .i64 n.cpu, .int .i64 n.mem, .int .i64 n.gpu, .int .i64 n.lic])] w fun e w' => e = .returned (.int .i64 (countV f n)) ∧ Below w.heap.size w w' := by
  have HA := Lib.hid (fun w => right f w)
  have HB := Lib.hid (fun w => right n w)
  by_cases h0 : f.Ok
  · rw [right_yes h0] at HA
    by_cases h1 : n.Ok
    · rw [right_yes h1] at HB
      by_cases h2 : n.is0
      · rw [count_no (fun x => x.2.2 h2)]
        obtain ⟨z0, z1, z2, z3⟩ : (n.cpu == 0) = true ∧ (n.mem == 0) = true ∧ (n.gpu == 0) = true ∧ (n.lic == 0) = true := by unfold V.is0 at h2; simpa using h2
        clear h0 h1 h2
        go_enter Try.func56, Try.ntmps56
        go_wp2_with fail
        refine (HA.out _).mono ?_; rintro e w1 ⟨rfl, hb1⟩
        obtain ⟨hc1, hf1⟩ := bcell hb1
        have hz1 := hb1.size; try simp at hz1
        have lt_w1_0 : w.heap.size < w1.heap.size := (by omega); have lt_w1_1 : w.heap.size + 1 < w1.heap.size := (by omega)
        go_wp2_with fail
        refine (HB.out _).mono ?_; rintro e w2 ⟨rfl, hb2⟩
        obtain ⟨hc2, hf2⟩ := bcell hb2
        have hz2 := hb2.size; try simp at hz2
        have lt_w2_0 : w.heap.size < w2.heap.size := (by omega); have lt_w2_1 : w.heap.size + 1 < w2.heap.size := (by omega)
        go_wp2
        go_ret
        exact ⟨rfl, (by repeat' (first | exact Below.refl _ _ | assumption | exact And.left (by assumption) | refine Below.drew ?_ | refine below_drewN ?_ _ | refine Below.setCell ?_ (by first | (simp; done) | (simp; omega) | omega) _ | refine Below.alloc ?_ (by first | (simp; done) | (simp; omega) | omega) _ | refine after (by assumption) (by first | (simp; done) | (simp; omega) | omega) ?_))⟩
      · rw [count_in ⟨h0, h1, h2⟩]
        have ⟨⟨f0, f1⟩, ⟨f2, f3⟩, ⟨f4, f5⟩, f6, f7⟩ := h0
        have ⟨⟨n0, n1⟩, ⟨n2, n3⟩, ⟨n4, n5⟩, n6, n7⟩ := h1
        have key := first_not n h2
        clear h0 h1 h2
        rcases key with z0 | ⟨z0, z1⟩ | ⟨z0, z1, z2⟩ | ⟨z0, z1, z2, z3⟩
        all_goals
          have hm := fun W => min5 Try.prog #[3, 3, 3, 3, 3] 3 64 (intoV f.cpu n.cpu) (intoV f.mem n.mem) (intoV f.gpu n.gpu) (intoV f.lic n.lic) W
          go_enter Try.func56, Try.ntmps56
          go_wp2_with fail
          refine (HA.out _).mono ?_; rintro e w1 ⟨rfl, hb1⟩
          obtain ⟨hc1, hf1⟩ := bcell hb1
          have hz1 := hb1.size; try simp at hz1
          have lt_w1_0 : w.heap.size < w1.heap.size := (by omega); have lt_w1_1 : w.heap.size + 1 < w1.heap.size := (by omega)
          go_wp2_with fail
          refine (HB.out _).mono ?_; rintro e w2 ⟨rfl, hb2⟩
          obtain ⟨hc2, hf2⟩ := bcell hb2
          have hz2 := hb2.size; try simp at hz2
          have lt_w2_0 : w.heap.size < w2.heap.size := (by omega); have lt_w2_1 : w.heap.size + 1 < w2.heap.size := (by omega)
          go_wp2_with fail
          go_quiet ((go_at_call 86; exact Calls.quiet_of_same (into _ _ _ (by assumption) (by assumption) (by assumption) (by assumption))))
          go_wp2
          go_ret
          exact ⟨rfl, (by repeat' (first | exact Below.refl _ _ | assumption | exact And.left (by assumption) | refine Below.drew ?_ | refine below_drewN ?_ _ | refine Below.setCell ?_ (by first | (simp; done) | (simp; omega) | omega) _ | refine Below.alloc ?_ (by first | (simp; done) | (simp; omega) | omega) _ | refine after (by assumption) (by first | (simp; done) | (simp; omega) | omega) ?_))⟩
    · rw [right_no h1] at HB
      rw [count_no (fun x => h1 x.2.1)]
      clear h0 h1
      go_enter Try.func56, Try.ntmps56
      go_wp2_with fail
      refine (HA.out _).mono ?_; rintro e w1 ⟨rfl, hb1⟩
      obtain ⟨hc1, hf1⟩ := bcell hb1
      have hz1 := hb1.size; try simp at hz1
      have lt_w1_0 : w.heap.size < w1.heap.size := (by omega); have lt_w1_1 : w.heap.size + 1 < w1.heap.size := (by omega)
      go_wp2_with fail
      refine (HB.out _).mono ?_; rintro e w2 ⟨rfl, hb2⟩
      obtain ⟨hc2, hf2⟩ := bcell hb2
      have hz2 := hb2.size; try simp at hz2
      go_wp2
      go_ret
      exact ⟨rfl, (by repeat' (first | exact Below.refl _ _ | assumption | exact And.left (by assumption) | refine Below.drew ?_ | refine below_drewN ?_ _ | refine Below.setCell ?_ (by first | (simp; done) | (simp; omega) | omega) _ | refine Below.alloc ?_ (by first | (simp; done) | (simp; omega) | omega) _ | refine after (by assumption) (by first | (simp; done) | (simp; omega) | omega) ?_))⟩
  · rw [right_no h0] at HA
    rw [count_no (fun x => h0 x.1)]
    clear h0
    go_enter Try.func56, Try.ntmps56
    go_wp2_with fail
    refine (HA.out _).mono ?_; rintro e w1 ⟨rfl, hb1⟩
    obtain ⟨hc1, hf1⟩ := bcell hb1
    have hz1 := hb1.size; try simp at hz1
    go_wp2
    go_ret
    exact ⟨rfl, (by repeat' (first | exact Below.refl _ _ | assumption | exact And.left (by assumption) | refine Below.drew ?_ | refine below_drewN ?_ _ | refine Below.setCell ?_ (by first | (simp; done) | (simp; omega) | omega) _ | refine Below.alloc ?_ (by first | (simp; done) | (simp; omega) | omega) _ | refine after (by assumption) (by first | (simp; done) | (simp; omega) | omega) ?_))⟩

end Go.Proofs.Ytcdajfiohhbdgaa.W
