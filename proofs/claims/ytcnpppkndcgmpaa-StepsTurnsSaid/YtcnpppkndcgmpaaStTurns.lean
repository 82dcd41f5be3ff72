/-
  The walk of StepsTurns.
-/
import Derived.Test.YtcnpppkndcgmpaaStAwake
import Derived.Test.YtcnpppkndcgmpaaStRTurn
import Derived.Test.YtcnpppkndcgmpaaFrameSt
namespace Go.Proofs.Ytcnpppkndcgmpaa.W
set_option linter.unusedVariables false
set_option linter.unusedSimpArgs false
open Go.ChangeShapes Go.WideShapes Go.ChangeAt Go.RowKit

set_option maxHeartbeats 4000000 in
theorem turns10 (a : Option Addr) (cap : Nat) (l : List St) (f t : Int) (need : V) (w : World) (HA0 : StAt w a cap l) :
    Calls Try.prog 4 #[.slice a l.length cap, .agg #[.int .i64 f, .int .i64 t], (.agg #[.int .i64 need.cpu, .int .i64 need.mem, .int .i64 need.gpu, .int .i64 need.lic])] w fun e w' => e = .returned (.bool true) ∧ Below w.heap.size w w' := by
  have HA := Lib.hid HA0
  by_cases hl : l.length ≤ 40
  · have HT := Lib.hid (fun w' h => sTake a cap l (by omega) f t need w' h)
    have HG := Lib.hid (fun w' h => sGive a cap l (by omega) f t need w' h)
    have HX := Lib.hid (fun w' h => rTurn false a cap l (by omega) f t need w' h)
    have HY := Lib.hid (fun w' h => rTurn true a cap l (by omega) f t need w' h)
    have h1 := turnR_len false l f t need
    have h2 := turnR_len true l f t need
    have HS1 := Lib.hid (fun a1 a2 c1 c2 w' h1' h2' => rSame a1 a2 c1 c2 (turnR false l f t need) (turnR false l f t need) (by omega) (by omega) w' h1' h2')
    rw [decide_eq_true (rfl : turnR false l f t need = turnR false l f t need)] at HS1
    have HS2 := Lib.hid (fun a1 a2 c1 c2 w' h1' h2' => rSame a1 a2 c1 c2 (turnR true l f t need) (turnR true l f t need) (by omega) (by omega) w' h1' h2')
    rw [decide_eq_true (rfl : turnR true l f t need = turnR true l f t need)] at HS2
    clear HA0 h1 h2
    generalize turnR false l f t need = R1 at *
    generalize turnR true l f t need = R2 at *
    generalize turnE false l f t need = E1 at *
    generalize turnE true l f t need = E2 at *
    go_enter Try.func4, Try.ntmps4
    go_wp2_with fail
    generalize hw0 : World.alloc (World.alloc w _) _ = w0
    have hb0 : Below w.heap.size w w0 := by rw [← hw0]; exact (by repeat' (first | exact Below.refl _ _ | assumption | exact And.left (by assumption) | refine Below.drew ?_ | refine below_drewN ?_ _ | refine Below.setCell ?_ (by first | (simp; done) | (simp; omega) | omega) _ | refine Below.alloc ?_ (by first | (simp; done) | (simp; omega) | omega) _ | refine after (by assumption) (by first | (simp; done) | (simp; omega) | omega) ?_))
    have c0 : w0.cell? ⟨w.heap.size, 0, none⟩ = some (.int .i64 f) := by rw [← hw0]; simp [go_sem]
    have c1 : w0.cell? ⟨w.heap.size, 1, none⟩ = some (.int .i64 t) := by rw [← hw0]; simp [go_sem]
    have HN0 : Hid (Res4 w0 (w.heap.size + 1) need) := Lib.hid (by rw [← hw0]; exact ⟨by simp [go_sem], by simp [go_sem], by simp [go_sem], by simp [go_sem], by simp [go_sem], by simp [go_sem], by simp [go_sem], by simp [go_sem]⟩)
    clear hw0
    refine (awakeSt w0).mono ?_; rintro e w1 ⟨rfl, hb1⟩
    have hW1 := hb0.trans (hb1.mono hb0.size)
    replace c0 := carry hb1 c0
    replace c1 := carry hb1 c1
    obtain ⟨n0, n1, n2, n3, z0, z1, z2, z3⟩ := HN0.out.later hb1
    clear z0 z1 z2 z3
    go_wp2_with fail
    refine (HT.out w1 (HA.out.later hW1)).mono ?_
    rintro e w2 ⟨v2, rfl, hO2, hb2⟩
    obtain ⟨a2, p2, rfl, hs2⟩ := own_st (l := R1) hO2
    have HT2 := Lib.hid hs2
    clear hO2 hs2
    have hW2 := hW1.trans (hb2.mono hW1.size)
    replace c0 := carry hb2 c0
    replace c1 := carry hb2 c1
    replace n0 := carry hb2 n0
    replace n1 := carry hb2 n1
    replace n2 := carry hb2 n2
    replace n3 := carry hb2 n3
    go_wp2_with fail
    refine (HG.out w2 (HA.out.later hW2)).mono ?_
    rintro e w3 ⟨v3, rfl, hO3, hb3⟩
    obtain ⟨a3, p3, rfl, hs3⟩ := own_st (l := R2) hO3
    have HT3 := Lib.hid hs3
    clear hO3 hs3
    have hW3 := hW2.trans (hb3.mono hW2.size)
    replace c0 := carry hb3 c0
    replace c1 := carry hb3 c1
    replace n0 := carry hb3 n0
    replace n1 := carry hb3 n1
    replace n2 := carry hb3 n2
    replace n3 := carry hb3 n3
    go_wp2_with fail
    refine (HX.out w3 (HA.out.later hW3)).mono ?_
    rintro e w4 ⟨v4, rfl, hO4, hb4⟩
    obtain ⟨a4, p4, rfl, hs4⟩ := own_st (l := R1) hO4
    have HT4 := Lib.hid hs4
    clear hO4 hs4
    have hW4 := hW3.trans (hb4.mono hW3.size)
    replace c0 := carry hb4 c0
    replace c1 := carry hb4 c1
    replace n0 := carry hb4 n0
    replace n1 := carry hb4 n1
    replace n2 := carry hb4 n2
    replace n3 := carry hb4 n3
    go_wp2_with fail
    refine (HY.out w4 (HA.out.later hW4)).mono ?_
    rintro e w5 ⟨v5, rfl, hO5, hb5⟩
    obtain ⟨a5, p5, rfl, hs5⟩ := own_st (l := R2) hO5
    have HT5 := Lib.hid hs5
    clear hO5 hs5
    have hW5 := hW4.trans (hb5.mono hW4.size)
    have k35 := hb4.trans (hb5.mono hb4.size)
    have k25 := hb3.trans (k35.mono hb3.size)
    go_wp2_with fail
    refine (HS1.out a2 a4 p2 p4 w5 (HT2.out.later k25) (HT4.out.later hb5)).mono ?_
    rintro e w6 ⟨rfl, hb6⟩
    have hW6 := hW5.trans (hb6.mono hW5.size)
    go_wp2_with fail
    refine (HS2.out a3 a5 p3 p5 w6 ((HT3.out.later k35).later hb6) (HT5.out.later hb6)).mono ?_
    rintro e w7 ⟨rfl, hb7⟩
    go_wp2
    go_ret
    exact ⟨rfl, hW6.trans (hb7.mono hW6.size)⟩
  · clear HA0
    go_enter Try.func4, Try.ntmps4
    go_wp2_with fail
    refine (awakeSt _).mono ?_; rintro e w1 ⟨rfl, hb1⟩; obtain ⟨hc1, hf1⟩ := bcell hb1; have hz1 := hb1.size; (try simp at hz1); have lt_w1_0 : w.heap.size < w1.heap.size := (by omega)
    go_wp2
    go_ret
    exact ⟨rfl, (by repeat' (first | exact Below.refl _ _ | assumption | exact And.left (by assumption) | refine Below.drew ?_ | refine below_drewN ?_ _ | refine Below.setCell ?_ (by first | (simp; done) | (simp; omega) | omega) _ | refine Below.alloc ?_ (by first | (simp; done) | (simp; omega) | omega) _ | refine after (by assumption) (by first | (simp; done) | (simp; omega) | omega) ?_))⟩
theorem stepsTurns_walk (v0 v1 v2 : Value) (w : World) (F0 : FSteps w v0) (F1 : FAgg 2 (FInt .i64) v1) (F2 : FRes v2) :
    Calls Try.prog 4 #[v0, v1, v2] w fun e w' => e = .returned (.bool true) ∧ Below w.heap.size w w' := by
  obtain ⟨a, cap, l, rfl, hA⟩ := F0
  obtain ⟨x0, x1, rfl, ⟨f, rfl, _⟩, t, rfl, _⟩ := F1.two
  obtain ⟨need, rfl, _⟩ := F2
  exact turns10 a cap l f t need w hA
end Go.Proofs.Ytcnpppkndcgmpaa.W
