/-
  The walk of StepsTells.
-/
import Derived.Test.YtcnpppkndcgmpaaStAwake
import Derived.Test.YtcnpppkndcgmpaaStRLeast
import Derived.Test.YtcnpppkndcgmpaaStRPlain
import Derived.Test.YtcnpppkndcgmpaaFrameSt
namespace Go.Proofs.Ytcnpppkndcgmpaa.W
set_option linter.unusedVariables false
set_option linter.unusedSimpArgs false
open Go.ChangeShapes Go.WideShapes Go.ChangeAt Go.RowKit

set_option maxHeartbeats 2000000 in
theorem tells_long (a : Option Addr) (cap : Nat) (l : List St) (h : 60 < l.length) (u f t : Int) (free : V) (w : World) :
    Calls Try.prog 3 #[.slice a l.length cap, .agg #[.int .i64 u, .int .i64 f, .int .i64 t], (.agg #[.int .i64 free.cpu, .int .i64 free.mem, .int .i64 free.gpu, .int .i64 free.lic])] w fun e w' => e = .returned (.bool true) ∧ Below w.heap.size w w' := by
  go_enter Try.func3, Try.ntmps3
  go_wp2_with fail
  generalize hw0 : World.alloc (World.alloc w _) _ = w0
  have hb0 : Below w.heap.size w w0 := by rw [← hw0]; exact (by repeat' (first | exact Below.refl _ _ | assumption | exact And.left (by assumption) | refine Below.drew ?_ | refine below_drewN ?_ _ | refine Below.setCell ?_ (by first | (simp; done) | (simp; omega) | omega) _ | refine Below.alloc ?_ (by first | (simp; done) | (simp; omega) | omega) _ | refine after (by assumption) (by first | (simp; done) | (simp; omega) | omega) ?_))
  have c0 : w0.cell? ⟨w.heap.size, 0, none⟩ = some (.int .i64 u) := by rw [← hw0]; simp [go_sem]
  have c1 : w0.cell? ⟨w.heap.size, 1, none⟩ = some (.int .i64 f) := by rw [← hw0]; simp [go_sem]
  have c2 : w0.cell? ⟨w.heap.size, 2, none⟩ = some (.int .i64 t) := by rw [← hw0]; simp [go_sem]
  have HN0 : Hid (Res4 w0 (w.heap.size + 1) free) := Lib.hid (by rw [← hw0]; exact ⟨by simp [go_sem], by simp [go_sem], by simp [go_sem], by simp [go_sem], by simp [go_sem], by simp [go_sem], by simp [go_sem], by simp [go_sem]⟩)
  clear hw0
  refine (awakeSt w0).mono ?_; rintro e w1 ⟨rfl, hb1⟩
  have hW1 := hb0.trans (hb1.mono hb0.size)
  replace c0 := carry hb1 c0
  replace c1 := carry hb1 c1
  replace c2 := carry hb1 c2
  have HN1 := Lib.hid (HN0.out.later hb1)
  go_wp2
  go_ret
  exact ⟨rfl, hW1⟩
set_option maxHeartbeats 4000000 in
theorem tells_yes_ok (a : Option Addr) (cap : Nat) (l : List St) (hl : l.length ≤ 60) (u f t : Int) (free : V) (w : World) (HA0 : StAt w a cap l) (h0 : 0 ≤ u ∧ u ≤ 281474976710656) (h1 : free.Ok) (hk : OkS l) :
    Calls Try.prog 3 #[.slice a l.length cap, .agg #[.int .i64 u, .int .i64 f, .int .i64 t], (.agg #[.int .i64 free.cpu, .int .i64 free.mem, .int .i64 free.gpu, .int .i64 free.lic])] w fun e w' => e = .returned (.bool true) ∧ Below w.heap.size w w' := by
  have HA := Lib.hid HA0
  have HNEW := Lib.hid (fun w' => sNew u free w')
  have HNR := Lib.hid (fun w' => nRight u w')
  have HVR := Lib.hid (fun w' => rright free w')
  rw [show newR u free = [⟨u, free⟩] from if_pos ⟨h0, h1⟩, show newE u free = 0 from if_pos ⟨h0, h1⟩] at HNEW
  rw [show inM u = true from decide_eq_true h0] at HNR
  rw [right_yes h1] at HVR
  have HSA := Lib.hid (fun a1 a2 c1 c2 w' h1 h2 => rSame a1 a2 c1 c2 [⟨u, free⟩] [⟨u, free⟩] (by simp) (by simp) w' h1 h2)
  rw [decide_eq_true (rfl : [(⟨u, free⟩ : St)] = [⟨u, free⟩])] at HSA
  clear h0 h1
  have HRR := Lib.hid (fun w' h => rStRight a cap l (by omega) w' h)
  have HSR := Lib.hid (fun w' h => sRight a cap l (by omega) w' h)
  have HSL := Lib.hid (fun w' h => sLeast a cap l (by omega) f t w' h)
  have HRL := Lib.hid (fun w' h => rLeastR a cap l (by omega) f t w' h)
  have HSAT := Lib.hid (fun w' h => sAt a cap l (by omega) u w' h)
  have HSP := Lib.hid (fun w' h => sPlain a cap l (by omega) w' h)
  have HRAT := Lib.hid (fun w' h => rAt a cap l (by omega) hk u w' h)
  have HRP := Lib.hid (fun w' h => rPlain a cap l (by omega) w' h)
  rw [show rightS l = true from decide_eq_true hk] at HRR HSR
  rw [show atR l u = atL l u from if_pos hk] at HSAT
  rw [plainR_ok hk] at HSP
  have hpl := plainL_len l
  have HSM := Lib.hid (fun a1 a2 c1 c2 w' h1 h2 => rSame a1 a2 c1 c2 (plainL l) (plainL l) (by omega) (by omega) w' h1 h2)
  rw [decide_eq_true (rfl : plainL l = plainL l)] at HSM
  clear hk HA0
  generalize leastS l f t = x at *
  generalize atL l u = q at *
  generalize plainL l = PL at *
  go_enter Try.func3, Try.ntmps3
  go_wp2_with fail
  generalize hw0 : World.alloc (World.alloc w _) _ = w0
  have hb0 : Below w.heap.size w w0 := by rw [← hw0]; exact (by repeat' (first | exact Below.refl _ _ | assumption | exact And.left (by assumption) | refine Below.drew ?_ | refine below_drewN ?_ _ | refine Below.setCell ?_ (by first | (simp; done) | (simp; omega) | omega) _ | refine Below.alloc ?_ (by first | (simp; done) | (simp; omega) | omega) _ | refine after (by assumption) (by first | (simp; done) | (simp; omega) | omega) ?_))
  have c0 : w0.cell? ⟨w.heap.size, 0, none⟩ = some (.int .i64 u) := by rw [← hw0]; simp [go_sem]
  have c1 : w0.cell? ⟨w.heap.size, 1, none⟩ = some (.int .i64 f) := by rw [← hw0]; simp [go_sem]
  have c2 : w0.cell? ⟨w.heap.size, 2, none⟩ = some (.int .i64 t) := by rw [← hw0]; simp [go_sem]
  have HN0 : Hid (Res4 w0 (w.heap.size + 1) free) := Lib.hid (by rw [← hw0]; exact ⟨by simp [go_sem], by simp [go_sem], by simp [go_sem], by simp [go_sem], by simp [go_sem], by simp [go_sem], by simp [go_sem], by simp [go_sem]⟩)
  clear hw0
  refine (awakeSt w0).mono ?_; rintro e w1 ⟨rfl, hb1⟩
  have hW1 := hb0.trans (hb1.mono hb0.size)
  replace c0 := carry hb1 c0
  replace c1 := carry hb1 c1
  replace c2 := carry hb1 c2
  have HN1 := Lib.hid (HN0.out.later hb1)
  go_wp2_with fail
  go_quiet (fail)
  have hb2 : Below w1.heap.size w1 (w1.drewN nq) := below_drewN (Below.refl _ _) _
  have hsz2 : (w1.drewN nq).heap.size = w1.heap.size := rfl
  generalize w1.drewN nq = w2 at hb2 hsz2 ⊢
  have hW2 := hW1.trans (hb2.mono hW1.size)
  have HN2 := Lib.hid (HN1.out.later hb2)
  obtain ⟨n0, n1, n2, n3, z0, z1, z2, z3⟩ := HN2.out
  clear z0 z1 z2 z3 c0 c1 c2
  go_wp2_with fail
  refine (HNEW.out w2).mono ?_
  rintro e w3 ⟨v3, rfl, hO3, hb3⟩
  have hW3 := hW2.trans (hb3.mono hW2.size)
  replace n0 := carry hb3 n0
  replace n1 := carry hb3 n1
  replace n2 := carry hb3 n2
  replace n3 := carry hb3 n3
  obtain ⟨a3, c3, rfl, hs3⟩ := own_st (l := [⟨u, free⟩]) hO3
  have HS3 := Lib.hid hs3
  clear hO3 hs3
  go_wp2_with fail
  refine (HNR.out w3).mono ?_; rintro e w' ⟨rfl, rfl⟩
  go_wp2_with fail
  refine (HVR.out w3).mono ?_
  rintro e w4 ⟨rfl, hb4⟩
  have hW4 := hW3.trans (hb4.mono hW3.size)
  replace n0 := carry hb4 n0
  replace n1 := carry hb4 n1
  replace n2 := carry hb4 n2
  replace n3 := carry hb4 n3
  go_wp2_with fail
  generalize hw5 : World.alloc w4 _ = w5
  have hb5 : Below w4.heap.size w4 w5 := by rw [← hw5]; exact (Below.refl _ _).alloc (Nat.le_refl _) _
  have HS5 : Hid (StAt w5 (some ⟨w4.heap.size, 0, none⟩) 1 [⟨u, free⟩]) := Lib.hid (by rw [← hw5]; exact ⟨row_new _ _ _, Nat.le_refl _, fun h => (by cases h)⟩)
  have hW5 := hW4.trans (hb5.mono hW4.size)
  clear hw5
  refine (HSA.out a3 _ c3 1 w5 ((HS3.out.later hb4).later hb5) HS5.out).mono ?_
  rintro e w6 ⟨rfl, hb6⟩
  have hW6 := hW5.trans (hb6.mono hW5.size)
  clear n0 n1 n2 n3
  skip
  go_wp2_with fail
  refine (HRR.out w6 (HA.out.later hW6)).mono ?_
  rintro e w7 ⟨rfl, hb7⟩
  have hW7 := hW6.trans (hb7.mono hW6.size)
  go_wp2_with fail
  refine (HSR.out w7 (HA.out.later hW7)).mono ?_
  rintro e w8 ⟨rfl, hb8⟩
  have hW8 := hW7.trans (hb8.mono hW7.size)
  go_wp2_with fail
  refine (HSL.out w8 (HA.out.later hW8)).mono ?_
  rintro e w9 ⟨rfl, hb9⟩
  have hW9 := hW8.trans (hb9.mono hW8.size)
  go_wp2_with fail
  refine (HRL.out w9 (HA.out.later hW9)).mono ?_
  rintro e w10 ⟨rfl, hb10⟩
  have hW10 := hW9.trans (hb10.mono hW9.size)
  go_wp2_with fail
  refine (HSAT.out w10 (HA.out.later hW10)).mono ?_
  rintro e w11 ⟨rfl, hb11⟩
  have hW11 := hW10.trans (hb11.mono hW10.size)
  go_wp2_with fail
  refine (HRAT.out w11 (HA.out.later hW11)).mono ?_
  rintro e w12 ⟨rfl, hb12⟩
  have hW12 := hW11.trans (hb12.mono hW11.size)
  go_wp2_with fail
  refine (HSP.out w12 (HA.out.later hW12)).mono ?_
  rintro e w13 ⟨v13, rfl, hO13, hb13⟩
  obtain ⟨a13, c13, rfl, hs13⟩ := own_st (l := PL) hO13
  have HS13 := Lib.hid hs13
  clear hO13 hs13
  have hW13 := hW12.trans (hb13.mono hW12.size)
  go_wp2_with fail
  refine (HRP.out w13 (HA.out.later hW13)).mono ?_
  rintro e w14 ⟨v14, rfl, hO14, hb14⟩
  obtain ⟨a14, c14, rfl, hs14⟩ := own_st (l := PL) hO14
  have HS14 := Lib.hid hs14
  clear hO14 hs14
  have hW14 := hW13.trans (hb14.mono hW13.size)
  go_wp2_with fail
  refine (HSM.out a13 a14 c13 c14 w14 (HS13.out.later hb14) HS14.out).mono ?_
  rintro e w15 ⟨rfl, hb15⟩
  go_wp2
  go_ret
  exact ⟨rfl, hW14.trans (hb15.mono hW14.size)⟩
set_option maxHeartbeats 4000000 in
theorem tells_yes_no (a : Option Addr) (cap : Nat) (l : List St) (hl : l.length ≤ 60) (u f t : Int) (free : V) (w : World) (HA0 : StAt w a cap l) (h0 : 0 ≤ u ∧ u ≤ 281474976710656) (h1 : free.Ok) (hk : ¬ OkS l) :
    Calls Try.prog 3 #[.slice a l.length cap, .agg #[.int .i64 u, .int .i64 f, .int .i64 t], (.agg #[.int .i64 free.cpu, .int .i64 free.mem, .int .i64 free.gpu, .int .i64 free.lic])] w fun e w' => e = .returned (.bool true) ∧ Below w.heap.size w w' := by
  have HA := Lib.hid HA0
  have HNEW := Lib.hid (fun w' => sNew u free w')
  have HNR := Lib.hid (fun w' => nRight u w')
  have HVR := Lib.hid (fun w' => rright free w')
  rw [show newR u free = [⟨u, free⟩] from if_pos ⟨h0, h1⟩, show newE u free = 0 from if_pos ⟨h0, h1⟩] at HNEW
  rw [show inM u = true from decide_eq_true h0] at HNR
  rw [right_yes h1] at HVR
  have HSA := Lib.hid (fun a1 a2 c1 c2 w' h1 h2 => rSame a1 a2 c1 c2 [⟨u, free⟩] [⟨u, free⟩] (by simp) (by simp) w' h1 h2)
  rw [decide_eq_true (rfl : [(⟨u, free⟩ : St)] = [⟨u, free⟩])] at HSA
  clear h0 h1
  have HRR := Lib.hid (fun w' h => rStRight a cap l (by omega) w' h)
  have HSR := Lib.hid (fun w' h => sRight a cap l (by omega) w' h)
  have HSL := Lib.hid (fun w' h => sLeast a cap l (by omega) f t w' h)
  have HRL := Lib.hid (fun w' h => rLeastR a cap l (by omega) f t w' h)
  have HSAT := Lib.hid (fun w' h => sAt a cap l (by omega) u w' h)
  have HSP := Lib.hid (fun w' h => sPlain a cap l (by omega) w' h)
  rw [show rightS l = false from decide_eq_false hk] at HRR HSR
  rw [show atR l u = V.zero from if_neg hk] at HSAT
  rw [plainR_no hk] at HSP
  have hv0 : V.zero = ⟨0, 0, 0, 0⟩ := rfl
  rw [hv0] at HSAT
  clear hk HA0 hv0
  generalize leastS l f t = x at *
  go_enter Try.func3, Try.ntmps3
  go_wp2_with fail
  generalize hw0 : World.alloc (World.alloc w _) _ = w0
  have hb0 : Below w.heap.size w w0 := by rw [← hw0]; exact (by repeat' (first | exact Below.refl _ _ | assumption | exact And.left (by assumption) | refine Below.drew ?_ | refine below_drewN ?_ _ | refine Below.setCell ?_ (by first | (simp; done) | (simp; omega) | omega) _ | refine Below.alloc ?_ (by first | (simp; done) | (simp; omega) | omega) _ | refine after (by assumption) (by first | (simp; done) | (simp; omega) | omega) ?_))
  have c0 : w0.cell? ⟨w.heap.size, 0, none⟩ = some (.int .i64 u) := by rw [← hw0]; simp [go_sem]
  have c1 : w0.cell? ⟨w.heap.size, 1, none⟩ = some (.int .i64 f) := by rw [← hw0]; simp [go_sem]
  have c2 : w0.cell? ⟨w.heap.size, 2, none⟩ = some (.int .i64 t) := by rw [← hw0]; simp [go_sem]
  have HN0 : Hid (Res4 w0 (w.heap.size + 1) free) := Lib.hid (by rw [← hw0]; exact ⟨by simp [go_sem], by simp [go_sem], by simp [go_sem], by simp [go_sem], by simp [go_sem], by simp [go_sem], by simp [go_sem], by simp [go_sem]⟩)
  clear hw0
  refine (awakeSt w0).mono ?_; rintro e w1 ⟨rfl, hb1⟩
  have hW1 := hb0.trans (hb1.mono hb0.size)
  replace c0 := carry hb1 c0
  replace c1 := carry hb1 c1
  replace c2 := carry hb1 c2
  have HN1 := Lib.hid (HN0.out.later hb1)
  go_wp2_with fail
  go_quiet (fail)
  have hb2 : Below w1.heap.size w1 (w1.drewN nq) := below_drewN (Below.refl _ _) _
  have hsz2 : (w1.drewN nq).heap.size = w1.heap.size := rfl
  generalize w1.drewN nq = w2 at hb2 hsz2 ⊢
  have hW2 := hW1.trans (hb2.mono hW1.size)
  have HN2 := Lib.hid (HN1.out.later hb2)
  obtain ⟨n0, n1, n2, n3, z0, z1, z2, z3⟩ := HN2.out
  clear z0 z1 z2 z3 c0 c1 c2
  go_wp2_with fail
  refine (HNEW.out w2).mono ?_
  rintro e w3 ⟨v3, rfl, hO3, hb3⟩
  have hW3 := hW2.trans (hb3.mono hW2.size)
  replace n0 := carry hb3 n0
  replace n1 := carry hb3 n1
  replace n2 := carry hb3 n2
  replace n3 := carry hb3 n3
  obtain ⟨a3, c3, rfl, hs3⟩ := own_st (l := [⟨u, free⟩]) hO3
  have HS3 := Lib.hid hs3
  clear hO3 hs3
  go_wp2_with fail
  refine (HNR.out w3).mono ?_; rintro e w' ⟨rfl, rfl⟩
  go_wp2_with fail
  refine (HVR.out w3).mono ?_
  rintro e w4 ⟨rfl, hb4⟩
  have hW4 := hW3.trans (hb4.mono hW3.size)
  replace n0 := carry hb4 n0
  replace n1 := carry hb4 n1
  replace n2 := carry hb4 n2
  replace n3 := carry hb4 n3
  go_wp2_with fail
  generalize hw5 : World.alloc w4 _ = w5
  have hb5 : Below w4.heap.size w4 w5 := by rw [← hw5]; exact (Below.refl _ _).alloc (Nat.le_refl _) _
  have HS5 : Hid (StAt w5 (some ⟨w4.heap.size, 0, none⟩) 1 [⟨u, free⟩]) := Lib.hid (by rw [← hw5]; exact ⟨row_new _ _ _, Nat.le_refl _, fun h => (by cases h)⟩)
  have hW5 := hW4.trans (hb5.mono hW4.size)
  clear hw5
  refine (HSA.out a3 _ c3 1 w5 ((HS3.out.later hb4).later hb5) HS5.out).mono ?_
  rintro e w6 ⟨rfl, hb6⟩
  have hW6 := hW5.trans (hb6.mono hW5.size)
  clear n0 n1 n2 n3
  skip
  go_wp2_with fail
  refine (HRR.out w6 (HA.out.later hW6)).mono ?_
  rintro e w7 ⟨rfl, hb7⟩
  have hW7 := hW6.trans (hb7.mono hW6.size)
  go_wp2_with fail
  refine (HSR.out w7 (HA.out.later hW7)).mono ?_
  rintro e w8 ⟨rfl, hb8⟩
  have hW8 := hW7.trans (hb8.mono hW7.size)
  go_wp2_with fail
  refine (HSL.out w8 (HA.out.later hW8)).mono ?_
  rintro e w9 ⟨rfl, hb9⟩
  have hW9 := hW8.trans (hb9.mono hW8.size)
  go_wp2_with fail
  refine (HRL.out w9 (HA.out.later hW9)).mono ?_
  rintro e w10 ⟨rfl, hb10⟩
  have hW10 := hW9.trans (hb10.mono hW9.size)
  go_wp2_with fail
  refine (HSAT.out w10 (HA.out.later hW10)).mono ?_
  rintro e w11 ⟨rfl, hb11⟩
  have hW11 := hW10.trans (hb11.mono hW10.size)
  go_wp2_with fail
  refine (HSP.out w11 (HA.out.later hW11)).mono ?_
  rintro e w12 ⟨v12, rfl, hO12, hb12⟩
  obtain ⟨a12, c12, rfl, hs12⟩ := own_st (l := []) hO12
  have HS12 := Lib.hid hs12
  clear hO12 hs12
  have hW12 := hW11.trans (hb12.mono hW11.size)
  have h01 : ([] : List St).length = 0 := rfl
  go_wp2
  go_ret
  exact ⟨rfl, hW12⟩
set_option maxHeartbeats 4000000 in
theorem tells_free_ok (a : Option Addr) (cap : Nat) (l : List St) (hl : l.length ≤ 60) (u f t : Int) (free : V) (w : World) (HA0 : StAt w a cap l) (h0 : 0 ≤ u ∧ u ≤ 281474976710656) (h1 : ¬ free.Ok) (hk : OkS l) :
    Calls Try.prog 3 #[.slice a l.length cap, .agg #[.int .i64 u, .int .i64 f, .int .i64 t], (.agg #[.int .i64 free.cpu, .int .i64 free.mem, .int .i64 free.gpu, .int .i64 free.lic])] w fun e w' => e = .returned (.bool true) ∧ Below w.heap.size w w' := by
  have HA := Lib.hid HA0
  have HNEW := Lib.hid (fun w' => sNew u free w')
  have HNR := Lib.hid (fun w' => nRight u w')
  have HVR := Lib.hid (fun w' => rright free w')
  rw [show newR u free = [] from if_neg (fun x => h1 x.2), show newE u free = 2 from if_neg (fun x => h1 x.2)] at HNEW
  rw [show inM u = true from decide_eq_true h0] at HNR
  rw [right_no h1] at HVR
  clear h0 h1
  have HRR := Lib.hid (fun w' h => rStRight a cap l (by omega) w' h)
  have HSR := Lib.hid (fun w' h => sRight a cap l (by omega) w' h)
  have HSL := Lib.hid (fun w' h => sLeast a cap l (by omega) f t w' h)
  have HRL := Lib.hid (fun w' h => rLeastR a cap l (by omega) f t w' h)
  have HSAT := Lib.hid (fun w' h => sAt a cap l (by omega) u w' h)
  have HSP := Lib.hid (fun w' h => sPlain a cap l (by omega) w' h)
  have HRAT := Lib.hid (fun w' h => rAt a cap l (by omega) hk u w' h)
  have HRP := Lib.hid (fun w' h => rPlain a cap l (by omega) w' h)
  rw [show rightS l = true from decide_eq_true hk] at HRR HSR
  rw [show atR l u = atL l u from if_pos hk] at HSAT
  rw [plainR_ok hk] at HSP
  have hpl := plainL_len l
  have HSM := Lib.hid (fun a1 a2 c1 c2 w' h1 h2 => rSame a1 a2 c1 c2 (plainL l) (plainL l) (by omega) (by omega) w' h1 h2)
  rw [decide_eq_true (rfl : plainL l = plainL l)] at HSM
  clear hk HA0
  generalize leastS l f t = x at *
  generalize atL l u = q at *
  generalize plainL l = PL at *
  go_enter Try.func3, Try.ntmps3
  go_wp2_with fail
  generalize hw0 : World.alloc (World.alloc w _) _ = w0
  have hb0 : Below w.heap.size w w0 := by rw [← hw0]; exact (by repeat' (first | exact Below.refl _ _ | assumption | exact And.left (by assumption) | refine Below.drew ?_ | refine below_drewN ?_ _ | refine Below.setCell ?_ (by first | (simp; done) | (simp; omega) | omega) _ | refine Below.alloc ?_ (by first | (simp; done) | (simp; omega) | omega) _ | refine after (by assumption) (by first | (simp; done) | (simp; omega) | omega) ?_))
  have c0 : w0.cell? ⟨w.heap.size, 0, none⟩ = some (.int .i64 u) := by rw [← hw0]; simp [go_sem]
  have c1 : w0.cell? ⟨w.heap.size, 1, none⟩ = some (.int .i64 f) := by rw [← hw0]; simp [go_sem]
  have c2 : w0.cell? ⟨w.heap.size, 2, none⟩ = some (.int .i64 t) := by rw [← hw0]; simp [go_sem]
  have HN0 : Hid (Res4 w0 (w.heap.size + 1) free) := Lib.hid (by rw [← hw0]; exact ⟨by simp [go_sem], by simp [go_sem], by simp [go_sem], by simp [go_sem], by simp [go_sem], by simp [go_sem], by simp [go_sem], by simp [go_sem]⟩)
  clear hw0
  refine (awakeSt w0).mono ?_; rintro e w1 ⟨rfl, hb1⟩
  have hW1 := hb0.trans (hb1.mono hb0.size)
  replace c0 := carry hb1 c0
  replace c1 := carry hb1 c1
  replace c2 := carry hb1 c2
  have HN1 := Lib.hid (HN0.out.later hb1)
  go_wp2_with fail
  go_quiet (fail)
  have hb2 : Below w1.heap.size w1 (w1.drewN nq) := below_drewN (Below.refl _ _) _
  have hsz2 : (w1.drewN nq).heap.size = w1.heap.size := rfl
  generalize w1.drewN nq = w2 at hb2 hsz2 ⊢
  have hW2 := hW1.trans (hb2.mono hW1.size)
  have HN2 := Lib.hid (HN1.out.later hb2)
  obtain ⟨n0, n1, n2, n3, z0, z1, z2, z3⟩ := HN2.out
  clear z0 z1 z2 z3 c0 c1 c2
  go_wp2_with fail
  refine (HNEW.out w2).mono ?_
  rintro e w3 ⟨v3, rfl, hO3, hb3⟩
  have hW3 := hW2.trans (hb3.mono hW2.size)
  replace n0 := carry hb3 n0
  replace n1 := carry hb3 n1
  replace n2 := carry hb3 n2
  replace n3 := carry hb3 n3
  obtain ⟨a3, c3, rfl, hs3⟩ := own_st (l := []) hO3
  clear hO3 hs3
  have h00 : ([] : List St).length = 0 := rfl
  go_wp2_with fail
  refine (HNR.out w3).mono ?_; rintro e w' ⟨rfl, rfl⟩
  go_wp2_with fail
  refine (HVR.out w3).mono ?_
  rintro e w4 ⟨rfl, hb4⟩
  have hW4 := hW3.trans (hb4.mono hW3.size)
  have hW6 := hW4
  clear n0 n1 n2 n3
  generalize w4 = w6 at hW6 ⊢
  go_wp2_with fail
  refine (HRR.out w6 (HA.out.later hW6)).mono ?_
  rintro e w7 ⟨rfl, hb7⟩
  have hW7 := hW6.trans (hb7.mono hW6.size)
  go_wp2_with fail
  refine (HSR.out w7 (HA.out.later hW7)).mono ?_
  rintro e w8 ⟨rfl, hb8⟩
  have hW8 := hW7.trans (hb8.mono hW7.size)
  go_wp2_with fail
  refine (HSL.out w8 (HA.out.later hW8)).mono ?_
  rintro e w9 ⟨rfl, hb9⟩
  have hW9 := hW8.trans (hb9.mono hW8.size)
  go_wp2_with fail
  refine (HRL.out w9 (HA.out.later hW9)).mono ?_
  rintro e w10 ⟨rfl, hb10⟩
  have hW10 := hW9.trans (hb10.mono hW9.size)
  go_wp2_with fail
  refine (HSAT.out w10 (HA.out.later hW10)).mono ?_
  rintro e w11 ⟨rfl, hb11⟩
  have hW11 := hW10.trans (hb11.mono hW10.size)
  go_wp2_with fail
  refine (HRAT.out w11 (HA.out.later hW11)).mono ?_
  rintro e w12 ⟨rfl, hb12⟩
  have hW12 := hW11.trans (hb12.mono hW11.size)
  go_wp2_with fail
  refine (HSP.out w12 (HA.out.later hW12)).mono ?_
  rintro e w13 ⟨v13, rfl, hO13, hb13⟩
  obtain ⟨a13, c13, rfl, hs13⟩ := own_st (l := PL) hO13
  have HS13 := Lib.hid hs13
  clear hO13 hs13
  have hW13 := hW12.trans (hb13.mono hW12.size)
  go_wp2_with fail
  refine (HRP.out w13 (HA.out.later hW13)).mono ?_
  rintro e w14 ⟨v14, rfl, hO14, hb14⟩
  obtain ⟨a14, c14, rfl, hs14⟩ := own_st (l := PL) hO14
  have HS14 := Lib.hid hs14
  clear hO14 hs14
  have hW14 := hW13.trans (hb14.mono hW13.size)
  go_wp2_with fail
  refine (HSM.out a13 a14 c13 c14 w14 (HS13.out.later hb14) HS14.out).mono ?_
  rintro e w15 ⟨rfl, hb15⟩
  go_wp2
  go_ret
  exact ⟨rfl, hW14.trans (hb15.mono hW14.size)⟩
set_option maxHeartbeats 4000000 in
theorem tells_free_no (a : Option Addr) (cap : Nat) (l : List St) (hl : l.length ≤ 60) (u f t : Int) (free : V) (w : World) (HA0 : StAt w a cap l) (h0 : 0 ≤ u ∧ u ≤ 281474976710656) (h1 : ¬ free.Ok) (hk : ¬ OkS l) :
    Calls Try.prog 3 #[.slice a l.length cap, .agg #[.int .i64 u, .int .i64 f, .int .i64 t], (.agg #[.int .i64 free.cpu, .int .i64 free.mem, .int .i64 free.gpu, .int .i64 free.lic])] w fun e w' => e = .returned (.bool true) ∧ Below w.heap.size w w' := by
  have HA := Lib.hid HA0
  have HNEW := Lib.hid (fun w' => sNew u free w')
  have HNR := Lib.hid (fun w' => nRight u w')
  have HVR := Lib.hid (fun w' => rright free w')
  rw [show newR u free = [] from if_neg (fun x => h1 x.2), show newE u free = 2 from if_neg (fun x => h1 x.2)] at HNEW
  rw [show inM u = true from decide_eq_true h0] at HNR
  rw [right_no h1] at HVR
  clear h0 h1
  have HRR := Lib.hid (fun w' h => rStRight a cap l (by omega) w' h)
  have HSR := Lib.hid (fun w' h => sRight a cap l (by omega) w' h)
  have HSL := Lib.hid (fun w' h => sLeast a cap l (by omega) f t w' h)
  have HRL := Lib.hid (fun w' h => rLeastR a cap l (by omega) f t w' h)
  have HSAT := Lib.hid (fun w' h => sAt a cap l (by omega) u w' h)
  have HSP := Lib.hid (fun w' h => sPlain a cap l (by omega) w' h)
  rw [show rightS l = false from decide_eq_false hk] at HRR HSR
  rw [show atR l u = V.zero from if_neg hk] at HSAT
  rw [plainR_no hk] at HSP
  have hv0 : V.zero = ⟨0, 0, 0, 0⟩ := rfl
  rw [hv0] at HSAT
  clear hk HA0 hv0
  generalize leastS l f t = x at *
  go_enter Try.func3, Try.ntmps3
  go_wp2_with fail
  generalize hw0 : World.alloc (World.alloc w _) _ = w0
  have hb0 : Below w.heap.size w w0 := by rw [← hw0]; exact (by repeat' (first | exact Below.refl _ _ | assumption | exact And.left (by assumption) | refine Below.drew ?_ | refine below_drewN ?_ _ | refine Below.setCell ?_ (by first | (simp; done) | (simp; omega) | omega) _ | refine Below.alloc ?_ (by first | (simp; done) | (simp; omega) | omega) _ | refine after (by assumption) (by first | (simp; done) | (simp; omega) | omega) ?_))
  have c0 : w0.cell? ⟨w.heap.size, 0, none⟩ = some (.int .i64 u) := by rw [← hw0]; simp [go_sem]
  have c1 : w0.cell? ⟨w.heap.size, 1, none⟩ = some (.int .i64 f) := by rw [← hw0]; simp [go_sem]
  have c2 : w0.cell? ⟨w.heap.size, 2, none⟩ = some (.int .i64 t) := by rw [← hw0]; simp [go_sem]
  have HN0 : Hid (Res4 w0 (w.heap.size + 1) free) := Lib.hid (by rw [← hw0]; exact ⟨by simp [go_sem], by simp [go_sem], by simp [go_sem], by simp [go_sem], by simp [go_sem], by simp [go_sem], by simp [go_sem], by simp [go_sem]⟩)
  clear hw0
  refine (awakeSt w0).mono ?_; rintro e w1 ⟨rfl, hb1⟩
  have hW1 := hb0.trans (hb1.mono hb0.size)
  replace c0 := carry hb1 c0
  replace c1 := carry hb1 c1
  replace c2 := carry hb1 c2
  have HN1 := Lib.hid (HN0.out.later hb1)
  go_wp2_with fail
  go_quiet (fail)
  have hb2 : Below w1.heap.size w1 (w1.drewN nq) := below_drewN (Below.refl _ _) _
  have hsz2 : (w1.drewN nq).heap.size = w1.heap.size := rfl
  generalize w1.drewN nq = w2 at hb2 hsz2 ⊢
  have hW2 := hW1.trans (hb2.mono hW1.size)
  have HN2 := Lib.hid (HN1.out.later hb2)
  obtain ⟨n0, n1, n2, n3, z0, z1, z2, z3⟩ := HN2.out
  clear z0 z1 z2 z3 c0 c1 c2
  go_wp2_with fail
  refine (HNEW.out w2).mono ?_
  rintro e w3 ⟨v3, rfl, hO3, hb3⟩
  have hW3 := hW2.trans (hb3.mono hW2.size)
  replace n0 := carry hb3 n0
  replace n1 := carry hb3 n1
  replace n2 := carry hb3 n2
  replace n3 := carry hb3 n3
  obtain ⟨a3, c3, rfl, hs3⟩ := own_st (l := []) hO3
  clear hO3 hs3
  have h00 : ([] : List St).length = 0 := rfl
  go_wp2_with fail
  refine (HNR.out w3).mono ?_; rintro e w' ⟨rfl, rfl⟩
  go_wp2_with fail
  refine (HVR.out w3).mono ?_
  rintro e w4 ⟨rfl, hb4⟩
  have hW4 := hW3.trans (hb4.mono hW3.size)
  have hW6 := hW4
  clear n0 n1 n2 n3
  generalize w4 = w6 at hW6 ⊢
  go_wp2_with fail
  refine (HRR.out w6 (HA.out.later hW6)).mono ?_
  rintro e w7 ⟨rfl, hb7⟩
  have hW7 := hW6.trans (hb7.mono hW6.size)
  go_wp2_with fail
  refine (HSR.out w7 (HA.out.later hW7)).mono ?_
  rintro e w8 ⟨rfl, hb8⟩
  have hW8 := hW7.trans (hb8.mono hW7.size)
  go_wp2_with fail
  refine (HSL.out w8 (HA.out.later hW8)).mono ?_
  rintro e w9 ⟨rfl, hb9⟩
  have hW9 := hW8.trans (hb9.mono hW8.size)
  go_wp2_with fail
  refine (HRL.out w9 (HA.out.later hW9)).mono ?_
  rintro e w10 ⟨rfl, hb10⟩
  have hW10 := hW9.trans (hb10.mono hW9.size)
  go_wp2_with fail
  refine (HSAT.out w10 (HA.out.later hW10)).mono ?_
  rintro e w11 ⟨rfl, hb11⟩
  have hW11 := hW10.trans (hb11.mono hW10.size)
  go_wp2_with fail
  refine (HSP.out w11 (HA.out.later hW11)).mono ?_
  rintro e w12 ⟨v12, rfl, hO12, hb12⟩
  obtain ⟨a12, c12, rfl, hs12⟩ := own_st (l := []) hO12
  have HS12 := Lib.hid hs12
  clear hO12 hs12
  have hW12 := hW11.trans (hb12.mono hW11.size)
  have h01 : ([] : List St).length = 0 := rfl
  go_wp2
  go_ret
  exact ⟨rfl, hW12⟩
set_option maxHeartbeats 4000000 in
theorem tells_at_ok (a : Option Addr) (cap : Nat) (l : List St) (hl : l.length ≤ 60) (u f t : Int) (free : V) (w : World) (HA0 : StAt w a cap l) (h0 : ¬ (0 ≤ u ∧ u ≤ 281474976710656)) (hk : OkS l) :
    Calls Try.prog 3 #[.slice a l.length cap, .agg #[.int .i64 u, .int .i64 f, .int .i64 t], (.agg #[.int .i64 free.cpu, .int .i64 free.mem, .int .i64 free.gpu, .int .i64 free.lic])] w fun e w' => e = .returned (.bool true) ∧ Below w.heap.size w w' := by
  have HA := Lib.hid HA0
  have HNEW := Lib.hid (fun w' => sNew u free w')
  have HNR := Lib.hid (fun w' => nRight u w')
  have HVR := Lib.hid (fun w' => rright free w')
  rw [show newR u free = [] from if_neg (fun x => h0 x.1), show newE u free = 2 from if_neg (fun x => h0 x.1)] at HNEW
  rw [show inM u = false from decide_eq_false h0] at HNR
  clear h0
  have HRR := Lib.hid (fun w' h => rStRight a cap l (by omega) w' h)
  have HSR := Lib.hid (fun w' h => sRight a cap l (by omega) w' h)
  have HSL := Lib.hid (fun w' h => sLeast a cap l (by omega) f t w' h)
  have HRL := Lib.hid (fun w' h => rLeastR a cap l (by omega) f t w' h)
  have HSAT := Lib.hid (fun w' h => sAt a cap l (by omega) u w' h)
  have HSP := Lib.hid (fun w' h => sPlain a cap l (by omega) w' h)
  have HRAT := Lib.hid (fun w' h => rAt a cap l (by omega) hk u w' h)
  have HRP := Lib.hid (fun w' h => rPlain a cap l (by omega) w' h)
  rw [show rightS l = true from decide_eq_true hk] at HRR HSR
  rw [show atR l u = atL l u from if_pos hk] at HSAT
  rw [plainR_ok hk] at HSP
  have hpl := plainL_len l
  have HSM := Lib.hid (fun a1 a2 c1 c2 w' h1 h2 => rSame a1 a2 c1 c2 (plainL l) (plainL l) (by omega) (by omega) w' h1 h2)
  rw [decide_eq_true (rfl : plainL l = plainL l)] at HSM
  clear hk HA0
  generalize leastS l f t = x at *
  generalize atL l u = q at *
  generalize plainL l = PL at *
  go_enter Try.func3, Try.ntmps3
  go_wp2_with fail
  generalize hw0 : World.alloc (World.alloc w _) _ = w0
  have hb0 : Below w.heap.size w w0 := by rw [← hw0]; exact (by repeat' (first | exact Below.refl _ _ | assumption | exact And.left (by assumption) | refine Below.drew ?_ | refine below_drewN ?_ _ | refine Below.setCell ?_ (by first | (simp; done) | (simp; omega) | omega) _ | refine Below.alloc ?_ (by first | (simp; done) | (simp; omega) | omega) _ | refine after (by assumption) (by first | (simp; done) | (simp; omega) | omega) ?_))
  have c0 : w0.cell? ⟨w.heap.size, 0, none⟩ = some (.int .i64 u) := by rw [← hw0]; simp [go_sem]
  have c1 : w0.cell? ⟨w.heap.size, 1, none⟩ = some (.int .i64 f) := by rw [← hw0]; simp [go_sem]
  have c2 : w0.cell? ⟨w.heap.size, 2, none⟩ = some (.int .i64 t) := by rw [← hw0]; simp [go_sem]
  have HN0 : Hid (Res4 w0 (w.heap.size + 1) free) := Lib.hid (by rw [← hw0]; exact ⟨by simp [go_sem], by simp [go_sem], by simp [go_sem], by simp [go_sem], by simp [go_sem], by simp [go_sem], by simp [go_sem], by simp [go_sem]⟩)
  clear hw0
  refine (awakeSt w0).mono ?_; rintro e w1 ⟨rfl, hb1⟩
  have hW1 := hb0.trans (hb1.mono hb0.size)
  replace c0 := carry hb1 c0
  replace c1 := carry hb1 c1
  replace c2 := carry hb1 c2
  have HN1 := Lib.hid (HN0.out.later hb1)
  go_wp2_with fail
  go_quiet (fail)
  have hb2 : Below w1.heap.size w1 (w1.drewN nq) := below_drewN (Below.refl _ _) _
  have hsz2 : (w1.drewN nq).heap.size = w1.heap.size := rfl
  generalize w1.drewN nq = w2 at hb2 hsz2 ⊢
  have hW2 := hW1.trans (hb2.mono hW1.size)
  have HN2 := Lib.hid (HN1.out.later hb2)
  obtain ⟨n0, n1, n2, n3, z0, z1, z2, z3⟩ := HN2.out
  clear z0 z1 z2 z3 c0 c1 c2
  go_wp2_with fail
  refine (HNEW.out w2).mono ?_
  rintro e w3 ⟨v3, rfl, hO3, hb3⟩
  have hW3 := hW2.trans (hb3.mono hW2.size)
  replace n0 := carry hb3 n0
  replace n1 := carry hb3 n1
  replace n2 := carry hb3 n2
  replace n3 := carry hb3 n3
  obtain ⟨a3, c3, rfl, hs3⟩ := own_st (l := []) hO3
  clear hO3 hs3
  have h00 : ([] : List St).length = 0 := rfl
  go_wp2_with fail
  refine (HNR.out w3).mono ?_; rintro e w' ⟨rfl, rfl⟩
  have hW6 := hW3
  clear n0 n1 n2 n3
  generalize w3 = w6 at hW6 ⊢
  go_wp2_with fail
  refine (HRR.out w6 (HA.out.later hW6)).mono ?_
  rintro e w7 ⟨rfl, hb7⟩
  have hW7 := hW6.trans (hb7.mono hW6.size)
  go_wp2_with fail
  refine (HSR.out w7 (HA.out.later hW7)).mono ?_
  rintro e w8 ⟨rfl, hb8⟩
  have hW8 := hW7.trans (hb8.mono hW7.size)
  go_wp2_with fail
  refine (HSL.out w8 (HA.out.later hW8)).mono ?_
  rintro e w9 ⟨rfl, hb9⟩
  have hW9 := hW8.trans (hb9.mono hW8.size)
  go_wp2_with fail
  refine (HRL.out w9 (HA.out.later hW9)).mono ?_
  rintro e w10 ⟨rfl, hb10⟩
  have hW10 := hW9.trans (hb10.mono hW9.size)
  go_wp2_with fail
  refine (HSAT.out w10 (HA.out.later hW10)).mono ?_
  rintro e w11 ⟨rfl, hb11⟩
  have hW11 := hW10.trans (hb11.mono hW10.size)
  go_wp2_with fail
  refine (HRAT.out w11 (HA.out.later hW11)).mono ?_
  rintro e w12 ⟨rfl, hb12⟩
  have hW12 := hW11.trans (hb12.mono hW11.size)
  go_wp2_with fail
  refine (HSP.out w12 (HA.out.later hW12)).mono ?_
  rintro e w13 ⟨v13, rfl, hO13, hb13⟩
  obtain ⟨a13, c13, rfl, hs13⟩ := own_st (l := PL) hO13
  have HS13 := Lib.hid hs13
  clear hO13 hs13
  have hW13 := hW12.trans (hb13.mono hW12.size)
  go_wp2_with fail
  refine (HRP.out w13 (HA.out.later hW13)).mono ?_
  rintro e w14 ⟨v14, rfl, hO14, hb14⟩
  obtain ⟨a14, c14, rfl, hs14⟩ := own_st (l := PL) hO14
  have HS14 := Lib.hid hs14
  clear hO14 hs14
  have hW14 := hW13.trans (hb14.mono hW13.size)
  go_wp2_with fail
  refine (HSM.out a13 a14 c13 c14 w14 (HS13.out.later hb14) HS14.out).mono ?_
  rintro e w15 ⟨rfl, hb15⟩
  go_wp2
  go_ret
  exact ⟨rfl, hW14.trans (hb15.mono hW14.size)⟩
set_option maxHeartbeats 4000000 in
theorem tells_at_no (a : Option Addr) (cap : Nat) (l : List St) (hl : l.length ≤ 60) (u f t : Int) (free : V) (w : World) (HA0 : StAt w a cap l) (h0 : ¬ (0 ≤ u ∧ u ≤ 281474976710656)) (hk : ¬ OkS l) :
    Calls Try.prog 3 #[.slice a l.length cap, .agg #[.int .i64 u, .int .i64 f, .int .i64 t], (.agg #[.int .i64 free.cpu, .int .i64 free.mem, .int .i64 free.gpu, .int .i64 free.lic])] w fun e w' => e = .returned (.bool true) ∧ Below w.heap.size w w' := by
  have HA := Lib.hid HA0
  have HNEW := Lib.hid (fun w' => sNew u free w')
  have HNR := Lib.hid (fun w' => nRight u w')
  have HVR := Lib.hid (fun w' => rright free w')
  rw [show newR u free = [] from if_neg (fun x => h0 x.1), show newE u free = 2 from if_neg (fun x => h0 x.1)] at HNEW
  rw [show inM u = false from decide_eq_false h0] at HNR
  clear h0
  have HRR := Lib.hid (fun w' h => rStRight a cap l (by omega) w' h)
  have HSR := Lib.hid (fun w' h => sRight a cap l (by omega) w' h)
  have HSL := Lib.hid (fun w' h => sLeast a cap l (by omega) f t w' h)
  have HRL := Lib.hid (fun w' h => rLeastR a cap l (by omega) f t w' h)
  have HSAT := Lib.hid (fun w' h => sAt a cap l (by omega) u w' h)
  have HSP := Lib.hid (fun w' h => sPlain a cap l (by omega) w' h)
  rw [show rightS l = false from decide_eq_false hk] at HRR HSR
  rw [show atR l u = V.zero from if_neg hk] at HSAT
  rw [plainR_no hk] at HSP
  have hv0 : V.zero = ⟨0, 0, 0, 0⟩ := rfl
  rw [hv0] at HSAT
  clear hk HA0 hv0
  generalize leastS l f t = x at *
  go_enter Try.func3, Try.ntmps3
  go_wp2_with fail
  generalize hw0 : World.alloc (World.alloc w _) _ = w0
  have hb0 : Below w.heap.size w w0 := by rw [← hw0]; exact (by repeat' (first | exact Below.refl _ _ | assumption | exact And.left (by assumption) | refine Below.drew ?_ | refine below_drewN ?_ _ | refine Below.setCell ?_ (by first | (simp; done) | (simp; omega) | omega) _ | refine Below.alloc ?_ (by first | (simp; done) | (simp; omega) | omega) _ | refine after (by assumption) (by first | (simp; done) | (simp; omega) | omega) ?_))
  have c0 : w0.cell? ⟨w.heap.size, 0, none⟩ = some (.int .i64 u) := by rw [← hw0]; simp [go_sem]
  have c1 : w0.cell? ⟨w.heap.size, 1, none⟩ = some (.int .i64 f) := by rw [← hw0]; simp [go_sem]
  have c2 : w0.cell? ⟨w.heap.size, 2, none⟩ = some (.int .i64 t) := by rw [← hw0]; simp [go_sem]
  have HN0 : Hid (Res4 w0 (w.heap.size + 1) free) := Lib.hid (by rw [← hw0]; exact ⟨by simp [go_sem], by simp [go_sem], by simp [go_sem], by simp [go_sem], by simp [go_sem], by simp [go_sem], by simp [go_sem], by simp [go_sem]⟩)
  clear hw0
  refine (awakeSt w0).mono ?_; rintro e w1 ⟨rfl, hb1⟩
  have hW1 := hb0.trans (hb1.mono hb0.size)
  replace c0 := carry hb1 c0
  replace c1 := carry hb1 c1
  replace c2 := carry hb1 c2
  have HN1 := Lib.hid (HN0.out.later hb1)
  go_wp2_with fail
  go_quiet (fail)
  have hb2 : Below w1.heap.size w1 (w1.drewN nq) := below_drewN (Below.refl _ _) _
  have hsz2 : (w1.drewN nq).heap.size = w1.heap.size := rfl
  generalize w1.drewN nq = w2 at hb2 hsz2 ⊢
  have hW2 := hW1.trans (hb2.mono hW1.size)
  have HN2 := Lib.hid (HN1.out.later hb2)
  obtain ⟨n0, n1, n2, n3, z0, z1, z2, z3⟩ := HN2.out
  clear z0 z1 z2 z3 c0 c1 c2
  go_wp2_with fail
  refine (HNEW.out w2).mono ?_
  rintro e w3 ⟨v3, rfl, hO3, hb3⟩
  have hW3 := hW2.trans (hb3.mono hW2.size)
  replace n0 := carry hb3 n0
  replace n1 := carry hb3 n1
  replace n2 := carry hb3 n2
  replace n3 := carry hb3 n3
  obtain ⟨a3, c3, rfl, hs3⟩ := own_st (l := []) hO3
  clear hO3 hs3
  have h00 : ([] : List St).length = 0 := rfl
  go_wp2_with fail
  refine (HNR.out w3).mono ?_; rintro e w' ⟨rfl, rfl⟩
  have hW6 := hW3
  clear n0 n1 n2 n3
  generalize w3 = w6 at hW6 ⊢
  go_wp2_with fail
  refine (HRR.out w6 (HA.out.later hW6)).mono ?_
  rintro e w7 ⟨rfl, hb7⟩
  have hW7 := hW6.trans (hb7.mono hW6.size)
  go_wp2_with fail
  refine (HSR.out w7 (HA.out.later hW7)).mono ?_
  rintro e w8 ⟨rfl, hb8⟩
  have hW8 := hW7.trans (hb8.mono hW7.size)
  go_wp2_with fail
  refine (HSL.out w8 (HA.out.later hW8)).mono ?_
  rintro e w9 ⟨rfl, hb9⟩
  have hW9 := hW8.trans (hb9.mono hW8.size)
  go_wp2_with fail
  refine (HRL.out w9 (HA.out.later hW9)).mono ?_
  rintro e w10 ⟨rfl, hb10⟩
  have hW10 := hW9.trans (hb10.mono hW9.size)
  go_wp2_with fail
  refine (HSAT.out w10 (HA.out.later hW10)).mono ?_
  rintro e w11 ⟨rfl, hb11⟩
  have hW11 := hW10.trans (hb11.mono hW10.size)
  go_wp2_with fail
  refine (HSP.out w11 (HA.out.later hW11)).mono ?_
  rintro e w12 ⟨v12, rfl, hO12, hb12⟩
  obtain ⟨a12, c12, rfl, hs12⟩ := own_st (l := []) hO12
  have HS12 := Lib.hid hs12
  clear hO12 hs12
  have hW12 := hW11.trans (hb12.mono hW11.size)
  have h01 : ([] : List St).length = 0 := rfl
  go_wp2
  go_ret
  exact ⟨rfl, hW12⟩
theorem stepsTells_walk (v0 v1 v2 : Value) (w : World) (F0 : FSteps w v0) (F1 : FAgg 3 (FInt .i64) v1) (F2 : FRes v2) :
    Calls Try.prog 3 #[v0, v1, v2] w fun e w' => e = .returned (.bool true) ∧ Below w.heap.size w w' := by
  obtain ⟨a, cap, l, rfl, hA⟩ := F0
  obtain ⟨x0, x1, x2, rfl, ⟨u, rfl, _⟩, ⟨f, rfl, _⟩, t, rfl, _⟩ := F1.three
  obtain ⟨free, rfl, _⟩ := F2
  by_cases hl : l.length ≤ 60
  · by_cases h0 : 0 ≤ u ∧ u ≤ 281474976710656
    · by_cases h1 : free.Ok
      · by_cases hk : OkS l
        · exact tells_yes_ok a cap l hl u f t free w hA h0 h1 hk
        · exact tells_yes_no a cap l hl u f t free w hA h0 h1 hk
      · by_cases hk : OkS l
        · exact tells_free_ok a cap l hl u f t free w hA h0 h1 hk
        · exact tells_free_no a cap l hl u f t free w hA h0 h1 hk
    · by_cases hk : OkS l
      · exact tells_at_ok a cap l hl u f t free w hA h0 hk
      · exact tells_at_no a cap l hl u f t free w hA h0 hk
  · exact tells_long a cap l (by omega) u f t free w
end Go.Proofs.Ytcnpppkndcgmpaa.W
