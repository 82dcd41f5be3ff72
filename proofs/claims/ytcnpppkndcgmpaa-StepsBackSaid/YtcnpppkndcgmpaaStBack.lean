/-
  The walk of StepsBack.
-/
import Derived.Test.YtcnpppkndcgmpaaStAwake
import Derived.Test.YtcnpppkndcgmpaaStPlain
import Derived.Test.YtcnpppkndcgmpaaStLeast
import Derived.Test.YtcnpppkndcgmpaaVecRef
import Derived.Test.YtcnpppkndcgmpaaMonoT
import Derived.Test.YtcnpppkndcgmpaaFrameSt
namespace Go.Proofs.Ytcnpppkndcgmpaa.W
set_option linter.unusedVariables false
set_option linter.unusedSimpArgs false
open Go.ChangeShapes Go.WideShapes Go.ChangeAt Go.RowKit

def bk12 (a3 : Option Addr) (an c3 : Nat) (f t : Int) (x need y : V) (B : Nat) : List Sp :=
  [Sp.c (.slice a3 an c3) [],
   Sp.c (.int .i64 f) [],
   Sp.c (.int .i64 t) [],
   Sp.c ((.agg #[.int .i64 x.cpu, .int .i64 x.mem, .int .i64 x.gpu, .int .i64 x.lic])) [0, 1, 2],
   Sp.c ((.agg #[.int .i64 need.cpu, .int .i64 need.mem, .int .i64 need.gpu, .int .i64 need.lic])) [],
   Sp.c ((.agg #[.int .i64 y.cpu, .int .i64 y.mem, .int .i64 y.gpu, .int .i64 y.lic])) [3, 4],
   Sp.m true (fun v z => ∃ g, v = .pointer (some ⟨g, 0, none⟩) ∧ B ≤ g ∧ Res4 z g V.zero) []]
def bk13 (a : Option Addr) (ln cap : Nat) (f t : Int) (y : V) : List Sp :=
  [Sp.c ((.agg #[.int .i64 y.cpu, .int .i64 y.mem, .int .i64 y.gpu, .int .i64 y.lic])) [],
   Sp.c (.slice a ln cap) [],
   Sp.c (.int .i64 f) [],
   Sp.c (.int .i64 t) [],
   Sp.c ((.agg #[.int .i64 y.cpu, .int .i64 y.mem, .int .i64 y.gpu, .int .i64 y.lic])) [1, 2, 3],
   Sp.c (.bool false) [0, 4]]
def bk16 (a3 : Option Addr) (an c3 : Nat) (a : Option Addr) (ln cap : Nat) (u : Int) (p need q : V) : List Sp :=
  [Sp.c (.slice a3 an c3) [],
   Sp.c (.int .i64 u) [],
   Sp.c ((.agg #[.int .i64 p.cpu, .int .i64 p.mem, .int .i64 p.gpu, .int .i64 p.lic])) [0, 1],
   Sp.c ((.agg #[.int .i64 need.cpu, .int .i64 need.mem, .int .i64 need.gpu, .int .i64 need.lic])) [],
   Sp.c ((.agg #[.int .i64 q.cpu, .int .i64 q.mem, .int .i64 q.gpu, .int .i64 q.lic])) [2, 3],
   Sp.c (.slice a ln cap) [],
   Sp.c (.int .i64 u) [],
   Sp.c ((.agg #[.int .i64 q.cpu, .int .i64 q.mem, .int .i64 q.gpu, .int .i64 q.lic])) [5, 6],
   Sp.c (.bool true) [4, 7],
   Sp.c (.bool true) [8]]
set_option maxHeartbeats 2000000 in
theorem back_long (a : Option Addr) (cap : Nat) (l : List St) (h : 40 < l.length) (f t u : Int) (need : V) (w : World) :
    Calls Try.prog 5 #[.slice a l.length cap, .agg #[.int .i64 f, .int .i64 t, .int .i64 u], (.agg #[.int .i64 need.cpu, .int .i64 need.mem, .int .i64 need.gpu, .int .i64 need.lic])] w fun e w' => e = .returned (.bool true) ∧ Below w.heap.size w w' := by
  go_enter Try.func5, Try.ntmps5
  go_wp2_with fail
  generalize hw0 : World.alloc (World.alloc w _) _ = w0
  have hb0 : Below w.heap.size w w0 := by rw [← hw0]; exact (by repeat' (first | exact Below.refl _ _ | assumption | exact And.left (by assumption) | refine Below.drew ?_ | refine below_drewN ?_ _ | refine Below.setCell ?_ (by first | (simp; done) | (simp; omega) | omega) _ | refine Below.alloc ?_ (by first | (simp; done) | (simp; omega) | omega) _ | refine after (by assumption) (by first | (simp; done) | (simp; omega) | omega) ?_))
  have c0 : w0.cell? ⟨w.heap.size, 0, none⟩ = some (.int .i64 f) := by rw [← hw0]; simp [go_sem]
  have c1 : w0.cell? ⟨w.heap.size, 1, none⟩ = some (.int .i64 t) := by rw [← hw0]; simp [go_sem]
  have c2 : w0.cell? ⟨w.heap.size, 2, none⟩ = some (.int .i64 u) := by rw [← hw0]; simp [go_sem]
  have HN0 : Hid (Res4 w0 (w.heap.size + 1) need) := Lib.hid (by rw [← hw0]; exact ⟨by simp [go_sem], by simp [go_sem], by simp [go_sem], by simp [go_sem], by simp [go_sem], by simp [go_sem], by simp [go_sem], by simp [go_sem]⟩)
  clear hw0
  refine (awakeSt w0).mono ?_; rintro e w1 ⟨rfl, hb1⟩
  have hW1 := hb0.trans (hb1.mono hb0.size)
  replace c0 := carry hb1 c0
  replace c1 := carry hb1 c1
  replace c2 := carry hb1 c2
  have HN1 := Lib.hid (HN0.out.later hb1)
  go_wp2
  go_ret
  exact ⟨rfl, hW1⟩
set_option maxHeartbeats 4000000 in
theorem back_none (a : Option Addr) (cap : Nat) (l : List St) (hl : l.length ≤ 40) (f t u : Int) (need : V) (w : World) (HA0 : StAt w a cap l) (h : ¬ (ArgsOk l f t need ∧ Fine false l f t need)) :
    Calls Try.prog 5 #[.slice a l.length cap, .agg #[.int .i64 f, .int .i64 t, .int .i64 u], (.agg #[.int .i64 need.cpu, .int .i64 need.mem, .int .i64 need.gpu, .int .i64 need.lic])] w fun e w' => e = .returned (.bool true) ∧ Below w.heap.size w w' := by
  have HA := Lib.hid HA0
  have HT := Lib.hid (fun w' h => sTake a cap l (by omega) f t need w' h)
  obtain ⟨E, hE, hE0⟩ : ∃ E : Int, turnE false l f t need = E ∧ (E == 0) = false := by
    by_cases hA : ArgsOk l f t need
    · exact ⟨20, (turn_over hA (fun g => h ⟨hA, g⟩)).2, rfl⟩
    · exact ⟨2, (turn_arg hA).2, rfl⟩
  have hR : turnR false l f t need = [] := if_neg h
  rw [hR, hE] at HT
  have hE1 : (E != 0) = true := by simp [bne, hE0]
  clear HA0 h hE hR
  go_enter Try.func5, Try.ntmps5
  go_wp2_with fail
  generalize hw0 : World.alloc (World.alloc w _) _ = w0
  have hb0 : Below w.heap.size w w0 := by rw [← hw0]; exact (by repeat' (first | exact Below.refl _ _ | assumption | exact And.left (by assumption) | refine Below.drew ?_ | refine below_drewN ?_ _ | refine Below.setCell ?_ (by first | (simp; done) | (simp; omega) | omega) _ | refine Below.alloc ?_ (by first | (simp; done) | (simp; omega) | omega) _ | refine after (by assumption) (by first | (simp; done) | (simp; omega) | omega) ?_))
  have c0 : w0.cell? ⟨w.heap.size, 0, none⟩ = some (.int .i64 f) := by rw [← hw0]; simp [go_sem]
  have c1 : w0.cell? ⟨w.heap.size, 1, none⟩ = some (.int .i64 t) := by rw [← hw0]; simp [go_sem]
  have c2 : w0.cell? ⟨w.heap.size, 2, none⟩ = some (.int .i64 u) := by rw [← hw0]; simp [go_sem]
  have HN0 : Hid (Res4 w0 (w.heap.size + 1) need) := Lib.hid (by rw [← hw0]; exact ⟨by simp [go_sem], by simp [go_sem], by simp [go_sem], by simp [go_sem], by simp [go_sem], by simp [go_sem], by simp [go_sem], by simp [go_sem]⟩)
  clear hw0
  refine (awakeSt w0).mono ?_; rintro e w1 ⟨rfl, hb1⟩
  have hW1 := hb0.trans (hb1.mono hb0.size)
  replace c0 := carry hb1 c0
  replace c1 := carry hb1 c1
  replace c2 := carry hb1 c2
  have HN1 := Lib.hid (HN0.out.later hb1)
  go_wp2_with fail
  go_quiet (fail)
  have hb2 : Below w1.heap.size w1 (w1.drewN nq) := below_drewN (Below.refl _ _) _
  have hsz2 : (w1.drewN nq).heap.size = w1.heap.size := rfl
  generalize w1.drewN nq = w2 at hb2 hsz2 ⊢
  have hW2 := hW1.trans (hb2.mono hW1.size)
  have HN2 := Lib.hid (HN1.out.later hb2)
  obtain ⟨n0, n1, n2, n3, z0, z1, z2, z3⟩ := HN2.out
  have HA2 := Lib.hid (HA.out.later hW2)
  clear z0 z1 z2 z3 c0 c1 c2
  go_wp2_with fail
  refine (HT.out w2 HA2.out).mono ?_
  rintro e w3 ⟨v3, rfl, hO3, hb3⟩
  obtain ⟨a3, c3, rfl, hs3⟩ := own_st (l := []) hO3
  have h0 : ([] : List St).length = 0 := rfl
  go_wp2
  go_ret
  exact ⟨rfl, hW2.trans (hb3.mono hW2.size)⟩
set_option maxHeartbeats 8000000 in
set_option maxRecDepth 100000 in
theorem back_ok10 (a : Option Addr) (cap : Nat) (l : List St) (hl : l.length ≤ 40) (f t u : Int) (need : V) (w : World) (HA0 : StAt w a cap l) (hA : ArgsOk l f t need) (hF : Fine false l f t need) :
    Calls Try.prog 5 #[.slice a l.length cap, .agg #[.int .i64 f, .int .i64 t, .int .i64 u], (.agg #[.int .i64 need.cpu, .int .i64 need.mem, .int .i64 need.gpu, .int .i64 need.lic])] w fun e w' => e = .returned (.bool true) ∧ Below w.heap.size w w' := by
  have HA := Lib.hid HA0
  have HT := Lib.hid (fun w' h => sTake a cap l (by omega) f t need w' h)
  rw [(turn_in hA hF).2] at HT
  have hlen := turnR_len false l f t need
  obtain ⟨b0, b1, b2⟩ := back_fine hA hF
  have HG := Lib.hid (fun a' c' w' h => sGive a' c' (turnR false l f t need) (by omega) f t need w' h)
  rw [(turn_in b0 b1).2, b2] at HG
  have HPL := Lib.hid (fun w' h => sPlain a cap l (by omega) w' h)
  rw [plainR_ok hA.1] at HPL
  have hpl := plainL_len l
  have HS := Lib.hid (fun a1 a2 c1 c2 w' h1 h2 => rSame a1 a2 c1 c2 (plainL l) (plainL l) (by omega) (by omega) w' h1 h2)
  rw [decide_eq_true (rfl : plainL l = plainL l)] at HS
  have HRT := Lib.hid (fun a' c' w' h => sRight a' c' (turnR false l f t need) (by omega) w' h)
  rw [show rightS (turnR false l f t need) = true from decide_eq_true b0.1] at HRT
  have HL1 := Lib.hid (fun a' c' w' h => sLeast a' c' (turnR false l f t need) (by omega) f t w' h)
  have HL2 := Lib.hid (fun w' h => sLeast a cap l (by omega) f t w' h)
  have hadd := least_back hA hF
  have HAD := Lib.hid (fun w' => radd (leastS (turnR false l f t need) f t) need w' (by rw [hadd]; exact (leastS_ok hA.1 f t).in64))
  rw [hadd] at HAD
  obtain ⟨ba1, ba2⟩ := back_at hA hF u
  have HP1 := Lib.hid (fun a' c' w' h => sAt a' c' (turnR false l f t need) (by omega) u w' h)
  have HP2 := Lib.hid (fun w' h => sAt a cap l (by omega) u w' h)
  have hqok : (atR l u).Ok := by rw [show atR l u = atL l u from if_pos hA.1]; exact at_ok hA.1 u
  have HADP := Lib.hid (show f ≤ u ∧ u < t → ∀ w', Calls Try.prog 23 #[(.agg #[.int .i64 (atR (turnR false l f t need) u).cpu, .int .i64 (atR (turnR false l f t need) u).mem, .int .i64 (atR (turnR false l f t need) u).gpu, .int .i64 (atR (turnR false l f t need) u).lic]), (.agg #[.int .i64 need.cpu, .int .i64 need.mem, .int .i64 need.gpu, .int .i64 need.lic])] w' fun e w'' => e = .returned (.agg #[.int .i64 (atR l u).cpu, .int .i64 (atR l u).mem, .int .i64 (atR l u).gpu, .int .i64 (atR l u).lic]) ∧ Below w'.heap.size w' w'' from fun x w' => by
    have h := radd (atR (turnR false l f t need) u) need w' (by rw [ba1 x.1 x.2]; exact hqok.in64)
    rw [ba1 x.1 x.2] at h
    exact h)
  have HEQ := Lib.hid ba2
  clear HA0 b0 b1 b2 hadd ba1 ba2 hqok hA hF
  generalize leastS (turnR false l f t need) f t = x at *
  generalize leastS l f t = y at *
  generalize atR (turnR false l f t need) u = p at *
  generalize atR l u = q at *
  generalize turnR false l f t need = A at *
  generalize plainL l = PL at *
  go_enter Try.func5, Try.ntmps5
  go_wp2_with fail
  generalize hw0 : World.alloc (World.alloc w _) _ = w0
  have hb0 : Below w.heap.size w w0 := by rw [← hw0]; exact (by repeat' (first | exact Below.refl _ _ | assumption | exact And.left (by assumption) | refine Below.drew ?_ | refine below_drewN ?_ _ | refine Below.setCell ?_ (by first | (simp; done) | (simp; omega) | omega) _ | refine Below.alloc ?_ (by first | (simp; done) | (simp; omega) | omega) _ | refine after (by assumption) (by first | (simp; done) | (simp; omega) | omega) ?_))
  have c0 : w0.cell? ⟨w.heap.size, 0, none⟩ = some (.int .i64 f) := by rw [← hw0]; simp [go_sem]
  have c1 : w0.cell? ⟨w.heap.size, 1, none⟩ = some (.int .i64 t) := by rw [← hw0]; simp [go_sem]
  have c2 : w0.cell? ⟨w.heap.size, 2, none⟩ = some (.int .i64 u) := by rw [← hw0]; simp [go_sem]
  have HN0 : Hid (Res4 w0 (w.heap.size + 1) need) := Lib.hid (by rw [← hw0]; exact ⟨by simp [go_sem], by simp [go_sem], by simp [go_sem], by simp [go_sem], by simp [go_sem], by simp [go_sem], by simp [go_sem], by simp [go_sem]⟩)
  clear hw0
  refine (awakeSt w0).mono ?_; rintro e w1 ⟨rfl, hb1⟩
  have hW1 := hb0.trans (hb1.mono hb0.size)
  replace c0 := carry hb1 c0
  replace c1 := carry hb1 c1
  replace c2 := carry hb1 c2
  have HN1 := Lib.hid (HN0.out.later hb1)
  go_wp2_with fail
  go_quiet (fail)
  have hb2 : Below w1.heap.size w1 (w1.drewN nq) := below_drewN (Below.refl _ _) _
  have hsz2 : (w1.drewN nq).heap.size = w1.heap.size := rfl
  generalize w1.drewN nq = w2 at hb2 hsz2 ⊢
  have hW2 := hW1.trans (hb2.mono hW1.size)
  have HN2 := Lib.hid (HN1.out.later hb2)
  obtain ⟨n0, n1, n2, n3, z0, z1, z2, z3⟩ := HN2.out
  have HA2 := Lib.hid (HA.out.later hW2)
  clear z0 z1 z2 z3 c0 c1 c2
  go_wp2_with fail
  refine (HT.out w2 HA2.out).mono ?_
  rintro e w3 ⟨v3, rfl, hO3, hb3⟩
  obtain ⟨a3, c3, rfl, hs3⟩ := own_st (l := A) hO3
  have HA3 := Lib.hid hs3
  have hW3 := hW2.trans (hb3.mono hW2.size)
  replace n0 := carry hb3 n0
  replace n1 := carry hb3 n1
  replace n2 := carry hb3 n2
  replace n3 := carry hb3 n3
  clear hO3 hs3
  replace HL1 := Lib.hid (fun w' h => HL1.out a3 c3 w' h)
  replace HP1 := Lib.hid (fun w' h => HP1.out a3 c3 w' h)
  go_wp2_with fail
  refine (HG.out a3 c3 w3 HA3.out).mono ?_
  rintro e w4 ⟨v4, rfl, hO4, hb4⟩
  obtain ⟨a4, c4, rfl, hs4⟩ := own_st (l := PL) hO4
  have HA4 := Lib.hid hs4
  have hW4 := hW3.trans (hb4.mono hW3.size)
  clear hO4 hs4
  go_wp2_with fail
  refine (HPL.out w4 (HA.out.later hW4)).mono ?_
  rintro e w5 ⟨v5, rfl, hO5, hb5⟩
  obtain ⟨a5, c5, rfl, hs5⟩ := own_st (l := PL) hO5
  have HA5 := Lib.hid hs5
  have hW5 := hW4.trans (hb5.mono hW4.size)
  clear hO5 hs5
  go_wp2_with fail
  refine (HS.out a4 a5 c4 c5 w5 (HA4.out.later hb5) HA5.out).mono ?_
  rintro e w6 ⟨rfl, hb6⟩
  have hW6 := hW5.trans (hb6.mono hW5.size)
  go_wp2_with fail
  have hW36 : Below w3.heap.size w3 w6 := (hb4.trans (hb5.mono hb4.size)).trans (hb6.mono (Nat.le_trans hb4.size hb5.size))
  refine (HRT.out a3 c3 w6 (HA3.out.later hW36)).mono ?_
  rintro e w7 ⟨rfl, hb7⟩
  have hW7 := hW6.trans (hb7.mono hW6.size)
  have hW37 := hW36.trans (hb7.mono hW36.size)
  replace n0 := carry hW37 n0
  replace n1 := carry hW37 n1
  replace n2 := carry hW37 n2
  replace n3 := carry hW37 n3
  clear HT HG HPL HS HRT HA4 HA5
  go_wp2_with fail
  refine region_mono_tail 7 (bk12 a3 A.length c3 f t x need y w7.heap.size) [61, 62, 63, 64, 65, 66, 14] (by kernel_rfl) (by kernel_rfl) (by kernel_rfl) (by kernel_rfl) (by kernel_rfl) (stables_cons (Sp.c_stable _ _) (stables_cons (Sp.c_stable _ _) (stables_cons (Sp.c_stable _ _) (stables_cons (Sp.c_stable _ _) (stables_cons (Sp.c_stable _ _) (stables_cons (Sp.c_stable _ _) (stables_cons (Sp.m_stable _ _ _ (fun _ _ _ ⟨g, e, hg, hr⟩ hb => ⟨g, e, hg, hr.later hb⟩)) (trivial)))))))) ?_ ?_
  · intro am wm L hbm hbase hbase2
    have s10 : am.tmps.getD 10 undef = .slice a3 A.length c3 := (hbase 10 rfl).trans (by simp only [Array.getD_eq_getD_getElem?, List.getElem?_toArray, List.getElem?_cons_succ, List.getElem?_cons_zero, Option.getD_some])
    have s7 : am.tmps.getD 7 undef = .int .i64 f := (hbase 7 rfl).trans (by simp only [Array.getD_eq_getD_getElem?, List.getElem?_toArray, List.getElem?_cons_succ, List.getElem?_cons_zero, Option.getD_some])
    have s8 : am.tmps.getD 8 undef = .int .i64 t := (hbase 8 rfl).trans (by simp only [Array.getD_eq_getD_getElem?, List.getElem?_toArray, List.getElem?_cons_succ, List.getElem?_cons_zero, Option.getD_some])
    have s5 : am.tmps.getD 5 undef = .pointer (some ⟨w.heap.size + 1, 0, none⟩) := (hbase 5 rfl).trans (by simp only [Array.getD_eq_getD_getElem?, List.getElem?_toArray, List.getElem?_cons_succ, List.getElem?_cons_zero, Option.getD_some])
    clear hbase hbase2
    have m0 := carry hbm n0
    have m1 := carry hbm n1
    have m2 := carry hbm n2
    have m3 := carry hbm n3
    refine steps_cons (fun hn hl => ?_) fun H0 => ?_
    · skip
      clear hn hl 
      refine stepC (wanted_free rfl) fun K hK => ?_
      go_simp
      exact hK _ (Below.refl _ _)
    refine steps_cons (fun hn hl => ?_) fun H1 => ?_
    · skip
      clear hn hl H0
      refine stepC (wanted_free rfl) fun K hK => ?_
      go_simp
      exact hK _ (Below.refl _ _)
    refine steps_cons (fun hn hl => ?_) fun H2 => ?_
    · skip
      clear hn hl H0 H1
      refine stepC (wanted_free rfl) fun K hK => ?_
      go_simp
      exact hK _ (Below.refl _ _)
    refine steps_cons (fun hn hl => ?_) fun H3 => ?_
    · skip
      have h61 := Sp.of_c (H0 (hn 0 (show 0 ∈ [0, 1, 2] from .head _)))
      have h62 := Sp.of_c (H1 (hn 1 (show 1 ∈ [0, 1, 2] from .tail _ (.head _))))
      have h63 := Sp.of_c (H2 (hn 2 (show 2 ∈ [0, 1, 2] from .tail _ (.tail _ (.head _)))))
      clear hn hl H0 H1 H2
      refine stepC (wanted_free rfl) fun K hK => ?_
      go_simp
      first
        | ((with_reducible refine (HL1.out _ (HA3.out.later (hW37.trans (hbm.mono hW37.size)))).mono ?_); rintro e w6 ⟨rfl, hb6⟩; exact hK _ hb6)
        | ((with_reducible refine (HAD.out _).mono ?_); rintro e w6 ⟨rfl, hb6⟩; exact hK _ hb6)
    refine steps_cons (fun hn hl => ?_) fun H4 => ?_
    · skip
      clear hn hl H0 H1 H2 H3
      refine stepC (wanted_free rfl) fun K hK => ?_
      go_simp
      exact hK _ (Below.refl _ _)
    refine steps_cons (fun hn hl => ?_) fun H5 => ?_
    · skip
      have h64 := Sp.of_c (H3 (hn 3 (show 3 ∈ [3, 4] from .head _)))
      have h65 := Sp.of_c (H4 (hn 4 (show 4 ∈ [3, 4] from .tail _ (.head _))))
      clear hn hl H0 H1 H2 H3 H4
      refine stepC (wanted_free rfl) fun K hK => ?_
      go_simp
      first
        | ((with_reducible refine (HL1.out _ (HA3.out.later (hW37.trans (hbm.mono hW37.size)))).mono ?_); rintro e w6 ⟨rfl, hb6⟩; exact hK _ hb6)
        | ((with_reducible refine (HAD.out _).mono ?_); rintro e w6 ⟨rfl, hb6⟩; exact hK _ hb6)
    refine steps_cons (fun hn hl => ?_) fun H6 => ?_
    · skip
      clear hn hl H0 H1 H2 H3 H4 H5
      refine stepR (wanted_free rfl) fun K hK => ?_
      go_simp
      exact hK _ _ ((Below.refl _ _).alloc (Nat.le_refl _) _) ⟨_, rfl, hbm.size, Res4.fresh _ V.zero _⟩
    exact trivial
  · intro w8 hb8
    have hz8 := hb8.size
    refine end_cons ?_; rintro _ rfl
    refine end_cons ?_; rintro _ rfl
    refine end_cons ?_; rintro _ rfl
    refine end_cons ?_; rintro _ rfl
    refine end_cons ?_; rintro _ rfl
    refine end_cons ?_; rintro _ rfl
    refine end_cons ?_; rintro _ ⟨g, rfl, hgB, hrow⟩
    refine end_nil ?_
    simp only [List.setIfInBounds_toArray, List.set_cons_succ, List.set_cons_zero, Bool.not_false, Bool.not_true, Bool.true_or, Bool.or_true, Bool.false_or, Bool.or_false]
    simp only [List.drop_succ_cons, List.drop_zero]
    obtain ⟨r0, r1, r2, r3, f0, f1, f2, f3⟩ := hrow
    have HRW := Lib.hid (show Res4 w8 g V.zero from ⟨r0, r1, r2, r3, f0, f1, f2, f3⟩)
    have hW8 := hW7.trans (hb8.mono hW7.size)
    have hgW : w.heap.size ≤ g := Nat.le_trans hW7.size hgB
    go_wp2
    generalize hw9 : World.setCell (World.setCell (World.setCell (World.setCell w8 _ _) _ _) _ _) _ _ = w9
    have hR9 : Res4 w9 g y := by rw [← hw9]; exact HRW.out.stored y
    have hb9 : Below w7.heap.size w7 w9 := by rw [← hw9]; exact (((hb8.setCell (p := ⟨g, 0, none⟩) hgB _).setCell (p := ⟨g, 1, none⟩) hgB _).setCell (p := ⟨g, 2, none⟩) hgB _).setCell (p := ⟨g, 3, none⟩) hgB _
    have hW9 := hW7.trans (hb9.mono hW7.size)
    have hW39 := hW37.trans (hb9.mono hW37.size)
    replace n0 := carry hb9 n0
    replace n1 := carry hb9 n1
    replace n2 := carry hb9 n2
    replace n3 := carry hb9 n3
    clear hw9 r0 r1 r2 r3 f0 f1 f2 f3 HRW hb8
    obtain ⟨r0, r1, r2, r3, f0, f1, f2, f3⟩ := hR9
    refine region_mono (bk13 a l.length cap f t y) [67, 68, 69, 70, 71, 72] (by kernel_rfl) (by kernel_rfl) (by kernel_rfl) (by kernel_rfl) (stables_cons (Sp.c_stable _ _) (stables_cons (Sp.c_stable _ _) (stables_cons (Sp.c_stable _ _) (stables_cons (Sp.c_stable _ _) (stables_cons (Sp.c_stable _ _) (stables_cons (Sp.c_stable _ _) (trivial))))))) ?_ ?_
    · intro am wm L hbm hbase hbase2
      have s0 : am.tmps.getD 0 undef = .slice a l.length cap := (hbase 0 rfl).trans (by simp only [Array.getD_eq_getD_getElem?, List.getElem?_toArray, List.getElem?_cons_succ, List.getElem?_cons_zero, Option.getD_some])
      have s7 : am.tmps.getD 7 undef = .int .i64 f := (hbase 7 rfl).trans (by simp only [Array.getD_eq_getD_getElem?, List.getElem?_toArray, List.getElem?_cons_succ, List.getElem?_cons_zero, Option.getD_some])
      have s8 : am.tmps.getD 8 undef = .int .i64 t := (hbase 8 rfl).trans (by simp only [Array.getD_eq_getD_getElem?, List.getElem?_toArray, List.getElem?_cons_succ, List.getElem?_cons_zero, Option.getD_some])
      have s14 : am.tmps.getD 14 undef = .pointer (some ⟨g, 0, none⟩) := (hbase 14 rfl).trans (by simp only [Array.getD_eq_getD_getElem?, List.getElem?_toArray, List.getElem?_cons_succ, List.getElem?_cons_zero, Option.getD_some])
      clear hbase hbase2
      have m0 := carry hbm r0
      have m1 := carry hbm r1
      have m2 := carry hbm r2
      have m3 := carry hbm r3
      refine steps_cons (fun hn hl => ?_) fun H0 => ?_
      · skip
        clear hn hl 
        refine stepC (wanted_free rfl) fun K hK => ?_
        go_simp
        exact hK _ (Below.refl _ _)
      refine steps_cons (fun hn hl => ?_) fun H1 => ?_
      · skip
        clear hn hl H0
        refine stepC (wanted_free rfl) fun K hK => ?_
        go_simp
        exact hK _ (Below.refl _ _)
      refine steps_cons (fun hn hl => ?_) fun H2 => ?_
      · skip
        clear hn hl H0 H1
        refine stepC (wanted_free rfl) fun K hK => ?_
        go_simp
        exact hK _ (Below.refl _ _)
      refine steps_cons (fun hn hl => ?_) fun H3 => ?_
      · skip
        clear hn hl H0 H1 H2
        refine stepC (wanted_free rfl) fun K hK => ?_
        go_simp
        exact hK _ (Below.refl _ _)
      refine steps_cons (fun hn hl => ?_) fun H4 => ?_
      · skip
        have h68 := Sp.of_c (H1 (hn 1 (show 1 ∈ [1, 2, 3] from .head _)))
        have h69 := Sp.of_c (H2 (hn 2 (show 2 ∈ [1, 2, 3] from .tail _ (.head _))))
        have h70 := Sp.of_c (H3 (hn 3 (show 3 ∈ [1, 2, 3] from .tail _ (.tail _ (.head _)))))
        clear hn hl H0 H1 H2 H3
        refine stepC (wanted_free rfl) fun K hK => ?_
        go_simp
        first
          | ((with_reducible refine (HL2.out _ (HA.out.later (hW9.trans (hbm.mono hW9.size)))).mono ?_); rintro e w6 ⟨rfl, hb6⟩; exact hK _ hb6)
      refine steps_cons (fun hn hl => ?_) fun H5 => ?_
      · skip
        have h67 := Sp.of_c (H0 (hn 0 (show 0 ∈ [0, 4] from .head _)))
        have h71 := Sp.of_c (H4 (hn 4 (show 4 ∈ [0, 4] from .tail _ (.head _))))
        clear hn hl H0 H1 H2 H3 H4
        refine stepC (wanted_free rfl) fun K hK => ?_
        go_simp
        exact hK _ (Below.refl _ _)
      exact trivial
    · intro w10 hb10
      have hz10 := hb10.size
      refine end_cons ?_; rintro _ rfl
      refine end_cons ?_; rintro _ rfl
      refine end_cons ?_; rintro _ rfl
      refine end_cons ?_; rintro _ rfl
      refine end_cons ?_; rintro _ rfl
      refine end_cons ?_; rintro _ rfl
      refine end_nil ?_
      simp only [List.setIfInBounds_toArray, List.set_cons_succ, List.set_cons_zero, Bool.not_false, Bool.not_true, Bool.true_or, Bool.or_true, Bool.false_or, Bool.or_false]
      have hW10 := hW9.trans (hb10.mono hW9.size)
      have hW310 := hW39.trans (hb10.mono hW39.size)
      replace n0 := carry hb10 n0
      replace n1 := carry hb10 n1
      replace n2 := carry hb10 n2
      replace n3 := carry hb10 n3
      clear r0 r1 r2 r3 f0 f1 f2 f3 HL1 HL2 HAD
      by_cases hu0 : f ≤ u
      · by_cases hu1 : u < t
        · have HADP := Lib.hid (HADP.out ⟨hu0, hu1⟩)
          clear HEQ
          go_wp2_with fail
          refine region_mono (bk16 a3 A.length c3 a l.length cap u p need q) [81, 82, 83, 84, 85, 86, 87, 88, 89, 6] (by kernel_rfl) (by kernel_rfl) (by kernel_rfl) (by kernel_rfl) (stables_cons (Sp.c_stable _ _) (stables_cons (Sp.c_stable _ _) (stables_cons (Sp.c_stable _ _) (stables_cons (Sp.c_stable _ _) (stables_cons (Sp.c_stable _ _) (stables_cons (Sp.c_stable _ _) (stables_cons (Sp.c_stable _ _) (stables_cons (Sp.c_stable _ _) (stables_cons (Sp.c_stable _ _) (stables_cons (Sp.c_stable _ _) (trivial))))))))))) ?_ ?_
          · intro am wm L hbm hbase hbase2
            have s0 : am.tmps.getD 0 undef = .slice a l.length cap := (hbase 0 rfl).trans (by simp only [Array.getD_eq_getD_getElem?, List.getElem?_toArray, List.getElem?_cons_succ, List.getElem?_cons_zero, Option.getD_some])
            have s5 : am.tmps.getD 5 undef = .pointer (some ⟨w.heap.size + 1, 0, none⟩) := (hbase 5 rfl).trans (by simp only [Array.getD_eq_getD_getElem?, List.getElem?_toArray, List.getElem?_cons_succ, List.getElem?_cons_zero, Option.getD_some])
            have s9 : am.tmps.getD 9 undef = .int .i64 u := (hbase 9 rfl).trans (by simp only [Array.getD_eq_getD_getElem?, List.getElem?_toArray, List.getElem?_cons_succ, List.getElem?_cons_zero, Option.getD_some])
            have s10 : am.tmps.getD 10 undef = .slice a3 A.length c3 := (hbase 10 rfl).trans (by simp only [Array.getD_eq_getD_getElem?, List.getElem?_toArray, List.getElem?_cons_succ, List.getElem?_cons_zero, Option.getD_some])
            clear hbase hbase2
            have m0 := carry hbm n0
            have m1 := carry hbm n1
            have m2 := carry hbm n2
            have m3 := carry hbm n3
            refine steps_cons (fun hn hl => ?_) fun H0 => ?_
            · skip
              clear hn hl 
              refine stepC (wanted_free rfl) fun K hK => ?_
              go_simp
              exact hK _ (Below.refl _ _)
            refine steps_cons (fun hn hl => ?_) fun H1 => ?_
            · skip
              clear hn hl H0
              refine stepC (wanted_free rfl) fun K hK => ?_
              go_simp
              exact hK _ (Below.refl _ _)
            refine steps_cons (fun hn hl => ?_) fun H2 => ?_
            · skip
              have h81 := Sp.of_c (H0 (hn 0 (show 0 ∈ [0, 1] from .head _)))
              have h82 := Sp.of_c (H1 (hn 1 (show 1 ∈ [0, 1] from .tail _ (.head _))))
              clear hn hl H0 H1
              refine stepC (wanted_free rfl) fun K hK => ?_
              go_simp
              first
                | ((with_reducible refine (HP1.out _ (HA3.out.later (hW310.trans (hbm.mono hW310.size)))).mono ?_); rintro e w6 ⟨rfl, hb6⟩; exact hK _ hb6)
                | ((with_reducible refine (HADP.out _).mono ?_); rintro e w6 ⟨rfl, hb6⟩; exact hK _ hb6)
                | ((with_reducible refine (HP2.out _ (HA.out.later (hW10.trans (hbm.mono hW10.size)))).mono ?_); rintro e w6 ⟨rfl, hb6⟩; exact hK _ hb6)
            refine steps_cons (fun hn hl => ?_) fun H3 => ?_
            · skip
              clear hn hl H0 H1 H2
              refine stepC (wanted_free rfl) fun K hK => ?_
              go_simp
              exact hK _ (Below.refl _ _)
            refine steps_cons (fun hn hl => ?_) fun H4 => ?_
            · skip
              have h83 := Sp.of_c (H2 (hn 2 (show 2 ∈ [2, 3] from .head _)))
              have h84 := Sp.of_c (H3 (hn 3 (show 3 ∈ [2, 3] from .tail _ (.head _))))
              clear hn hl H0 H1 H2 H3
              refine stepC (wanted_free rfl) fun K hK => ?_
              go_simp
              first
                | ((with_reducible refine (HP1.out _ (HA3.out.later (hW310.trans (hbm.mono hW310.size)))).mono ?_); rintro e w6 ⟨rfl, hb6⟩; exact hK _ hb6)
                | ((with_reducible refine (HADP.out _).mono ?_); rintro e w6 ⟨rfl, hb6⟩; exact hK _ hb6)
                | ((with_reducible refine (HP2.out _ (HA.out.later (hW10.trans (hbm.mono hW10.size)))).mono ?_); rintro e w6 ⟨rfl, hb6⟩; exact hK _ hb6)
            refine steps_cons (fun hn hl => ?_) fun H5 => ?_
            · skip
              clear hn hl H0 H1 H2 H3 H4
              refine stepC (wanted_free rfl) fun K hK => ?_
              go_simp
              exact hK _ (Below.refl _ _)
            refine steps_cons (fun hn hl => ?_) fun H6 => ?_
            · skip
              clear hn hl H0 H1 H2 H3 H4 H5
              refine stepC (wanted_free rfl) fun K hK => ?_
              go_simp
              exact hK _ (Below.refl _ _)
            refine steps_cons (fun hn hl => ?_) fun H7 => ?_
            · skip
              have h86 := Sp.of_c (H5 (hn 5 (show 5 ∈ [5, 6] from .head _)))
              have h87 := Sp.of_c (H6 (hn 6 (show 6 ∈ [5, 6] from .tail _ (.head _))))
              clear hn hl H0 H1 H2 H3 H4 H5 H6
              refine stepC (wanted_free rfl) fun K hK => ?_
              go_simp
              first
                | ((with_reducible refine (HP1.out _ (HA3.out.later (hW310.trans (hbm.mono hW310.size)))).mono ?_); rintro e w6 ⟨rfl, hb6⟩; exact hK _ hb6)
                | ((with_reducible refine (HADP.out _).mono ?_); rintro e w6 ⟨rfl, hb6⟩; exact hK _ hb6)
                | ((with_reducible refine (HP2.out _ (HA.out.later (hW10.trans (hbm.mono hW10.size)))).mono ?_); rintro e w6 ⟨rfl, hb6⟩; exact hK _ hb6)
            refine steps_cons (fun hn hl => ?_) fun H8 => ?_
            · skip
              have h85 := Sp.of_c (H4 (hn 4 (show 4 ∈ [4, 7] from .head _)))
              have h88 := Sp.of_c (H7 (hn 7 (show 7 ∈ [4, 7] from .tail _ (.head _))))
              clear hn hl H0 H1 H2 H3 H4 H5 H6 H7
              refine stepC (wanted_free rfl) fun K hK => ?_
              go_simp
              exact hK _ (Below.refl _ _)
            refine steps_cons (fun hn hl => ?_) fun H9 => ?_
            · skip
              have h89 := Sp.of_c (H8 (hn 8 (show 8 ∈ [8] from .head _)))
              clear hn hl H0 H1 H2 H3 H4 H5 H6 H7 H8
              refine stepC (wanted_free rfl) fun K hK => ?_
              go_simp
              exact hK _ (Below.refl _ _)
            exact trivial
          · intro w11 hb11
            have hz11 := hb11.size
            refine end_cons ?_; rintro _ rfl
            refine end_cons ?_; rintro _ rfl
            refine end_cons ?_; rintro _ rfl
            refine end_cons ?_; rintro _ rfl
            refine end_cons ?_; rintro _ rfl
            refine end_cons ?_; rintro _ rfl
            refine end_cons ?_; rintro _ rfl
            refine end_cons ?_; rintro _ rfl
            refine end_cons ?_; rintro _ rfl
            refine end_cons ?_; rintro _ rfl
            refine end_nil ?_
            simp only [List.setIfInBounds_toArray, List.set_cons_succ, List.set_cons_zero, Bool.not_false, Bool.not_true, Bool.true_or, Bool.or_true, Bool.false_or, Bool.or_false]
            go_wp2
            go_ret
            exact ⟨rfl, hW10.trans (hb11.mono hW10.size)⟩
        · have HQ : Hid (p = q) := Lib.hid (HEQ.out (fun x => hu1 x.2))
          obtain rfl := HQ.out
          clear HEQ HADP HQ
          go_wp2_with fail
          refine (HP1.out _ (HA3.out.later hW310)).mono ?_
          rintro e w11 ⟨rfl, hb11⟩
          have hW11 := hW10.trans (hb11.mono hW10.size)
          go_wp2_with fail
          refine (HP2.out _ (HA.out.later hW11)).mono ?_
          rintro e w12 ⟨rfl, hb12⟩
          go_wp2
          go_ret
          exact ⟨rfl, hW11.trans (hb12.mono hW11.size)⟩
      · have HQ : Hid (p = q) := Lib.hid (HEQ.out (fun x => hu0 x.1))
        obtain rfl := HQ.out
        clear HEQ HADP HQ
        go_wp2_with fail
        refine (HP1.out _ (HA3.out.later hW310)).mono ?_
        rintro e w11 ⟨rfl, hb11⟩
        have hW11 := hW10.trans (hb11.mono hW10.size)
        go_wp2_with fail
        refine (HP2.out _ (HA.out.later hW11)).mono ?_
        rintro e w12 ⟨rfl, hb12⟩
        go_wp2
        go_ret
        exact ⟨rfl, hW11.trans (hb12.mono hW11.size)⟩
theorem stepsBack_walk (v0 v1 v2 : Value) (w : World) (F0 : FSteps w v0) (F1 : FAgg 3 (FInt .i64) v1) (F2 : FRes v2) :
    Calls Try.prog 5 #[v0, v1, v2] w fun e w' => e = .returned (.bool true) ∧ Below w.heap.size w w' := by
  obtain ⟨a, cap, l, rfl, hA⟩ := F0
  obtain ⟨x0, x1, x2, rfl, ⟨f, rfl, _⟩, ⟨t, rfl, _⟩, u, rfl, _⟩ := F1.three
  obtain ⟨need, rfl, _⟩ := F2
  by_cases hl : l.length ≤ 40
  · by_cases h : ArgsOk l f t need ∧ Fine false l f t need
    · exact back_ok10 a cap l hl f t u need w hA h.1 h.2
    · exact back_none a cap l hl f t u need w hA h
  · exact back_long a cap l (by omega) f t u need w
end Go.Proofs.Ytcnpppkndcgmpaa.W
