/-
  The walk of PlaceFits.
-/
import Derived.Test.YtncedpjgmoncpaaPlWant
namespace Go.Proofs.Ytncedpjgmoncpaa.W
set_option linter.unusedVariables false
set_option linter.unusedSimpArgs false
open Go.ChangeShapes Go.WideShapes Go.ChangeAt Go.RowKit

def pf7 (a : Option Addr) (fn cap : Nat) (b : Option Addr) (pn cb g : Nat) (many : Int) (need : V) (rm : Int) (a5 : Option Addr) (c5 : Nat) : List Sp :=
  [Sp.c (.slice a5 0 c5) [],
   Sp.c (.int .i64 0) [0],
   Sp.c (.bool true) [1],
   Sp.c (.bool true) [2],
   Sp.c (.pointer (some ⟨g, 1, none⟩)) [3],
   Sp.c (.int .i64 many) [4, 3],
   Sp.c (.bool false) [5, 3],
   Sp.c (.bool false) [6, 3],
   Sp.c (.slice a fn cap) [7],
   Sp.c (.pointer (some ⟨g, 0, none⟩)) [7],
   Sp.c (.slice b pn cb) [9, 7],
   Sp.c (.pointer (some ⟨g, 2, none⟩)) [7],
   Sp.c ((.agg #[.int .i64 need.cpu, .int .i64 need.mem, .int .i64 need.gpu, .int .i64 need.lic])) [11, 7],
   Sp.c (.int .i64 rm) [8, 10, 12, 7],
   Sp.c (.pointer (some ⟨g, 1, none⟩)) [7],
   Sp.c (.int .i64 many) [14, 7],
   Sp.c (.bool true) [13, 15, 7],
   Sp.c (.bool true) [7, 16, 3],
   Sp.c (.bool true) [3, 17],
   Sp.c (.bool true) [18]]
def pf8 (a : Option Addr) (fn cap g : Nat) (many : Int) (a5 : Option Addr) (an c5 : Nat) : List Sp :=
  [Sp.c (.slice a5 an c5) [],
   Sp.c (.slice a fn cap) [],
   Sp.c (.int .i64 (fn : Int)) [1],
   Sp.c (.bool true) [0, 2],
   Sp.c (.bool (!true)) [3],
   Sp.c (.bool (!true)) [4],
   Sp.c (.slice a5 an c5) [5],
   Sp.c (.int .i64 many) [6, 5],
   Sp.c (.pointer (some ⟨g, 1, none⟩)) [5],
   Sp.c (.int .i64 many) [8, 5],
   Sp.c (.bool false) [7, 9, 5],
   Sp.c (.bool false) [5, 10]]
def pf19 (fb fo fn cap g sb kk : Nat) (need f : V) (s : Sh) : List Sp :=
  [Sp.c (.bool true) [],
   Sp.c (.bool (!true)) [0],
   Sp.c (.bool (!true)) [1],
   Sp.c (.pointer (some ⟨g, 2, none⟩)) [2],
   Sp.c ((.agg #[.int .i64 need.cpu, .int .i64 need.mem, .int .i64 need.gpu, .int .i64 need.lic])) [3, 2],
   Sp.c (.pointer (some ⟨sb, 1, none⟩)) [2],
   Sp.c (.int .i64 s.many) [5, 2],
   Sp.c ((.agg #[.int .i64 (need.by s.many).cpu, .int .i64 (need.by s.many).mem, .int .i64 (need.by s.many).gpu, .int .i64 (need.by s.many).lic])) [4, 6, 2],
   Sp.c (.slice (some ⟨fb, fo, none⟩) fn cap) [2],
   Sp.c (.pointer (some ⟨sb, 0, none⟩)) [2],
   Sp.c (.int .i64 (kk : Int)) [9, 2],
   Sp.c (.pointer (some ⟨fb, fo + kk * 4, none⟩)) [8, 10, 2],
   Sp.c ((.agg #[.int .i64 f.cpu, .int .i64 f.mem, .int .i64 f.gpu, .int .i64 f.lic])) [11, 2],
   Sp.c (.bool true) [7, 12, 2],
   Sp.c (.bool false) [13, 2],
   Sp.c (.bool false) [2, 14]]
set_option maxHeartbeats 2000000 in
theorem fits_few (a : Option Addr) (cap : Nat) (fs : List V) (b : Option Addr) (cb : Nat) (part : List Int) (many : Int) (hm : many ≤ 9223372036854775807) (need : V) (w : World) (HA : VcAt w a cap fs) (HB : NmAt w b cb part) (h : ¬ (fs.length ≤ 30 ∧ part.length ≤ 30)) :
    Calls Try.prog 4 #[.slice a fs.length cap, .agg #[.slice b part.length cb, .int .i64 many, .int .i64 need.cpu, .int .i64 need.mem, .int .i64 need.gpu, .int .i64 need.lic]] w fun e w' => e = .returned (.bool true) ∧ Below w.heap.size w w' := by
  have HR := Lib.hid HA
  have HP := Lib.hid HB
  have HQ1 := Lib.hid (fun w' => rFew a b cap cb fs part many need w')
  rw [show fewB fs part = false from decide_eq_false h] at HQ1
  clear HA HB h
  go_enter Try.func4, Try.ntmps4
  go_wp2_with fail
  generalize hw0 : World.alloc w _ = w0
  have hb0 : Below w.heap.size w w0 := by rw [← hw0]; exact (by repeat' (first | exact Below.refl _ _ | assumption | exact And.left (by assumption) | refine Below.drew ?_ | refine below_drewN ?_ _ | refine Below.setCell ?_ (by first | (simp; done) | (simp; omega) | omega) _ | refine Below.alloc ?_ (by first | (simp; done) | (simp; omega) | omega) _ | refine after (by assumption) (by first | (simp; done) | (simp; omega) | omega) ?_))
  have HC0 : Hid (Want6 w0 w.heap.size b part.length cb many need) := Lib.hid (by rw [← hw0]; exact ⟨by simp [go_sem], by simp [go_sem], by simp [go_sem], by simp [go_sem], by simp [go_sem], by simp [go_sem]⟩)
  clear hw0
  refine (awakePl w0).mono ?_; rintro e w1 ⟨rfl, hb1⟩
  have k1 := hb0.trans (hb1.mono hb0.size)
  have HC1 := Lib.hid (HC0.out.later hb1)
  clear HC0
  obtain ⟨c0, c1, c2, c3, c4, c5⟩ := HC1.out
  go_wp2_with fail
  refine (HQ1.out w1).mono ?_; rintro e w2 ⟨rfl, hb2⟩
  have k2 := k1.trans (hb2.mono k1.size)
  have HC2 := Lib.hid (HC1.out.later hb2)
  clear c0 c1 c2 c3 c4 c5 HC1
  go_wp2
  go_ret
  exact ⟨rfl, k2⟩
set_option maxHeartbeats 2000000 in
theorem fits_rise (a : Option Addr) (cap : Nat) (fs : List V) (b : Option Addr) (cb : Nat) (part : List Int) (many : Int) (hm : many ≤ 9223372036854775807) (need : V) (w : World) (HA : VcAt w a cap fs) (HB : NmAt w b cb part) (h : fs.length ≤ 30 ∧ part.length ≤ 30) (h2 : ¬ RiseN fs.length (-1) part) :
    Calls Try.prog 4 #[.slice a fs.length cap, .agg #[.slice b part.length cb, .int .i64 many, .int .i64 need.cpu, .int .i64 need.mem, .int .i64 need.gpu, .int .i64 need.lic]] w fun e w' => e = .returned (.bool true) ∧ Below w.heap.size w w' := by
  have HR := Lib.hid HA
  have HP := Lib.hid HB
  have HQ1 := Lib.hid (fun w' => rFew a b cap cb fs part many need w')
  rw [show fewB fs part = true from decide_eq_true h] at HQ1
  have HQ2 := Lib.hid (fun w' hw => rNmRising b cb part (by omega) fs.length w' hw)
  rw [show risingB part fs.length = false from decide_eq_false h2] at HQ2
  clear HA HB h h2
  go_enter Try.func4, Try.ntmps4
  go_wp2_with fail
  generalize hw0 : World.alloc w _ = w0
  have hb0 : Below w.heap.size w w0 := by rw [← hw0]; exact (by repeat' (first | exact Below.refl _ _ | assumption | exact And.left (by assumption) | refine Below.drew ?_ | refine below_drewN ?_ _ | refine Below.setCell ?_ (by first | (simp; done) | (simp; omega) | omega) _ | refine Below.alloc ?_ (by first | (simp; done) | (simp; omega) | omega) _ | refine after (by assumption) (by first | (simp; done) | (simp; omega) | omega) ?_))
  have HC0 : Hid (Want6 w0 w.heap.size b part.length cb many need) := Lib.hid (by rw [← hw0]; exact ⟨by simp [go_sem], by simp [go_sem], by simp [go_sem], by simp [go_sem], by simp [go_sem], by simp [go_sem]⟩)
  clear hw0
  refine (awakePl w0).mono ?_; rintro e w1 ⟨rfl, hb1⟩
  have k1 := hb0.trans (hb1.mono hb0.size)
  have HC1 := Lib.hid (HC0.out.later hb1)
  clear HC0
  obtain ⟨c0, c1, c2, c3, c4, c5⟩ := HC1.out
  go_wp2_with fail
  refine (HQ1.out w1).mono ?_; rintro e w2 ⟨rfl, hb2⟩
  have k2 := k1.trans (hb2.mono k1.size)
  have HC2 := Lib.hid (HC1.out.later hb2)
  clear c0 c1 c2 c3 c4 c5 HC1
  obtain ⟨c0, c1, c2, c3, c4, c5⟩ := HC2.out
  go_wp2_with fail
  refine (HQ2.out w2 (HP.out.later k2)).mono ?_; rintro e w3 ⟨rfl, hb3⟩
  have k3 := k2.trans (hb3.mono k2.size)
  have HC3 := Lib.hid (HC2.out.later hb3)
  clear c0 c1 c2 c3 c4 c5 HC2
  go_wp2
  go_ret
  exact ⟨rfl, k3⟩
set_option maxHeartbeats 2000000 in
theorem fits_right (a : Option Addr) (cap : Nat) (fs : List V) (b : Option Addr) (cb : Nat) (part : List Int) (many : Int) (hm : many ≤ 9223372036854775807) (need : V) (w : World) (HA : VcAt w a cap fs) (HB : NmAt w b cb part) (h : fs.length ≤ 30 ∧ part.length ≤ 30) (h2 : RiseN fs.length (-1) part) (h3 : ¬ need.Ok) :
    Calls Try.prog 4 #[.slice a fs.length cap, .agg #[.slice b part.length cb, .int .i64 many, .int .i64 need.cpu, .int .i64 need.mem, .int .i64 need.gpu, .int .i64 need.lic]] w fun e w' => e = .returned (.bool true) ∧ Below w.heap.size w w' := by
  have HR := Lib.hid HA
  have HP := Lib.hid HB
  have HQ1 := Lib.hid (fun w' => rFew a b cap cb fs part many need w')
  rw [show fewB fs part = true from decide_eq_true h] at HQ1
  have HQ2 := Lib.hid (fun w' hw => rNmRising b cb part (by omega) fs.length w' hw)
  rw [show risingB part fs.length = true from decide_eq_true h2] at HQ2
  have HQ3 := Lib.hid (fun w' => rright need w')
  rw [right_no h3] at HQ3
  clear HA HB h h2 h3
  go_enter Try.func4, Try.ntmps4
  go_wp2_with fail
  generalize hw0 : World.alloc w _ = w0
  have hb0 : Below w.heap.size w w0 := by rw [← hw0]; exact (by repeat' (first | exact Below.refl _ _ | assumption | exact And.left (by assumption) | refine Below.drew ?_ | refine below_drewN ?_ _ | refine Below.setCell ?_ (by first | (simp; done) | (simp; omega) | omega) _ | refine Below.alloc ?_ (by first | (simp; done) | (simp; omega) | omega) _ | refine after (by assumption) (by first | (simp; done) | (simp; omega) | omega) ?_))
  have HC0 : Hid (Want6 w0 w.heap.size b part.length cb many need) := Lib.hid (by rw [← hw0]; exact ⟨by simp [go_sem], by simp [go_sem], by simp [go_sem], by simp [go_sem], by simp [go_sem], by simp [go_sem]⟩)
  clear hw0
  refine (awakePl w0).mono ?_; rintro e w1 ⟨rfl, hb1⟩
  have k1 := hb0.trans (hb1.mono hb0.size)
  have HC1 := Lib.hid (HC0.out.later hb1)
  clear HC0
  obtain ⟨c0, c1, c2, c3, c4, c5⟩ := HC1.out
  go_wp2_with fail
  refine (HQ1.out w1).mono ?_; rintro e w2 ⟨rfl, hb2⟩
  have k2 := k1.trans (hb2.mono k1.size)
  have HC2 := Lib.hid (HC1.out.later hb2)
  clear c0 c1 c2 c3 c4 c5 HC1
  obtain ⟨c0, c1, c2, c3, c4, c5⟩ := HC2.out
  go_wp2_with fail
  refine (HQ2.out w2 (HP.out.later k2)).mono ?_; rintro e w3 ⟨rfl, hb3⟩
  have k3 := k2.trans (hb3.mono k2.size)
  have HC3 := Lib.hid (HC2.out.later hb3)
  clear c0 c1 c2 c3 c4 c5 HC2
  obtain ⟨c0, c1, c2, c3, c4, c5⟩ := HC3.out
  go_wp2_with fail
  refine (HQ3.out w3).mono ?_; rintro e w4 ⟨rfl, hb4⟩
  have k4 := k3.trans (hb4.mono k3.size)
  have HC4 := Lib.hid (HC3.out.later hb4)
  clear c0 c1 c2 c3 c4 c5 HC3
  go_wp2
  go_ret
  exact ⟨rfl, k4⟩
set_option maxHeartbeats 4000000 in
set_option maxRecDepth 100000 in
theorem fits_none (a : Option Addr) (cap : Nat) (fs : List V) (b : Option Addr) (cb : Nat) (part : List Int) (many : Int) (hm : many ≤ 9223372036854775807) (need : V) (w : World) (HA : VcAt w a cap fs) (HB : NmAt w b cb part) (h : fs.length ≤ 30 ∧ part.length ≤ 30) (h2 : RiseN fs.length (-1) part) (h3 : need.Ok) (h4 : ¬ (¬ many < 1 ∧ ¬ 0 < plLeft fs need many part)) :
    Calls Try.prog 4 #[.slice a fs.length cap, .agg #[.slice b part.length cb, .int .i64 many, .int .i64 need.cpu, .int .i64 need.mem, .int .i64 need.gpu, .int .i64 need.lic]] w fun e w' => e = .returned (.bool true) ∧ Below w.heap.size w w' := by
  have HR := Lib.hid HA
  have HP := Lib.hid HB
  have HQ1 := Lib.hid (fun w' => rFew a b cap cb fs part many need w')
  rw [show fewB fs part = true from decide_eq_true h] at HQ1
  have HQ2 := Lib.hid (fun w' hw => rNmRising b cb part (by omega) fs.length w' hw)
  rw [show risingB part fs.length = true from decide_eq_true h2] at HQ2
  have HQ3 := Lib.hid (fun w' => rright need w')
  rw [right_yes h3] at HQ3
  have HPL := Lib.hid (fun w' x y => pPlace a cap fs (by omega) b cb part (by omega) many hm need w' x y)
  rw [show placeB fs part many need = false from decide_eq_false h4, show placeS fs part many need = [] from if_neg h4] at HPL
  have HRM := Lib.hid (fun w' x y => pRoom a cap fs (by omega) b cb part (by omega) need w' x y)
  have HLT : Hid (¬ many < 1 → roomS fs need part < many) := Lib.hid (fun x => by
    have := place_room (fs := fs) (part := part) (need := need) x
    rw [show placeB fs part many need = false from decide_eq_false h4] at this
    have := of_decide_eq_false this.symm
    omega)
  generalize roomS fs need part = rm at *
  clear HA HB h h2 h3 h4
  go_enter Try.func4, Try.ntmps4
  go_wp2_with fail
  generalize hw0 : World.alloc w _ = w0
  have hb0 : Below w.heap.size w w0 := by rw [← hw0]; exact (by repeat' (first | exact Below.refl _ _ | assumption | exact And.left (by assumption) | refine Below.drew ?_ | refine below_drewN ?_ _ | refine Below.setCell ?_ (by first | (simp; done) | (simp; omega) | omega) _ | refine Below.alloc ?_ (by first | (simp; done) | (simp; omega) | omega) _ | refine after (by assumption) (by first | (simp; done) | (simp; omega) | omega) ?_))
  have HC0 : Hid (Want6 w0 w.heap.size b part.length cb many need) := Lib.hid (by rw [← hw0]; exact ⟨by simp [go_sem], by simp [go_sem], by simp [go_sem], by simp [go_sem], by simp [go_sem], by simp [go_sem]⟩)
  clear hw0
  refine (awakePl w0).mono ?_; rintro e w1 ⟨rfl, hb1⟩
  have k1 := hb0.trans (hb1.mono hb0.size)
  have HC1 := Lib.hid (HC0.out.later hb1)
  clear HC0
  obtain ⟨c0, c1, c2, c3, c4, c5⟩ := HC1.out
  go_wp2_with fail
  refine (HQ1.out w1).mono ?_; rintro e w2 ⟨rfl, hb2⟩
  have k2 := k1.trans (hb2.mono k1.size)
  have HC2 := Lib.hid (HC1.out.later hb2)
  clear c0 c1 c2 c3 c4 c5 HC1
  obtain ⟨c0, c1, c2, c3, c4, c5⟩ := HC2.out
  go_wp2_with fail
  refine (HQ2.out w2 (HP.out.later k2)).mono ?_; rintro e w3 ⟨rfl, hb3⟩
  have k3 := k2.trans (hb3.mono k2.size)
  have HC3 := Lib.hid (HC2.out.later hb3)
  clear c0 c1 c2 c3 c4 c5 HC2
  obtain ⟨c0, c1, c2, c3, c4, c5⟩ := HC3.out
  go_wp2_with fail
  refine (HQ3.out w3).mono ?_; rintro e w4 ⟨rfl, hb4⟩
  have k4 := k3.trans (hb4.mono k3.size)
  have HC4 := Lib.hid (HC3.out.later hb4)
  clear c0 c1 c2 c3 c4 c5 HC3
  obtain ⟨c0, c1, c2, c3, c4, c5⟩ := HC4.out
  go_wp2_with fail
  refine (HPL.out w4 (HR.out.later k4) (HP.out.later k4)).mono ?_
  rintro e w5 ⟨v5, rfl, hO5, hb5⟩
  have k5 := k4.trans (hb5.mono k4.size)
  have HCC := Lib.hid (HC4.out.later hb5)
  clear c0 c1 c2 c3 c4 c5 HC4
  obtain ⟨a5, c5, rfl, hs5⟩ := own_sh (l := []) hO5
  clear hO5 hs5
  have h00 : ([] : List Sh).length = 0 := rfl
  obtain ⟨c0, c1, c2, c3, c4, e5⟩ := HCC.out
  by_cases hq : many < 1
  · have hq1 : decide (many < 1) = true := decide_eq_true hq
    go_wp2_with fail
    go_quiet (fail)
    go_wp2
    go_ret
    exact ⟨rfl, below_drewN k5 _⟩
  · have hq1 : decide (many < 1) = false := decide_eq_false hq
    have hq2 : decide (rm < many) = true := decide_eq_true (HLT.out (by omega))
    clear c0 c1 c2 c3 c4 e5
    go_wp2_with fail
    refine region_mono (pf7 a fs.length cap b part.length cb w.heap.size many need rm a5 c5) [45, 46, 47, 48, 49, 50, 51, 52, 53, 54, 55, 56, 57, 58, 59, 60, 61, 62, 63, 4] (by kernel_rfl) (by kernel_rfl) (by kernel_rfl) (by kernel_rfl) (stables_cons (Sp.c_stable _ _) (stables_cons (Sp.c_stable _ _) (stables_cons (Sp.c_stable _ _) (stables_cons (Sp.c_stable _ _) (stables_cons (Sp.c_stable _ _) (stables_cons (Sp.c_stable _ _) (stables_cons (Sp.c_stable _ _) (stables_cons (Sp.c_stable _ _) (stables_cons (Sp.c_stable _ _) (stables_cons (Sp.c_stable _ _) (stables_cons (Sp.c_stable _ _) (stables_cons (Sp.c_stable _ _) (stables_cons (Sp.c_stable _ _) (stables_cons (Sp.c_stable _ _) (stables_cons (Sp.c_stable _ _) (stables_cons (Sp.c_stable _ _) (stables_cons (Sp.c_stable _ _) (stables_cons (Sp.c_stable _ _) (stables_cons (Sp.c_stable _ _) (stables_cons (Sp.c_stable _ _) (trivial))))))))))))))))))))) ?_ ?_
    · intro am wm L hbm hbase hbase2
      have s0 : am.tmps.getD 0 undef = .slice a fs.length cap := (hbase 0 rfl).trans (by simp only [Array.getD_eq_getD_getElem?, List.getElem?_toArray, List.getElem?_cons_succ, List.getElem?_cons_zero, Option.getD_some])
      have s3 : am.tmps.getD 3 undef = .pointer (some ⟨w.heap.size, 0, none⟩) := (hbase 3 rfl).trans (by simp only [Array.getD_eq_getD_getElem?, List.getElem?_toArray, List.getElem?_cons_succ, List.getElem?_cons_zero, Option.getD_some])
      have s5 : am.tmps.getD 5 undef = .slice a5 0 c5 := (hbase 5 rfl).trans (by simp only [Array.getD_eq_getD_getElem?, List.getElem?_toArray, List.getElem?_cons_succ, List.getElem?_cons_zero, Option.getD_some])
      clear hbase hbase2
      have HCm := HCC.out.later hbm
      obtain ⟨m0, m1, m2, m3, m4, m5⟩ := HCm
      refine steps_cons (fun hn hl => ?_) fun H0 => ?_
      · skip
        clear hn hl 
        refine stepC (wanted_free rfl) fun K hK => ?_
        go_simp
        exact hK _ (Below.refl _ _)
      refine steps_cons (fun hn hl => ?_) fun H1 => ?_
      · skip
        have h45 := Sp.of_c (H0 (hn 0 (show 0 ∈ [0] from .head _)))
        clear hn hl H0
        refine stepC (wanted_free rfl) fun K hK => ?_
        go_simp
        exact hK _ (Below.refl _ _)
      refine steps_cons (fun hn hl => ?_) fun H2 => ?_
      · skip
        have h46 := Sp.of_c (H1 (hn 1 (show 1 ∈ [1] from .head _)))
        clear hn hl H0 H1
        refine stepC (wanted_free rfl) fun K hK => ?_
        go_simp
        exact hK _ (Below.refl _ _)
      refine steps_cons (fun hn hl => ?_) fun H3 => ?_
      · skip
        have h47 := Sp.of_c (H2 (hn 2 (show 2 ∈ [2] from .head _)))
        clear hn hl H0 H1 H2
        refine stepC (wanted_free rfl) fun K hK => ?_
        go_simp
        exact hK _ (Below.refl _ _)
      refine steps_cons (fun hn hl => ?_) fun H4 => ?_
      · skip
        have h48 := Sp.of_c (H3 (hn 3 (show 3 ∈ [3] from .head _)))
        clear hn hl H0 H1 H2 H3
        refine stepC (wanted_guard rfl rfl h48 rfl) fun K hK => ?_
        go_simp
        exact hK _ (Below.refl _ _)
      refine steps_cons (fun hn hl => ?_) fun H5 => ?_
      · skip
        have h49 := Sp.of_c (H4 (hn 4 (show 4 ∈ [4, 3] from .head _)))
        have h48 := Sp.of_c (H3 (hn 3 (show 3 ∈ [4, 3] from .tail _ (.head _))))
        clear hn hl H0 H1 H2 H3 H4
        refine stepC (wanted_guard rfl rfl h48 rfl) fun K hK => ?_
        go_simp
        exact hK _ (Below.refl _ _)
      refine steps_cons (fun hn hl => ?_) fun H6 => ?_
      · skip
        have h50 := Sp.of_c (H5 (hn 5 (show 5 ∈ [5, 3] from .head _)))
        have h48 := Sp.of_c (H3 (hn 3 (show 3 ∈ [5, 3] from .tail _ (.head _))))
        clear hn hl H0 H1 H2 H3 H4 H5
        refine stepC (wanted_guard rfl rfl h48 rfl) fun K hK => ?_
        go_simp
        exact hK _ (Below.refl _ _)
      refine steps_cons (fun hn hl => ?_) fun H7 => ?_
      · skip
        have h51 := Sp.of_c (H6 (hn 6 (show 6 ∈ [6, 3] from .head _)))
        have h48 := Sp.of_c (H3 (hn 3 (show 3 ∈ [6, 3] from .tail _ (.head _))))
        clear hn hl H0 H1 H2 H3 H4 H5 H6
        refine stepC (wanted_guard rfl rfl h48 rfl) fun K hK => ?_
        go_simp
        exact hK _ (Below.refl _ _)
      refine steps_cons (fun hn hl => ?_) fun H8 => ?_
      · skip
        have h52 := Sp.of_c (H7 (hn 7 (show 7 ∈ [7] from .head _)))
        clear hn hl H0 H1 H2 H3 H4 H5 H6 H7
        refine stepC (wanted_guard rfl rfl h52 rfl) fun K hK => ?_
        go_simp
        exact hK _ (Below.refl _ _)
      refine steps_cons (fun hn hl => ?_) fun H9 => ?_
      · skip
        have h52 := Sp.of_c (H7 (hn 7 (show 7 ∈ [7] from .head _)))
        clear hn hl H0 H1 H2 H3 H4 H5 H6 H7 H8
        refine stepC (wanted_guard rfl rfl h52 rfl) fun K hK => ?_
        go_simp
        exact hK _ (Below.refl _ _)
      refine steps_cons (fun hn hl => ?_) fun H10 => ?_
      · skip
        have h54 := Sp.of_c (H9 (hn 9 (show 9 ∈ [9, 7] from .head _)))
        have h52 := Sp.of_c (H7 (hn 7 (show 7 ∈ [9, 7] from .tail _ (.head _))))
        clear hn hl H0 H1 H2 H3 H4 H5 H6 H7 H8 H9
        refine stepC (wanted_guard rfl rfl h52 rfl) fun K hK => ?_
        go_simp
        exact hK _ (Below.refl _ _)
      refine steps_cons (fun hn hl => ?_) fun H11 => ?_
      · skip
        have h52 := Sp.of_c (H7 (hn 7 (show 7 ∈ [7] from .head _)))
        clear hn hl H0 H1 H2 H3 H4 H5 H6 H7 H8 H9 H10
        refine stepC (wanted_guard rfl rfl h52 rfl) fun K hK => ?_
        go_simp
        exact hK _ (Below.refl _ _)
      refine steps_cons (fun hn hl => ?_) fun H12 => ?_
      · skip
        have h56 := Sp.of_c (H11 (hn 11 (show 11 ∈ [11, 7] from .head _)))
        have h52 := Sp.of_c (H7 (hn 7 (show 7 ∈ [11, 7] from .tail _ (.head _))))
        clear hn hl H0 H1 H2 H3 H4 H5 H6 H7 H8 H9 H10 H11
        refine stepC (wanted_guard rfl rfl h52 rfl) fun K hK => ?_
        go_simp
        exact hK _ (Below.refl _ _)
      refine steps_cons (fun hn hl => ?_) fun H13 => ?_
      · skip
        have h53 := Sp.of_c (H8 (hn 8 (show 8 ∈ [8, 10, 12, 7] from .head _)))
        have h55 := Sp.of_c (H10 (hn 10 (show 10 ∈ [8, 10, 12, 7] from .tail _ (.head _))))
        have h57 := Sp.of_c (H12 (hn 12 (show 12 ∈ [8, 10, 12, 7] from .tail _ (.tail _ (.head _)))))
        have h52 := Sp.of_c (H7 (hn 7 (show 7 ∈ [8, 10, 12, 7] from .tail _ (.tail _ (.tail _ (.head _))))))
        clear hn hl H0 H1 H2 H3 H4 H5 H6 H7 H8 H9 H10 H11 H12
        refine stepC (wanted_guard rfl rfl h52 rfl) fun K hK => ?_
        go_simp
        first
          | ((with_reducible refine (HRM.out _ (HR.out.later (k5.trans (hbm.mono k5.size))) (HP.out.later (k5.trans (hbm.mono k5.size)))).mono ?_); rintro e w6 ⟨rfl, hb6⟩; exact hK _ hb6)
      refine steps_cons (fun hn hl => ?_) fun H14 => ?_
      · skip
        have h52 := Sp.of_c (H7 (hn 7 (show 7 ∈ [7] from .head _)))
        clear hn hl H0 H1 H2 H3 H4 H5 H6 H7 H8 H9 H10 H11 H12 H13
        refine stepC (wanted_guard rfl rfl h52 rfl) fun K hK => ?_
        go_simp
        exact hK _ (Below.refl _ _)
      refine steps_cons (fun hn hl => ?_) fun H15 => ?_
      · skip
        have h59 := Sp.of_c (H14 (hn 14 (show 14 ∈ [14, 7] from .head _)))
        have h52 := Sp.of_c (H7 (hn 7 (show 7 ∈ [14, 7] from .tail _ (.head _))))
        clear hn hl H0 H1 H2 H3 H4 H5 H6 H7 H8 H9 H10 H11 H12 H13 H14
        refine stepC (wanted_guard rfl rfl h52 rfl) fun K hK => ?_
        go_simp
        exact hK _ (Below.refl _ _)
      refine steps_cons (fun hn hl => ?_) fun H16 => ?_
      · skip
        have h58 := Sp.of_c (H13 (hn 13 (show 13 ∈ [13, 15, 7] from .head _)))
        have h60 := Sp.of_c (H15 (hn 15 (show 15 ∈ [13, 15, 7] from .tail _ (.head _))))
        have h52 := Sp.of_c (H7 (hn 7 (show 7 ∈ [13, 15, 7] from .tail _ (.tail _ (.head _)))))
        clear hn hl H0 H1 H2 H3 H4 H5 H6 H7 H8 H9 H10 H11 H12 H13 H14 H15
        refine stepC (wanted_guard rfl rfl h52 rfl) fun K hK => ?_
        go_simp
        exact hK _ (Below.refl _ _)
      refine steps_cons (fun hn hl => ?_) fun H17 => ?_
      · skip
        have h52 := Sp.of_c (H7 (hn 7 (show 7 ∈ [7, 16, 3] from .head _)))
        have h61 := Sp.of_c (H16 (hn 16 (show 16 ∈ [7, 16, 3] from .tail _ (.head _))))
        have h48 := Sp.of_c (H3 (hn 3 (show 3 ∈ [7, 16, 3] from .tail _ (.tail _ (.head _)))))
        clear hn hl H0 H1 H2 H3 H4 H5 H6 H7 H8 H9 H10 H11 H12 H13 H14 H15 H16
        refine stepC (wanted_guard rfl rfl h48 rfl) fun K hK => ?_
        go_simp
        exact hK _ (Below.refl _ _)
      refine steps_cons (fun hn hl => ?_) fun H18 => ?_
      · skip
        have h48 := Sp.of_c (H3 (hn 3 (show 3 ∈ [3, 17] from .head _)))
        have h62 := Sp.of_c (H17 (hn 17 (show 17 ∈ [3, 17] from .tail _ (.head _))))
        clear hn hl H0 H1 H2 H3 H4 H5 H6 H7 H8 H9 H10 H11 H12 H13 H14 H15 H16 H17
        refine stepC (wanted_free rfl) fun K hK => ?_
        go_simp
        exact hK _ (Below.refl _ _)
      refine steps_cons (fun hn hl => ?_) fun H19 => ?_
      · skip
        have h63 := Sp.of_c (H18 (hn 18 (show 18 ∈ [18] from .head _)))
        clear hn hl H0 H1 H2 H3 H4 H5 H6 H7 H8 H9 H10 H11 H12 H13 H14 H15 H16 H17 H18
        refine stepC (wanted_free rfl) fun K hK => ?_
        go_simp
        exact hK _ (Below.refl _ _)
      exact trivial
    · intro w8 hb8
      have hz8 := hb8.size
      refine end_cons ?_; rintro _ rfl
      refine end_cons ?_; rintro _ rfl
      refine end_cons ?_; rintro _ rfl
      refine end_cons ?_; rintro _ rfl
      refine end_cons ?_; rintro _ rfl
      refine end_cons ?_; rintro _ rfl
      refine end_cons ?_; rintro _ rfl
      refine end_cons ?_; rintro _ rfl
      refine end_cons ?_; rintro _ rfl
      refine end_cons ?_; rintro _ rfl
      refine end_cons ?_; rintro _ rfl
      refine end_cons ?_; rintro _ rfl
      refine end_cons ?_; rintro _ rfl
      refine end_cons ?_; rintro _ rfl
      refine end_cons ?_; rintro _ rfl
      refine end_cons ?_; rintro _ rfl
      refine end_cons ?_; rintro _ rfl
      refine end_cons ?_; rintro _ rfl
      refine end_cons ?_; rintro _ rfl
      refine end_cons ?_; rintro _ rfl
      refine end_nil ?_
      simp only [List.setIfInBounds_toArray, List.set_cons_succ, List.set_cons_zero, Bool.not_false, Bool.not_true, Bool.true_or, Bool.or_true, Bool.false_or, Bool.or_false]
      go_wp2
      go_ret
      exact ⟨rfl, k5.trans (hb8.mono k5.size)⟩
set_option maxHeartbeats 8000000 in
set_option maxRecDepth 100000 in
theorem fits_ok (a : Option Addr) (cap : Nat) (fs : List V) (b : Option Addr) (cb : Nat) (part : List Int) (many : Int) (hm : many ≤ 9223372036854775807) (need : V) (w : World) (HA : VcAt w a cap fs) (HB : NmAt w b cb part) (h : fs.length ≤ 30 ∧ part.length ≤ 30) (h2 : RiseN fs.length (-1) part) (h3 : need.Ok) (h4 : ¬ many < 1 ∧ ¬ 0 < plLeft fs need many part) :
    Calls Try.prog 4 #[.slice a fs.length cap, .agg #[.slice b part.length cb, .int .i64 many, .int .i64 need.cpu, .int .i64 need.mem, .int .i64 need.gpu, .int .i64 need.lic]] w fun e w' => e = .returned (.bool true) ∧ Below w.heap.size w w' := by
  have HR := Lib.hid HA
  have HP := Lib.hid HB
  have HQ1 := Lib.hid (fun w' => rFew a b cap cb fs part many need w')
  rw [show fewB fs part = true from decide_eq_true h] at HQ1
  have HQ2 := Lib.hid (fun w' hw => rNmRising b cb part (by omega) fs.length w' hw)
  rw [show risingB part fs.length = true from decide_eq_true h2] at HQ2
  have HQ3 := Lib.hid (fun w' => rright need w')
  rw [right_yes h3] at HQ3
  have HPL := Lib.hid (fun w' x y => pPlace a cap fs (by omega) b cb part (by omega) many hm need w' x y)
  rw [show placeB fs part many need = true from decide_eq_true h4] at HPL
  obtain ⟨p1, p2, p3⟩ := place_in (need := need) h2 h4
  have hlen : (placeS fs part many need).length ≤ 30 := Nat.le_trans (placeS_len fs part many need) h.2
  have hpl := h.2
  have HM := Lib.hid p3
  have HOK := Lib.hid h3
  generalize placeS fs part many need = A at *
  have HRI := Lib.hid (fun a' c' w' hw => pRight a' c' A (by omega) fs.length w' hw)
  rw [p1] at HRI
  have HTO := Lib.hid (fun a' c' w' hw => pTotal a' c' A (by omega) w' hw)
  rw [p2] at HTO
  clear HA HB h h2 h3 h4 p1 p2 p3
  go_enter Try.func4, Try.ntmps4
  go_wp2_with fail
  generalize hw0 : World.alloc w _ = w0
  have hb0 : Below w.heap.size w w0 := by rw [← hw0]; exact (by repeat' (first | exact Below.refl _ _ | assumption | exact And.left (by assumption) | refine Below.drew ?_ | refine below_drewN ?_ _ | refine Below.setCell ?_ (by first | (simp; done) | (simp; omega) | omega) _ | refine Below.alloc ?_ (by first | (simp; done) | (simp; omega) | omega) _ | refine after (by assumption) (by first | (simp; done) | (simp; omega) | omega) ?_))
  have HC0 : Hid (Want6 w0 w.heap.size b part.length cb many need) := Lib.hid (by rw [← hw0]; exact ⟨by simp [go_sem], by simp [go_sem], by simp [go_sem], by simp [go_sem], by simp [go_sem], by simp [go_sem]⟩)
  clear hw0
  refine (awakePl w0).mono ?_; rintro e w1 ⟨rfl, hb1⟩
  have k1 := hb0.trans (hb1.mono hb0.size)
  have HC1 := Lib.hid (HC0.out.later hb1)
  clear HC0
  obtain ⟨c0, c1, c2, c3, c4, c5⟩ := HC1.out
  go_wp2_with fail
  refine (HQ1.out w1).mono ?_; rintro e w2 ⟨rfl, hb2⟩
  have k2 := k1.trans (hb2.mono k1.size)
  have HC2 := Lib.hid (HC1.out.later hb2)
  clear c0 c1 c2 c3 c4 c5 HC1
  obtain ⟨c0, c1, c2, c3, c4, c5⟩ := HC2.out
  go_wp2_with fail
  refine (HQ2.out w2 (HP.out.later k2)).mono ?_; rintro e w3 ⟨rfl, hb3⟩
  have k3 := k2.trans (hb3.mono k2.size)
  have HC3 := Lib.hid (HC2.out.later hb3)
  clear c0 c1 c2 c3 c4 c5 HC2
  obtain ⟨c0, c1, c2, c3, c4, c5⟩ := HC3.out
  go_wp2_with fail
  refine (HQ3.out w3).mono ?_; rintro e w4 ⟨rfl, hb4⟩
  have k4 := k3.trans (hb4.mono k3.size)
  have HC4 := Lib.hid (HC3.out.later hb4)
  clear c0 c1 c2 c3 c4 c5 HC3
  obtain ⟨c0, c1, c2, c3, c4, c5⟩ := HC4.out
  go_wp2_with fail
  refine (HPL.out w4 (HR.out.later k4) (HP.out.later k4)).mono ?_
  rintro e w5 ⟨v5, rfl, hO5, hb5⟩
  have k5 := k4.trans (hb5.mono k4.size)
  have HCC := Lib.hid (HC4.out.later hb5)
  clear c0 c1 c2 c3 c4 c5 HC4
  obtain ⟨a5, c5, rfl, hs5⟩ := own_sh (l := A) hO5
  have HS5 := Lib.hid hs5
  clear hO5 hs5
  replace HRI := Lib.hid (HRI.out a5 c5)
  replace HTO := Lib.hid (HTO.out a5 c5)
  go_wp2_with fail
  refine region_mono (pf8 a fs.length cap w.heap.size many a5 A.length c5) [64, 65, 66, 67, 68, 69, 70, 71, 72, 73, 74, 75] (by kernel_rfl) (by kernel_rfl) (by kernel_rfl) (by kernel_rfl) (stables_cons (Sp.c_stable _ _) (stables_cons (Sp.c_stable _ _) (stables_cons (Sp.c_stable _ _) (stables_cons (Sp.c_stable _ _) (stables_cons (Sp.c_stable _ _) (stables_cons (Sp.c_stable _ _) (stables_cons (Sp.c_stable _ _) (stables_cons (Sp.c_stable _ _) (stables_cons (Sp.c_stable _ _) (stables_cons (Sp.c_stable _ _) (stables_cons (Sp.c_stable _ _) (stables_cons (Sp.c_stable _ _) (trivial))))))))))))) ?_ ?_
  · intro am wm L hbm hbase hbase2
    have s0 : am.tmps.getD 0 undef = .slice a fs.length cap := (hbase 0 rfl).trans (by simp only [Array.getD_eq_getD_getElem?, List.getElem?_toArray, List.getElem?_cons_succ, List.getElem?_cons_zero, Option.getD_some])
    have s3 : am.tmps.getD 3 undef = .pointer (some ⟨w.heap.size, 0, none⟩) := (hbase 3 rfl).trans (by simp only [Array.getD_eq_getD_getElem?, List.getElem?_toArray, List.getElem?_cons_succ, List.getElem?_cons_zero, Option.getD_some])
    have s5 : am.tmps.getD 5 undef = .slice a5 A.length c5 := (hbase 5 rfl).trans (by simp only [Array.getD_eq_getD_getElem?, List.getElem?_toArray, List.getElem?_cons_succ, List.getElem?_cons_zero, Option.getD_some])
    clear hbase hbase2
    have HCm := HCC.out.later hbm
    obtain ⟨m0, m1, m2, m3, m4, m5⟩ := HCm
    refine steps_cons (fun hn hl => ?_) fun H0 => ?_
    · skip
      clear hn hl 
      refine stepC (wanted_free rfl) fun K hK => ?_
      go_simp
      exact hK _ (Below.refl _ _)
    refine steps_cons (fun hn hl => ?_) fun H1 => ?_
    · skip
      clear hn hl H0
      refine stepC (wanted_free rfl) fun K hK => ?_
      go_simp
      exact hK _ (Below.refl _ _)
    refine steps_cons (fun hn hl => ?_) fun H2 => ?_
    · skip
      have h65 := Sp.of_c (H1 (hn 1 (show 1 ∈ [1] from .head _)))
      clear hn hl H0 H1
      refine stepC (wanted_free rfl) fun K hK => ?_
      go_simp
      exact hK _ (Below.refl _ _)
    refine steps_cons (fun hn hl => ?_) fun H3 => ?_
    · skip
      have h64 := Sp.of_c (H0 (hn 0 (show 0 ∈ [0, 2] from .head _)))
      have h66 := Sp.of_c (H2 (hn 2 (show 2 ∈ [0, 2] from .tail _ (.head _))))
      clear hn hl H0 H1 H2
      refine stepC (wanted_free rfl) fun K hK => ?_
      go_simp
      first
        | ((with_reducible refine (HRI.out _ (HS5.out.later hbm)).mono ?_); rintro e w6 ⟨rfl, hb6⟩; exact hK _ hb6)
        | ((with_reducible refine (HTO.out _ (HS5.out.later hbm)).mono ?_); rintro e w6 ⟨rfl, hb6⟩; exact hK _ hb6)
    refine steps_cons (fun hn hl => ?_) fun H4 => ?_
    · skip
      have h67 := Sp.of_c (H3 (hn 3 (show 3 ∈ [3] from .head _)))
      clear hn hl H0 H1 H2 H3
      refine stepC (wanted_free rfl) fun K hK => ?_
      go_simp
      exact hK _ (Below.refl _ _)
    refine steps_cons (fun hn hl => ?_) fun H5 => ?_
    · skip
      have h68 := Sp.of_c (H4 (hn 4 (show 4 ∈ [4] from .head _)))
      clear hn hl H0 H1 H2 H3 H4
      refine stepC (wanted_free rfl) fun K hK => ?_
      go_simp
      exact hK _ (Below.refl _ _)
    refine steps_cons (fun hn hl => ?_) fun H6 => ?_
    · skip
      have h69 := Sp.of_c (H5 (hn 5 (show 5 ∈ [5] from .head _)))
      clear hn hl H0 H1 H2 H3 H4 H5
      refine stepC (wanted_guard rfl rfl h69 rfl) fun K hK => ?_
      go_simp
      exact hK _ (Below.refl _ _)
    refine steps_cons (fun hn hl => ?_) fun H7 => ?_
    · skip
      have h70 := Sp.of_c (H6 (hn 6 (show 6 ∈ [6, 5] from .head _)))
      have h69 := Sp.of_c (H5 (hn 5 (show 5 ∈ [6, 5] from .tail _ (.head _))))
      clear hn hl H0 H1 H2 H3 H4 H5 H6
      refine stepC (wanted_guard rfl rfl h69 rfl) fun K hK => ?_
      go_simp
      first
        | ((with_reducible refine (HRI.out _ (HS5.out.later hbm)).mono ?_); rintro e w6 ⟨rfl, hb6⟩; exact hK _ hb6)
        | ((with_reducible refine (HTO.out _ (HS5.out.later hbm)).mono ?_); rintro e w6 ⟨rfl, hb6⟩; exact hK _ hb6)
    refine steps_cons (fun hn hl => ?_) fun H8 => ?_
    · skip
      have h69 := Sp.of_c (H5 (hn 5 (show 5 ∈ [5] from .head _)))
      clear hn hl H0 H1 H2 H3 H4 H5 H6 H7
      refine stepC (wanted_guard rfl rfl h69 rfl) fun K hK => ?_
      go_simp
      exact hK _ (Below.refl _ _)
    refine steps_cons (fun hn hl => ?_) fun H9 => ?_
    · skip
      have h72 := Sp.of_c (H8 (hn 8 (show 8 ∈ [8, 5] from .head _)))
      have h69 := Sp.of_c (H5 (hn 5 (show 5 ∈ [8, 5] from .tail _ (.head _))))
      clear hn hl H0 H1 H2 H3 H4 H5 H6 H7 H8
      refine stepC (wanted_guard rfl rfl h69 rfl) fun K hK => ?_
      go_simp
      exact hK _ (Below.refl _ _)
    refine steps_cons (fun hn hl => ?_) fun H10 => ?_
    · skip
      have h71 := Sp.of_c (H7 (hn 7 (show 7 ∈ [7, 9, 5] from .head _)))
      have h73 := Sp.of_c (H9 (hn 9 (show 9 ∈ [7, 9, 5] from .tail _ (.head _))))
      have h69 := Sp.of_c (H5 (hn 5 (show 5 ∈ [7, 9, 5] from .tail _ (.tail _ (.head _)))))
      clear hn hl H0 H1 H2 H3 H4 H5 H6 H7 H8 H9
      refine stepC (wanted_guard rfl rfl h69 rfl) fun K hK => ?_
      go_simp
      exact hK _ (Below.refl _ _)
    refine steps_cons (fun hn hl => ?_) fun H11 => ?_
    · skip
      have h69 := Sp.of_c (H5 (hn 5 (show 5 ∈ [5, 10] from .head _)))
      have h74 := Sp.of_c (H10 (hn 10 (show 10 ∈ [5, 10] from .tail _ (.head _))))
      clear hn hl H0 H1 H2 H3 H4 H5 H6 H7 H8 H9 H10
      refine stepC (wanted_free rfl) fun K hK => ?_
      go_simp
      exact hK _ (Below.refl _ _)
    exact trivial
  · intro w8 hb8
    have hz8 := hb8.size
    refine end_cons ?_; rintro _ rfl
    refine end_cons ?_; rintro _ rfl
    refine end_cons ?_; rintro _ rfl
    refine end_cons ?_; rintro _ rfl
    refine end_cons ?_; rintro _ rfl
    refine end_cons ?_; rintro _ rfl
    refine end_cons ?_; rintro _ rfl
    refine end_cons ?_; rintro _ rfl
    refine end_cons ?_; rintro _ rfl
    refine end_cons ?_; rintro _ rfl
    refine end_cons ?_; rintro _ rfl
    refine end_cons ?_; rintro _ rfl
    refine end_nil ?_
    simp only [List.setIfInBounds_toArray, List.set_cons_succ, List.set_cons_zero, Bool.not_false, Bool.not_true, Bool.true_or, Bool.or_true, Bool.false_or, Bool.or_false]
    have k8 := k5.trans (hb8.mono k5.size)
    replace HCC := Lib.hid (HCC.out.later hb8)
    have HS8 := Lib.hid (HS5.out.later hb8)
    clear HRI HTO HS5 HPL HQ1 HQ2 HQ3
    go_wp2
    go_loopw [78] (fun x wr => ∃ k : Nat, k ≤ A.length ∧ x = .int .i64 k ∧ Below w8.heap.size w8 wr) (fun x _ => A.length - (intOf x).toNat)
    case atStart => exact ⟨0, Nat.zero_le _, rfl, Below.refl _ _⟩
    case round =>
      rename World => wr
      obtain ⟨k, hk, rfl, hb⟩ := hrel
      have hz := hb.size
      have kr := k8.trans (hb.mono k8.size)
      by_cases hlt : k < A.length
      · have hltI : (k : Int) < A.length := by omega
        obtain ⟨b5, o5, e5, hbl, q0, q1⟩ := (HS8.out.later hb).row.sh hlt
        have HMK := Lib.hid (HM.out A[k] (List.getElem_mem hlt))
        subst e5
        generalize A[k] = s at q0 q1 HMK
        obtain ⟨d0, d1, d2, d3, d4, d5⟩ := HCC.out.later hb
        have hgl : w.heap.size < wr.heap.size := World.block_lt_of_cell? _ _ d0
        clear d1 d2 d3 d4 d5
        go_wp2
        generalize hwx : World.alloc wr _ = wx
        have hbx : Below wr.heap.size wr wx := by rw [← hwx]; exact (by repeat' (first | exact Below.refl _ _ | assumption | exact And.left (by assumption) | refine Below.drew ?_ | refine below_drewN ?_ _ | refine Below.setCell ?_ (by first | (simp; done) | (simp; omega) | omega) _ | refine Below.alloc ?_ (by first | (simp; done) | (simp; omega) | omega) _ | refine after (by assumption) (by first | (simp; done) | (simp; omega) | omega) ?_))
        have y0 : wx.cell? ⟨wr.heap.size, 0, none⟩ = some (.int .i64 s.node) := by rw [← hwx]; simp [go_sem]
        have y1 : wx.cell? ⟨wr.heap.size, 1, none⟩ = some (.int .i64 s.many) := by rw [← hwx]; simp [go_sem]
        clear hwx
        have kx := kr.trans (hbx.mono kr.size)
        have k8x := hb.trans (hbx.mono hz)
        have hzx := hbx.size
        generalize hsb : wr.heap.size = sb at y0 y1 ⊢
        have HSB := Lib.hid hsb
        clear hsb d0 q0 q1
        go_loopw [9, 85] (fun v9 x wk => ∃ j : Nat, j ≤ part.length ∧ x = .int .i64 (j : Int) ∧ ∃ m : Bool, v9 = .bool m ∧ Hid (m = decide (s.node ∈ part.take j)) ∧ Below wx.heap.size wx wk) (fun _ x _ => part.length - (intOf x).toNat)
        case atStart => exact ⟨0, Nat.zero_le _, rfl, false, rfl, Lib.hid (by simp), Below.refl _ _⟩
        case round =>
          rename World => wk
          obtain ⟨j, hj, rfl, m, rfl, HI, hbk⟩ := hrel
          have hzk := hbk.size
          replace y0 := carry hbk y0
          replace y1 := carry hbk y1
          have kk9 := kx.trans (hbk.mono kx.size)
          by_cases hjl : j < part.length
          · have hjlI : (j : Int) < part.length := by omega
            obtain ⟨b6, o6, e6, hbl6, q6⟩ := (HP.out.later kk9).row.nm hjl
            have HNX : Hid (decide (s.node ∈ part.take (j + 1)) = (m || part[j] == s.node)) := Lib.hid (by
              rw [HI.out, take_app part j hjl, Bool.eq_iff_iff]
              simp only [decide_eq_true_eq, Bool.or_eq_true, beq_iff_eq, List.mem_append, List.mem_singleton]
              exact ⟨fun h => h.imp id Eq.symm, fun h => h.imp id Eq.symm⟩)
            subst e6
            generalize part[j] = n at q6 HNX
            cases m with
            | true =>
              go_wp2
              go_roundw
              case rel => exact ⟨j + 1, by omega, by go_num, true, rfl, Lib.hid (by rw [HNX.out]; simp), (by repeat' (first | exact Below.refl _ _ | assumption | exact And.left (by assumption) | refine Below.drew ?_ | refine below_drewN ?_ _ | refine Below.setCell ?_ (by first | (simp; done) | (simp; omega) | omega) _ | refine Below.alloc ?_ (by first | (simp; done) | (simp; omega) | omega) _ | refine after (by assumption) (by first | (simp; done) | (simp; omega) | omega) ?_))⟩
              case measure => simp [intOf]; omega
            | false =>
              generalize hnn : (n == s.node) = nn at HNX
              go_wp2
              go_roundw
              case rel => exact ⟨j + 1, by omega, by go_num, nn, by simp [hnn], Lib.hid (by rw [HNX.out]; simp), (by repeat' (first | exact Below.refl _ _ | assumption | exact And.left (by assumption) | refine Below.drew ?_ | refine below_drewN ?_ _ | refine Below.setCell ?_ (by first | (simp; done) | (simp; omega) | omega) _ | refine Below.alloc ?_ (by first | (simp; done) | (simp; omega) | omega) _ | refine after (by assumption) (by first | (simp; done) | (simp; omega) | omega) ?_))⟩
              case measure => simp [intOf]; omega
          · have hje : j = part.length := by omega
            obtain ⟨h1, hm1, hm2, kk, hkk, hkl, hok, _, hle⟩ := HMK.out
            obtain rfl : m = true := by rw [HI.out, hje, List.take_length]; exact decide_eq_true h1
            obtain ⟨fb, fo, ef, hblf, z0, z1, z2, z3⟩ := (HR.out.later kk9).row.vc hkl
            have HFL := Lib.hid hle
            have HTI := Lib.hid (fun w' => rVcTimes need s.many (by omega) (by omega) hok w')
            have HFI := Lib.hid (fun w' => rfits (need.by s.many) fs[kk] w')
            rw [fits_yes hle] at HFI
            rw [hkk] at y0
            replace HCC := Lib.hid (HCC.out.later (k8x.trans (hbk.mono k8x.size)))
            have hk0 : (0 : Int) ≤ kk := by omega
            have hk1 : (kk : Int) < fs.length := by omega
            have hkt : ((kk : Int)).toNat = kk := by omega
            have hjd : ¬ ((j : Int) < (part.length : Int)) := by omega
            subst ef
            generalize fs[kk] = f at z0 z1 z2 z3 HFI
            clear HI hle HFL h1 HMK hkk hok
            go_wp2_with fail
            refine region_mono (pf19 fb fo fs.length cap w.heap.size sb kk need f s) [97, 98, 99, 100, 101, 102, 103, 104, 105, 106, 107, 108, 109, 110, 111, 112] (by kernel_rfl) (by kernel_rfl) (by kernel_rfl) (by kernel_rfl) (stables_cons (Sp.c_stable _ _) (stables_cons (Sp.c_stable _ _) (stables_cons (Sp.c_stable _ _) (stables_cons (Sp.c_stable _ _) (stables_cons (Sp.c_stable _ _) (stables_cons (Sp.c_stable _ _) (stables_cons (Sp.c_stable _ _) (stables_cons (Sp.c_stable _ _) (stables_cons (Sp.c_stable _ _) (stables_cons (Sp.c_stable _ _) (stables_cons (Sp.c_stable _ _) (stables_cons (Sp.c_stable _ _) (stables_cons (Sp.c_stable _ _) (stables_cons (Sp.c_stable _ _) (stables_cons (Sp.c_stable _ _) (stables_cons (Sp.c_stable _ _) (trivial))))))))))))))))) ?_ ?_
            · intro am wm L hbm hbase hbase2
              have s0 : am.tmps.getD 0 undef = .slice (some ⟨fb, fo, none⟩) fs.length cap := (hbase 0 rfl).trans (by simp only [Array.getD_eq_getD_getElem?, List.getElem?_toArray, List.getElem?_cons_succ, List.getElem?_cons_zero, Option.getD_some])
              have s3 : am.tmps.getD 3 undef = .pointer (some ⟨w.heap.size, 0, none⟩) := (hbase 3 rfl).trans (by simp only [Array.getD_eq_getD_getElem?, List.getElem?_toArray, List.getElem?_cons_succ, List.getElem?_cons_zero, Option.getD_some])
              have s8 : am.tmps.getD 8 undef = .pointer (some ⟨sb, 0, none⟩) := (hbase 8 rfl).trans (by simp only [Array.getD_eq_getD_getElem?, List.getElem?_toArray, List.getElem?_cons_succ, List.getElem?_cons_zero, Option.getD_some])
              have s9 : am.tmps.getD 9 undef = .bool true := (hbase 9 rfl).trans (by simp only [Array.getD_eq_getD_getElem?, List.getElem?_toArray, List.getElem?_cons_succ, List.getElem?_cons_zero, Option.getD_some])
              clear hbase hbase2
              have HCm := HCC.out.later hbm
              obtain ⟨m0, m1, m2, m3, m4, m5⟩ := HCm
              have s0 := carry hbm y0
              have s1 := carry hbm y1
              have f0 := carry hbm z0
              have f1 := carry hbm z1
              have f2 := carry hbm z2
              have f3 := carry hbm z3
              refine steps_cons (fun hn hl => ?_) fun H0 => ?_
              · skip
                clear hn hl 
                refine stepC (wanted_free rfl) fun K hK => ?_
                go_simp
                exact hK _ (Below.refl _ _)
              refine steps_cons (fun hn hl => ?_) fun H1 => ?_
              · skip
                have h97 := Sp.of_c (H0 (hn 0 (show 0 ∈ [0] from .head _)))
                clear hn hl H0
                refine stepC (wanted_free rfl) fun K hK => ?_
                go_simp
                exact hK _ (Below.refl _ _)
              refine steps_cons (fun hn hl => ?_) fun H2 => ?_
              · skip
                have h98 := Sp.of_c (H1 (hn 1 (show 1 ∈ [1] from .head _)))
                clear hn hl H0 H1
                refine stepC (wanted_free rfl) fun K hK => ?_
                go_simp
                exact hK _ (Below.refl _ _)
              refine steps_cons (fun hn hl => ?_) fun H3 => ?_
              · skip
                have h99 := Sp.of_c (H2 (hn 2 (show 2 ∈ [2] from .head _)))
                clear hn hl H0 H1 H2
                refine stepC (wanted_guard rfl rfl h99 rfl) fun K hK => ?_
                go_simp
                exact hK _ (Below.refl _ _)
              refine steps_cons (fun hn hl => ?_) fun H4 => ?_
              · skip
                have h100 := Sp.of_c (H3 (hn 3 (show 3 ∈ [3, 2] from .head _)))
                have h99 := Sp.of_c (H2 (hn 2 (show 2 ∈ [3, 2] from .tail _ (.head _))))
                clear hn hl H0 H1 H2 H3
                refine stepC (wanted_guard rfl rfl h99 rfl) fun K hK => ?_
                go_simp
                exact hK _ (Below.refl _ _)
              refine steps_cons (fun hn hl => ?_) fun H5 => ?_
              · skip
                have h99 := Sp.of_c (H2 (hn 2 (show 2 ∈ [2] from .head _)))
                clear hn hl H0 H1 H2 H3 H4
                refine stepC (wanted_guard rfl rfl h99 rfl) fun K hK => ?_
                go_simp
                exact hK _ (Below.refl _ _)
              refine steps_cons (fun hn hl => ?_) fun H6 => ?_
              · skip
                have h102 := Sp.of_c (H5 (hn 5 (show 5 ∈ [5, 2] from .head _)))
                have h99 := Sp.of_c (H2 (hn 2 (show 2 ∈ [5, 2] from .tail _ (.head _))))
                clear hn hl H0 H1 H2 H3 H4 H5
                refine stepC (wanted_guard rfl rfl h99 rfl) fun K hK => ?_
                go_simp
                exact hK _ (Below.refl _ _)
              refine steps_cons (fun hn hl => ?_) fun H7 => ?_
              · skip
                have h101 := Sp.of_c (H4 (hn 4 (show 4 ∈ [4, 6, 2] from .head _)))
                have h103 := Sp.of_c (H6 (hn 6 (show 6 ∈ [4, 6, 2] from .tail _ (.head _))))
                have h99 := Sp.of_c (H2 (hn 2 (show 2 ∈ [4, 6, 2] from .tail _ (.tail _ (.head _)))))
                clear hn hl H0 H1 H2 H3 H4 H5 H6
                refine stepC (wanted_guard rfl rfl h99 rfl) fun K hK => ?_
                go_simp
                first
                  | ((with_reducible refine (HTI.out _).mono ?_); rintro e w6 ⟨rfl, hb6⟩; exact hK _ hb6)
                  | ((with_reducible refine (HFI.out _).mono ?_); rintro e w6 ⟨rfl, hb6⟩; exact hK _ hb6)
              refine steps_cons (fun hn hl => ?_) fun H8 => ?_
              · skip
                have h99 := Sp.of_c (H2 (hn 2 (show 2 ∈ [2] from .head _)))
                clear hn hl H0 H1 H2 H3 H4 H5 H6 H7
                refine stepC (wanted_guard rfl rfl h99 rfl) fun K hK => ?_
                go_simp
                exact hK _ (Below.refl _ _)
              refine steps_cons (fun hn hl => ?_) fun H9 => ?_
              · skip
                have h99 := Sp.of_c (H2 (hn 2 (show 2 ∈ [2] from .head _)))
                clear hn hl H0 H1 H2 H3 H4 H5 H6 H7 H8
                refine stepC (wanted_guard rfl rfl h99 rfl) fun K hK => ?_
                go_simp
                exact hK _ (Below.refl _ _)
              refine steps_cons (fun hn hl => ?_) fun H10 => ?_
              · skip
                have h106 := Sp.of_c (H9 (hn 9 (show 9 ∈ [9, 2] from .head _)))
                have h99 := Sp.of_c (H2 (hn 2 (show 2 ∈ [9, 2] from .tail _ (.head _))))
                clear hn hl H0 H1 H2 H3 H4 H5 H6 H7 H8 H9
                refine stepC (wanted_guard rfl rfl h99 rfl) fun K hK => ?_
                go_simp
                exact hK _ (Below.refl _ _)
              refine steps_cons (fun hn hl => ?_) fun H11 => ?_
              · skip
                have h105 := Sp.of_c (H8 (hn 8 (show 8 ∈ [8, 10, 2] from .head _)))
                have h107 := Sp.of_c (H10 (hn 10 (show 10 ∈ [8, 10, 2] from .tail _ (.head _))))
                have h99 := Sp.of_c (H2 (hn 2 (show 2 ∈ [8, 10, 2] from .tail _ (.tail _ (.head _)))))
                clear hn hl H0 H1 H2 H3 H4 H5 H6 H7 H8 H9 H10
                refine stepC (wanted_guard rfl rfl h99 rfl) fun K hK => ?_
                go_simp
                exact hK _ (Below.refl _ _)
              refine steps_cons (fun hn hl => ?_) fun H12 => ?_
              · skip
                have h108 := Sp.of_c (H11 (hn 11 (show 11 ∈ [11, 2] from .head _)))
                have h99 := Sp.of_c (H2 (hn 2 (show 2 ∈ [11, 2] from .tail _ (.head _))))
                clear hn hl H0 H1 H2 H3 H4 H5 H6 H7 H8 H9 H10 H11
                refine stepC (wanted_guard rfl rfl h99 rfl) fun K hK => ?_
                go_simp
                exact hK _ (Below.refl _ _)
              refine steps_cons (fun hn hl => ?_) fun H13 => ?_
              · skip
                have h104 := Sp.of_c (H7 (hn 7 (show 7 ∈ [7, 12, 2] from .head _)))
                have h109 := Sp.of_c (H12 (hn 12 (show 12 ∈ [7, 12, 2] from .tail _ (.head _))))
                have h99 := Sp.of_c (H2 (hn 2 (show 2 ∈ [7, 12, 2] from .tail _ (.tail _ (.head _)))))
                clear hn hl H0 H1 H2 H3 H4 H5 H6 H7 H8 H9 H10 H11 H12
                refine stepC (wanted_guard rfl rfl h99 rfl) fun K hK => ?_
                go_simp
                first
                  | ((with_reducible refine (HTI.out _).mono ?_); rintro e w6 ⟨rfl, hb6⟩; exact hK _ hb6)
                  | ((with_reducible refine (HFI.out _).mono ?_); rintro e w6 ⟨rfl, hb6⟩; exact hK _ hb6)
              refine steps_cons (fun hn hl => ?_) fun H14 => ?_
              · skip
                have h110 := Sp.of_c (H13 (hn 13 (show 13 ∈ [13, 2] from .head _)))
                have h99 := Sp.of_c (H2 (hn 2 (show 2 ∈ [13, 2] from .tail _ (.head _))))
                clear hn hl H0 H1 H2 H3 H4 H5 H6 H7 H8 H9 H10 H11 H12 H13
                refine stepC (wanted_guard rfl rfl h99 rfl) fun K hK => ?_
                go_simp
                exact hK _ (Below.refl _ _)
              refine steps_cons (fun hn hl => ?_) fun H15 => ?_
              · skip
                have h99 := Sp.of_c (H2 (hn 2 (show 2 ∈ [2, 14] from .head _)))
                have h111 := Sp.of_c (H14 (hn 14 (show 14 ∈ [2, 14] from .tail _ (.head _))))
                clear hn hl H0 H1 H2 H3 H4 H5 H6 H7 H8 H9 H10 H11 H12 H13 H14
                refine stepC (wanted_free rfl) fun K hK => ?_
                go_simp
                exact hK _ (Below.refl _ _)
              exact trivial
            · intro w10 hb10
              have hz10 := hb10.size
              refine end_cons ?_; rintro _ rfl
              refine end_cons ?_; rintro _ rfl
              refine end_cons ?_; rintro _ rfl
              refine end_cons ?_; rintro _ rfl
              refine end_cons ?_; rintro _ rfl
              refine end_cons ?_; rintro _ rfl
              refine end_cons ?_; rintro _ rfl
              refine end_cons ?_; rintro _ rfl
              refine end_cons ?_; rintro _ rfl
              refine end_cons ?_; rintro _ rfl
              refine end_cons ?_; rintro _ rfl
              refine end_cons ?_; rintro _ rfl
              refine end_cons ?_; rintro _ rfl
              refine end_cons ?_; rintro _ rfl
              refine end_cons ?_; rintro _ rfl
              refine end_cons ?_; rintro _ rfl
              refine end_nil ?_
              simp only [List.setIfInBounds_toArray, List.set_cons_succ, List.set_cons_zero, Bool.not_false, Bool.not_true, Bool.true_or, Bool.or_true, Bool.false_or, Bool.or_false]
              go_wp2
              go_roundw
              case rel => exact ⟨k + 1, by omega, by go_num, k8x.trans ((hbk.trans (hb10.mono hbk.size)).mono k8x.size)⟩
              case measure => simp [intOf]; omega
      · go_wp2
        go_ret
        exact ⟨rfl, kr⟩
theorem placeFits_walk (v0 : Value) (v1 : Value) (w : World) (F0 : FVcs w v0) (F1 : FWant w v1) :
    Calls Try.prog 4 #[v0, v1] w fun e w' => e = .returned (.bool true) ∧ Below w.heap.size w w' := by
  obtain ⟨a, cap, fs, rfl, HA⟩ := F0
  obtain ⟨b, cb, part, many, need, rfl, HB, hm⟩ := F1
  by_cases h : fs.length ≤ 30 ∧ part.length ≤ 30
  · by_cases h2 : RiseN fs.length (-1) part
    · by_cases h3 : need.Ok
      · by_cases h4 : ¬ many < 1 ∧ ¬ 0 < plLeft fs need many part
        · exact fits_ok a cap fs b cb part many hm need w HA HB h h2 h3 h4
        · exact fits_none a cap fs b cb part many hm need w HA HB h h2 h3 h4
      · exact fits_right a cap fs b cb part many hm need w HA HB h h2 h3
    · exact fits_rise a cap fs b cb part many hm need w HA HB h h2
  · exact fits_few a cap fs b cb part many hm need w HA HB h
end Go.Proofs.Ytncedpjgmoncpaa.W
