/-
  The walk of PlaceStays.
-/
import Derived.Test.YtncedpjgmoncpaaPlWant
import Derived.Test.YtncedpjgmoncpaaMonoT
namespace Go.Proofs.Ytncedpjgmoncpaa.W
set_option linter.unusedVariables false
set_option linter.unusedSimpArgs false
open Go.ChangeShapes Go.WideShapes Go.ChangeAt Go.RowKit

def ps12 (ta : Option Addr) (tn tc g : Nat) (a5 : Option Addr) (an c5 k sb tb tq : Nat) (t f need : V) (on : Int) (p1 p2 p3 p4 p5 : Bool) : List Sp :=
  [Sp.c (.int .i64 (k : Int)) [],
   Sp.c (.slice ta tn tc) [],
   Sp.c (.int .i64 (tn : Int)) [1],
   Sp.c (.bool p1) [0, 2],
   Sp.c (.bool p1) [3],
   Sp.g (p1) (.slice ta tn tc) [4],
   Sp.g (p1) (.int .i64 (k : Int)) [4],
   Sp.g (p1) (.pointer (some ⟨tb, tq + k * 4, none⟩)) [5, 6, 4],
   Sp.g (p1) ((.agg #[.int .i64 t.cpu, .int .i64 t.mem, .int .i64 t.gpu, .int .i64 t.lic])) [7, 4],
   Sp.g (p1) (.bool p2) [8, 4],
   Sp.c (.bool (p1 && p2)) [4, 9],
   Sp.c (.bool (p1 && p2)) [10],
   Sp.g (p1 && p2) ((.agg #[.int .i64 f.cpu, .int .i64 f.mem, .int .i64 f.gpu, .int .i64 f.lic])) [11],
   Sp.g (p1 && p2) (.bool p3) [12, 11],
   Sp.c (.bool (p1 && p2 && p3)) [11, 13],
   Sp.c (.bool (p1 && p2 && p3)) [14],
   Sp.g (p1 && p2 && p3) (.slice ta tn tc) [15],
   Sp.g (p1 && p2 && p3) (.int .i64 (k : Int)) [15],
   Sp.g (p1 && p2 && p3) (.pointer (some ⟨tb, tq + k * 4, none⟩)) [16, 17, 15],
   Sp.g (p1 && p2 && p3) ((.agg #[.int .i64 t.cpu, .int .i64 t.mem, .int .i64 t.gpu, .int .i64 t.lic])) [18, 15],
   Sp.g (p1 && p2 && p3) ((.agg #[.int .i64 f.cpu, .int .i64 f.mem, .int .i64 f.gpu, .int .i64 f.lic])) [15],
   Sp.g (p1 && p2 && p3) (.bool p4) [19, 20, 15],
   Sp.c (.bool (p1 && p2 && p3 && p4)) [15, 21],
   Sp.c (.bool (p1 && p2 && p3 && p4)) [22],
   Sp.g (p1 && p2 && p3 && p4) (.pointer (some ⟨g, 2, none⟩)) [23],
   Sp.g (p1 && p2 && p3 && p4) ((.agg #[.int .i64 need.cpu, .int .i64 need.mem, .int .i64 need.gpu, .int .i64 need.lic])) [24, 23],
   Sp.g (p1 && p2 && p3 && p4) (.slice a5 an c5) [23],
   Sp.g (p1 && p2 && p3 && p4) (.int .i64 (k : Int)) [23],
   Sp.g (p1 && p2 && p3 && p4) (.int .i64 on) [26, 27, 23],
   Sp.g (p1 && p2 && p3 && p4) ((.agg #[.int .i64 (need.by on).cpu, .int .i64 (need.by on).mem, .int .i64 (need.by on).gpu, .int .i64 (need.by on).lic])) [25, 28, 23],
   Sp.g (p1 && p2 && p3 && p4) ((.agg #[.int .i64 f.cpu, .int .i64 f.mem, .int .i64 f.gpu, .int .i64 f.lic])) [23],
   Sp.g (p1 && p2 && p3 && p4) (.slice ta tn tc) [23],
   Sp.g (p1 && p2 && p3 && p4) (.int .i64 (k : Int)) [23],
   Sp.g (p1 && p2 && p3 && p4) (.pointer (some ⟨tb, tq + k * 4, none⟩)) [31, 32, 23],
   Sp.g (p1 && p2 && p3 && p4) ((.agg #[.int .i64 t.cpu, .int .i64 t.mem, .int .i64 t.gpu, .int .i64 t.lic])) [33, 23],
   Sp.g (p1 && p2 && p3 && p4) ((.agg #[.int .i64 (f.less t).cpu, .int .i64 (f.less t).mem, .int .i64 (f.less t).gpu, .int .i64 (f.less t).lic])) [30, 34, 23],
   Sp.g (p1 && p2 && p3 && p4) (.bool p5) [29, 35, 23],
   Sp.c (.bool (p1 && p2 && p3 && p4 && p5)) [23, 36]]
def ps13 (tb tq tn tc k sb : Nat) (t f : V) : List Sp :=
  [Sp.c ((.agg #[.int .i64 f.cpu, .int .i64 f.mem, .int .i64 f.gpu, .int .i64 f.lic])) [],
   Sp.c (.slice (some ⟨tb, tq, none⟩) tn tc) [],
   Sp.c (.int .i64 (k : Int)) [],
   Sp.c (.pointer (some ⟨tb, tq + k * 4, none⟩)) [1, 2],
   Sp.c ((.agg #[.int .i64 t.cpu, .int .i64 t.mem, .int .i64 t.gpu, .int .i64 t.lic])) [3],
   Sp.c ((.agg #[.int .i64 (f.less t).cpu, .int .i64 (f.less t).mem, .int .i64 (f.less t).gpu, .int .i64 (f.less t).lic])) [0, 4]]
theorem less_in64 {f t : V} (hf : f.Ok) (ht : t.Ok) : (f.less t).in64 := by
  obtain ⟨a0, a1, a2, a3⟩ := hf
  obtain ⟨b0, b1, b2, b3⟩ := ht
  unfold V.in64 V.less
  simp only
  omega
/-- what is left so far -/
def Cuts (need : V) (A : List Sh) (ts fs : List V) (k : Nat) (acc : List V) : Prop := acc.length = k ∧ ∀ i, i < k → acc.getD i V.zero = cutV need A ts i (fs.getD i V.zero)
theorem cuts_next {need : V} {A : List Sh} {ts fs : List V} {k : Nat} {acc : List V} (h : ∀ i, i < k → acc.getD i V.zero = cutV need A ts i (fs.getD i V.zero)) (hl : acc.length = k) (hk : k < fs.length) {y : V} (e : cutV need A ts k fs[k] = y) :
    ∀ i, i < k + 1 → (acc ++ [y]).getD i V.zero = cutV need A ts i (fs.getD i V.zero) := by
  intro i hi
  by_cases h' : i < k
  · rw [← h i h']
    simp [List.getElem?_append_left (show i < acc.length by omega)]
  · obtain rfl : i = k := by omega
    rw [show fs.getD i V.zero = fs[i] by simp [hk], e]
    simp [List.getElem?_append_right (show acc.length ≤ i by omega), hl]
set_option maxHeartbeats 2000000 in
theorem stays_few (a : Option Addr) (cap : Nat) (fs : List V) (b : Option Addr) (cb : Nat) (part : List Int) (many : Int) (hm : many ≤ 9223372036854775807) (need : V) (ta : Option Addr) (tc : Nat) (ts : List V) (w : World) (HA : VcAt w a cap fs) (HB : NmAt w b cb part) (HT : VcAt w ta tc ts) (h : ¬ (fs.length ≤ 30 ∧ part.length ≤ 30)) :
    Calls Try.prog 5 #[.slice a fs.length cap, .agg #[.slice b part.length cb, .int .i64 many, .int .i64 need.cpu, .int .i64 need.mem, .int .i64 need.gpu, .int .i64 need.lic], .slice ta ts.length tc] w fun e w' => e = .returned (.bool true) ∧ Below w.heap.size w w' := by
  have HR := Lib.hid HA
  have HP := Lib.hid HB
  have HQ1 := Lib.hid (fun w' => rFew a b cap cb fs part many need w')
  rw [show fewB fs part = false from decide_eq_false h] at HQ1
  clear HA HB HT h
  go_enter Try.func5, Try.ntmps5
  go_wp2_with fail
  generalize hw0 : World.alloc w _ = w0
  have hb0 : Below w.heap.size w w0 := by rw [← hw0]; exact (by repeat' (first | exact Below.refl _ _ | assumption | exact And.left (by assumption) | refine Below.drew ?_ | refine below_drewN ?_ _ | refine Below.setCell ?_ (by first | (simp; done) | (simp; omega) | omega) _ | refine Below.alloc ?_ (by first | (simp; done) | (simp; omega) | omega) _ | refine after (by assumption) (by first | (simp; done) | (simp; omega) | omega) ?_))
  have HC0 : Hid (Want6 w0 w.heap.size b part.length cb many need) := Lib.hid (by rw [← hw0]; exact ⟨by simp [go_sem], by simp [go_sem], by simp [go_sem], by simp [go_sem], by simp [go_sem], by simp [go_sem]⟩)
  clear hw0
  refine (awakePl w0).mono ?_; rintro e w1 ⟨rfl, hb1⟩
  have k1 := hb0.trans (hb1.mono hb0.size)
  have HC1 := Lib.hid (HC0.out.later hb1)
  clear HC0
  obtain ⟨c0, c1, c2, c3, c4, c5⟩ := HC1.out
  go_wp2_with fail
  refine (HQ1.out w1).mono ?_; rintro e w2 ⟨rfl, hb2⟩
  have k2 := k1.trans (hb2.mono k1.size)
  have HC2 := Lib.hid (HC1.out.later hb2)
  clear c0 c1 c2 c3 c4 c5 HC1
  go_wp2
  go_ret
  exact ⟨rfl, k2⟩
set_option maxHeartbeats 2000000 in
theorem stays_rise (a : Option Addr) (cap : Nat) (fs : List V) (b : Option Addr) (cb : Nat) (part : List Int) (many : Int) (hm : many ≤ 9223372036854775807) (need : V) (ta : Option Addr) (tc : Nat) (ts : List V) (w : World) (HA : VcAt w a cap fs) (HB : NmAt w b cb part) (HT : VcAt w ta tc ts) (h : fs.length ≤ 30 ∧ part.length ≤ 30) (h2 : ¬ RiseN fs.length (-1) part) :
    Calls Try.prog 5 #[.slice a fs.length cap, .agg #[.slice b part.length cb, .int .i64 many, .int .i64 need.cpu, .int .i64 need.mem, .int .i64 need.gpu, .int .i64 need.lic], .slice ta ts.length tc] w fun e w' => e = .returned (.bool true) ∧ Below w.heap.size w w' := by
  have HR := Lib.hid HA
  have HP := Lib.hid HB
  have HQ1 := Lib.hid (fun w' => rFew a b cap cb fs part many need w')
  rw [show fewB fs part = true from decide_eq_true h] at HQ1
  have HQ2 := Lib.hid (fun w' hw => rNmRising b cb part (by omega) fs.length w' hw)
  rw [show risingB part fs.length = false from decide_eq_false h2] at HQ2
  clear HA HB HT h h2
  go_enter Try.func5, Try.ntmps5
  go_wp2_with fail
  generalize hw0 : World.alloc w _ = w0
  have hb0 : Below w.heap.size w w0 := by rw [← hw0]; exact (by repeat' (first | exact Below.refl _ _ | assumption | exact And.left (by assumption) | refine Below.drew ?_ | refine below_drewN ?_ _ | refine Below.setCell ?_ (by first | (simp; done) | (simp; omega) | omega) _ | refine Below.alloc ?_ (by first | (simp; done) | (simp; omega) | omega) _ | refine after (by assumption) (by first | (simp; done) | (simp; omega) | omega) ?_))
  have HC0 : Hid (Want6 w0 w.heap.size b part.length cb many need) := Lib.hid (by rw [← hw0]; exact ⟨by simp [go_sem], by simp [go_sem], by simp [go_sem], by simp [go_sem], by simp [go_sem], by simp [go_sem]⟩)
  clear hw0
  refine (awakePl w0).mono ?_; rintro e w1 ⟨rfl, hb1⟩
  have k1 := hb0.trans (hb1.mono hb0.size)
  have HC1 := Lib.hid (HC0.out.later hb1)
  clear HC0
  obtain ⟨c0, c1, c2, c3, c4, c5⟩ := HC1.out
  go_wp2_with fail
  refine (HQ1.out w1).mono ?_; rintro e w2 ⟨rfl, hb2⟩
  have k2 := k1.trans (hb2.mono k1.size)
  have HC2 := Lib.hid (HC1.out.later hb2)
  clear c0 c1 c2 c3 c4 c5 HC1
  obtain ⟨c0, c1, c2, c3, c4, c5⟩ := HC2.out
  go_wp2_with fail
  refine (HQ2.out w2 (HP.out.later k2)).mono ?_; rintro e w3 ⟨rfl, hb3⟩
  have k3 := k2.trans (hb3.mono k2.size)
  have HC3 := Lib.hid (HC2.out.later hb3)
  clear c0 c1 c2 c3 c4 c5 HC2
  go_wp2
  go_ret
  exact ⟨rfl, k3⟩
set_option maxHeartbeats 2000000 in
theorem stays_right (a : Option Addr) (cap : Nat) (fs : List V) (b : Option Addr) (cb : Nat) (part : List Int) (many : Int) (hm : many ≤ 9223372036854775807) (need : V) (ta : Option Addr) (tc : Nat) (ts : List V) (w : World) (HA : VcAt w a cap fs) (HB : NmAt w b cb part) (HT : VcAt w ta tc ts) (h : fs.length ≤ 30 ∧ part.length ≤ 30) (h2 : RiseN fs.length (-1) part) (h3 : ¬ need.Ok) :
    Calls Try.prog 5 #[.slice a fs.length cap, .agg #[.slice b part.length cb, .int .i64 many, .int .i64 need.cpu, .int .i64 need.mem, .int .i64 need.gpu, .int .i64 need.lic], .slice ta ts.length tc] w fun e w' => e = .returned (.bool true) ∧ Below w.heap.size w w' := by
  have HR := Lib.hid HA
  have HP := Lib.hid HB
  have HQ1 := Lib.hid (fun w' => rFew a b cap cb fs part many need w')
  rw [show fewB fs part = true from decide_eq_true h] at HQ1
  have HQ2 := Lib.hid (fun w' hw => rNmRising b cb part (by omega) fs.length w' hw)
  rw [show risingB part fs.length = true from decide_eq_true h2] at HQ2
  have HQ3 := Lib.hid (fun w' => rright need w')
  rw [right_no h3] at HQ3
  clear HA HB HT h h2 h3
  go_enter Try.func5, Try.ntmps5
  go_wp2_with fail
  generalize hw0 : World.alloc w _ = w0
  have hb0 : Below w.heap.size w w0 := by rw [← hw0]; exact (by repeat' (first | exact Below.refl _ _ | assumption | exact And.left (by assumption) | refine Below.drew ?_ | refine below_drewN ?_ _ | refine Below.setCell ?_ (by first | (simp; done) | (simp; omega) | omega) _ | refine Below.alloc ?_ (by first | (simp; done) | (simp; omega) | omega) _ | refine after (by assumption) (by first | (simp; done) | (simp; omega) | omega) ?_))
  have HC0 : Hid (Want6 w0 w.heap.size b part.length cb many need) := Lib.hid (by rw [← hw0]; exact ⟨by simp [go_sem], by simp [go_sem], by simp [go_sem], by simp [go_sem], by simp [go_sem], by simp [go_sem]⟩)
  clear hw0
  refine (awakePl w0).mono ?_; rintro e w1 ⟨rfl, hb1⟩
  have k1 := hb0.trans (hb1.mono hb0.size)
  have HC1 := Lib.hid (HC0.out.later hb1)
  clear HC0
  obtain ⟨c0, c1, c2, c3, c4, c5⟩ := HC1.out
  go_wp2_with fail
  refine (HQ1.out w1).mono ?_; rintro e w2 ⟨rfl, hb2⟩
  have k2 := k1.trans (hb2.mono k1.size)
  have HC2 := Lib.hid (HC1.out.later hb2)
  clear c0 c1 c2 c3 c4 c5 HC1
  obtain ⟨c0, c1, c2, c3, c4, c5⟩ := HC2.out
  go_wp2_with fail
  refine (HQ2.out w2 (HP.out.later k2)).mono ?_; rintro e w3 ⟨rfl, hb3⟩
  have k3 := k2.trans (hb3.mono k2.size)
  have HC3 := Lib.hid (HC2.out.later hb3)
  clear c0 c1 c2 c3 c4 c5 HC2
  obtain ⟨c0, c1, c2, c3, c4, c5⟩ := HC3.out
  go_wp2_with fail
  refine (HQ3.out w3).mono ?_; rintro e w4 ⟨rfl, hb4⟩
  have k4 := k3.trans (hb4.mono k3.size)
  have HC4 := Lib.hid (HC3.out.later hb4)
  clear c0 c1 c2 c3 c4 c5 HC3
  go_wp2
  go_ret
  exact ⟨rfl, k4⟩
set_option maxHeartbeats 2000000 in
theorem stays_none (a : Option Addr) (cap : Nat) (fs : List V) (b : Option Addr) (cb : Nat) (part : List Int) (many : Int) (hm : many ≤ 9223372036854775807) (need : V) (ta : Option Addr) (tc : Nat) (ts : List V) (w : World) (HA : VcAt w a cap fs) (HB : NmAt w b cb part) (HT : VcAt w ta tc ts) (h : fs.length ≤ 30 ∧ part.length ≤ 30) (h2 : RiseN fs.length (-1) part) (h3 : need.Ok) (h4 : ¬ (¬ many < 1 ∧ ¬ 0 < plLeft fs need many part)) :
    Calls Try.prog 5 #[.slice a fs.length cap, .agg #[.slice b part.length cb, .int .i64 many, .int .i64 need.cpu, .int .i64 need.mem, .int .i64 need.gpu, .int .i64 need.lic], .slice ta ts.length tc] w fun e w' => e = .returned (.bool true) ∧ Below w.heap.size w w' := by
  have HR := Lib.hid HA
  have HP := Lib.hid HB
  have HQ1 := Lib.hid (fun w' => rFew a b cap cb fs part many need w')
  rw [show fewB fs part = true from decide_eq_true h] at HQ1
  have HQ2 := Lib.hid (fun w' hw => rNmRising b cb part (by omega) fs.length w' hw)
  rw [show risingB part fs.length = true from decide_eq_true h2] at HQ2
  have HQ3 := Lib.hid (fun w' => rright need w')
  rw [right_yes h3] at HQ3
  have HPL := Lib.hid (fun w' x y => pPlace a cap fs (by omega) b cb part (by omega) many hm need w' x y)
  rw [show placeB fs part many need = false from decide_eq_false h4, show placeS fs part many need = [] from if_neg h4] at HPL
  clear HA HB HT h h2 h3 h4
  go_enter Try.func5, Try.ntmps5
  go_wp2_with fail
  generalize hw0 : World.alloc w _ = w0
  have hb0 : Below w.heap.size w w0 := by rw [← hw0]; exact (by repeat' (first | exact Below.refl _ _ | assumption | exact And.left (by assumption) | refine Below.drew ?_ | refine below_drewN ?_ _ | refine Below.setCell ?_ (by first | (simp; done) | (simp; omega) | omega) _ | refine Below.alloc ?_ (by first | (simp; done) | (simp; omega) | omega) _ | refine after (by assumption) (by first | (simp; done) | (simp; omega) | omega) ?_))
  have HC0 : Hid (Want6 w0 w.heap.size b part.length cb many need) := Lib.hid (by rw [← hw0]; exact ⟨by simp [go_sem], by simp [go_sem], by simp [go_sem], by simp [go_sem], by simp [go_sem], by simp [go_sem]⟩)
  clear hw0
  refine (awakePl w0).mono ?_; rintro e w1 ⟨rfl, hb1⟩
  have k1 := hb0.trans (hb1.mono hb0.size)
  have HC1 := Lib.hid (HC0.out.later hb1)
  clear HC0
  obtain ⟨c0, c1, c2, c3, c4, c5⟩ := HC1.out
  go_wp2_with fail
  refine (HQ1.out w1).mono ?_; rintro e w2 ⟨rfl, hb2⟩
  have k2 := k1.trans (hb2.mono k1.size)
  have HC2 := Lib.hid (HC1.out.later hb2)
  clear c0 c1 c2 c3 c4 c5 HC1
  obtain ⟨c0, c1, c2, c3, c4, c5⟩ := HC2.out
  go_wp2_with fail
  refine (HQ2.out w2 (HP.out.later k2)).mono ?_; rintro e w3 ⟨rfl, hb3⟩
  have k3 := k2.trans (hb3.mono k2.size)
  have HC3 := Lib.hid (HC2.out.later hb3)
  clear c0 c1 c2 c3 c4 c5 HC2
  obtain ⟨c0, c1, c2, c3, c4, c5⟩ := HC3.out
  go_wp2_with fail
  refine (HQ3.out w3).mono ?_; rintro e w4 ⟨rfl, hb4⟩
  have k4 := k3.trans (hb4.mono k3.size)
  have HC4 := Lib.hid (HC3.out.later hb4)
  clear c0 c1 c2 c3 c4 c5 HC3
  obtain ⟨c0, c1, c2, c3, c4, c5⟩ := HC4.out
  go_wp2_with fail
  refine (HPL.out w4 (HR.out.later k4) (HP.out.later k4)).mono ?_
  rintro e w5 ⟨v5, rfl, hO5, hb5⟩
  have k5 := k4.trans (hb5.mono k4.size)
  have HCC := Lib.hid (HC4.out.later hb5)
  clear c0 c1 c2 c3 c4 c5 HC4
  go_wp2
  go_ret
  exact ⟨rfl, k5⟩
set_option maxHeartbeats 16000000 in
set_option maxRecDepth 100000 in
theorem stays_ok (a : Option Addr) (cap : Nat) (fs : List V) (b : Option Addr) (cb : Nat) (part : List Int) (many : Int) (hm : many ≤ 9223372036854775807) (need : V) (ta : Option Addr) (tc : Nat) (ts : List V) (w : World) (HA : VcAt w a cap fs) (HB : NmAt w b cb part) (HT : VcAt w ta tc ts) (h : fs.length ≤ 30 ∧ part.length ≤ 30) (h2 : RiseN fs.length (-1) part) (h3 : need.Ok) (h4 : ¬ many < 1 ∧ ¬ 0 < plLeft fs need many part) :
    Calls Try.prog 5 #[.slice a fs.length cap, .agg #[.slice b part.length cb, .int .i64 many, .int .i64 need.cpu, .int .i64 need.mem, .int .i64 need.gpu, .int .i64 need.lic], .slice ta ts.length tc] w fun e w' => e = .returned (.bool true) ∧ Below w.heap.size w w' := by
  obtain ⟨i0, hi, hzz, hzs, hzb⟩ := info_parts infoVc
  have HR := Lib.hid HA
  have HP := Lib.hid HB
  have HQ1 := Lib.hid (fun w' => rFew a b cap cb fs part many need w')
  have HTT := Lib.hid HT
  rw [show fewB fs part = true from decide_eq_true h] at HQ1
  have HQ2 := Lib.hid (fun w' hw => rNmRising b cb part (by omega) fs.length w' hw)
  rw [show risingB part fs.length = true from decide_eq_true h2] at HQ2
  have HQ3 := Lib.hid (fun w' => rright need w')
  rw [right_yes h3] at HQ3
  have HPL := Lib.hid (fun w' x y => pPlace a cap fs (by omega) b cb part (by omega) many hm need w' x y)
  rw [show placeB fs part many need = true from decide_eq_true h4] at HPL
  have HPL2 := Lib.hid (fun (a' : Option Addr) (c' : Nat) (ls : List V) (hl : ls.length = fs.length) w' x y => pPlace a' c' ls (by omega) b cb part (by omega) many hm need w' x y)
  obtain ⟨p1, p2, p3⟩ := place_in (need := need) h2 h4
  have HAL := Lib.hid (fun (ls : List V) (hl : ls.length = fs.length) (e : ∀ k (hk : k < fs.length), ls.getD k V.zero = cutV need (placeS fs part many need) ts k fs[k]) => place_alike (ls := ls) h2 h3 h4 hl e)
  have hlen : (placeS fs part many need).length ≤ 30 := Nat.le_trans (placeS_len fs part many need) h.2
  have hpl := h.2
  have hfl := h.1
  have HM0 := Lib.hid p3
  have HOK := Lib.hid h3
  generalize placeS fs part many need = A at *
  have HON0 := Lib.hid (fun x => onH_bd (x := x) (of_decide_eq_true p1))
  have HSM := Lib.hid (fun a1 a2 c1 c2 w' h1 h2 => rShSame a1 a2 c1 c2 A A (by omega) (by omega) w' h1 h2)
  rw [decide_eq_true (rfl : A = A)] at HSM
  have HONC := Lib.hid (fun a' c' x w' hw => rShOn a' c' A (by omega) x (fun s hs => ⟨(p3 s hs).2.1, (p3 s hs).2.2.1⟩) w' hw)
  clear HA HB HT h h2 h3 h4 p1 p2 p3
  go_enter Try.func5, Try.ntmps5
  go_wp2_with fail
  generalize hw0 : World.alloc w _ = w0
  have hb0 : Below w.heap.size w w0 := by rw [← hw0]; exact (by repeat' (first | exact Below.refl _ _ | assumption | exact And.left (by assumption) | refine Below.drew ?_ | refine below_drewN ?_ _ | refine Below.setCell ?_ (by first | (simp; done) | (simp; omega) | omega) _ | refine Below.alloc ?_ (by first | (simp; done) | (simp; omega) | omega) _ | refine after (by assumption) (by first | (simp; done) | (simp; omega) | omega) ?_))
  have HC0 : Hid (Want6 w0 w.heap.size b part.length cb many need) := Lib.hid (by rw [← hw0]; exact ⟨by simp [go_sem], by simp [go_sem], by simp [go_sem], by simp [go_sem], by simp [go_sem], by simp [go_sem]⟩)
  clear hw0
  refine (awakePl w0).mono ?_; rintro e w1 ⟨rfl, hb1⟩
  have k1 := hb0.trans (hb1.mono hb0.size)
  have HC1 := Lib.hid (HC0.out.later hb1)
  clear HC0
  obtain ⟨c0, c1, c2, c3, c4, c5⟩ := HC1.out
  go_wp2_with fail
  refine (HQ1.out w1).mono ?_; rintro e w2 ⟨rfl, hb2⟩
  have k2 := k1.trans (hb2.mono k1.size)
  have HC2 := Lib.hid (HC1.out.later hb2)
  clear c0 c1 c2 c3 c4 c5 HC1
  obtain ⟨c0, c1, c2, c3, c4, c5⟩ := HC2.out
  go_wp2_with fail
  refine (HQ2.out w2 (HP.out.later k2)).mono ?_; rintro e w3 ⟨rfl, hb3⟩
  have k3 := k2.trans (hb3.mono k2.size)
  have HC3 := Lib.hid (HC2.out.later hb3)
  clear c0 c1 c2 c3 c4 c5 HC2
  obtain ⟨c0, c1, c2, c3, c4, c5⟩ := HC3.out
  go_wp2_with fail
  refine (HQ3.out w3).mono ?_; rintro e w4 ⟨rfl, hb4⟩
  have k4 := k3.trans (hb4.mono k3.size)
  have HC4 := Lib.hid (HC3.out.later hb4)
  clear c0 c1 c2 c3 c4 c5 HC3
  obtain ⟨c0, c1, c2, c3, c4, c5⟩ := HC4.out
  go_wp2_with fail
  refine (HPL.out w4 (HR.out.later k4) (HP.out.later k4)).mono ?_
  rintro e w5 ⟨v5, rfl, hO5, hb5⟩
  have k5 := k4.trans (hb5.mono k4.size)
  have HCC := Lib.hid (HC4.out.later hb5)
  clear c0 c1 c2 c3 c4 c5 HC4
  obtain ⟨a5, c5, rfl, hs5⟩ := own_sh (l := A) hO5
  have HS5 := Lib.hid hs5
  clear hO5 hs5 HPL HQ1 HQ2 HQ3
  replace HONC := Lib.hid (HONC.out a5 c5)
  go_wp2
  go_loopw [9, 49] (fun v9 x wr => ∃ k : Nat, k ≤ fs.length ∧ x = .int .i64 k ∧ Below w5.heap.size w5 wr ∧ Hid (∃ acc : List V, wr.ownsRow w5.heap.size 29 4 v9 acc.length (vcsV acc) ∧ acc.length = k ∧ ∀ i, i < k → acc.getD i V.zero = cutV need A ts i (fs.getD i V.zero))) (fun _ x _ => fs.length - (intOf x).toNat)
  case atStart => exact ⟨0, Nat.zero_le _, rfl, Below.refl _ _, Lib.hid ⟨[], World.ownsRow_nil _ _ _ _, rfl, fun i hi => by omega⟩⟩
  case round =>
    rename World => wr
    obtain ⟨k, hk, rfl, k5r, HI⟩ := hrel
    have hz := k5r.size
    have kr := k5.trans (k5r.mono k5.size)
    by_cases hlt : k < fs.length
    · have hltI : (k : Int) < fs.length := by omega
      obtain ⟨fb, fo, ef, hbl, q0, q1, q2, q3⟩ := (HR.out.later kr).row.vc hlt
      obtain ⟨acc, hO, hacc, hP⟩ := HI.out
      have HO := Lib.hid hO
      have HCU := Lib.hid (fun y (e : cutV need A ts k fs[k] = y) => cuts_next hP hacc hlt e)
      clear hO HI hP
      obtain ⟨on0, on1⟩ := HON0.out k
      replace HONC := Lib.hid (HONC.out k)
      have HCV : Hid (∀ f, cutV need A ts k f = if k < ts.length ∧ CutV need (onH k A) (ts.getD k V.zero) f then f.less (ts.getD k V.zero) else f) := Lib.hid (fun f => rfl)
      subst ef
      generalize fs[k] = f at q0 q1 q2 q3 HCU
      generalize onH k A = on at on0 on1 HONC HCV
      generalize hmm : acc.length = m at HO
      have HM := Lib.hid hmm
      have hmk : m ≤ 30 := by omega
      clear hmm
      have HTI := Lib.hid (fun w' => rVcTimes need on on0 on1 HOK.out w')
      go_upto_region 12 with fail
      generalize hwx : World.alloc wr _ = wx
      have hbx : Below wr.heap.size wr wx := by rw [← hwx]; exact (by repeat' (first | exact Below.refl _ _ | assumption | exact And.left (by assumption) | refine Below.drew ?_ | refine below_drewN ?_ _ | refine Below.setCell ?_ (by first | (simp; done) | (simp; omega) | omega) _ | refine Below.alloc ?_ (by first | (simp; done) | (simp; omega) | omega) _ | refine after (by assumption) (by first | (simp; done) | (simp; omega) | omega) ?_))
      have HFX0 : Hid (Res4 wx wr.heap.size f) := Lib.hid (by rw [← hwx]; exact Res4.new wr f _)
      clear hwx
      have kx := kr.trans (hbx.mono kr.size)
      have HCX := Lib.hid (HCC.out.later (k5r.trans (hbx.mono hz)))
      have HSX := Lib.hid (HS5.out.later (k5r.trans (hbx.mono hz)))
      have HTX := Lib.hid (HTT.out.later kx)
      generalize hsb : wr.heap.size = sb at HFX0 ⊢
      have HSB : Hid (wr.heap.size ≤ sb) := Lib.hid (by omega)
      have HFX := Lib.hid HFX0.out
      clear hsb HFX0 q0 q1 q2 q3
      have hk0 : (0 : Int) ≤ k := by omega
      have hkt : ((k : Int)).toNat = k := by omega
      by_cases c1 : k < ts.length
      · have hk1 : (k : Int) < ts.length := by omega
        have hd1 : decide (k < ts.length) = true := decide_eq_true c1
        obtain ⟨tb, tq, et, htl, z0, z1, z2, z3⟩ := HTX.out.row.vc c1
        have htk : ts.getD k V.zero = ts[k] := by simp [c1]
        rw [htk] at HCV
        subst et
        clear htk
        generalize ts[k] = t at z0 z1 z2 z3 HCV
        have HTR := Lib.hid (fun w' => rright t w')
        by_cases c2 : t.Ok
        · rw [right_yes c2] at HTR
          have HFR := Lib.hid (fun w' => rright f w')
          by_cases c3 : f.Ok
          · rw [right_yes c3] at HFR
            have HTF := Lib.hid (fun w' => rfits t f w')
            by_cases c4 : V.Le t f
            · rw [fits_yes c4] at HTF
              have HSU := Lib.hid (fun w' => rsub f t w' (less_in64 c3 c2))
              have HLF := Lib.hid (fun w' => rfits (need.by on) (f.less t) w')
              by_cases c5' : V.Le (need.by on) (f.less t)
              · rw [fits_yes c5'] at HLF
                have HX := Lib.hid (HCU.out (f.less t) ((HCV.out f).trans (if_pos ⟨c1, c2, c3, c4, c5'⟩)))
                clear HCU HCV c2 c3 c4 c5'
                refine region_mono (ps12 (some ⟨tb, tq, none⟩) ts.length tc w.heap.size a5 A.length c5 k sb tb tq t f need on true true true true true) [54, 55, 56, 57, 58, 59, 60, 61, 62, 63, 64, 65, 66, 67, 68, 69, 70, 71, 72, 73, 74, 75, 76, 77, 78, 79, 80, 81, 82, 83, 84, 85, 86, 87, 88, 89, 90, 91] (by kernel_rfl) (by kernel_rfl) (by kernel_rfl) (by kernel_rfl) (stables_cons (Sp.c_stable _ _) (stables_cons (Sp.c_stable _ _) (stables_cons (Sp.c_stable _ _) (stables_cons (Sp.c_stable _ _) (stables_cons (Sp.c_stable _ _) (stables_cons (Sp.g_stable _ _ _) (stables_cons (Sp.g_stable _ _ _) (stables_cons (Sp.g_stable _ _ _) (stables_cons (Sp.g_stable _ _ _) (stables_cons (Sp.g_stable _ _ _) (stables_cons (Sp.c_stable _ _) (stables_cons (Sp.c_stable _ _) (stables_cons (Sp.g_stable _ _ _) (stables_cons (Sp.g_stable _ _ _) (stables_cons (Sp.c_stable _ _) (stables_cons (Sp.c_stable _ _) (stables_cons (Sp.g_stable _ _ _) (stables_cons (Sp.g_stable _ _ _) (stables_cons (Sp.g_stable _ _ _) (stables_cons (Sp.g_stable _ _ _) (stables_cons (Sp.g_stable _ _ _) (stables_cons (Sp.g_stable _ _ _) (stables_cons (Sp.c_stable _ _) (stables_cons (Sp.c_stable _ _) (stables_cons (Sp.g_stable _ _ _) (stables_cons (Sp.g_stable _ _ _) (stables_cons (Sp.g_stable _ _ _) (stables_cons (Sp.g_stable _ _ _) (stables_cons (Sp.g_stable _ _ _) (stables_cons (Sp.g_stable _ _ _) (stables_cons (Sp.g_stable _ _ _) (stables_cons (Sp.g_stable _ _ _) (stables_cons (Sp.g_stable _ _ _) (stables_cons (Sp.g_stable _ _ _) (stables_cons (Sp.g_stable _ _ _) (stables_cons (Sp.g_stable _ _ _) (stables_cons (Sp.g_stable _ _ _) (stables_cons (Sp.c_stable _ _) (trivial))))))))))))))))))))))))))))))))))))))) ?_ ?_
                · intro am wm L hbm hbase hbase2
                  have s2 : am.tmps.getD 2 undef = .slice (some ⟨tb, tq, none⟩) ts.length tc := (hbase 2 rfl).trans (by simp only [Array.getD_eq_getD_getElem?, List.getElem?_toArray, List.getElem?_cons_succ, List.getElem?_cons_zero, Option.getD_some])
                  have s4 : am.tmps.getD 4 undef = .pointer (some ⟨w.heap.size, 0, none⟩) := (hbase 4 rfl).trans (by simp only [Array.getD_eq_getD_getElem?, List.getElem?_toArray, List.getElem?_cons_succ, List.getElem?_cons_zero, Option.getD_some])
                  have s7 : am.tmps.getD 7 undef = .slice a5 A.length c5 := (hbase 7 rfl).trans (by simp only [Array.getD_eq_getD_getElem?, List.getElem?_toArray, List.getElem?_cons_succ, List.getElem?_cons_zero, Option.getD_some])
                  have s10 : am.tmps.getD 10 undef = .int .i64 (k : Int) := (hbase 10 rfl).trans (by simp only [Array.getD_eq_getD_getElem?, List.getElem?_toArray, List.getElem?_cons_succ, List.getElem?_cons_zero, Option.getD_some])
                  have s11 : am.tmps.getD 11 undef = .pointer (some ⟨sb, 0, none⟩) := (hbase 11 rfl).trans (by simp only [Array.getD_eq_getD_getElem?, List.getElem?_toArray, List.getElem?_cons_succ, List.getElem?_cons_zero, Option.getD_some])
                  clear hbase hbase2
                  have HCm := HCX.out.later hbm
                  obtain ⟨m0, m1, m2, m3, m4, m5⟩ := HCm
                  obtain ⟨x0, x1, x2, x3, _, _, _, _⟩ := HFX.out.later hbm
                  have q0 := carry hbm z0
                  have q1 := carry hbm z1
                  have q2 := carry hbm z2
                  have q3 := carry hbm z3
                  refine steps_cons (fun hn hl => ?_) fun H0 => ?_
                  · skip
                    clear hn hl 
                    refine stepC (wanted_free rfl) fun K hK => ?_
                    go_simp
                    exact hK _ (Below.refl _ _)
                  refine steps_cons (fun hn hl => ?_) fun H1 => ?_
                  · skip
                    clear hn hl H0
                    refine stepC (wanted_free rfl) fun K hK => ?_
                    go_simp
                    exact hK _ (Below.refl _ _)
                  refine steps_cons (fun hn hl => ?_) fun H2 => ?_
                  · skip
                    have h55 := Sp.of_c (H1 (hn 1 (show 1 ∈ [1] from .head _)))
                    clear hn hl H0 H1
                    refine stepC (wanted_free rfl) fun K hK => ?_
                    go_simp
                    exact hK _ (Below.refl _ _)
                  refine steps_cons (fun hn hl => ?_) fun H3 => ?_
                  · skip
                    have h54 := Sp.of_c (H0 (hn 0 (show 0 ∈ [0, 2] from .head _)))
                    have h56 := Sp.of_c (H2 (hn 2 (show 2 ∈ [0, 2] from .tail _ (.head _))))
                    clear hn hl H0 H1 H2
                    refine stepC (wanted_free rfl) fun K hK => ?_
                    go_simp
                    exact hK _ (Below.refl _ _)
                  refine steps_cons (fun hn hl => ?_) fun H4 => ?_
                  · skip
                    have h57 := Sp.of_c (H3 (hn 3 (show 3 ∈ [3] from .head _)))
                    clear hn hl H0 H1 H2 H3
                    refine stepC (wanted_free rfl) fun K hK => ?_
                    go_simp
                    exact hK _ (Below.refl _ _)
                  refine steps_cons (fun hn hl => ?_) fun H5 => ?_
                  · skip
                    have h58 := Sp.of_c (H4 (hn 4 (show 4 ∈ [4] from .head _)))
                    clear hn hl H0 H1 H2 H3 H4
                    refine stepC (wanted_guard rfl rfl h58 rfl) fun K hK => ?_
                    go_simp
                    exact hK _ (Below.refl _ _)
                  refine steps_cons (fun hn hl => ?_) fun H6 => ?_
                  · skip
                    have h58 := Sp.of_c (H4 (hn 4 (show 4 ∈ [4] from .head _)))
                    clear hn hl H0 H1 H2 H3 H4 H5
                    refine stepC (wanted_guard rfl rfl h58 rfl) fun K hK => ?_
                    go_simp
                    exact hK _ (Below.refl _ _)
                  refine steps_cons (fun hn hl => ?_) fun H7 => ?_
                  · skip
                    have h59 := Sp.of_g (H5 (hn 5 (show 5 ∈ [5, 6, 4] from .head _))) rfl
                    have h60 := Sp.of_g (H6 (hn 6 (show 6 ∈ [5, 6, 4] from .tail _ (.head _)))) rfl
                    have h58 := Sp.of_c (H4 (hn 4 (show 4 ∈ [5, 6, 4] from .tail _ (.tail _ (.head _)))))
                    clear hn hl H0 H1 H2 H3 H4 H5 H6
                    refine stepC (wanted_guard rfl rfl h58 rfl) fun K hK => ?_
                    go_simp
                    exact hK _ (Below.refl _ _)
                  refine steps_cons (fun hn hl => ?_) fun H8 => ?_
                  · skip
                    have h61 := Sp.of_g (H7 (hn 7 (show 7 ∈ [7, 4] from .head _))) rfl
                    have h58 := Sp.of_c (H4 (hn 4 (show 4 ∈ [7, 4] from .tail _ (.head _))))
                    clear hn hl H0 H1 H2 H3 H4 H5 H6 H7
                    refine stepC (wanted_guard rfl rfl h58 rfl) fun K hK => ?_
                    go_simp
                    exact hK _ (Below.refl _ _)
                  refine steps_cons (fun hn hl => ?_) fun H9 => ?_
                  · skip
                    have h62 := Sp.of_g (H8 (hn 8 (show 8 ∈ [8, 4] from .head _))) rfl
                    have h58 := Sp.of_c (H4 (hn 4 (show 4 ∈ [8, 4] from .tail _ (.head _))))
                    clear hn hl H0 H1 H2 H3 H4 H5 H6 H7 H8
                    refine stepC (wanted_guard rfl rfl h58 rfl) fun K hK => ?_
                    go_simp
                    first
                      | ((with_reducible refine (HTR.out _).mono ?_); rintro e w6 ⟨rfl, hb6⟩; exact hK _ hb6)
                      | ((with_reducible refine (HFR.out _).mono ?_); rintro e w6 ⟨rfl, hb6⟩; exact hK _ hb6)
                      | ((with_reducible refine (HTF.out _).mono ?_); rintro e w6 ⟨rfl, hb6⟩; exact hK _ hb6)
                      | ((with_reducible refine (HONC.out _ (HSX.out.later hbm)).mono ?_); rintro e w6 ⟨rfl, hb6⟩; exact hK _ hb6)
                      | ((with_reducible refine (HTI.out _).mono ?_); rintro e w6 ⟨rfl, hb6⟩; exact hK _ hb6)
                      | ((with_reducible refine (HSU.out _).mono ?_); rintro e w6 ⟨rfl, hb6⟩; exact hK _ hb6)
                      | ((with_reducible refine (HLF.out _).mono ?_); rintro e w6 ⟨rfl, hb6⟩; exact hK _ hb6)
                  refine steps_cons (fun hn hl => ?_) fun H10 => ?_
                  · skip
                    have h58 := Sp.of_c (H4 (hn 4 (show 4 ∈ [4, 9] from .head _)))
                    have h63 := Sp.of_g (H9 (hn 9 (show 9 ∈ [4, 9] from .tail _ (.head _)))) rfl
                    clear hn hl H0 H1 H2 H3 H4 H5 H6 H7 H8 H9
                    refine stepC (wanted_free rfl) fun K hK => ?_
                    go_simp
                    exact hK _ (Below.refl _ _)
                  refine steps_cons (fun hn hl => ?_) fun H11 => ?_
                  · skip
                    have h64 := Sp.of_c (H10 (hn 10 (show 10 ∈ [10] from .head _)))
                    clear hn hl H0 H1 H2 H3 H4 H5 H6 H7 H8 H9 H10
                    refine stepC (wanted_free rfl) fun K hK => ?_
                    go_simp
                    exact hK _ (Below.refl _ _)
                  refine steps_cons (fun hn hl => ?_) fun H12 => ?_
                  · skip
                    have h65 := Sp.of_c (H11 (hn 11 (show 11 ∈ [11] from .head _)))
                    clear hn hl H0 H1 H2 H3 H4 H5 H6 H7 H8 H9 H10 H11
                    refine stepC (wanted_guard rfl rfl h65 rfl) fun K hK => ?_
                    go_simp
                    exact hK _ (Below.refl _ _)
                  refine steps_cons (fun hn hl => ?_) fun H13 => ?_
                  · skip
                    have h66 := Sp.of_g (H12 (hn 12 (show 12 ∈ [12, 11] from .head _))) rfl
                    have h65 := Sp.of_c (H11 (hn 11 (show 11 ∈ [12, 11] from .tail _ (.head _))))
                    clear hn hl H0 H1 H2 H3 H4 H5 H6 H7 H8 H9 H10 H11 H12
                    refine stepC (wanted_guard rfl rfl h65 rfl) fun K hK => ?_
                    go_simp
                    first
                      | ((with_reducible refine (HTR.out _).mono ?_); rintro e w6 ⟨rfl, hb6⟩; exact hK _ hb6)
                      | ((with_reducible refine (HFR.out _).mono ?_); rintro e w6 ⟨rfl, hb6⟩; exact hK _ hb6)
                      | ((with_reducible refine (HTF.out _).mono ?_); rintro e w6 ⟨rfl, hb6⟩; exact hK _ hb6)
                      | ((with_reducible refine (HONC.out _ (HSX.out.later hbm)).mono ?_); rintro e w6 ⟨rfl, hb6⟩; exact hK _ hb6)
                      | ((with_reducible refine (HTI.out _).mono ?_); rintro e w6 ⟨rfl, hb6⟩; exact hK _ hb6)
                      | ((with_reducible refine (HSU.out _).mono ?_); rintro e w6 ⟨rfl, hb6⟩; exact hK _ hb6)
                      | ((with_reducible refine (HLF.out _).mono ?_); rintro e w6 ⟨rfl, hb6⟩; exact hK _ hb6)
                  refine steps_cons (fun hn hl => ?_) fun H14 => ?_
                  · skip
                    have h65 := Sp.of_c (H11 (hn 11 (show 11 ∈ [11, 13] from .head _)))
                    have h67 := Sp.of_g (H13 (hn 13 (show 13 ∈ [11, 13] from .tail _ (.head _)))) rfl
                    clear hn hl H0 H1 H2 H3 H4 H5 H6 H7 H8 H9 H10 H11 H12 H13
                    refine stepC (wanted_free rfl) fun K hK => ?_
                    go_simp
                    exact hK _ (Below.refl _ _)
                  refine steps_cons (fun hn hl => ?_) fun H15 => ?_
                  · skip
                    have h68 := Sp.of_c (H14 (hn 14 (show 14 ∈ [14] from .head _)))
                    clear hn hl H0 H1 H2 H3 H4 H5 H6 H7 H8 H9 H10 H11 H12 H13 H14
                    refine stepC (wanted_free rfl) fun K hK => ?_
                    go_simp
                    exact hK _ (Below.refl _ _)
                  refine steps_cons (fun hn hl => ?_) fun H16 => ?_
                  · skip
                    have h69 := Sp.of_c (H15 (hn 15 (show 15 ∈ [15] from .head _)))
                    clear hn hl H0 H1 H2 H3 H4 H5 H6 H7 H8 H9 H10 H11 H12 H13 H14 H15
                    refine stepC (wanted_guard rfl rfl h69 rfl) fun K hK => ?_
                    go_simp
                    exact hK _ (Below.refl _ _)
                  refine steps_cons (fun hn hl => ?_) fun H17 => ?_
                  · skip
                    have h69 := Sp.of_c (H15 (hn 15 (show 15 ∈ [15] from .head _)))
                    clear hn hl H0 H1 H2 H3 H4 H5 H6 H7 H8 H9 H10 H11 H12 H13 H14 H15 H16
                    refine stepC (wanted_guard rfl rfl h69 rfl) fun K hK => ?_
                    go_simp
                    exact hK _ (Below.refl _ _)
                  refine steps_cons (fun hn hl => ?_) fun H18 => ?_
                  · skip
                    have h70 := Sp.of_g (H16 (hn 16 (show 16 ∈ [16, 17, 15] from .head _))) rfl
                    have h71 := Sp.of_g (H17 (hn 17 (show 17 ∈ [16, 17, 15] from .tail _ (.head _)))) rfl
                    have h69 := Sp.of_c (H15 (hn 15 (show 15 ∈ [16, 17, 15] from .tail _ (.tail _ (.head _)))))
                    clear hn hl H0 H1 H2 H3 H4 H5 H6 H7 H8 H9 H10 H11 H12 H13 H14 H15 H16 H17
                    refine stepC (wanted_guard rfl rfl h69 rfl) fun K hK => ?_
                    go_simp
                    exact hK _ (Below.refl _ _)
                  refine steps_cons (fun hn hl => ?_) fun H19 => ?_
                  · skip
                    have h72 := Sp.of_g (H18 (hn 18 (show 18 ∈ [18, 15] from .head _))) rfl
                    have h69 := Sp.of_c (H15 (hn 15 (show 15 ∈ [18, 15] from .tail _ (.head _))))
                    clear hn hl H0 H1 H2 H3 H4 H5 H6 H7 H8 H9 H10 H11 H12 H13 H14 H15 H16 H17 H18
                    refine stepC (wanted_guard rfl rfl h69 rfl) fun K hK => ?_
                    go_simp
                    exact hK _ (Below.refl _ _)
                  refine steps_cons (fun hn hl => ?_) fun H20 => ?_
                  · skip
                    have h69 := Sp.of_c (H15 (hn 15 (show 15 ∈ [15] from .head _)))
                    clear hn hl H0 H1 H2 H3 H4 H5 H6 H7 H8 H9 H10 H11 H12 H13 H14 H15 H16 H17 H18 H19
                    refine stepC (wanted_guard rfl rfl h69 rfl) fun K hK => ?_
                    go_simp
                    exact hK _ (Below.refl _ _)
                  refine steps_cons (fun hn hl => ?_) fun H21 => ?_
                  · skip
                    have h73 := Sp.of_g (H19 (hn 19 (show 19 ∈ [19, 20, 15] from .head _))) rfl
                    have h74 := Sp.of_g (H20 (hn 20 (show 20 ∈ [19, 20, 15] from .tail _ (.head _)))) rfl
                    have h69 := Sp.of_c (H15 (hn 15 (show 15 ∈ [19, 20, 15] from .tail _ (.tail _ (.head _)))))
                    clear hn hl H0 H1 H2 H3 H4 H5 H6 H7 H8 H9 H10 H11 H12 H13 H14 H15 H16 H17 H18 H19 H20
                    refine stepC (wanted_guard rfl rfl h69 rfl) fun K hK => ?_
                    go_simp
                    first
                      | ((with_reducible refine (HTR.out _).mono ?_); rintro e w6 ⟨rfl, hb6⟩; exact hK _ hb6)
                      | ((with_reducible refine (HFR.out _).mono ?_); rintro e w6 ⟨rfl, hb6⟩; exact hK _ hb6)
                      | ((with_reducible refine (HTF.out _).mono ?_); rintro e w6 ⟨rfl, hb6⟩; exact hK _ hb6)
                      | ((with_reducible refine (HONC.out _ (HSX.out.later hbm)).mono ?_); rintro e w6 ⟨rfl, hb6⟩; exact hK _ hb6)
                      | ((with_reducible refine (HTI.out _).mono ?_); rintro e w6 ⟨rfl, hb6⟩; exact hK _ hb6)
                      | ((with_reducible refine (HSU.out _).mono ?_); rintro e w6 ⟨rfl, hb6⟩; exact hK _ hb6)
                      | ((with_reducible refine (HLF.out _).mono ?_); rintro e w6 ⟨rfl, hb6⟩; exact hK _ hb6)
                  refine steps_cons (fun hn hl => ?_) fun H22 => ?_
                  · skip
                    have h69 := Sp.of_c (H15 (hn 15 (show 15 ∈ [15, 21] from .head _)))
                    have h75 := Sp.of_g (H21 (hn 21 (show 21 ∈ [15, 21] from .tail _ (.head _)))) rfl
                    clear hn hl H0 H1 H2 H3 H4 H5 H6 H7 H8 H9 H10 H11 H12 H13 H14 H15 H16 H17 H18 H19 H20 H21
                    refine stepC (wanted_free rfl) fun K hK => ?_
                    go_simp
                    exact hK _ (Below.refl _ _)
                  refine steps_cons (fun hn hl => ?_) fun H23 => ?_
                  · skip
                    have h76 := Sp.of_c (H22 (hn 22 (show 22 ∈ [22] from .head _)))
                    clear hn hl H0 H1 H2 H3 H4 H5 H6 H7 H8 H9 H10 H11 H12 H13 H14 H15 H16 H17 H18 H19 H20 H21 H22
                    refine stepC (wanted_free rfl) fun K hK => ?_
                    go_simp
                    exact hK _ (Below.refl _ _)
                  refine steps_cons (fun hn hl => ?_) fun H24 => ?_
                  · skip
                    have h77 := Sp.of_c (H23 (hn 23 (show 23 ∈ [23] from .head _)))
                    clear hn hl H0 H1 H2 H3 H4 H5 H6 H7 H8 H9 H10 H11 H12 H13 H14 H15 H16 H17 H18 H19 H20 H21 H22 H23
                    refine stepC (wanted_guard rfl rfl h77 rfl) fun K hK => ?_
                    go_simp
                    exact hK _ (Below.refl _ _)
                  refine steps_cons (fun hn hl => ?_) fun H25 => ?_
                  · skip
                    have h78 := Sp.of_g (H24 (hn 24 (show 24 ∈ [24, 23] from .head _))) rfl
                    have h77 := Sp.of_c (H23 (hn 23 (show 23 ∈ [24, 23] from .tail _ (.head _))))
                    clear hn hl H0 H1 H2 H3 H4 H5 H6 H7 H8 H9 H10 H11 H12 H13 H14 H15 H16 H17 H18 H19 H20 H21 H22 H23 H24
                    refine stepC (wanted_guard rfl rfl h77 rfl) fun K hK => ?_
                    go_simp
                    exact hK _ (Below.refl _ _)
                  refine steps_cons (fun hn hl => ?_) fun H26 => ?_
                  · skip
                    have h77 := Sp.of_c (H23 (hn 23 (show 23 ∈ [23] from .head _)))
                    clear hn hl H0 H1 H2 H3 H4 H5 H6 H7 H8 H9 H10 H11 H12 H13 H14 H15 H16 H17 H18 H19 H20 H21 H22 H23 H24 H25
                    refine stepC (wanted_guard rfl rfl h77 rfl) fun K hK => ?_
                    go_simp
                    exact hK _ (Below.refl _ _)
                  refine steps_cons (fun hn hl => ?_) fun H27 => ?_
                  · skip
                    have h77 := Sp.of_c (H23 (hn 23 (show 23 ∈ [23] from .head _)))
                    clear hn hl H0 H1 H2 H3 H4 H5 H6 H7 H8 H9 H10 H11 H12 H13 H14 H15 H16 H17 H18 H19 H20 H21 H22 H23 H24 H25 H26
                    refine stepC (wanted_guard rfl rfl h77 rfl) fun K hK => ?_
                    go_simp
                    exact hK _ (Below.refl _ _)
                  refine steps_cons (fun hn hl => ?_) fun H28 => ?_
                  · skip
                    have h80 := Sp.of_g (H26 (hn 26 (show 26 ∈ [26, 27, 23] from .head _))) rfl
                    have h81 := Sp.of_g (H27 (hn 27 (show 27 ∈ [26, 27, 23] from .tail _ (.head _)))) rfl
                    have h77 := Sp.of_c (H23 (hn 23 (show 23 ∈ [26, 27, 23] from .tail _ (.tail _ (.head _)))))
                    clear hn hl H0 H1 H2 H3 H4 H5 H6 H7 H8 H9 H10 H11 H12 H13 H14 H15 H16 H17 H18 H19 H20 H21 H22 H23 H24 H25 H26 H27
                    refine stepC (wanted_guard rfl rfl h77 rfl) fun K hK => ?_
                    go_simp
                    first
                      | ((with_reducible refine (HTR.out _).mono ?_); rintro e w6 ⟨rfl, hb6⟩; exact hK _ hb6)
                      | ((with_reducible refine (HFR.out _).mono ?_); rintro e w6 ⟨rfl, hb6⟩; exact hK _ hb6)
                      | ((with_reducible refine (HTF.out _).mono ?_); rintro e w6 ⟨rfl, hb6⟩; exact hK _ hb6)
                      | ((with_reducible refine (HONC.out _ (HSX.out.later hbm)).mono ?_); rintro e w6 ⟨rfl, hb6⟩; exact hK _ hb6)
                      | ((with_reducible refine (HTI.out _).mono ?_); rintro e w6 ⟨rfl, hb6⟩; exact hK _ hb6)
                      | ((with_reducible refine (HSU.out _).mono ?_); rintro e w6 ⟨rfl, hb6⟩; exact hK _ hb6)
                      | ((with_reducible refine (HLF.out _).mono ?_); rintro e w6 ⟨rfl, hb6⟩; exact hK _ hb6)
                  refine steps_cons (fun hn hl => ?_) fun H29 => ?_
                  · skip
                    have h79 := Sp.of_g (H25 (hn 25 (show 25 ∈ [25, 28, 23] from .head _))) rfl
                    have h82 := Sp.of_g (H28 (hn 28 (show 28 ∈ [25, 28, 23] from .tail _ (.head _)))) rfl
                    have h77 := Sp.of_c (H23 (hn 23 (show 23 ∈ [25, 28, 23] from .tail _ (.tail _ (.head _)))))
                    clear hn hl H0 H1 H2 H3 H4 H5 H6 H7 H8 H9 H10 H11 H12 H13 H14 H15 H16 H17 H18 H19 H20 H21 H22 H23 H24 H25 H26 H27 H28
                    refine stepC (wanted_guard rfl rfl h77 rfl) fun K hK => ?_
                    go_simp
                    first
                      | ((with_reducible refine (HTR.out _).mono ?_); rintro e w6 ⟨rfl, hb6⟩; exact hK _ hb6)
                      | ((with_reducible refine (HFR.out _).mono ?_); rintro e w6 ⟨rfl, hb6⟩; exact hK _ hb6)
                      | ((with_reducible refine (HTF.out _).mono ?_); rintro e w6 ⟨rfl, hb6⟩; exact hK _ hb6)
                      | ((with_reducible refine (HONC.out _ (HSX.out.later hbm)).mono ?_); rintro e w6 ⟨rfl, hb6⟩; exact hK _ hb6)
                      | ((with_reducible refine (HTI.out _).mono ?_); rintro e w6 ⟨rfl, hb6⟩; exact hK _ hb6)
                      | ((with_reducible refine (HSU.out _).mono ?_); rintro e w6 ⟨rfl, hb6⟩; exact hK _ hb6)
                      | ((with_reducible refine (HLF.out _).mono ?_); rintro e w6 ⟨rfl, hb6⟩; exact hK _ hb6)
                  refine steps_cons (fun hn hl => ?_) fun H30 => ?_
                  · skip
                    have h77 := Sp.of_c (H23 (hn 23 (show 23 ∈ [23] from .head _)))
                    clear hn hl H0 H1 H2 H3 H4 H5 H6 H7 H8 H9 H10 H11 H12 H13 H14 H15 H16 H17 H18 H19 H20 H21 H22 H23 H24 H25 H26 H27 H28 H29
                    refine stepC (wanted_guard rfl rfl h77 rfl) fun K hK => ?_
                    go_simp
                    exact hK _ (Below.refl _ _)
                  refine steps_cons (fun hn hl => ?_) fun H31 => ?_
                  · skip
                    have h77 := Sp.of_c (H23 (hn 23 (show 23 ∈ [23] from .head _)))
                    clear hn hl H0 H1 H2 H3 H4 H5 H6 H7 H8 H9 H10 H11 H12 H13 H14 H15 H16 H17 H18 H19 H20 H21 H22 H23 H24 H25 H26 H27 H28 H29 H30
                    refine stepC (wanted_guard rfl rfl h77 rfl) fun K hK => ?_
                    go_simp
                    exact hK _ (Below.refl _ _)
                  refine steps_cons (fun hn hl => ?_) fun H32 => ?_
                  · skip
                    have h77 := Sp.of_c (H23 (hn 23 (show 23 ∈ [23] from .head _)))
                    clear hn hl H0 H1 H2 H3 H4 H5 H6 H7 H8 H9 H10 H11 H12 H13 H14 H15 H16 H17 H18 H19 H20 H21 H22 H23 H24 H25 H26 H27 H28 H29 H30 H31
                    refine stepC (wanted_guard rfl rfl h77 rfl) fun K hK => ?_
                    go_simp
                    exact hK _ (Below.refl _ _)
                  refine steps_cons (fun hn hl => ?_) fun H33 => ?_
                  · skip
                    have h85 := Sp.of_g (H31 (hn 31 (show 31 ∈ [31, 32, 23] from .head _))) rfl
                    have h86 := Sp.of_g (H32 (hn 32 (show 32 ∈ [31, 32, 23] from .tail _ (.head _)))) rfl
                    have h77 := Sp.of_c (H23 (hn 23 (show 23 ∈ [31, 32, 23] from .tail _ (.tail _ (.head _)))))
                    clear hn hl H0 H1 H2 H3 H4 H5 H6 H7 H8 H9 H10 H11 H12 H13 H14 H15 H16 H17 H18 H19 H20 H21 H22 H23 H24 H25 H26 H27 H28 H29 H30 H31 H32
                    refine stepC (wanted_guard rfl rfl h77 rfl) fun K hK => ?_
                    go_simp
                    exact hK _ (Below.refl _ _)
                  refine steps_cons (fun hn hl => ?_) fun H34 => ?_
                  · skip
                    have h87 := Sp.of_g (H33 (hn 33 (show 33 ∈ [33, 23] from .head _))) rfl
                    have h77 := Sp.of_c (H23 (hn 23 (show 23 ∈ [33, 23] from .tail _ (.head _))))
                    clear hn hl H0 H1 H2 H3 H4 H5 H6 H7 H8 H9 H10 H11 H12 H13 H14 H15 H16 H17 H18 H19 H20 H21 H22 H23 H24 H25 H26 H27 H28 H29 H30 H31 H32 H33
                    refine stepC (wanted_guard rfl rfl h77 rfl) fun K hK => ?_
                    go_simp
                    exact hK _ (Below.refl _ _)
                  refine steps_cons (fun hn hl => ?_) fun H35 => ?_
                  · skip
                    have h84 := Sp.of_g (H30 (hn 30 (show 30 ∈ [30, 34, 23] from .head _))) rfl
                    have h88 := Sp.of_g (H34 (hn 34 (show 34 ∈ [30, 34, 23] from .tail _ (.head _)))) rfl
                    have h77 := Sp.of_c (H23 (hn 23 (show 23 ∈ [30, 34, 23] from .tail _ (.tail _ (.head _)))))
                    clear hn hl H0 H1 H2 H3 H4 H5 H6 H7 H8 H9 H10 H11 H12 H13 H14 H15 H16 H17 H18 H19 H20 H21 H22 H23 H24 H25 H26 H27 H28 H29 H30 H31 H32 H33 H34
                    refine stepC (wanted_guard rfl rfl h77 rfl) fun K hK => ?_
                    go_simp
                    first
                      | ((with_reducible refine (HTR.out _).mono ?_); rintro e w6 ⟨rfl, hb6⟩; exact hK _ hb6)
                      | ((with_reducible refine (HFR.out _).mono ?_); rintro e w6 ⟨rfl, hb6⟩; exact hK _ hb6)
                      | ((with_reducible refine (HTF.out _).mono ?_); rintro e w6 ⟨rfl, hb6⟩; exact hK _ hb6)
                      | ((with_reducible refine (HONC.out _ (HSX.out.later hbm)).mono ?_); rintro e w6 ⟨rfl, hb6⟩; exact hK _ hb6)
                      | ((with_reducible refine (HTI.out _).mono ?_); rintro e w6 ⟨rfl, hb6⟩; exact hK _ hb6)
                      | ((with_reducible refine (HSU.out _).mono ?_); rintro e w6 ⟨rfl, hb6⟩; exact hK _ hb6)
                      | ((with_reducible refine (HLF.out _).mono ?_); rintro e w6 ⟨rfl, hb6⟩; exact hK _ hb6)
                  refine steps_cons (fun hn hl => ?_) fun H36 => ?_
                  · skip
                    have h83 := Sp.of_g (H29 (hn 29 (show 29 ∈ [29, 35, 23] from .head _))) rfl
                    have h89 := Sp.of_g (H35 (hn 35 (show 35 ∈ [29, 35, 23] from .tail _ (.head _)))) rfl
                    have h77 := Sp.of_c (H23 (hn 23 (show 23 ∈ [29, 35, 23] from .tail _ (.tail _ (.head _)))))
                    clear hn hl H0 H1 H2 H3 H4 H5 H6 H7 H8 H9 H10 H11 H12 H13 H14 H15 H16 H17 H18 H19 H20 H21 H22 H23 H24 H25 H26 H27 H28 H29 H30 H31 H32 H33 H34 H35
                    refine stepC (wanted_guard rfl rfl h77 rfl) fun K hK => ?_
                    go_simp
                    first
                      | ((with_reducible refine (HTR.out _).mono ?_); rintro e w6 ⟨rfl, hb6⟩; exact hK _ hb6)
                      | ((with_reducible refine (HFR.out _).mono ?_); rintro e w6 ⟨rfl, hb6⟩; exact hK _ hb6)
                      | ((with_reducible refine (HTF.out _).mono ?_); rintro e w6 ⟨rfl, hb6⟩; exact hK _ hb6)
                      | ((with_reducible refine (HONC.out _ (HSX.out.later hbm)).mono ?_); rintro e w6 ⟨rfl, hb6⟩; exact hK _ hb6)
                      | ((with_reducible refine (HTI.out _).mono ?_); rintro e w6 ⟨rfl, hb6⟩; exact hK _ hb6)
                      | ((with_reducible refine (HSU.out _).mono ?_); rintro e w6 ⟨rfl, hb6⟩; exact hK _ hb6)
                      | ((with_reducible refine (HLF.out _).mono ?_); rintro e w6 ⟨rfl, hb6⟩; exact hK _ hb6)
                  refine steps_cons (fun hn hl => ?_) fun H37 => ?_
                  · skip
                    have h77 := Sp.of_c (H23 (hn 23 (show 23 ∈ [23, 36] from .head _)))
                    have h90 := Sp.of_g (H36 (hn 36 (show 36 ∈ [23, 36] from .tail _ (.head _)))) rfl
                    clear hn hl H0 H1 H2 H3 H4 H5 H6 H7 H8 H9 H10 H11 H12 H13 H14 H15 H16 H17 H18 H19 H20 H21 H22 H23 H24 H25 H26 H27 H28 H29 H30 H31 H32 H33 H34 H35 H36
                    refine stepC (wanted_free rfl) fun K hK => ?_
                    go_simp
                    exact hK _ (Below.refl _ _)
                  exact trivial
                · intro w12 hb12
                  have hz12 := hb12.size
                  refine end_cons ?_; rintro _ rfl
                  refine end_cons ?_; rintro _ rfl
                  refine end_cons ?_; rintro _ rfl
                  refine end_cons ?_; rintro _ rfl
                  refine end_cons ?_; rintro _ rfl
                  refine end_cons ?_; rintro _ rfl
                  refine end_cons ?_; rintro _ rfl
                  refine end_cons ?_; rintro _ rfl
                  refine end_cons ?_; rintro _ rfl
                  refine end_cons ?_; rintro _ rfl
                  refine end_cons ?_; rintro _ rfl
                  refine end_cons ?_; rintro _ rfl
                  refine end_cons ?_; rintro _ rfl
                  refine end_cons ?_; rintro _ rfl
                  refine end_cons ?_; rintro _ rfl
                  refine end_cons ?_; rintro _ rfl
                  refine end_cons ?_; rintro _ rfl
                  refine end_cons ?_; rintro _ rfl
                  refine end_cons ?_; rintro _ rfl
                  refine end_cons ?_; rintro _ rfl
                  refine end_cons ?_; rintro _ rfl
                  refine end_cons ?_; rintro _ rfl
                  refine end_cons ?_; rintro _ rfl
                  refine end_cons ?_; rintro _ rfl
                  refine end_cons ?_; rintro _ rfl
                  refine end_cons ?_; rintro _ rfl
                  refine end_cons ?_; rintro _ rfl
                  refine end_cons ?_; rintro _ rfl
                  refine end_cons ?_; rintro _ rfl
                  refine end_cons ?_; rintro _ rfl
                  refine end_cons ?_; rintro _ rfl
                  refine end_cons ?_; rintro _ rfl
                  refine end_cons ?_; rintro _ rfl
                  refine end_cons ?_; rintro _ rfl
                  refine end_cons ?_; rintro _ rfl
                  refine end_cons ?_; rintro _ rfl
                  refine end_cons ?_; rintro _ rfl
                  refine end_cons ?_; rintro _ rfl
                  refine end_nil ?_
                  simp only [List.setIfInBounds_toArray, List.set_cons_succ, List.set_cons_zero, Bool.not_false, Bool.not_true, Bool.true_or, Bool.or_true, Bool.false_or, Bool.or_false]
                  go_wp2_with fail
                  replace HFX := Lib.hid (HFX.out.later hb12)
                  replace z0 := carry hb12 z0
                  replace z1 := carry hb12 z1
                  replace z2 := carry hb12 z2
                  replace z3 := carry hb12 z3
                  refine region_mono_tail 6 (ps13 tb tq ts.length tc k sb t f) [92, 93, 94, 95, 96, 97] (by kernel_rfl) (by kernel_rfl) (by kernel_rfl) (by kernel_rfl) (by kernel_rfl) (stables_cons (Sp.c_stable _ _) (stables_cons (Sp.c_stable _ _) (stables_cons (Sp.c_stable _ _) (stables_cons (Sp.c_stable _ _) (stables_cons (Sp.c_stable _ _) (stables_cons (Sp.c_stable _ _) (trivial))))))) ?_ ?_
                  · intro am wm L hbm hbase hbase2
                    have s2 : am.tmps.getD 2 undef = .slice (some ⟨tb, tq, none⟩) ts.length tc := (hbase 2 rfl).trans (by simp only [Array.getD_eq_getD_getElem?, List.getElem?_toArray, List.getElem?_cons_succ, List.getElem?_cons_zero, Option.getD_some])
                    have s10 : am.tmps.getD 10 undef = .int .i64 (k : Int) := (hbase 10 rfl).trans (by simp only [Array.getD_eq_getD_getElem?, List.getElem?_toArray, List.getElem?_cons_succ, List.getElem?_cons_zero, Option.getD_some])
                    have s11 : am.tmps.getD 11 undef = .pointer (some ⟨sb, 0, none⟩) := (hbase 11 rfl).trans (by simp only [Array.getD_eq_getD_getElem?, List.getElem?_toArray, List.getElem?_cons_succ, List.getElem?_cons_zero, Option.getD_some])
                    clear hbase hbase2
                    obtain ⟨x0, x1, x2, x3, _, _, _, _⟩ := HFX.out.later hbm
                    have q0 := carry hbm z0
                    have q1 := carry hbm z1
                    have q2 := carry hbm z2
                    have q3 := carry hbm z3
                    refine steps_cons (fun hn hl => ?_) fun H0 => ?_
                    · skip
                      clear hn hl 
                      refine stepC (wanted_free rfl) fun K hK => ?_
                      go_simp
                      exact hK _ (Below.refl _ _)
                    refine steps_cons (fun hn hl => ?_) fun H1 => ?_
                    · skip
                      clear hn hl H0
                      refine stepC (wanted_free rfl) fun K hK => ?_
                      go_simp
                      exact hK _ (Below.refl _ _)
                    refine steps_cons (fun hn hl => ?_) fun H2 => ?_
                    · skip
                      clear hn hl H0 H1
                      refine stepC (wanted_free rfl) fun K hK => ?_
                      go_simp
                      exact hK _ (Below.refl _ _)
                    refine steps_cons (fun hn hl => ?_) fun H3 => ?_
                    · skip
                      have h93 := Sp.of_c (H1 (hn 1 (show 1 ∈ [1, 2] from .head _)))
                      have h94 := Sp.of_c (H2 (hn 2 (show 2 ∈ [1, 2] from .tail _ (.head _))))
                      clear hn hl H0 H1 H2
                      refine stepC (wanted_free rfl) fun K hK => ?_
                      go_simp
                      exact hK _ (Below.refl _ _)
                    refine steps_cons (fun hn hl => ?_) fun H4 => ?_
                    · skip
                      have h95 := Sp.of_c (H3 (hn 3 (show 3 ∈ [3] from .head _)))
                      clear hn hl H0 H1 H2 H3
                      refine stepC (wanted_free rfl) fun K hK => ?_
                      go_simp
                      exact hK _ (Below.refl _ _)
                    refine steps_cons (fun hn hl => ?_) fun H5 => ?_
                    · skip
                      have h92 := Sp.of_c (H0 (hn 0 (show 0 ∈ [0, 4] from .head _)))
                      have h96 := Sp.of_c (H4 (hn 4 (show 4 ∈ [0, 4] from .tail _ (.head _))))
                      clear hn hl H0 H1 H2 H3 H4
                      refine stepC (wanted_free rfl) fun K hK => ?_
                      go_simp
                      first
                        | ((with_reducible refine (HSU.out _).mono ?_); rintro e w6 ⟨rfl, hb6⟩; exact hK _ hb6)
                    exact trivial
                  · intro w13 hb13
                    have hz13 := hb13.size
                    refine end_cons ?_; rintro _ rfl
                    refine end_cons ?_; rintro _ rfl
                    refine end_cons ?_; rintro _ rfl
                    refine end_cons ?_; rintro _ rfl
                    refine end_cons ?_; rintro _ rfl
                    refine end_cons ?_; rintro _ rfl
                    refine end_nil ?_
                    simp only [List.setIfInBounds_toArray, List.set_cons_succ, List.set_cons_zero, Bool.not_false, Bool.not_true, Bool.true_or, Bool.or_true, Bool.false_or, Bool.or_false]
                    simp only [List.drop_succ_cons, List.drop_zero]
                    have HFY := Lib.hid (HFX.out.later hb13)
                    have hrx := Lib.hid ((hbx.trans (hb12.mono hbx.size)).trans (hb13.mono (Nat.le_trans hbx.size hz12)))
                    obtain ⟨x0, x1, x2, x3, x4, x5, x6, x7⟩ := HFY.out
                    go_upto_region 14 with fail
                    generalize hw14 : World.setCell (World.setCell (World.setCell (World.setCell w13 _ _) _ _) _ _) _ _ = w14
                    have hR14 : Res4 w14 sb (f.less t) := by rw [← hw14]; exact HFY.out.stored (f.less t)
                    have hr14 : Below wr.heap.size wr w14 := by rw [← hw14]; exact (((hrx.out.setCell (p := ⟨sb, 0, none⟩) HSB.out _).setCell (p := ⟨sb, 1, none⟩) HSB.out _).setCell (p := ⟨sb, 2, none⟩) HSB.out _).setCell (p := ⟨sb, 3, none⟩) HSB.out _
                    clear hw14 x0 x1 x2 x3 x4 x5 x6 x7 HFY
                    obtain ⟨x0, x1, x2, x3, x4, x5, x6, x7⟩ := hR14
                    have HOX := Lib.hid (own_later HO.out hr14)
                    have hb5x := k5r.trans (hr14.mono k5r.size)
                    go_wp2_with (at_builtin; refine pushOne _ _ 26 29 4 32 _ i0 Try.underlying26 hi hzz hzs hzb rfl (by decide) (by decide) w5.heap.size w5.heap.size m _ _ _ _ w5 _ rfl rfl rfl rfl rfl HOX.out hb5x (Nat.le_refl _) (hb5x.size) (by simp [Value.oneCell']) (by omega) ?_)
                    intro v' w15 hown hb15
                    go_wp2
                    go_roundw
                    case rel => exact ⟨k + 1, by omega, by go_num, hb15, Lib.hid ⟨acc ++ [(f.less t)], by rw [List.length_append, vcsV_app, vcsV_one, HM.out]; exact hown, by rw [List.length_append, hacc]; rfl, HX.out⟩⟩
                    case measure => simp [intOf]; omega
              · rw [fits_no c5'] at HLF
                have HX := Lib.hid (HCU.out f ((HCV.out f).trans (if_neg (fun x => c5' x.2.2.2.2))))
                clear HCU HCV c2 c3 c4 c5'
                refine region_mono (ps12 (some ⟨tb, tq, none⟩) ts.length tc w.heap.size a5 A.length c5 k sb tb tq t f need on true true true true false) [54, 55, 56, 57, 58, 59, 60, 61, 62, 63, 64, 65, 66, 67, 68, 69, 70, 71, 72, 73, 74, 75, 76, 77, 78, 79, 80, 81, 82, 83, 84, 85, 86, 87, 88, 89, 90, 91] (by kernel_rfl) (by kernel_rfl) (by kernel_rfl) (by kernel_rfl) (stables_cons (Sp.c_stable _ _) (stables_cons (Sp.c_stable _ _) (stables_cons (Sp.c_stable _ _) (stables_cons (Sp.c_stable _ _) (stables_cons (Sp.c_stable _ _) (stables_cons (Sp.g_stable _ _ _) (stables_cons (Sp.g_stable _ _ _) (stables_cons (Sp.g_stable _ _ _) (stables_cons (Sp.g_stable _ _ _) (stables_cons (Sp.g_stable _ _ _) (stables_cons (Sp.c_stable _ _) (stables_cons (Sp.c_stable _ _) (stables_cons (Sp.g_stable _ _ _) (stables_cons (Sp.g_stable _ _ _) (stables_cons (Sp.c_stable _ _) (stables_cons (Sp.c_stable _ _) (stables_cons (Sp.g_stable _ _ _) (stables_cons (Sp.g_stable _ _ _) (stables_cons (Sp.g_stable _ _ _) (stables_cons (Sp.g_stable _ _ _) (stables_cons (Sp.g_stable _ _ _) (stables_cons (Sp.g_stable _ _ _) (stables_cons (Sp.c_stable _ _) (stables_cons (Sp.c_stable _ _) (stables_cons (Sp.g_stable _ _ _) (stables_cons (Sp.g_stable _ _ _) (stables_cons (Sp.g_stable _ _ _) (stables_cons (Sp.g_stable _ _ _) (stables_cons (Sp.g_stable _ _ _) (stables_cons (Sp.g_stable _ _ _) (stables_cons (Sp.g_stable _ _ _) (stables_cons (Sp.g_stable _ _ _) (stables_cons (Sp.g_stable _ _ _) (stables_cons (Sp.g_stable _ _ _) (stables_cons (Sp.g_stable _ _ _) (stables_cons (Sp.g_stable _ _ _) (stables_cons (Sp.g_stable _ _ _) (stables_cons (Sp.c_stable _ _) (trivial))))))))))))))))))))))))))))))))))))))) ?_ ?_
                · intro am wm L hbm hbase hbase2
                  have s2 : am.tmps.getD 2 undef = .slice (some ⟨tb, tq, none⟩) ts.length tc := (hbase 2 rfl).trans (by simp only [Array.getD_eq_getD_getElem?, List.getElem?_toArray, List.getElem?_cons_succ, List.getElem?_cons_zero, Option.getD_some])
                  have s4 : am.tmps.getD 4 undef = .pointer (some ⟨w.heap.size, 0, none⟩) := (hbase 4 rfl).trans (by simp only [Array.getD_eq_getD_getElem?, List.getElem?_toArray, List.getElem?_cons_succ, List.getElem?_cons_zero, Option.getD_some])
                  have s7 : am.tmps.getD 7 undef = .slice a5 A.length c5 := (hbase 7 rfl).trans (by simp only [Array.getD_eq_getD_getElem?, List.getElem?_toArray, List.getElem?_cons_succ, List.getElem?_cons_zero, Option.getD_some])
                  have s10 : am.tmps.getD 10 undef = .int .i64 (k : Int) := (hbase 10 rfl).trans (by simp only [Array.getD_eq_getD_getElem?, List.getElem?_toArray, List.getElem?_cons_succ, List.getElem?_cons_zero, Option.getD_some])
                  have s11 : am.tmps.getD 11 undef = .pointer (some ⟨sb, 0, none⟩) := (hbase 11 rfl).trans (by simp only [Array.getD_eq_getD_getElem?, List.getElem?_toArray, List.getElem?_cons_succ, List.getElem?_cons_zero, Option.getD_some])
                  clear hbase hbase2
                  have HCm := HCX.out.later hbm
                  obtain ⟨m0, m1, m2, m3, m4, m5⟩ := HCm
                  obtain ⟨x0, x1, x2, x3, _, _, _, _⟩ := HFX.out.later hbm
                  have q0 := carry hbm z0
                  have q1 := carry hbm z1
                  have q2 := carry hbm z2
                  have q3 := carry hbm z3
                  refine steps_cons (fun hn hl => ?_) fun H0 => ?_
                  · skip
                    clear hn hl 
                    refine stepC (wanted_free rfl) fun K hK => ?_
                    go_simp
                    exact hK _ (Below.refl _ _)
                  refine steps_cons (fun hn hl => ?_) fun H1 => ?_
                  · skip
                    clear hn hl H0
                    refine stepC (wanted_free rfl) fun K hK => ?_
                    go_simp
                    exact hK _ (Below.refl _ _)
                  refine steps_cons (fun hn hl => ?_) fun H2 => ?_
                  · skip
                    have h55 := Sp.of_c (H1 (hn 1 (show 1 ∈ [1] from .head _)))
                    clear hn hl H0 H1
                    refine stepC (wanted_free rfl) fun K hK => ?_
                    go_simp
                    exact hK _ (Below.refl _ _)
                  refine steps_cons (fun hn hl => ?_) fun H3 => ?_
                  · skip
                    have h54 := Sp.of_c (H0 (hn 0 (show 0 ∈ [0, 2] from .head _)))
                    have h56 := Sp.of_c (H2 (hn 2 (show 2 ∈ [0, 2] from .tail _ (.head _))))
                    clear hn hl H0 H1 H2
                    refine stepC (wanted_free rfl) fun K hK => ?_
                    go_simp
                    exact hK _ (Below.refl _ _)
                  refine steps_cons (fun hn hl => ?_) fun H4 => ?_
                  · skip
                    have h57 := Sp.of_c (H3 (hn 3 (show 3 ∈ [3] from .head _)))
                    clear hn hl H0 H1 H2 H3
                    refine stepC (wanted_free rfl) fun K hK => ?_
                    go_simp
                    exact hK _ (Below.refl _ _)
                  refine steps_cons (fun hn hl => ?_) fun H5 => ?_
                  · skip
                    have h58 := Sp.of_c (H4 (hn 4 (show 4 ∈ [4] from .head _)))
                    clear hn hl H0 H1 H2 H3 H4
                    refine stepC (wanted_guard rfl rfl h58 rfl) fun K hK => ?_
                    go_simp
                    exact hK _ (Below.refl _ _)
                  refine steps_cons (fun hn hl => ?_) fun H6 => ?_
                  · skip
                    have h58 := Sp.of_c (H4 (hn 4 (show 4 ∈ [4] from .head _)))
                    clear hn hl H0 H1 H2 H3 H4 H5
                    refine stepC (wanted_guard rfl rfl h58 rfl) fun K hK => ?_
                    go_simp
                    exact hK _ (Below.refl _ _)
                  refine steps_cons (fun hn hl => ?_) fun H7 => ?_
                  · skip
                    have h59 := Sp.of_g (H5 (hn 5 (show 5 ∈ [5, 6, 4] from .head _))) rfl
                    have h60 := Sp.of_g (H6 (hn 6 (show 6 ∈ [5, 6, 4] from .tail _ (.head _)))) rfl
                    have h58 := Sp.of_c (H4 (hn 4 (show 4 ∈ [5, 6, 4] from .tail _ (.tail _ (.head _)))))
                    clear hn hl H0 H1 H2 H3 H4 H5 H6
                    refine stepC (wanted_guard rfl rfl h58 rfl) fun K hK => ?_
                    go_simp
                    exact hK _ (Below.refl _ _)
                  refine steps_cons (fun hn hl => ?_) fun H8 => ?_
                  · skip
                    have h61 := Sp.of_g (H7 (hn 7 (show 7 ∈ [7, 4] from .head _))) rfl
                    have h58 := Sp.of_c (H4 (hn 4 (show 4 ∈ [7, 4] from .tail _ (.head _))))
                    clear hn hl H0 H1 H2 H3 H4 H5 H6 H7
                    refine stepC (wanted_guard rfl rfl h58 rfl) fun K hK => ?_
                    go_simp
                    exact hK _ (Below.refl _ _)
                  refine steps_cons (fun hn hl => ?_) fun H9 => ?_
                  · skip
                    have h62 := Sp.of_g (H8 (hn 8 (show 8 ∈ [8, 4] from .head _))) rfl
                    have h58 := Sp.of_c (H4 (hn 4 (show 4 ∈ [8, 4] from .tail _ (.head _))))
                    clear hn hl H0 H1 H2 H3 H4 H5 H6 H7 H8
                    refine stepC (wanted_guard rfl rfl h58 rfl) fun K hK => ?_
                    go_simp
                    first
                      | ((with_reducible refine (HTR.out _).mono ?_); rintro e w6 ⟨rfl, hb6⟩; exact hK _ hb6)
                      | ((with_reducible refine (HFR.out _).mono ?_); rintro e w6 ⟨rfl, hb6⟩; exact hK _ hb6)
                      | ((with_reducible refine (HTF.out _).mono ?_); rintro e w6 ⟨rfl, hb6⟩; exact hK _ hb6)
                      | ((with_reducible refine (HONC.out _ (HSX.out.later hbm)).mono ?_); rintro e w6 ⟨rfl, hb6⟩; exact hK _ hb6)
                      | ((with_reducible refine (HTI.out _).mono ?_); rintro e w6 ⟨rfl, hb6⟩; exact hK _ hb6)
                      | ((with_reducible refine (HSU.out _).mono ?_); rintro e w6 ⟨rfl, hb6⟩; exact hK _ hb6)
                      | ((with_reducible refine (HLF.out _).mono ?_); rintro e w6 ⟨rfl, hb6⟩; exact hK _ hb6)
                  refine steps_cons (fun hn hl => ?_) fun H10 => ?_
                  · skip
                    have h58 := Sp.of_c (H4 (hn 4 (show 4 ∈ [4, 9] from .head _)))
                    have h63 := Sp.of_g (H9 (hn 9 (show 9 ∈ [4, 9] from .tail _ (.head _)))) rfl
                    clear hn hl H0 H1 H2 H3 H4 H5 H6 H7 H8 H9
                    refine stepC (wanted_free rfl) fun K hK => ?_
                    go_simp
                    exact hK _ (Below.refl _ _)
                  refine steps_cons (fun hn hl => ?_) fun H11 => ?_
                  · skip
                    have h64 := Sp.of_c (H10 (hn 10 (show 10 ∈ [10] from .head _)))
                    clear hn hl H0 H1 H2 H3 H4 H5 H6 H7 H8 H9 H10
                    refine stepC (wanted_free rfl) fun K hK => ?_
                    go_simp
                    exact hK _ (Below.refl _ _)
                  refine steps_cons (fun hn hl => ?_) fun H12 => ?_
                  · skip
                    have h65 := Sp.of_c (H11 (hn 11 (show 11 ∈ [11] from .head _)))
                    clear hn hl H0 H1 H2 H3 H4 H5 H6 H7 H8 H9 H10 H11
                    refine stepC (wanted_guard rfl rfl h65 rfl) fun K hK => ?_
                    go_simp
                    exact hK _ (Below.refl _ _)
                  refine steps_cons (fun hn hl => ?_) fun H13 => ?_
                  · skip
                    have h66 := Sp.of_g (H12 (hn 12 (show 12 ∈ [12, 11] from .head _))) rfl
                    have h65 := Sp.of_c (H11 (hn 11 (show 11 ∈ [12, 11] from .tail _ (.head _))))
                    clear hn hl H0 H1 H2 H3 H4 H5 H6 H7 H8 H9 H10 H11 H12
                    refine stepC (wanted_guard rfl rfl h65 rfl) fun K hK => ?_
                    go_simp
                    first
                      | ((with_reducible refine (HTR.out _).mono ?_); rintro e w6 ⟨rfl, hb6⟩; exact hK _ hb6)
                      | ((with_reducible refine (HFR.out _).mono ?_); rintro e w6 ⟨rfl, hb6⟩; exact hK _ hb6)
                      | ((with_reducible refine (HTF.out _).mono ?_); rintro e w6 ⟨rfl, hb6⟩; exact hK _ hb6)
                      | ((with_reducible refine (HONC.out _ (HSX.out.later hbm)).mono ?_); rintro e w6 ⟨rfl, hb6⟩; exact hK _ hb6)
                      | ((with_reducible refine (HTI.out _).mono ?_); rintro e w6 ⟨rfl, hb6⟩; exact hK _ hb6)
                      | ((with_reducible refine (HSU.out _).mono ?_); rintro e w6 ⟨rfl, hb6⟩; exact hK _ hb6)
                      | ((with_reducible refine (HLF.out _).mono ?_); rintro e w6 ⟨rfl, hb6⟩; exact hK _ hb6)
                  refine steps_cons (fun hn hl => ?_) fun H14 => ?_
                  · skip
                    have h65 := Sp.of_c (H11 (hn 11 (show 11 ∈ [11, 13] from .head _)))
                    have h67 := Sp.of_g (H13 (hn 13 (show 13 ∈ [11, 13] from .tail _ (.head _)))) rfl
                    clear hn hl H0 H1 H2 H3 H4 H5 H6 H7 H8 H9 H10 H11 H12 H13
                    refine stepC (wanted_free rfl) fun K hK => ?_
                    go_simp
                    exact hK _ (Below.refl _ _)
                  refine steps_cons (fun hn hl => ?_) fun H15 => ?_
                  · skip
                    have h68 := Sp.of_c (H14 (hn 14 (show 14 ∈ [14] from .head _)))
                    clear hn hl H0 H1 H2 H3 H4 H5 H6 H7 H8 H9 H10 H11 H12 H13 H14
                    refine stepC (wanted_free rfl) fun K hK => ?_
                    go_simp
                    exact hK _ (Below.refl _ _)
                  refine steps_cons (fun hn hl => ?_) fun H16 => ?_
                  · skip
                    have h69 := Sp.of_c (H15 (hn 15 (show 15 ∈ [15] from .head _)))
                    clear hn hl H0 H1 H2 H3 H4 H5 H6 H7 H8 H9 H10 H11 H12 H13 H14 H15
                    refine stepC (wanted_guard rfl rfl h69 rfl) fun K hK => ?_
                    go_simp
                    exact hK _ (Below.refl _ _)
                  refine steps_cons (fun hn hl => ?_) fun H17 => ?_
                  · skip
                    have h69 := Sp.of_c (H15 (hn 15 (show 15 ∈ [15] from .head _)))
                    clear hn hl H0 H1 H2 H3 H4 H5 H6 H7 H8 H9 H10 H11 H12 H13 H14 H15 H16
                    refine stepC (wanted_guard rfl rfl h69 rfl) fun K hK => ?_
                    go_simp
                    exact hK _ (Below.refl _ _)
                  refine steps_cons (fun hn hl => ?_) fun H18 => ?_
                  · skip
                    have h70 := Sp.of_g (H16 (hn 16 (show 16 ∈ [16, 17, 15] from .head _))) rfl
                    have h71 := Sp.of_g (H17 (hn 17 (show 17 ∈ [16, 17, 15] from .tail _ (.head _)))) rfl
                    have h69 := Sp.of_c (H15 (hn 15 (show 15 ∈ [16, 17, 15] from .tail _ (.tail _ (.head _)))))
                    clear hn hl H0 H1 H2 H3 H4 H5 H6 H7 H8 H9 H10 H11 H12 H13 H14 H15 H16 H17
                    refine stepC (wanted_guard rfl rfl h69 rfl) fun K hK => ?_
                    go_simp
                    exact hK _ (Below.refl _ _)
                  refine steps_cons (fun hn hl => ?_) fun H19 => ?_
                  · skip
                    have h72 := Sp.of_g (H18 (hn 18 (show 18 ∈ [18, 15] from .head _))) rfl
                    have h69 := Sp.of_c (H15 (hn 15 (show 15 ∈ [18, 15] from .tail _ (.head _))))
                    clear hn hl H0 H1 H2 H3 H4 H5 H6 H7 H8 H9 H10 H11 H12 H13 H14 H15 H16 H17 H18
                    refine stepC (wanted_guard rfl rfl h69 rfl) fun K hK => ?_
                    go_simp
                    exact hK _ (Below.refl _ _)
                  refine steps_cons (fun hn hl => ?_) fun H20 => ?_
                  · skip
                    have h69 := Sp.of_c (H15 (hn 15 (show 15 ∈ [15] from .head _)))
                    clear hn hl H0 H1 H2 H3 H4 H5 H6 H7 H8 H9 H10 H11 H12 H13 H14 H15 H16 H17 H18 H19
                    refine stepC (wanted_guard rfl rfl h69 rfl) fun K hK => ?_
                    go_simp
                    exact hK _ (Below.refl _ _)
                  refine steps_cons (fun hn hl => ?_) fun H21 => ?_
                  · skip
                    have h73 := Sp.of_g (H19 (hn 19 (show 19 ∈ [19, 20, 15] from .head _))) rfl
                    have h74 := Sp.of_g (H20 (hn 20 (show 20 ∈ [19, 20, 15] from .tail _ (.head _)))) rfl
                    have h69 := Sp.of_c (H15 (hn 15 (show 15 ∈ [19, 20, 15] from .tail _ (.tail _ (.head _)))))
                    clear hn hl H0 H1 H2 H3 H4 H5 H6 H7 H8 H9 H10 H11 H12 H13 H14 H15 H16 H17 H18 H19 H20
                    refine stepC (wanted_guard rfl rfl h69 rfl) fun K hK => ?_
                    go_simp
                    first
                      | ((with_reducible refine (HTR.out _).mono ?_); rintro e w6 ⟨rfl, hb6⟩; exact hK _ hb6)
                      | ((with_reducible refine (HFR.out _).mono ?_); rintro e w6 ⟨rfl, hb6⟩; exact hK _ hb6)
                      | ((with_reducible refine (HTF.out _).mono ?_); rintro e w6 ⟨rfl, hb6⟩; exact hK _ hb6)
                      | ((with_reducible refine (HONC.out _ (HSX.out.later hbm)).mono ?_); rintro e w6 ⟨rfl, hb6⟩; exact hK _ hb6)
                      | ((with_reducible refine (HTI.out _).mono ?_); rintro e w6 ⟨rfl, hb6⟩; exact hK _ hb6)
                      | ((with_reducible refine (HSU.out _).mono ?_); rintro e w6 ⟨rfl, hb6⟩; exact hK _ hb6)
                      | ((with_reducible refine (HLF.out _).mono ?_); rintro e w6 ⟨rfl, hb6⟩; exact hK _ hb6)
                  refine steps_cons (fun hn hl => ?_) fun H22 => ?_
                  · skip
                    have h69 := Sp.of_c (H15 (hn 15 (show 15 ∈ [15, 21] from .head _)))
                    have h75 := Sp.of_g (H21 (hn 21 (show 21 ∈ [15, 21] from .tail _ (.head _)))) rfl
                    clear hn hl H0 H1 H2 H3 H4 H5 H6 H7 H8 H9 H10 H11 H12 H13 H14 H15 H16 H17 H18 H19 H20 H21
                    refine stepC (wanted_free rfl) fun K hK => ?_
                    go_simp
                    exact hK _ (Below.refl _ _)
                  refine steps_cons (fun hn hl => ?_) fun H23 => ?_
                  · skip
                    have h76 := Sp.of_c (H22 (hn 22 (show 22 ∈ [22] from .head _)))
                    clear hn hl H0 H1 H2 H3 H4 H5 H6 H7 H8 H9 H10 H11 H12 H13 H14 H15 H16 H17 H18 H19 H20 H21 H22
                    refine stepC (wanted_free rfl) fun K hK => ?_
                    go_simp
                    exact hK _ (Below.refl _ _)
                  refine steps_cons (fun hn hl => ?_) fun H24 => ?_
                  · skip
                    have h77 := Sp.of_c (H23 (hn 23 (show 23 ∈ [23] from .head _)))
                    clear hn hl H0 H1 H2 H3 H4 H5 H6 H7 H8 H9 H10 H11 H12 H13 H14 H15 H16 H17 H18 H19 H20 H21 H22 H23
                    refine stepC (wanted_guard rfl rfl h77 rfl) fun K hK => ?_
                    go_simp
                    exact hK _ (Below.refl _ _)
                  refine steps_cons (fun hn hl => ?_) fun H25 => ?_
                  · skip
                    have h78 := Sp.of_g (H24 (hn 24 (show 24 ∈ [24, 23] from .head _))) rfl
                    have h77 := Sp.of_c (H23 (hn 23 (show 23 ∈ [24, 23] from .tail _ (.head _))))
                    clear hn hl H0 H1 H2 H3 H4 H5 H6 H7 H8 H9 H10 H11 H12 H13 H14 H15 H16 H17 H18 H19 H20 H21 H22 H23 H24
                    refine stepC (wanted_guard rfl rfl h77 rfl) fun K hK => ?_
                    go_simp
                    exact hK _ (Below.refl _ _)
                  refine steps_cons (fun hn hl => ?_) fun H26 => ?_
                  · skip
                    have h77 := Sp.of_c (H23 (hn 23 (show 23 ∈ [23] from .head _)))
                    clear hn hl H0 H1 H2 H3 H4 H5 H6 H7 H8 H9 H10 H11 H12 H13 H14 H15 H16 H17 H18 H19 H20 H21 H22 H23 H24 H25
                    refine stepC (wanted_guard rfl rfl h77 rfl) fun K hK => ?_
                    go_simp
                    exact hK _ (Below.refl _ _)
                  refine steps_cons (fun hn hl => ?_) fun H27 => ?_
                  · skip
                    have h77 := Sp.of_c (H23 (hn 23 (show 23 ∈ [23] from .head _)))
                    clear hn hl H0 H1 H2 H3 H4 H5 H6 H7 H8 H9 H10 H11 H12 H13 H14 H15 H16 H17 H18 H19 H20 H21 H22 H23 H24 H25 H26
                    refine stepC (wanted_guard rfl rfl h77 rfl) fun K hK => ?_
                    go_simp
                    exact hK _ (Below.refl _ _)
                  refine steps_cons (fun hn hl => ?_) fun H28 => ?_
                  · skip
                    have h80 := Sp.of_g (H26 (hn 26 (show 26 ∈ [26, 27, 23] from .head _))) rfl
                    have h81 := Sp.of_g (H27 (hn 27 (show 27 ∈ [26, 27, 23] from .tail _ (.head _)))) rfl
                    have h77 := Sp.of_c (H23 (hn 23 (show 23 ∈ [26, 27, 23] from .tail _ (.tail _ (.head _)))))
                    clear hn hl H0 H1 H2 H3 H4 H5 H6 H7 H8 H9 H10 H11 H12 H13 H14 H15 H16 H17 H18 H19 H20 H21 H22 H23 H24 H25 H26 H27
                    refine stepC (wanted_guard rfl rfl h77 rfl) fun K hK => ?_
                    go_simp
                    first
                      | ((with_reducible refine (HTR.out _).mono ?_); rintro e w6 ⟨rfl, hb6⟩; exact hK _ hb6)
                      | ((with_reducible refine (HFR.out _).mono ?_); rintro e w6 ⟨rfl, hb6⟩; exact hK _ hb6)
                      | ((with_reducible refine (HTF.out _).mono ?_); rintro e w6 ⟨rfl, hb6⟩; exact hK _ hb6)
                      | ((with_reducible refine (HONC.out _ (HSX.out.later hbm)).mono ?_); rintro e w6 ⟨rfl, hb6⟩; exact hK _ hb6)
                      | ((with_reducible refine (HTI.out _).mono ?_); rintro e w6 ⟨rfl, hb6⟩; exact hK _ hb6)
                      | ((with_reducible refine (HSU.out _).mono ?_); rintro e w6 ⟨rfl, hb6⟩; exact hK _ hb6)
                      | ((with_reducible refine (HLF.out _).mono ?_); rintro e w6 ⟨rfl, hb6⟩; exact hK _ hb6)
                  refine steps_cons (fun hn hl => ?_) fun H29 => ?_
                  · skip
                    have h79 := Sp.of_g (H25 (hn 25 (show 25 ∈ [25, 28, 23] from .head _))) rfl
                    have h82 := Sp.of_g (H28 (hn 28 (show 28 ∈ [25, 28, 23] from .tail _ (.head _)))) rfl
                    have h77 := Sp.of_c (H23 (hn 23 (show 23 ∈ [25, 28, 23] from .tail _ (.tail _ (.head _)))))
                    clear hn hl H0 H1 H2 H3 H4 H5 H6 H7 H8 H9 H10 H11 H12 H13 H14 H15 H16 H17 H18 H19 H20 H21 H22 H23 H24 H25 H26 H27 H28
                    refine stepC (wanted_guard rfl rfl h77 rfl) fun K hK => ?_
                    go_simp
                    first
                      | ((with_reducible refine (HTR.out _).mono ?_); rintro e w6 ⟨rfl, hb6⟩; exact hK _ hb6)
                      | ((with_reducible refine (HFR.out _).mono ?_); rintro e w6 ⟨rfl, hb6⟩; exact hK _ hb6)
                      | ((with_reducible refine (HTF.out _).mono ?_); rintro e w6 ⟨rfl, hb6⟩; exact hK _ hb6)
                      | ((with_reducible refine (HONC.out _ (HSX.out.later hbm)).mono ?_); rintro e w6 ⟨rfl, hb6⟩; exact hK _ hb6)
                      | ((with_reducible refine (HTI.out _).mono ?_); rintro e w6 ⟨rfl, hb6⟩; exact hK _ hb6)
                      | ((with_reducible refine (HSU.out _).mono ?_); rintro e w6 ⟨rfl, hb6⟩; exact hK _ hb6)
                      | ((with_reducible refine (HLF.out _).mono ?_); rintro e w6 ⟨rfl, hb6⟩; exact hK _ hb6)
                  refine steps_cons (fun hn hl => ?_) fun H30 => ?_
                  · skip
                    have h77 := Sp.of_c (H23 (hn 23 (show 23 ∈ [23] from .head _)))
                    clear hn hl H0 H1 H2 H3 H4 H5 H6 H7 H8 H9 H10 H11 H12 H13 H14 H15 H16 H17 H18 H19 H20 H21 H22 H23 H24 H25 H26 H27 H28 H29
                    refine stepC (wanted_guard rfl rfl h77 rfl) fun K hK => ?_
                    go_simp
                    exact hK _ (Below.refl _ _)
                  refine steps_cons (fun hn hl => ?_) fun H31 => ?_
                  · skip
                    have h77 := Sp.of_c (H23 (hn 23 (show 23 ∈ [23] from .head _)))
                    clear hn hl H0 H1 H2 H3 H4 H5 H6 H7 H8 H9 H10 H11 H12 H13 H14 H15 H16 H17 H18 H19 H20 H21 H22 H23 H24 H25 H26 H27 H28 H29 H30
                    refine stepC (wanted_guard rfl rfl h77 rfl) fun K hK => ?_
                    go_simp
                    exact hK _ (Below.refl _ _)
                  refine steps_cons (fun hn hl => ?_) fun H32 => ?_
                  · skip
                    have h77 := Sp.of_c (H23 (hn 23 (show 23 ∈ [23] from .head _)))
                    clear hn hl H0 H1 H2 H3 H4 H5 H6 H7 H8 H9 H10 H11 H12 H13 H14 H15 H16 H17 H18 H19 H20 H21 H22 H23 H24 H25 H26 H27 H28 H29 H30 H31
                    refine stepC (wanted_guard rfl rfl h77 rfl) fun K hK => ?_
                    go_simp
                    exact hK _ (Below.refl _ _)
                  refine steps_cons (fun hn hl => ?_) fun H33 => ?_
                  · skip
                    have h85 := Sp.of_g (H31 (hn 31 (show 31 ∈ [31, 32, 23] from .head _))) rfl
                    have h86 := Sp.of_g (H32 (hn 32 (show 32 ∈ [31, 32, 23] from .tail _ (.head _)))) rfl
                    have h77 := Sp.of_c (H23 (hn 23 (show 23 ∈ [31, 32, 23] from .tail _ (.tail _ (.head _)))))
                    clear hn hl H0 H1 H2 H3 H4 H5 H6 H7 H8 H9 H10 H11 H12 H13 H14 H15 H16 H17 H18 H19 H20 H21 H22 H23 H24 H25 H26 H27 H28 H29 H30 H31 H32
                    refine stepC (wanted_guard rfl rfl h77 rfl) fun K hK => ?_
                    go_simp
                    exact hK _ (Below.refl _ _)
                  refine steps_cons (fun hn hl => ?_) fun H34 => ?_
                  · skip
                    have h87 := Sp.of_g (H33 (hn 33 (show 33 ∈ [33, 23] from .head _))) rfl
                    have h77 := Sp.of_c (H23 (hn 23 (show 23 ∈ [33, 23] from .tail _ (.head _))))
                    clear hn hl H0 H1 H2 H3 H4 H5 H6 H7 H8 H9 H10 H11 H12 H13 H14 H15 H16 H17 H18 H19 H20 H21 H22 H23 H24 H25 H26 H27 H28 H29 H30 H31 H32 H33
                    refine stepC (wanted_guard rfl rfl h77 rfl) fun K hK => ?_
                    go_simp
                    exact hK _ (Below.refl _ _)
                  refine steps_cons (fun hn hl => ?_) fun H35 => ?_
                  · skip
                    have h84 := Sp.of_g (H30 (hn 30 (show 30 ∈ [30, 34, 23] from .head _))) rfl
                    have h88 := Sp.of_g (H34 (hn 34 (show 34 ∈ [30, 34, 23] from .tail _ (.head _)))) rfl
                    have h77 := Sp.of_c (H23 (hn 23 (show 23 ∈ [30, 34, 23] from .tail _ (.tail _ (.head _)))))
                    clear hn hl H0 H1 H2 H3 H4 H5 H6 H7 H8 H9 H10 H11 H12 H13 H14 H15 H16 H17 H18 H19 H20 H21 H22 H23 H24 H25 H26 H27 H28 H29 H30 H31 H32 H33 H34
                    refine stepC (wanted_guard rfl rfl h77 rfl) fun K hK => ?_
                    go_simp
                    first
                      | ((with_reducible refine (HTR.out _).mono ?_); rintro e w6 ⟨rfl, hb6⟩; exact hK _ hb6)
                      | ((with_reducible refine (HFR.out _).mono ?_); rintro e w6 ⟨rfl, hb6⟩; exact hK _ hb6)
                      | ((with_reducible refine (HTF.out _).mono ?_); rintro e w6 ⟨rfl, hb6⟩; exact hK _ hb6)
                      | ((with_reducible refine (HONC.out _ (HSX.out.later hbm)).mono ?_); rintro e w6 ⟨rfl, hb6⟩; exact hK _ hb6)
                      | ((with_reducible refine (HTI.out _).mono ?_); rintro e w6 ⟨rfl, hb6⟩; exact hK _ hb6)
                      | ((with_reducible refine (HSU.out _).mono ?_); rintro e w6 ⟨rfl, hb6⟩; exact hK _ hb6)
                      | ((with_reducible refine (HLF.out _).mono ?_); rintro e w6 ⟨rfl, hb6⟩; exact hK _ hb6)
                  refine steps_cons (fun hn hl => ?_) fun H36 => ?_
                  · skip
                    have h83 := Sp.of_g (H29 (hn 29 (show 29 ∈ [29, 35, 23] from .head _))) rfl
                    have h89 := Sp.of_g (H35 (hn 35 (show 35 ∈ [29, 35, 23] from .tail _ (.head _)))) rfl
                    have h77 := Sp.of_c (H23 (hn 23 (show 23 ∈ [29, 35, 23] from .tail _ (.tail _ (.head _)))))
                    clear hn hl H0 H1 H2 H3 H4 H5 H6 H7 H8 H9 H10 H11 H12 H13 H14 H15 H16 H17 H18 H19 H20 H21 H22 H23 H24 H25 H26 H27 H28 H29 H30 H31 H32 H33 H34 H35
                    refine stepC (wanted_guard rfl rfl h77 rfl) fun K hK => ?_
                    go_simp
                    first
                      | ((with_reducible refine (HTR.out _).mono ?_); rintro e w6 ⟨rfl, hb6⟩; exact hK _ hb6)
                      | ((with_reducible refine (HFR.out _).mono ?_); rintro e w6 ⟨rfl, hb6⟩; exact hK _ hb6)
                      | ((with_reducible refine (HTF.out _).mono ?_); rintro e w6 ⟨rfl, hb6⟩; exact hK _ hb6)
                      | ((with_reducible refine (HONC.out _ (HSX.out.later hbm)).mono ?_); rintro e w6 ⟨rfl, hb6⟩; exact hK _ hb6)
                      | ((with_reducible refine (HTI.out _).mono ?_); rintro e w6 ⟨rfl, hb6⟩; exact hK _ hb6)
                      | ((with_reducible refine (HSU.out _).mono ?_); rintro e w6 ⟨rfl, hb6⟩; exact hK _ hb6)
                      | ((with_reducible refine (HLF.out _).mono ?_); rintro e w6 ⟨rfl, hb6⟩; exact hK _ hb6)
                  refine steps_cons (fun hn hl => ?_) fun H37 => ?_
                  · skip
                    have h77 := Sp.of_c (H23 (hn 23 (show 23 ∈ [23, 36] from .head _)))
                    have h90 := Sp.of_g (H36 (hn 36 (show 36 ∈ [23, 36] from .tail _ (.head _)))) rfl
                    clear hn hl H0 H1 H2 H3 H4 H5 H6 H7 H8 H9 H10 H11 H12 H13 H14 H15 H16 H17 H18 H19 H20 H21 H22 H23 H24 H25 H26 H27 H28 H29 H30 H31 H32 H33 H34 H35 H36
                    refine stepC (wanted_free rfl) fun K hK => ?_
                    go_simp
                    exact hK _ (Below.refl _ _)
                  exact trivial
                · intro w12 hb12
                  have hz12 := hb12.size
                  refine end_cons ?_; rintro _ rfl
                  refine end_cons ?_; rintro _ rfl
                  refine end_cons ?_; rintro _ rfl
                  refine end_cons ?_; rintro _ rfl
                  refine end_cons ?_; rintro _ rfl
                  refine end_cons ?_; rintro _ rfl
                  refine end_cons ?_; rintro _ rfl
                  refine end_cons ?_; rintro _ rfl
                  refine end_cons ?_; rintro _ rfl
                  refine end_cons ?_; rintro _ rfl
                  refine end_cons ?_; rintro _ rfl
                  refine end_cons ?_; rintro _ rfl
                  refine end_cons ?_; rintro _ rfl
                  refine end_cons ?_; rintro _ rfl
                  refine end_cons ?_; rintro _ rfl
                  refine end_cons ?_; rintro _ rfl
                  refine end_cons ?_; rintro _ rfl
                  refine end_cons ?_; rintro _ rfl
                  refine end_cons ?_; rintro _ rfl
                  refine end_cons ?_; rintro _ rfl
                  refine end_cons ?_; rintro _ rfl
                  refine end_cons ?_; rintro _ rfl
                  refine end_cons ?_; rintro _ rfl
                  refine end_cons ?_; rintro _ rfl
                  refine end_cons ?_; rintro _ rfl
                  refine end_cons ?_; rintro _ rfl
                  refine end_cons ?_; rintro _ rfl
                  refine end_cons ?_; rintro _ rfl
                  refine end_cons ?_; rintro _ rfl
                  refine end_cons ?_; rintro _ rfl
                  refine end_cons ?_; rintro _ rfl
                  refine end_cons ?_; rintro _ rfl
                  refine end_cons ?_; rintro _ rfl
                  refine end_cons ?_; rintro _ rfl
                  refine end_cons ?_; rintro _ rfl
                  refine end_cons ?_; rintro _ rfl
                  refine end_cons ?_; rintro _ rfl
                  refine end_cons ?_; rintro _ rfl
                  refine end_nil ?_
                  simp only [List.setIfInBounds_toArray, List.set_cons_succ, List.set_cons_zero, Bool.not_false, Bool.not_true, Bool.true_or, Bool.or_true, Bool.false_or, Bool.or_false]
                  have hr12 := hb12
                  have HFY := Lib.hid (HFX.out.later hb12)
                  have hb5x := Lib.hid (k5r.trans ((hbx.trans (hb12.mono hbx.size)).mono k5r.size))
                  have HOX := Lib.hid (own_later HO.out (hbx.trans (hb12.mono hbx.size)))
                  replace hb5x := hb5x.out
                  obtain ⟨x0, x1, x2, x3, x4, x5, x6, x7⟩ := HFY.out
                  go_wp2_with (at_builtin; refine pushOne _ _ 26 29 4 32 _ i0 Try.underlying26 hi hzz hzs hzb rfl (by decide) (by decide) w5.heap.size w5.heap.size m _ _ _ _ w5 _ rfl rfl rfl rfl rfl HOX.out hb5x (Nat.le_refl _) (hb5x.size) (by simp [Value.oneCell']) (by omega) ?_)
                  intro v' w15 hown hb15
                  go_wp2
                  go_roundw
                  case rel => exact ⟨k + 1, by omega, by go_num, hb15, Lib.hid ⟨acc ++ [f], by rw [List.length_append, vcsV_app, vcsV_one, HM.out]; exact hown, by rw [List.length_append, hacc]; rfl, HX.out⟩⟩
                  case measure => simp [intOf]; omega
            · rw [fits_no c4] at HTF
              have HX := Lib.hid (HCU.out f ((HCV.out f).trans (if_neg (fun x => c4 x.2.2.2.1))))
              clear HCU HCV c2 c3 c4
              refine region_mono (ps12 (some ⟨tb, tq, none⟩) ts.length tc w.heap.size a5 A.length c5 k sb tb tq t f need on true true true false false) [54, 55, 56, 57, 58, 59, 60, 61, 62, 63, 64, 65, 66, 67, 68, 69, 70, 71, 72, 73, 74, 75, 76, 77, 78, 79, 80, 81, 82, 83, 84, 85, 86, 87, 88, 89, 90, 91] (by kernel_rfl) (by kernel_rfl) (by kernel_rfl) (by kernel_rfl) (stables_cons (Sp.c_stable _ _) (stables_cons (Sp.c_stable _ _) (stables_cons (Sp.c_stable _ _) (stables_cons (Sp.c_stable _ _) (stables_cons (Sp.c_stable _ _) (stables_cons (Sp.g_stable _ _ _) (stables_cons (Sp.g_stable _ _ _) (stables_cons (Sp.g_stable _ _ _) (stables_cons (Sp.g_stable _ _ _) (stables_cons (Sp.g_stable _ _ _) (stables_cons (Sp.c_stable _ _) (stables_cons (Sp.c_stable _ _) (stables_cons (Sp.g_stable _ _ _) (stables_cons (Sp.g_stable _ _ _) (stables_cons (Sp.c_stable _ _) (stables_cons (Sp.c_stable _ _) (stables_cons (Sp.g_stable _ _ _) (stables_cons (Sp.g_stable _ _ _) (stables_cons (Sp.g_stable _ _ _) (stables_cons (Sp.g_stable _ _ _) (stables_cons (Sp.g_stable _ _ _) (stables_cons (Sp.g_stable _ _ _) (stables_cons (Sp.c_stable _ _) (stables_cons (Sp.c_stable _ _) (stables_cons (Sp.g_stable _ _ _) (stables_cons (Sp.g_stable _ _ _) (stables_cons (Sp.g_stable _ _ _) (stables_cons (Sp.g_stable _ _ _) (stables_cons (Sp.g_stable _ _ _) (stables_cons (Sp.g_stable _ _ _) (stables_cons (Sp.g_stable _ _ _) (stables_cons (Sp.g_stable _ _ _) (stables_cons (Sp.g_stable _ _ _) (stables_cons (Sp.g_stable _ _ _) (stables_cons (Sp.g_stable _ _ _) (stables_cons (Sp.g_stable _ _ _) (stables_cons (Sp.g_stable _ _ _) (stables_cons (Sp.c_stable _ _) (trivial))))))))))))))))))))))))))))))))))))))) ?_ ?_
              · intro am wm L hbm hbase hbase2
                have s2 : am.tmps.getD 2 undef = .slice (some ⟨tb, tq, none⟩) ts.length tc := (hbase 2 rfl).trans (by simp only [Array.getD_eq_getD_getElem?, List.getElem?_toArray, List.getElem?_cons_succ, List.getElem?_cons_zero, Option.getD_some])
                have s4 : am.tmps.getD 4 undef = .pointer (some ⟨w.heap.size, 0, none⟩) := (hbase 4 rfl).trans (by simp only [Array.getD_eq_getD_getElem?, List.getElem?_toArray, List.getElem?_cons_succ, List.getElem?_cons_zero, Option.getD_some])
                have s7 : am.tmps.getD 7 undef = .slice a5 A.length c5 := (hbase 7 rfl).trans (by simp only [Array.getD_eq_getD_getElem?, List.getElem?_toArray, List.getElem?_cons_succ, List.getElem?_cons_zero, Option.getD_some])
                have s10 : am.tmps.getD 10 undef = .int .i64 (k : Int) := (hbase 10 rfl).trans (by simp only [Array.getD_eq_getD_getElem?, List.getElem?_toArray, List.getElem?_cons_succ, List.getElem?_cons_zero, Option.getD_some])
                have s11 : am.tmps.getD 11 undef = .pointer (some ⟨sb, 0, none⟩) := (hbase 11 rfl).trans (by simp only [Array.getD_eq_getD_getElem?, List.getElem?_toArray, List.getElem?_cons_succ, List.getElem?_cons_zero, Option.getD_some])
                clear hbase hbase2
                have HCm := HCX.out.later hbm
                obtain ⟨m0, m1, m2, m3, m4, m5⟩ := HCm
                obtain ⟨x0, x1, x2, x3, _, _, _, _⟩ := HFX.out.later hbm
                have q0 := carry hbm z0
                have q1 := carry hbm z1
                have q2 := carry hbm z2
                have q3 := carry hbm z3
                refine steps_cons (fun hn hl => ?_) fun H0 => ?_
                · skip
                  clear hn hl 
                  refine stepC (wanted_free rfl) fun K hK => ?_
                  go_simp
                  exact hK _ (Below.refl _ _)
                refine steps_cons (fun hn hl => ?_) fun H1 => ?_
                · skip
                  clear hn hl H0
                  refine stepC (wanted_free rfl) fun K hK => ?_
                  go_simp
                  exact hK _ (Below.refl _ _)
                refine steps_cons (fun hn hl => ?_) fun H2 => ?_
                · skip
                  have h55 := Sp.of_c (H1 (hn 1 (show 1 ∈ [1] from .head _)))
                  clear hn hl H0 H1
                  refine stepC (wanted_free rfl) fun K hK => ?_
                  go_simp
                  exact hK _ (Below.refl _ _)
                refine steps_cons (fun hn hl => ?_) fun H3 => ?_
                · skip
                  have h54 := Sp.of_c (H0 (hn 0 (show 0 ∈ [0, 2] from .head _)))
                  have h56 := Sp.of_c (H2 (hn 2 (show 2 ∈ [0, 2] from .tail _ (.head _))))
                  clear hn hl H0 H1 H2
                  refine stepC (wanted_free rfl) fun K hK => ?_
                  go_simp
                  exact hK _ (Below.refl _ _)
                refine steps_cons (fun hn hl => ?_) fun H4 => ?_
                · skip
                  have h57 := Sp.of_c (H3 (hn 3 (show 3 ∈ [3] from .head _)))
                  clear hn hl H0 H1 H2 H3
                  refine stepC (wanted_free rfl) fun K hK => ?_
                  go_simp
                  exact hK _ (Below.refl _ _)
                refine steps_cons (fun hn hl => ?_) fun H5 => ?_
                · skip
                  have h58 := Sp.of_c (H4 (hn 4 (show 4 ∈ [4] from .head _)))
                  clear hn hl H0 H1 H2 H3 H4
                  refine stepC (wanted_guard rfl rfl h58 rfl) fun K hK => ?_
                  go_simp
                  exact hK _ (Below.refl _ _)
                refine steps_cons (fun hn hl => ?_) fun H6 => ?_
                · skip
                  have h58 := Sp.of_c (H4 (hn 4 (show 4 ∈ [4] from .head _)))
                  clear hn hl H0 H1 H2 H3 H4 H5
                  refine stepC (wanted_guard rfl rfl h58 rfl) fun K hK => ?_
                  go_simp
                  exact hK _ (Below.refl _ _)
                refine steps_cons (fun hn hl => ?_) fun H7 => ?_
                · skip
                  have h59 := Sp.of_g (H5 (hn 5 (show 5 ∈ [5, 6, 4] from .head _))) rfl
                  have h60 := Sp.of_g (H6 (hn 6 (show 6 ∈ [5, 6, 4] from .tail _ (.head _)))) rfl
                  have h58 := Sp.of_c (H4 (hn 4 (show 4 ∈ [5, 6, 4] from .tail _ (.tail _ (.head _)))))
                  clear hn hl H0 H1 H2 H3 H4 H5 H6
                  refine stepC (wanted_guard rfl rfl h58 rfl) fun K hK => ?_
                  go_simp
                  exact hK _ (Below.refl _ _)
                refine steps_cons (fun hn hl => ?_) fun H8 => ?_
                · skip
                  have h61 := Sp.of_g (H7 (hn 7 (show 7 ∈ [7, 4] from .head _))) rfl
                  have h58 := Sp.of_c (H4 (hn 4 (show 4 ∈ [7, 4] from .tail _ (.head _))))
                  clear hn hl H0 H1 H2 H3 H4 H5 H6 H7
                  refine stepC (wanted_guard rfl rfl h58 rfl) fun K hK => ?_
                  go_simp
                  exact hK _ (Below.refl _ _)
                refine steps_cons (fun hn hl => ?_) fun H9 => ?_
                · skip
                  have h62 := Sp.of_g (H8 (hn 8 (show 8 ∈ [8, 4] from .head _))) rfl
                  have h58 := Sp.of_c (H4 (hn 4 (show 4 ∈ [8, 4] from .tail _ (.head _))))
                  clear hn hl H0 H1 H2 H3 H4 H5 H6 H7 H8
                  refine stepC (wanted_guard rfl rfl h58 rfl) fun K hK => ?_
                  go_simp
                  first
                    | ((with_reducible refine (HTR.out _).mono ?_); rintro e w6 ⟨rfl, hb6⟩; exact hK _ hb6)
                    | ((with_reducible refine (HFR.out _).mono ?_); rintro e w6 ⟨rfl, hb6⟩; exact hK _ hb6)
                    | ((with_reducible refine (HTF.out _).mono ?_); rintro e w6 ⟨rfl, hb6⟩; exact hK _ hb6)
                    | ((with_reducible refine (HONC.out _ (HSX.out.later hbm)).mono ?_); rintro e w6 ⟨rfl, hb6⟩; exact hK _ hb6)
                    | ((with_reducible refine (HTI.out _).mono ?_); rintro e w6 ⟨rfl, hb6⟩; exact hK _ hb6)
                    | ((with_reducible refine (HSU.out _).mono ?_); rintro e w6 ⟨rfl, hb6⟩; exact hK _ hb6)
                    | ((with_reducible refine (HLF.out _).mono ?_); rintro e w6 ⟨rfl, hb6⟩; exact hK _ hb6)
                refine steps_cons (fun hn hl => ?_) fun H10 => ?_
                · skip
                  have h58 := Sp.of_c (H4 (hn 4 (show 4 ∈ [4, 9] from .head _)))
                  have h63 := Sp.of_g (H9 (hn 9 (show 9 ∈ [4, 9] from .tail _ (.head _)))) rfl
                  clear hn hl H0 H1 H2 H3 H4 H5 H6 H7 H8 H9
                  refine stepC (wanted_free rfl) fun K hK => ?_
                  go_simp
                  exact hK _ (Below.refl _ _)
                refine steps_cons (fun hn hl => ?_) fun H11 => ?_
                · skip
                  have h64 := Sp.of_c (H10 (hn 10 (show 10 ∈ [10] from .head _)))
                  clear hn hl H0 H1 H2 H3 H4 H5 H6 H7 H8 H9 H10
                  refine stepC (wanted_free rfl) fun K hK => ?_
                  go_simp
                  exact hK _ (Below.refl _ _)
                refine steps_cons (fun hn hl => ?_) fun H12 => ?_
                · skip
                  have h65 := Sp.of_c (H11 (hn 11 (show 11 ∈ [11] from .head _)))
                  clear hn hl H0 H1 H2 H3 H4 H5 H6 H7 H8 H9 H10 H11
                  refine stepC (wanted_guard rfl rfl h65 rfl) fun K hK => ?_
                  go_simp
                  exact hK _ (Below.refl _ _)
                refine steps_cons (fun hn hl => ?_) fun H13 => ?_
                · skip
                  have h66 := Sp.of_g (H12 (hn 12 (show 12 ∈ [12, 11] from .head _))) rfl
                  have h65 := Sp.of_c (H11 (hn 11 (show 11 ∈ [12, 11] from .tail _ (.head _))))
                  clear hn hl H0 H1 H2 H3 H4 H5 H6 H7 H8 H9 H10 H11 H12
                  refine stepC (wanted_guard rfl rfl h65 rfl) fun K hK => ?_
                  go_simp
                  first
                    | ((with_reducible refine (HTR.out _).mono ?_); rintro e w6 ⟨rfl, hb6⟩; exact hK _ hb6)
                    | ((with_reducible refine (HFR.out _).mono ?_); rintro e w6 ⟨rfl, hb6⟩; exact hK _ hb6)
                    | ((with_reducible refine (HTF.out _).mono ?_); rintro e w6 ⟨rfl, hb6⟩; exact hK _ hb6)
                    | ((with_reducible refine (HONC.out _ (HSX.out.later hbm)).mono ?_); rintro e w6 ⟨rfl, hb6⟩; exact hK _ hb6)
                    | ((with_reducible refine (HTI.out _).mono ?_); rintro e w6 ⟨rfl, hb6⟩; exact hK _ hb6)
                    | ((with_reducible refine (HSU.out _).mono ?_); rintro e w6 ⟨rfl, hb6⟩; exact hK _ hb6)
                    | ((with_reducible refine (HLF.out _).mono ?_); rintro e w6 ⟨rfl, hb6⟩; exact hK _ hb6)
                refine steps_cons (fun hn hl => ?_) fun H14 => ?_
                · skip
                  have h65 := Sp.of_c (H11 (hn 11 (show 11 ∈ [11, 13] from .head _)))
                  have h67 := Sp.of_g (H13 (hn 13 (show 13 ∈ [11, 13] from .tail _ (.head _)))) rfl
                  clear hn hl H0 H1 H2 H3 H4 H5 H6 H7 H8 H9 H10 H11 H12 H13
                  refine stepC (wanted_free rfl) fun K hK => ?_
                  go_simp
                  exact hK _ (Below.refl _ _)
                refine steps_cons (fun hn hl => ?_) fun H15 => ?_
                · skip
                  have h68 := Sp.of_c (H14 (hn 14 (show 14 ∈ [14] from .head _)))
                  clear hn hl H0 H1 H2 H3 H4 H5 H6 H7 H8 H9 H10 H11 H12 H13 H14
                  refine stepC (wanted_free rfl) fun K hK => ?_
                  go_simp
                  exact hK _ (Below.refl _ _)
                refine steps_cons (fun hn hl => ?_) fun H16 => ?_
                · skip
                  have h69 := Sp.of_c (H15 (hn 15 (show 15 ∈ [15] from .head _)))
                  clear hn hl H0 H1 H2 H3 H4 H5 H6 H7 H8 H9 H10 H11 H12 H13 H14 H15
                  refine stepC (wanted_guard rfl rfl h69 rfl) fun K hK => ?_
                  go_simp
                  exact hK _ (Below.refl _ _)
                refine steps_cons (fun hn hl => ?_) fun H17 => ?_
                · skip
                  have h69 := Sp.of_c (H15 (hn 15 (show 15 ∈ [15] from .head _)))
                  clear hn hl H0 H1 H2 H3 H4 H5 H6 H7 H8 H9 H10 H11 H12 H13 H14 H15 H16
                  refine stepC (wanted_guard rfl rfl h69 rfl) fun K hK => ?_
                  go_simp
                  exact hK _ (Below.refl _ _)
                refine steps_cons (fun hn hl => ?_) fun H18 => ?_
                · skip
                  have h70 := Sp.of_g (H16 (hn 16 (show 16 ∈ [16, 17, 15] from .head _))) rfl
                  have h71 := Sp.of_g (H17 (hn 17 (show 17 ∈ [16, 17, 15] from .tail _ (.head _)))) rfl
                  have h69 := Sp.of_c (H15 (hn 15 (show 15 ∈ [16, 17, 15] from .tail _ (.tail _ (.head _)))))
                  clear hn hl H0 H1 H2 H3 H4 H5 H6 H7 H8 H9 H10 H11 H12 H13 H14 H15 H16 H17
                  refine stepC (wanted_guard rfl rfl h69 rfl) fun K hK => ?_
                  go_simp
                  exact hK _ (Below.refl _ _)
                refine steps_cons (fun hn hl => ?_) fun H19 => ?_
                · skip
                  have h72 := Sp.of_g (H18 (hn 18 (show 18 ∈ [18, 15] from .head _))) rfl
                  have h69 := Sp.of_c (H15 (hn 15 (show 15 ∈ [18, 15] from .tail _ (.head _))))
                  clear hn hl H0 H1 H2 H3 H4 H5 H6 H7 H8 H9 H10 H11 H12 H13 H14 H15 H16 H17 H18
                  refine stepC (wanted_guard rfl rfl h69 rfl) fun K hK => ?_
                  go_simp
                  exact hK _ (Below.refl _ _)
                refine steps_cons (fun hn hl => ?_) fun H20 => ?_
                · skip
                  have h69 := Sp.of_c (H15 (hn 15 (show 15 ∈ [15] from .head _)))
                  clear hn hl H0 H1 H2 H3 H4 H5 H6 H7 H8 H9 H10 H11 H12 H13 H14 H15 H16 H17 H18 H19
                  refine stepC (wanted_guard rfl rfl h69 rfl) fun K hK => ?_
                  go_simp
                  exact hK _ (Below.refl _ _)
                refine steps_cons (fun hn hl => ?_) fun H21 => ?_
                · skip
                  have h73 := Sp.of_g (H19 (hn 19 (show 19 ∈ [19, 20, 15] from .head _))) rfl
                  have h74 := Sp.of_g (H20 (hn 20 (show 20 ∈ [19, 20, 15] from .tail _ (.head _)))) rfl
                  have h69 := Sp.of_c (H15 (hn 15 (show 15 ∈ [19, 20, 15] from .tail _ (.tail _ (.head _)))))
                  clear hn hl H0 H1 H2 H3 H4 H5 H6 H7 H8 H9 H10 H11 H12 H13 H14 H15 H16 H17 H18 H19 H20
                  refine stepC (wanted_guard rfl rfl h69 rfl) fun K hK => ?_
                  go_simp
                  first
                    | ((with_reducible refine (HTR.out _).mono ?_); rintro e w6 ⟨rfl, hb6⟩; exact hK _ hb6)
                    | ((with_reducible refine (HFR.out _).mono ?_); rintro e w6 ⟨rfl, hb6⟩; exact hK _ hb6)
                    | ((with_reducible refine (HTF.out _).mono ?_); rintro e w6 ⟨rfl, hb6⟩; exact hK _ hb6)
                    | ((with_reducible refine (HONC.out _ (HSX.out.later hbm)).mono ?_); rintro e w6 ⟨rfl, hb6⟩; exact hK _ hb6)
                    | ((with_reducible refine (HTI.out _).mono ?_); rintro e w6 ⟨rfl, hb6⟩; exact hK _ hb6)
                    | ((with_reducible refine (HSU.out _).mono ?_); rintro e w6 ⟨rfl, hb6⟩; exact hK _ hb6)
                    | ((with_reducible refine (HLF.out _).mono ?_); rintro e w6 ⟨rfl, hb6⟩; exact hK _ hb6)
                refine steps_cons (fun hn hl => ?_) fun H22 => ?_
                · skip
                  have h69 := Sp.of_c (H15 (hn 15 (show 15 ∈ [15, 21] from .head _)))
                  have h75 := Sp.of_g (H21 (hn 21 (show 21 ∈ [15, 21] from .tail _ (.head _)))) rfl
                  clear hn hl H0 H1 H2 H3 H4 H5 H6 H7 H8 H9 H10 H11 H12 H13 H14 H15 H16 H17 H18 H19 H20 H21
                  refine stepC (wanted_free rfl) fun K hK => ?_
                  go_simp
                  exact hK _ (Below.refl _ _)
                refine steps_cons (fun hn hl => ?_) fun H23 => ?_
                · skip
                  have h76 := Sp.of_c (H22 (hn 22 (show 22 ∈ [22] from .head _)))
                  clear hn hl H0 H1 H2 H3 H4 H5 H6 H7 H8 H9 H10 H11 H12 H13 H14 H15 H16 H17 H18 H19 H20 H21 H22
                  refine stepC (wanted_free rfl) fun K hK => ?_
                  go_simp
                  exact hK _ (Below.refl _ _)
                refine steps_cons (fun hn hl => ?_) fun H24 => ?_
                · skip
                  have h77 := Sp.of_c (H23 (hn 23 (show 23 ∈ [23] from .head _)))
                  clear hn hl H0 H1 H2 H3 H4 H5 H6 H7 H8 H9 H10 H11 H12 H13 H14 H15 H16 H17 H18 H19 H20 H21 H22 H23
                  exact stepN (unwanted_guard rfl rfl h77 rfl)
                refine steps_cons (fun hn hl => ?_) fun H25 => ?_
                · skip
                  have h78 := Sp.of_off (H24 (hn 24 (show 24 ∈ [24, 23] from .head _))) rfl
                  have h77 := Sp.of_c (H23 (hn 23 (show 23 ∈ [24, 23] from .tail _ (.head _))))
                  clear hn hl H0 H1 H2 H3 H4 H5 H6 H7 H8 H9 H10 H11 H12 H13 H14 H15 H16 H17 H18 H19 H20 H21 H22 H23 H24
                  exact stepN (unwanted_guard rfl rfl h77 rfl)
                refine steps_cons (fun hn hl => ?_) fun H26 => ?_
                · skip
                  have h77 := Sp.of_c (H23 (hn 23 (show 23 ∈ [23] from .head _)))
                  clear hn hl H0 H1 H2 H3 H4 H5 H6 H7 H8 H9 H10 H11 H12 H13 H14 H15 H16 H17 H18 H19 H20 H21 H22 H23 H24 H25
                  exact stepN (unwanted_guard rfl rfl h77 rfl)
                refine steps_cons (fun hn hl => ?_) fun H27 => ?_
                · skip
                  have h77 := Sp.of_c (H23 (hn 23 (show 23 ∈ [23] from .head _)))
                  clear hn hl H0 H1 H2 H3 H4 H5 H6 H7 H8 H9 H10 H11 H12 H13 H14 H15 H16 H17 H18 H19 H20 H21 H22 H23 H24 H25 H26
                  exact stepN (unwanted_guard rfl rfl h77 rfl)
                refine steps_cons (fun hn hl => ?_) fun H28 => ?_
                · skip
                  have h80 := Sp.of_off (H26 (hn 26 (show 26 ∈ [26, 27, 23] from .head _))) rfl
                  have h81 := Sp.of_off (H27 (hn 27 (show 27 ∈ [26, 27, 23] from .tail _ (.head _)))) rfl
                  have h77 := Sp.of_c (H23 (hn 23 (show 23 ∈ [26, 27, 23] from .tail _ (.tail _ (.head _)))))
                  clear hn hl H0 H1 H2 H3 H4 H5 H6 H7 H8 H9 H10 H11 H12 H13 H14 H15 H16 H17 H18 H19 H20 H21 H22 H23 H24 H25 H26 H27
                  exact stepN (unwanted_guard rfl rfl h77 rfl)
                refine steps_cons (fun hn hl => ?_) fun H29 => ?_
                · skip
                  have h79 := Sp.of_off (H25 (hn 25 (show 25 ∈ [25, 28, 23] from .head _))) rfl
                  have h82 := Sp.of_off (H28 (hn 28 (show 28 ∈ [25, 28, 23] from .tail _ (.head _)))) rfl
                  have h77 := Sp.of_c (H23 (hn 23 (show 23 ∈ [25, 28, 23] from .tail _ (.tail _ (.head _)))))
                  clear hn hl H0 H1 H2 H3 H4 H5 H6 H7 H8 H9 H10 H11 H12 H13 H14 H15 H16 H17 H18 H19 H20 H21 H22 H23 H24 H25 H26 H27 H28
                  exact stepN (unwanted_guard rfl rfl h77 rfl)
                refine steps_cons (fun hn hl => ?_) fun H30 => ?_
                · skip
                  have h77 := Sp.of_c (H23 (hn 23 (show 23 ∈ [23] from .head _)))
                  clear hn hl H0 H1 H2 H3 H4 H5 H6 H7 H8 H9 H10 H11 H12 H13 H14 H15 H16 H17 H18 H19 H20 H21 H22 H23 H24 H25 H26 H27 H28 H29
                  exact stepN (unwanted_guard rfl rfl h77 rfl)
                refine steps_cons (fun hn hl => ?_) fun H31 => ?_
                · skip
                  have h77 := Sp.of_c (H23 (hn 23 (show 23 ∈ [23] from .head _)))
                  clear hn hl H0 H1 H2 H3 H4 H5 H6 H7 H8 H9 H10 H11 H12 H13 H14 H15 H16 H17 H18 H19 H20 H21 H22 H23 H24 H25 H26 H27 H28 H29 H30
                  exact stepN (unwanted_guard rfl rfl h77 rfl)
                refine steps_cons (fun hn hl => ?_) fun H32 => ?_
                · skip
                  have h77 := Sp.of_c (H23 (hn 23 (show 23 ∈ [23] from .head _)))
                  clear hn hl H0 H1 H2 H3 H4 H5 H6 H7 H8 H9 H10 H11 H12 H13 H14 H15 H16 H17 H18 H19 H20 H21 H22 H23 H24 H25 H26 H27 H28 H29 H30 H31
                  exact stepN (unwanted_guard rfl rfl h77 rfl)
                refine steps_cons (fun hn hl => ?_) fun H33 => ?_
                · skip
                  have h85 := Sp.of_off (H31 (hn 31 (show 31 ∈ [31, 32, 23] from .head _))) rfl
                  have h86 := Sp.of_off (H32 (hn 32 (show 32 ∈ [31, 32, 23] from .tail _ (.head _)))) rfl
                  have h77 := Sp.of_c (H23 (hn 23 (show 23 ∈ [31, 32, 23] from .tail _ (.tail _ (.head _)))))
                  clear hn hl H0 H1 H2 H3 H4 H5 H6 H7 H8 H9 H10 H11 H12 H13 H14 H15 H16 H17 H18 H19 H20 H21 H22 H23 H24 H25 H26 H27 H28 H29 H30 H31 H32
                  exact stepN (unwanted_guard rfl rfl h77 rfl)
                refine steps_cons (fun hn hl => ?_) fun H34 => ?_
                · skip
                  have h87 := Sp.of_off (H33 (hn 33 (show 33 ∈ [33, 23] from .head _))) rfl
                  have h77 := Sp.of_c (H23 (hn 23 (show 23 ∈ [33, 23] from .tail _ (.head _))))
                  clear hn hl H0 H1 H2 H3 H4 H5 H6 H7 H8 H9 H10 H11 H12 H13 H14 H15 H16 H17 H18 H19 H20 H21 H22 H23 H24 H25 H26 H27 H28 H29 H30 H31 H32 H33
                  exact stepN (unwanted_guard rfl rfl h77 rfl)
                refine steps_cons (fun hn hl => ?_) fun H35 => ?_
                · skip
                  have h84 := Sp.of_off (H30 (hn 30 (show 30 ∈ [30, 34, 23] from .head _))) rfl
                  have h88 := Sp.of_off (H34 (hn 34 (show 34 ∈ [30, 34, 23] from .tail _ (.head _)))) rfl
                  have h77 := Sp.of_c (H23 (hn 23 (show 23 ∈ [30, 34, 23] from .tail _ (.tail _ (.head _)))))
                  clear hn hl H0 H1 H2 H3 H4 H5 H6 H7 H8 H9 H10 H11 H12 H13 H14 H15 H16 H17 H18 H19 H20 H21 H22 H23 H24 H25 H26 H27 H28 H29 H30 H31 H32 H33 H34
                  exact stepN (unwanted_guard rfl rfl h77 rfl)
                refine steps_cons (fun hn hl => ?_) fun H36 => ?_
                · skip
                  have h83 := Sp.of_off (H29 (hn 29 (show 29 ∈ [29, 35, 23] from .head _))) rfl
                  have h89 := Sp.of_off (H35 (hn 35 (show 35 ∈ [29, 35, 23] from .tail _ (.head _)))) rfl
                  have h77 := Sp.of_c (H23 (hn 23 (show 23 ∈ [29, 35, 23] from .tail _ (.tail _ (.head _)))))
                  clear hn hl H0 H1 H2 H3 H4 H5 H6 H7 H8 H9 H10 H11 H12 H13 H14 H15 H16 H17 H18 H19 H20 H21 H22 H23 H24 H25 H26 H27 H28 H29 H30 H31 H32 H33 H34 H35
                  exact stepN (unwanted_guard rfl rfl h77 rfl)
                refine steps_cons (fun hn hl => ?_) fun H37 => ?_
                · skip
                  have h77 := Sp.of_c (H23 (hn 23 (show 23 ∈ [23, 36] from .head _)))
                  have h90 := Sp.of_off (H36 (hn 36 (show 36 ∈ [23, 36] from .tail _ (.head _)))) rfl
                  clear hn hl H0 H1 H2 H3 H4 H5 H6 H7 H8 H9 H10 H11 H12 H13 H14 H15 H16 H17 H18 H19 H20 H21 H22 H23 H24 H25 H26 H27 H28 H29 H30 H31 H32 H33 H34 H35 H36
                  refine stepC (wanted_free rfl) fun K hK => ?_
                  go_simp
                  exact hK _ (Below.refl _ _)
                exact trivial
              · intro w12 hb12
                have hz12 := hb12.size
                refine end_cons ?_; rintro _ rfl
                refine end_cons ?_; rintro _ rfl
                refine end_cons ?_; rintro _ rfl
                refine end_cons ?_; rintro _ rfl
                refine end_cons ?_; rintro _ rfl
                refine end_cons ?_; rintro _ rfl
                refine end_cons ?_; rintro _ rfl
                refine end_cons ?_; rintro _ rfl
                refine end_cons ?_; rintro _ rfl
                refine end_cons ?_; rintro _ rfl
                refine end_cons ?_; rintro _ rfl
                refine end_cons ?_; rintro _ rfl
                refine end_cons ?_; rintro _ rfl
                refine end_cons ?_; rintro _ rfl
                refine end_cons ?_; rintro _ rfl
                refine end_cons ?_; rintro _ rfl
                refine end_cons ?_; rintro _ rfl
                refine end_cons ?_; rintro _ rfl
                refine end_cons ?_; rintro _ rfl
                refine end_cons ?_; rintro _ rfl
                refine end_cons ?_; rintro _ rfl
                refine end_cons ?_; rintro _ rfl
                refine end_cons ?_; rintro _ rfl
                refine end_cons ?_; rintro _ rfl
                refine end_cons ?_; rintro _ rfl
                refine end_cons ?_; rintro _ rfl
                refine end_cons ?_; rintro _ rfl
                refine end_cons ?_; rintro _ rfl
                refine end_cons ?_; rintro _ rfl
                refine end_cons ?_; rintro _ rfl
                refine end_cons ?_; rintro _ rfl
                refine end_cons ?_; rintro _ rfl
                refine end_cons ?_; rintro _ rfl
                refine end_cons ?_; rintro _ rfl
                refine end_cons ?_; rintro _ rfl
                refine end_cons ?_; rintro _ rfl
                refine end_cons ?_; rintro _ rfl
                refine end_cons ?_; rintro _ rfl
                refine end_nil ?_
                simp only [List.setIfInBounds_toArray, List.set_cons_succ, List.set_cons_zero, Bool.not_false, Bool.not_true, Bool.true_or, Bool.or_true, Bool.false_or, Bool.or_false]
                have hr12 := hb12
                have HFY := Lib.hid (HFX.out.later hb12)
                have hb5x := Lib.hid (k5r.trans ((hbx.trans (hb12.mono hbx.size)).mono k5r.size))
                have HOX := Lib.hid (own_later HO.out (hbx.trans (hb12.mono hbx.size)))
                replace hb5x := hb5x.out
                obtain ⟨x0, x1, x2, x3, x4, x5, x6, x7⟩ := HFY.out
                go_wp2_with (at_builtin; refine pushOne _ _ 26 29 4 32 _ i0 Try.underlying26 hi hzz hzs hzb rfl (by decide) (by decide) w5.heap.size w5.heap.size m _ _ _ _ w5 _ rfl rfl rfl rfl rfl HOX.out hb5x (Nat.le_refl _) (hb5x.size) (by simp [Value.oneCell']) (by omega) ?_)
                intro v' w15 hown hb15
                go_wp2
                go_roundw
                case rel => exact ⟨k + 1, by omega, by go_num, hb15, Lib.hid ⟨acc ++ [f], by rw [List.length_append, vcsV_app, vcsV_one, HM.out]; exact hown, by rw [List.length_append, hacc]; rfl, HX.out⟩⟩
                case measure => simp [intOf]; omega
          · rw [right_no c3] at HFR
            have HX := Lib.hid (HCU.out f ((HCV.out f).trans (if_neg (fun x => c3 x.2.2.1))))
            clear HCU HCV c2 c3
            refine region_mono (ps12 (some ⟨tb, tq, none⟩) ts.length tc w.heap.size a5 A.length c5 k sb tb tq t f need on true true false false false) [54, 55, 56, 57, 58, 59, 60, 61, 62, 63, 64, 65, 66, 67, 68, 69, 70, 71, 72, 73, 74, 75, 76, 77, 78, 79, 80, 81, 82, 83, 84, 85, 86, 87, 88, 89, 90, 91] (by kernel_rfl) (by kernel_rfl) (by kernel_rfl) (by kernel_rfl) (stables_cons (Sp.c_stable _ _) (stables_cons (Sp.c_stable _ _) (stables_cons (Sp.c_stable _ _) (stables_cons (Sp.c_stable _ _) (stables_cons (Sp.c_stable _ _) (stables_cons (Sp.g_stable _ _ _) (stables_cons (Sp.g_stable _ _ _) (stables_cons (Sp.g_stable _ _ _) (stables_cons (Sp.g_stable _ _ _) (stables_cons (Sp.g_stable _ _ _) (stables_cons (Sp.c_stable _ _) (stables_cons (Sp.c_stable _ _) (stables_cons (Sp.g_stable _ _ _) (stables_cons (Sp.g_stable _ _ _) (stables_cons (Sp.c_stable _ _) (stables_cons (Sp.c_stable _ _) (stables_cons (Sp.g_stable _ _ _) (stables_cons (Sp.g_stable _ _ _) (stables_cons (Sp.g_stable _ _ _) (stables_cons (Sp.g_stable _ _ _) (stables_cons (Sp.g_stable _ _ _) (stables_cons (Sp.g_stable _ _ _) (stables_cons (Sp.c_stable _ _) (stables_cons (Sp.c_stable _ _) (stables_cons (Sp.g_stable _ _ _) (stables_cons (Sp.g_stable _ _ _) (stables_cons (Sp.g_stable _ _ _) (stables_cons (Sp.g_stable _ _ _) (stables_cons (Sp.g_stable _ _ _) (stables_cons (Sp.g_stable _ _ _) (stables_cons (Sp.g_stable _ _ _) (stables_cons (Sp.g_stable _ _ _) (stables_cons (Sp.g_stable _ _ _) (stables_cons (Sp.g_stable _ _ _) (stables_cons (Sp.g_stable _ _ _) (stables_cons (Sp.g_stable _ _ _) (stables_cons (Sp.g_stable _ _ _) (stables_cons (Sp.c_stable _ _) (trivial))))))))))))))))))))))))))))))))))))))) ?_ ?_
            · intro am wm L hbm hbase hbase2
              have s2 : am.tmps.getD 2 undef = .slice (some ⟨tb, tq, none⟩) ts.length tc := (hbase 2 rfl).trans (by simp only [Array.getD_eq_getD_getElem?, List.getElem?_toArray, List.getElem?_cons_succ, List.getElem?_cons_zero, Option.getD_some])
              have s4 : am.tmps.getD 4 undef = .pointer (some ⟨w.heap.size, 0, none⟩) := (hbase 4 rfl).trans (by simp only [Array.getD_eq_getD_getElem?, List.getElem?_toArray, List.getElem?_cons_succ, List.getElem?_cons_zero, Option.getD_some])
              have s7 : am.tmps.getD 7 undef = .slice a5 A.length c5 := (hbase 7 rfl).trans (by simp only [Array.getD_eq_getD_getElem?, List.getElem?_toArray, List.getElem?_cons_succ, List.getElem?_cons_zero, Option.getD_some])
              have s10 : am.tmps.getD 10 undef = .int .i64 (k : Int) := (hbase 10 rfl).trans (by simp only [Array.getD_eq_getD_getElem?, List.getElem?_toArray, List.getElem?_cons_succ, List.getElem?_cons_zero, Option.getD_some])
              have s11 : am.tmps.getD 11 undef = .pointer (some ⟨sb, 0, none⟩) := (hbase 11 rfl).trans (by simp only [Array.getD_eq_getD_getElem?, List.getElem?_toArray, List.getElem?_cons_succ, List.getElem?_cons_zero, Option.getD_some])
              clear hbase hbase2
              have HCm := HCX.out.later hbm
              obtain ⟨m0, m1, m2, m3, m4, m5⟩ := HCm
              obtain ⟨x0, x1, x2, x3, _, _, _, _⟩ := HFX.out.later hbm
              have q0 := carry hbm z0
              have q1 := carry hbm z1
              have q2 := carry hbm z2
              have q3 := carry hbm z3
              refine steps_cons (fun hn hl => ?_) fun H0 => ?_
              · skip
                clear hn hl 
                refine stepC (wanted_free rfl) fun K hK => ?_
                go_simp
                exact hK _ (Below.refl _ _)
              refine steps_cons (fun hn hl => ?_) fun H1 => ?_
              · skip
                clear hn hl H0
                refine stepC (wanted_free rfl) fun K hK => ?_
                go_simp
                exact hK _ (Below.refl _ _)
              refine steps_cons (fun hn hl => ?_) fun H2 => ?_
              · skip
                have h55 := Sp.of_c (H1 (hn 1 (show 1 ∈ [1] from .head _)))
                clear hn hl H0 H1
                refine stepC (wanted_free rfl) fun K hK => ?_
                go_simp
                exact hK _ (Below.refl _ _)
              refine steps_cons (fun hn hl => ?_) fun H3 => ?_
              · skip
                have h54 := Sp.of_c (H0 (hn 0 (show 0 ∈ [0, 2] from .head _)))
                have h56 := Sp.of_c (H2 (hn 2 (show 2 ∈ [0, 2] from .tail _ (.head _))))
                clear hn hl H0 H1 H2
                refine stepC (wanted_free rfl) fun K hK => ?_
                go_simp
                exact hK _ (Below.refl _ _)
              refine steps_cons (fun hn hl => ?_) fun H4 => ?_
              · skip
                have h57 := Sp.of_c (H3 (hn 3 (show 3 ∈ [3] from .head _)))
                clear hn hl H0 H1 H2 H3
                refine stepC (wanted_free rfl) fun K hK => ?_
                go_simp
                exact hK _ (Below.refl _ _)
              refine steps_cons (fun hn hl => ?_) fun H5 => ?_
              · skip
                have h58 := Sp.of_c (H4 (hn 4 (show 4 ∈ [4] from .head _)))
                clear hn hl H0 H1 H2 H3 H4
                refine stepC (wanted_guard rfl rfl h58 rfl) fun K hK => ?_
                go_simp
                exact hK _ (Below.refl _ _)
              refine steps_cons (fun hn hl => ?_) fun H6 => ?_
              · skip
                have h58 := Sp.of_c (H4 (hn 4 (show 4 ∈ [4] from .head _)))
                clear hn hl H0 H1 H2 H3 H4 H5
                refine stepC (wanted_guard rfl rfl h58 rfl) fun K hK => ?_
                go_simp
                exact hK _ (Below.refl _ _)
              refine steps_cons (fun hn hl => ?_) fun H7 => ?_
              · skip
                have h59 := Sp.of_g (H5 (hn 5 (show 5 ∈ [5, 6, 4] from .head _))) rfl
                have h60 := Sp.of_g (H6 (hn 6 (show 6 ∈ [5, 6, 4] from .tail _ (.head _)))) rfl
                have h58 := Sp.of_c (H4 (hn 4 (show 4 ∈ [5, 6, 4] from .tail _ (.tail _ (.head _)))))
                clear hn hl H0 H1 H2 H3 H4 H5 H6
                refine stepC (wanted_guard rfl rfl h58 rfl) fun K hK => ?_
                go_simp
                exact hK _ (Below.refl _ _)
              refine steps_cons (fun hn hl => ?_) fun H8 => ?_
              · skip
                have h61 := Sp.of_g (H7 (hn 7 (show 7 ∈ [7, 4] from .head _))) rfl
                have h58 := Sp.of_c (H4 (hn 4 (show 4 ∈ [7, 4] from .tail _ (.head _))))
                clear hn hl H0 H1 H2 H3 H4 H5 H6 H7
                refine stepC (wanted_guard rfl rfl h58 rfl) fun K hK => ?_
                go_simp
                exact hK _ (Below.refl _ _)
              refine steps_cons (fun hn hl => ?_) fun H9 => ?_
              · skip
                have h62 := Sp.of_g (H8 (hn 8 (show 8 ∈ [8, 4] from .head _))) rfl
                have h58 := Sp.of_c (H4 (hn 4 (show 4 ∈ [8, 4] from .tail _ (.head _))))
                clear hn hl H0 H1 H2 H3 H4 H5 H6 H7 H8
                refine stepC (wanted_guard rfl rfl h58 rfl) fun K hK => ?_
                go_simp
                first
                  | ((with_reducible refine (HTR.out _).mono ?_); rintro e w6 ⟨rfl, hb6⟩; exact hK _ hb6)
                  | ((with_reducible refine (HFR.out _).mono ?_); rintro e w6 ⟨rfl, hb6⟩; exact hK _ hb6)
                  | ((with_reducible refine (HTF.out _).mono ?_); rintro e w6 ⟨rfl, hb6⟩; exact hK _ hb6)
                  | ((with_reducible refine (HONC.out _ (HSX.out.later hbm)).mono ?_); rintro e w6 ⟨rfl, hb6⟩; exact hK _ hb6)
                  | ((with_reducible refine (HTI.out _).mono ?_); rintro e w6 ⟨rfl, hb6⟩; exact hK _ hb6)
                  | ((with_reducible refine (HSU.out _).mono ?_); rintro e w6 ⟨rfl, hb6⟩; exact hK _ hb6)
                  | ((with_reducible refine (HLF.out _).mono ?_); rintro e w6 ⟨rfl, hb6⟩; exact hK _ hb6)
              refine steps_cons (fun hn hl => ?_) fun H10 => ?_
              · skip
                have h58 := Sp.of_c (H4 (hn 4 (show 4 ∈ [4, 9] from .head _)))
                have h63 := Sp.of_g (H9 (hn 9 (show 9 ∈ [4, 9] from .tail _ (.head _)))) rfl
                clear hn hl H0 H1 H2 H3 H4 H5 H6 H7 H8 H9
                refine stepC (wanted_free rfl) fun K hK => ?_
                go_simp
                exact hK _ (Below.refl _ _)
              refine steps_cons (fun hn hl => ?_) fun H11 => ?_
              · skip
                have h64 := Sp.of_c (H10 (hn 10 (show 10 ∈ [10] from .head _)))
                clear hn hl H0 H1 H2 H3 H4 H5 H6 H7 H8 H9 H10
                refine stepC (wanted_free rfl) fun K hK => ?_
                go_simp
                exact hK _ (Below.refl _ _)
              refine steps_cons (fun hn hl => ?_) fun H12 => ?_
              · skip
                have h65 := Sp.of_c (H11 (hn 11 (show 11 ∈ [11] from .head _)))
                clear hn hl H0 H1 H2 H3 H4 H5 H6 H7 H8 H9 H10 H11
                refine stepC (wanted_guard rfl rfl h65 rfl) fun K hK => ?_
                go_simp
                exact hK _ (Below.refl _ _)
              refine steps_cons (fun hn hl => ?_) fun H13 => ?_
              · skip
                have h66 := Sp.of_g (H12 (hn 12 (show 12 ∈ [12, 11] from .head _))) rfl
                have h65 := Sp.of_c (H11 (hn 11 (show 11 ∈ [12, 11] from .tail _ (.head _))))
                clear hn hl H0 H1 H2 H3 H4 H5 H6 H7 H8 H9 H10 H11 H12
                refine stepC (wanted_guard rfl rfl h65 rfl) fun K hK => ?_
                go_simp
                first
                  | ((with_reducible refine (HTR.out _).mono ?_); rintro e w6 ⟨rfl, hb6⟩; exact hK _ hb6)
                  | ((with_reducible refine (HFR.out _).mono ?_); rintro e w6 ⟨rfl, hb6⟩; exact hK _ hb6)
                  | ((with_reducible refine (HTF.out _).mono ?_); rintro e w6 ⟨rfl, hb6⟩; exact hK _ hb6)
                  | ((with_reducible refine (HONC.out _ (HSX.out.later hbm)).mono ?_); rintro e w6 ⟨rfl, hb6⟩; exact hK _ hb6)
                  | ((with_reducible refine (HTI.out _).mono ?_); rintro e w6 ⟨rfl, hb6⟩; exact hK _ hb6)
                  | ((with_reducible refine (HSU.out _).mono ?_); rintro e w6 ⟨rfl, hb6⟩; exact hK _ hb6)
                  | ((with_reducible refine (HLF.out _).mono ?_); rintro e w6 ⟨rfl, hb6⟩; exact hK _ hb6)
              refine steps_cons (fun hn hl => ?_) fun H14 => ?_
              · skip
                have h65 := Sp.of_c (H11 (hn 11 (show 11 ∈ [11, 13] from .head _)))
                have h67 := Sp.of_g (H13 (hn 13 (show 13 ∈ [11, 13] from .tail _ (.head _)))) rfl
                clear hn hl H0 H1 H2 H3 H4 H5 H6 H7 H8 H9 H10 H11 H12 H13
                refine stepC (wanted_free rfl) fun K hK => ?_
                go_simp
                exact hK _ (Below.refl _ _)
              refine steps_cons (fun hn hl => ?_) fun H15 => ?_
              · skip
                have h68 := Sp.of_c (H14 (hn 14 (show 14 ∈ [14] from .head _)))
                clear hn hl H0 H1 H2 H3 H4 H5 H6 H7 H8 H9 H10 H11 H12 H13 H14
                refine stepC (wanted_free rfl) fun K hK => ?_
                go_simp
                exact hK _ (Below.refl _ _)
              refine steps_cons (fun hn hl => ?_) fun H16 => ?_
              · skip
                have h69 := Sp.of_c (H15 (hn 15 (show 15 ∈ [15] from .head _)))
                clear hn hl H0 H1 H2 H3 H4 H5 H6 H7 H8 H9 H10 H11 H12 H13 H14 H15
                exact stepN (unwanted_guard rfl rfl h69 rfl)
              refine steps_cons (fun hn hl => ?_) fun H17 => ?_
              · skip
                have h69 := Sp.of_c (H15 (hn 15 (show 15 ∈ [15] from .head _)))
                clear hn hl H0 H1 H2 H3 H4 H5 H6 H7 H8 H9 H10 H11 H12 H13 H14 H15 H16
                exact stepN (unwanted_guard rfl rfl h69 rfl)
              refine steps_cons (fun hn hl => ?_) fun H18 => ?_
              · skip
                have h70 := Sp.of_off (H16 (hn 16 (show 16 ∈ [16, 17, 15] from .head _))) rfl
                have h71 := Sp.of_off (H17 (hn 17 (show 17 ∈ [16, 17, 15] from .tail _ (.head _)))) rfl
                have h69 := Sp.of_c (H15 (hn 15 (show 15 ∈ [16, 17, 15] from .tail _ (.tail _ (.head _)))))
                clear hn hl H0 H1 H2 H3 H4 H5 H6 H7 H8 H9 H10 H11 H12 H13 H14 H15 H16 H17
                exact stepN (unwanted_guard rfl rfl h69 rfl)
              refine steps_cons (fun hn hl => ?_) fun H19 => ?_
              · skip
                have h72 := Sp.of_off (H18 (hn 18 (show 18 ∈ [18, 15] from .head _))) rfl
                have h69 := Sp.of_c (H15 (hn 15 (show 15 ∈ [18, 15] from .tail _ (.head _))))
                clear hn hl H0 H1 H2 H3 H4 H5 H6 H7 H8 H9 H10 H11 H12 H13 H14 H15 H16 H17 H18
                exact stepN (unwanted_guard rfl rfl h69 rfl)
              refine steps_cons (fun hn hl => ?_) fun H20 => ?_
              · skip
                have h69 := Sp.of_c (H15 (hn 15 (show 15 ∈ [15] from .head _)))
                clear hn hl H0 H1 H2 H3 H4 H5 H6 H7 H8 H9 H10 H11 H12 H13 H14 H15 H16 H17 H18 H19
                exact stepN (unwanted_guard rfl rfl h69 rfl)
              refine steps_cons (fun hn hl => ?_) fun H21 => ?_
              · skip
                have h73 := Sp.of_off (H19 (hn 19 (show 19 ∈ [19, 20, 15] from .head _))) rfl
                have h74 := Sp.of_off (H20 (hn 20 (show 20 ∈ [19, 20, 15] from .tail _ (.head _)))) rfl
                have h69 := Sp.of_c (H15 (hn 15 (show 15 ∈ [19, 20, 15] from .tail _ (.tail _ (.head _)))))
                clear hn hl H0 H1 H2 H3 H4 H5 H6 H7 H8 H9 H10 H11 H12 H13 H14 H15 H16 H17 H18 H19 H20
                exact stepN (unwanted_guard rfl rfl h69 rfl)
              refine steps_cons (fun hn hl => ?_) fun H22 => ?_
              · skip
                have h69 := Sp.of_c (H15 (hn 15 (show 15 ∈ [15, 21] from .head _)))
                have h75 := Sp.of_off (H21 (hn 21 (show 21 ∈ [15, 21] from .tail _ (.head _)))) rfl
                clear hn hl H0 H1 H2 H3 H4 H5 H6 H7 H8 H9 H10 H11 H12 H13 H14 H15 H16 H17 H18 H19 H20 H21
                refine stepC (wanted_free rfl) fun K hK => ?_
                go_simp
                exact hK _ (Below.refl _ _)
              refine steps_cons (fun hn hl => ?_) fun H23 => ?_
              · skip
                have h76 := Sp.of_c (H22 (hn 22 (show 22 ∈ [22] from .head _)))
                clear hn hl H0 H1 H2 H3 H4 H5 H6 H7 H8 H9 H10 H11 H12 H13 H14 H15 H16 H17 H18 H19 H20 H21 H22
                refine stepC (wanted_free rfl) fun K hK => ?_
                go_simp
                exact hK _ (Below.refl _ _)
              refine steps_cons (fun hn hl => ?_) fun H24 => ?_
              · skip
                have h77 := Sp.of_c (H23 (hn 23 (show 23 ∈ [23] from .head _)))
                clear hn hl H0 H1 H2 H3 H4 H5 H6 H7 H8 H9 H10 H11 H12 H13 H14 H15 H16 H17 H18 H19 H20 H21 H22 H23
                exact stepN (unwanted_guard rfl rfl h77 rfl)
              refine steps_cons (fun hn hl => ?_) fun H25 => ?_
              · skip
                have h78 := Sp.of_off (H24 (hn 24 (show 24 ∈ [24, 23] from .head _))) rfl
                have h77 := Sp.of_c (H23 (hn 23 (show 23 ∈ [24, 23] from .tail _ (.head _))))
                clear hn hl H0 H1 H2 H3 H4 H5 H6 H7 H8 H9 H10 H11 H12 H13 H14 H15 H16 H17 H18 H19 H20 H21 H22 H23 H24
                exact stepN (unwanted_guard rfl rfl h77 rfl)
              refine steps_cons (fun hn hl => ?_) fun H26 => ?_
              · skip
                have h77 := Sp.of_c (H23 (hn 23 (show 23 ∈ [23] from .head _)))
                clear hn hl H0 H1 H2 H3 H4 H5 H6 H7 H8 H9 H10 H11 H12 H13 H14 H15 H16 H17 H18 H19 H20 H21 H22 H23 H24 H25
                exact stepN (unwanted_guard rfl rfl h77 rfl)
              refine steps_cons (fun hn hl => ?_) fun H27 => ?_
              · skip
                have h77 := Sp.of_c (H23 (hn 23 (show 23 ∈ [23] from .head _)))
                clear hn hl H0 H1 H2 H3 H4 H5 H6 H7 H8 H9 H10 H11 H12 H13 H14 H15 H16 H17 H18 H19 H20 H21 H22 H23 H24 H25 H26
                exact stepN (unwanted_guard rfl rfl h77 rfl)
              refine steps_cons (fun hn hl => ?_) fun H28 => ?_
              · skip
                have h80 := Sp.of_off (H26 (hn 26 (show 26 ∈ [26, 27, 23] from .head _))) rfl
                have h81 := Sp.of_off (H27 (hn 27 (show 27 ∈ [26, 27, 23] from .tail _ (.head _)))) rfl
                have h77 := Sp.of_c (H23 (hn 23 (show 23 ∈ [26, 27, 23] from .tail _ (.tail _ (.head _)))))
                clear hn hl H0 H1 H2 H3 H4 H5 H6 H7 H8 H9 H10 H11 H12 H13 H14 H15 H16 H17 H18 H19 H20 H21 H22 H23 H24 H25 H26 H27
                exact stepN (unwanted_guard rfl rfl h77 rfl)
              refine steps_cons (fun hn hl => ?_) fun H29 => ?_
              · skip
                have h79 := Sp.of_off (H25 (hn 25 (show 25 ∈ [25, 28, 23] from .head _))) rfl
                have h82 := Sp.of_off (H28 (hn 28 (show 28 ∈ [25, 28, 23] from .tail _ (.head _)))) rfl
                have h77 := Sp.of_c (H23 (hn 23 (show 23 ∈ [25, 28, 23] from .tail _ (.tail _ (.head _)))))
                clear hn hl H0 H1 H2 H3 H4 H5 H6 H7 H8 H9 H10 H11 H12 H13 H14 H15 H16 H17 H18 H19 H20 H21 H22 H23 H24 H25 H26 H27 H28
                exact stepN (unwanted_guard rfl rfl h77 rfl)
              refine steps_cons (fun hn hl => ?_) fun H30 => ?_
              · skip
                have h77 := Sp.of_c (H23 (hn 23 (show 23 ∈ [23] from .head _)))
                clear hn hl H0 H1 H2 H3 H4 H5 H6 H7 H8 H9 H10 H11 H12 H13 H14 H15 H16 H17 H18 H19 H20 H21 H22 H23 H24 H25 H26 H27 H28 H29
                exact stepN (unwanted_guard rfl rfl h77 rfl)
              refine steps_cons (fun hn hl => ?_) fun H31 => ?_
              · skip
                have h77 := Sp.of_c (H23 (hn 23 (show 23 ∈ [23] from .head _)))
                clear hn hl H0 H1 H2 H3 H4 H5 H6 H7 H8 H9 H10 H11 H12 H13 H14 H15 H16 H17 H18 H19 H20 H21 H22 H23 H24 H25 H26 H27 H28 H29 H30
                exact stepN (unwanted_guard rfl rfl h77 rfl)
              refine steps_cons (fun hn hl => ?_) fun H32 => ?_
              · skip
                have h77 := Sp.of_c (H23 (hn 23 (show 23 ∈ [23] from .head _)))
                clear hn hl H0 H1 H2 H3 H4 H5 H6 H7 H8 H9 H10 H11 H12 H13 H14 H15 H16 H17 H18 H19 H20 H21 H22 H23 H24 H25 H26 H27 H28 H29 H30 H31
                exact stepN (unwanted_guard rfl rfl h77 rfl)
              refine steps_cons (fun hn hl => ?_) fun H33 => ?_
              · skip
                have h85 := Sp.of_off (H31 (hn 31 (show 31 ∈ [31, 32, 23] from .head _))) rfl
                have h86 := Sp.of_off (H32 (hn 32 (show 32 ∈ [31, 32, 23] from .tail _ (.head _)))) rfl
                have h77 := Sp.of_c (H23 (hn 23 (show 23 ∈ [31, 32, 23] from .tail _ (.tail _ (.head _)))))
                clear hn hl H0 H1 H2 H3 H4 H5 H6 H7 H8 H9 H10 H11 H12 H13 H14 H15 H16 H17 H18 H19 H20 H21 H22 H23 H24 H25 H26 H27 H28 H29 H30 H31 H32
                exact stepN (unwanted_guard rfl rfl h77 rfl)
              refine steps_cons (fun hn hl => ?_) fun H34 => ?_
              · skip
                have h87 := Sp.of_off (H33 (hn 33 (show 33 ∈ [33, 23] from .head _))) rfl
                have h77 := Sp.of_c (H23 (hn 23 (show 23 ∈ [33, 23] from .tail _ (.head _))))
                clear hn hl H0 H1 H2 H3 H4 H5 H6 H7 H8 H9 H10 H11 H12 H13 H14 H15 H16 H17 H18 H19 H20 H21 H22 H23 H24 H25 H26 H27 H28 H29 H30 H31 H32 H33
                exact stepN (unwanted_guard rfl rfl h77 rfl)
              refine steps_cons (fun hn hl => ?_) fun H35 => ?_
              · skip
                have h84 := Sp.of_off (H30 (hn 30 (show 30 ∈ [30, 34, 23] from .head _))) rfl
                have h88 := Sp.of_off (H34 (hn 34 (show 34 ∈ [30, 34, 23] from .tail _ (.head _)))) rfl
                have h77 := Sp.of_c (H23 (hn 23 (show 23 ∈ [30, 34, 23] from .tail _ (.tail _ (.head _)))))
                clear hn hl H0 H1 H2 H3 H4 H5 H6 H7 H8 H9 H10 H11 H12 H13 H14 H15 H16 H17 H18 H19 H20 H21 H22 H23 H24 H25 H26 H27 H28 H29 H30 H31 H32 H33 H34
                exact stepN (unwanted_guard rfl rfl h77 rfl)
              refine steps_cons (fun hn hl => ?_) fun H36 => ?_
              · skip
                have h83 := Sp.of_off (H29 (hn 29 (show 29 ∈ [29, 35, 23] from .head _))) rfl
                have h89 := Sp.of_off (H35 (hn 35 (show 35 ∈ [29, 35, 23] from .tail _ (.head _)))) rfl
                have h77 := Sp.of_c (H23 (hn 23 (show 23 ∈ [29, 35, 23] from .tail _ (.tail _ (.head _)))))
                clear hn hl H0 H1 H2 H3 H4 H5 H6 H7 H8 H9 H10 H11 H12 H13 H14 H15 H16 H17 H18 H19 H20 H21 H22 H23 H24 H25 H26 H27 H28 H29 H30 H31 H32 H33 H34 H35
                exact stepN (unwanted_guard rfl rfl h77 rfl)
              refine steps_cons (fun hn hl => ?_) fun H37 => ?_
              · skip
                have h77 := Sp.of_c (H23 (hn 23 (show 23 ∈ [23, 36] from .head _)))
                have h90 := Sp.of_off (H36 (hn 36 (show 36 ∈ [23, 36] from .tail _ (.head _)))) rfl
                clear hn hl H0 H1 H2 H3 H4 H5 H6 H7 H8 H9 H10 H11 H12 H13 H14 H15 H16 H17 H18 H19 H20 H21 H22 H23 H24 H25 H26 H27 H28 H29 H30 H31 H32 H33 H34 H35 H36
                refine stepC (wanted_free rfl) fun K hK => ?_
                go_simp
                exact hK _ (Below.refl _ _)
              exact trivial
            · intro w12 hb12
              have hz12 := hb12.size
              refine end_cons ?_; rintro _ rfl
              refine end_cons ?_; rintro _ rfl
              refine end_cons ?_; rintro _ rfl
              refine end_cons ?_; rintro _ rfl
              refine end_cons ?_; rintro _ rfl
              refine end_cons ?_; rintro _ rfl
              refine end_cons ?_; rintro _ rfl
              refine end_cons ?_; rintro _ rfl
              refine end_cons ?_; rintro _ rfl
              refine end_cons ?_; rintro _ rfl
              refine end_cons ?_; rintro _ rfl
              refine end_cons ?_; rintro _ rfl
              refine end_cons ?_; rintro _ rfl
              refine end_cons ?_; rintro _ rfl
              refine end_cons ?_; rintro _ rfl
              refine end_cons ?_; rintro _ rfl
              refine end_cons ?_; rintro _ rfl
              refine end_cons ?_; rintro _ rfl
              refine end_cons ?_; rintro _ rfl
              refine end_cons ?_; rintro _ rfl
              refine end_cons ?_; rintro _ rfl
              refine end_cons ?_; rintro _ rfl
              refine end_cons ?_; rintro _ rfl
              refine end_cons ?_; rintro _ rfl
              refine end_cons ?_; rintro _ rfl
              refine end_cons ?_; rintro _ rfl
              refine end_cons ?_; rintro _ rfl
              refine end_cons ?_; rintro _ rfl
              refine end_cons ?_; rintro _ rfl
              refine end_cons ?_; rintro _ rfl
              refine end_cons ?_; rintro _ rfl
              refine end_cons ?_; rintro _ rfl
              refine end_cons ?_; rintro _ rfl
              refine end_cons ?_; rintro _ rfl
              refine end_cons ?_; rintro _ rfl
              refine end_cons ?_; rintro _ rfl
              refine end_cons ?_; rintro _ rfl
              refine end_cons ?_; rintro _ rfl
              refine end_nil ?_
              simp only [List.setIfInBounds_toArray, List.set_cons_succ, List.set_cons_zero, Bool.not_false, Bool.not_true, Bool.true_or, Bool.or_true, Bool.false_or, Bool.or_false]
              have hr12 := hb12
              have HFY := Lib.hid (HFX.out.later hb12)
              have hb5x := Lib.hid (k5r.trans ((hbx.trans (hb12.mono hbx.size)).mono k5r.size))
              have HOX := Lib.hid (own_later HO.out (hbx.trans (hb12.mono hbx.size)))
              replace hb5x := hb5x.out
              obtain ⟨x0, x1, x2, x3, x4, x5, x6, x7⟩ := HFY.out
              go_wp2_with (at_builtin; refine pushOne _ _ 26 29 4 32 _ i0 Try.underlying26 hi hzz hzs hzb rfl (by decide) (by decide) w5.heap.size w5.heap.size m _ _ _ _ w5 _ rfl rfl rfl rfl rfl HOX.out hb5x (Nat.le_refl _) (hb5x.size) (by simp [Value.oneCell']) (by omega) ?_)
              intro v' w15 hown hb15
              go_wp2
              go_roundw
              case rel => exact ⟨k + 1, by omega, by go_num, hb15, Lib.hid ⟨acc ++ [f], by rw [List.length_append, vcsV_app, vcsV_one, HM.out]; exact hown, by rw [List.length_append, hacc]; rfl, HX.out⟩⟩
              case measure => simp [intOf]; omega
        · rw [right_no c2] at HTR
          have HX := Lib.hid (HCU.out f ((HCV.out f).trans (if_neg (fun x => c2 x.2.1))))
          clear HCU HCV c2
          refine region_mono (ps12 (some ⟨tb, tq, none⟩) ts.length tc w.heap.size a5 A.length c5 k sb tb tq t f need on true false false false false) [54, 55, 56, 57, 58, 59, 60, 61, 62, 63, 64, 65, 66, 67, 68, 69, 70, 71, 72, 73, 74, 75, 76, 77, 78, 79, 80, 81, 82, 83, 84, 85, 86, 87, 88, 89, 90, 91] (by kernel_rfl) (by kernel_rfl) (by kernel_rfl) (by kernel_rfl) (stables_cons (Sp.c_stable _ _) (stables_cons (Sp.c_stable _ _) (stables_cons (Sp.c_stable _ _) (stables_cons (Sp.c_stable _ _) (stables_cons (Sp.c_stable _ _) (stables_cons (Sp.g_stable _ _ _) (stables_cons (Sp.g_stable _ _ _) (stables_cons (Sp.g_stable _ _ _) (stables_cons (Sp.g_stable _ _ _) (stables_cons (Sp.g_stable _ _ _) (stables_cons (Sp.c_stable _ _) (stables_cons (Sp.c_stable _ _) (stables_cons (Sp.g_stable _ _ _) (stables_cons (Sp.g_stable _ _ _) (stables_cons (Sp.c_stable _ _) (stables_cons (Sp.c_stable _ _) (stables_cons (Sp.g_stable _ _ _) (stables_cons (Sp.g_stable _ _ _) (stables_cons (Sp.g_stable _ _ _) (stables_cons (Sp.g_stable _ _ _) (stables_cons (Sp.g_stable _ _ _) (stables_cons (Sp.g_stable _ _ _) (stables_cons (Sp.c_stable _ _) (stables_cons (Sp.c_stable _ _) (stables_cons (Sp.g_stable _ _ _) (stables_cons (Sp.g_stable _ _ _) (stables_cons (Sp.g_stable _ _ _) (stables_cons (Sp.g_stable _ _ _) (stables_cons (Sp.g_stable _ _ _) (stables_cons (Sp.g_stable _ _ _) (stables_cons (Sp.g_stable _ _ _) (stables_cons (Sp.g_stable _ _ _) (stables_cons (Sp.g_stable _ _ _) (stables_cons (Sp.g_stable _ _ _) (stables_cons (Sp.g_stable _ _ _) (stables_cons (Sp.g_stable _ _ _) (stables_cons (Sp.g_stable _ _ _) (stables_cons (Sp.c_stable _ _) (trivial))))))))))))))))))))))))))))))))))))))) ?_ ?_
          · intro am wm L hbm hbase hbase2
            have s2 : am.tmps.getD 2 undef = .slice (some ⟨tb, tq, none⟩) ts.length tc := (hbase 2 rfl).trans (by simp only [Array.getD_eq_getD_getElem?, List.getElem?_toArray, List.getElem?_cons_succ, List.getElem?_cons_zero, Option.getD_some])
            have s4 : am.tmps.getD 4 undef = .pointer (some ⟨w.heap.size, 0, none⟩) := (hbase 4 rfl).trans (by simp only [Array.getD_eq_getD_getElem?, List.getElem?_toArray, List.getElem?_cons_succ, List.getElem?_cons_zero, Option.getD_some])
            have s7 : am.tmps.getD 7 undef = .slice a5 A.length c5 := (hbase 7 rfl).trans (by simp only [Array.getD_eq_getD_getElem?, List.getElem?_toArray, List.getElem?_cons_succ, List.getElem?_cons_zero, Option.getD_some])
            have s10 : am.tmps.getD 10 undef = .int .i64 (k : Int) := (hbase 10 rfl).trans (by simp only [Array.getD_eq_getD_getElem?, List.getElem?_toArray, List.getElem?_cons_succ, List.getElem?_cons_zero, Option.getD_some])
            have s11 : am.tmps.getD 11 undef = .pointer (some ⟨sb, 0, none⟩) := (hbase 11 rfl).trans (by simp only [Array.getD_eq_getD_getElem?, List.getElem?_toArray, List.getElem?_cons_succ, List.getElem?_cons_zero, Option.getD_some])
            clear hbase hbase2
            have HCm := HCX.out.later hbm
            obtain ⟨m0, m1, m2, m3, m4, m5⟩ := HCm
            obtain ⟨x0, x1, x2, x3, _, _, _, _⟩ := HFX.out.later hbm
            have q0 := carry hbm z0
            have q1 := carry hbm z1
            have q2 := carry hbm z2
            have q3 := carry hbm z3
            refine steps_cons (fun hn hl => ?_) fun H0 => ?_
            · skip
              clear hn hl 
              refine stepC (wanted_free rfl) fun K hK => ?_
              go_simp
              exact hK _ (Below.refl _ _)
            refine steps_cons (fun hn hl => ?_) fun H1 => ?_
            · skip
              clear hn hl H0
              refine stepC (wanted_free rfl) fun K hK => ?_
              go_simp
              exact hK _ (Below.refl _ _)
            refine steps_cons (fun hn hl => ?_) fun H2 => ?_
            · skip
              have h55 := Sp.of_c (H1 (hn 1 (show 1 ∈ [1] from .head _)))
              clear hn hl H0 H1
              refine stepC (wanted_free rfl) fun K hK => ?_
              go_simp
              exact hK _ (Below.refl _ _)
            refine steps_cons (fun hn hl => ?_) fun H3 => ?_
            · skip
              have h54 := Sp.of_c (H0 (hn 0 (show 0 ∈ [0, 2] from .head _)))
              have h56 := Sp.of_c (H2 (hn 2 (show 2 ∈ [0, 2] from .tail _ (.head _))))
              clear hn hl H0 H1 H2
              refine stepC (wanted_free rfl) fun K hK => ?_
              go_simp
              exact hK _ (Below.refl _ _)
            refine steps_cons (fun hn hl => ?_) fun H4 => ?_
            · skip
              have h57 := Sp.of_c (H3 (hn 3 (show 3 ∈ [3] from .head _)))
              clear hn hl H0 H1 H2 H3
              refine stepC (wanted_free rfl) fun K hK => ?_
              go_simp
              exact hK _ (Below.refl _ _)
            refine steps_cons (fun hn hl => ?_) fun H5 => ?_
            · skip
              have h58 := Sp.of_c (H4 (hn 4 (show 4 ∈ [4] from .head _)))
              clear hn hl H0 H1 H2 H3 H4
              refine stepC (wanted_guard rfl rfl h58 rfl) fun K hK => ?_
              go_simp
              exact hK _ (Below.refl _ _)
            refine steps_cons (fun hn hl => ?_) fun H6 => ?_
            · skip
              have h58 := Sp.of_c (H4 (hn 4 (show 4 ∈ [4] from .head _)))
              clear hn hl H0 H1 H2 H3 H4 H5
              refine stepC (wanted_guard rfl rfl h58 rfl) fun K hK => ?_
              go_simp
              exact hK _ (Below.refl _ _)
            refine steps_cons (fun hn hl => ?_) fun H7 => ?_
            · skip
              have h59 := Sp.of_g (H5 (hn 5 (show 5 ∈ [5, 6, 4] from .head _))) rfl
              have h60 := Sp.of_g (H6 (hn 6 (show 6 ∈ [5, 6, 4] from .tail _ (.head _)))) rfl
              have h58 := Sp.of_c (H4 (hn 4 (show 4 ∈ [5, 6, 4] from .tail _ (.tail _ (.head _)))))
              clear hn hl H0 H1 H2 H3 H4 H5 H6
              refine stepC (wanted_guard rfl rfl h58 rfl) fun K hK => ?_
              go_simp
              exact hK _ (Below.refl _ _)
            refine steps_cons (fun hn hl => ?_) fun H8 => ?_
            · skip
              have h61 := Sp.of_g (H7 (hn 7 (show 7 ∈ [7, 4] from .head _))) rfl
              have h58 := Sp.of_c (H4 (hn 4 (show 4 ∈ [7, 4] from .tail _ (.head _))))
              clear hn hl H0 H1 H2 H3 H4 H5 H6 H7
              refine stepC (wanted_guard rfl rfl h58 rfl) fun K hK => ?_
              go_simp
              exact hK _ (Below.refl _ _)
            refine steps_cons (fun hn hl => ?_) fun H9 => ?_
            · skip
              have h62 := Sp.of_g (H8 (hn 8 (show 8 ∈ [8, 4] from .head _))) rfl
              have h58 := Sp.of_c (H4 (hn 4 (show 4 ∈ [8, 4] from .tail _ (.head _))))
              clear hn hl H0 H1 H2 H3 H4 H5 H6 H7 H8
              refine stepC (wanted_guard rfl rfl h58 rfl) fun K hK => ?_
              go_simp
              first
                | ((with_reducible refine (HTR.out _).mono ?_); rintro e w6 ⟨rfl, hb6⟩; exact hK _ hb6)
                | ((with_reducible refine (HFR.out _).mono ?_); rintro e w6 ⟨rfl, hb6⟩; exact hK _ hb6)
                | ((with_reducible refine (HTF.out _).mono ?_); rintro e w6 ⟨rfl, hb6⟩; exact hK _ hb6)
                | ((with_reducible refine (HONC.out _ (HSX.out.later hbm)).mono ?_); rintro e w6 ⟨rfl, hb6⟩; exact hK _ hb6)
                | ((with_reducible refine (HTI.out _).mono ?_); rintro e w6 ⟨rfl, hb6⟩; exact hK _ hb6)
                | ((with_reducible refine (HSU.out _).mono ?_); rintro e w6 ⟨rfl, hb6⟩; exact hK _ hb6)
                | ((with_reducible refine (HLF.out _).mono ?_); rintro e w6 ⟨rfl, hb6⟩; exact hK _ hb6)
            refine steps_cons (fun hn hl => ?_) fun H10 => ?_
            · skip
              have h58 := Sp.of_c (H4 (hn 4 (show 4 ∈ [4, 9] from .head _)))
              have h63 := Sp.of_g (H9 (hn 9 (show 9 ∈ [4, 9] from .tail _ (.head _)))) rfl
              clear hn hl H0 H1 H2 H3 H4 H5 H6 H7 H8 H9
              refine stepC (wanted_free rfl) fun K hK => ?_
              go_simp
              exact hK _ (Below.refl _ _)
            refine steps_cons (fun hn hl => ?_) fun H11 => ?_
            · skip
              have h64 := Sp.of_c (H10 (hn 10 (show 10 ∈ [10] from .head _)))
              clear hn hl H0 H1 H2 H3 H4 H5 H6 H7 H8 H9 H10
              refine stepC (wanted_free rfl) fun K hK => ?_
              go_simp
              exact hK _ (Below.refl _ _)
            refine steps_cons (fun hn hl => ?_) fun H12 => ?_
            · skip
              have h65 := Sp.of_c (H11 (hn 11 (show 11 ∈ [11] from .head _)))
              clear hn hl H0 H1 H2 H3 H4 H5 H6 H7 H8 H9 H10 H11
              exact stepN (unwanted_guard rfl rfl h65 rfl)
            refine steps_cons (fun hn hl => ?_) fun H13 => ?_
            · skip
              have h66 := Sp.of_off (H12 (hn 12 (show 12 ∈ [12, 11] from .head _))) rfl
              have h65 := Sp.of_c (H11 (hn 11 (show 11 ∈ [12, 11] from .tail _ (.head _))))
              clear hn hl H0 H1 H2 H3 H4 H5 H6 H7 H8 H9 H10 H11 H12
              exact stepN (unwanted_guard rfl rfl h65 rfl)
            refine steps_cons (fun hn hl => ?_) fun H14 => ?_
            · skip
              have h65 := Sp.of_c (H11 (hn 11 (show 11 ∈ [11, 13] from .head _)))
              have h67 := Sp.of_off (H13 (hn 13 (show 13 ∈ [11, 13] from .tail _ (.head _)))) rfl
              clear hn hl H0 H1 H2 H3 H4 H5 H6 H7 H8 H9 H10 H11 H12 H13
              refine stepC (wanted_free rfl) fun K hK => ?_
              go_simp
              exact hK _ (Below.refl _ _)
            refine steps_cons (fun hn hl => ?_) fun H15 => ?_
            · skip
              have h68 := Sp.of_c (H14 (hn 14 (show 14 ∈ [14] from .head _)))
              clear hn hl H0 H1 H2 H3 H4 H5 H6 H7 H8 H9 H10 H11 H12 H13 H14
              refine stepC (wanted_free rfl) fun K hK => ?_
              go_simp
              exact hK _ (Below.refl _ _)
            refine steps_cons (fun hn hl => ?_) fun H16 => ?_
            · skip
              have h69 := Sp.of_c (H15 (hn 15 (show 15 ∈ [15] from .head _)))
              clear hn hl H0 H1 H2 H3 H4 H5 H6 H7 H8 H9 H10 H11 H12 H13 H14 H15
              exact stepN (unwanted_guard rfl rfl h69 rfl)
            refine steps_cons (fun hn hl => ?_) fun H17 => ?_
            · skip
              have h69 := Sp.of_c (H15 (hn 15 (show 15 ∈ [15] from .head _)))
              clear hn hl H0 H1 H2 H3 H4 H5 H6 H7 H8 H9 H10 H11 H12 H13 H14 H15 H16
              exact stepN (unwanted_guard rfl rfl h69 rfl)
            refine steps_cons (fun hn hl => ?_) fun H18 => ?_
            · skip
              have h70 := Sp.of_off (H16 (hn 16 (show 16 ∈ [16, 17, 15] from .head _))) rfl
              have h71 := Sp.of_off (H17 (hn 17 (show 17 ∈ [16, 17, 15] from .tail _ (.head _)))) rfl
              have h69 := Sp.of_c (H15 (hn 15 (show 15 ∈ [16, 17, 15] from .tail _ (.tail _ (.head _)))))
              clear hn hl H0 H1 H2 H3 H4 H5 H6 H7 H8 H9 H10 H11 H12 H13 H14 H15 H16 H17
              exact stepN (unwanted_guard rfl rfl h69 rfl)
            refine steps_cons (fun hn hl => ?_) fun H19 => ?_
            · skip
              have h72 := Sp.of_off (H18 (hn 18 (show 18 ∈ [18, 15] from .head _))) rfl
              have h69 := Sp.of_c (H15 (hn 15 (show 15 ∈ [18, 15] from .tail _ (.head _))))
              clear hn hl H0 H1 H2 H3 H4 H5 H6 H7 H8 H9 H10 H11 H12 H13 H14 H15 H16 H17 H18
              exact stepN (unwanted_guard rfl rfl h69 rfl)
            refine steps_cons (fun hn hl => ?_) fun H20 => ?_
            · skip
              have h69 := Sp.of_c (H15 (hn 15 (show 15 ∈ [15] from .head _)))
              clear hn hl H0 H1 H2 H3 H4 H5 H6 H7 H8 H9 H10 H11 H12 H13 H14 H15 H16 H17 H18 H19
              exact stepN (unwanted_guard rfl rfl h69 rfl)
            refine steps_cons (fun hn hl => ?_) fun H21 => ?_
            · skip
              have h73 := Sp.of_off (H19 (hn 19 (show 19 ∈ [19, 20, 15] from .head _))) rfl
              have h74 := Sp.of_off (H20 (hn 20 (show 20 ∈ [19, 20, 15] from .tail _ (.head _)))) rfl
              have h69 := Sp.of_c (H15 (hn 15 (show 15 ∈ [19, 20, 15] from .tail _ (.tail _ (.head _)))))
              clear hn hl H0 H1 H2 H3 H4 H5 H6 H7 H8 H9 H10 H11 H12 H13 H14 H15 H16 H17 H18 H19 H20
              exact stepN (unwanted_guard rfl rfl h69 rfl)
            refine steps_cons (fun hn hl => ?_) fun H22 => ?_
            · skip
              have h69 := Sp.of_c (H15 (hn 15 (show 15 ∈ [15, 21] from .head _)))
              have h75 := Sp.of_off (H21 (hn 21 (show 21 ∈ [15, 21] from .tail _ (.head _)))) rfl
              clear hn hl H0 H1 H2 H3 H4 H5 H6 H7 H8 H9 H10 H11 H12 H13 H14 H15 H16 H17 H18 H19 H20 H21
              refine stepC (wanted_free rfl) fun K hK => ?_
              go_simp
              exact hK _ (Below.refl _ _)
            refine steps_cons (fun hn hl => ?_) fun H23 => ?_
            · skip
              have h76 := Sp.of_c (H22 (hn 22 (show 22 ∈ [22] from .head _)))
              clear hn hl H0 H1 H2 H3 H4 H5 H6 H7 H8 H9 H10 H11 H12 H13 H14 H15 H16 H17 H18 H19 H20 H21 H22
              refine stepC (wanted_free rfl) fun K hK => ?_
              go_simp
              exact hK _ (Below.refl _ _)
            refine steps_cons (fun hn hl => ?_) fun H24 => ?_
            · skip
              have h77 := Sp.of_c (H23 (hn 23 (show 23 ∈ [23] from .head _)))
              clear hn hl H0 H1 H2 H3 H4 H5 H6 H7 H8 H9 H10 H11 H12 H13 H14 H15 H16 H17 H18 H19 H20 H21 H22 H23
              exact stepN (unwanted_guard rfl rfl h77 rfl)
            refine steps_cons (fun hn hl => ?_) fun H25 => ?_
            · skip
              have h78 := Sp.of_off (H24 (hn 24 (show 24 ∈ [24, 23] from .head _))) rfl
              have h77 := Sp.of_c (H23 (hn 23 (show 23 ∈ [24, 23] from .tail _ (.head _))))
              clear hn hl H0 H1 H2 H3 H4 H5 H6 H7 H8 H9 H10 H11 H12 H13 H14 H15 H16 H17 H18 H19 H20 H21 H22 H23 H24
              exact stepN (unwanted_guard rfl rfl h77 rfl)
            refine steps_cons (fun hn hl => ?_) fun H26 => ?_
            · skip
              have h77 := Sp.of_c (H23 (hn 23 (show 23 ∈ [23] from .head _)))
              clear hn hl H0 H1 H2 H3 H4 H5 H6 H7 H8 H9 H10 H11 H12 H13 H14 H15 H16 H17 H18 H19 H20 H21 H22 H23 H24 H25
              exact stepN (unwanted_guard rfl rfl h77 rfl)
            refine steps_cons (fun hn hl => ?_) fun H27 => ?_
            · skip
              have h77 := Sp.of_c (H23 (hn 23 (show 23 ∈ [23] from .head _)))
              clear hn hl H0 H1 H2 H3 H4 H5 H6 H7 H8 H9 H10 H11 H12 H13 H14 H15 H16 H17 H18 H19 H20 H21 H22 H23 H24 H25 H26
              exact stepN (unwanted_guard rfl rfl h77 rfl)
            refine steps_cons (fun hn hl => ?_) fun H28 => ?_
            · skip
              have h80 := Sp.of_off (H26 (hn 26 (show 26 ∈ [26, 27, 23] from .head _))) rfl
              have h81 := Sp.of_off (H27 (hn 27 (show 27 ∈ [26, 27, 23] from .tail _ (.head _)))) rfl
              have h77 := Sp.of_c (H23 (hn 23 (show 23 ∈ [26, 27, 23] from .tail _ (.tail _ (.head _)))))
              clear hn hl H0 H1 H2 H3 H4 H5 H6 H7 H8 H9 H10 H11 H12 H13 H14 H15 H16 H17 H18 H19 H20 H21 H22 H23 H24 H25 H26 H27
              exact stepN (unwanted_guard rfl rfl h77 rfl)
            refine steps_cons (fun hn hl => ?_) fun H29 => ?_
            · skip
              have h79 := Sp.of_off (H25 (hn 25 (show 25 ∈ [25, 28, 23] from .head _))) rfl
              have h82 := Sp.of_off (H28 (hn 28 (show 28 ∈ [25, 28, 23] from .tail _ (.head _)))) rfl
              have h77 := Sp.of_c (H23 (hn 23 (show 23 ∈ [25, 28, 23] from .tail _ (.tail _ (.head _)))))
              clear hn hl H0 H1 H2 H3 H4 H5 H6 H7 H8 H9 H10 H11 H12 H13 H14 H15 H16 H17 H18 H19 H20 H21 H22 H23 H24 H25 H26 H27 H28
              exact stepN (unwanted_guard rfl rfl h77 rfl)
            refine steps_cons (fun hn hl => ?_) fun H30 => ?_
            · skip
              have h77 := Sp.of_c (H23 (hn 23 (show 23 ∈ [23] from .head _)))
              clear hn hl H0 H1 H2 H3 H4 H5 H6 H7 H8 H9 H10 H11 H12 H13 H14 H15 H16 H17 H18 H19 H20 H21 H22 H23 H24 H25 H26 H27 H28 H29
              exact stepN (unwanted_guard rfl rfl h77 rfl)
            refine steps_cons (fun hn hl => ?_) fun H31 => ?_
            · skip
              have h77 := Sp.of_c (H23 (hn 23 (show 23 ∈ [23] from .head _)))
              clear hn hl H0 H1 H2 H3 H4 H5 H6 H7 H8 H9 H10 H11 H12 H13 H14 H15 H16 H17 H18 H19 H20 H21 H22 H23 H24 H25 H26 H27 H28 H29 H30
              exact stepN (unwanted_guard rfl rfl h77 rfl)
            refine steps_cons (fun hn hl => ?_) fun H32 => ?_
            · skip
              have h77 := Sp.of_c (H23 (hn 23 (show 23 ∈ [23] from .head _)))
              clear hn hl H0 H1 H2 H3 H4 H5 H6 H7 H8 H9 H10 H11 H12 H13 H14 H15 H16 H17 H18 H19 H20 H21 H22 H23 H24 H25 H26 H27 H28 H29 H30 H31
              exact stepN (unwanted_guard rfl rfl h77 rfl)
            refine steps_cons (fun hn hl => ?_) fun H33 => ?_
            · skip
              have h85 := Sp.of_off (H31 (hn 31 (show 31 ∈ [31, 32, 23] from .head _))) rfl
              have h86 := Sp.of_off (H32 (hn 32 (show 32 ∈ [31, 32, 23] from .tail _ (.head _)))) rfl
              have h77 := Sp.of_c (H23 (hn 23 (show 23 ∈ [31, 32, 23] from .tail _ (.tail _ (.head _)))))
              clear hn hl H0 H1 H2 H3 H4 H5 H6 H7 H8 H9 H10 H11 H12 H13 H14 H15 H16 H17 H18 H19 H20 H21 H22 H23 H24 H25 H26 H27 H28 H29 H30 H31 H32
              exact stepN (unwanted_guard rfl rfl h77 rfl)
            refine steps_cons (fun hn hl => ?_) fun H34 => ?_
            · skip
              have h87 := Sp.of_off (H33 (hn 33 (show 33 ∈ [33, 23] from .head _))) rfl
              have h77 := Sp.of_c (H23 (hn 23 (show 23 ∈ [33, 23] from .tail _ (.head _))))
              clear hn hl H0 H1 H2 H3 H4 H5 H6 H7 H8 H9 H10 H11 H12 H13 H14 H15 H16 H17 H18 H19 H20 H21 H22 H23 H24 H25 H26 H27 H28 H29 H30 H31 H32 H33
              exact stepN (unwanted_guard rfl rfl h77 rfl)
            refine steps_cons (fun hn hl => ?_) fun H35 => ?_
            · skip
              have h84 := Sp.of_off (H30 (hn 30 (show 30 ∈ [30, 34, 23] from .head _))) rfl
              have h88 := Sp.of_off (H34 (hn 34 (show 34 ∈ [30, 34, 23] from .tail _ (.head _)))) rfl
              have h77 := Sp.of_c (H23 (hn 23 (show 23 ∈ [30, 34, 23] from .tail _ (.tail _ (.head _)))))
              clear hn hl H0 H1 H2 H3 H4 H5 H6 H7 H8 H9 H10 H11 H12 H13 H14 H15 H16 H17 H18 H19 H20 H21 H22 H23 H24 H25 H26 H27 H28 H29 H30 H31 H32 H33 H34
              exact stepN (unwanted_guard rfl rfl h77 rfl)
            refine steps_cons (fun hn hl => ?_) fun H36 => ?_
            · skip
              have h83 := Sp.of_off (H29 (hn 29 (show 29 ∈ [29, 35, 23] from .head _))) rfl
              have h89 := Sp.of_off (H35 (hn 35 (show 35 ∈ [29, 35, 23] from .tail _ (.head _)))) rfl
              have h77 := Sp.of_c (H23 (hn 23 (show 23 ∈ [29, 35, 23] from .tail _ (.tail _ (.head _)))))
              clear hn hl H0 H1 H2 H3 H4 H5 H6 H7 H8 H9 H10 H11 H12 H13 H14 H15 H16 H17 H18 H19 H20 H21 H22 H23 H24 H25 H26 H27 H28 H29 H30 H31 H32 H33 H34 H35
              exact stepN (unwanted_guard rfl rfl h77 rfl)
            refine steps_cons (fun hn hl => ?_) fun H37 => ?_
            · skip
              have h77 := Sp.of_c (H23 (hn 23 (show 23 ∈ [23, 36] from .head _)))
              have h90 := Sp.of_off (H36 (hn 36 (show 36 ∈ [23, 36] from .tail _ (.head _)))) rfl
              clear hn hl H0 H1 H2 H3 H4 H5 H6 H7 H8 H9 H10 H11 H12 H13 H14 H15 H16 H17 H18 H19 H20 H21 H22 H23 H24 H25 H26 H27 H28 H29 H30 H31 H32 H33 H34 H35 H36
              refine stepC (wanted_free rfl) fun K hK => ?_
              go_simp
              exact hK _ (Below.refl _ _)
            exact trivial
          · intro w12 hb12
            have hz12 := hb12.size
            refine end_cons ?_; rintro _ rfl
            refine end_cons ?_; rintro _ rfl
            refine end_cons ?_; rintro _ rfl
            refine end_cons ?_; rintro _ rfl
            refine end_cons ?_; rintro _ rfl
            refine end_cons ?_; rintro _ rfl
            refine end_cons ?_; rintro _ rfl
            refine end_cons ?_; rintro _ rfl
            refine end_cons ?_; rintro _ rfl
            refine end_cons ?_; rintro _ rfl
            refine end_cons ?_; rintro _ rfl
            refine end_cons ?_; rintro _ rfl
            refine end_cons ?_; rintro _ rfl
            refine end_cons ?_; rintro _ rfl
            refine end_cons ?_; rintro _ rfl
            refine end_cons ?_; rintro _ rfl
            refine end_cons ?_; rintro _ rfl
            refine end_cons ?_; rintro _ rfl
            refine end_cons ?_; rintro _ rfl
            refine end_cons ?_; rintro _ rfl
            refine end_cons ?_; rintro _ rfl
            refine end_cons ?_; rintro _ rfl
            refine end_cons ?_; rintro _ rfl
            refine end_cons ?_; rintro _ rfl
            refine end_cons ?_; rintro _ rfl
            refine end_cons ?_; rintro _ rfl
            refine end_cons ?_; rintro _ rfl
            refine end_cons ?_; rintro _ rfl
            refine end_cons ?_; rintro _ rfl
            refine end_cons ?_; rintro _ rfl
            refine end_cons ?_; rintro _ rfl
            refine end_cons ?_; rintro _ rfl
            refine end_cons ?_; rintro _ rfl
            refine end_cons ?_; rintro _ rfl
            refine end_cons ?_; rintro _ rfl
            refine end_cons ?_; rintro _ rfl
            refine end_cons ?_; rintro _ rfl
            refine end_cons ?_; rintro _ rfl
            refine end_nil ?_
            simp only [List.setIfInBounds_toArray, List.set_cons_succ, List.set_cons_zero, Bool.not_false, Bool.not_true, Bool.true_or, Bool.or_true, Bool.false_or, Bool.or_false]
            have hr12 := hb12
            have HFY := Lib.hid (HFX.out.later hb12)
            have hb5x := Lib.hid (k5r.trans ((hbx.trans (hb12.mono hbx.size)).mono k5r.size))
            have HOX := Lib.hid (own_later HO.out (hbx.trans (hb12.mono hbx.size)))
            replace hb5x := hb5x.out
            obtain ⟨x0, x1, x2, x3, x4, x5, x6, x7⟩ := HFY.out
            go_wp2_with (at_builtin; refine pushOne _ _ 26 29 4 32 _ i0 Try.underlying26 hi hzz hzs hzb rfl (by decide) (by decide) w5.heap.size w5.heap.size m _ _ _ _ w5 _ rfl rfl rfl rfl rfl HOX.out hb5x (Nat.le_refl _) (hb5x.size) (by simp [Value.oneCell']) (by omega) ?_)
            intro v' w15 hown hb15
            go_wp2
            go_roundw
            case rel => exact ⟨k + 1, by omega, by go_num, hb15, Lib.hid ⟨acc ++ [f], by rw [List.length_append, vcsV_app, vcsV_one, HM.out]; exact hown, by rw [List.length_append, hacc]; rfl, HX.out⟩⟩
            case measure => simp [intOf]; omega
      · have hk1 : ¬ (k : Int) < ts.length := by omega
        have hd1 : decide (k < ts.length) = false := decide_eq_false c1
        have HX := Lib.hid (HCU.out f ((HCV.out f).trans (if_neg (fun x => c1 x.1))))
        have t : V := f
        clear HCU HCV
        refine region_mono (ps12 ta ts.length tc w.heap.size a5 A.length c5 k sb 0 0 t f need on false false false false false) [54, 55, 56, 57, 58, 59, 60, 61, 62, 63, 64, 65, 66, 67, 68, 69, 70, 71, 72, 73, 74, 75, 76, 77, 78, 79, 80, 81, 82, 83, 84, 85, 86, 87, 88, 89, 90, 91] (by kernel_rfl) (by kernel_rfl) (by kernel_rfl) (by kernel_rfl) (stables_cons (Sp.c_stable _ _) (stables_cons (Sp.c_stable _ _) (stables_cons (Sp.c_stable _ _) (stables_cons (Sp.c_stable _ _) (stables_cons (Sp.c_stable _ _) (stables_cons (Sp.g_stable _ _ _) (stables_cons (Sp.g_stable _ _ _) (stables_cons (Sp.g_stable _ _ _) (stables_cons (Sp.g_stable _ _ _) (stables_cons (Sp.g_stable _ _ _) (stables_cons (Sp.c_stable _ _) (stables_cons (Sp.c_stable _ _) (stables_cons (Sp.g_stable _ _ _) (stables_cons (Sp.g_stable _ _ _) (stables_cons (Sp.c_stable _ _) (stables_cons (Sp.c_stable _ _) (stables_cons (Sp.g_stable _ _ _) (stables_cons (Sp.g_stable _ _ _) (stables_cons (Sp.g_stable _ _ _) (stables_cons (Sp.g_stable _ _ _) (stables_cons (Sp.g_stable _ _ _) (stables_cons (Sp.g_stable _ _ _) (stables_cons (Sp.c_stable _ _) (stables_cons (Sp.c_stable _ _) (stables_cons (Sp.g_stable _ _ _) (stables_cons (Sp.g_stable _ _ _) (stables_cons (Sp.g_stable _ _ _) (stables_cons (Sp.g_stable _ _ _) (stables_cons (Sp.g_stable _ _ _) (stables_cons (Sp.g_stable _ _ _) (stables_cons (Sp.g_stable _ _ _) (stables_cons (Sp.g_stable _ _ _) (stables_cons (Sp.g_stable _ _ _) (stables_cons (Sp.g_stable _ _ _) (stables_cons (Sp.g_stable _ _ _) (stables_cons (Sp.g_stable _ _ _) (stables_cons (Sp.g_stable _ _ _) (stables_cons (Sp.c_stable _ _) (trivial))))))))))))))))))))))))))))))))))))))) ?_ ?_
        · intro am wm L hbm hbase hbase2
          have s2 : am.tmps.getD 2 undef = .slice ta ts.length tc := (hbase 2 rfl).trans (by simp only [Array.getD_eq_getD_getElem?, List.getElem?_toArray, List.getElem?_cons_succ, List.getElem?_cons_zero, Option.getD_some])
          have s4 : am.tmps.getD 4 undef = .pointer (some ⟨w.heap.size, 0, none⟩) := (hbase 4 rfl).trans (by simp only [Array.getD_eq_getD_getElem?, List.getElem?_toArray, List.getElem?_cons_succ, List.getElem?_cons_zero, Option.getD_some])
          have s7 : am.tmps.getD 7 undef = .slice a5 A.length c5 := (hbase 7 rfl).trans (by simp only [Array.getD_eq_getD_getElem?, List.getElem?_toArray, List.getElem?_cons_succ, List.getElem?_cons_zero, Option.getD_some])
          have s10 : am.tmps.getD 10 undef = .int .i64 (k : Int) := (hbase 10 rfl).trans (by simp only [Array.getD_eq_getD_getElem?, List.getElem?_toArray, List.getElem?_cons_succ, List.getElem?_cons_zero, Option.getD_some])
          have s11 : am.tmps.getD 11 undef = .pointer (some ⟨sb, 0, none⟩) := (hbase 11 rfl).trans (by simp only [Array.getD_eq_getD_getElem?, List.getElem?_toArray, List.getElem?_cons_succ, List.getElem?_cons_zero, Option.getD_some])
          clear hbase hbase2
          have HCm := HCX.out.later hbm
          obtain ⟨m0, m1, m2, m3, m4, m5⟩ := HCm
          obtain ⟨x0, x1, x2, x3, _, _, _, _⟩ := HFX.out.later hbm
          refine steps_cons (fun hn hl => ?_) fun H0 => ?_
          · skip
            clear hn hl 
            refine stepC (wanted_free rfl) fun K hK => ?_
            go_simp
            exact hK _ (Below.refl _ _)
          refine steps_cons (fun hn hl => ?_) fun H1 => ?_
          · skip
            clear hn hl H0
            refine stepC (wanted_free rfl) fun K hK => ?_
            go_simp
            exact hK _ (Below.refl _ _)
          refine steps_cons (fun hn hl => ?_) fun H2 => ?_
          · skip
            have h55 := Sp.of_c (H1 (hn 1 (show 1 ∈ [1] from .head _)))
            clear hn hl H0 H1
            refine stepC (wanted_free rfl) fun K hK => ?_
            go_simp
            exact hK _ (Below.refl _ _)
          refine steps_cons (fun hn hl => ?_) fun H3 => ?_
          · skip
            have h54 := Sp.of_c (H0 (hn 0 (show 0 ∈ [0, 2] from .head _)))
            have h56 := Sp.of_c (H2 (hn 2 (show 2 ∈ [0, 2] from .tail _ (.head _))))
            clear hn hl H0 H1 H2
            refine stepC (wanted_free rfl) fun K hK => ?_
            go_simp
            exact hK _ (Below.refl _ _)
          refine steps_cons (fun hn hl => ?_) fun H4 => ?_
          · skip
            have h57 := Sp.of_c (H3 (hn 3 (show 3 ∈ [3] from .head _)))
            clear hn hl H0 H1 H2 H3
            refine stepC (wanted_free rfl) fun K hK => ?_
            go_simp
            exact hK _ (Below.refl _ _)
          refine steps_cons (fun hn hl => ?_) fun H5 => ?_
          · skip
            have h58 := Sp.of_c (H4 (hn 4 (show 4 ∈ [4] from .head _)))
            clear hn hl H0 H1 H2 H3 H4
            exact stepN (unwanted_guard rfl rfl h58 rfl)
          refine steps_cons (fun hn hl => ?_) fun H6 => ?_
          · skip
            have h58 := Sp.of_c (H4 (hn 4 (show 4 ∈ [4] from .head _)))
            clear hn hl H0 H1 H2 H3 H4 H5
            exact stepN (unwanted_guard rfl rfl h58 rfl)
          refine steps_cons (fun hn hl => ?_) fun H7 => ?_
          · skip
            have h59 := Sp.of_off (H5 (hn 5 (show 5 ∈ [5, 6, 4] from .head _))) rfl
            have h60 := Sp.of_off (H6 (hn 6 (show 6 ∈ [5, 6, 4] from .tail _ (.head _)))) rfl
            have h58 := Sp.of_c (H4 (hn 4 (show 4 ∈ [5, 6, 4] from .tail _ (.tail _ (.head _)))))
            clear hn hl H0 H1 H2 H3 H4 H5 H6
            exact stepN (unwanted_guard rfl rfl h58 rfl)
          refine steps_cons (fun hn hl => ?_) fun H8 => ?_
          · skip
            have h61 := Sp.of_off (H7 (hn 7 (show 7 ∈ [7, 4] from .head _))) rfl
            have h58 := Sp.of_c (H4 (hn 4 (show 4 ∈ [7, 4] from .tail _ (.head _))))
            clear hn hl H0 H1 H2 H3 H4 H5 H6 H7
            exact stepN (unwanted_guard rfl rfl h58 rfl)
          refine steps_cons (fun hn hl => ?_) fun H9 => ?_
          · skip
            have h62 := Sp.of_off (H8 (hn 8 (show 8 ∈ [8, 4] from .head _))) rfl
            have h58 := Sp.of_c (H4 (hn 4 (show 4 ∈ [8, 4] from .tail _ (.head _))))
            clear hn hl H0 H1 H2 H3 H4 H5 H6 H7 H8
            exact stepN (unwanted_guard rfl rfl h58 rfl)
          refine steps_cons (fun hn hl => ?_) fun H10 => ?_
          · skip
            have h58 := Sp.of_c (H4 (hn 4 (show 4 ∈ [4, 9] from .head _)))
            have h63 := Sp.of_off (H9 (hn 9 (show 9 ∈ [4, 9] from .tail _ (.head _)))) rfl
            clear hn hl H0 H1 H2 H3 H4 H5 H6 H7 H8 H9
            refine stepC (wanted_free rfl) fun K hK => ?_
            go_simp
            exact hK _ (Below.refl _ _)
          refine steps_cons (fun hn hl => ?_) fun H11 => ?_
          · skip
            have h64 := Sp.of_c (H10 (hn 10 (show 10 ∈ [10] from .head _)))
            clear hn hl H0 H1 H2 H3 H4 H5 H6 H7 H8 H9 H10
            refine stepC (wanted_free rfl) fun K hK => ?_
            go_simp
            exact hK _ (Below.refl _ _)
          refine steps_cons (fun hn hl => ?_) fun H12 => ?_
          · skip
            have h65 := Sp.of_c (H11 (hn 11 (show 11 ∈ [11] from .head _)))
            clear hn hl H0 H1 H2 H3 H4 H5 H6 H7 H8 H9 H10 H11
            exact stepN (unwanted_guard rfl rfl h65 rfl)
          refine steps_cons (fun hn hl => ?_) fun H13 => ?_
          · skip
            have h66 := Sp.of_off (H12 (hn 12 (show 12 ∈ [12, 11] from .head _))) rfl
            have h65 := Sp.of_c (H11 (hn 11 (show 11 ∈ [12, 11] from .tail _ (.head _))))
            clear hn hl H0 H1 H2 H3 H4 H5 H6 H7 H8 H9 H10 H11 H12
            exact stepN (unwanted_guard rfl rfl h65 rfl)
          refine steps_cons (fun hn hl => ?_) fun H14 => ?_
          · skip
            have h65 := Sp.of_c (H11 (hn 11 (show 11 ∈ [11, 13] from .head _)))
            have h67 := Sp.of_off (H13 (hn 13 (show 13 ∈ [11, 13] from .tail _ (.head _)))) rfl
            clear hn hl H0 H1 H2 H3 H4 H5 H6 H7 H8 H9 H10 H11 H12 H13
            refine stepC (wanted_free rfl) fun K hK => ?_
            go_simp
            exact hK _ (Below.refl _ _)
          refine steps_cons (fun hn hl => ?_) fun H15 => ?_
          · skip
            have h68 := Sp.of_c (H14 (hn 14 (show 14 ∈ [14] from .head _)))
            clear hn hl H0 H1 H2 H3 H4 H5 H6 H7 H8 H9 H10 H11 H12 H13 H14
            refine stepC (wanted_free rfl) fun K hK => ?_
            go_simp
            exact hK _ (Below.refl _ _)
          refine steps_cons (fun hn hl => ?_) fun H16 => ?_
          · skip
            have h69 := Sp.of_c (H15 (hn 15 (show 15 ∈ [15] from .head _)))
            clear hn hl H0 H1 H2 H3 H4 H5 H6 H7 H8 H9 H10 H11 H12 H13 H14 H15
            exact stepN (unwanted_guard rfl rfl h69 rfl)
          refine steps_cons (fun hn hl => ?_) fun H17 => ?_
          · skip
            have h69 := Sp.of_c (H15 (hn 15 (show 15 ∈ [15] from .head _)))
            clear hn hl H0 H1 H2 H3 H4 H5 H6 H7 H8 H9 H10 H11 H12 H13 H14 H15 H16
            exact stepN (unwanted_guard rfl rfl h69 rfl)
          refine steps_cons (fun hn hl => ?_) fun H18 => ?_
          · skip
            have h70 := Sp.of_off (H16 (hn 16 (show 16 ∈ [16, 17, 15] from .head _))) rfl
            have h71 := Sp.of_off (H17 (hn 17 (show 17 ∈ [16, 17, 15] from .tail _ (.head _)))) rfl
            have h69 := Sp.of_c (H15 (hn 15 (show 15 ∈ [16, 17, 15] from .tail _ (.tail _ (.head _)))))
            clear hn hl H0 H1 H2 H3 H4 H5 H6 H7 H8 H9 H10 H11 H12 H13 H14 H15 H16 H17
            exact stepN (unwanted_guard rfl rfl h69 rfl)
          refine steps_cons (fun hn hl => ?_) fun H19 => ?_
          · skip
            have h72 := Sp.of_off (H18 (hn 18 (show 18 ∈ [18, 15] from .head _))) rfl
            have h69 := Sp.of_c (H15 (hn 15 (show 15 ∈ [18, 15] from .tail _ (.head _))))
            clear hn hl H0 H1 H2 H3 H4 H5 H6 H7 H8 H9 H10 H11 H12 H13 H14 H15 H16 H17 H18
            exact stepN (unwanted_guard rfl rfl h69 rfl)
          refine steps_cons (fun hn hl => ?_) fun H20 => ?_
          · skip
            have h69 := Sp.of_c (H15 (hn 15 (show 15 ∈ [15] from .head _)))
            clear hn hl H0 H1 H2 H3 H4 H5 H6 H7 H8 H9 H10 H11 H12 H13 H14 H15 H16 H17 H18 H19
            exact stepN (unwanted_guard rfl rfl h69 rfl)
          refine steps_cons (fun hn hl => ?_) fun H21 => ?_
          · skip
            have h73 := Sp.of_off (H19 (hn 19 (show 19 ∈ [19, 20, 15] from .head _))) rfl
            have h74 := Sp.of_off (H20 (hn 20 (show 20 ∈ [19, 20, 15] from .tail _ (.head _)))) rfl
            have h69 := Sp.of_c (H15 (hn 15 (show 15 ∈ [19, 20, 15] from .tail _ (.tail _ (.head _)))))
            clear hn hl H0 H1 H2 H3 H4 H5 H6 H7 H8 H9 H10 H11 H12 H13 H14 H15 H16 H17 H18 H19 H20
            exact stepN (unwanted_guard rfl rfl h69 rfl)
          refine steps_cons (fun hn hl => ?_) fun H22 => ?_
          · skip
            have h69 := Sp.of_c (H15 (hn 15 (show 15 ∈ [15, 21] from .head _)))
            have h75 := Sp.of_off (H21 (hn 21 (show 21 ∈ [15, 21] from .tail _ (.head _)))) rfl
            clear hn hl H0 H1 H2 H3 H4 H5 H6 H7 H8 H9 H10 H11 H12 H13 H14 H15 H16 H17 H18 H19 H20 H21
            refine stepC (wanted_free rfl) fun K hK => ?_
            go_simp
            exact hK _ (Below.refl _ _)
          refine steps_cons (fun hn hl => ?_) fun H23 => ?_
          · skip
            have h76 := Sp.of_c (H22 (hn 22 (show 22 ∈ [22] from .head _)))
            clear hn hl H0 H1 H2 H3 H4 H5 H6 H7 H8 H9 H10 H11 H12 H13 H14 H15 H16 H17 H18 H19 H20 H21 H22
            refine stepC (wanted_free rfl) fun K hK => ?_
            go_simp
            exact hK _ (Below.refl _ _)
          refine steps_cons (fun hn hl => ?_) fun H24 => ?_
          · skip
            have h77 := Sp.of_c (H23 (hn 23 (show 23 ∈ [23] from .head _)))
            clear hn hl H0 H1 H2 H3 H4 H5 H6 H7 H8 H9 H10 H11 H12 H13 H14 H15 H16 H17 H18 H19 H20 H21 H22 H23
            exact stepN (unwanted_guard rfl rfl h77 rfl)
          refine steps_cons (fun hn hl => ?_) fun H25 => ?_
          · skip
            have h78 := Sp.of_off (H24 (hn 24 (show 24 ∈ [24, 23] from .head _))) rfl
            have h77 := Sp.of_c (H23 (hn 23 (show 23 ∈ [24, 23] from .tail _ (.head _))))
            clear hn hl H0 H1 H2 H3 H4 H5 H6 H7 H8 H9 H10 H11 H12 H13 H14 H15 H16 H17 H18 H19 H20 H21 H22 H23 H24
            exact stepN (unwanted_guard rfl rfl h77 rfl)
          refine steps_cons (fun hn hl => ?_) fun H26 => ?_
          · skip
            have h77 := Sp.of_c (H23 (hn 23 (show 23 ∈ [23] from .head _)))
            clear hn hl H0 H1 H2 H3 H4 H5 H6 H7 H8 H9 H10 H11 H12 H13 H14 H15 H16 H17 H18 H19 H20 H21 H22 H23 H24 H25
            exact stepN (unwanted_guard rfl rfl h77 rfl)
          refine steps_cons (fun hn hl => ?_) fun H27 => ?_
          · skip
            have h77 := Sp.of_c (H23 (hn 23 (show 23 ∈ [23] from .head _)))
            clear hn hl H0 H1 H2 H3 H4 H5 H6 H7 H8 H9 H10 H11 H12 H13 H14 H15 H16 H17 H18 H19 H20 H21 H22 H23 H24 H25 H26
            exact stepN (unwanted_guard rfl rfl h77 rfl)
          refine steps_cons (fun hn hl => ?_) fun H28 => ?_
          · skip
            have h80 := Sp.of_off (H26 (hn 26 (show 26 ∈ [26, 27, 23] from .head _))) rfl
            have h81 := Sp.of_off (H27 (hn 27 (show 27 ∈ [26, 27, 23] from .tail _ (.head _)))) rfl
            have h77 := Sp.of_c (H23 (hn 23 (show 23 ∈ [26, 27, 23] from .tail _ (.tail _ (.head _)))))
            clear hn hl H0 H1 H2 H3 H4 H5 H6 H7 H8 H9 H10 H11 H12 H13 H14 H15 H16 H17 H18 H19 H20 H21 H22 H23 H24 H25 H26 H27
            exact stepN (unwanted_guard rfl rfl h77 rfl)
          refine steps_cons (fun hn hl => ?_) fun H29 => ?_
          · skip
            have h79 := Sp.of_off (H25 (hn 25 (show 25 ∈ [25, 28, 23] from .head _))) rfl
            have h82 := Sp.of_off (H28 (hn 28 (show 28 ∈ [25, 28, 23] from .tail _ (.head _)))) rfl
            have h77 := Sp.of_c (H23 (hn 23 (show 23 ∈ [25, 28, 23] from .tail _ (.tail _ (.head _)))))
            clear hn hl H0 H1 H2 H3 H4 H5 H6 H7 H8 H9 H10 H11 H12 H13 H14 H15 H16 H17 H18 H19 H20 H21 H22 H23 H24 H25 H26 H27 H28
            exact stepN (unwanted_guard rfl rfl h77 rfl)
          refine steps_cons (fun hn hl => ?_) fun H30 => ?_
          · skip
            have h77 := Sp.of_c (H23 (hn 23 (show 23 ∈ [23] from .head _)))
            clear hn hl H0 H1 H2 H3 H4 H5 H6 H7 H8 H9 H10 H11 H12 H13 H14 H15 H16 H17 H18 H19 H20 H21 H22 H23 H24 H25 H26 H27 H28 H29
            exact stepN (unwanted_guard rfl rfl h77 rfl)
          refine steps_cons (fun hn hl => ?_) fun H31 => ?_
          · skip
            have h77 := Sp.of_c (H23 (hn 23 (show 23 ∈ [23] from .head _)))
            clear hn hl H0 H1 H2 H3 H4 H5 H6 H7 H8 H9 H10 H11 H12 H13 H14 H15 H16 H17 H18 H19 H20 H21 H22 H23 H24 H25 H26 H27 H28 H29 H30
            exact stepN (unwanted_guard rfl rfl h77 rfl)
          refine steps_cons (fun hn hl => ?_) fun H32 => ?_
          · skip
            have h77 := Sp.of_c (H23 (hn 23 (show 23 ∈ [23] from .head _)))
            clear hn hl H0 H1 H2 H3 H4 H5 H6 H7 H8 H9 H10 H11 H12 H13 H14 H15 H16 H17 H18 H19 H20 H21 H22 H23 H24 H25 H26 H27 H28 H29 H30 H31
            exact stepN (unwanted_guard rfl rfl h77 rfl)
          refine steps_cons (fun hn hl => ?_) fun H33 => ?_
          · skip
            have h85 := Sp.of_off (H31 (hn 31 (show 31 ∈ [31, 32, 23] from .head _))) rfl
            have h86 := Sp.of_off (H32 (hn 32 (show 32 ∈ [31, 32, 23] from .tail _ (.head _)))) rfl
            have h77 := Sp.of_c (H23 (hn 23 (show 23 ∈ [31, 32, 23] from .tail _ (.tail _ (.head _)))))
            clear hn hl H0 H1 H2 H3 H4 H5 H6 H7 H8 H9 H10 H11 H12 H13 H14 H15 H16 H17 H18 H19 H20 H21 H22 H23 H24 H25 H26 H27 H28 H29 H30 H31 H32
            exact stepN (unwanted_guard rfl rfl h77 rfl)
          refine steps_cons (fun hn hl => ?_) fun H34 => ?_
          · skip
            have h87 := Sp.of_off (H33 (hn 33 (show 33 ∈ [33, 23] from .head _))) rfl
            have h77 := Sp.of_c (H23 (hn 23 (show 23 ∈ [33, 23] from .tail _ (.head _))))
            clear hn hl H0 H1 H2 H3 H4 H5 H6 H7 H8 H9 H10 H11 H12 H13 H14 H15 H16 H17 H18 H19 H20 H21 H22 H23 H24 H25 H26 H27 H28 H29 H30 H31 H32 H33
            exact stepN (unwanted_guard rfl rfl h77 rfl)
          refine steps_cons (fun hn hl => ?_) fun H35 => ?_
          · skip
            have h84 := Sp.of_off (H30 (hn 30 (show 30 ∈ [30, 34, 23] from .head _))) rfl
            have h88 := Sp.of_off (H34 (hn 34 (show 34 ∈ [30, 34, 23] from .tail _ (.head _)))) rfl
            have h77 := Sp.of_c (H23 (hn 23 (show 23 ∈ [30, 34, 23] from .tail _ (.tail _ (.head _)))))
            clear hn hl H0 H1 H2 H3 H4 H5 H6 H7 H8 H9 H10 H11 H12 H13 H14 H15 H16 H17 H18 H19 H20 H21 H22 H23 H24 H25 H26 H27 H28 H29 H30 H31 H32 H33 H34
            exact stepN (unwanted_guard rfl rfl h77 rfl)
          refine steps_cons (fun hn hl => ?_) fun H36 => ?_
          · skip
            have h83 := Sp.of_off (H29 (hn 29 (show 29 ∈ [29, 35, 23] from .head _))) rfl
            have h89 := Sp.of_off (H35 (hn 35 (show 35 ∈ [29, 35, 23] from .tail _ (.head _)))) rfl
            have h77 := Sp.of_c (H23 (hn 23 (show 23 ∈ [29, 35, 23] from .tail _ (.tail _ (.head _)))))
            clear hn hl H0 H1 H2 H3 H4 H5 H6 H7 H8 H9 H10 H11 H12 H13 H14 H15 H16 H17 H18 H19 H20 H21 H22 H23 H24 H25 H26 H27 H28 H29 H30 H31 H32 H33 H34 H35
            exact stepN (unwanted_guard rfl rfl h77 rfl)
          refine steps_cons (fun hn hl => ?_) fun H37 => ?_
          · skip
            have h77 := Sp.of_c (H23 (hn 23 (show 23 ∈ [23, 36] from .head _)))
            have h90 := Sp.of_off (H36 (hn 36 (show 36 ∈ [23, 36] from .tail _ (.head _)))) rfl
            clear hn hl H0 H1 H2 H3 H4 H5 H6 H7 H8 H9 H10 H11 H12 H13 H14 H15 H16 H17 H18 H19 H20 H21 H22 H23 H24 H25 H26 H27 H28 H29 H30 H31 H32 H33 H34 H35 H36
            refine stepC (wanted_free rfl) fun K hK => ?_
            go_simp
            exact hK _ (Below.refl _ _)
          exact trivial
        · intro w12 hb12
          have hz12 := hb12.size
          refine end_cons ?_; rintro _ rfl
          refine end_cons ?_; rintro _ rfl
          refine end_cons ?_; rintro _ rfl
          refine end_cons ?_; rintro _ rfl
          refine end_cons ?_; rintro _ rfl
          refine end_cons ?_; rintro _ rfl
          refine end_cons ?_; rintro _ rfl
          refine end_cons ?_; rintro _ rfl
          refine end_cons ?_; rintro _ rfl
          refine end_cons ?_; rintro _ rfl
          refine end_cons ?_; rintro _ rfl
          refine end_cons ?_; rintro _ rfl
          refine end_cons ?_; rintro _ rfl
          refine end_cons ?_; rintro _ rfl
          refine end_cons ?_; rintro _ rfl
          refine end_cons ?_; rintro _ rfl
          refine end_cons ?_; rintro _ rfl
          refine end_cons ?_; rintro _ rfl
          refine end_cons ?_; rintro _ rfl
          refine end_cons ?_; rintro _ rfl
          refine end_cons ?_; rintro _ rfl
          refine end_cons ?_; rintro _ rfl
          refine end_cons ?_; rintro _ rfl
          refine end_cons ?_; rintro _ rfl
          refine end_cons ?_; rintro _ rfl
          refine end_cons ?_; rintro _ rfl
          refine end_cons ?_; rintro _ rfl
          refine end_cons ?_; rintro _ rfl
          refine end_cons ?_; rintro _ rfl
          refine end_cons ?_; rintro _ rfl
          refine end_cons ?_; rintro _ rfl
          refine end_cons ?_; rintro _ rfl
          refine end_cons ?_; rintro _ rfl
          refine end_cons ?_; rintro _ rfl
          refine end_cons ?_; rintro _ rfl
          refine end_cons ?_; rintro _ rfl
          refine end_cons ?_; rintro _ rfl
          refine end_cons ?_; rintro _ rfl
          refine end_nil ?_
          simp only [List.setIfInBounds_toArray, List.set_cons_succ, List.set_cons_zero, Bool.not_false, Bool.not_true, Bool.true_or, Bool.or_true, Bool.false_or, Bool.or_false]
          have hr12 := hb12
          have HFY := Lib.hid (HFX.out.later hb12)
          have hb5x := Lib.hid (k5r.trans ((hbx.trans (hb12.mono hbx.size)).mono k5r.size))
          have HOX := Lib.hid (own_later HO.out (hbx.trans (hb12.mono hbx.size)))
          replace hb5x := hb5x.out
          obtain ⟨x0, x1, x2, x3, x4, x5, x6, x7⟩ := HFY.out
          go_wp2_with (at_builtin; refine pushOne _ _ 26 29 4 32 _ i0 Try.underlying26 hi hzz hzs hzb rfl (by decide) (by decide) w5.heap.size w5.heap.size m _ _ _ _ w5 _ rfl rfl rfl rfl rfl HOX.out hb5x (Nat.le_refl _) (hb5x.size) (by simp [Value.oneCell']) (by omega) ?_)
          intro v' w15 hown hb15
          go_wp2
          go_roundw
          case rel => exact ⟨k + 1, by omega, by go_num, hb15, Lib.hid ⟨acc ++ [f], by rw [List.length_append, vcsV_app, vcsV_one, HM.out]; exact hown, by rw [List.length_append, hacc]; rfl, HX.out⟩⟩
          case measure => simp [intOf]; omega
    · have hkl : k = fs.length := by omega
      obtain ⟨acc, hO, hacc, hP⟩ := HI.out
      have hlk : acc.length = fs.length := by omega
      have hal := HAL.out acc hlk (fun i hi => by rw [hP i (by omega)]; simp [hi])
      have HPL3 := Lib.hid (fun a' c' => HPL2.out a' c' acc hlk)
      rw [hal.1, hal.2] at HPL3
      obtain ⟨a9, c9, rfl, hs9⟩ := own_vc hO
      have HS9 := Lib.hid hs9
      replace HPL3 := Lib.hid (HPL3.out a9 c9)
      generalize acc.length = an at HPL3 ⊢
      obtain ⟨d0, d1, d2, d3, d4, d5⟩ := HCC.out.later k5r
      clear hO HI hP hal hs9 HPL2 HAL hacc hlk
      go_wp2_with fail
      refine (HPL3.out wr HS9.out (HP.out.later kr)).mono ?_
      rintro e w16 ⟨v16, rfl, hO16, hb16⟩
      obtain ⟨a16, c16, rfl, hs16⟩ := own_sh (l := A) hO16
      have HS16 := Lib.hid hs16
      have HS17 := Lib.hid ((HS5.out.later k5r).later hb16)
      clear hO16 hs16 d0 d1 d2 d3 d4 d5
      go_wp2_with fail
      refine (HSM.out a5 a16 c5 c16 w16 HS17.out HS16.out).mono ?_
      rintro e w17 ⟨rfl, hb17⟩
      go_wp2
      go_ret
      exact ⟨rfl, kr.trans ((hb16.trans (hb17.mono hb16.size)).mono kr.size)⟩
theorem placeStays_walk (v0 : Value) (v1 : Value) (v2 : Value) (w : World) (F0 : FVcs w v0) (F1 : FWant w v1) (F2 : FVcs w v2) :
    Calls Try.prog 5 #[v0, v1, v2] w fun e w' => e = .returned (.bool true) ∧ Below w.heap.size w w' := by
  obtain ⟨a, cap, fs, rfl, HA⟩ := F0
  obtain ⟨b, cb, part, many, need, rfl, HB, hm⟩ := F1
  obtain ⟨ta, tc, ts, rfl, HT⟩ := F2
  by_cases h : fs.length ≤ 30 ∧ part.length ≤ 30
  · by_cases h2 : RiseN fs.length (-1) part
    · by_cases h3 : need.Ok
      · by_cases h4 : ¬ many < 1 ∧ ¬ 0 < plLeft fs need many part
        · exact stays_ok a cap fs b cb part many hm need ta tc ts w HA HB HT h h2 h3 h4
        · exact stays_none a cap fs b cb part many hm need ta tc ts w HA HB HT h h2 h3 h4
      · exact stays_right a cap fs b cb part many hm need ta tc ts w HA HB HT h h2 h3
    · exact stays_rise a cap fs b cb part many hm need ta tc ts w HA HB HT h h2
  · exact stays_few a cap fs b cb part many hm need ta tc ts w HA HB HT h
end Go.Proofs.Ytncedpjgmoncpaa.W
