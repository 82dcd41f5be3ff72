/-
  The walk of BookAdds.
-/
import Derived.Test.YtkkjbmedpdjgdaaBkAwake
import Derived.Test.YtkkjbmedpdjgdaaFrameBk
import Derived.Test.YtkkjbmedpdjgdaaMonoOwn
namespace Go.Proofs.Ytkkjbmedpdjgdaa.W
set_option linter.unusedVariables false
set_option linter.unusedSimpArgs false
open Go.ChangeShapes Go.WideShapes Go.ChangeAt Go.RowKit

def baSp (B g : Nat) (a : Option Addr) (ln cap : Nat) (n : Int) (x : Bk) (l ml : List Bk) (a7 : Option Addr) (mn c7 : Nat) (a9 : Option Addr) (c9 : Nat) : List Sp :=
  [Sp.c (.slice a7 mn c7) [],
   Sp.m true (fun v w => ∃ y1, v = .slice (some ⟨y1, 0, none⟩) 0 0 ∧ w.ownsRow B 24 4 v 0 []) [],
   Sp.c (.slice a ln cap) [],
   Sp.m true (fun v w => w.ownsRow B 24 4 v l.length (bksV l)) [1, 2],
   Sp.c (.agg #[.int .i64 x.id, .int .i64 x.node, .int .i64 x.frm, .int .i64 x.til]) [],
   Sp.m true (fun v w => ∃ y1, v = .slice (some ⟨y1, 0, none⟩) 1 1 ∧ RowAt w (some ⟨y1, 0, none⟩) (bkV x)) [4],
   Sp.m true (fun v w => ∃ y1 y2, v = .slice y1 mn y2 ∧ BkAt w y1 y2 ml) [3, 5],
   Sp.c (.bool true) [0, 6],
   Sp.c (.bool true) [7],
   Sp.c (.slice a7 mn c7) [8],
   Sp.c (.int .i64 n) [8],
   Sp.c (.bool true) [9, 10, 8],
   Sp.c (.bool true) [8, 11],
   Sp.c (.bool true) [12],
   Sp.c (.int .i64 0) [13],
   Sp.c (.bool true) [14, 13],
   Sp.c (.bool true) [13, 15],
   Sp.c (.bool true) [16],
   Sp.c (.slice a9 ln c9) [17],
   Sp.c (.slice a ln cap) [17],
   Sp.c (.bool true) [18, 19, 17],
   Sp.c (.bool true) [17, 20],
   Sp.c (.bool true) [21]]
set_option maxHeartbeats 2000000 in
theorem adds_many (a : Option Addr) (cap : Nat) (l : List Bk) (n : Int) (x : Bk) (w : World) (HA : BkAt w a cap l) (h : 40 < l.length) :
    Calls Try.prog 3 #[.slice a l.length cap, .int .i64 n, .agg #[.int .i64 x.id, .int .i64 x.node, .int .i64 x.frm, .int .i64 x.til]] w fun e w' => e = .returned (.bool true) ∧ Below w.heap.size w w' := by
  clear HA
  go_enter Try.func3, Try.ntmps3
  go_wp2_with fail
  generalize hw0 : World.alloc w _ = w0
  have hb0 : Below w.heap.size w w0 := by rw [← hw0]; exact (by repeat' (first | exact Below.refl _ _ | assumption | exact And.left (by assumption) | refine Below.drew ?_ | refine below_drewN ?_ _ | refine Below.setCell ?_ (by first | (simp; done) | (simp; omega) | omega) _ | refine Below.alloc ?_ (by first | (simp; done) | (simp; omega) | omega) _ | refine after (by assumption) (by first | (simp; done) | (simp; omega) | omega) ?_))
  have y0 : w0.cell? ⟨w.heap.size, 0, none⟩ = some (.int .i64 x.id) := by rw [← hw0]; simp [go_sem]
  have y1 : w0.cell? ⟨w.heap.size, 1, none⟩ = some (.int .i64 x.node) := by rw [← hw0]; simp [go_sem]
  have y2 : w0.cell? ⟨w.heap.size, 2, none⟩ = some (.int .i64 x.frm) := by rw [← hw0]; simp [go_sem]
  have y3 : w0.cell? ⟨w.heap.size, 3, none⟩ = some (.int .i64 x.til) := by rw [← hw0]; simp [go_sem]
  clear hw0
  refine (awakeBk w0).mono ?_; rintro e w1 ⟨rfl, hb1⟩
  have k1 := hb0.trans (hb1.mono hb0.size)
  replace y0 := carry hb1 y0
  replace y1 := carry hb1 y1
  replace y2 := carry hb1 y2
  replace y3 := carry hb1 y3
  go_wp2
  go_ret
  exact ⟨rfl, k1⟩
set_option maxHeartbeats 4000000 in
theorem adds_no (a : Option Addr) (cap : Nat) (l : List Bk) (n : Int) (x : Bk) (w : World) (HA : BkAt w a cap l) (hl : l.length ≤ 40) (h : addEk l n x ≠ 0) :
    Calls Try.prog 3 #[.slice a l.length cap, .int .i64 n, .agg #[.int .i64 x.id, .int .i64 x.node, .int .i64 x.frm, .int .i64 x.til]] w fun e w' => e = .returned (.bool true) ∧ Below w.heap.size w w' := by
  have HR := Lib.hid HA
  have H1 := Lib.hid (fun w' y => bAdd a cap l (by omega) n x w' y)
  have H2 := Lib.hid (fun w' y => rBkAdd a cap l (by omega) n x w' y)
  generalize addEk l n x = ek at *
  clear HA
  go_enter Try.func3, Try.ntmps3
  go_wp2_with fail
  generalize hw0 : World.alloc w _ = w0
  have hb0 : Below w.heap.size w w0 := by rw [← hw0]; exact (by repeat' (first | exact Below.refl _ _ | assumption | exact And.left (by assumption) | refine Below.drew ?_ | refine below_drewN ?_ _ | refine Below.setCell ?_ (by first | (simp; done) | (simp; omega) | omega) _ | refine Below.alloc ?_ (by first | (simp; done) | (simp; omega) | omega) _ | refine after (by assumption) (by first | (simp; done) | (simp; omega) | omega) ?_))
  have y0 : w0.cell? ⟨w.heap.size, 0, none⟩ = some (.int .i64 x.id) := by rw [← hw0]; simp [go_sem]
  have y1 : w0.cell? ⟨w.heap.size, 1, none⟩ = some (.int .i64 x.node) := by rw [← hw0]; simp [go_sem]
  have y2 : w0.cell? ⟨w.heap.size, 2, none⟩ = some (.int .i64 x.frm) := by rw [← hw0]; simp [go_sem]
  have y3 : w0.cell? ⟨w.heap.size, 3, none⟩ = some (.int .i64 x.til) := by rw [← hw0]; simp [go_sem]
  clear hw0
  refine (awakeBk w0).mono ?_; rintro e w1 ⟨rfl, hb1⟩
  have k1 := hb0.trans (hb1.mono hb0.size)
  replace y0 := carry hb1 y0
  replace y1 := carry hb1 y1
  replace y2 := carry hb1 y2
  replace y3 := carry hb1 y3
  go_wp2_with fail
  refine (H1.out w1 (HR.out.later k1)).mono ?_
  rintro e w2 ⟨v2, rfl, hb2, hc⟩
  rcases hc with ⟨_, rfl⟩ | ⟨hc, _⟩
  · have k2 := k1.trans (hb2.mono k1.size)
    replace y0 := carry hb2 y0
    replace y1 := carry hb2 y1
    replace y2 := carry hb2 y2
    replace y3 := carry hb2 y3
    go_wp2_with fail
    refine (H2.out w2 (HR.out.later k2)).mono ?_; rintro e w3 ⟨rfl, hb3⟩
    have k3 := k2.trans (hb3.mono k2.size)
    replace y0 := carry hb3 y0
    replace y1 := carry hb3 y1
    replace y2 := carry hb3 y2
    replace y3 := carry hb3 y3
    have e0 : (ek == 0) = false := by simpa using h
    have e1 : (ek != 0) = true := by simpa using h
    go_wp2
    go_ret
    exact ⟨rfl, k3⟩
  · exact absurd hc h
set_option maxHeartbeats 8000000 in
set_option maxRecDepth 100000 in
theorem adds_ok (a : Option Addr) (cap : Nat) (l : List Bk) (n : Int) (x : Bk) (w : World) (HA : BkAt w a cap l) (hl : l.length ≤ 40) (h : addEk l n x = 0) :
    Calls Try.prog 3 #[.slice a l.length cap, .int .i64 n, .agg #[.int .i64 x.id, .int .i64 x.node, .int .i64 x.frm, .int .i64 x.til]] w fun e w' => e = .returned (.bool true) ∧ Below w.heap.size w w' := by
  obtain ⟨i0, hi, hzz, hzs, hzb⟩ := info_parts infoBk
  obtain ⟨r1, r2, r3, r4⟩ := addEk_ok h
  have HR := Lib.hid HA
  have H1 := Lib.hid (fun w' y => bAdd a cap l (by omega) n x w' y)
  have H2 := Lib.hid (fun w' y => rBkAdd a cap l (by omega) n x w' y)
  rw [h] at H1 H2
  obtain ⟨ml, hml⟩ : ∃ ml, ml = l ++ [x] := ⟨_, rfl⟩
  have hmn : ml.length = l.length + 1 := by rw [hml]; simp
  have hdk : dropK x.id ml = l := by rw [hml]; exact (dropK_add r3).1
  have hhas : HasK ml x.id := by rw [hml]; exact (dropK_add r3).2
  have hrt : rightBk ml n = true := by rw [hml]; exact decide_eq_true r4
  have H3 := Lib.hid (fun a' c' w' y => bDrop_yes a' c' ml (by omega) x.id hhas w' y)
  rw [hdk] at H3
  have HS10 := Lib.hid (fun a' c' b' cb w' y z => rBkSame a' b' c' cb ml ml (by omega) (by omega) w' y z)
  rw [decide_eq_true (rfl : ml = ml)] at HS10
  have HS20 := Lib.hid (fun a' c' w' y z => rBkSame a' a c' cap l l (by omega) (by omega) w' y z)
  rw [decide_eq_true (rfl : l = l)] at HS20
  have HRT0 := Lib.hid (fun a' c' w' y => bRight a' c' ml (by omega) n w' y)
  rw [hrt] at HRT0
  have HMK : Hid (∀ (v : Value) (w' : World) (B : Nat), w'.ownsRow B 24 4 v (l.length + 1) (bksV l ++ bkV x) → w'.ownsRow B 24 4 v ml.length (bksV ml)) := Lib.hid (fun v w' B y => by
    rw [hmn, hml, bksV_app, bksV_one]; exact y)
  have HL := Lib.hid hl
  clear HA h r1 r2 r3 r4 hml hmn hdk hhas hrt
  go_enter Try.func3, Try.ntmps3
  go_wp2_with fail
  generalize hw0 : World.alloc w _ = w0
  have hb0 : Below w.heap.size w w0 := by rw [← hw0]; exact (by repeat' (first | exact Below.refl _ _ | assumption | exact And.left (by assumption) | refine Below.drew ?_ | refine below_drewN ?_ _ | refine Below.setCell ?_ (by first | (simp; done) | (simp; omega) | omega) _ | refine Below.alloc ?_ (by first | (simp; done) | (simp; omega) | omega) _ | refine after (by assumption) (by first | (simp; done) | (simp; omega) | omega) ?_))
  have y0 : w0.cell? ⟨w.heap.size, 0, none⟩ = some (.int .i64 x.id) := by rw [← hw0]; simp [go_sem]
  have y1 : w0.cell? ⟨w.heap.size, 1, none⟩ = some (.int .i64 x.node) := by rw [← hw0]; simp [go_sem]
  have y2 : w0.cell? ⟨w.heap.size, 2, none⟩ = some (.int .i64 x.frm) := by rw [← hw0]; simp [go_sem]
  have y3 : w0.cell? ⟨w.heap.size, 3, none⟩ = some (.int .i64 x.til) := by rw [← hw0]; simp [go_sem]
  clear hw0
  refine (awakeBk w0).mono ?_; rintro e w1 ⟨rfl, hb1⟩
  have k1 := hb0.trans (hb1.mono hb0.size)
  replace y0 := carry hb1 y0
  replace y1 := carry hb1 y1
  replace y2 := carry hb1 y2
  replace y3 := carry hb1 y3
  go_wp2_with fail
  refine (H1.out w1 (HR.out.later k1)).mono ?_
  rintro e w2 ⟨v2, rfl, hb2, hc⟩
  rcases hc with ⟨hc, _⟩ | ⟨_, hO2⟩
  · exact absurd rfl hc
  obtain ⟨a7, c7, rfl, hs7⟩ := own_bk (l := ml) (HMK.out _ _ _ (by rw [← bksV_one, ← bksV_app]; exact hO2))
  have HM2 := Lib.hid hs7
  clear hO2 hs7
  have k2 := k1.trans (hb2.mono k1.size)
  replace y0 := carry hb2 y0
  replace y1 := carry hb2 y1
  replace y2 := carry hb2 y2
  replace y3 := carry hb2 y3
  go_wp2_with fail
  refine (H2.out w2 (HR.out.later k2)).mono ?_; rintro e w3 ⟨rfl, hb3⟩
  have k3 := k2.trans (hb3.mono k2.size)
  replace y0 := carry hb3 y0
  replace y1 := carry hb3 y1
  replace y2 := carry hb3 y2
  replace y3 := carry hb3 y3
  go_wp2_with fail
  refine (H3.out a7 c7 w3 (HM2.out.later hb3)).mono ?_; rintro e w6 ⟨v9, rfl, hO9, hb6⟩
  obtain ⟨a9, c9, rfl, hs9⟩ := own_bk (l := l) hO9
  have HB6 := Lib.hid hs9
  clear hO9 hs9
  have k6 := k3.trans (hb6.mono k3.size)
  replace y0 := carry hb6 y0
  replace y1 := carry hb6 y1
  replace y2 := carry hb6 y2
  replace y3 := carry hb6 y3
  have HM6 := Lib.hid ((HM2.out.later hb3).later hb6)
  have HR6 := Lib.hid (HR.out.later k6)
  have HS1 := Lib.hid (HS10.out a7 c7)
  have HS2 := Lib.hid (HS20.out a9 c9)
  have HRT := Lib.hid (HRT0.out a7 c7)
  clear HM2 HS10 HS20 HRT0 H1 H2 H3
  replace HMK := Lib.hid (fun v w' y => HMK.out v w' w6.heap.size y)
  go_wp2_with fail
  refine region_mono_own 6 [1, 3, 5] (baSp w6.heap.size w.heap.size a l.length cap n x l ml a7 ml.length c7 a9 c9) [41, 42, 43, 44, 45, 46, 47, 48, 49, 50, 51, 52, 53, 54, 55, 56, 57, 58, 59, 60, 61, 62, 6] (by kernel_rfl) (by kernel_rfl) (by kernel_rfl) (by kernel_rfl) (by kernel_rfl) (flats_go (c_flat _ _) (flats_dead (by decide) (flats_go (c_flat _ _) (flats_dead (by decide) (flats_go (c_flat _ _) (flats_dead (by decide) (flats_end _ (by decide)))))))) (stables_cons (Sp.c_stable _ _) (stables_cons (Sp.m_stable _ _ _ (fun _ _ _ ⟨y1, e, y2⟩ hb => ⟨y1, e, own_later y2 hb⟩)) (stables_cons (Sp.c_stable _ _) (stables_cons (Sp.m_stable _ _ _ (fun _ _ _ y hb => own_later y hb)) (stables_cons (Sp.c_stable _ _) (stables_cons (Sp.m_stable _ _ _ (fun _ _ _ ⟨y1, e, y2⟩ hb => ⟨y1, e, y2.later hb⟩)) (stables_cons (Sp.m_stable _ _ _ (fun _ _ _ ⟨y1, y2, e, y3⟩ hb => ⟨y1, y2, e, y3.later hb⟩)) (stables_cons (Sp.c_stable _ _) (stables_cons (Sp.c_stable _ _) (stables_cons (Sp.c_stable _ _) (stables_cons (Sp.c_stable _ _) (stables_cons (Sp.c_stable _ _) (stables_cons (Sp.c_stable _ _) (stables_cons (Sp.c_stable _ _) (stables_cons (Sp.c_stable _ _) (stables_cons (Sp.c_stable _ _) (stables_cons (Sp.c_stable _ _) (stables_cons (Sp.c_stable _ _) (stables_cons (Sp.c_stable _ _) (stables_cons (Sp.c_stable _ _) (stables_cons (Sp.c_stable _ _) (stables_cons (Sp.c_stable _ _) (stables_cons (Sp.c_stable _ _) (trivial)))))))))))))))))))))))) ?_ ?_
  · intro am wm L hbm hbase hbase2
    have s0 : am.tmps.getD 0 undef = .slice a l.length cap := (hbase 0 rfl).trans (by simp only [Array.getD_eq_getD_getElem?, List.getElem?_toArray, List.getElem?_cons_succ, List.getElem?_cons_zero, Option.getD_some])
    have s1 : am.tmps.getD 1 undef = .int .i64 n := (hbase 1 rfl).trans (by simp only [Array.getD_eq_getD_getElem?, List.getElem?_toArray, List.getElem?_cons_succ, List.getElem?_cons_zero, Option.getD_some])
    have s5 : am.tmps.getD 5 undef = .pointer (some ⟨w.heap.size, 0, none⟩) := (hbase 5 rfl).trans (by simp only [Array.getD_eq_getD_getElem?, List.getElem?_toArray, List.getElem?_cons_succ, List.getElem?_cons_zero, Option.getD_some])
    have s7 : am.tmps.getD 7 undef = .slice a7 ml.length c7 := (hbase 7 rfl).trans (by simp only [Array.getD_eq_getD_getElem?, List.getElem?_toArray, List.getElem?_cons_succ, List.getElem?_cons_zero, Option.getD_some])
    have s9 : am.tmps.getD 9 undef = .slice a9 l.length c9 := (hbase 9 rfl).trans (by simp only [Array.getD_eq_getD_getElem?, List.getElem?_toArray, List.getElem?_cons_succ, List.getElem?_cons_zero, Option.getD_some])
    have s10 : am.tmps.getD 10 undef = .int .i64 0 := (hbase 10 rfl).trans (by simp only [Array.getD_eq_getD_getElem?, List.getElem?_toArray, List.getElem?_cons_succ, List.getElem?_cons_zero, Option.getD_some])
    clear hbase hbase2
    have m0 := carry hbm y0
    have m1 := carry hbm y1
    have m2 := carry hbm y2
    have m3 := carry hbm y3
    have hbz := hbm.size
    refine stepsX_cons (by decide) (fun hn => ?_) fun H0 => ?_
    · skip
      clear hn 
      refine stepC (wanted_free rfl) fun K hK => ?_
      go_simp
      exact hK _ (Below.refl _ _)
    refine stepsX_cons (by decide) (fun hn => ?_) fun H1 => ?_
    · skip
      clear hn H0
      refine stepR (wanted_free rfl) fun K hK => ?_
      go_simp
      exact hK _ _ ((Below.refl _ _).alloc (Nat.le_refl _) _) ⟨_, rfl, World.ownsRow_lit wm #[] 0 hbz (by decide) rfl⟩
    refine stepsX_cons (by decide) (fun hn => ?_) fun H2 => ?_
    · skip
      clear hn H0 H1
      refine stepC (wanted_free rfl) fun K hK => ?_
      go_simp
      exact hK _ (Below.refl _ _)
    refine stepsX_cons (by decide) (fun hn => ?_) fun H3 => ?_
    · skip
      obtain ⟨y1, h42, z42⟩ := Sp.of_m (H1 (hn 1 (show 1 ∈ [1, 2] from .head _))) rfl
      have h43 := Sp.of_c (H2 (hn 2 (show 2 ∈ [1, 2] from .tail _ (.head _))))
      clear hn H0 H1 H2
      refine stepR (wanted_free rfl) fun K hK => ?_
      refine wp_append_fresh (.tmp 42) (.tmp 43) 22 rfl w6.heap.size 24 i0 _ 4 32 Try.underlying22 hi hzz hzs hzb rfl (by decide) (by decide) y1 h42 (by rw [← h42]; exact z42) a l.length cap (bksV l) h43 HR6.out.nil (bksV_len l) (HR6.out.row.later hbm) (bksV_cells l) (by have := HL.out; omega) hbz ?_; intro v' w' ho hb; exact hK v' w' hb ho
    refine stepsX_cons (by decide) (fun hn => ?_) fun H4 => ?_
    · skip
      clear hn H0 H1 H2 H3
      refine stepC (wanted_free rfl) fun K hK => ?_
      go_simp
      exact hK _ (Below.refl _ _)
    refine stepsX_cons (by decide) (fun hn => ?_) fun H5 => ?_
    · skip
      have h45 := Sp.of_c (H4 (hn 4 (show 4 ∈ [4] from .head _)))
      clear hn H0 H1 H2 H3 H4
      refine stepR (wanted_free rfl) fun K hK => ?_
      simp only [Array.getD_eq_getD_getElem?] at h45
      go_simp
      exact hK _ _ ((Below.refl _ _).alloc (Nat.le_refl _) _) ⟨_, rfl, row_new _ _ _⟩
    refine stepsX_own (fun hn => ?_) fun H6 => ?_
    · skip
      obtain z44 := Sp.of_m (H3 (hn 3 (show 3 ∈ [3, 5] from .head _))) rfl
      obtain ⟨q1, h46, z46⟩ := Sp.of_m (H5 (hn 5 (show 5 ∈ [3, 5] from .tail _ (.head _)))) rfl
      clear hn H0 H1 H2 H3 H4 H5
      refine stepG (wanted_free rfl) fun K hK => ?_
      refine wp_append_own _ (.tmp 44) (.tmp 46) 22 rfl w6.heap.size 24 i0 _ 4 32 Try.underlying22 hi hzz hzs hzb rfl (by decide) _ l.length (bksV l) rfl z44 ⟨q1, 0, none⟩ 1 1 (bkV x) h46 rfl (row_reads z46) (by rw [← bksV_one]; exact bksV_cells _) (by have := HL.out; unfold maxLen; omega) (by have := HL.out; omega) hbz ?_; intro v' w' ho hg _; have hbw : Below w6.heap.size wm w' := (Below.refl _ _).grown hg hbz (fun k hk => (z44.lt k hk).1); obtain ⟨p1, p2, e, hs⟩ := own_bk (l := ml) (HMK.out _ _ ho); exact hK v' w' hbw ⟨p1, p2, e, hs⟩
    refine stepsX_cons (by decide) (fun hn => ?_) fun H7 => ?_
    · skip
      have h41 := Sp.of_c (H0 (hn 0 (show 0 ∈ [0, 6] from .head _)))
      obtain ⟨p1, p2, h47, z47⟩ := Sp.of_m (H6 (hn 6 (show 6 ∈ [0, 6] from .tail _ (.head _)))) rfl
      clear hn H0 H1 H2 H3 H4 H5 H6
      refine stepC (wanted_free rfl) fun K hK => ?_
      go_simp
      first
        | ((with_reducible refine (HS1.out _ _ _ (HM6.out.later hbm) z47).mono ?_); rintro e wq ⟨rfl, hbq⟩; exact hK _ hbq)
        | ((with_reducible refine (HRT.out _ (HM6.out.later hbm)).mono ?_); rintro e wq ⟨rfl, hbq⟩; exact hK _ hbq)
        | ((with_reducible refine (HS2.out _ (HB6.out.later hbm) (HR6.out.later hbm)).mono ?_); rintro e wq ⟨rfl, hbq⟩; exact hK _ hbq)
    refine stepsX_cons (by decide) (fun hn => ?_) fun H8 => ?_
    · skip
      have h48 := Sp.of_c (H7 (hn 7 (show 7 ∈ [7] from .head _)))
      clear hn H0 H1 H2 H3 H4 H5 H6 H7
      refine stepC (wanted_free rfl) fun K hK => ?_
      go_simp
      exact hK _ (Below.refl _ _)
    refine stepsX_cons (by decide) (fun hn => ?_) fun H9 => ?_
    · skip
      have h49 := Sp.of_c (H8 (hn 8 (show 8 ∈ [8] from .head _)))
      clear hn H0 H1 H2 H3 H4 H5 H6 H7 H8
      refine stepC (wanted_guard rfl rfl h49 rfl) fun K hK => ?_
      go_simp
      exact hK _ (Below.refl _ _)
    refine stepsX_cons (by decide) (fun hn => ?_) fun H10 => ?_
    · skip
      have h49 := Sp.of_c (H8 (hn 8 (show 8 ∈ [8] from .head _)))
      clear hn H0 H1 H2 H3 H4 H5 H6 H7 H8 H9
      refine stepC (wanted_guard rfl rfl h49 rfl) fun K hK => ?_
      go_simp
      exact hK _ (Below.refl _ _)
    refine stepsX_cons (by decide) (fun hn => ?_) fun H11 => ?_
    · skip
      have h50 := Sp.of_c (H9 (hn 9 (show 9 ∈ [9, 10, 8] from .head _)))
      have h51 := Sp.of_c (H10 (hn 10 (show 10 ∈ [9, 10, 8] from .tail _ (.head _))))
      have h49 := Sp.of_c (H8 (hn 8 (show 8 ∈ [9, 10, 8] from .tail _ (.tail _ (.head _)))))
      clear hn H0 H1 H2 H3 H4 H5 H6 H7 H8 H9 H10
      refine stepC (wanted_guard rfl rfl h49 rfl) fun K hK => ?_
      go_simp
      first
        | ((with_reducible refine (HS1.out _ _ _ (HM6.out.later hbm) z47).mono ?_); rintro e wq ⟨rfl, hbq⟩; exact hK _ hbq)
        | ((with_reducible refine (HRT.out _ (HM6.out.later hbm)).mono ?_); rintro e wq ⟨rfl, hbq⟩; exact hK _ hbq)
        | ((with_reducible refine (HS2.out _ (HB6.out.later hbm) (HR6.out.later hbm)).mono ?_); rintro e wq ⟨rfl, hbq⟩; exact hK _ hbq)
    refine stepsX_cons (by decide) (fun hn => ?_) fun H12 => ?_
    · skip
      have h49 := Sp.of_c (H8 (hn 8 (show 8 ∈ [8, 11] from .head _)))
      have h52 := Sp.of_c (H11 (hn 11 (show 11 ∈ [8, 11] from .tail _ (.head _))))
      clear hn H0 H1 H2 H3 H4 H5 H6 H7 H8 H9 H10 H11
      refine stepC (wanted_free rfl) fun K hK => ?_
      go_simp
      exact hK _ (Below.refl _ _)
    refine stepsX_cons (by decide) (fun hn => ?_) fun H13 => ?_
    · skip
      have h53 := Sp.of_c (H12 (hn 12 (show 12 ∈ [12] from .head _)))
      clear hn H0 H1 H2 H3 H4 H5 H6 H7 H8 H9 H10 H11 H12
      refine stepC (wanted_free rfl) fun K hK => ?_
      go_simp
      exact hK _ (Below.refl _ _)
    refine stepsX_cons (by decide) (fun hn => ?_) fun H14 => ?_
    · skip
      have h54 := Sp.of_c (H13 (hn 13 (show 13 ∈ [13] from .head _)))
      clear hn H0 H1 H2 H3 H4 H5 H6 H7 H8 H9 H10 H11 H12 H13
      refine stepC (wanted_guard rfl rfl h54 rfl) fun K hK => ?_
      go_simp
      exact hK _ (Below.refl _ _)
    refine stepsX_cons (by decide) (fun hn => ?_) fun H15 => ?_
    · skip
      have h55 := Sp.of_c (H14 (hn 14 (show 14 ∈ [14, 13] from .head _)))
      have h54 := Sp.of_c (H13 (hn 13 (show 13 ∈ [14, 13] from .tail _ (.head _))))
      clear hn H0 H1 H2 H3 H4 H5 H6 H7 H8 H9 H10 H11 H12 H13 H14
      refine stepC (wanted_guard rfl rfl h54 rfl) fun K hK => ?_
      go_simp
      exact hK _ (Below.refl _ _)
    refine stepsX_cons (by decide) (fun hn => ?_) fun H16 => ?_
    · skip
      have h54 := Sp.of_c (H13 (hn 13 (show 13 ∈ [13, 15] from .head _)))
      have h56 := Sp.of_c (H15 (hn 15 (show 15 ∈ [13, 15] from .tail _ (.head _))))
      clear hn H0 H1 H2 H3 H4 H5 H6 H7 H8 H9 H10 H11 H12 H13 H14 H15
      refine stepC (wanted_free rfl) fun K hK => ?_
      go_simp
      exact hK _ (Below.refl _ _)
    refine stepsX_cons (by decide) (fun hn => ?_) fun H17 => ?_
    · skip
      have h57 := Sp.of_c (H16 (hn 16 (show 16 ∈ [16] from .head _)))
      clear hn H0 H1 H2 H3 H4 H5 H6 H7 H8 H9 H10 H11 H12 H13 H14 H15 H16
      refine stepC (wanted_free rfl) fun K hK => ?_
      go_simp
      exact hK _ (Below.refl _ _)
    refine stepsX_cons (by decide) (fun hn => ?_) fun H18 => ?_
    · skip
      have h58 := Sp.of_c (H17 (hn 17 (show 17 ∈ [17] from .head _)))
      clear hn H0 H1 H2 H3 H4 H5 H6 H7 H8 H9 H10 H11 H12 H13 H14 H15 H16 H17
      refine stepC (wanted_guard rfl rfl h58 rfl) fun K hK => ?_
      go_simp
      exact hK _ (Below.refl _ _)
    refine stepsX_cons (by decide) (fun hn => ?_) fun H19 => ?_
    · skip
      have h58 := Sp.of_c (H17 (hn 17 (show 17 ∈ [17] from .head _)))
      clear hn H0 H1 H2 H3 H4 H5 H6 H7 H8 H9 H10 H11 H12 H13 H14 H15 H16 H17 H18
      refine stepC (wanted_guard rfl rfl h58 rfl) fun K hK => ?_
      go_simp
      exact hK _ (Below.refl _ _)
    refine stepsX_cons (by decide) (fun hn => ?_) fun H20 => ?_
    · skip
      have h59 := Sp.of_c (H18 (hn 18 (show 18 ∈ [18, 19, 17] from .head _)))
      have h60 := Sp.of_c (H19 (hn 19 (show 19 ∈ [18, 19, 17] from .tail _ (.head _))))
      have h58 := Sp.of_c (H17 (hn 17 (show 17 ∈ [18, 19, 17] from .tail _ (.tail _ (.head _)))))
      clear hn H0 H1 H2 H3 H4 H5 H6 H7 H8 H9 H10 H11 H12 H13 H14 H15 H16 H17 H18 H19
      refine stepC (wanted_guard rfl rfl h58 rfl) fun K hK => ?_
      go_simp
      first
        | ((with_reducible refine (HS1.out _ _ _ (HM6.out.later hbm) z47).mono ?_); rintro e wq ⟨rfl, hbq⟩; exact hK _ hbq)
        | ((with_reducible refine (HRT.out _ (HM6.out.later hbm)).mono ?_); rintro e wq ⟨rfl, hbq⟩; exact hK _ hbq)
        | ((with_reducible refine (HS2.out _ (HB6.out.later hbm) (HR6.out.later hbm)).mono ?_); rintro e wq ⟨rfl, hbq⟩; exact hK _ hbq)
    refine stepsX_cons (by decide) (fun hn => ?_) fun H21 => ?_
    · skip
      have h58 := Sp.of_c (H17 (hn 17 (show 17 ∈ [17, 20] from .head _)))
      have h61 := Sp.of_c (H20 (hn 20 (show 20 ∈ [17, 20] from .tail _ (.head _))))
      clear hn H0 H1 H2 H3 H4 H5 H6 H7 H8 H9 H10 H11 H12 H13 H14 H15 H16 H17 H18 H19 H20
      refine stepC (wanted_free rfl) fun K hK => ?_
      go_simp
      exact hK _ (Below.refl _ _)
    refine stepsX_cons (by decide) (fun hn => ?_) fun H22 => ?_
    · skip
      have h62 := Sp.of_c (H21 (hn 21 (show 21 ∈ [21] from .head _)))
      clear hn H0 H1 H2 H3 H4 H5 H6 H7 H8 H9 H10 H11 H12 H13 H14 H15 H16 H17 H18 H19 H20 H21
      refine stepC (wanted_free rfl) fun K hK => ?_
      go_simp
      exact hK _ (Below.refl _ _)
    exact trivial
  · intro w5 hb5
    have hz5 := hb5.size
    refine end_cons ?_; rintro _ rfl
    refine end_cons ?_; intro _ _
    refine end_cons ?_; rintro _ rfl
    refine end_cons ?_; intro _ _
    refine end_cons ?_; rintro _ rfl
    refine end_cons ?_; intro _ _
    refine end_cons ?_; rintro _ ⟨e1, e2, rfl, e3⟩
    refine end_cons ?_; rintro _ rfl
    refine end_cons ?_; rintro _ rfl
    refine end_cons ?_; rintro _ rfl
    refine end_cons ?_; rintro _ rfl
    refine end_cons ?_; rintro _ rfl
    refine end_cons ?_; rintro _ rfl
    refine end_cons ?_; rintro _ rfl
    refine end_cons ?_; rintro _ rfl
    refine end_cons ?_; rintro _ rfl
    refine end_cons ?_; rintro _ rfl
    refine end_cons ?_; rintro _ rfl
    refine end_cons ?_; rintro _ rfl
    refine end_cons ?_; rintro _ rfl
    refine end_cons ?_; rintro _ rfl
    refine end_cons ?_; rintro _ rfl
    refine end_cons ?_; rintro _ rfl
    refine end_nil ?_
    simp only [List.setIfInBounds_toArray, List.set_cons_succ, List.set_cons_zero, Bool.not_false, Bool.not_true, Bool.true_or, Bool.or_true, Bool.false_or, Bool.or_false]
    go_wp2
    go_ret
    exact ⟨rfl, k6.trans (hb5.mono k6.size)⟩
theorem bookAdds_walk (v0 : Value) (v1 : Value) (v2 : Value) (w : World) (F0 : FBks w v0) (F1 : FInt .i64 v1) (F2 : FBk v2) :
    Calls Try.prog 3 #[v0, v1, v2] w fun e w' => e = .returned (.bool true) ∧ Below w.heap.size w w' := by
  obtain ⟨a, cap, l, rfl, HA⟩ := F0
  obtain ⟨n, rfl, _⟩ := F1
  obtain ⟨x, rfl⟩ := F2
  by_cases hl : 40 < l.length
  · exact adds_many a cap l n x w HA hl
  · by_cases h : addEk l n x = 0
    · exact adds_ok a cap l n x w HA (by omega) h
    · exact adds_no a cap l n x w HA (by omega) h
end Go.Proofs.Ytkkjbmedpdjgdaa.W
