/-
  The walk of SpecMore.
-/
import Derived.Test.YtonnngolijjdmaaSpecAwake
import Derived.BigRegion
import Derived.Test.YtonnngolijjdmaaFrameSpec
namespace Go.Proofs.Ytonnngolijjdmaa.W
set_option linter.unusedVariables false
set_option linter.unusedSimpArgs false
open Go.ChangeShapes Go.WideShapes Go.ChangeAt Go.RowKit

def argSp (g : Nat) (x0 x1 x2 : Int) : List Sp :=
  [Sp.c (.pointer (some ⟨g + 1, 0, none⟩)) [],
   Sp.c (.int .i64 x0) [0],
   Sp.c (.pointer (some ⟨g + 1, 1, none⟩)) [],
   Sp.c (.int .i64 x1) [2],
   Sp.c (.pointer (some ⟨g + 1, 2, none⟩)) [],
   Sp.c (.int .i64 x2) [4],
   Sp.c (.int .i64 x0) [1],
   Sp.c (.int .i64 x1) [3],
   Sp.c (.int .i64 x2) [5]]
theorem few_small {s : S} (h : Few s) : SmallS s := ⟨fun p hp => by have := h.2.2.2.1 p hp; omega, fun q hq => by have := h.2.2.2.2 q hq; omega⟩
set_option maxRecDepth 100000 in
set_option maxHeartbeats 4000000 in
theorem more_in (s : S) (hf : Few s) (hr : rightS s = true) (x0 x1 x2 : Int) (need less : V) (w : World) (HR : Rows w s) :
    Calls Try.prog 3 #[.agg #[.slice s.na s.nodes.length s.nc, .slice s.pa s.parts.length s.pc, .slice s.qa s.queues.length s.qc, .int .i64 s.users, .int .i64 s.age, .int .i64 s.size, .int .i64 s.qos, .int .i64 s.share, .int .i64 s.decay, .int .i64 s.mode, .int .i64 s.jobs, .int .i64 s.ids, .int .i64 s.versions, .int .i64 s.linger, .int .i64 s.keep, .int .i64 s.inn, .int .i64 s.out, .int .i64 s.cache], .agg #[.int .i64 x0, .int .i64 x1, .int .i64 x2], .agg #[.int .i64 need.cpu, .int .i64 need.mem, .int .i64 need.gpu, .int .i64 need.lic, .int .i64 less.cpu, .int .i64 less.mem, .int .i64 less.gpu, .int .i64 less.lic]] w
      fun e w' => e = .returned (.bool true) ∧ Below w.heap.size w w' := by
  have H0 := Lib.hid (fun w' h => few s w' h)
  rw [show fewB s = true from decide_eq_true hf] at H0
  have H1 := Lib.hid (fun w' h => rright7 s hf w' h)
  rw [hr] at H1
  have HR := Lib.hid HR
  have HB := Lib.hid (fun t => Box.new w s t)
  go_enter Try.func3, Try.ntmps3
  go_wp2_with fail
  have HB := Lib.hid (HB.out 28)
  generalize hw0 : World.alloc (World.alloc (World.alloc w _) _) _ = w0 
  have hb0 : Below w.heap.size w w0 := by rw [← hw0]; exact (by repeat' (first | exact Below.refl _ _ | assumption | exact And.left (by assumption) | refine Below.drew ?_ | refine below_drewN ?_ _ | refine Below.setCell ?_ (by first | (simp; done) | (simp; omega) | omega) _ | refine Below.alloc ?_ (by first | (simp; done) | (simp; omega) | omega) _ | refine after (by assumption) (by first | (simp; done) | (simp; omega) | omega) ?_))
  have hbB : Below (w.heap.size + 1) (w.alloc (.cells #[.slice s.na s.nodes.length s.nc, .slice s.pa s.parts.length s.pc, .slice s.qa s.queues.length s.qc, .int .i64 s.users, .int .i64 s.age, .int .i64 s.size, .int .i64 s.qos, .int .i64 s.share, .int .i64 s.decay, .int .i64 s.mode, .int .i64 s.jobs, .int .i64 s.ids, .int .i64 s.versions, .int .i64 s.linger, .int .i64 s.keep, .int .i64 s.inn, .int .i64 s.out, .int .i64 s.cache] 28)) w0 := by rw [← hw0]; exact ((Below.refl _ _).alloc (by simp) _).alloc (by simp) _
  have p0 : w0.cell? ⟨w.heap.size + 1, 0, none⟩ = some (.int .i64 x0) := by rw [← hw0]; simp [go_sem]
  have p1 : w0.cell? ⟨w.heap.size + 1, 1, none⟩ = some (.int .i64 x1) := by rw [← hw0]; simp [go_sem]
  have p2 : w0.cell? ⟨w.heap.size + 1, 2, none⟩ = some (.int .i64 x2) := by rw [← hw0]; simp [go_sem]
  have q0 : w0.cell? ⟨w.heap.size + 1 + 1, 0, none⟩ = some (.int .i64 need.cpu) := by rw [← hw0]; simp [go_sem]
  have q1 : w0.cell? ⟨w.heap.size + 1 + 1, 1, none⟩ = some (.int .i64 need.mem) := by rw [← hw0]; simp [go_sem]
  have q2 : w0.cell? ⟨w.heap.size + 1 + 1, 2, none⟩ = some (.int .i64 need.gpu) := by rw [← hw0]; simp [go_sem]
  have q3 : w0.cell? ⟨w.heap.size + 1 + 1, 3, none⟩ = some (.int .i64 need.lic) := by rw [← hw0]; simp [go_sem]
  have q4 : w0.cell? ⟨w.heap.size + 1 + 1, 4, none⟩ = some (.int .i64 less.cpu) := by rw [← hw0]; simp [go_sem]
  have q5 : w0.cell? ⟨w.heap.size + 1 + 1, 5, none⟩ = some (.int .i64 less.mem) := by rw [← hw0]; simp [go_sem]
  have q6 : w0.cell? ⟨w.heap.size + 1 + 1, 6, none⟩ = some (.int .i64 less.gpu) := by rw [← hw0]; simp [go_sem]
  have q7 : w0.cell? ⟨w.heap.size + 1 + 1, 7, none⟩ = some (.int .i64 less.lic) := by rw [← hw0]; simp [go_sem]
  have HX := Lib.hid (HB.out.later (show Below (w.alloc (.cells #[.slice s.na s.nodes.length s.nc, .slice s.pa s.parts.length s.pc, .slice s.qa s.queues.length s.qc, .int .i64 s.users, .int .i64 s.age, .int .i64 s.size, .int .i64 s.qos, .int .i64 s.share, .int .i64 s.decay, .int .i64 s.mode, .int .i64 s.jobs, .int .i64 s.ids, .int .i64 s.versions, .int .i64 s.linger, .int .i64 s.keep, .int .i64 s.inn, .int .i64 s.out, .int .i64 s.cache] 28)).heap.size _ w0 from (World.size_alloc w _) ▸ hbB))
  have HR0 := Lib.hid (HR.out.later hb0)
  clear hw0 hbB HB HR
  refine (awake7 _).mono ?_; rintro e w1 ⟨rfl, hb1⟩
  have HX1 := Lib.hid (HX.out.later hb1)
  have HR1 := Lib.hid (HR0.out.later hb1)
  have hW1 := hb0.trans (hb1.mono hb0.size)
  go_wp2_with (refine wpList_load_box (s := s) rfl (.tmp 3) rfl rfl HX1.out ?_)
  refine (H0.out _ HR1.out).mono ?_; rintro e w2 ⟨rfl, hb2⟩
  have HX2 := Lib.hid (HX1.out.later hb2)
  have HR2 := Lib.hid (HR1.out.later hb2)
  have hW2 := hW1.trans (hb2.mono hW1.size)
  go_wp2_with (refine wpList_load_box_g (s := s) (.tmp 3) rfl rfl HX2.out rfl ?_)
  refine (H1.out _ HR2.out).mono ?_; rintro e w3 ⟨rfl, hb3⟩
  have HX3 := Lib.hid (HX2.out.later hb3)
  have HR3 := Lib.hid (HR2.out.later hb3)
  have hW3 := hW2.trans (hb3.mono hW2.size)
  have h03 : Below w0.heap.size w0 w3 := hb1.trans ((hb2.trans (hb3.mono hb2.size)).mono hb1.size)
  replace p0 := carry h03 p0
  replace p1 := carry h03 p1
  replace p2 := carry h03 p2
  replace q0 := carry h03 q0
  replace q1 := carry h03 q1
  replace q2 := carry h03 q2
  replace q3 := carry h03 q3
  replace q4 := carry h03 q4
  replace q5 := carry h03 q5
  replace q6 := carry h03 q6
  replace q7 := carry h03 q7
  clear HX HX1 HX2 HR0 HR1 HR2 H0 H1
  go_wp2_with fail
  refine region_mono (argSp w.heap.size x0 x1 x2) [22, 23, 24, 25, 26, 27, 7, 8, 9] (by kernel_rfl) (by kernel_rfl) (by kernel_rfl) (by kernel_rfl) (stables_cons (Sp.c_stable _ _) (stables_cons (Sp.c_stable _ _) (stables_cons (Sp.c_stable _ _) (stables_cons (Sp.c_stable _ _) (stables_cons (Sp.c_stable _ _) (stables_cons (Sp.c_stable _ _) (stables_cons (Sp.c_stable _ _) (stables_cons (Sp.c_stable _ _) (stables_cons (Sp.c_stable _ _) (trivial)))))))))) ?_ ?_
  · intro am wm L hbm hbase hbase2
    have s4 : am.tmps.getD 4 undef = .pointer (some ⟨w.heap.size + 1, 0, none⟩) := (hbase 4 rfl).trans (by simp only [Array.getD_eq_getD_getElem?, List.getElem?_toArray, List.getElem?_cons_succ, List.getElem?_cons_zero, Option.getD_some])
    clear hbase hbase2
    have m0 := carry hbm p0
    have m1 := carry hbm p1
    have m2 := carry hbm p2
    refine steps_cons (fun hn hl => ?_) fun H0 => ?_
    · skip
      clear hn hl 
      refine stepC (wanted_free rfl) fun K hK => ?_
      go_simp
      exact hK _ (Below.refl _ _)
    refine steps_cons (fun hn hl => ?_) fun H1 => ?_
    · skip
      have h22 := Sp.of_c (H0 (hn 0 (show 0 ∈ [0] from .head _)))
      clear hn hl H0
      refine stepC (wanted_free rfl) fun K hK => ?_
      go_simp
      exact hK _ (Below.refl _ _)
    refine steps_cons (fun hn hl => ?_) fun H2 => ?_
    · skip
      clear hn hl H0 H1
      refine stepC (wanted_free rfl) fun K hK => ?_
      go_simp
      exact hK _ (Below.refl _ _)
    refine steps_cons (fun hn hl => ?_) fun H3 => ?_
    · skip
      have h24 := Sp.of_c (H2 (hn 2 (show 2 ∈ [2] from .head _)))
      clear hn hl H0 H1 H2
      refine stepC (wanted_free rfl) fun K hK => ?_
      go_simp
      exact hK _ (Below.refl _ _)
    refine steps_cons (fun hn hl => ?_) fun H4 => ?_
    · skip
      clear hn hl H0 H1 H2 H3
      refine stepC (wanted_free rfl) fun K hK => ?_
      go_simp
      exact hK _ (Below.refl _ _)
    refine steps_cons (fun hn hl => ?_) fun H5 => ?_
    · skip
      have h26 := Sp.of_c (H4 (hn 4 (show 4 ∈ [4] from .head _)))
      clear hn hl H0 H1 H2 H3 H4
      refine stepC (wanted_free rfl) fun K hK => ?_
      go_simp
      exact hK _ (Below.refl _ _)
    refine steps_cons (fun hn hl => ?_) fun H6 => ?_
    · skip
      have h23 := Sp.of_c (H1 (hn 1 (show 1 ∈ [1] from .head _)))
      clear hn hl H0 H1 H2 H3 H4 H5
      refine stepC (wanted_free rfl) fun K hK => ?_
      go_simp
      exact hK _ (Below.refl _ _)
    refine steps_cons (fun hn hl => ?_) fun H7 => ?_
    · skip
      have h25 := Sp.of_c (H3 (hn 3 (show 3 ∈ [3] from .head _)))
      clear hn hl H0 H1 H2 H3 H4 H5 H6
      refine stepC (wanted_free rfl) fun K hK => ?_
      go_simp
      exact hK _ (Below.refl _ _)
    refine steps_cons (fun hn hl => ?_) fun H8 => ?_
    · skip
      have h27 := Sp.of_c (H5 (hn 5 (show 5 ∈ [5] from .head _)))
      clear hn hl H0 H1 H2 H3 H4 H5 H6 H7
      refine stepC (wanted_free rfl) fun K hK => ?_
      go_simp
      exact hK _ (Below.refl _ _)
    exact trivial
  · intro w5 hb5
    have hz5 := hb5.size
    refine end_cons ?_; rintro _ rfl
    refine end_cons ?_; rintro _ rfl
    refine end_cons ?_; rintro _ rfl
    refine end_cons ?_; rintro _ rfl
    refine end_cons ?_; rintro _ rfl
    refine end_cons ?_; rintro _ rfl
    refine end_cons ?_; rintro _ rfl
    refine end_cons ?_; rintro _ rfl
    refine end_cons ?_; rintro _ rfl
    refine end_nil ?_
    simp only [List.setIfInBounds_toArray, List.set_cons_succ, List.set_cons_zero, Bool.not_false, Bool.not_true, Bool.true_or, Bool.or_true, Bool.false_or, Bool.or_false]
    replace HX3 := Lib.hid (HX3.out.later hb5)
    replace HR3 := Lib.hid (HR3.out.later hb5)
    replace hW3 := hW3.trans (hb5.mono hW3.size)
    replace q0 := carry hb5 q0
    replace q1 := carry hb5 q1
    replace q2 := carry hb5 q2
    replace q3 := carry hb5 q3
    replace q4 := carry hb5 q4
    replace q5 := carry hb5 q5
    replace q6 := carry hb5 q6
    replace q7 := carry hb5 q7
    have hq := World.block_lt_of_cell? _ _ q0
    simp only at hq
    have hq' : w.heap.size + 1 + 1 < w5.heap.size + 1 := by omega
    have hq2 : w.heap.size + 1 + 1 < w5.heap.size + 1 + 1 := by omega
    have hz5' : w5.heap.size < w5.heap.size + 1 := by omega
    go_upto_region 6 with fail
    go_cut [10, 11] (fun s10 s11 wx => ∃ g h : Nat, s10 = .pointer (some ⟨g, 0, none⟩) ∧ s11 = .pointer (some ⟨h, 0, none⟩) ∧ Below w5.heap.size w5 wx ∧ Res4 wx g need ∧ Res4 wx h less)
    case first =>
      go_region
      all_goals
        go_wp2_with fail
        go_meet
        exact ⟨_, _, rfl, rfl, (by repeat' (first | exact Below.refl _ _ | assumption | exact And.left (by assumption) | refine Below.drew ?_ | refine below_drewN ?_ _ | refine Below.setCell ?_ (by first | (simp; done) | (simp; omega) | omega) _ | refine Below.alloc ?_ (by first | (simp; done) | (simp; omega) | omega) _ | refine after (by assumption) (by first | (simp; done) | (simp; omega) | omega) ?_)), ⟨by simp [go_sem], by simp [go_sem], by simp [go_sem], by simp [go_sem], by simp [go_sem], by simp [go_sem], by simp [go_sem], by simp [go_sem]⟩, by simp [go_sem], by simp [go_sem], by simp [go_sem], by simp [go_sem], by simp [go_sem], by simp [go_sem], by simp [go_sem], by simp [go_sem]⟩
    case rest =>
      obtain ⟨g, h, rfl, rfl, hbc, RG, RH⟩ := hcut
      have HXc := Lib.hid (HX3.out.later hbc)
      have HRc := Lib.hid (HR3.out.later hbc)
      have hWc := hW3.trans (hbc.mono hW3.size)
      have hs := few_small hf
      have F1 := Lib.hid (fun w' h => fits7 s hs x0 x1 need w' h)
      have F2 := Lib.hid (fun w' h => fits7 s hs x0 x2 need w' h)
      have F3 := Lib.hid (fun w' h => fits7 s hs x0 x1 less w' h)
      clear q0 q1 q2 q3 q4 q5 q6 q7 hq hq' hq2 hz5' HX3 HR3 hs hf hbc hb1 hb2 hb3 h03 p0 p1 p2
      obtain ⟨g0, g1, g2, g3, _, _, _, _⟩ := RG
      obtain ⟨h0, h1, h2, h3, _, _, _, _⟩ := RH
      cases a1 : fitsS s x0 x1 need with
      | false =>
        rw [a1] at F1
        clear a1
        go_wp2_with (refine wpList_load_box (s := s) rfl (.tmp 3) rfl rfl HXc.out ?_)
        refine (F1.out _ HRc.out).mono ?_; rintro e w6 ⟨rfl, hb6⟩
        go_wp2
        go_ret
        exact ⟨rfl, hWc.trans (hb6.mono hWc.size)⟩
      | true =>
        have a2 : 1 ≤ x2 → x2 ≤ x1 → fitsS s x0 x2 need = true := fun u v => fits_fewer a1 u v
        have a3 : less.Ok → ¬ less.is0 → V.Le less need → fitsS s x0 x1 less = true := fun u v z => fits_less a1 u v z
        rw [a1] at F1
        clear a1
        by_cases t0 : 1 ≤ x2
        · have t0' : decide (x2 < 1) = false := by simpa using t0
          by_cases t1 : x2 ≤ x1
          · have t1' : decide (x1 < x2) = false := by simpa using t1
            rw [a2 t0 t1] at F2
            clear t0 t1 a2
            go_wp2_with (refine wpList_load_box (s := s) rfl (.tmp 3) rfl rfl HXc.out ?_)
            refine (F1.out _ HRc.out).mono ?_; rintro e w6 ⟨rfl, hb6⟩
            have HX6 := Lib.hid (HXc.out.later hb6)
            have HR6 := Lib.hid (HRc.out.later hb6)
            have hW6 := hWc.trans (hb6.mono hWc.size)
            replace g0 := carry hb6 g0
            replace g1 := carry hb6 g1
            replace g2 := carry hb6 g2
            replace g3 := carry hb6 g3
            replace h0 := carry hb6 h0
            replace h1 := carry hb6 h1
            replace h2 := carry hb6 h2
            replace h3 := carry hb6 h3
            go_wp2_with (refine wpList_load_box (s := s) rfl (.tmp 3) rfl rfl HX6.out ?_)
            refine (F2.out _ HR6.out).mono ?_; rintro e w7 ⟨rfl, hb7⟩
            have HX7 := Lib.hid (HX6.out.later hb7)
            have HR7 := Lib.hid (HR6.out.later hb7)
            have hW7 := hW6.trans (hb7.mono hW6.size)
            replace g0 := carry hb7 g0
            replace g1 := carry hb7 g1
            replace g2 := carry hb7 g2
            replace g3 := carry hb7 g3
            replace h0 := carry hb7 h0
            replace h1 := carry hb7 h1
            replace h2 := carry hb7 h2
            replace h3 := carry hb7 h3
            have HA := Lib.hid (fun w => rright less w)
            have HF := Lib.hid (fun w => rfits less need w)
            clear HXc HRc HX6 HR6 F1 F2 hWc hW6 hW3 hb6
            by_cases d1 : less.Ok
            · rw [right_yes d1] at HA
              by_cases d2 : less.is0
              · obtain ⟨z0, z1, z2, z3⟩ : (less.cpu == 0) = true ∧ (less.mem == 0) = true ∧ (less.gpu == 0) = true ∧ (less.lic == 0) = true := by unfold V.is0 at d2; simpa using d2
                clear d1 d2 a3
                go_wp2_with fail
                refine (HA.out _).mono ?_; rintro e w8 ⟨rfl, hb8⟩
                replace h0 := carry hb8 h0
                replace h1 := carry hb8 h1
                replace h2 := carry hb8 h2
                replace h3 := carry hb8 h3
                go_wp2
                go_ret
                exact ⟨rfl, hW7.trans (hb8.mono hW7.size)⟩
              · by_cases d3 : V.Le less need
                · rw [a3 d1 d2 d3] at F3
                  rw [fits_yes d3] at HF
                  have key := first_not less d2
                  clear d1 d2 d3 a3
                  rcases key with z0 | ⟨z0, z1⟩ | ⟨z0, z1, z2⟩ | ⟨z0, z1, z2, z3⟩
                  all_goals
                    go_wp2_with fail
                    refine (HA.out _).mono ?_; rintro e w8 ⟨rfl, hb8⟩
                    have HX8 := Lib.hid (HX7.out.later hb8)
                    have HR8 := Lib.hid (HR7.out.later hb8)
                    have hW8 := hW7.trans (hb8.mono hW7.size)
                    replace g0 := carry hb8 g0
                    replace g1 := carry hb8 g1
                    replace g2 := carry hb8 g2
                    replace g3 := carry hb8 g3
                    replace h0 := carry hb8 h0
                    replace h1 := carry hb8 h1
                    replace h2 := carry hb8 h2
                    replace h3 := carry hb8 h3
                    go_wp2_with fail
                    refine (HF.out _).mono ?_; rintro e w9 ⟨rfl, hb9⟩
                    have HX9 := Lib.hid (HX8.out.later hb9)
                    have HR9 := Lib.hid (HR8.out.later hb9)
                    have hW9 := hW8.trans (hb9.mono hW8.size)
                    replace h0 := carry hb9 h0
                    replace h1 := carry hb9 h1
                    replace h2 := carry hb9 h2
                    replace h3 := carry hb9 h3
                    go_wp2_with (refine wpList_load_box_g (s := s) (.tmp 3) rfl rfl HX9.out rfl ?_)
                    refine (F3.out _ HR9.out).mono ?_; rintro e w10 ⟨rfl, hb10⟩
                    go_wp2
                    go_ret
                    exact ⟨by simp, hW9.trans (hb10.mono hW9.size)⟩
                · rw [fits_no d3] at HF
                  have key := first_not less d2
                  clear d1 d2 d3 a3
                  rcases key with z0 | ⟨z0, z1⟩ | ⟨z0, z1, z2⟩ | ⟨z0, z1, z2, z3⟩
                  all_goals
                    go_wp2_with fail
                    refine (HA.out _).mono ?_; rintro e w8 ⟨rfl, hb8⟩
                    have hW8 := hW7.trans (hb8.mono hW7.size)
                    replace g0 := carry hb8 g0
                    replace g1 := carry hb8 g1
                    replace g2 := carry hb8 g2
                    replace g3 := carry hb8 g3
                    replace h0 := carry hb8 h0
                    replace h1 := carry hb8 h1
                    replace h2 := carry hb8 h2
                    replace h3 := carry hb8 h3
                    go_wp2_with fail
                    refine (HF.out _).mono ?_; rintro e w9 ⟨rfl, hb9⟩
                    go_wp2
                    go_ret
                    exact ⟨rfl, hW8.trans (hb9.mono hW8.size)⟩
            · rw [right_no d1] at HA
              clear d1 a3
              go_wp2_with fail
              refine (HA.out _).mono ?_; rintro e w8 ⟨rfl, hb8⟩
              go_wp2
              go_ret
              exact ⟨rfl, hW7.trans (hb8.mono hW7.size)⟩
          · have t1' : decide (x1 < x2) = true := by simpa using t1
            clear t0 t1 a2 a3
            go_wp2_with (refine wpList_load_box (s := s) rfl (.tmp 3) rfl rfl HXc.out ?_)
            refine (F1.out _ HRc.out).mono ?_; rintro e w6 ⟨rfl, hb6⟩
            go_wp2
            go_ret
            exact ⟨rfl, hWc.trans (hb6.mono hWc.size)⟩
        · have t0' : decide (x2 < 1) = true := by simpa using t0
          clear t0 a2 a3
          go_wp2_with (refine wpList_load_box (s := s) rfl (.tmp 3) rfl rfl HXc.out ?_)
          refine (F1.out _ HRc.out).mono ?_; rintro e w6 ⟨rfl, hb6⟩
          go_wp2
          go_ret
          exact ⟨rfl, hWc.trans (hb6.mono hWc.size)⟩

theorem more_few (s : S) (x0 x1 x2 : Int) (need less : V) (w : World) (HR : Rows w s) (h : ¬ (Few s ∧ rightS s = true)) :
    Calls Try.prog 3 #[.agg #[.slice s.na s.nodes.length s.nc, .slice s.pa s.parts.length s.pc, .slice s.qa s.queues.length s.qc, .int .i64 s.users, .int .i64 s.age, .int .i64 s.size, .int .i64 s.qos, .int .i64 s.share, .int .i64 s.decay, .int .i64 s.mode, .int .i64 s.jobs, .int .i64 s.ids, .int .i64 s.versions, .int .i64 s.linger, .int .i64 s.keep, .int .i64 s.inn, .int .i64 s.out, .int .i64 s.cache], .agg #[.int .i64 x0, .int .i64 x1, .int .i64 x2], .agg #[.int .i64 need.cpu, .int .i64 need.mem, .int .i64 need.gpu, .int .i64 need.lic, .int .i64 less.cpu, .int .i64 less.mem, .int .i64 less.gpu, .int .i64 less.lic]] w
      fun e w' => e = .returned (.bool true) ∧ Below w.heap.size w w' := by
  have H0 := Lib.hid (fun w' h => few s w' h)
  have HR := Lib.hid HR
  have HB := Lib.hid (fun t => Box.new w s t)
  by_cases hf : Few s
  · have hr : rightS s = false := by
      cases e : rightS s with
      | true => exact absurd ⟨hf, e⟩ h
      | false => rfl
    rw [show fewB s = true from decide_eq_true hf] at H0
    have H1 := Lib.hid (fun w' h => rright7 s hf w' h)
    rw [hr] at H1
    clear h hf hr
    go_enter Try.func3, Try.ntmps3
    go_wp2_with fail
    have HB := Lib.hid (HB.out 28)
    generalize hw0 : World.alloc (World.alloc (World.alloc w _) _) _ = w0
    have hb0 : Below w.heap.size w w0 := by rw [← hw0]; exact (by repeat' (first | exact Below.refl _ _ | assumption | exact And.left (by assumption) | refine Below.drew ?_ | refine below_drewN ?_ _ | refine Below.setCell ?_ (by first | (simp; done) | (simp; omega) | omega) _ | refine Below.alloc ?_ (by first | (simp; done) | (simp; omega) | omega) _ | refine after (by assumption) (by first | (simp; done) | (simp; omega) | omega) ?_))
    have hbB : Below (w.heap.size + 1) (w.alloc (.cells #[.slice s.na s.nodes.length s.nc, .slice s.pa s.parts.length s.pc, .slice s.qa s.queues.length s.qc, .int .i64 s.users, .int .i64 s.age, .int .i64 s.size, .int .i64 s.qos, .int .i64 s.share, .int .i64 s.decay, .int .i64 s.mode, .int .i64 s.jobs, .int .i64 s.ids, .int .i64 s.versions, .int .i64 s.linger, .int .i64 s.keep, .int .i64 s.inn, .int .i64 s.out, .int .i64 s.cache] 28)) w0 := by rw [← hw0]; exact ((Below.refl _ _).alloc (by simp) _).alloc (by simp) _
    have HX := Lib.hid (HB.out.later (show Below (w.alloc (.cells #[.slice s.na s.nodes.length s.nc, .slice s.pa s.parts.length s.pc, .slice s.qa s.queues.length s.qc, .int .i64 s.users, .int .i64 s.age, .int .i64 s.size, .int .i64 s.qos, .int .i64 s.share, .int .i64 s.decay, .int .i64 s.mode, .int .i64 s.jobs, .int .i64 s.ids, .int .i64 s.versions, .int .i64 s.linger, .int .i64 s.keep, .int .i64 s.inn, .int .i64 s.out, .int .i64 s.cache] 28)).heap.size _ w0 from (World.size_alloc w _) ▸ hbB))
    have HR0 := Lib.hid (HR.out.later hb0)
    clear hw0 hbB HB HR
    refine (awake7 _).mono ?_; rintro e w1 ⟨rfl, hb1⟩
    have HX1 := Lib.hid (HX.out.later hb1)
    have HR1 := Lib.hid (HR0.out.later hb1)
    have hW1 := hb0.trans (hb1.mono hb0.size)
    go_wp2_with (refine wpList_load_box (s := s) rfl (.tmp 3) rfl rfl HX1.out ?_)
    refine (H0.out _ HR1.out).mono ?_; rintro e w2 ⟨rfl, hb2⟩
    have HX2 := Lib.hid (HX1.out.later hb2)
    have HR2 := Lib.hid (HR1.out.later hb2)
    have hW2 := hW1.trans (hb2.mono hW1.size)
    go_wp2_with (refine wpList_load_box_g (s := s) (.tmp 3) rfl rfl HX2.out rfl ?_)
    refine (H1.out _ HR2.out).mono ?_; rintro e w3 ⟨rfl, hb3⟩
    go_wp2
    go_ret
    exact ⟨rfl, hW2.trans (hb3.mono hW2.size)⟩
  · rw [show fewB s = false from decide_eq_false hf] at H0
    clear h hf
    go_enter Try.func3, Try.ntmps3
    go_wp2_with fail
    have HB := Lib.hid (HB.out 28)
    generalize hw0 : World.alloc (World.alloc (World.alloc w _) _) _ = w0
    have hb0 : Below w.heap.size w w0 := by rw [← hw0]; exact (by repeat' (first | exact Below.refl _ _ | assumption | exact And.left (by assumption) | refine Below.drew ?_ | refine below_drewN ?_ _ | refine Below.setCell ?_ (by first | (simp; done) | (simp; omega) | omega) _ | refine Below.alloc ?_ (by first | (simp; done) | (simp; omega) | omega) _ | refine after (by assumption) (by first | (simp; done) | (simp; omega) | omega) ?_))
    have hbB : Below (w.heap.size + 1) (w.alloc (.cells #[.slice s.na s.nodes.length s.nc, .slice s.pa s.parts.length s.pc, .slice s.qa s.queues.length s.qc, .int .i64 s.users, .int .i64 s.age, .int .i64 s.size, .int .i64 s.qos, .int .i64 s.share, .int .i64 s.decay, .int .i64 s.mode, .int .i64 s.jobs, .int .i64 s.ids, .int .i64 s.versions, .int .i64 s.linger, .int .i64 s.keep, .int .i64 s.inn, .int .i64 s.out, .int .i64 s.cache] 28)) w0 := by rw [← hw0]; exact ((Below.refl _ _).alloc (by simp) _).alloc (by simp) _
    have HX := Lib.hid (HB.out.later (show Below (w.alloc (.cells #[.slice s.na s.nodes.length s.nc, .slice s.pa s.parts.length s.pc, .slice s.qa s.queues.length s.qc, .int .i64 s.users, .int .i64 s.age, .int .i64 s.size, .int .i64 s.qos, .int .i64 s.share, .int .i64 s.decay, .int .i64 s.mode, .int .i64 s.jobs, .int .i64 s.ids, .int .i64 s.versions, .int .i64 s.linger, .int .i64 s.keep, .int .i64 s.inn, .int .i64 s.out, .int .i64 s.cache] 28)).heap.size _ w0 from (World.size_alloc w _) ▸ hbB))
    have HR0 := Lib.hid (HR.out.later hb0)
    clear hw0 hbB HB HR
    refine (awake7 _).mono ?_; rintro e w1 ⟨rfl, hb1⟩
    have HX1 := Lib.hid (HX.out.later hb1)
    have HR1 := Lib.hid (HR0.out.later hb1)
    have hW1 := hb0.trans (hb1.mono hb0.size)
    go_wp2_with (refine wpList_load_box (s := s) rfl (.tmp 3) rfl rfl HX1.out ?_)
    refine (H0.out _ HR1.out).mono ?_; rintro e w2 ⟨rfl, hb2⟩
    go_wp2
    go_ret
    exact ⟨rfl, hW1.trans (hb2.mono hW1.size)⟩

theorem specMore_walk (v0 : Value) (v1 : Value) (v2 : Value) (w : World) (F0 : FSpec w v0) (F1 : FAgg 3 (FInt .i64) v1) (F2 : F2Res v2) :
    Calls Try.prog 3 #[v0, v1, v2] w fun e w' => e = .returned (.bool true) ∧ Below w.heap.size w w' := by
  obtain ⟨s, rfl, HR⟩ := F0
  obtain ⟨a, b, c, rfl, ⟨x0, rfl, _⟩, ⟨x1, rfl, _⟩, ⟨x2, rfl, _⟩⟩ := F1.three
  obtain ⟨need, less, rfl⟩ := F2
  by_cases h : Few s ∧ rightS s = true
  · exact more_in s h.1 h.2 x0 x1 x2 need less w HR
  · exact more_few s x0 x1 x2 need less w HR h
end Go.Proofs.Ytonnngolijjdmaa.W
