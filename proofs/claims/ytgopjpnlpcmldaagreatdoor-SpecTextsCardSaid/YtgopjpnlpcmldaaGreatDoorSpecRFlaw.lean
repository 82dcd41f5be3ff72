/-
  Contracts of the document's own Flaw and Right.
-/
import Derived.Test.YtgopjpnlpcmldaaGreatDoorSpecRQueues
namespace Go.Proofs.YtgopjpnlpcmldaaGreatDoor.W
set_option linter.unusedVariables false
set_option linter.unusedSimpArgs false
open Go.ChangeShapes Go.WideShapes Go.ChangeAt Go.RowKit

def flSp (g : Nat) (s : S) : List Sp :=
  [Sp.c (.agg #[.slice s.na s.nodes.length s.nc, .slice s.pa s.parts.length s.pc, .slice s.qa s.queues.length s.qc, .int .i64 s.users, .int .i64 s.age, .int .i64 s.size, .int .i64 s.qos, .int .i64 s.share, .int .i64 s.decay, .int .i64 s.mode, .int .i64 s.jobs, .int .i64 s.ids, .int .i64 s.versions, .int .i64 s.linger, .int .i64 s.keep, .int .i64 s.inn, .int .i64 s.out, .int .i64 s.cache]) [],
   Sp.c (.bool (nodesB s)) [0],
   Sp.c (.agg #[.slice s.na s.nodes.length s.nc, .slice s.pa s.parts.length s.pc, .slice s.qa s.queues.length s.qc, .int .i64 s.users, .int .i64 s.age, .int .i64 s.size, .int .i64 s.qos, .int .i64 s.share, .int .i64 s.decay, .int .i64 s.mode, .int .i64 s.jobs, .int .i64 s.ids, .int .i64 s.versions, .int .i64 s.linger, .int .i64 s.keep, .int .i64 s.inn, .int .i64 s.out, .int .i64 s.cache]) [],
   Sp.c (.bool (partsB s)) [2],
   Sp.c (.pointer (some ⟨g, 3, none⟩)) [],
   Sp.c (.int .i64 s.users) [4],
   Sp.c (.bool (inB s.users 1 8)) [5],
   Sp.c (.agg #[.slice s.na s.nodes.length s.nc, .slice s.pa s.parts.length s.pc, .slice s.qa s.queues.length s.qc, .int .i64 s.users, .int .i64 s.age, .int .i64 s.size, .int .i64 s.qos, .int .i64 s.share, .int .i64 s.decay, .int .i64 s.mode, .int .i64 s.jobs, .int .i64 s.ids, .int .i64 s.versions, .int .i64 s.linger, .int .i64 s.keep, .int .i64 s.inn, .int .i64 s.out, .int .i64 s.cache]) [],
   Sp.c (.bool (queuesB s)) [7],
   Sp.c (.bool (weightsB s)) [],
   Sp.c (.pointer (some ⟨g, 8, none⟩)) [],
   Sp.c (.int .i64 s.decay) [10],
   Sp.c (.bool (inB s.decay 1 16)) [11],
   Sp.c (.pointer (some ⟨g, 9, none⟩)) [],
   Sp.c (.int .i64 s.mode) [13],
   Sp.c (.bool (inB s.mode 1 2)) [14],
   Sp.c (.pointer (some ⟨g, 10, none⟩)) [],
   Sp.c (.int .i64 s.jobs) [16],
   Sp.c (.bool (inB s.jobs 1 256)) [17],
   Sp.c (.pointer (some ⟨g, 11, none⟩)) [],
   Sp.c (.int .i64 s.ids) [19],
   Sp.c (.bool (inB s.ids 1 1048576)) [20],
   Sp.c (.pointer (some ⟨g, 12, none⟩)) [],
   Sp.c (.int .i64 s.versions) [22],
   Sp.c (.bool (inB s.versions 1 65536)) [23],
   Sp.c (.pointer (some ⟨g, 13, none⟩)) [],
   Sp.c (.int .i64 s.linger) [25],
   Sp.c (.bool (inB s.linger 0 65536)) [26],
   Sp.c (.pointer (some ⟨g, 14, none⟩)) [],
   Sp.c (.int .i64 s.keep) [28],
   Sp.c (.bool (inB s.keep 1 16)) [29],
   Sp.c (.pointer (some ⟨g, 15, none⟩)) [],
   Sp.c (.int .i64 s.inn) [31],
   Sp.c (.bool (inB s.inn 1 8)) [32],
   Sp.c (.pointer (some ⟨g, 16, none⟩)) [],
   Sp.c (.int .i64 s.out) [34],
   Sp.c (.bool (inB s.out 1 16)) [35],
   Sp.c (.pointer (some ⟨g, 17, none⟩)) [],
   Sp.c (.int .i64 s.cache) [37],
   Sp.c (.bool (inB s.cache 0 16)) [38],
   Sp.m true (fun v w => ∃ b, v = .slice (some ⟨b, 0, none⟩) 15 15 ∧ ∀ k, k < 15 → w.cell? ⟨b, k, none⟩ = some (.bool (soB s k))) [1, 3, 6, 8, 9, 12, 15, 18, 21, 24, 27, 30, 33, 36, 39],
   Sp.m true (fun v w => ∃ b, v = .slice (some ⟨b, 0, none⟩) 15 15 ∧ ∀ k, k < 15 → w.cell? ⟨b, k, none⟩ = some (.bool (soB s k))) [40]]
set_option maxRecDepth 100000 in
set_option maxHeartbeats 4000000 in
theorem rflaw (s : S) (hf : Few s) (w : World) (HR : Rows w s) :
    Calls Tryz.prog 18 #[.agg #[.slice s.na s.nodes.length s.nc, .slice s.pa s.parts.length s.pc, .slice s.qa s.queues.length s.qc, .int .i64 s.users, .int .i64 s.age, .int .i64 s.size, .int .i64 s.qos, .int .i64 s.share, .int .i64 s.decay, .int .i64 s.mode, .int .i64 s.jobs, .int .i64 s.ids, .int .i64 s.versions, .int .i64 s.linger, .int .i64 s.keep, .int .i64 s.inn, .int .i64 s.out, .int .i64 s.cache]] w fun e w' => e = .returned (.string (flawW s)) ∧ Below w.heap.size w w' := by
  have HA := Lib.hid (show (∀ j, j < 15 → soB s j = true) → flawW s = ⟨#[]⟩ from flaw_all)
  have HI := Lib.hid (show ∀ i, i < 15 → (∀ j, j < i → soB s j = true) → soB s i = false → flawW s = wordB i from fun i hi => flaw_at hi)
  have HX := Lib.hid (fun t => Box.new w s t)
  have HNo := Lib.hid (fun w' hr => rnodes s _ rfl w' hr hf.1)
  have HPa := Lib.hid (fun w' hr => rparts s _ rfl w' hr (by have := hf.2.1; omega) (fun p hp => by have := hf.2.2.2.1 p hp; omega))
  have HQu := Lib.hid (fun w' hr => rqueues s _ rfl w' hr (by have := hf.2.2.1; omega) (fun p hp => by have := hf.2.2.2.2 p hp; omega))
  have HR := Lib.hid HR
  clear hf
  generalize flawW s = fw at HA HI ⊢
  go_enter Tryz.func18, Tryz.ntmps18
  go_upto_region 2 with fail
  go_cut [4] (fun s4 wx => s4 = .bool (weightsB s) ∧ Below (w.heap.size + 1) (w.alloc (.cells #[.slice s.na s.nodes.length s.nc, .slice s.pa s.parts.length s.pc, .slice s.qa s.queues.length s.qc, .int .i64 s.users, .int .i64 s.age, .int .i64 s.size, .int .i64 s.qos, .int .i64 s.share, .int .i64 s.decay, .int .i64 s.mode, .int .i64 s.jobs, .int .i64 s.ids, .int .i64 s.versions, .int .i64 s.linger, .int .i64 s.keep, .int .i64 s.inn, .int .i64 s.out, .int .i64 s.cache] 28)) wx)
  case first =>
    by_cases t0 : 0 ≤ s.age ∧ s.age ≤ 1000
    · have z0 : inB s.age 0 1000 = true := decide_eq_true t0
      by_cases t1 : 0 ≤ s.size ∧ s.size ≤ 1000
      · have z1 : inB s.size 0 1000 = true := decide_eq_true t1
        by_cases t2 : 0 ≤ s.qos ∧ s.qos ≤ 1000
        · have z2 : inB s.qos 0 1000 = true := decide_eq_true t2
          by_cases t3 : 0 ≤ s.share ∧ s.share ≤ 1000
          · have z3 : inB s.share 0 1000 = true := decide_eq_true t3
            have HWt := Lib.hid (show weightsB s = true from decide_eq_true ⟨t0, t1, t2, t3⟩)
            clear t0 t1 t2 t3
            go_wp2_with (refine (rin _ _ _ _).mono ?_; rintro e w' ⟨rfl, rfl⟩)
            go_meet
            exact ⟨by rw [HWt.out], (by repeat' (first | exact Below.refl _ _ | assumption | exact And.left (by assumption) | refine Below.drew ?_ | refine below_drewN ?_ _ | refine Below.setCell ?_ (by first | (simp; done) | (simp; omega) | omega) _ | refine Below.alloc ?_ (by first | (simp; done) | (simp; omega) | omega) _ | refine after (by assumption) (by first | (simp; done) | (simp; omega) | omega) ?_))⟩
          · have z3 : inB s.share 0 1000 = false := decide_eq_false t3
            have HWt := Lib.hid (show weightsB s = false from decide_eq_false fun x => t3 x.2.2.2)
            clear t0 t1 t2 t3
            go_wp2_with (refine (rin _ _ _ _).mono ?_; rintro e w' ⟨rfl, rfl⟩)
            go_meet
            exact ⟨by rw [HWt.out], (by repeat' (first | exact Below.refl _ _ | assumption | exact And.left (by assumption) | refine Below.drew ?_ | refine below_drewN ?_ _ | refine Below.setCell ?_ (by first | (simp; done) | (simp; omega) | omega) _ | refine Below.alloc ?_ (by first | (simp; done) | (simp; omega) | omega) _ | refine after (by assumption) (by first | (simp; done) | (simp; omega) | omega) ?_))⟩
        · have z2 : inB s.qos 0 1000 = false := decide_eq_false t2
          have HWt := Lib.hid (show weightsB s = false from decide_eq_false fun x => t2 x.2.2.1)
          clear t0 t1 t2
          go_wp2_with (refine (rin _ _ _ _).mono ?_; rintro e w' ⟨rfl, rfl⟩)
          go_meet
          exact ⟨by rw [HWt.out], (by repeat' (first | exact Below.refl _ _ | assumption | exact And.left (by assumption) | refine Below.drew ?_ | refine below_drewN ?_ _ | refine Below.setCell ?_ (by first | (simp; done) | (simp; omega) | omega) _ | refine Below.alloc ?_ (by first | (simp; done) | (simp; omega) | omega) _ | refine after (by assumption) (by first | (simp; done) | (simp; omega) | omega) ?_))⟩
      · have z1 : inB s.size 0 1000 = false := decide_eq_false t1
        have HWt := Lib.hid (show weightsB s = false from decide_eq_false fun x => t1 x.2.1)
        clear t0 t1
        go_wp2_with (refine (rin _ _ _ _).mono ?_; rintro e w' ⟨rfl, rfl⟩)
        go_meet
        exact ⟨by rw [HWt.out], (by repeat' (first | exact Below.refl _ _ | assumption | exact And.left (by assumption) | refine Below.drew ?_ | refine below_drewN ?_ _ | refine Below.setCell ?_ (by first | (simp; done) | (simp; omega) | omega) _ | refine Below.alloc ?_ (by first | (simp; done) | (simp; omega) | omega) _ | refine after (by assumption) (by first | (simp; done) | (simp; omega) | omega) ?_))⟩
    · have z0 : inB s.age 0 1000 = false := decide_eq_false t0
      have HWt := Lib.hid (show weightsB s = false from decide_eq_false fun x => t0 x.1)
      clear t0
      go_wp2_with (refine (rin _ _ _ _).mono ?_; rintro e w' ⟨rfl, rfl⟩)
      go_meet
      exact ⟨by rw [HWt.out], (by repeat' (first | exact Below.refl _ _ | assumption | exact And.left (by assumption) | refine Below.drew ?_ | refine below_drewN ?_ _ | refine Below.setCell ?_ (by first | (simp; done) | (simp; omega) | omega) _ | refine Below.alloc ?_ (by first | (simp; done) | (simp; omega) | omega) _ | refine after (by assumption) (by first | (simp; done) | (simp; omega) | omega) ?_))⟩
  case rest =>
    obtain ⟨rfl, hbx⟩ := hcut
    obtain ⟨wa, hwa⟩ : ∃ x, x = wc := ⟨_, rfl⟩
    subst hwa
    have hz := hbx.size; simp at hz
    have hbx1 : Below w.heap.size w wa := ((Below.refl w.heap.size w).alloc (Nat.le_refl _) _).trans (hbx.mono (Nat.le_succ _))
    have HXb := Lib.hid ((HX.out 28).later (show Below (w.alloc (.cells #[.slice s.na s.nodes.length s.nc, .slice s.pa s.parts.length s.pc, .slice s.qa s.queues.length s.qc, .int .i64 s.users, .int .i64 s.age, .int .i64 s.size, .int .i64 s.qos, .int .i64 s.share, .int .i64 s.decay, .int .i64 s.mode, .int .i64 s.jobs, .int .i64 s.ids, .int .i64 s.versions, .int .i64 s.linger, .int .i64 s.keep, .int .i64 s.inn, .int .i64 s.out, .int .i64 s.cache] 28)).heap.size _ wa from (World.size_alloc w _) ▸ hbx))
    have HRx := Lib.hid (HR.out.later hbx1)
    clear hbx HX HR
    go_upto_region 4 with fail
    generalize hw4 : wa.alloc _ = w4
    have hb4 : Below wa.heap.size wa w4 := by rw [← hw4]; exact (by repeat' (first | exact Below.refl _ _ | assumption | exact And.left (by assumption) | refine Below.drew ?_ | refine below_drewN ?_ _ | refine Below.setCell ?_ (by first | (simp; done) | (simp; omega) | omega) _ | refine Below.alloc ?_ (by first | (simp; done) | (simp; omega) | omega) _ | refine after (by assumption) (by first | (simp; done) | (simp; omega) | omega) ?_))
    have ht : ∀ k, k < 15 → w4.cell? ⟨wa.heap.size, k, none⟩ = some (.string (wordB k)) := fun k hk => by
      rw [← hw4]
      match k, hk with
      | 0, _ | 1, _ | 2, _ | 3, _ | 4, _ | 5, _ | 6, _ | 7, _ | 8, _ | 9, _ | 10, _ | 11, _ | 12, _ | 13, _ | 14, _ => simp [go_sem, wordB]
    clear hw4
    have bx := HXb.out.later hb4
    have HR0 := Lib.hid (HRx.out.later hb4)
    have hz4 := hb4.size
    clear HXb HRx
    go_cut [6] (fun s6 wx => ∃ b, s6 = .slice (some ⟨b, 0, none⟩) 15 15 ∧ Below w4.heap.size w4 wx ∧ Hid (∀ k, k < 15 → wx.cell? ⟨b, k, none⟩ = some (.bool (soB s k))))
    case first =>
      refine region_mono (flSp w.heap.size s) [29, 30, 31, 32, 33, 34, 35, 36, 37, 38, 39, 40, 41, 42, 43, 44, 45, 46, 47, 48, 49, 50, 51, 52, 53, 54, 55, 56, 57, 58, 59, 60, 61, 62, 63, 64, 65, 66, 67, 68, 69, 6] (by kernel_rfl) (by kernel_rfl) (by kernel_rfl) (by kernel_rfl) (stables_cons (Sp.c_stable _ _) (stables_cons (Sp.c_stable _ _) (stables_cons (Sp.c_stable _ _) (stables_cons (Sp.c_stable _ _) (stables_cons (Sp.c_stable _ _) (stables_cons (Sp.c_stable _ _) (stables_cons (Sp.c_stable _ _) (stables_cons (Sp.c_stable _ _) (stables_cons (Sp.c_stable _ _) (stables_cons (Sp.c_stable _ _) (stables_cons (Sp.c_stable _ _) (stables_cons (Sp.c_stable _ _) (stables_cons (Sp.c_stable _ _) (stables_cons (Sp.c_stable _ _) (stables_cons (Sp.c_stable _ _) (stables_cons (Sp.c_stable _ _) (stables_cons (Sp.c_stable _ _) (stables_cons (Sp.c_stable _ _) (stables_cons (Sp.c_stable _ _) (stables_cons (Sp.c_stable _ _) (stables_cons (Sp.c_stable _ _) (stables_cons (Sp.c_stable _ _) (stables_cons (Sp.c_stable _ _) (stables_cons (Sp.c_stable _ _) (stables_cons (Sp.c_stable _ _) (stables_cons (Sp.c_stable _ _) (stables_cons (Sp.c_stable _ _) (stables_cons (Sp.c_stable _ _) (stables_cons (Sp.c_stable _ _) (stables_cons (Sp.c_stable _ _) (stables_cons (Sp.c_stable _ _) (stables_cons (Sp.c_stable _ _) (stables_cons (Sp.c_stable _ _) (stables_cons (Sp.c_stable _ _) (stables_cons (Sp.c_stable _ _) (stables_cons (Sp.c_stable _ _) (stables_cons (Sp.c_stable _ _) (stables_cons (Sp.c_stable _ _) (stables_cons (Sp.c_stable _ _) (stables_cons (Sp.c_stable _ _) (stables_cons (Sp.m_stable _ _ _ (fun v w w' ⟨b', e, y0⟩ hbw => ⟨b', e, fun k hk => carry hbw (y0 k hk)⟩)) (stables_cons (Sp.m_stable _ _ _ (fun v w w' ⟨b', e, y0⟩ hbw => ⟨b', e, fun k hk => carry hbw (y0 k hk)⟩)) (trivial))))))))))))))))))))))))))))))))))))))))))) ?_ ?_
      · intro am wm L hbm hbase hbase2
        have s1 : am.tmps.getD 1 undef = .pointer (some ⟨w.heap.size, 0, none⟩) := (hbase 1 rfl).trans (by simp only [Array.getD_eq_getD_getElem?, List.getElem?_toArray, List.getElem?_cons_succ, List.getElem?_cons_zero, Option.getD_some])
        have s4 : am.tmps.getD 4 undef = .bool (weightsB s) := (hbase 4 rfl).trans (by simp only [Array.getD_eq_getD_getElem?, List.getElem?_toArray, List.getElem?_cons_succ, List.getElem?_cons_zero, Option.getD_some])
        clear hbase hbase2
        have m0 := carry hbm bx.c0
        have m1 := carry hbm bx.c1
        have m2 := carry hbm bx.c2
        have m3 := carry hbm bx.c3
        have m4 := carry hbm bx.c4
        have m5 := carry hbm bx.c5
        have m6 := carry hbm bx.c6
        have m7 := carry hbm bx.c7
        have m8 := carry hbm bx.c8
        have m9 := carry hbm bx.c9
        have m10 := carry hbm bx.c10
        have m11 := carry hbm bx.c11
        have m12 := carry hbm bx.c12
        have m13 := carry hbm bx.c13
        have m14 := carry hbm bx.c14
        have m15 := carry hbm bx.c15
        have m16 := carry hbm bx.c16
        have m17 := carry hbm bx.c17
        have bm := bx.later hbm
        clear bx
        refine steps_cons (fun hn hl => ?_) fun H0 => ?_
        · skip
          clear hn hl 
          refine stepC (wanted_free rfl) fun K hK => ?_
          exact wp_load_box (.tmp 1) rfl s1 bm (hK _ (Below.refl _ _))
        refine steps_cons (fun hn hl => ?_) fun H1 => ?_
        · skip
          have h29 := Sp.of_c (H0 (hn 0 (show 0 ∈ [0] from .head _)))
          clear hn hl H0
          refine stepC (wanted_free rfl) fun K hK => ?_
          go_simp
          first
            | ((with_reducible refine (HNo.out _ (HR0.out.later hbm)).mono ?_); rintro e w6 ⟨rfl, hb6⟩; exact hK _ hb6)
            | ((with_reducible refine (HPa.out _ (HR0.out.later hbm)).mono ?_); rintro e w6 ⟨rfl, hb6⟩; exact hK _ hb6)
            | ((with_reducible refine (HQu.out _ (HR0.out.later hbm)).mono ?_); rintro e w6 ⟨rfl, hb6⟩; exact hK _ hb6)
            | (refine (rin _ _ _ _).mono ?_; rintro e w6 ⟨rfl, rfl⟩; exact hK _ (Below.refl _ _))
        refine steps_cons (fun hn hl => ?_) fun H2 => ?_
        · skip
          clear hn hl H0 H1
          refine stepC (wanted_free rfl) fun K hK => ?_
          exact wp_load_box (.tmp 1) rfl s1 bm (hK _ (Below.refl _ _))
        refine steps_cons (fun hn hl => ?_) fun H3 => ?_
        · skip
          have h31 := Sp.of_c (H2 (hn 2 (show 2 ∈ [2] from .head _)))
          clear hn hl H0 H1 H2
          refine stepC (wanted_free rfl) fun K hK => ?_
          go_simp
          first
            | ((with_reducible refine (HNo.out _ (HR0.out.later hbm)).mono ?_); rintro e w6 ⟨rfl, hb6⟩; exact hK _ hb6)
            | ((with_reducible refine (HPa.out _ (HR0.out.later hbm)).mono ?_); rintro e w6 ⟨rfl, hb6⟩; exact hK _ hb6)
            | ((with_reducible refine (HQu.out _ (HR0.out.later hbm)).mono ?_); rintro e w6 ⟨rfl, hb6⟩; exact hK _ hb6)
            | (refine (rin _ _ _ _).mono ?_; rintro e w6 ⟨rfl, rfl⟩; exact hK _ (Below.refl _ _))
        refine steps_cons (fun hn hl => ?_) fun H4 => ?_
        · skip
          clear hn hl H0 H1 H2 H3
          refine stepC (wanted_free rfl) fun K hK => ?_
          go_simp
          exact hK _ (Below.refl _ _)
        refine steps_cons (fun hn hl => ?_) fun H5 => ?_
        · skip
          have h33 := Sp.of_c (H4 (hn 4 (show 4 ∈ [4] from .head _)))
          clear hn hl H0 H1 H2 H3 H4
          refine stepC (wanted_free rfl) fun K hK => ?_
          go_simp
          exact hK _ (Below.refl _ _)
        refine steps_cons (fun hn hl => ?_) fun H6 => ?_
        · skip
          have h34 := Sp.of_c (H5 (hn 5 (show 5 ∈ [5] from .head _)))
          clear hn hl H0 H1 H2 H3 H4 H5
          refine stepC (wanted_free rfl) fun K hK => ?_
          go_simp
          first
            | ((with_reducible refine (HNo.out _ (HR0.out.later hbm)).mono ?_); rintro e w6 ⟨rfl, hb6⟩; exact hK _ hb6)
            | ((with_reducible refine (HPa.out _ (HR0.out.later hbm)).mono ?_); rintro e w6 ⟨rfl, hb6⟩; exact hK _ hb6)
            | ((with_reducible refine (HQu.out _ (HR0.out.later hbm)).mono ?_); rintro e w6 ⟨rfl, hb6⟩; exact hK _ hb6)
            | (refine (rin _ _ _ _).mono ?_; rintro e w6 ⟨rfl, rfl⟩; exact hK _ (Below.refl _ _))
        refine steps_cons (fun hn hl => ?_) fun H7 => ?_
        · skip
          clear hn hl H0 H1 H2 H3 H4 H5 H6
          refine stepC (wanted_free rfl) fun K hK => ?_
          exact wp_load_box (.tmp 1) rfl s1 bm (hK _ (Below.refl _ _))
        refine steps_cons (fun hn hl => ?_) fun H8 => ?_
        · skip
          have h36 := Sp.of_c (H7 (hn 7 (show 7 ∈ [7] from .head _)))
          clear hn hl H0 H1 H2 H3 H4 H5 H6 H7
          refine stepC (wanted_free rfl) fun K hK => ?_
          go_simp
          first
            | ((with_reducible refine (HNo.out _ (HR0.out.later hbm)).mono ?_); rintro e w6 ⟨rfl, hb6⟩; exact hK _ hb6)
            | ((with_reducible refine (HPa.out _ (HR0.out.later hbm)).mono ?_); rintro e w6 ⟨rfl, hb6⟩; exact hK _ hb6)
            | ((with_reducible refine (HQu.out _ (HR0.out.later hbm)).mono ?_); rintro e w6 ⟨rfl, hb6⟩; exact hK _ hb6)
            | (refine (rin _ _ _ _).mono ?_; rintro e w6 ⟨rfl, rfl⟩; exact hK _ (Below.refl _ _))
        refine steps_cons (fun hn hl => ?_) fun H9 => ?_
        · skip
          clear hn hl H0 H1 H2 H3 H4 H5 H6 H7 H8
          refine stepC (wanted_free rfl) fun K hK => ?_
          go_simp
          exact hK _ (Below.refl _ _)
        refine steps_cons (fun hn hl => ?_) fun H10 => ?_
        · skip
          clear hn hl H0 H1 H2 H3 H4 H5 H6 H7 H8 H9
          refine stepC (wanted_free rfl) fun K hK => ?_
          go_simp
          exact hK _ (Below.refl _ _)
        refine steps_cons (fun hn hl => ?_) fun H11 => ?_
        · skip
          have h39 := Sp.of_c (H10 (hn 10 (show 10 ∈ [10] from .head _)))
          clear hn hl H0 H1 H2 H3 H4 H5 H6 H7 H8 H9 H10
          refine stepC (wanted_free rfl) fun K hK => ?_
          go_simp
          exact hK _ (Below.refl _ _)
        refine steps_cons (fun hn hl => ?_) fun H12 => ?_
        · skip
          have h40 := Sp.of_c (H11 (hn 11 (show 11 ∈ [11] from .head _)))
          clear hn hl H0 H1 H2 H3 H4 H5 H6 H7 H8 H9 H10 H11
          refine stepC (wanted_free rfl) fun K hK => ?_
          go_simp
          first
            | ((with_reducible refine (HNo.out _ (HR0.out.later hbm)).mono ?_); rintro e w6 ⟨rfl, hb6⟩; exact hK _ hb6)
            | ((with_reducible refine (HPa.out _ (HR0.out.later hbm)).mono ?_); rintro e w6 ⟨rfl, hb6⟩; exact hK _ hb6)
            | ((with_reducible refine (HQu.out _ (HR0.out.later hbm)).mono ?_); rintro e w6 ⟨rfl, hb6⟩; exact hK _ hb6)
            | (refine (rin _ _ _ _).mono ?_; rintro e w6 ⟨rfl, rfl⟩; exact hK _ (Below.refl _ _))
        refine steps_cons (fun hn hl => ?_) fun H13 => ?_
        · skip
          clear hn hl H0 H1 H2 H3 H4 H5 H6 H7 H8 H9 H10 H11 H12
          refine stepC (wanted_free rfl) fun K hK => ?_
          go_simp
          exact hK _ (Below.refl _ _)
        refine steps_cons (fun hn hl => ?_) fun H14 => ?_
        · skip
          have h42 := Sp.of_c (H13 (hn 13 (show 13 ∈ [13] from .head _)))
          clear hn hl H0 H1 H2 H3 H4 H5 H6 H7 H8 H9 H10 H11 H12 H13
          refine stepC (wanted_free rfl) fun K hK => ?_
          go_simp
          exact hK _ (Below.refl _ _)
        refine steps_cons (fun hn hl => ?_) fun H15 => ?_
        · skip
          have h43 := Sp.of_c (H14 (hn 14 (show 14 ∈ [14] from .head _)))
          clear hn hl H0 H1 H2 H3 H4 H5 H6 H7 H8 H9 H10 H11 H12 H13 H14
          refine stepC (wanted_free rfl) fun K hK => ?_
          go_simp
          first
            | ((with_reducible refine (HNo.out _ (HR0.out.later hbm)).mono ?_); rintro e w6 ⟨rfl, hb6⟩; exact hK _ hb6)
            | ((with_reducible refine (HPa.out _ (HR0.out.later hbm)).mono ?_); rintro e w6 ⟨rfl, hb6⟩; exact hK _ hb6)
            | ((with_reducible refine (HQu.out _ (HR0.out.later hbm)).mono ?_); rintro e w6 ⟨rfl, hb6⟩; exact hK _ hb6)
            | (refine (rin _ _ _ _).mono ?_; rintro e w6 ⟨rfl, rfl⟩; exact hK _ (Below.refl _ _))
        refine steps_cons (fun hn hl => ?_) fun H16 => ?_
        · skip
          clear hn hl H0 H1 H2 H3 H4 H5 H6 H7 H8 H9 H10 H11 H12 H13 H14 H15
          refine stepC (wanted_free rfl) fun K hK => ?_
          go_simp
          exact hK _ (Below.refl _ _)
        refine steps_cons (fun hn hl => ?_) fun H17 => ?_
        · skip
          have h45 := Sp.of_c (H16 (hn 16 (show 16 ∈ [16] from .head _)))
          clear hn hl H0 H1 H2 H3 H4 H5 H6 H7 H8 H9 H10 H11 H12 H13 H14 H15 H16
          refine stepC (wanted_free rfl) fun K hK => ?_
          go_simp
          exact hK _ (Below.refl _ _)
        refine steps_cons (fun hn hl => ?_) fun H18 => ?_
        · skip
          have h46 := Sp.of_c (H17 (hn 17 (show 17 ∈ [17] from .head _)))
          clear hn hl H0 H1 H2 H3 H4 H5 H6 H7 H8 H9 H10 H11 H12 H13 H14 H15 H16 H17
          refine stepC (wanted_free rfl) fun K hK => ?_
          go_simp
          first
            | ((with_reducible refine (HNo.out _ (HR0.out.later hbm)).mono ?_); rintro e w6 ⟨rfl, hb6⟩; exact hK _ hb6)
            | ((with_reducible refine (HPa.out _ (HR0.out.later hbm)).mono ?_); rintro e w6 ⟨rfl, hb6⟩; exact hK _ hb6)
            | ((with_reducible refine (HQu.out _ (HR0.out.later hbm)).mono ?_); rintro e w6 ⟨rfl, hb6⟩; exact hK _ hb6)
            | (refine (rin _ _ _ _).mono ?_; rintro e w6 ⟨rfl, rfl⟩; exact hK _ (Below.refl _ _))
        refine steps_cons (fun hn hl => ?_) fun H19 => ?_
        · skip
          clear hn hl H0 H1 H2 H3 H4 H5 H6 H7 H8 H9 H10 H11 H12 H13 H14 H15 H16 H17 H18
          refine stepC (wanted_free rfl) fun K hK => ?_
          go_simp
          exact hK _ (Below.refl _ _)
        refine steps_cons (fun hn hl => ?_) fun H20 => ?_
        · skip
          have h48 := Sp.of_c (H19 (hn 19 (show 19 ∈ [19] from .head _)))
          clear hn hl H0 H1 H2 H3 H4 H5 H6 H7 H8 H9 H10 H11 H12 H13 H14 H15 H16 H17 H18 H19
          refine stepC (wanted_free rfl) fun K hK => ?_
          go_simp
          exact hK _ (Below.refl _ _)
        refine steps_cons (fun hn hl => ?_) fun H21 => ?_
        · skip
          have h49 := Sp.of_c (H20 (hn 20 (show 20 ∈ [20] from .head _)))
          clear hn hl H0 H1 H2 H3 H4 H5 H6 H7 H8 H9 H10 H11 H12 H13 H14 H15 H16 H17 H18 H19 H20
          refine stepC (wanted_free rfl) fun K hK => ?_
          go_simp
          first
            | ((with_reducible refine (HNo.out _ (HR0.out.later hbm)).mono ?_); rintro e w6 ⟨rfl, hb6⟩; exact hK _ hb6)
            | ((with_reducible refine (HPa.out _ (HR0.out.later hbm)).mono ?_); rintro e w6 ⟨rfl, hb6⟩; exact hK _ hb6)
            | ((with_reducible refine (HQu.out _ (HR0.out.later hbm)).mono ?_); rintro e w6 ⟨rfl, hb6⟩; exact hK _ hb6)
            | (refine (rin _ _ _ _).mono ?_; rintro e w6 ⟨rfl, rfl⟩; exact hK _ (Below.refl _ _))
        refine steps_cons (fun hn hl => ?_) fun H22 => ?_
        · skip
          clear hn hl H0 H1 H2 H3 H4 H5 H6 H7 H8 H9 H10 H11 H12 H13 H14 H15 H16 H17 H18 H19 H20 H21
          refine stepC (wanted_free rfl) fun K hK => ?_
          go_simp
          exact hK _ (Below.refl _ _)
        refine steps_cons (fun hn hl => ?_) fun H23 => ?_
        · skip
          have h51 := Sp.of_c (H22 (hn 22 (show 22 ∈ [22] from .head _)))
          clear hn hl H0 H1 H2 H3 H4 H5 H6 H7 H8 H9 H10 H11 H12 H13 H14 H15 H16 H17 H18 H19 H20 H21 H22
          refine stepC (wanted_free rfl) fun K hK => ?_
          go_simp
          exact hK _ (Below.refl _ _)
        refine steps_cons (fun hn hl => ?_) fun H24 => ?_
        · skip
          have h52 := Sp.of_c (H23 (hn 23 (show 23 ∈ [23] from .head _)))
          clear hn hl H0 H1 H2 H3 H4 H5 H6 H7 H8 H9 H10 H11 H12 H13 H14 H15 H16 H17 H18 H19 H20 H21 H22 H23
          refine stepC (wanted_free rfl) fun K hK => ?_
          go_simp
          first
            | ((with_reducible refine (HNo.out _ (HR0.out.later hbm)).mono ?_); rintro e w6 ⟨rfl, hb6⟩; exact hK _ hb6)
            | ((with_reducible refine (HPa.out _ (HR0.out.later hbm)).mono ?_); rintro e w6 ⟨rfl, hb6⟩; exact hK _ hb6)
            | ((with_reducible refine (HQu.out _ (HR0.out.later hbm)).mono ?_); rintro e w6 ⟨rfl, hb6⟩; exact hK _ hb6)
            | (refine (rin _ _ _ _).mono ?_; rintro e w6 ⟨rfl, rfl⟩; exact hK _ (Below.refl _ _))
        refine steps_cons (fun hn hl => ?_) fun H25 => ?_
        · skip
          clear hn hl H0 H1 H2 H3 H4 H5 H6 H7 H8 H9 H10 H11 H12 H13 H14 H15 H16 H17 H18 H19 H20 H21 H22 H23 H24
          refine stepC (wanted_free rfl) fun K hK => ?_
          go_simp
          exact hK _ (Below.refl _ _)
        refine steps_cons (fun hn hl => ?_) fun H26 => ?_
        · skip
          have h54 := Sp.of_c (H25 (hn 25 (show 25 ∈ [25] from .head _)))
          clear hn hl H0 H1 H2 H3 H4 H5 H6 H7 H8 H9 H10 H11 H12 H13 H14 H15 H16 H17 H18 H19 H20 H21 H22 H23 H24 H25
          refine stepC (wanted_free rfl) fun K hK => ?_
          go_simp
          exact hK _ (Below.refl _ _)
        refine steps_cons (fun hn hl => ?_) fun H27 => ?_
        · skip
          have h55 := Sp.of_c (H26 (hn 26 (show 26 ∈ [26] from .head _)))
          clear hn hl H0 H1 H2 H3 H4 H5 H6 H7 H8 H9 H10 H11 H12 H13 H14 H15 H16 H17 H18 H19 H20 H21 H22 H23 H24 H25 H26
          refine stepC (wanted_free rfl) fun K hK => ?_
          go_simp
          first
            | ((with_reducible refine (HNo.out _ (HR0.out.later hbm)).mono ?_); rintro e w6 ⟨rfl, hb6⟩; exact hK _ hb6)
            | ((with_reducible refine (HPa.out _ (HR0.out.later hbm)).mono ?_); rintro e w6 ⟨rfl, hb6⟩; exact hK _ hb6)
            | ((with_reducible refine (HQu.out _ (HR0.out.later hbm)).mono ?_); rintro e w6 ⟨rfl, hb6⟩; exact hK _ hb6)
            | (refine (rin _ _ _ _).mono ?_; rintro e w6 ⟨rfl, rfl⟩; exact hK _ (Below.refl _ _))
        refine steps_cons (fun hn hl => ?_) fun H28 => ?_
        · skip
          clear hn hl H0 H1 H2 H3 H4 H5 H6 H7 H8 H9 H10 H11 H12 H13 H14 H15 H16 H17 H18 H19 H20 H21 H22 H23 H24 H25 H26 H27
          refine stepC (wanted_free rfl) fun K hK => ?_
          go_simp
          exact hK _ (Below.refl _ _)
        refine steps_cons (fun hn hl => ?_) fun H29 => ?_
        · skip
          have h57 := Sp.of_c (H28 (hn 28 (show 28 ∈ [28] from .head _)))
          clear hn hl H0 H1 H2 H3 H4 H5 H6 H7 H8 H9 H10 H11 H12 H13 H14 H15 H16 H17 H18 H19 H20 H21 H22 H23 H24 H25 H26 H27 H28
          refine stepC (wanted_free rfl) fun K hK => ?_
          go_simp
          exact hK _ (Below.refl _ _)
        refine steps_cons (fun hn hl => ?_) fun H30 => ?_
        · skip
          have h58 := Sp.of_c (H29 (hn 29 (show 29 ∈ [29] from .head _)))
          clear hn hl H0 H1 H2 H3 H4 H5 H6 H7 H8 H9 H10 H11 H12 H13 H14 H15 H16 H17 H18 H19 H20 H21 H22 H23 H24 H25 H26 H27 H28 H29
          refine stepC (wanted_free rfl) fun K hK => ?_
          go_simp
          first
            | ((with_reducible refine (HNo.out _ (HR0.out.later hbm)).mono ?_); rintro e w6 ⟨rfl, hb6⟩; exact hK _ hb6)
            | ((with_reducible refine (HPa.out _ (HR0.out.later hbm)).mono ?_); rintro e w6 ⟨rfl, hb6⟩; exact hK _ hb6)
            | ((with_reducible refine (HQu.out _ (HR0.out.later hbm)).mono ?_); rintro e w6 ⟨rfl, hb6⟩; exact hK _ hb6)
            | (refine (rin _ _ _ _).mono ?_; rintro e w6 ⟨rfl, rfl⟩; exact hK _ (Below.refl _ _))
        refine steps_cons (fun hn hl => ?_) fun H31 => ?_
        · skip
          clear hn hl H0 H1 H2 H3 H4 H5 H6 H7 H8 H9 H10 H11 H12 H13 H14 H15 H16 H17 H18 H19 H20 H21 H22 H23 H24 H25 H26 H27 H28 H29 H30
          refine stepC (wanted_free rfl) fun K hK => ?_
          go_simp
          exact hK _ (Below.refl _ _)
        refine steps_cons (fun hn hl => ?_) fun H32 => ?_
        · skip
          have h60 := Sp.of_c (H31 (hn 31 (show 31 ∈ [31] from .head _)))
          clear hn hl H0 H1 H2 H3 H4 H5 H6 H7 H8 H9 H10 H11 H12 H13 H14 H15 H16 H17 H18 H19 H20 H21 H22 H23 H24 H25 H26 H27 H28 H29 H30 H31
          refine stepC (wanted_free rfl) fun K hK => ?_
          go_simp
          exact hK _ (Below.refl _ _)
        refine steps_cons (fun hn hl => ?_) fun H33 => ?_
        · skip
          have h61 := Sp.of_c (H32 (hn 32 (show 32 ∈ [32] from .head _)))
          clear hn hl H0 H1 H2 H3 H4 H5 H6 H7 H8 H9 H10 H11 H12 H13 H14 H15 H16 H17 H18 H19 H20 H21 H22 H23 H24 H25 H26 H27 H28 H29 H30 H31 H32
          refine stepC (wanted_free rfl) fun K hK => ?_
          go_simp
          first
            | ((with_reducible refine (HNo.out _ (HR0.out.later hbm)).mono ?_); rintro e w6 ⟨rfl, hb6⟩; exact hK _ hb6)
            | ((with_reducible refine (HPa.out _ (HR0.out.later hbm)).mono ?_); rintro e w6 ⟨rfl, hb6⟩; exact hK _ hb6)
            | ((with_reducible refine (HQu.out _ (HR0.out.later hbm)).mono ?_); rintro e w6 ⟨rfl, hb6⟩; exact hK _ hb6)
            | (refine (rin _ _ _ _).mono ?_; rintro e w6 ⟨rfl, rfl⟩; exact hK _ (Below.refl _ _))
        refine steps_cons (fun hn hl => ?_) fun H34 => ?_
        · skip
          clear hn hl H0 H1 H2 H3 H4 H5 H6 H7 H8 H9 H10 H11 H12 H13 H14 H15 H16 H17 H18 H19 H20 H21 H22 H23 H24 H25 H26 H27 H28 H29 H30 H31 H32 H33
          refine stepC (wanted_free rfl) fun K hK => ?_
          go_simp
          exact hK _ (Below.refl _ _)
        refine steps_cons (fun hn hl => ?_) fun H35 => ?_
        · skip
          have h63 := Sp.of_c (H34 (hn 34 (show 34 ∈ [34] from .head _)))
          clear hn hl H0 H1 H2 H3 H4 H5 H6 H7 H8 H9 H10 H11 H12 H13 H14 H15 H16 H17 H18 H19 H20 H21 H22 H23 H24 H25 H26 H27 H28 H29 H30 H31 H32 H33 H34
          refine stepC (wanted_free rfl) fun K hK => ?_
          go_simp
          exact hK _ (Below.refl _ _)
        refine steps_cons (fun hn hl => ?_) fun H36 => ?_
        · skip
          have h64 := Sp.of_c (H35 (hn 35 (show 35 ∈ [35] from .head _)))
          clear hn hl H0 H1 H2 H3 H4 H5 H6 H7 H8 H9 H10 H11 H12 H13 H14 H15 H16 H17 H18 H19 H20 H21 H22 H23 H24 H25 H26 H27 H28 H29 H30 H31 H32 H33 H34 H35
          refine stepC (wanted_free rfl) fun K hK => ?_
          go_simp
          first
            | ((with_reducible refine (HNo.out _ (HR0.out.later hbm)).mono ?_); rintro e w6 ⟨rfl, hb6⟩; exact hK _ hb6)
            | ((with_reducible refine (HPa.out _ (HR0.out.later hbm)).mono ?_); rintro e w6 ⟨rfl, hb6⟩; exact hK _ hb6)
            | ((with_reducible refine (HQu.out _ (HR0.out.later hbm)).mono ?_); rintro e w6 ⟨rfl, hb6⟩; exact hK _ hb6)
            | (refine (rin _ _ _ _).mono ?_; rintro e w6 ⟨rfl, rfl⟩; exact hK _ (Below.refl _ _))
        refine steps_cons (fun hn hl => ?_) fun H37 => ?_
        · skip
          clear hn hl H0 H1 H2 H3 H4 H5 H6 H7 H8 H9 H10 H11 H12 H13 H14 H15 H16 H17 H18 H19 H20 H21 H22 H23 H24 H25 H26 H27 H28 H29 H30 H31 H32 H33 H34 H35 H36
          refine stepC (wanted_free rfl) fun K hK => ?_
          go_simp
          exact hK _ (Below.refl _ _)
        refine steps_cons (fun hn hl => ?_) fun H38 => ?_
        · skip
          have h66 := Sp.of_c (H37 (hn 37 (show 37 ∈ [37] from .head _)))
          clear hn hl H0 H1 H2 H3 H4 H5 H6 H7 H8 H9 H10 H11 H12 H13 H14 H15 H16 H17 H18 H19 H20 H21 H22 H23 H24 H25 H26 H27 H28 H29 H30 H31 H32 H33 H34 H35 H36 H37
          refine stepC (wanted_free rfl) fun K hK => ?_
          go_simp
          exact hK _ (Below.refl _ _)
        refine steps_cons (fun hn hl => ?_) fun H39 => ?_
        · skip
          have h67 := Sp.of_c (H38 (hn 38 (show 38 ∈ [38] from .head _)))
          clear hn hl H0 H1 H2 H3 H4 H5 H6 H7 H8 H9 H10 H11 H12 H13 H14 H15 H16 H17 H18 H19 H20 H21 H22 H23 H24 H25 H26 H27 H28 H29 H30 H31 H32 H33 H34 H35 H36 H37 H38
          refine stepC (wanted_free rfl) fun K hK => ?_
          go_simp
          first
            | ((with_reducible refine (HNo.out _ (HR0.out.later hbm)).mono ?_); rintro e w6 ⟨rfl, hb6⟩; exact hK _ hb6)
            | ((with_reducible refine (HPa.out _ (HR0.out.later hbm)).mono ?_); rintro e w6 ⟨rfl, hb6⟩; exact hK _ hb6)
            | ((with_reducible refine (HQu.out _ (HR0.out.later hbm)).mono ?_); rintro e w6 ⟨rfl, hb6⟩; exact hK _ hb6)
            | (refine (rin _ _ _ _).mono ?_; rintro e w6 ⟨rfl, rfl⟩; exact hK _ (Below.refl _ _))
        refine steps_cons (fun hn hl => ?_) fun H40 => ?_
        · skip
          have h30 := Sp.of_c (H1 (hn 1 (show 1 ∈ [1, 3, 6, 8, 9, 12, 15, 18, 21, 24, 27, 30, 33, 36, 39] from .head _)))
          have h32 := Sp.of_c (H3 (hn 3 (show 3 ∈ [1, 3, 6, 8, 9, 12, 15, 18, 21, 24, 27, 30, 33, 36, 39] from .tail _ (.head _))))
          have h35 := Sp.of_c (H6 (hn 6 (show 6 ∈ [1, 3, 6, 8, 9, 12, 15, 18, 21, 24, 27, 30, 33, 36, 39] from .tail _ (.tail _ (.head _)))))
          have h37 := Sp.of_c (H8 (hn 8 (show 8 ∈ [1, 3, 6, 8, 9, 12, 15, 18, 21, 24, 27, 30, 33, 36, 39] from .tail _ (.tail _ (.tail _ (.head _))))))
          have h38 := Sp.of_c (H9 (hn 9 (show 9 ∈ [1, 3, 6, 8, 9, 12, 15, 18, 21, 24, 27, 30, 33, 36, 39] from .tail _ (.tail _ (.tail _ (.tail _ (.head _)))))))
          have h41 := Sp.of_c (H12 (hn 12 (show 12 ∈ [1, 3, 6, 8, 9, 12, 15, 18, 21, 24, 27, 30, 33, 36, 39] from .tail _ (.tail _ (.tail _ (.tail _ (.tail _ (.head _))))))))
          have h44 := Sp.of_c (H15 (hn 15 (show 15 ∈ [1, 3, 6, 8, 9, 12, 15, 18, 21, 24, 27, 30, 33, 36, 39] from .tail _ (.tail _ (.tail _ (.tail _ (.tail _ (.tail _ (.head _)))))))))
          have h47 := Sp.of_c (H18 (hn 18 (show 18 ∈ [1, 3, 6, 8, 9, 12, 15, 18, 21, 24, 27, 30, 33, 36, 39] from .tail _ (.tail _ (.tail _ (.tail _ (.tail _ (.tail _ (.tail _ (.head _))))))))))
          have h50 := Sp.of_c (H21 (hn 21 (show 21 ∈ [1, 3, 6, 8, 9, 12, 15, 18, 21, 24, 27, 30, 33, 36, 39] from .tail _ (.tail _ (.tail _ (.tail _ (.tail _ (.tail _ (.tail _ (.tail _ (.head _)))))))))))
          have h53 := Sp.of_c (H24 (hn 24 (show 24 ∈ [1, 3, 6, 8, 9, 12, 15, 18, 21, 24, 27, 30, 33, 36, 39] from .tail _ (.tail _ (.tail _ (.tail _ (.tail _ (.tail _ (.tail _ (.tail _ (.tail _ (.head _))))))))))))
          have h56 := Sp.of_c (H27 (hn 27 (show 27 ∈ [1, 3, 6, 8, 9, 12, 15, 18, 21, 24, 27, 30, 33, 36, 39] from .tail _ (.tail _ (.tail _ (.tail _ (.tail _ (.tail _ (.tail _ (.tail _ (.tail _ (.tail _ (.head _)))))))))))))
          have h59 := Sp.of_c (H30 (hn 30 (show 30 ∈ [1, 3, 6, 8, 9, 12, 15, 18, 21, 24, 27, 30, 33, 36, 39] from .tail _ (.tail _ (.tail _ (.tail _ (.tail _ (.tail _ (.tail _ (.tail _ (.tail _ (.tail _ (.tail _ (.head _))))))))))))))
          have h62 := Sp.of_c (H33 (hn 33 (show 33 ∈ [1, 3, 6, 8, 9, 12, 15, 18, 21, 24, 27, 30, 33, 36, 39] from .tail _ (.tail _ (.tail _ (.tail _ (.tail _ (.tail _ (.tail _ (.tail _ (.tail _ (.tail _ (.tail _ (.tail _ (.head _)))))))))))))))
          have h65 := Sp.of_c (H36 (hn 36 (show 36 ∈ [1, 3, 6, 8, 9, 12, 15, 18, 21, 24, 27, 30, 33, 36, 39] from .tail _ (.tail _ (.tail _ (.tail _ (.tail _ (.tail _ (.tail _ (.tail _ (.tail _ (.tail _ (.tail _ (.tail _ (.tail _ (.head _))))))))))))))))
          have h68 := Sp.of_c (H39 (hn 39 (show 39 ∈ [1, 3, 6, 8, 9, 12, 15, 18, 21, 24, 27, 30, 33, 36, 39] from .tail _ (.tail _ (.tail _ (.tail _ (.tail _ (.tail _ (.tail _ (.tail _ (.tail _ (.tail _ (.tail _ (.tail _ (.tail _ (.tail _ (.head _)))))))))))))))))
          clear hn hl H0 H1 H2 H3 H4 H5 H6 H7 H8 H9 H10 H11 H12 H13 H14 H15 H16 H17 H18 H19 H20 H21 H22 H23 H24 H25 H26 H27 H28 H29 H30 H31 H32 H33 H34 H35 H36 H37 H38 H39
          refine stepR (wanted_free rfl) fun K hK => ?_
          simp only [Array.getD_eq_getD_getElem?] at h30 h32 h35 h37 h38 h41 h44 h47 h50 h53 h56 h59 h62 h65 h68
          go_simp
          exact hK _ _ ((Below.refl _ _).alloc (Nat.le_refl _) _) ⟨_, rfl, fun k hk => by match k, hk with | 0, _ | 1, _ | 2, _ | 3, _ | 4, _ | 5, _ | 6, _ | 7, _ | 8, _ | 9, _ | 10, _ | 11, _ | 12, _ | 13, _ | 14, _ => simp [go_sem, soB]⟩
        refine steps_cons (fun hn hl => ?_) fun H41 => ?_
        · skip
          obtain ⟨b, h69, y0⟩ := Sp.of_m (H40 (hn 40 (show 40 ∈ [40] from .head _))) rfl
          clear hn hl H0 H1 H2 H3 H4 H5 H6 H7 H8 H9 H10 H11 H12 H13 H14 H15 H16 H17 H18 H19 H20 H21 H22 H23 H24 H25 H26 H27 H28 H29 H30 H31 H32 H33 H34 H35 H36 H37 H38 H39 H40
          refine stepR (wanted_free rfl) fun K hK => ?_
          go_simp
          exact hK _ _ (Below.refl _ _) ⟨_, rfl, y0⟩
        exact trivial
      · intro w5 hb5
        have hz5 := hb5.size
        refine end_cons ?_; rintro _ rfl
        refine end_cons ?_; rintro _ rfl
        refine end_cons ?_; rintro _ rfl
        refine end_cons ?_; rintro _ rfl
        refine end_cons ?_; rintro _ rfl
        refine end_cons ?_; rintro _ rfl
        refine end_cons ?_; rintro _ rfl
        refine end_cons ?_; rintro _ rfl
        refine end_cons ?_; rintro _ rfl
        refine end_cons ?_; rintro _ rfl
        refine end_cons ?_; rintro _ rfl
        refine end_cons ?_; rintro _ rfl
        refine end_cons ?_; rintro _ rfl
        refine end_cons ?_; rintro _ rfl
        refine end_cons ?_; rintro _ rfl
        refine end_cons ?_; rintro _ rfl
        refine end_cons ?_; rintro _ rfl
        refine end_cons ?_; rintro _ rfl
        refine end_cons ?_; rintro _ rfl
        refine end_cons ?_; rintro _ rfl
        refine end_cons ?_; rintro _ rfl
        refine end_cons ?_; rintro _ rfl
        refine end_cons ?_; rintro _ rfl
        refine end_cons ?_; rintro _ rfl
        refine end_cons ?_; rintro _ rfl
        refine end_cons ?_; rintro _ rfl
        refine end_cons ?_; rintro _ rfl
        refine end_cons ?_; rintro _ rfl
        refine end_cons ?_; rintro _ rfl
        refine end_cons ?_; rintro _ rfl
        refine end_cons ?_; rintro _ rfl
        refine end_cons ?_; rintro _ rfl
        refine end_cons ?_; rintro _ rfl
        refine end_cons ?_; rintro _ rfl
        refine end_cons ?_; rintro _ rfl
        refine end_cons ?_; rintro _ rfl
        refine end_cons ?_; rintro _ rfl
        refine end_cons ?_; rintro _ rfl
        refine end_cons ?_; rintro _ rfl
        refine end_cons ?_; rintro _ rfl
        refine end_cons ?_; rintro _ ⟨b69, rfl, y69_0⟩
        refine end_cons ?_; rintro _ ⟨b6, rfl, y6_0⟩
        refine end_nil ?_
        simp only [List.setIfInBounds_toArray, List.set_cons_succ, List.set_cons_zero, Bool.not_false, Bool.not_true, Bool.true_or, Bool.or_true, Bool.false_or, Bool.or_false]
        go_wp2_with fail
        go_meet
        exact ⟨b6, rfl, hb5, Lib.hid y6_0⟩
    case rest =>
      obtain ⟨b6, rfl, hb5, HY⟩ := hcut
      have hW : Below w.heap.size w wc := hbx1.trans ((hb4.trans (hb5.mono hb4.size)).mono hbx1.size)
      have hz5 := hb5.size
      have HT := Lib.hid (fun k hk => carry hb5 (ht k hk))
      clear ht bx
      go_wp2
      go_loopw [7] (fun x wr => ∃ k : Nat, k ≤ 15 ∧ x = .int .i64 k ∧ Below wc.heap.size wc wr ∧ Hid (∀ j, j < k → soB s j = true)) (fun x _ => 15 - (intOf x).toNat)
      case atStart => exact ⟨0, Nat.zero_le _, rfl, Below.refl _ _, Lib.hid fun i h => by omega⟩
      case round =>
        obtain ⟨k, hk, rfl, hb, HP⟩ := hrel
        have hz := hb.size
        by_cases hlt : k < 15
        · have hk0 : (0 : Int) ≤ k := by omega
          have hk15 : (k : Int) < 15 := by omega
          have y := carry hb (HY.out k hlt)
          cases hso : soB s k with
          | true =>
            have HO := Lib.hid hso
            rw [hso] at y
            clear hso
            go_wp2
            go_roundw
            case rel => exact ⟨k + 1, by omega, by go_num, hb, Lib.hid fun j hj => by
                rcases Nat.lt_or_ge j k with h' | h'
                · exact HP.out j h'
                · obtain rfl : j = k := by omega
                  exact HO.out⟩
            case measure => simp [intOf]; omega
          | false =>
            have E := Lib.hid (HI.out k hlt HP.out hso)
            have z := carry hb (HT.out k hlt)
            rw [hso] at y
            clear hso
            generalize wordB k = wd at z E
            go_wp2
            go_ret
            exact ⟨by rw [E.out]; rfl, hW.trans (hb.mono hW.size)⟩
        · have E := Lib.hid (HA.out fun j hj => HP.out j (by omega))
          go_wp2
          go_ret
          exact ⟨by rw [E.out]; rfl, hW.trans (hb.mono hW.size)⟩

set_option maxHeartbeats 1000000 in
theorem rright7 (s : S) (hf : Few s) (w : World) (HR : Rows w s) :
    Calls Tryz.prog 7 #[.agg #[.slice s.na s.nodes.length s.nc, .slice s.pa s.parts.length s.pc, .slice s.qa s.queues.length s.qc, .int .i64 s.users, .int .i64 s.age, .int .i64 s.size, .int .i64 s.qos, .int .i64 s.share, .int .i64 s.decay, .int .i64 s.mode, .int .i64 s.jobs, .int .i64 s.ids, .int .i64 s.versions, .int .i64 s.linger, .int .i64 s.keep, .int .i64 s.inn, .int .i64 s.out, .int .i64 s.cache]] w fun e w' => e = .returned (.bool (rightS s)) ∧ Below w.heap.size w w' := by
  have H := Lib.hid (fun w' hr => rflaw s hf w' hr)
  have HR := Lib.hid HR
  have E := Lib.hid (flaw_empty s)
  clear hf
  generalize rightS s = r at E ⊢
  generalize flawW s = l at H E
  go_enter Tryz.func7, Tryz.ntmps7
  have HB := Lib.hid (fun t => Box.new w s t)
  go_wp2_with (with_reducible refine wpList_load_box rfl (.tmp 1) rfl rfl (HB.out _) ?_)
  refine (H.out _ (HR.out.later ((by repeat' (first | exact Below.refl _ _ | assumption | exact And.left (by assumption) | refine Below.drew ?_ | refine below_drewN ?_ _ | refine Below.setCell ?_ (by first | (simp; done) | (simp; omega) | omega) _ | refine Below.alloc ?_ (by first | (simp; done) | (simp; omega) | omega) _ | refine after (by assumption) (by first | (simp; done) | (simp; omega) | omega) ?_))))).mono ?_; rintro e w1 ⟨rfl, hb1⟩; obtain ⟨hc1, hf1⟩ := bcell hb1; have hz1 := hb1.size; (try simp at hz1); have lt_w1_0 : w.heap.size < w1.heap.size := (by omega)
  go_wp2
  go_ret
  exact ⟨by rw [← E.out]; rfl, (by repeat' (first | exact Below.refl _ _ | assumption | exact And.left (by assumption) | refine Below.drew ?_ | refine below_drewN ?_ _ | refine Below.setCell ?_ (by first | (simp; done) | (simp; omega) | omega) _ | refine Below.alloc ?_ (by first | (simp; done) | (simp; omega) | omega) _ | refine after (by assumption) (by first | (simp; done) | (simp; omega) | omega) ?_))⟩
end Go.Proofs.YtgopjpnlpcmldaaGreatDoor.W
