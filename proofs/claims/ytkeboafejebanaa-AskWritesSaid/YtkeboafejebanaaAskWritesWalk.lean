/-
  The walk of AskWrites.
-/
import Derived.Test.YtkeboafejebanaaAskSameWalk
import Derived.Test.YtkeboafejebanaaAskRead
import Derived.Test.YtkeboafejebanaaRefWrite
namespace Go.Proofs.Ytkeboafejebanaa.W
set_option linter.unusedVariables false
set_option linter.unusedSimpArgs false
open Go.ChangeShapes Go.WideShapes Go.ChangeAt Go.RowKit

theorem read_same {q : Rq} (h : RightQ q) (aa : Option Addr) (ac : Nat) : sameQ (readQ (writeQ q) aa ac) q = true ∧ (readQ (writeQ q) aa ac).af.length ≤ 1000 := by
  have r := read_write h
  have e : readQ (writeQ q) aa ac = ⟨(rKind (writeQ q)).1, (rKey (writeQ q)).1, (rFill (writeQ q)).1, aa, ac, (rDeps (writeQ q)).1⟩ := by unfold readQ; rw [if_pos r.none]
  rw [e]
  refine ⟨(sameQ_iff _ _).2 ⟨r.kind, r.key, r.af, r.nums⟩, ?_⟩
  show (rDeps (writeQ q)).1.length ≤ 1000
  rw [r.af]
  have := h.few
  omega
theorem askWrites_many (q : Rq) (w : World) (h : 50 < q.af.length) :
    Calls Try.prog 3 #[.agg #[.int .i64 q.kind, .int .i64 q.key, .int .i64 (q.n 1), .int .i64 (q.n 2), .int .i64 (q.n 3), .int .i64 (q.n 4), .int .i64 (q.n 5), .int .i64 (q.n 6), .int .i64 (q.n 7), .int .i64 (q.n 8), .int .i64 (q.n 9), .int .i64 (q.n 10), .slice q.aa q.af.length q.ac, .int .i64 (q.n 11), .int .i64 (q.n 12), .int .i64 (q.n 13), .int .i64 (q.n 14)]] w fun e w' => e = .returned (.bool true) ∧ Below w.heap.size w w' := by
  have HW := Lib.hid awake8
  have d1 : decide ((50 : Int) < (q.af.length : Int)) = true := decide_eq_true (by omega)
  clear h
  go_enter Try.func3, Try.ntmps3
  go_wp2_with fail
  refine (HW.out _).mono ?_; rintro e w1 ⟨rfl, hb1⟩; obtain ⟨hc1, hf1⟩ := bcell hb1; have hz1 := hb1.size; (try simp at hz1); have lt_w1_0 : w.heap.size < w1.heap.size := (by omega)
  go_wp2
  go_ret
  exact ⟨rfl, (by repeat' (first | exact Below.refl _ _ | assumption | exact And.left (by assumption) | refine Below.drew ?_ | refine below_drewN ?_ _ | refine Below.setCell ?_ (by first | (simp; done) | (simp; omega) | omega) _ | refine Below.alloc ?_ (by first | (simp; done) | (simp; omega) | omega) _ | refine after (by assumption) (by first | (simp; done) | (simp; omega) | omega) ?_))⟩
def awSp (w : World) (q : Rq) (rt k8 k10 qb : Bool) : List Sp :=
  [Sp.c (.agg #[.int .i64 q.kind, .int .i64 q.key, .int .i64 (q.n 1), .int .i64 (q.n 2), .int .i64 (q.n 3), .int .i64 (q.n 4), .int .i64 (q.n 5), .int .i64 (q.n 6), .int .i64 (q.n 7), .int .i64 (q.n 8), .int .i64 (q.n 9), .int .i64 (q.n 10), .slice q.aa q.af.length q.ac, .int .i64 (q.n 11), .int .i64 (q.n 12), .int .i64 (q.n 13), .int .i64 (q.n 14)]) [],
   Sp.c (.bool rt) [0],
   Sp.c (.agg #[.int .i64 q.kind, .int .i64 q.key, .int .i64 (q.n 1), .int .i64 (q.n 2), .int .i64 (q.n 3), .int .i64 (q.n 4), .int .i64 (q.n 5), .int .i64 (q.n 6), .int .i64 (q.n 7), .int .i64 (q.n 8), .int .i64 (q.n 9), .int .i64 (q.n 10), .slice q.aa q.af.length q.ac, .int .i64 (q.n 11), .int .i64 (q.n 12), .int .i64 (q.n 13), .int .i64 (q.n 14)]) [],
   Sp.c (.bool rt) [2],
   Sp.c (.bool false) [1, 3],
   Sp.c (.bool false) [4],
   Sp.c (.pointer (some ⟨w.heap.size, 0, none⟩)) [5],
   Sp.c (.int .i64 q.kind) [6, 5],
   Sp.c (.bool qb) [7, 5],
   Sp.c (.pointer (some ⟨w.heap.size, 0, none⟩)) [5],
   Sp.c (.int .i64 q.kind) [9, 5],
   Sp.c (.bool k8) [10, 5],
   Sp.c (.bool k8) [11, 5],
   Sp.g (k8) (.pointer (some ⟨w.heap.size, 0, none⟩)) [12],
   Sp.g (k8) (.int .i64 q.kind) [13, 12],
   Sp.g (k8) (.bool k10) [14, 12],
   Sp.c (.bool qb) [12, 15, 5],
   Sp.c (.bool false) [8, 16, 5],
   Sp.c (.bool false) [5, 17]]
set_option maxRecDepth 100000 in
set_option maxHeartbeats 4000000 in
theorem aw_low (q : Rq) (hl : q.l.length = 15) (hf : q.af.length ≤ 50) (w : World) (ha : RowAt w q.aa (depsV q.af)) (rt : Bool) (hrt : rightQ q = rt) (h8 : ¬ 8 ≤ q.kind) :
    Calls Try.prog 3 #[.agg #[.int .i64 q.kind, .int .i64 q.key, .int .i64 (q.n 1), .int .i64 (q.n 2), .int .i64 (q.n 3), .int .i64 (q.n 4), .int .i64 (q.n 5), .int .i64 (q.n 6), .int .i64 (q.n 7), .int .i64 (q.n 8), .int .i64 (q.n 9), .int .i64 (q.n 10), .slice q.aa q.af.length q.ac, .int .i64 (q.n 11), .int .i64 (q.n 12), .int .i64 (q.n 13), .int .i64 (q.n 14)]] w fun e w' => e = .returned (.bool true) ∧ Below w.heap.size w w' := by
  have HAW := Lib.hid awake8
  have HWA := Lib.hid (fun w' h => askWrite q hl w' h)
  have HRT := Lib.hid (fun w' h => askRight q hl w' h)
  have HRR := Lib.hid (fun w' h => refRight q w' h)
  have HQ := Lib.hid (fun w' => query q.kind w')
  rw [hrt] at HRT HRR
  rw [show queryB q.kind = false from decide_eq_false (by omega)] at HQ
  have HRV := Lib.hid hrt
  have HGR := Lib.hid (fun (h : rightQ q = true) => right_is h)
  have HA := Lib.hid ha
  have d1 : decide ((50 : Int) < (q.af.length : Int)) = false := decide_eq_false (by omega)
  have d8 : decide (8 ≤ q.kind) = false := by simpa using h8
  have hrr : (rt != rt) = false := by cases rt <;> rfl
  clear hrt ha hl
  go_enter Try.func3, Try.ntmps3
  go_wp2_with fail
  have HX' := BoxQ.new w q
  generalize hw0 : World.alloc w _ = w0 at HX' ⊢
  have hW0 : Below w.heap.size w w0 := by rw [← hw0]; exact (by repeat' (first | exact Below.refl _ _ | assumption | exact And.left (by assumption) | refine Below.drew ?_ | refine below_drewN ?_ _ | refine Below.setCell ?_ (by first | (simp; done) | (simp; omega) | omega) _ | refine Below.alloc ?_ (by first | (simp; done) | (simp; omega) | omega) _ | refine after (by assumption) (by first | (simp; done) | (simp; omega) | omega) ?_))
  have HX0 := Lib.hid HX'
  have HA0 := Lib.hid (HA.out.later hW0)
  clear hw0 HX' HA
  refine (HAW.out w0).mono ?_; rintro e w1 ⟨rfl, hb1⟩
  have HX1 := Lib.hid (HX0.out.on hb1)
  have HA1 := Lib.hid (HA0.out.later hb1)
  have hW1 : Below w.heap.size w w1 := hW0.trans (hb1.mono hW0.size)
  have x12 := HX1.out.c12
  clear HX0 HA0 hb1
  go_wp2_with (with_reducible refine wpList_load_q (q := q) rfl (.tmp 1) rfl rfl HX1.out ?_)
  clear x12
  refine (HWA.out w1 HA1.out).mono ?_; rintro e w2 ⟨hb2, hw2⟩
  have HX2 := Lib.hid (HX1.out.on hb2)
  have HA2 := Lib.hid (HA1.out.later hb2)
  have hW2 : Below w.heap.size w w2 := hW1.trans (hb2.mono hW1.size)
  clear HX1 HA1 hb2
  rcases hw2 with ⟨hra, A2, c2, rfl, hn2, hrow2⟩ | ⟨hra, rfl⟩
  · have HR2 := Lib.hid hrow2
    have HN2 := Lib.hid hn2
    have ert : rt = true := HRV.out.symm.trans hra
    have hr := HGR.out hra
    have hwl := write_len hr
    subst ert
    clear hrow2 hn2 hra
    go_wp2_with fail
    refine region_mono (awSp w q true false true false) [18, 19, 20, 21, 22, 23, 24, 25, 26, 27, 28, 29, 30, 31, 32, 33, 34, 35, 36] (by kernel_rfl) (by kernel_rfl) (by kernel_rfl) (by kernel_rfl) (stables_cons (Sp.c_stable _ _) (stables_cons (Sp.c_stable _ _) (stables_cons (Sp.c_stable _ _) (stables_cons (Sp.c_stable _ _) (stables_cons (Sp.c_stable _ _) (stables_cons (Sp.c_stable _ _) (stables_cons (Sp.c_stable _ _) (stables_cons (Sp.c_stable _ _) (stables_cons (Sp.c_stable _ _) (stables_cons (Sp.c_stable _ _) (stables_cons (Sp.c_stable _ _) (stables_cons (Sp.c_stable _ _) (stables_cons (Sp.c_stable _ _) (stables_cons (Sp.g_stable _ _ _) (stables_cons (Sp.g_stable _ _ _) (stables_cons (Sp.g_stable _ _ _) (stables_cons (Sp.c_stable _ _) (stables_cons (Sp.c_stable _ _) (stables_cons (Sp.c_stable _ _) (trivial)))))))))))))))))))) ?_ ?_
    · intro am wm L hbm hbase hbase2
      have s1 : am.tmps.getD 1 undef = .pointer (some ⟨w.heap.size, 0, none⟩) := (hbase 1 rfl).trans (by simp only [Array.getD_eq_getD_getElem?, List.getElem?_toArray, List.getElem?_cons_succ, List.getElem?_cons_zero, Option.getD_some])
      clear hbase hbase2
      have bm := HX2.out.on hbm
      have x0 := bm.c0
      have RA := HA2.out.later hbm
      refine steps_cons (fun hn hl => ?_) fun H0 => ?_
      · skip
        clear hn hl 
        refine stepC (wanted_free rfl) fun K hK => ?_
        exact wp_load_box (.tmp 1) rfl s1 bm (hK _ (Below.refl _ _))
      refine steps_cons (fun hn hl => ?_) fun H1 => ?_
      · skip
        have h18 := Sp.of_c (H0 (hn 0 (show 0 ∈ [0] from .head _)))
        clear hn hl H0
        refine stepC (wanted_free rfl) fun K hK => ?_
        go_simp
        first
          | ((with_reducible refine (HRT.out _ RA).mono ?_); rintro e w6 ⟨rfl, hb6⟩; exact hK _ hb6)
          | ((with_reducible refine (HRR.out _ RA).mono ?_); rintro e w6 ⟨rfl, hb6⟩; exact hK _ hb6)
          | ((with_reducible refine (HQ.out _).mono ?_); rintro e w6 ⟨rfl, rfl⟩; exact hK _ (Below.refl _ _))
      refine steps_cons (fun hn hl => ?_) fun H2 => ?_
      · skip
        clear hn hl H0 H1
        refine stepC (wanted_free rfl) fun K hK => ?_
        exact wp_load_box (.tmp 1) rfl s1 bm (hK _ (Below.refl _ _))
      refine steps_cons (fun hn hl => ?_) fun H3 => ?_
      · skip
        have h20 := Sp.of_c (H2 (hn 2 (show 2 ∈ [2] from .head _)))
        clear hn hl H0 H1 H2
        refine stepC (wanted_free rfl) fun K hK => ?_
        go_simp
        first
          | ((with_reducible refine (HRT.out _ RA).mono ?_); rintro e w6 ⟨rfl, hb6⟩; exact hK _ hb6)
          | ((with_reducible refine (HRR.out _ RA).mono ?_); rintro e w6 ⟨rfl, hb6⟩; exact hK _ hb6)
          | ((with_reducible refine (HQ.out _).mono ?_); rintro e w6 ⟨rfl, rfl⟩; exact hK _ (Below.refl _ _))
      refine steps_cons (fun hn hl => ?_) fun H4 => ?_
      · skip
        have h19 := Sp.of_c (H1 (hn 1 (show 1 ∈ [1, 3] from .head _)))
        have h21 := Sp.of_c (H3 (hn 3 (show 3 ∈ [1, 3] from .tail _ (.head _))))
        clear hn hl H0 H1 H2 H3
        refine stepC (wanted_free rfl) fun K hK => ?_
        go_simp
        exact hK _ (Below.refl _ _)
      refine steps_cons (fun hn hl => ?_) fun H5 => ?_
      · skip
        have h22 := Sp.of_c (H4 (hn 4 (show 4 ∈ [4] from .head _)))
        clear hn hl H0 H1 H2 H3 H4
        refine stepC (wanted_free rfl) fun K hK => ?_
        go_simp
        exact hK _ (Below.refl _ _)
      refine steps_cons (fun hn hl => ?_) fun H6 => ?_
      · skip
        have h23 := Sp.of_c (H5 (hn 5 (show 5 ∈ [5] from .head _)))
        clear hn hl H0 H1 H2 H3 H4 H5
        refine stepC (wanted_guard rfl rfl h23 rfl) fun K hK => ?_
        go_simp
        exact hK _ (Below.refl _ _)
      refine steps_cons (fun hn hl => ?_) fun H7 => ?_
      · skip
        have h24 := Sp.of_c (H6 (hn 6 (show 6 ∈ [6, 5] from .head _)))
        have h23 := Sp.of_c (H5 (hn 5 (show 5 ∈ [6, 5] from .tail _ (.head _))))
        clear hn hl H0 H1 H2 H3 H4 H5 H6
        refine stepC (wanted_guard rfl rfl h23 rfl) fun K hK => ?_
        go_simp
        exact hK _ (Below.refl _ _)
      refine steps_cons (fun hn hl => ?_) fun H8 => ?_
      · skip
        have h25 := Sp.of_c (H7 (hn 7 (show 7 ∈ [7, 5] from .head _)))
        have h23 := Sp.of_c (H5 (hn 5 (show 5 ∈ [7, 5] from .tail _ (.head _))))
        clear hn hl H0 H1 H2 H3 H4 H5 H6 H7
        refine stepC (wanted_guard rfl rfl h23 rfl) fun K hK => ?_
        go_simp
        first
          | ((with_reducible refine (HRT.out _ RA).mono ?_); rintro e w6 ⟨rfl, hb6⟩; exact hK _ hb6)
          | ((with_reducible refine (HRR.out _ RA).mono ?_); rintro e w6 ⟨rfl, hb6⟩; exact hK _ hb6)
          | ((with_reducible refine (HQ.out _).mono ?_); rintro e w6 ⟨rfl, rfl⟩; exact hK _ (Below.refl _ _))
      refine steps_cons (fun hn hl => ?_) fun H9 => ?_
      · skip
        have h23 := Sp.of_c (H5 (hn 5 (show 5 ∈ [5] from .head _)))
        clear hn hl H0 H1 H2 H3 H4 H5 H6 H7 H8
        refine stepC (wanted_guard rfl rfl h23 rfl) fun K hK => ?_
        go_simp
        exact hK _ (Below.refl _ _)
      refine steps_cons (fun hn hl => ?_) fun H10 => ?_
      · skip
        have h27 := Sp.of_c (H9 (hn 9 (show 9 ∈ [9, 5] from .head _)))
        have h23 := Sp.of_c (H5 (hn 5 (show 5 ∈ [9, 5] from .tail _ (.head _))))
        clear hn hl H0 H1 H2 H3 H4 H5 H6 H7 H8 H9
        refine stepC (wanted_guard rfl rfl h23 rfl) fun K hK => ?_
        go_simp
        exact hK _ (Below.refl _ _)
      refine steps_cons (fun hn hl => ?_) fun H11 => ?_
      · skip
        have h28 := Sp.of_c (H10 (hn 10 (show 10 ∈ [10, 5] from .head _)))
        have h23 := Sp.of_c (H5 (hn 5 (show 5 ∈ [10, 5] from .tail _ (.head _))))
        clear hn hl H0 H1 H2 H3 H4 H5 H6 H7 H8 H9 H10
        refine stepC (wanted_guard rfl rfl h23 rfl) fun K hK => ?_
        go_simp
        exact hK _ (Below.refl _ _)
      refine steps_cons (fun hn hl => ?_) fun H12 => ?_
      · skip
        have h29 := Sp.of_c (H11 (hn 11 (show 11 ∈ [11, 5] from .head _)))
        have h23 := Sp.of_c (H5 (hn 5 (show 5 ∈ [11, 5] from .tail _ (.head _))))
        clear hn hl H0 H1 H2 H3 H4 H5 H6 H7 H8 H9 H10 H11
        refine stepC (wanted_guard rfl rfl h23 rfl) fun K hK => ?_
        go_simp
        exact hK _ (Below.refl _ _)
      refine steps_cons (fun hn hl => ?_) fun H13 => ?_
      · skip
        have h30 := Sp.of_c (H12 (hn 12 (show 12 ∈ [12] from .head _)))
        clear hn hl H0 H1 H2 H3 H4 H5 H6 H7 H8 H9 H10 H11 H12
        exact stepN (unwanted_guard rfl rfl h30 rfl)
      refine steps_cons (fun hn hl => ?_) fun H14 => ?_
      · skip
        have h31 := Sp.of_off (H13 (hn 13 (show 13 ∈ [13, 12] from .head _))) rfl
        have h30 := Sp.of_c (H12 (hn 12 (show 12 ∈ [13, 12] from .tail _ (.head _))))
        clear hn hl H0 H1 H2 H3 H4 H5 H6 H7 H8 H9 H10 H11 H12 H13
        exact stepN (unwanted_guard rfl rfl h30 rfl)
      refine steps_cons (fun hn hl => ?_) fun H15 => ?_
      · skip
        have h32 := Sp.of_off (H14 (hn 14 (show 14 ∈ [14, 12] from .head _))) rfl
        have h30 := Sp.of_c (H12 (hn 12 (show 12 ∈ [14, 12] from .tail _ (.head _))))
        clear hn hl H0 H1 H2 H3 H4 H5 H6 H7 H8 H9 H10 H11 H12 H13 H14
        exact stepN (unwanted_guard rfl rfl h30 rfl)
      refine steps_cons (fun hn hl => ?_) fun H16 => ?_
      · skip
        have h30 := Sp.of_c (H12 (hn 12 (show 12 ∈ [12, 15, 5] from .head _)))
        have h33 := Sp.of_off (H15 (hn 15 (show 15 ∈ [12, 15, 5] from .tail _ (.head _)))) rfl
        have h23 := Sp.of_c (H5 (hn 5 (show 5 ∈ [12, 15, 5] from .tail _ (.tail _ (.head _)))))
        clear hn hl H0 H1 H2 H3 H4 H5 H6 H7 H8 H9 H10 H11 H12 H13 H14 H15
        refine stepC (wanted_guard rfl rfl h23 rfl) fun K hK => ?_
        go_simp
        exact hK _ (Below.refl _ _)
      refine steps_cons (fun hn hl => ?_) fun H17 => ?_
      · skip
        have h26 := Sp.of_c (H8 (hn 8 (show 8 ∈ [8, 16, 5] from .head _)))
        have h34 := Sp.of_c (H16 (hn 16 (show 16 ∈ [8, 16, 5] from .tail _ (.head _))))
        have h23 := Sp.of_c (H5 (hn 5 (show 5 ∈ [8, 16, 5] from .tail _ (.tail _ (.head _)))))
        clear hn hl H0 H1 H2 H3 H4 H5 H6 H7 H8 H9 H10 H11 H12 H13 H14 H15 H16
        refine stepC (wanted_guard rfl rfl h23 rfl) fun K hK => ?_
        go_simp
        exact hK _ (Below.refl _ _)
      refine steps_cons (fun hn hl => ?_) fun H18 => ?_
      · skip
        have h23 := Sp.of_c (H5 (hn 5 (show 5 ∈ [5, 17] from .head _)))
        have h35 := Sp.of_c (H17 (hn 17 (show 17 ∈ [5, 17] from .tail _ (.head _))))
        clear hn hl H0 H1 H2 H3 H4 H5 H6 H7 H8 H9 H10 H11 H12 H13 H14 H15 H16 H17
        refine stepC (wanted_free rfl) fun K hK => ?_
        go_simp
        exact hK _ (Below.refl _ _)
      exact trivial
    · intro w3 hb3
      have hz3 := hb3.size
      refine end_cons ?_; rintro _ rfl
      refine end_cons ?_; rintro _ rfl
      refine end_cons ?_; rintro _ rfl
      refine end_cons ?_; rintro _ rfl
      refine end_cons ?_; rintro _ rfl
      refine end_cons ?_; rintro _ rfl
      refine end_cons ?_; rintro _ rfl
      refine end_cons ?_; rintro _ rfl
      refine end_cons ?_; rintro _ rfl
      refine end_cons ?_; rintro _ rfl
      refine end_cons ?_; rintro _ rfl
      refine end_cons ?_; rintro _ rfl
      refine end_cons ?_; rintro _ rfl
      refine end_cons ?_; rintro _ rfl
      refine end_cons ?_; rintro _ rfl
      refine end_cons ?_; rintro _ rfl
      refine end_cons ?_; rintro _ rfl
      refine end_cons ?_; rintro _ rfl
      refine end_cons ?_; rintro _ rfl
      refine end_nil ?_
      simp only [List.setIfInBounds_toArray, List.set_cons_succ, List.set_cons_zero, Bool.not_false, Bool.not_true, Bool.true_or, Bool.or_true, Bool.false_or, Bool.or_false]
      have HX3 := Lib.hid (HX2.out.on hb3)
      have HA3 := Lib.hid (HA2.out.later hb3)
      have HR3 := Lib.hid (HR2.out.later hb3)
      have hW3 : Below w.heap.size w w3 := hW2.trans (hb3.mono hW2.size)
      clear HX2 HA2 HR2 hb3
      go_wp2_with (with_reducible refine wpList_load_q (q := q) rfl (.tmp 1) rfl rfl HX3.out ?_)
      refine (HRR.out w3 HA3.out).mono ?_; rintro e w4 ⟨rfl, hb4⟩
      have HX4 := Lib.hid (HX3.out.on hb4)
      have HA4 := Lib.hid (HA3.out.later hb4)
      have HR4 := Lib.hid (HR3.out.later hb4)
      have hW4 : Below w.heap.size w w4 := hW3.trans (hb4.mono hW3.size)
      clear HX3 HA3 HR3 hb4
      have KR := askRead A2 c2 (writeQ q) (by omega) HN2.out w4 HR4.out
      go_wp2_with fail
      refine KR.mono ?_; rintro e w5 ⟨aa, ac, rfl, hrow5, hb5⟩
      clear KR
      have HS5 := Lib.hid (read_same hr aa ac)
      have HE5 : Hid (readE (writeQ q) = 0) := Lib.hid (read_write hr).none
      rw [HE5.out]
      have HRW := Lib.hid (fun w' h => refWrite q hr w' h)
      have HSM := Lib.hid (fun back (h : sameQ back q = true) (h2 : back.af.length ≤ 1000) w' h3 h4 => (refSame back q h2 w' h3 h4))
      have HX5 := Lib.hid (HX4.out.on hb5)
      have HA5 := Lib.hid (HA4.out.later hb5)
      have HR5 := Lib.hid (HR4.out.later hb5)
      have HB5 := Lib.hid hrow5
      have hW5 : Below w.heap.size w w5 := hW4.trans (hb5.mono hW4.size)
      clear HX4 HA4 HR4 hb5 hrow5
      generalize readQ (writeQ q) aa ac = back at HS5 HB5 ⊢
      go_wp2_with (first
        | ((with_reducible refine wpList_store_row rfl 26 (.tmp 5) (.tmp 50) rfl w5.heap.size _ rfl rfl 26 #[.int .i64 0, .int .i64 0, .int .i64 0, .int .i64 0, .int .i64 0, .int .i64 0, .int .i64 0, .int .i64 0, .int .i64 0, .int .i64 0, .int .i64 0, .int .i64 0, .slice none 0 0, .int .i64 0, .int .i64 0, .int .i64 0, .int .i64 0] (by repeat (first | (refine heap_top (by first | omega | (simp only [World.size_alloc]; done) | (simp only [World.size_alloc]; omega))) | refine heap_up ?_)) (by kernel_rfl) (by simp) (by simp [Value.oneCell']) ?_)
           generalize hw6 : World.setRow _ _ _ = w6
           have hb6 : Below w5.heap.size w5 w6 := by rw [← hw6]; exact below_setRow ((by repeat' (first | exact Below.refl _ _ | assumption | exact And.left (by assumption) | refine Below.drew ?_ | refine below_drewN ?_ _ | refine Below.setCell ?_ (by first | (simp; done) | (simp; omega) | omega) _ | refine Below.alloc ?_ (by first | (simp; done) | (simp; omega) | omega) _ | refine after (by assumption) (by first | (simp; done) | (simp; omega) | omega) ?_))) (Nat.le_refl _) _
           have HK6 : Hid (BoxQ w6 w5.heap.size back) := Lib.hid ⟨by rw [← hw6]; exact setRow_heap _ _ _ _ _ _ (by repeat (first | (refine heap_top (by first | omega | (simp only [World.size_alloc]; done) | (simp only [World.size_alloc]; omega))) | refine heap_up ?_))⟩
           have HX6 := Lib.hid (HX5.out.on hb6)
           clear hw6)
        | refine wpList_load_q_g (q := q) (.tmp 1) rfl rfl HX6.out rfl ?_)
      have HA6 := Lib.hid (HA5.out.later hb6)
      have HR6 := Lib.hid (HR5.out.later hb6)
      have HB6 := Lib.hid (HB5.out.later hb6)
      have hW6 : Below w.heap.size w w6 := hW5.trans (hb6.mono hW5.size)
      clear HX5 HA5 HR5 HB5 hb6
      refine (HRW.out w6 HA6.out).mono ?_; rintro e w7 ⟨v7, rfl, hown7, hb7⟩
      obtain ⟨A7, c7, rfl, _, hrow7, _⟩ := RowT.of hown7
      have HX7 := Lib.hid (HX6.out.on hb7)
      have HK7 := Lib.hid (HK6.out.on hb7)
      have HA7 := Lib.hid (HA6.out.later hb7)
      have HR7 := Lib.hid (HR6.out.later hb7)
      have HB7 := Lib.hid (HB6.out.later hb7)
      have hW7 : Below w.heap.size w w7 := hW6.trans (hb7.mono hW6.size)
      have KB := same A2 A7 c2 c7 (writeQ q) (by omega) w7 HR7.out hrow7.row
      clear HX6 HK6 HA6 HR6 HB6 hb7 hown7 hrow7
      go_wp2_with fail
      refine KB.mono ?_; rintro e w8 ⟨rfl, hb8⟩
      clear KB
      have HX8 := Lib.hid (HX7.out.on hb8)
      have HK8 := Lib.hid (HK7.out.on hb8)
      have hW8 : Below w.heap.size w w8 := hW7.trans (hb8.mono hW7.size)
      have KS := HSM.out back HS5.out.1 HS5.out.2 w8 (HB7.out.later hb8) (HA7.out.later hb8)
      rw [HS5.out.1] at KS
      clear HX7 HK7 HA7 HR7 HB7 hb8
      have e1 : (1 : Int) ≤ ((writeQ q).length : Int) := by omega
      have e2 : ((writeQ q).length : Int) ≤ 240 := by omega
      go_wp2_with (first
        | refine wpList_load_q_g (q := back) (.tmp 5) rfl rfl HK8.out rfl ?_
        | refine wpList_load_q_g (q := q) (.tmp 1) rfl rfl HX8.out rfl ?_)
      refine KS.mono ?_; rintro e w9 ⟨rfl, hb9⟩
      go_wp2
      go_ret
      exact ⟨rfl, hW8.trans (hb9.mono hW8.size)⟩
  · have ert : rt = false := HRV.out.symm.trans hra
    subst ert
    clear hra
    go_wp2_with fail
    refine region_mono (awSp w q false false true false) [18, 19, 20, 21, 22, 23, 24, 25, 26, 27, 28, 29, 30, 31, 32, 33, 34, 35, 36] (by kernel_rfl) (by kernel_rfl) (by kernel_rfl) (by kernel_rfl) (stables_cons (Sp.c_stable _ _) (stables_cons (Sp.c_stable _ _) (stables_cons (Sp.c_stable _ _) (stables_cons (Sp.c_stable _ _) (stables_cons (Sp.c_stable _ _) (stables_cons (Sp.c_stable _ _) (stables_cons (Sp.c_stable _ _) (stables_cons (Sp.c_stable _ _) (stables_cons (Sp.c_stable _ _) (stables_cons (Sp.c_stable _ _) (stables_cons (Sp.c_stable _ _) (stables_cons (Sp.c_stable _ _) (stables_cons (Sp.c_stable _ _) (stables_cons (Sp.g_stable _ _ _) (stables_cons (Sp.g_stable _ _ _) (stables_cons (Sp.g_stable _ _ _) (stables_cons (Sp.c_stable _ _) (stables_cons (Sp.c_stable _ _) (stables_cons (Sp.c_stable _ _) (trivial)))))))))))))))))))) ?_ ?_
    · intro am wm L hbm hbase hbase2
      have s1 : am.tmps.getD 1 undef = .pointer (some ⟨w.heap.size, 0, none⟩) := (hbase 1 rfl).trans (by simp only [Array.getD_eq_getD_getElem?, List.getElem?_toArray, List.getElem?_cons_succ, List.getElem?_cons_zero, Option.getD_some])
      clear hbase hbase2
      have bm := HX2.out.on hbm
      have x0 := bm.c0
      have RA := HA2.out.later hbm
      refine steps_cons (fun hn hl => ?_) fun H0 => ?_
      · skip
        clear hn hl 
        refine stepC (wanted_free rfl) fun K hK => ?_
        exact wp_load_box (.tmp 1) rfl s1 bm (hK _ (Below.refl _ _))
      refine steps_cons (fun hn hl => ?_) fun H1 => ?_
      · skip
        have h18 := Sp.of_c (H0 (hn 0 (show 0 ∈ [0] from .head _)))
        clear hn hl H0
        refine stepC (wanted_free rfl) fun K hK => ?_
        go_simp
        first
          | ((with_reducible refine (HRT.out _ RA).mono ?_); rintro e w6 ⟨rfl, hb6⟩; exact hK _ hb6)
          | ((with_reducible refine (HRR.out _ RA).mono ?_); rintro e w6 ⟨rfl, hb6⟩; exact hK _ hb6)
          | ((with_reducible refine (HQ.out _).mono ?_); rintro e w6 ⟨rfl, rfl⟩; exact hK _ (Below.refl _ _))
      refine steps_cons (fun hn hl => ?_) fun H2 => ?_
      · skip
        clear hn hl H0 H1
        refine stepC (wanted_free rfl) fun K hK => ?_
        exact wp_load_box (.tmp 1) rfl s1 bm (hK _ (Below.refl _ _))
      refine steps_cons (fun hn hl => ?_) fun H3 => ?_
      · skip
        have h20 := Sp.of_c (H2 (hn 2 (show 2 ∈ [2] from .head _)))
        clear hn hl H0 H1 H2
        refine stepC (wanted_free rfl) fun K hK => ?_
        go_simp
        first
          | ((with_reducible refine (HRT.out _ RA).mono ?_); rintro e w6 ⟨rfl, hb6⟩; exact hK _ hb6)
          | ((with_reducible refine (HRR.out _ RA).mono ?_); rintro e w6 ⟨rfl, hb6⟩; exact hK _ hb6)
          | ((with_reducible refine (HQ.out _).mono ?_); rintro e w6 ⟨rfl, rfl⟩; exact hK _ (Below.refl _ _))
      refine steps_cons (fun hn hl => ?_) fun H4 => ?_
      · skip
        have h19 := Sp.of_c (H1 (hn 1 (show 1 ∈ [1, 3] from .head _)))
        have h21 := Sp.of_c (H3 (hn 3 (show 3 ∈ [1, 3] from .tail _ (.head _))))
        clear hn hl H0 H1 H2 H3
        refine stepC (wanted_free rfl) fun K hK => ?_
        go_simp
        exact hK _ (Below.refl _ _)
      refine steps_cons (fun hn hl => ?_) fun H5 => ?_
      · skip
        have h22 := Sp.of_c (H4 (hn 4 (show 4 ∈ [4] from .head _)))
        clear hn hl H0 H1 H2 H3 H4
        refine stepC (wanted_free rfl) fun K hK => ?_
        go_simp
        exact hK _ (Below.refl _ _)
      refine steps_cons (fun hn hl => ?_) fun H6 => ?_
      · skip
        have h23 := Sp.of_c (H5 (hn 5 (show 5 ∈ [5] from .head _)))
        clear hn hl H0 H1 H2 H3 H4 H5
        refine stepC (wanted_guard rfl rfl h23 rfl) fun K hK => ?_
        go_simp
        exact hK _ (Below.refl _ _)
      refine steps_cons (fun hn hl => ?_) fun H7 => ?_
      · skip
        have h24 := Sp.of_c (H6 (hn 6 (show 6 ∈ [6, 5] from .head _)))
        have h23 := Sp.of_c (H5 (hn 5 (show 5 ∈ [6, 5] from .tail _ (.head _))))
        clear hn hl H0 H1 H2 H3 H4 H5 H6
        refine stepC (wanted_guard rfl rfl h23 rfl) fun K hK => ?_
        go_simp
        exact hK _ (Below.refl _ _)
      refine steps_cons (fun hn hl => ?_) fun H8 => ?_
      · skip
        have h25 := Sp.of_c (H7 (hn 7 (show 7 ∈ [7, 5] from .head _)))
        have h23 := Sp.of_c (H5 (hn 5 (show 5 ∈ [7, 5] from .tail _ (.head _))))
        clear hn hl H0 H1 H2 H3 H4 H5 H6 H7
        refine stepC (wanted_guard rfl rfl h23 rfl) fun K hK => ?_
        go_simp
        first
          | ((with_reducible refine (HRT.out _ RA).mono ?_); rintro e w6 ⟨rfl, hb6⟩; exact hK _ hb6)
          | ((with_reducible refine (HRR.out _ RA).mono ?_); rintro e w6 ⟨rfl, hb6⟩; exact hK _ hb6)
          | ((with_reducible refine (HQ.out _).mono ?_); rintro e w6 ⟨rfl, rfl⟩; exact hK _ (Below.refl _ _))
      refine steps_cons (fun hn hl => ?_) fun H9 => ?_
      · skip
        have h23 := Sp.of_c (H5 (hn 5 (show 5 ∈ [5] from .head _)))
        clear hn hl H0 H1 H2 H3 H4 H5 H6 H7 H8
        refine stepC (wanted_guard rfl rfl h23 rfl) fun K hK => ?_
        go_simp
        exact hK _ (Below.refl _ _)
      refine steps_cons (fun hn hl => ?_) fun H10 => ?_
      · skip
        have h27 := Sp.of_c (H9 (hn 9 (show 9 ∈ [9, 5] from .head _)))
        have h23 := Sp.of_c (H5 (hn 5 (show 5 ∈ [9, 5] from .tail _ (.head _))))
        clear hn hl H0 H1 H2 H3 H4 H5 H6 H7 H8 H9
        refine stepC (wanted_guard rfl rfl h23 rfl) fun K hK => ?_
        go_simp
        exact hK _ (Below.refl _ _)
      refine steps_cons (fun hn hl => ?_) fun H11 => ?_
      · skip
        have h28 := Sp.of_c (H10 (hn 10 (show 10 ∈ [10, 5] from .head _)))
        have h23 := Sp.of_c (H5 (hn 5 (show 5 ∈ [10, 5] from .tail _ (.head _))))
        clear hn hl H0 H1 H2 H3 H4 H5 H6 H7 H8 H9 H10
        refine stepC (wanted_guard rfl rfl h23 rfl) fun K hK => ?_
        go_simp
        exact hK _ (Below.refl _ _)
      refine steps_cons (fun hn hl => ?_) fun H12 => ?_
      · skip
        have h29 := Sp.of_c (H11 (hn 11 (show 11 ∈ [11, 5] from .head _)))
        have h23 := Sp.of_c (H5 (hn 5 (show 5 ∈ [11, 5] from .tail _ (.head _))))
        clear hn hl H0 H1 H2 H3 H4 H5 H6 H7 H8 H9 H10 H11
        refine stepC (wanted_guard rfl rfl h23 rfl) fun K hK => ?_
        go_simp
        exact hK _ (Below.refl _ _)
      refine steps_cons (fun hn hl => ?_) fun H13 => ?_
      · skip
        have h30 := Sp.of_c (H12 (hn 12 (show 12 ∈ [12] from .head _)))
        clear hn hl H0 H1 H2 H3 H4 H5 H6 H7 H8 H9 H10 H11 H12
        exact stepN (unwanted_guard rfl rfl h30 rfl)
      refine steps_cons (fun hn hl => ?_) fun H14 => ?_
      · skip
        have h31 := Sp.of_off (H13 (hn 13 (show 13 ∈ [13, 12] from .head _))) rfl
        have h30 := Sp.of_c (H12 (hn 12 (show 12 ∈ [13, 12] from .tail _ (.head _))))
        clear hn hl H0 H1 H2 H3 H4 H5 H6 H7 H8 H9 H10 H11 H12 H13
        exact stepN (unwanted_guard rfl rfl h30 rfl)
      refine steps_cons (fun hn hl => ?_) fun H15 => ?_
      · skip
        have h32 := Sp.of_off (H14 (hn 14 (show 14 ∈ [14, 12] from .head _))) rfl
        have h30 := Sp.of_c (H12 (hn 12 (show 12 ∈ [14, 12] from .tail _ (.head _))))
        clear hn hl H0 H1 H2 H3 H4 H5 H6 H7 H8 H9 H10 H11 H12 H13 H14
        exact stepN (unwanted_guard rfl rfl h30 rfl)
      refine steps_cons (fun hn hl => ?_) fun H16 => ?_
      · skip
        have h30 := Sp.of_c (H12 (hn 12 (show 12 ∈ [12, 15, 5] from .head _)))
        have h33 := Sp.of_off (H15 (hn 15 (show 15 ∈ [12, 15, 5] from .tail _ (.head _)))) rfl
        have h23 := Sp.of_c (H5 (hn 5 (show 5 ∈ [12, 15, 5] from .tail _ (.tail _ (.head _)))))
        clear hn hl H0 H1 H2 H3 H4 H5 H6 H7 H8 H9 H10 H11 H12 H13 H14 H15
        refine stepC (wanted_guard rfl rfl h23 rfl) fun K hK => ?_
        go_simp
        exact hK _ (Below.refl _ _)
      refine steps_cons (fun hn hl => ?_) fun H17 => ?_
      · skip
        have h26 := Sp.of_c (H8 (hn 8 (show 8 ∈ [8, 16, 5] from .head _)))
        have h34 := Sp.of_c (H16 (hn 16 (show 16 ∈ [8, 16, 5] from .tail _ (.head _))))
        have h23 := Sp.of_c (H5 (hn 5 (show 5 ∈ [8, 16, 5] from .tail _ (.tail _ (.head _)))))
        clear hn hl H0 H1 H2 H3 H4 H5 H6 H7 H8 H9 H10 H11 H12 H13 H14 H15 H16
        refine stepC (wanted_guard rfl rfl h23 rfl) fun K hK => ?_
        go_simp
        exact hK _ (Below.refl _ _)
      refine steps_cons (fun hn hl => ?_) fun H18 => ?_
      · skip
        have h23 := Sp.of_c (H5 (hn 5 (show 5 ∈ [5, 17] from .head _)))
        have h35 := Sp.of_c (H17 (hn 17 (show 17 ∈ [5, 17] from .tail _ (.head _))))
        clear hn hl H0 H1 H2 H3 H4 H5 H6 H7 H8 H9 H10 H11 H12 H13 H14 H15 H16 H17
        refine stepC (wanted_free rfl) fun K hK => ?_
        go_simp
        exact hK _ (Below.refl _ _)
      exact trivial
    · intro w3 hb3
      have hz3 := hb3.size
      refine end_cons ?_; rintro _ rfl
      refine end_cons ?_; rintro _ rfl
      refine end_cons ?_; rintro _ rfl
      refine end_cons ?_; rintro _ rfl
      refine end_cons ?_; rintro _ rfl
      refine end_cons ?_; rintro _ rfl
      refine end_cons ?_; rintro _ rfl
      refine end_cons ?_; rintro _ rfl
      refine end_cons ?_; rintro _ rfl
      refine end_cons ?_; rintro _ rfl
      refine end_cons ?_; rintro _ rfl
      refine end_cons ?_; rintro _ rfl
      refine end_cons ?_; rintro _ rfl
      refine end_cons ?_; rintro _ rfl
      refine end_cons ?_; rintro _ rfl
      refine end_cons ?_; rintro _ rfl
      refine end_cons ?_; rintro _ rfl
      refine end_cons ?_; rintro _ rfl
      refine end_cons ?_; rintro _ rfl
      refine end_nil ?_
      simp only [List.setIfInBounds_toArray, List.set_cons_succ, List.set_cons_zero, Bool.not_false, Bool.not_true, Bool.true_or, Bool.or_true, Bool.false_or, Bool.or_false]
      have HX3 := Lib.hid (HX2.out.on hb3)
      have HA3 := Lib.hid (HA2.out.later hb3)
      have hW3 : Below w.heap.size w w3 := hW2.trans (hb3.mono hW2.size)
      clear HX2 HA2 hb3
      go_wp2_with (with_reducible refine wpList_load_q (q := q) rfl (.tmp 1) rfl rfl HX3.out ?_)
      refine (HRR.out w3 HA3.out).mono ?_; rintro e w4 ⟨rfl, hb4⟩
      go_wp2
      go_ret
      exact ⟨rfl, hW3.trans (hb4.mono hW3.size)⟩
set_option maxRecDepth 100000 in
set_option maxHeartbeats 4000000 in
theorem aw_in (q : Rq) (hl : q.l.length = 15) (hf : q.af.length ≤ 50) (w : World) (ha : RowAt w q.aa (depsV q.af)) (rt : Bool) (hrt : rightQ q = rt) (h8 : 8 ≤ q.kind) (h10 : q.kind ≤ 10) :
    Calls Try.prog 3 #[.agg #[.int .i64 q.kind, .int .i64 q.key, .int .i64 (q.n 1), .int .i64 (q.n 2), .int .i64 (q.n 3), .int .i64 (q.n 4), .int .i64 (q.n 5), .int .i64 (q.n 6), .int .i64 (q.n 7), .int .i64 (q.n 8), .int .i64 (q.n 9), .int .i64 (q.n 10), .slice q.aa q.af.length q.ac, .int .i64 (q.n 11), .int .i64 (q.n 12), .int .i64 (q.n 13), .int .i64 (q.n 14)]] w fun e w' => e = .returned (.bool true) ∧ Below w.heap.size w w' := by
  have HAW := Lib.hid awake8
  have HWA := Lib.hid (fun w' h => askWrite q hl w' h)
  have HRT := Lib.hid (fun w' h => askRight q hl w' h)
  have HRR := Lib.hid (fun w' h => refRight q w' h)
  have HQ := Lib.hid (fun w' => query q.kind w')
  rw [hrt] at HRT HRR
  rw [show queryB q.kind = true from decide_eq_true (by omega)] at HQ
  have HRV := Lib.hid hrt
  have HGR := Lib.hid (fun (h : rightQ q = true) => right_is h)
  have HA := Lib.hid ha
  have d1 : decide ((50 : Int) < (q.af.length : Int)) = false := decide_eq_false (by omega)
  have d8 : decide (8 ≤ q.kind) = true := by simpa using h8
  have d10 : decide (q.kind ≤ 10) = true := by simpa using h10
  have hrr : (rt != rt) = false := by cases rt <;> rfl
  clear hrt ha hl
  go_enter Try.func3, Try.ntmps3
  go_wp2_with fail
  have HX' := BoxQ.new w q
  generalize hw0 : World.alloc w _ = w0 at HX' ⊢
  have hW0 : Below w.heap.size w w0 := by rw [← hw0]; exact (by repeat' (first | exact Below.refl _ _ | assumption | exact And.left (by assumption) | refine Below.drew ?_ | refine below_drewN ?_ _ | refine Below.setCell ?_ (by first | (simp; done) | (simp; omega) | omega) _ | refine Below.alloc ?_ (by first | (simp; done) | (simp; omega) | omega) _ | refine after (by assumption) (by first | (simp; done) | (simp; omega) | omega) ?_))
  have HX0 := Lib.hid HX'
  have HA0 := Lib.hid (HA.out.later hW0)
  clear hw0 HX' HA
  refine (HAW.out w0).mono ?_; rintro e w1 ⟨rfl, hb1⟩
  have HX1 := Lib.hid (HX0.out.on hb1)
  have HA1 := Lib.hid (HA0.out.later hb1)
  have hW1 : Below w.heap.size w w1 := hW0.trans (hb1.mono hW0.size)
  have x12 := HX1.out.c12
  clear HX0 HA0 hb1
  go_wp2_with (with_reducible refine wpList_load_q (q := q) rfl (.tmp 1) rfl rfl HX1.out ?_)
  clear x12
  refine (HWA.out w1 HA1.out).mono ?_; rintro e w2 ⟨hb2, hw2⟩
  have HX2 := Lib.hid (HX1.out.on hb2)
  have HA2 := Lib.hid (HA1.out.later hb2)
  have hW2 : Below w.heap.size w w2 := hW1.trans (hb2.mono hW1.size)
  clear HX1 HA1 hb2
  rcases hw2 with ⟨hra, A2, c2, rfl, hn2, hrow2⟩ | ⟨hra, rfl⟩
  · have HR2 := Lib.hid hrow2
    have HN2 := Lib.hid hn2
    have ert : rt = true := HRV.out.symm.trans hra
    have hr := HGR.out hra
    have hwl := write_len hr
    subst ert
    clear hrow2 hn2 hra
    go_wp2_with fail
    refine region_mono (awSp w q true true true true) [18, 19, 20, 21, 22, 23, 24, 25, 26, 27, 28, 29, 30, 31, 32, 33, 34, 35, 36] (by kernel_rfl) (by kernel_rfl) (by kernel_rfl) (by kernel_rfl) (stables_cons (Sp.c_stable _ _) (stables_cons (Sp.c_stable _ _) (stables_cons (Sp.c_stable _ _) (stables_cons (Sp.c_stable _ _) (stables_cons (Sp.c_stable _ _) (stables_cons (Sp.c_stable _ _) (stables_cons (Sp.c_stable _ _) (stables_cons (Sp.c_stable _ _) (stables_cons (Sp.c_stable _ _) (stables_cons (Sp.c_stable _ _) (stables_cons (Sp.c_stable _ _) (stables_cons (Sp.c_stable _ _) (stables_cons (Sp.c_stable _ _) (stables_cons (Sp.g_stable _ _ _) (stables_cons (Sp.g_stable _ _ _) (stables_cons (Sp.g_stable _ _ _) (stables_cons (Sp.c_stable _ _) (stables_cons (Sp.c_stable _ _) (stables_cons (Sp.c_stable _ _) (trivial)))))))))))))))))))) ?_ ?_
    · intro am wm L hbm hbase hbase2
      have s1 : am.tmps.getD 1 undef = .pointer (some ⟨w.heap.size, 0, none⟩) := (hbase 1 rfl).trans (by simp only [Array.getD_eq_getD_getElem?, List.getElem?_toArray, List.getElem?_cons_succ, List.getElem?_cons_zero, Option.getD_some])
      clear hbase hbase2
      have bm := HX2.out.on hbm
      have x0 := bm.c0
      have RA := HA2.out.later hbm
      refine steps_cons (fun hn hl => ?_) fun H0 => ?_
      · skip
        clear hn hl 
        refine stepC (wanted_free rfl) fun K hK => ?_
        exact wp_load_box (.tmp 1) rfl s1 bm (hK _ (Below.refl _ _))
      refine steps_cons (fun hn hl => ?_) fun H1 => ?_
      · skip
        have h18 := Sp.of_c (H0 (hn 0 (show 0 ∈ [0] from .head _)))
        clear hn hl H0
        refine stepC (wanted_free rfl) fun K hK => ?_
        go_simp
        first
          | ((with_reducible refine (HRT.out _ RA).mono ?_); rintro e w6 ⟨rfl, hb6⟩; exact hK _ hb6)
          | ((with_reducible refine (HRR.out _ RA).mono ?_); rintro e w6 ⟨rfl, hb6⟩; exact hK _ hb6)
          | ((with_reducible refine (HQ.out _).mono ?_); rintro e w6 ⟨rfl, rfl⟩; exact hK _ (Below.refl _ _))
      refine steps_cons (fun hn hl => ?_) fun H2 => ?_
      · skip
        clear hn hl H0 H1
        refine stepC (wanted_free rfl) fun K hK => ?_
        exact wp_load_box (.tmp 1) rfl s1 bm (hK _ (Below.refl _ _))
      refine steps_cons (fun hn hl => ?_) fun H3 => ?_
      · skip
        have h20 := Sp.of_c (H2 (hn 2 (show 2 ∈ [2] from .head _)))
        clear hn hl H0 H1 H2
        refine stepC (wanted_free rfl) fun K hK => ?_
        go_simp
        first
          | ((with_reducible refine (HRT.out _ RA).mono ?_); rintro e w6 ⟨rfl, hb6⟩; exact hK _ hb6)
          | ((with_reducible refine (HRR.out _ RA).mono ?_); rintro e w6 ⟨rfl, hb6⟩; exact hK _ hb6)
          | ((with_reducible refine (HQ.out _).mono ?_); rintro e w6 ⟨rfl, rfl⟩; exact hK _ (Below.refl _ _))
      refine steps_cons (fun hn hl => ?_) fun H4 => ?_
      · skip
        have h19 := Sp.of_c (H1 (hn 1 (show 1 ∈ [1, 3] from .head _)))
        have h21 := Sp.of_c (H3 (hn 3 (show 3 ∈ [1, 3] from .tail _ (.head _))))
        clear hn hl H0 H1 H2 H3
        refine stepC (wanted_free rfl) fun K hK => ?_
        go_simp
        exact hK _ (Below.refl _ _)
      refine steps_cons (fun hn hl => ?_) fun H5 => ?_
      · skip
        have h22 := Sp.of_c (H4 (hn 4 (show 4 ∈ [4] from .head _)))
        clear hn hl H0 H1 H2 H3 H4
        refine stepC (wanted_free rfl) fun K hK => ?_
        go_simp
        exact hK _ (Below.refl _ _)
      refine steps_cons (fun hn hl => ?_) fun H6 => ?_
      · skip
        have h23 := Sp.of_c (H5 (hn 5 (show 5 ∈ [5] from .head _)))
        clear hn hl H0 H1 H2 H3 H4 H5
        refine stepC (wanted_guard rfl rfl h23 rfl) fun K hK => ?_
        go_simp
        exact hK _ (Below.refl _ _)
      refine steps_cons (fun hn hl => ?_) fun H7 => ?_
      · skip
        have h24 := Sp.of_c (H6 (hn 6 (show 6 ∈ [6, 5] from .head _)))
        have h23 := Sp.of_c (H5 (hn 5 (show 5 ∈ [6, 5] from .tail _ (.head _))))
        clear hn hl H0 H1 H2 H3 H4 H5 H6
        refine stepC (wanted_guard rfl rfl h23 rfl) fun K hK => ?_
        go_simp
        exact hK _ (Below.refl _ _)
      refine steps_cons (fun hn hl => ?_) fun H8 => ?_
      · skip
        have h25 := Sp.of_c (H7 (hn 7 (show 7 ∈ [7, 5] from .head _)))
        have h23 := Sp.of_c (H5 (hn 5 (show 5 ∈ [7, 5] from .tail _ (.head _))))
        clear hn hl H0 H1 H2 H3 H4 H5 H6 H7
        refine stepC (wanted_guard rfl rfl h23 rfl) fun K hK => ?_
        go_simp
        first
          | ((with_reducible refine (HRT.out _ RA).mono ?_); rintro e w6 ⟨rfl, hb6⟩; exact hK _ hb6)
          | ((with_reducible refine (HRR.out _ RA).mono ?_); rintro e w6 ⟨rfl, hb6⟩; exact hK _ hb6)
          | ((with_reducible refine (HQ.out _).mono ?_); rintro e w6 ⟨rfl, rfl⟩; exact hK _ (Below.refl _ _))
      refine steps_cons (fun hn hl => ?_) fun H9 => ?_
      · skip
        have h23 := Sp.of_c (H5 (hn 5 (show 5 ∈ [5] from .head _)))
        clear hn hl H0 H1 H2 H3 H4 H5 H6 H7 H8
        refine stepC (wanted_guard rfl rfl h23 rfl) fun K hK => ?_
        go_simp
        exact hK _ (Below.refl _ _)
      refine steps_cons (fun hn hl => ?_) fun H10 => ?_
      · skip
        have h27 := Sp.of_c (H9 (hn 9 (show 9 ∈ [9, 5] from .head _)))
        have h23 := Sp.of_c (H5 (hn 5 (show 5 ∈ [9, 5] from .tail _ (.head _))))
        clear hn hl H0 H1 H2 H3 H4 H5 H6 H7 H8 H9
        refine stepC (wanted_guard rfl rfl h23 rfl) fun K hK => ?_
        go_simp
        exact hK _ (Below.refl _ _)
      refine steps_cons (fun hn hl => ?_) fun H11 => ?_
      · skip
        have h28 := Sp.of_c (H10 (hn 10 (show 10 ∈ [10, 5] from .head _)))
        have h23 := Sp.of_c (H5 (hn 5 (show 5 ∈ [10, 5] from .tail _ (.head _))))
        clear hn hl H0 H1 H2 H3 H4 H5 H6 H7 H8 H9 H10
        refine stepC (wanted_guard rfl rfl h23 rfl) fun K hK => ?_
        go_simp
        exact hK _ (Below.refl _ _)
      refine steps_cons (fun hn hl => ?_) fun H12 => ?_
      · skip
        have h29 := Sp.of_c (H11 (hn 11 (show 11 ∈ [11, 5] from .head _)))
        have h23 := Sp.of_c (H5 (hn 5 (show 5 ∈ [11, 5] from .tail _ (.head _))))
        clear hn hl H0 H1 H2 H3 H4 H5 H6 H7 H8 H9 H10 H11
        refine stepC (wanted_guard rfl rfl h23 rfl) fun K hK => ?_
        go_simp
        exact hK _ (Below.refl _ _)
      refine steps_cons (fun hn hl => ?_) fun H13 => ?_
      · skip
        have h30 := Sp.of_c (H12 (hn 12 (show 12 ∈ [12] from .head _)))
        clear hn hl H0 H1 H2 H3 H4 H5 H6 H7 H8 H9 H10 H11 H12
        refine stepC (wanted_guard rfl rfl h30 rfl) fun K hK => ?_
        go_simp
        exact hK _ (Below.refl _ _)
      refine steps_cons (fun hn hl => ?_) fun H14 => ?_
      · skip
        have h31 := Sp.of_g (H13 (hn 13 (show 13 ∈ [13, 12] from .head _))) rfl
        have h30 := Sp.of_c (H12 (hn 12 (show 12 ∈ [13, 12] from .tail _ (.head _))))
        clear hn hl H0 H1 H2 H3 H4 H5 H6 H7 H8 H9 H10 H11 H12 H13
        refine stepC (wanted_guard rfl rfl h30 rfl) fun K hK => ?_
        go_simp
        exact hK _ (Below.refl _ _)
      refine steps_cons (fun hn hl => ?_) fun H15 => ?_
      · skip
        have h32 := Sp.of_g (H14 (hn 14 (show 14 ∈ [14, 12] from .head _))) rfl
        have h30 := Sp.of_c (H12 (hn 12 (show 12 ∈ [14, 12] from .tail _ (.head _))))
        clear hn hl H0 H1 H2 H3 H4 H5 H6 H7 H8 H9 H10 H11 H12 H13 H14
        refine stepC (wanted_guard rfl rfl h30 rfl) fun K hK => ?_
        go_simp
        exact hK _ (Below.refl _ _)
      refine steps_cons (fun hn hl => ?_) fun H16 => ?_
      · skip
        have h30 := Sp.of_c (H12 (hn 12 (show 12 ∈ [12, 15, 5] from .head _)))
        have h33 := Sp.of_g (H15 (hn 15 (show 15 ∈ [12, 15, 5] from .tail _ (.head _)))) rfl
        have h23 := Sp.of_c (H5 (hn 5 (show 5 ∈ [12, 15, 5] from .tail _ (.tail _ (.head _)))))
        clear hn hl H0 H1 H2 H3 H4 H5 H6 H7 H8 H9 H10 H11 H12 H13 H14 H15
        refine stepC (wanted_guard rfl rfl h23 rfl) fun K hK => ?_
        go_simp
        exact hK _ (Below.refl _ _)
      refine steps_cons (fun hn hl => ?_) fun H17 => ?_
      · skip
        have h26 := Sp.of_c (H8 (hn 8 (show 8 ∈ [8, 16, 5] from .head _)))
        have h34 := Sp.of_c (H16 (hn 16 (show 16 ∈ [8, 16, 5] from .tail _ (.head _))))
        have h23 := Sp.of_c (H5 (hn 5 (show 5 ∈ [8, 16, 5] from .tail _ (.tail _ (.head _)))))
        clear hn hl H0 H1 H2 H3 H4 H5 H6 H7 H8 H9 H10 H11 H12 H13 H14 H15 H16
        refine stepC (wanted_guard rfl rfl h23 rfl) fun K hK => ?_
        go_simp
        exact hK _ (Below.refl _ _)
      refine steps_cons (fun hn hl => ?_) fun H18 => ?_
      · skip
        have h23 := Sp.of_c (H5 (hn 5 (show 5 ∈ [5, 17] from .head _)))
        have h35 := Sp.of_c (H17 (hn 17 (show 17 ∈ [5, 17] from .tail _ (.head _))))
        clear hn hl H0 H1 H2 H3 H4 H5 H6 H7 H8 H9 H10 H11 H12 H13 H14 H15 H16 H17
        refine stepC (wanted_free rfl) fun K hK => ?_
        go_simp
        exact hK _ (Below.refl _ _)
      exact trivial
    · intro w3 hb3
      have hz3 := hb3.size
      refine end_cons ?_; rintro _ rfl
      refine end_cons ?_; rintro _ rfl
      refine end_cons ?_; rintro _ rfl
      refine end_cons ?_; rintro _ rfl
      refine end_cons ?_; rintro _ rfl
      refine end_cons ?_; rintro _ rfl
      refine end_cons ?_; rintro _ rfl
      refine end_cons ?_; rintro _ rfl
      refine end_cons ?_; rintro _ rfl
      refine end_cons ?_; rintro _ rfl
      refine end_cons ?_; rintro _ rfl
      refine end_cons ?_; rintro _ rfl
      refine end_cons ?_; rintro _ rfl
      refine end_cons ?_; rintro _ rfl
      refine end_cons ?_; rintro _ rfl
      refine end_cons ?_; rintro _ rfl
      refine end_cons ?_; rintro _ rfl
      refine end_cons ?_; rintro _ rfl
      refine end_cons ?_; rintro _ rfl
      refine end_nil ?_
      simp only [List.setIfInBounds_toArray, List.set_cons_succ, List.set_cons_zero, Bool.not_false, Bool.not_true, Bool.true_or, Bool.or_true, Bool.false_or, Bool.or_false]
      have HX3 := Lib.hid (HX2.out.on hb3)
      have HA3 := Lib.hid (HA2.out.later hb3)
      have HR3 := Lib.hid (HR2.out.later hb3)
      have hW3 : Below w.heap.size w w3 := hW2.trans (hb3.mono hW2.size)
      clear HX2 HA2 HR2 hb3
      go_wp2_with (with_reducible refine wpList_load_q (q := q) rfl (.tmp 1) rfl rfl HX3.out ?_)
      refine (HRR.out w3 HA3.out).mono ?_; rintro e w4 ⟨rfl, hb4⟩
      have HX4 := Lib.hid (HX3.out.on hb4)
      have HA4 := Lib.hid (HA3.out.later hb4)
      have HR4 := Lib.hid (HR3.out.later hb4)
      have hW4 : Below w.heap.size w w4 := hW3.trans (hb4.mono hW3.size)
      clear HX3 HA3 HR3 hb4
      have KR := askRead A2 c2 (writeQ q) (by omega) HN2.out w4 HR4.out
      go_wp2_with fail
      refine KR.mono ?_; rintro e w5 ⟨aa, ac, rfl, hrow5, hb5⟩
      clear KR
      have HS5 := Lib.hid (read_same hr aa ac)
      have HE5 : Hid (readE (writeQ q) = 0) := Lib.hid (read_write hr).none
      rw [HE5.out]
      have HRW := Lib.hid (fun w' h => refWrite q hr w' h)
      have HSM := Lib.hid (fun back (h : sameQ back q = true) (h2 : back.af.length ≤ 1000) w' h3 h4 => (refSame back q h2 w' h3 h4))
      have HX5 := Lib.hid (HX4.out.on hb5)
      have HA5 := Lib.hid (HA4.out.later hb5)
      have HR5 := Lib.hid (HR4.out.later hb5)
      have HB5 := Lib.hid hrow5
      have hW5 : Below w.heap.size w w5 := hW4.trans (hb5.mono hW4.size)
      clear HX4 HA4 HR4 hb5 hrow5
      generalize readQ (writeQ q) aa ac = back at HS5 HB5 ⊢
      go_wp2_with (first
        | ((with_reducible refine wpList_store_row rfl 26 (.tmp 5) (.tmp 50) rfl w5.heap.size _ rfl rfl 26 #[.int .i64 0, .int .i64 0, .int .i64 0, .int .i64 0, .int .i64 0, .int .i64 0, .int .i64 0, .int .i64 0, .int .i64 0, .int .i64 0, .int .i64 0, .int .i64 0, .slice none 0 0, .int .i64 0, .int .i64 0, .int .i64 0, .int .i64 0] (by repeat (first | (refine heap_top (by first | omega | (simp only [World.size_alloc]; done) | (simp only [World.size_alloc]; omega))) | refine heap_up ?_)) (by kernel_rfl) (by simp) (by simp [Value.oneCell']) ?_)
           generalize hw6 : World.setRow _ _ _ = w6
           have hb6 : Below w5.heap.size w5 w6 := by rw [← hw6]; exact below_setRow ((by repeat' (first | exact Below.refl _ _ | assumption | exact And.left (by assumption) | refine Below.drew ?_ | refine below_drewN ?_ _ | refine Below.setCell ?_ (by first | (simp; done) | (simp; omega) | omega) _ | refine Below.alloc ?_ (by first | (simp; done) | (simp; omega) | omega) _ | refine after (by assumption) (by first | (simp; done) | (simp; omega) | omega) ?_))) (Nat.le_refl _) _
           have HK6 : Hid (BoxQ w6 w5.heap.size back) := Lib.hid ⟨by rw [← hw6]; exact setRow_heap _ _ _ _ _ _ (by repeat (first | (refine heap_top (by first | omega | (simp only [World.size_alloc]; done) | (simp only [World.size_alloc]; omega))) | refine heap_up ?_))⟩
           have HX6 := Lib.hid (HX5.out.on hb6)
           clear hw6)
        | refine wpList_load_q_g (q := q) (.tmp 1) rfl rfl HX6.out rfl ?_)
      have HA6 := Lib.hid (HA5.out.later hb6)
      have HR6 := Lib.hid (HR5.out.later hb6)
      have HB6 := Lib.hid (HB5.out.later hb6)
      have hW6 : Below w.heap.size w w6 := hW5.trans (hb6.mono hW5.size)
      clear HX5 HA5 HR5 HB5 hb6
      refine (HRW.out w6 HA6.out).mono ?_; rintro e w7 ⟨v7, rfl, hown7, hb7⟩
      obtain ⟨A7, c7, rfl, _, hrow7, _⟩ := RowT.of hown7
      have HX7 := Lib.hid (HX6.out.on hb7)
      have HK7 := Lib.hid (HK6.out.on hb7)
      have HA7 := Lib.hid (HA6.out.later hb7)
      have HR7 := Lib.hid (HR6.out.later hb7)
      have HB7 := Lib.hid (HB6.out.later hb7)
      have hW7 : Below w.heap.size w w7 := hW6.trans (hb7.mono hW6.size)
      have KB := same A2 A7 c2 c7 (writeQ q) (by omega) w7 HR7.out hrow7.row
      clear HX6 HK6 HA6 HR6 HB6 hb7 hown7 hrow7
      go_wp2_with fail
      refine KB.mono ?_; rintro e w8 ⟨rfl, hb8⟩
      clear KB
      have HX8 := Lib.hid (HX7.out.on hb8)
      have HK8 := Lib.hid (HK7.out.on hb8)
      have hW8 : Below w.heap.size w w8 := hW7.trans (hb8.mono hW7.size)
      have KS := HSM.out back HS5.out.1 HS5.out.2 w8 (HB7.out.later hb8) (HA7.out.later hb8)
      rw [HS5.out.1] at KS
      clear HX7 HK7 HA7 HR7 HB7 hb8
      have e1 : (1 : Int) ≤ ((writeQ q).length : Int) := by omega
      have e2 : ((writeQ q).length : Int) ≤ 240 := by omega
      go_wp2_with (first
        | refine wpList_load_q_g (q := back) (.tmp 5) rfl rfl HK8.out rfl ?_
        | refine wpList_load_q_g (q := q) (.tmp 1) rfl rfl HX8.out rfl ?_)
      refine KS.mono ?_; rintro e w9 ⟨rfl, hb9⟩
      go_wp2
      go_ret
      exact ⟨rfl, hW8.trans (hb9.mono hW8.size)⟩
  · have ert : rt = false := HRV.out.symm.trans hra
    subst ert
    clear hra
    go_wp2_with fail
    refine region_mono (awSp w q false true true true) [18, 19, 20, 21, 22, 23, 24, 25, 26, 27, 28, 29, 30, 31, 32, 33, 34, 35, 36] (by kernel_rfl) (by kernel_rfl) (by kernel_rfl) (by kernel_rfl) (stables_cons (Sp.c_stable _ _) (stables_cons (Sp.c_stable _ _) (stables_cons (Sp.c_stable _ _) (stables_cons (Sp.c_stable _ _) (stables_cons (Sp.c_stable _ _) (stables_cons (Sp.c_stable _ _) (stables_cons (Sp.c_stable _ _) (stables_cons (Sp.c_stable _ _) (stables_cons (Sp.c_stable _ _) (stables_cons (Sp.c_stable _ _) (stables_cons (Sp.c_stable _ _) (stables_cons (Sp.c_stable _ _) (stables_cons (Sp.c_stable _ _) (stables_cons (Sp.g_stable _ _ _) (stables_cons (Sp.g_stable _ _ _) (stables_cons (Sp.g_stable _ _ _) (stables_cons (Sp.c_stable _ _) (stables_cons (Sp.c_stable _ _) (stables_cons (Sp.c_stable _ _) (trivial)))))))))))))))))))) ?_ ?_
    · intro am wm L hbm hbase hbase2
      have s1 : am.tmps.getD 1 undef = .pointer (some ⟨w.heap.size, 0, none⟩) := (hbase 1 rfl).trans (by simp only [Array.getD_eq_getD_getElem?, List.getElem?_toArray, List.getElem?_cons_succ, List.getElem?_cons_zero, Option.getD_some])
      clear hbase hbase2
      have bm := HX2.out.on hbm
      have x0 := bm.c0
      have RA := HA2.out.later hbm
      refine steps_cons (fun hn hl => ?_) fun H0 => ?_
      · skip
        clear hn hl 
        refine stepC (wanted_free rfl) fun K hK => ?_
        exact wp_load_box (.tmp 1) rfl s1 bm (hK _ (Below.refl _ _))
      refine steps_cons (fun hn hl => ?_) fun H1 => ?_
      · skip
        have h18 := Sp.of_c (H0 (hn 0 (show 0 ∈ [0] from .head _)))
        clear hn hl H0
        refine stepC (wanted_free rfl) fun K hK => ?_
        go_simp
        first
          | ((with_reducible refine (HRT.out _ RA).mono ?_); rintro e w6 ⟨rfl, hb6⟩; exact hK _ hb6)
          | ((with_reducible refine (HRR.out _ RA).mono ?_); rintro e w6 ⟨rfl, hb6⟩; exact hK _ hb6)
          | ((with_reducible refine (HQ.out _).mono ?_); rintro e w6 ⟨rfl, rfl⟩; exact hK _ (Below.refl _ _))
      refine steps_cons (fun hn hl => ?_) fun H2 => ?_
      · skip
        clear hn hl H0 H1
        refine stepC (wanted_free rfl) fun K hK => ?_
        exact wp_load_box (.tmp 1) rfl s1 bm (hK _ (Below.refl _ _))
      refine steps_cons (fun hn hl => ?_) fun H3 => ?_
      · skip
        have h20 := Sp.of_c (H2 (hn 2 (show 2 ∈ [2] from .head _)))
        clear hn hl H0 H1 H2
        refine stepC (wanted_free rfl) fun K hK => ?_
        go_simp
        first
          | ((with_reducible refine (HRT.out _ RA).mono ?_); rintro e w6 ⟨rfl, hb6⟩; exact hK _ hb6)
          | ((with_reducible refine (HRR.out _ RA).mono ?_); rintro e w6 ⟨rfl, hb6⟩; exact hK _ hb6)
          | ((with_reducible refine (HQ.out _).mono ?_); rintro e w6 ⟨rfl, rfl⟩; exact hK _ (Below.refl _ _))
      refine steps_cons (fun hn hl => ?_) fun H4 => ?_
      · skip
        have h19 := Sp.of_c (H1 (hn 1 (show 1 ∈ [1, 3] from .head _)))
        have h21 := Sp.of_c (H3 (hn 3 (show 3 ∈ [1, 3] from .tail _ (.head _))))
        clear hn hl H0 H1 H2 H3
        refine stepC (wanted_free rfl) fun K hK => ?_
        go_simp
        exact hK _ (Below.refl _ _)
      refine steps_cons (fun hn hl => ?_) fun H5 => ?_
      · skip
        have h22 := Sp.of_c (H4 (hn 4 (show 4 ∈ [4] from .head _)))
        clear hn hl H0 H1 H2 H3 H4
        refine stepC (wanted_free rfl) fun K hK => ?_
        go_simp
        exact hK _ (Below.refl _ _)
      refine steps_cons (fun hn hl => ?_) fun H6 => ?_
      · skip
        have h23 := Sp.of_c (H5 (hn 5 (show 5 ∈ [5] from .head _)))
        clear hn hl H0 H1 H2 H3 H4 H5
        refine stepC (wanted_guard rfl rfl h23 rfl) fun K hK => ?_
        go_simp
        exact hK _ (Below.refl _ _)
      refine steps_cons (fun hn hl => ?_) fun H7 => ?_
      · skip
        have h24 := Sp.of_c (H6 (hn 6 (show 6 ∈ [6, 5] from .head _)))
        have h23 := Sp.of_c (H5 (hn 5 (show 5 ∈ [6, 5] from .tail _ (.head _))))
        clear hn hl H0 H1 H2 H3 H4 H5 H6
        refine stepC (wanted_guard rfl rfl h23 rfl) fun K hK => ?_
        go_simp
        exact hK _ (Below.refl _ _)
      refine steps_cons (fun hn hl => ?_) fun H8 => ?_
      · skip
        have h25 := Sp.of_c (H7 (hn 7 (show 7 ∈ [7, 5] from .head _)))
        have h23 := Sp.of_c (H5 (hn 5 (show 5 ∈ [7, 5] from .tail _ (.head _))))
        clear hn hl H0 H1 H2 H3 H4 H5 H6 H7
        refine stepC (wanted_guard rfl rfl h23 rfl) fun K hK => ?_
        go_simp
        first
          | ((with_reducible refine (HRT.out _ RA).mono ?_); rintro e w6 ⟨rfl, hb6⟩; exact hK _ hb6)
          | ((with_reducible refine (HRR.out _ RA).mono ?_); rintro e w6 ⟨rfl, hb6⟩; exact hK _ hb6)
          | ((with_reducible refine (HQ.out _).mono ?_); rintro e w6 ⟨rfl, rfl⟩; exact hK _ (Below.refl _ _))
      refine steps_cons (fun hn hl => ?_) fun H9 => ?_
      · skip
        have h23 := Sp.of_c (H5 (hn 5 (show 5 ∈ [5] from .head _)))
        clear hn hl H0 H1 H2 H3 H4 H5 H6 H7 H8
        refine stepC (wanted_guard rfl rfl h23 rfl) fun K hK => ?_
        go_simp
        exact hK _ (Below.refl _ _)
      refine steps_cons (fun hn hl => ?_) fun H10 => ?_
      · skip
        have h27 := Sp.of_c (H9 (hn 9 (show 9 ∈ [9, 5] from .head _)))
        have h23 := Sp.of_c (H5 (hn 5 (show 5 ∈ [9, 5] from .tail _ (.head _))))
        clear hn hl H0 H1 H2 H3 H4 H5 H6 H7 H8 H9
        refine stepC (wanted_guard rfl rfl h23 rfl) fun K hK => ?_
        go_simp
        exact hK _ (Below.refl _ _)
      refine steps_cons (fun hn hl => ?_) fun H11 => ?_
      · skip
        have h28 := Sp.of_c (H10 (hn 10 (show 10 ∈ [10, 5] from .head _)))
        have h23 := Sp.of_c (H5 (hn 5 (show 5 ∈ [10, 5] from .tail _ (.head _))))
        clear hn hl H0 H1 H2 H3 H4 H5 H6 H7 H8 H9 H10
        refine stepC (wanted_guard rfl rfl h23 rfl) fun K hK => ?_
        go_simp
        exact hK _ (Below.refl _ _)
      refine steps_cons (fun hn hl => ?_) fun H12 => ?_
      · skip
        have h29 := Sp.of_c (H11 (hn 11 (show 11 ∈ [11, 5] from .head _)))
        have h23 := Sp.of_c (H5 (hn 5 (show 5 ∈ [11, 5] from .tail _ (.head _))))
        clear hn hl H0 H1 H2 H3 H4 H5 H6 H7 H8 H9 H10 H11
        refine stepC (wanted_guard rfl rfl h23 rfl) fun K hK => ?_
        go_simp
        exact hK _ (Below.refl _ _)
      refine steps_cons (fun hn hl => ?_) fun H13 => ?_
      · skip
        have h30 := Sp.of_c (H12 (hn 12 (show 12 ∈ [12] from .head _)))
        clear hn hl H0 H1 H2 H3 H4 H5 H6 H7 H8 H9 H10 H11 H12
        refine stepC (wanted_guard rfl rfl h30 rfl) fun K hK => ?_
        go_simp
        exact hK _ (Below.refl _ _)
      refine steps_cons (fun hn hl => ?_) fun H14 => ?_
      · skip
        have h31 := Sp.of_g (H13 (hn 13 (show 13 ∈ [13, 12] from .head _))) rfl
        have h30 := Sp.of_c (H12 (hn 12 (show 12 ∈ [13, 12] from .tail _ (.head _))))
        clear hn hl H0 H1 H2 H3 H4 H5 H6 H7 H8 H9 H10 H11 H12 H13
        refine stepC (wanted_guard rfl rfl h30 rfl) fun K hK => ?_
        go_simp
        exact hK _ (Below.refl _ _)
      refine steps_cons (fun hn hl => ?_) fun H15 => ?_
      · skip
        have h32 := Sp.of_g (H14 (hn 14 (show 14 ∈ [14, 12] from .head _))) rfl
        have h30 := Sp.of_c (H12 (hn 12 (show 12 ∈ [14, 12] from .tail _ (.head _))))
        clear hn hl H0 H1 H2 H3 H4 H5 H6 H7 H8 H9 H10 H11 H12 H13 H14
        refine stepC (wanted_guard rfl rfl h30 rfl) fun K hK => ?_
        go_simp
        exact hK _ (Below.refl _ _)
      refine steps_cons (fun hn hl => ?_) fun H16 => ?_
      · skip
        have h30 := Sp.of_c (H12 (hn 12 (show 12 ∈ [12, 15, 5] from .head _)))
        have h33 := Sp.of_g (H15 (hn 15 (show 15 ∈ [12, 15, 5] from .tail _ (.head _)))) rfl
        have h23 := Sp.of_c (H5 (hn 5 (show 5 ∈ [12, 15, 5] from .tail _ (.tail _ (.head _)))))
        clear hn hl H0 H1 H2 H3 H4 H5 H6 H7 H8 H9 H10 H11 H12 H13 H14 H15
        refine stepC (wanted_guard rfl rfl h23 rfl) fun K hK => ?_
        go_simp
        exact hK _ (Below.refl _ _)
      refine steps_cons (fun hn hl => ?_) fun H17 => ?_
      · skip
        have h26 := Sp.of_c (H8 (hn 8 (show 8 ∈ [8, 16, 5] from .head _)))
        have h34 := Sp.of_c (H16 (hn 16 (show 16 ∈ [8, 16, 5] from .tail _ (.head _))))
        have h23 := Sp.of_c (H5 (hn 5 (show 5 ∈ [8, 16, 5] from .tail _ (.tail _ (.head _)))))
        clear hn hl H0 H1 H2 H3 H4 H5 H6 H7 H8 H9 H10 H11 H12 H13 H14 H15 H16
        refine stepC (wanted_guard rfl rfl h23 rfl) fun K hK => ?_
        go_simp
        exact hK _ (Below.refl _ _)
      refine steps_cons (fun hn hl => ?_) fun H18 => ?_
      · skip
        have h23 := Sp.of_c (H5 (hn 5 (show 5 ∈ [5, 17] from .head _)))
        have h35 := Sp.of_c (H17 (hn 17 (show 17 ∈ [5, 17] from .tail _ (.head _))))
        clear hn hl H0 H1 H2 H3 H4 H5 H6 H7 H8 H9 H10 H11 H12 H13 H14 H15 H16 H17
        refine stepC (wanted_free rfl) fun K hK => ?_
        go_simp
        exact hK _ (Below.refl _ _)
      exact trivial
    · intro w3 hb3
      have hz3 := hb3.size
      refine end_cons ?_; rintro _ rfl
      refine end_cons ?_; rintro _ rfl
      refine end_cons ?_; rintro _ rfl
      refine end_cons ?_; rintro _ rfl
      refine end_cons ?_; rintro _ rfl
      refine end_cons ?_; rintro _ rfl
      refine end_cons ?_; rintro _ rfl
      refine end_cons ?_; rintro _ rfl
      refine end_cons ?_; rintro _ rfl
      refine end_cons ?_; rintro _ rfl
      refine end_cons ?_; rintro _ rfl
      refine end_cons ?_; rintro _ rfl
      refine end_cons ?_; rintro _ rfl
      refine end_cons ?_; rintro _ rfl
      refine end_cons ?_; rintro _ rfl
      refine end_cons ?_; rintro _ rfl
      refine end_cons ?_; rintro _ rfl
      refine end_cons ?_; rintro _ rfl
      refine end_cons ?_; rintro _ rfl
      refine end_nil ?_
      simp only [List.setIfInBounds_toArray, List.set_cons_succ, List.set_cons_zero, Bool.not_false, Bool.not_true, Bool.true_or, Bool.or_true, Bool.false_or, Bool.or_false]
      have HX3 := Lib.hid (HX2.out.on hb3)
      have HA3 := Lib.hid (HA2.out.later hb3)
      have hW3 : Below w.heap.size w w3 := hW2.trans (hb3.mono hW2.size)
      clear HX2 HA2 hb3
      go_wp2_with (with_reducible refine wpList_load_q (q := q) rfl (.tmp 1) rfl rfl HX3.out ?_)
      refine (HRR.out w3 HA3.out).mono ?_; rintro e w4 ⟨rfl, hb4⟩
      go_wp2
      go_ret
      exact ⟨rfl, hW3.trans (hb4.mono hW3.size)⟩
set_option maxRecDepth 100000 in
set_option maxHeartbeats 4000000 in
theorem aw_high (q : Rq) (hl : q.l.length = 15) (hf : q.af.length ≤ 50) (w : World) (ha : RowAt w q.aa (depsV q.af)) (rt : Bool) (hrt : rightQ q = rt) (h8 : 8 ≤ q.kind) (h10 : ¬ q.kind ≤ 10) :
    Calls Try.prog 3 #[.agg #[.int .i64 q.kind, .int .i64 q.key, .int .i64 (q.n 1), .int .i64 (q.n 2), .int .i64 (q.n 3), .int .i64 (q.n 4), .int .i64 (q.n 5), .int .i64 (q.n 6), .int .i64 (q.n 7), .int .i64 (q.n 8), .int .i64 (q.n 9), .int .i64 (q.n 10), .slice q.aa q.af.length q.ac, .int .i64 (q.n 11), .int .i64 (q.n 12), .int .i64 (q.n 13), .int .i64 (q.n 14)]] w fun e w' => e = .returned (.bool true) ∧ Below w.heap.size w w' := by
  have HAW := Lib.hid awake8
  have HWA := Lib.hid (fun w' h => askWrite q hl w' h)
  have HRT := Lib.hid (fun w' h => askRight q hl w' h)
  have HRR := Lib.hid (fun w' h => refRight q w' h)
  have HQ := Lib.hid (fun w' => query q.kind w')
  rw [hrt] at HRT HRR
  rw [show queryB q.kind = false from decide_eq_false (by omega)] at HQ
  have HRV := Lib.hid hrt
  have HGR := Lib.hid (fun (h : rightQ q = true) => right_is h)
  have HA := Lib.hid ha
  have d1 : decide ((50 : Int) < (q.af.length : Int)) = false := decide_eq_false (by omega)
  have d8 : decide (8 ≤ q.kind) = true := by simpa using h8
  have d10 : decide (q.kind ≤ 10) = false := by simpa using h10
  have hrr : (rt != rt) = false := by cases rt <;> rfl
  clear hrt ha hl
  go_enter Try.func3, Try.ntmps3
  go_wp2_with fail
  have HX' := BoxQ.new w q
  generalize hw0 : World.alloc w _ = w0 at HX' ⊢
  have hW0 : Below w.heap.size w w0 := by rw [← hw0]; exact (by repeat' (first | exact Below.refl _ _ | assumption | exact And.left (by assumption) | refine Below.drew ?_ | refine below_drewN ?_ _ | refine Below.setCell ?_ (by first | (simp; done) | (simp; omega) | omega) _ | refine Below.alloc ?_ (by first | (simp; done) | (simp; omega) | omega) _ | refine after (by assumption) (by first | (simp; done) | (simp; omega) | omega) ?_))
  have HX0 := Lib.hid HX'
  have HA0 := Lib.hid (HA.out.later hW0)
  clear hw0 HX' HA
  refine (HAW.out w0).mono ?_; rintro e w1 ⟨rfl, hb1⟩
  have HX1 := Lib.hid (HX0.out.on hb1)
  have HA1 := Lib.hid (HA0.out.later hb1)
  have hW1 : Below w.heap.size w w1 := hW0.trans (hb1.mono hW0.size)
  have x12 := HX1.out.c12
  clear HX0 HA0 hb1
  go_wp2_with (with_reducible refine wpList_load_q (q := q) rfl (.tmp 1) rfl rfl HX1.out ?_)
  clear x12
  refine (HWA.out w1 HA1.out).mono ?_; rintro e w2 ⟨hb2, hw2⟩
  have HX2 := Lib.hid (HX1.out.on hb2)
  have HA2 := Lib.hid (HA1.out.later hb2)
  have hW2 : Below w.heap.size w w2 := hW1.trans (hb2.mono hW1.size)
  clear HX1 HA1 hb2
  rcases hw2 with ⟨hra, A2, c2, rfl, hn2, hrow2⟩ | ⟨hra, rfl⟩
  · have HR2 := Lib.hid hrow2
    have HN2 := Lib.hid hn2
    have ert : rt = true := HRV.out.symm.trans hra
    have hr := HGR.out hra
    have hwl := write_len hr
    subst ert
    clear hrow2 hn2 hra
    go_wp2_with fail
    refine region_mono (awSp w q true true false false) [18, 19, 20, 21, 22, 23, 24, 25, 26, 27, 28, 29, 30, 31, 32, 33, 34, 35, 36] (by kernel_rfl) (by kernel_rfl) (by kernel_rfl) (by kernel_rfl) (stables_cons (Sp.c_stable _ _) (stables_cons (Sp.c_stable _ _) (stables_cons (Sp.c_stable _ _) (stables_cons (Sp.c_stable _ _) (stables_cons (Sp.c_stable _ _) (stables_cons (Sp.c_stable _ _) (stables_cons (Sp.c_stable _ _) (stables_cons (Sp.c_stable _ _) (stables_cons (Sp.c_stable _ _) (stables_cons (Sp.c_stable _ _) (stables_cons (Sp.c_stable _ _) (stables_cons (Sp.c_stable _ _) (stables_cons (Sp.c_stable _ _) (stables_cons (Sp.g_stable _ _ _) (stables_cons (Sp.g_stable _ _ _) (stables_cons (Sp.g_stable _ _ _) (stables_cons (Sp.c_stable _ _) (stables_cons (Sp.c_stable _ _) (stables_cons (Sp.c_stable _ _) (trivial)))))))))))))))))))) ?_ ?_
    · intro am wm L hbm hbase hbase2
      have s1 : am.tmps.getD 1 undef = .pointer (some ⟨w.heap.size, 0, none⟩) := (hbase 1 rfl).trans (by simp only [Array.getD_eq_getD_getElem?, List.getElem?_toArray, List.getElem?_cons_succ, List.getElem?_cons_zero, Option.getD_some])
      clear hbase hbase2
      have bm := HX2.out.on hbm
      have x0 := bm.c0
      have RA := HA2.out.later hbm
      refine steps_cons (fun hn hl => ?_) fun H0 => ?_
      · skip
        clear hn hl 
        refine stepC (wanted_free rfl) fun K hK => ?_
        exact wp_load_box (.tmp 1) rfl s1 bm (hK _ (Below.refl _ _))
      refine steps_cons (fun hn hl => ?_) fun H1 => ?_
      · skip
        have h18 := Sp.of_c (H0 (hn 0 (show 0 ∈ [0] from .head _)))
        clear hn hl H0
        refine stepC (wanted_free rfl) fun K hK => ?_
        go_simp
        first
          | ((with_reducible refine (HRT.out _ RA).mono ?_); rintro e w6 ⟨rfl, hb6⟩; exact hK _ hb6)
          | ((with_reducible refine (HRR.out _ RA).mono ?_); rintro e w6 ⟨rfl, hb6⟩; exact hK _ hb6)
          | ((with_reducible refine (HQ.out _).mono ?_); rintro e w6 ⟨rfl, rfl⟩; exact hK _ (Below.refl _ _))
      refine steps_cons (fun hn hl => ?_) fun H2 => ?_
      · skip
        clear hn hl H0 H1
        refine stepC (wanted_free rfl) fun K hK => ?_
        exact wp_load_box (.tmp 1) rfl s1 bm (hK _ (Below.refl _ _))
      refine steps_cons (fun hn hl => ?_) fun H3 => ?_
      · skip
        have h20 := Sp.of_c (H2 (hn 2 (show 2 ∈ [2] from .head _)))
        clear hn hl H0 H1 H2
        refine stepC (wanted_free rfl) fun K hK => ?_
        go_simp
        first
          | ((with_reducible refine (HRT.out _ RA).mono ?_); rintro e w6 ⟨rfl, hb6⟩; exact hK _ hb6)
          | ((with_reducible refine (HRR.out _ RA).mono ?_); rintro e w6 ⟨rfl, hb6⟩; exact hK _ hb6)
          | ((with_reducible refine (HQ.out _).mono ?_); rintro e w6 ⟨rfl, rfl⟩; exact hK _ (Below.refl _ _))
      refine steps_cons (fun hn hl => ?_) fun H4 => ?_
      · skip
        have h19 := Sp.of_c (H1 (hn 1 (show 1 ∈ [1, 3] from .head _)))
        have h21 := Sp.of_c (H3 (hn 3 (show 3 ∈ [1, 3] from .tail _ (.head _))))
        clear hn hl H0 H1 H2 H3
        refine stepC (wanted_free rfl) fun K hK => ?_
        go_simp
        exact hK _ (Below.refl _ _)
      refine steps_cons (fun hn hl => ?_) fun H5 => ?_
      · skip
        have h22 := Sp.of_c (H4 (hn 4 (show 4 ∈ [4] from .head _)))
        clear hn hl H0 H1 H2 H3 H4
        refine stepC (wanted_free rfl) fun K hK => ?_
        go_simp
        exact hK _ (Below.refl _ _)
      refine steps_cons (fun hn hl => ?_) fun H6 => ?_
      · skip
        have h23 := Sp.of_c (H5 (hn 5 (show 5 ∈ [5] from .head _)))
        clear hn hl H0 H1 H2 H3 H4 H5
        refine stepC (wanted_guard rfl rfl h23 rfl) fun K hK => ?_
        go_simp
        exact hK _ (Below.refl _ _)
      refine steps_cons (fun hn hl => ?_) fun H7 => ?_
      · skip
        have h24 := Sp.of_c (H6 (hn 6 (show 6 ∈ [6, 5] from .head _)))
        have h23 := Sp.of_c (H5 (hn 5 (show 5 ∈ [6, 5] from .tail _ (.head _))))
        clear hn hl H0 H1 H2 H3 H4 H5 H6
        refine stepC (wanted_guard rfl rfl h23 rfl) fun K hK => ?_
        go_simp
        exact hK _ (Below.refl _ _)
      refine steps_cons (fun hn hl => ?_) fun H8 => ?_
      · skip
        have h25 := Sp.of_c (H7 (hn 7 (show 7 ∈ [7, 5] from .head _)))
        have h23 := Sp.of_c (H5 (hn 5 (show 5 ∈ [7, 5] from .tail _ (.head _))))
        clear hn hl H0 H1 H2 H3 H4 H5 H6 H7
        refine stepC (wanted_guard rfl rfl h23 rfl) fun K hK => ?_
        go_simp
        first
          | ((with_reducible refine (HRT.out _ RA).mono ?_); rintro e w6 ⟨rfl, hb6⟩; exact hK _ hb6)
          | ((with_reducible refine (HRR.out _ RA).mono ?_); rintro e w6 ⟨rfl, hb6⟩; exact hK _ hb6)
          | ((with_reducible refine (HQ.out _).mono ?_); rintro e w6 ⟨rfl, rfl⟩; exact hK _ (Below.refl _ _))
      refine steps_cons (fun hn hl => ?_) fun H9 => ?_
      · skip
        have h23 := Sp.of_c (H5 (hn 5 (show 5 ∈ [5] from .head _)))
        clear hn hl H0 H1 H2 H3 H4 H5 H6 H7 H8
        refine stepC (wanted_guard rfl rfl h23 rfl) fun K hK => ?_
        go_simp
        exact hK _ (Below.refl _ _)
      refine steps_cons (fun hn hl => ?_) fun H10 => ?_
      · skip
        have h27 := Sp.of_c (H9 (hn 9 (show 9 ∈ [9, 5] from .head _)))
        have h23 := Sp.of_c (H5 (hn 5 (show 5 ∈ [9, 5] from .tail _ (.head _))))
        clear hn hl H0 H1 H2 H3 H4 H5 H6 H7 H8 H9
        refine stepC (wanted_guard rfl rfl h23 rfl) fun K hK => ?_
        go_simp
        exact hK _ (Below.refl _ _)
      refine steps_cons (fun hn hl => ?_) fun H11 => ?_
      · skip
        have h28 := Sp.of_c (H10 (hn 10 (show 10 ∈ [10, 5] from .head _)))
        have h23 := Sp.of_c (H5 (hn 5 (show 5 ∈ [10, 5] from .tail _ (.head _))))
        clear hn hl H0 H1 H2 H3 H4 H5 H6 H7 H8 H9 H10
        refine stepC (wanted_guard rfl rfl h23 rfl) fun K hK => ?_
        go_simp
        exact hK _ (Below.refl _ _)
      refine steps_cons (fun hn hl => ?_) fun H12 => ?_
      · skip
        have h29 := Sp.of_c (H11 (hn 11 (show 11 ∈ [11, 5] from .head _)))
        have h23 := Sp.of_c (H5 (hn 5 (show 5 ∈ [11, 5] from .tail _ (.head _))))
        clear hn hl H0 H1 H2 H3 H4 H5 H6 H7 H8 H9 H10 H11
        refine stepC (wanted_guard rfl rfl h23 rfl) fun K hK => ?_
        go_simp
        exact hK _ (Below.refl _ _)
      refine steps_cons (fun hn hl => ?_) fun H13 => ?_
      · skip
        have h30 := Sp.of_c (H12 (hn 12 (show 12 ∈ [12] from .head _)))
        clear hn hl H0 H1 H2 H3 H4 H5 H6 H7 H8 H9 H10 H11 H12
        refine stepC (wanted_guard rfl rfl h30 rfl) fun K hK => ?_
        go_simp
        exact hK _ (Below.refl _ _)
      refine steps_cons (fun hn hl => ?_) fun H14 => ?_
      · skip
        have h31 := Sp.of_g (H13 (hn 13 (show 13 ∈ [13, 12] from .head _))) rfl
        have h30 := Sp.of_c (H12 (hn 12 (show 12 ∈ [13, 12] from .tail _ (.head _))))
        clear hn hl H0 H1 H2 H3 H4 H5 H6 H7 H8 H9 H10 H11 H12 H13
        refine stepC (wanted_guard rfl rfl h30 rfl) fun K hK => ?_
        go_simp
        exact hK _ (Below.refl _ _)
      refine steps_cons (fun hn hl => ?_) fun H15 => ?_
      · skip
        have h32 := Sp.of_g (H14 (hn 14 (show 14 ∈ [14, 12] from .head _))) rfl
        have h30 := Sp.of_c (H12 (hn 12 (show 12 ∈ [14, 12] from .tail _ (.head _))))
        clear hn hl H0 H1 H2 H3 H4 H5 H6 H7 H8 H9 H10 H11 H12 H13 H14
        refine stepC (wanted_guard rfl rfl h30 rfl) fun K hK => ?_
        go_simp
        exact hK _ (Below.refl _ _)
      refine steps_cons (fun hn hl => ?_) fun H16 => ?_
      · skip
        have h30 := Sp.of_c (H12 (hn 12 (show 12 ∈ [12, 15, 5] from .head _)))
        have h33 := Sp.of_g (H15 (hn 15 (show 15 ∈ [12, 15, 5] from .tail _ (.head _)))) rfl
        have h23 := Sp.of_c (H5 (hn 5 (show 5 ∈ [12, 15, 5] from .tail _ (.tail _ (.head _)))))
        clear hn hl H0 H1 H2 H3 H4 H5 H6 H7 H8 H9 H10 H11 H12 H13 H14 H15
        refine stepC (wanted_guard rfl rfl h23 rfl) fun K hK => ?_
        go_simp
        exact hK _ (Below.refl _ _)
      refine steps_cons (fun hn hl => ?_) fun H17 => ?_
      · skip
        have h26 := Sp.of_c (H8 (hn 8 (show 8 ∈ [8, 16, 5] from .head _)))
        have h34 := Sp.of_c (H16 (hn 16 (show 16 ∈ [8, 16, 5] from .tail _ (.head _))))
        have h23 := Sp.of_c (H5 (hn 5 (show 5 ∈ [8, 16, 5] from .tail _ (.tail _ (.head _)))))
        clear hn hl H0 H1 H2 H3 H4 H5 H6 H7 H8 H9 H10 H11 H12 H13 H14 H15 H16
        refine stepC (wanted_guard rfl rfl h23 rfl) fun K hK => ?_
        go_simp
        exact hK _ (Below.refl _ _)
      refine steps_cons (fun hn hl => ?_) fun H18 => ?_
      · skip
        have h23 := Sp.of_c (H5 (hn 5 (show 5 ∈ [5, 17] from .head _)))
        have h35 := Sp.of_c (H17 (hn 17 (show 17 ∈ [5, 17] from .tail _ (.head _))))
        clear hn hl H0 H1 H2 H3 H4 H5 H6 H7 H8 H9 H10 H11 H12 H13 H14 H15 H16 H17
        refine stepC (wanted_free rfl) fun K hK => ?_
        go_simp
        exact hK _ (Below.refl _ _)
      exact trivial
    · intro w3 hb3
      have hz3 := hb3.size
      refine end_cons ?_; rintro _ rfl
      refine end_cons ?_; rintro _ rfl
      refine end_cons ?_; rintro _ rfl
      refine end_cons ?_; rintro _ rfl
      refine end_cons ?_; rintro _ rfl
      refine end_cons ?_; rintro _ rfl
      refine end_cons ?_; rintro _ rfl
      refine end_cons ?_; rintro _ rfl
      refine end_cons ?_; rintro _ rfl
      refine end_cons ?_; rintro _ rfl
      refine end_cons ?_; rintro _ rfl
      refine end_cons ?_; rintro _ rfl
      refine end_cons ?_; rintro _ rfl
      refine end_cons ?_; rintro _ rfl
      refine end_cons ?_; rintro _ rfl
      refine end_cons ?_; rintro _ rfl
      refine end_cons ?_; rintro _ rfl
      refine end_cons ?_; rintro _ rfl
      refine end_cons ?_; rintro _ rfl
      refine end_nil ?_
      simp only [List.setIfInBounds_toArray, List.set_cons_succ, List.set_cons_zero, Bool.not_false, Bool.not_true, Bool.true_or, Bool.or_true, Bool.false_or, Bool.or_false]
      have HX3 := Lib.hid (HX2.out.on hb3)
      have HA3 := Lib.hid (HA2.out.later hb3)
      have HR3 := Lib.hid (HR2.out.later hb3)
      have hW3 : Below w.heap.size w w3 := hW2.trans (hb3.mono hW2.size)
      clear HX2 HA2 HR2 hb3
      go_wp2_with (with_reducible refine wpList_load_q (q := q) rfl (.tmp 1) rfl rfl HX3.out ?_)
      refine (HRR.out w3 HA3.out).mono ?_; rintro e w4 ⟨rfl, hb4⟩
      have HX4 := Lib.hid (HX3.out.on hb4)
      have HA4 := Lib.hid (HA3.out.later hb4)
      have HR4 := Lib.hid (HR3.out.later hb4)
      have hW4 : Below w.heap.size w w4 := hW3.trans (hb4.mono hW3.size)
      clear HX3 HA3 HR3 hb4
      have KR := askRead A2 c2 (writeQ q) (by omega) HN2.out w4 HR4.out
      go_wp2_with fail
      refine KR.mono ?_; rintro e w5 ⟨aa, ac, rfl, hrow5, hb5⟩
      clear KR
      have HS5 := Lib.hid (read_same hr aa ac)
      have HE5 : Hid (readE (writeQ q) = 0) := Lib.hid (read_write hr).none
      rw [HE5.out]
      have HRW := Lib.hid (fun w' h => refWrite q hr w' h)
      have HSM := Lib.hid (fun back (h : sameQ back q = true) (h2 : back.af.length ≤ 1000) w' h3 h4 => (refSame back q h2 w' h3 h4))
      have HX5 := Lib.hid (HX4.out.on hb5)
      have HA5 := Lib.hid (HA4.out.later hb5)
      have HR5 := Lib.hid (HR4.out.later hb5)
      have HB5 := Lib.hid hrow5
      have hW5 : Below w.heap.size w w5 := hW4.trans (hb5.mono hW4.size)
      clear HX4 HA4 HR4 hb5 hrow5
      generalize readQ (writeQ q) aa ac = back at HS5 HB5 ⊢
      go_wp2_with (first
        | ((with_reducible refine wpList_store_row rfl 26 (.tmp 5) (.tmp 50) rfl w5.heap.size _ rfl rfl 26 #[.int .i64 0, .int .i64 0, .int .i64 0, .int .i64 0, .int .i64 0, .int .i64 0, .int .i64 0, .int .i64 0, .int .i64 0, .int .i64 0, .int .i64 0, .int .i64 0, .slice none 0 0, .int .i64 0, .int .i64 0, .int .i64 0, .int .i64 0] (by repeat (first | (refine heap_top (by first | omega | (simp only [World.size_alloc]; done) | (simp only [World.size_alloc]; omega))) | refine heap_up ?_)) (by kernel_rfl) (by simp) (by simp [Value.oneCell']) ?_)
           generalize hw6 : World.setRow _ _ _ = w6
           have hb6 : Below w5.heap.size w5 w6 := by rw [← hw6]; exact below_setRow ((by repeat' (first | exact Below.refl _ _ | assumption | exact And.left (by assumption) | refine Below.drew ?_ | refine below_drewN ?_ _ | refine Below.setCell ?_ (by first | (simp; done) | (simp; omega) | omega) _ | refine Below.alloc ?_ (by first | (simp; done) | (simp; omega) | omega) _ | refine after (by assumption) (by first | (simp; done) | (simp; omega) | omega) ?_))) (Nat.le_refl _) _
           have HK6 : Hid (BoxQ w6 w5.heap.size back) := Lib.hid ⟨by rw [← hw6]; exact setRow_heap _ _ _ _ _ _ (by repeat (first | (refine heap_top (by first | omega | (simp only [World.size_alloc]; done) | (simp only [World.size_alloc]; omega))) | refine heap_up ?_))⟩
           have HX6 := Lib.hid (HX5.out.on hb6)
           clear hw6)
        | refine wpList_load_q_g (q := q) (.tmp 1) rfl rfl HX6.out rfl ?_)
      have HA6 := Lib.hid (HA5.out.later hb6)
      have HR6 := Lib.hid (HR5.out.later hb6)
      have HB6 := Lib.hid (HB5.out.later hb6)
      have hW6 : Below w.heap.size w w6 := hW5.trans (hb6.mono hW5.size)
      clear HX5 HA5 HR5 HB5 hb6
      refine (HRW.out w6 HA6.out).mono ?_; rintro e w7 ⟨v7, rfl, hown7, hb7⟩
      obtain ⟨A7, c7, rfl, _, hrow7, _⟩ := RowT.of hown7
      have HX7 := Lib.hid (HX6.out.on hb7)
      have HK7 := Lib.hid (HK6.out.on hb7)
      have HA7 := Lib.hid (HA6.out.later hb7)
      have HR7 := Lib.hid (HR6.out.later hb7)
      have HB7 := Lib.hid (HB6.out.later hb7)
      have hW7 : Below w.heap.size w w7 := hW6.trans (hb7.mono hW6.size)
      have KB := same A2 A7 c2 c7 (writeQ q) (by omega) w7 HR7.out hrow7.row
      clear HX6 HK6 HA6 HR6 HB6 hb7 hown7 hrow7
      go_wp2_with fail
      refine KB.mono ?_; rintro e w8 ⟨rfl, hb8⟩
      clear KB
      have HX8 := Lib.hid (HX7.out.on hb8)
      have HK8 := Lib.hid (HK7.out.on hb8)
      have hW8 : Below w.heap.size w w8 := hW7.trans (hb8.mono hW7.size)
      have KS := HSM.out back HS5.out.1 HS5.out.2 w8 (HB7.out.later hb8) (HA7.out.later hb8)
      rw [HS5.out.1] at KS
      clear HX7 HK7 HA7 HR7 HB7 hb8
      have e1 : (1 : Int) ≤ ((writeQ q).length : Int) := by omega
      have e2 : ((writeQ q).length : Int) ≤ 240 := by omega
      go_wp2_with (first
        | refine wpList_load_q_g (q := back) (.tmp 5) rfl rfl HK8.out rfl ?_
        | refine wpList_load_q_g (q := q) (.tmp 1) rfl rfl HX8.out rfl ?_)
      refine KS.mono ?_; rintro e w9 ⟨rfl, hb9⟩
      go_wp2
      go_ret
      exact ⟨rfl, hW8.trans (hb9.mono hW8.size)⟩
  · have ert : rt = false := HRV.out.symm.trans hra
    subst ert
    clear hra
    go_wp2_with fail
    refine region_mono (awSp w q false true false false) [18, 19, 20, 21, 22, 23, 24, 25, 26, 27, 28, 29, 30, 31, 32, 33, 34, 35, 36] (by kernel_rfl) (by kernel_rfl) (by kernel_rfl) (by kernel_rfl) (stables_cons (Sp.c_stable _ _) (stables_cons (Sp.c_stable _ _) (stables_cons (Sp.c_stable _ _) (stables_cons (Sp.c_stable _ _) (stables_cons (Sp.c_stable _ _) (stables_cons (Sp.c_stable _ _) (stables_cons (Sp.c_stable _ _) (stables_cons (Sp.c_stable _ _) (stables_cons (Sp.c_stable _ _) (stables_cons (Sp.c_stable _ _) (stables_cons (Sp.c_stable _ _) (stables_cons (Sp.c_stable _ _) (stables_cons (Sp.c_stable _ _) (stables_cons (Sp.g_stable _ _ _) (stables_cons (Sp.g_stable _ _ _) (stables_cons (Sp.g_stable _ _ _) (stables_cons (Sp.c_stable _ _) (stables_cons (Sp.c_stable _ _) (stables_cons (Sp.c_stable _ _) (trivial)))))))))))))))))))) ?_ ?_
    · intro am wm L hbm hbase hbase2
      have s1 : am.tmps.getD 1 undef = .pointer (some ⟨w.heap.size, 0, none⟩) := (hbase 1 rfl).trans (by simp only [Array.getD_eq_getD_getElem?, List.getElem?_toArray, List.getElem?_cons_succ, List.getElem?_cons_zero, Option.getD_some])
      clear hbase hbase2
      have bm := HX2.out.on hbm
      have x0 := bm.c0
      have RA := HA2.out.later hbm
      refine steps_cons (fun hn hl => ?_) fun H0 => ?_
      · skip
        clear hn hl 
        refine stepC (wanted_free rfl) fun K hK => ?_
        exact wp_load_box (.tmp 1) rfl s1 bm (hK _ (Below.refl _ _))
      refine steps_cons (fun hn hl => ?_) fun H1 => ?_
      · skip
        have h18 := Sp.of_c (H0 (hn 0 (show 0 ∈ [0] from .head _)))
        clear hn hl H0
        refine stepC (wanted_free rfl) fun K hK => ?_
        go_simp
        first
          | ((with_reducible refine (HRT.out _ RA).mono ?_); rintro e w6 ⟨rfl, hb6⟩; exact hK _ hb6)
          | ((with_reducible refine (HRR.out _ RA).mono ?_); rintro e w6 ⟨rfl, hb6⟩; exact hK _ hb6)
          | ((with_reducible refine (HQ.out _).mono ?_); rintro e w6 ⟨rfl, rfl⟩; exact hK _ (Below.refl _ _))
      refine steps_cons (fun hn hl => ?_) fun H2 => ?_
      · skip
        clear hn hl H0 H1
        refine stepC (wanted_free rfl) fun K hK => ?_
        exact wp_load_box (.tmp 1) rfl s1 bm (hK _ (Below.refl _ _))
      refine steps_cons (fun hn hl => ?_) fun H3 => ?_
      · skip
        have h20 := Sp.of_c (H2 (hn 2 (show 2 ∈ [2] from .head _)))
        clear hn hl H0 H1 H2
        refine stepC (wanted_free rfl) fun K hK => ?_
        go_simp
        first
          | ((with_reducible refine (HRT.out _ RA).mono ?_); rintro e w6 ⟨rfl, hb6⟩; exact hK _ hb6)
          | ((with_reducible refine (HRR.out _ RA).mono ?_); rintro e w6 ⟨rfl, hb6⟩; exact hK _ hb6)
          | ((with_reducible refine (HQ.out _).mono ?_); rintro e w6 ⟨rfl, rfl⟩; exact hK _ (Below.refl _ _))
      refine steps_cons (fun hn hl => ?_) fun H4 => ?_
      · skip
        have h19 := Sp.of_c (H1 (hn 1 (show 1 ∈ [1, 3] from .head _)))
        have h21 := Sp.of_c (H3 (hn 3 (show 3 ∈ [1, 3] from .tail _ (.head _))))
        clear hn hl H0 H1 H2 H3
        refine stepC (wanted_free rfl) fun K hK => ?_
        go_simp
        exact hK _ (Below.refl _ _)
      refine steps_cons (fun hn hl => ?_) fun H5 => ?_
      · skip
        have h22 := Sp.of_c (H4 (hn 4 (show 4 ∈ [4] from .head _)))
        clear hn hl H0 H1 H2 H3 H4
        refine stepC (wanted_free rfl) fun K hK => ?_
        go_simp
        exact hK _ (Below.refl _ _)
      refine steps_cons (fun hn hl => ?_) fun H6 => ?_
      · skip
        have h23 := Sp.of_c (H5 (hn 5 (show 5 ∈ [5] from .head _)))
        clear hn hl H0 H1 H2 H3 H4 H5
        refine stepC (wanted_guard rfl rfl h23 rfl) fun K hK => ?_
        go_simp
        exact hK _ (Below.refl _ _)
      refine steps_cons (fun hn hl => ?_) fun H7 => ?_
      · skip
        have h24 := Sp.of_c (H6 (hn 6 (show 6 ∈ [6, 5] from .head _)))
        have h23 := Sp.of_c (H5 (hn 5 (show 5 ∈ [6, 5] from .tail _ (.head _))))
        clear hn hl H0 H1 H2 H3 H4 H5 H6
        refine stepC (wanted_guard rfl rfl h23 rfl) fun K hK => ?_
        go_simp
        exact hK _ (Below.refl _ _)
      refine steps_cons (fun hn hl => ?_) fun H8 => ?_
      · skip
        have h25 := Sp.of_c (H7 (hn 7 (show 7 ∈ [7, 5] from .head _)))
        have h23 := Sp.of_c (H5 (hn 5 (show 5 ∈ [7, 5] from .tail _ (.head _))))
        clear hn hl H0 H1 H2 H3 H4 H5 H6 H7
        refine stepC (wanted_guard rfl rfl h23 rfl) fun K hK => ?_
        go_simp
        first
          | ((with_reducible refine (HRT.out _ RA).mono ?_); rintro e w6 ⟨rfl, hb6⟩; exact hK _ hb6)
          | ((with_reducible refine (HRR.out _ RA).mono ?_); rintro e w6 ⟨rfl, hb6⟩; exact hK _ hb6)
          | ((with_reducible refine (HQ.out _).mono ?_); rintro e w6 ⟨rfl, rfl⟩; exact hK _ (Below.refl _ _))
      refine steps_cons (fun hn hl => ?_) fun H9 => ?_
      · skip
        have h23 := Sp.of_c (H5 (hn 5 (show 5 ∈ [5] from .head _)))
        clear hn hl H0 H1 H2 H3 H4 H5 H6 H7 H8
        refine stepC (wanted_guard rfl rfl h23 rfl) fun K hK => ?_
        go_simp
        exact hK _ (Below.refl _ _)
      refine steps_cons (fun hn hl => ?_) fun H10 => ?_
      · skip
        have h27 := Sp.of_c (H9 (hn 9 (show 9 ∈ [9, 5] from .head _)))
        have h23 := Sp.of_c (H5 (hn 5 (show 5 ∈ [9, 5] from .tail _ (.head _))))
        clear hn hl H0 H1 H2 H3 H4 H5 H6 H7 H8 H9
        refine stepC (wanted_guard rfl rfl h23 rfl) fun K hK => ?_
        go_simp
        exact hK _ (Below.refl _ _)
      refine steps_cons (fun hn hl => ?_) fun H11 => ?_
      · skip
        have h28 := Sp.of_c (H10 (hn 10 (show 10 ∈ [10, 5] from .head _)))
        have h23 := Sp.of_c (H5 (hn 5 (show 5 ∈ [10, 5] from .tail _ (.head _))))
        clear hn hl H0 H1 H2 H3 H4 H5 H6 H7 H8 H9 H10
        refine stepC (wanted_guard rfl rfl h23 rfl) fun K hK => ?_
        go_simp
        exact hK _ (Below.refl _ _)
      refine steps_cons (fun hn hl => ?_) fun H12 => ?_
      · skip
        have h29 := Sp.of_c (H11 (hn 11 (show 11 ∈ [11, 5] from .head _)))
        have h23 := Sp.of_c (H5 (hn 5 (show 5 ∈ [11, 5] from .tail _ (.head _))))
        clear hn hl H0 H1 H2 H3 H4 H5 H6 H7 H8 H9 H10 H11
        refine stepC (wanted_guard rfl rfl h23 rfl) fun K hK => ?_
        go_simp
        exact hK _ (Below.refl _ _)
      refine steps_cons (fun hn hl => ?_) fun H13 => ?_
      · skip
        have h30 := Sp.of_c (H12 (hn 12 (show 12 ∈ [12] from .head _)))
        clear hn hl H0 H1 H2 H3 H4 H5 H6 H7 H8 H9 H10 H11 H12
        refine stepC (wanted_guard rfl rfl h30 rfl) fun K hK => ?_
        go_simp
        exact hK _ (Below.refl _ _)
      refine steps_cons (fun hn hl => ?_) fun H14 => ?_
      · skip
        have h31 := Sp.of_g (H13 (hn 13 (show 13 ∈ [13, 12] from .head _))) rfl
        have h30 := Sp.of_c (H12 (hn 12 (show 12 ∈ [13, 12] from .tail _ (.head _))))
        clear hn hl H0 H1 H2 H3 H4 H5 H6 H7 H8 H9 H10 H11 H12 H13
        refine stepC (wanted_guard rfl rfl h30 rfl) fun K hK => ?_
        go_simp
        exact hK _ (Below.refl _ _)
      refine steps_cons (fun hn hl => ?_) fun H15 => ?_
      · skip
        have h32 := Sp.of_g (H14 (hn 14 (show 14 ∈ [14, 12] from .head _))) rfl
        have h30 := Sp.of_c (H12 (hn 12 (show 12 ∈ [14, 12] from .tail _ (.head _))))
        clear hn hl H0 H1 H2 H3 H4 H5 H6 H7 H8 H9 H10 H11 H12 H13 H14
        refine stepC (wanted_guard rfl rfl h30 rfl) fun K hK => ?_
        go_simp
        exact hK _ (Below.refl _ _)
      refine steps_cons (fun hn hl => ?_) fun H16 => ?_
      · skip
        have h30 := Sp.of_c (H12 (hn 12 (show 12 ∈ [12, 15, 5] from .head _)))
        have h33 := Sp.of_g (H15 (hn 15 (show 15 ∈ [12, 15, 5] from .tail _ (.head _)))) rfl
        have h23 := Sp.of_c (H5 (hn 5 (show 5 ∈ [12, 15, 5] from .tail _ (.tail _ (.head _)))))
        clear hn hl H0 H1 H2 H3 H4 H5 H6 H7 H8 H9 H10 H11 H12 H13 H14 H15
        refine stepC (wanted_guard rfl rfl h23 rfl) fun K hK => ?_
        go_simp
        exact hK _ (Below.refl _ _)
      refine steps_cons (fun hn hl => ?_) fun H17 => ?_
      · skip
        have h26 := Sp.of_c (H8 (hn 8 (show 8 ∈ [8, 16, 5] from .head _)))
        have h34 := Sp.of_c (H16 (hn 16 (show 16 ∈ [8, 16, 5] from .tail _ (.head _))))
        have h23 := Sp.of_c (H5 (hn 5 (show 5 ∈ [8, 16, 5] from .tail _ (.tail _ (.head _)))))
        clear hn hl H0 H1 H2 H3 H4 H5 H6 H7 H8 H9 H10 H11 H12 H13 H14 H15 H16
        refine stepC (wanted_guard rfl rfl h23 rfl) fun K hK => ?_
        go_simp
        exact hK _ (Below.refl _ _)
      refine steps_cons (fun hn hl => ?_) fun H18 => ?_
      · skip
        have h23 := Sp.of_c (H5 (hn 5 (show 5 ∈ [5, 17] from .head _)))
        have h35 := Sp.of_c (H17 (hn 17 (show 17 ∈ [5, 17] from .tail _ (.head _))))
        clear hn hl H0 H1 H2 H3 H4 H5 H6 H7 H8 H9 H10 H11 H12 H13 H14 H15 H16 H17
        refine stepC (wanted_free rfl) fun K hK => ?_
        go_simp
        exact hK _ (Below.refl _ _)
      exact trivial
    · intro w3 hb3
      have hz3 := hb3.size
      refine end_cons ?_; rintro _ rfl
      refine end_cons ?_; rintro _ rfl
      refine end_cons ?_; rintro _ rfl
      refine end_cons ?_; rintro _ rfl
      refine end_cons ?_; rintro _ rfl
      refine end_cons ?_; rintro _ rfl
      refine end_cons ?_; rintro _ rfl
      refine end_cons ?_; rintro _ rfl
      refine end_cons ?_; rintro _ rfl
      refine end_cons ?_; rintro _ rfl
      refine end_cons ?_; rintro _ rfl
      refine end_cons ?_; rintro _ rfl
      refine end_cons ?_; rintro _ rfl
      refine end_cons ?_; rintro _ rfl
      refine end_cons ?_; rintro _ rfl
      refine end_cons ?_; rintro _ rfl
      refine end_cons ?_; rintro _ rfl
      refine end_cons ?_; rintro _ rfl
      refine end_cons ?_; rintro _ rfl
      refine end_nil ?_
      simp only [List.setIfInBounds_toArray, List.set_cons_succ, List.set_cons_zero, Bool.not_false, Bool.not_true, Bool.true_or, Bool.or_true, Bool.false_or, Bool.or_false]
      have HX3 := Lib.hid (HX2.out.on hb3)
      have HA3 := Lib.hid (HA2.out.later hb3)
      have hW3 : Below w.heap.size w w3 := hW2.trans (hb3.mono hW2.size)
      clear HX2 HA2 hb3
      go_wp2_with (with_reducible refine wpList_load_q (q := q) rfl (.tmp 1) rfl rfl HX3.out ?_)
      refine (HRR.out w3 HA3.out).mono ?_; rintro e w4 ⟨rfl, hb4⟩
      go_wp2
      go_ret
      exact ⟨rfl, hW3.trans (hb4.mono hW3.size)⟩
theorem askWrites_walk (v0 : Value) (w : World) (F0 : FReq w v0) :
    Calls Try.prog 3 #[v0] w fun e w' => e = .returned (.bool true) ∧ Below w.heap.size w w' := by
  obtain ⟨q, rfl, hl, ha⟩ := F0
  by_cases h : 50 < q.af.length
  · exact askWrites_many q w h
  · by_cases h8 : 8 ≤ q.kind
    · by_cases h10 : q.kind ≤ 10
      · exact aw_in q hl (by omega) w ha _ rfl h8 h10
      · exact aw_high q hl (by omega) w ha _ rfl h8 h10
    · exact aw_low q hl (by omega) w ha _ rfl h8
end Go.Proofs.Ytkeboafejebanaa.W
