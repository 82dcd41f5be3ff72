/-
  Contract of the document's own 'of': a request with these numbers.
-/
import Derived.Test.YtkeboafejebanaaRefAsk
import Derived.Test.YtkeboafejebanaaMonoT
namespace Go.Proofs.Ytkeboafejebanaa.W
set_option linter.unusedVariables false
set_option linter.unusedSimpArgs false
open Go.ChangeShapes Go.WideShapes Go.ChangeAt Go.RowKit

def ofSp (b off c : Nat) (q : Rq) (B : Nat) : List Sp :=
  [Sp.c (.int .i64 q.kind) [],
   Sp.c (.int .i64 q.key) [],
   Sp.c (.slice (some ⟨b, off, none⟩) 15 c) [],
   Sp.c (.pointer (some ⟨b, off + 1, none⟩)) [2],
   Sp.c (.int .i64 (q.n 1)) [3],
   Sp.c (.slice (some ⟨b, off, none⟩) 15 c) [],
   Sp.c (.pointer (some ⟨b, off + 2, none⟩)) [5],
   Sp.c (.int .i64 (q.n 2)) [6],
   Sp.c (.slice (some ⟨b, off, none⟩) 15 c) [],
   Sp.c (.pointer (some ⟨b, off + 3, none⟩)) [8],
   Sp.c (.int .i64 (q.n 3)) [9],
   Sp.c (.slice (some ⟨b, off, none⟩) 15 c) [],
   Sp.c (.pointer (some ⟨b, off + 4, none⟩)) [11],
   Sp.c (.int .i64 (q.n 4)) [12],
   Sp.c (.slice (some ⟨b, off, none⟩) 15 c) [],
   Sp.c (.pointer (some ⟨b, off + 9, none⟩)) [14],
   Sp.c (.int .i64 (q.n 9)) [15],
   Sp.c (.slice (some ⟨b, off, none⟩) 15 c) [],
   Sp.c (.pointer (some ⟨b, off + 10, none⟩)) [17],
   Sp.c (.int .i64 (q.n 10)) [18],
   Sp.c (.slice (some ⟨b, off, none⟩) 15 c) [],
   Sp.c (.pointer (some ⟨b, off + 11, none⟩)) [20],
   Sp.c (.int .i64 (q.n 11)) [21],
   Sp.c (.slice (some ⟨b, off, none⟩) 15 c) [],
   Sp.c (.pointer (some ⟨b, off + 12, none⟩)) [23],
   Sp.c (.int .i64 (q.n 12)) [24],
   Sp.c (.slice (some ⟨b, off, none⟩) 15 c) [],
   Sp.c (.pointer (some ⟨b, off + 13, none⟩)) [26],
   Sp.c (.int .i64 (q.n 13)) [27],
   Sp.c (.slice (some ⟨b, off, none⟩) 15 c) [],
   Sp.c (.pointer (some ⟨b, off + 14, none⟩)) [29],
   Sp.c (.int .i64 (q.n 14)) [30],
   Sp.c (.agg #[.int .i64 q.kind, .int .i64 q.key, .int .i64 (q.n 1), .int .i64 (q.n 2), .int .i64 (q.n 3), .int .i64 (q.n 4), .int .i64 0, .int .i64 0, .int .i64 0, .int .i64 0, .int .i64 (q.n 9), .int .i64 (q.n 10), .slice none 0 0, .int .i64 (q.n 11), .int .i64 (q.n 12), .int .i64 (q.n 13), .int .i64 (q.n 14)]) [0, 1, 4, 7, 10, 13, 16, 19, 22, 25, 28, 31],
   Sp.m true (fun v w => ∃ g, v = .pointer (some ⟨g, 0, none⟩) ∧ B ≤ g ∧ Row w g 26 #[.int .i64 0, .int .i64 0, .int .i64 0, .int .i64 0, .int .i64 0, .int .i64 0, .int .i64 0, .int .i64 0, .int .i64 0, .int .i64 0, .int .i64 0, .int .i64 0, .slice none 0 0, .int .i64 0, .int .i64 0, .int .i64 0, .int .i64 0]) []]
def of2Sp (b off c : Nat) (q : Rq) (g : Nat) : List Sp :=
  [Sp.c (.slice (some ⟨b, off, none⟩) 15 c) [],
   Sp.c (.pointer (some ⟨b, off + 5, none⟩)) [0],
   Sp.c (.int .i64 (q.n 5)) [1],
   Sp.c (.slice (some ⟨b, off, none⟩) 15 c) [],
   Sp.c (.pointer (some ⟨b, off + 6, none⟩)) [3],
   Sp.c (.int .i64 (q.n 6)) [4],
   Sp.c (.slice (some ⟨b, off, none⟩) 15 c) [],
   Sp.c (.pointer (some ⟨b, off + 7, none⟩)) [6],
   Sp.c (.int .i64 (q.n 7)) [7],
   Sp.c (.slice (some ⟨b, off, none⟩) 15 c) [],
   Sp.c (.pointer (some ⟨b, off + 8, none⟩)) [9],
   Sp.c (.int .i64 (q.n 8)) [10],
   Sp.c (.agg #[.int .i64 (q.n 5), .int .i64 (q.n 6), .int .i64 (q.n 7), .int .i64 (q.n 8)]) [2, 5, 8, 11],
   Sp.c (.pointer (some ⟨g, 6, none⟩)) []]
set_option maxRecDepth 100000 in
set_option maxHeartbeats 4000000 in
theorem rof (q : Rq) (b off c : Nat) (w : World) (hb : b < w.heap.size) (haa : q.aa = none) (hac : q.ac = 0) (haf : q.af = []) (hc : ∀ i, 1 ≤ i → i ≤ 14 → w.cell? ⟨b, off + i, none⟩ = some (.int .i64 (q.n i))) :
    Calls Try.prog 35 #[.int .i64 q.kind, .int .i64 q.key, .slice (some ⟨b, off, none⟩) 15 c] w fun e w' => e = .returned (.agg #[.int .i64 q.kind, .int .i64 q.key, .int .i64 (q.n 1), .int .i64 (q.n 2), .int .i64 (q.n 3), .int .i64 (q.n 4), .int .i64 (q.n 5), .int .i64 (q.n 6), .int .i64 (q.n 7), .int .i64 (q.n 8), .int .i64 (q.n 9), .int .i64 (q.n 10), .slice q.aa q.af.length q.ac, .int .i64 (q.n 11), .int .i64 (q.n 12), .int .i64 (q.n 13), .int .i64 (q.n 14)]) ∧ Below w.heap.size w w' := by
  have HQ : Hid (Value.slice q.aa q.af.length q.ac = Value.slice none 0 0) := Lib.hid (by rw [haa, hac, haf]; rfl)
  clear haa hac haf
  go_enter Try.func35, Try.ntmps35
  go_wp2_with fail
  have HR0 : Row (w.alloc (.cells #[.int .i64 0, .int .i64 0, .int .i64 0, .int .i64 0, .int .i64 0, .int .i64 0, .int .i64 0, .int .i64 0, .int .i64 0, .int .i64 0, .int .i64 0, .int .i64 0, .slice none 0 0, .int .i64 0, .int .i64 0, .int .i64 0, .int .i64 0] 26)) w.heap.size 26 #[.int .i64 0, .int .i64 0, .int .i64 0, .int .i64 0, .int .i64 0, .int .i64 0, .int .i64 0, .int .i64 0, .int .i64 0, .int .i64 0, .int .i64 0, .int .i64 0, .slice none 0 0, .int .i64 0, .int .i64 0, .int .i64 0, .int .i64 0] := Row.new rfl _ _
  generalize hw0 : World.alloc w _ = w0 at HR0 ⊢
  have hb0 : Below w.heap.size w w0 := by rw [← hw0]; exact (by repeat' (first | exact Below.refl _ _ | assumption | exact And.left (by assumption) | refine Below.drew ?_ | refine below_drewN ?_ _ | refine Below.setCell ?_ (by first | (simp; done) | (simp; omega) | omega) _ | refine Below.alloc ?_ (by first | (simp; done) | (simp; omega) | omega) _ | refine after (by assumption) (by first | (simp; done) | (simp; omega) | omega) ?_))
  have c1 := carry hb0 (hc 1 (by omega) (by omega))
  have c2 := carry hb0 (hc 2 (by omega) (by omega))
  have c3 := carry hb0 (hc 3 (by omega) (by omega))
  have c4 := carry hb0 (hc 4 (by omega) (by omega))
  have c5 := carry hb0 (hc 5 (by omega) (by omega))
  have c6 := carry hb0 (hc 6 (by omega) (by omega))
  have c7 := carry hb0 (hc 7 (by omega) (by omega))
  have c8 := carry hb0 (hc 8 (by omega) (by omega))
  have c9 := carry hb0 (hc 9 (by omega) (by omega))
  have c10 := carry hb0 (hc 10 (by omega) (by omega))
  have c11 := carry hb0 (hc 11 (by omega) (by omega))
  have c12 := carry hb0 (hc 12 (by omega) (by omega))
  have c13 := carry hb0 (hc 13 (by omega) (by omega))
  have c14 := carry hb0 (hc 14 (by omega) (by omega))
  have hz0 := HR0.lt
  have HR0 := Lib.hid HR0
  clear hc hw0
  refine region_mono_tail 34 (ofSp b off c q w0.heap.size) [8, 9, 10, 11, 12, 13, 14, 15, 16, 17, 18, 19, 20, 21, 22, 23, 24, 25, 26, 27, 28, 29, 30, 31, 32, 33, 34, 35, 36, 37, 38, 39, 40, 7] (by kernel_rfl) (by kernel_rfl) (by kernel_rfl) (by kernel_rfl) (by kernel_rfl) (stables_cons (Sp.c_stable _ _) (stables_cons (Sp.c_stable _ _) (stables_cons (Sp.c_stable _ _) (stables_cons (Sp.c_stable _ _) (stables_cons (Sp.c_stable _ _) (stables_cons (Sp.c_stable _ _) (stables_cons (Sp.c_stable _ _) (stables_cons (Sp.c_stable _ _) (stables_cons (Sp.c_stable _ _) (stables_cons (Sp.c_stable _ _) (stables_cons (Sp.c_stable _ _) (stables_cons (Sp.c_stable _ _) (stables_cons (Sp.c_stable _ _) (stables_cons (Sp.c_stable _ _) (stables_cons (Sp.c_stable _ _) (stables_cons (Sp.c_stable _ _) (stables_cons (Sp.c_stable _ _) (stables_cons (Sp.c_stable _ _) (stables_cons (Sp.c_stable _ _) (stables_cons (Sp.c_stable _ _) (stables_cons (Sp.c_stable _ _) (stables_cons (Sp.c_stable _ _) (stables_cons (Sp.c_stable _ _) (stables_cons (Sp.c_stable _ _) (stables_cons (Sp.c_stable _ _) (stables_cons (Sp.c_stable _ _) (stables_cons (Sp.c_stable _ _) (stables_cons (Sp.c_stable _ _) (stables_cons (Sp.c_stable _ _) (stables_cons (Sp.c_stable _ _) (stables_cons (Sp.c_stable _ _) (stables_cons (Sp.c_stable _ _) (stables_cons (Sp.c_stable _ _) (stables_cons (Sp.m_stable _ _ _ (fun _ _ _ ⟨g, e, hg, hr⟩ hb => ⟨g, e, hg, hr.on hb⟩)) (trivial))))))))))))))))))))))))))))))))))) ?_ ?_
  · intro am wm L hbm hbase hbase2
    have s0 : am.tmps.getD 0 undef = .int .i64 q.kind := (hbase 0 rfl).trans (by simp only [Array.getD_eq_getD_getElem?, List.getElem?_toArray, List.getElem?_cons_succ, List.getElem?_cons_zero, Option.getD_some])
    have s1 : am.tmps.getD 1 undef = .int .i64 q.key := (hbase 1 rfl).trans (by simp only [Array.getD_eq_getD_getElem?, List.getElem?_toArray, List.getElem?_cons_succ, List.getElem?_cons_zero, Option.getD_some])
    have s2 : am.tmps.getD 2 undef = .slice (some ⟨b, off, none⟩) 15 c := (hbase 2 rfl).trans (by simp only [Array.getD_eq_getD_getElem?, List.getElem?_toArray, List.getElem?_cons_succ, List.getElem?_cons_zero, Option.getD_some])
    clear hbase hbase2
    have l1 := carry hbm c1
    have l2 := carry hbm c2
    have l3 := carry hbm c3
    have l4 := carry hbm c4
    have l9 := carry hbm c9
    have l10 := carry hbm c10
    have l11 := carry hbm c11
    have l12 := carry hbm c12
    have l13 := carry hbm c13
    have l14 := carry hbm c14
    refine steps_cons (fun hn hl => ?_) fun H0 => ?_
    · skip
      clear hn hl 
      refine stepC (wanted_free rfl) fun K hK => ?_
      go_simp
      exact hK _ (Below.refl _ _)
    refine steps_cons (fun hn hl => ?_) fun H1 => ?_
    · skip
      clear hn hl H0
      refine stepC (wanted_free rfl) fun K hK => ?_
      go_simp
      exact hK _ (Below.refl _ _)
    refine steps_cons (fun hn hl => ?_) fun H2 => ?_
    · skip
      clear hn hl H0 H1
      refine stepC (wanted_free rfl) fun K hK => ?_
      go_simp
      exact hK _ (Below.refl _ _)
    refine steps_cons (fun hn hl => ?_) fun H3 => ?_
    · skip
      have h10 := Sp.of_c (H2 (hn 2 (show 2 ∈ [2] from .head _)))
      clear hn hl H0 H1 H2
      refine stepC (wanted_free rfl) fun K hK => ?_
      go_simp
      exact hK _ (Below.refl _ _)
    refine steps_cons (fun hn hl => ?_) fun H4 => ?_
    · skip
      have h11 := Sp.of_c (H3 (hn 3 (show 3 ∈ [3] from .head _)))
      clear hn hl H0 H1 H2 H3
      refine stepC (wanted_free rfl) fun K hK => ?_
      go_simp
      exact hK _ (Below.refl _ _)
    refine steps_cons (fun hn hl => ?_) fun H5 => ?_
    · skip
      clear hn hl H0 H1 H2 H3 H4
      refine stepC (wanted_free rfl) fun K hK => ?_
      go_simp
      exact hK _ (Below.refl _ _)
    refine steps_cons (fun hn hl => ?_) fun H6 => ?_
    · skip
      have h13 := Sp.of_c (H5 (hn 5 (show 5 ∈ [5] from .head _)))
      clear hn hl H0 H1 H2 H3 H4 H5
      refine stepC (wanted_free rfl) fun K hK => ?_
      go_simp
      exact hK _ (Below.refl _ _)
    refine steps_cons (fun hn hl => ?_) fun H7 => ?_
    · skip
      have h14 := Sp.of_c (H6 (hn 6 (show 6 ∈ [6] from .head _)))
      clear hn hl H0 H1 H2 H3 H4 H5 H6
      refine stepC (wanted_free rfl) fun K hK => ?_
      go_simp
      exact hK _ (Below.refl _ _)
    refine steps_cons (fun hn hl => ?_) fun H8 => ?_
    · skip
      clear hn hl H0 H1 H2 H3 H4 H5 H6 H7
      refine stepC (wanted_free rfl) fun K hK => ?_
      go_simp
      exact hK _ (Below.refl _ _)
    refine steps_cons (fun hn hl => ?_) fun H9 => ?_
    · skip
      have h16 := Sp.of_c (H8 (hn 8 (show 8 ∈ [8] from .head _)))
      clear hn hl H0 H1 H2 H3 H4 H5 H6 H7 H8
      refine stepC (wanted_free rfl) fun K hK => ?_
      go_simp
      exact hK _ (Below.refl _ _)
    refine steps_cons (fun hn hl => ?_) fun H10 => ?_
    · skip
      have h17 := Sp.of_c (H9 (hn 9 (show 9 ∈ [9] from .head _)))
      clear hn hl H0 H1 H2 H3 H4 H5 H6 H7 H8 H9
      refine stepC (wanted_free rfl) fun K hK => ?_
      go_simp
      exact hK _ (Below.refl _ _)
    refine steps_cons (fun hn hl => ?_) fun H11 => ?_
    · skip
      clear hn hl H0 H1 H2 H3 H4 H5 H6 H7 H8 H9 H10
      refine stepC (wanted_free rfl) fun K hK => ?_
      go_simp
      exact hK _ (Below.refl _ _)
    refine steps_cons (fun hn hl => ?_) fun H12 => ?_
    · skip
      have h19 := Sp.of_c (H11 (hn 11 (show 11 ∈ [11] from .head _)))
      clear hn hl H0 H1 H2 H3 H4 H5 H6 H7 H8 H9 H10 H11
      refine stepC (wanted_free rfl) fun K hK => ?_
      go_simp
      exact hK _ (Below.refl _ _)
    refine steps_cons (fun hn hl => ?_) fun H13 => ?_
    · skip
      have h20 := Sp.of_c (H12 (hn 12 (show 12 ∈ [12] from .head _)))
      clear hn hl H0 H1 H2 H3 H4 H5 H6 H7 H8 H9 H10 H11 H12
      refine stepC (wanted_free rfl) fun K hK => ?_
      go_simp
      exact hK _ (Below.refl _ _)
    refine steps_cons (fun hn hl => ?_) fun H14 => ?_
    · skip
      clear hn hl H0 H1 H2 H3 H4 H5 H6 H7 H8 H9 H10 H11 H12 H13
      refine stepC (wanted_free rfl) fun K hK => ?_
      go_simp
      exact hK _ (Below.refl _ _)
    refine steps_cons (fun hn hl => ?_) fun H15 => ?_
    · skip
      have h22 := Sp.of_c (H14 (hn 14 (show 14 ∈ [14] from .head _)))
      clear hn hl H0 H1 H2 H3 H4 H5 H6 H7 H8 H9 H10 H11 H12 H13 H14
      refine stepC (wanted_free rfl) fun K hK => ?_
      go_simp
      exact hK _ (Below.refl _ _)
    refine steps_cons (fun hn hl => ?_) fun H16 => ?_
    · skip
      have h23 := Sp.of_c (H15 (hn 15 (show 15 ∈ [15] from .head _)))
      clear hn hl H0 H1 H2 H3 H4 H5 H6 H7 H8 H9 H10 H11 H12 H13 H14 H15
      refine stepC (wanted_free rfl) fun K hK => ?_
      go_simp
      exact hK _ (Below.refl _ _)
    refine steps_cons (fun hn hl => ?_) fun H17 => ?_
    · skip
      clear hn hl H0 H1 H2 H3 H4 H5 H6 H7 H8 H9 H10 H11 H12 H13 H14 H15 H16
      refine stepC (wanted_free rfl) fun K hK => ?_
      go_simp
      exact hK _ (Below.refl _ _)
    refine steps_cons (fun hn hl => ?_) fun H18 => ?_
    · skip
      have h25 := Sp.of_c (H17 (hn 17 (show 17 ∈ [17] from .head _)))
      clear hn hl H0 H1 H2 H3 H4 H5 H6 H7 H8 H9 H10 H11 H12 H13 H14 H15 H16 H17
      refine stepC (wanted_free rfl) fun K hK => ?_
      go_simp
      exact hK _ (Below.refl _ _)
    refine steps_cons (fun hn hl => ?_) fun H19 => ?_
    · skip
      have h26 := Sp.of_c (H18 (hn 18 (show 18 ∈ [18] from .head _)))
      clear hn hl H0 H1 H2 H3 H4 H5 H6 H7 H8 H9 H10 H11 H12 H13 H14 H15 H16 H17 H18
      refine stepC (wanted_free rfl) fun K hK => ?_
      go_simp
      exact hK _ (Below.refl _ _)
    refine steps_cons (fun hn hl => ?_) fun H20 => ?_
    · skip
      clear hn hl H0 H1 H2 H3 H4 H5 H6 H7 H8 H9 H10 H11 H12 H13 H14 H15 H16 H17 H18 H19
      refine stepC (wanted_free rfl) fun K hK => ?_
      go_simp
      exact hK _ (Below.refl _ _)
    refine steps_cons (fun hn hl => ?_) fun H21 => ?_
    · skip
      have h28 := Sp.of_c (H20 (hn 20 (show 20 ∈ [20] from .head _)))
      clear hn hl H0 H1 H2 H3 H4 H5 H6 H7 H8 H9 H10 H11 H12 H13 H14 H15 H16 H17 H18 H19 H20
      refine stepC (wanted_free rfl) fun K hK => ?_
      go_simp
      exact hK _ (Below.refl _ _)
    refine steps_cons (fun hn hl => ?_) fun H22 => ?_
    · skip
      have h29 := Sp.of_c (H21 (hn 21 (show 21 ∈ [21] from .head _)))
      clear hn hl H0 H1 H2 H3 H4 H5 H6 H7 H8 H9 H10 H11 H12 H13 H14 H15 H16 H17 H18 H19 H20 H21
      refine stepC (wanted_free rfl) fun K hK => ?_
      go_simp
      exact hK _ (Below.refl _ _)
    refine steps_cons (fun hn hl => ?_) fun H23 => ?_
    · skip
      clear hn hl H0 H1 H2 H3 H4 H5 H6 H7 H8 H9 H10 H11 H12 H13 H14 H15 H16 H17 H18 H19 H20 H21 H22
      refine stepC (wanted_free rfl) fun K hK => ?_
      go_simp
      exact hK _ (Below.refl _ _)
    refine steps_cons (fun hn hl => ?_) fun H24 => ?_
    · skip
      have h31 := Sp.of_c (H23 (hn 23 (show 23 ∈ [23] from .head _)))
      clear hn hl H0 H1 H2 H3 H4 H5 H6 H7 H8 H9 H10 H11 H12 H13 H14 H15 H16 H17 H18 H19 H20 H21 H22 H23
      refine stepC (wanted_free rfl) fun K hK => ?_
      go_simp
      exact hK _ (Below.refl _ _)
    refine steps_cons (fun hn hl => ?_) fun H25 => ?_
    · skip
      have h32 := Sp.of_c (H24 (hn 24 (show 24 ∈ [24] from .head _)))
      clear hn hl H0 H1 H2 H3 H4 H5 H6 H7 H8 H9 H10 H11 H12 H13 H14 H15 H16 H17 H18 H19 H20 H21 H22 H23 H24
      refine stepC (wanted_free rfl) fun K hK => ?_
      go_simp
      exact hK _ (Below.refl _ _)
    refine steps_cons (fun hn hl => ?_) fun H26 => ?_
    · skip
      clear hn hl H0 H1 H2 H3 H4 H5 H6 H7 H8 H9 H10 H11 H12 H13 H14 H15 H16 H17 H18 H19 H20 H21 H22 H23 H24 H25
      refine stepC (wanted_free rfl) fun K hK => ?_
      go_simp
      exact hK _ (Below.refl _ _)
    refine steps_cons (fun hn hl => ?_) fun H27 => ?_
    · skip
      have h34 := Sp.of_c (H26 (hn 26 (show 26 ∈ [26] from .head _)))
      clear hn hl H0 H1 H2 H3 H4 H5 H6 H7 H8 H9 H10 H11 H12 H13 H14 H15 H16 H17 H18 H19 H20 H21 H22 H23 H24 H25 H26
      refine stepC (wanted_free rfl) fun K hK => ?_
      go_simp
      exact hK _ (Below.refl _ _)
    refine steps_cons (fun hn hl => ?_) fun H28 => ?_
    · skip
      have h35 := Sp.of_c (H27 (hn 27 (show 27 ∈ [27] from .head _)))
      clear hn hl H0 H1 H2 H3 H4 H5 H6 H7 H8 H9 H10 H11 H12 H13 H14 H15 H16 H17 H18 H19 H20 H21 H22 H23 H24 H25 H26 H27
      refine stepC (wanted_free rfl) fun K hK => ?_
      go_simp
      exact hK _ (Below.refl _ _)
    refine steps_cons (fun hn hl => ?_) fun H29 => ?_
    · skip
      clear hn hl H0 H1 H2 H3 H4 H5 H6 H7 H8 H9 H10 H11 H12 H13 H14 H15 H16 H17 H18 H19 H20 H21 H22 H23 H24 H25 H26 H27 H28
      refine stepC (wanted_free rfl) fun K hK => ?_
      go_simp
      exact hK _ (Below.refl _ _)
    refine steps_cons (fun hn hl => ?_) fun H30 => ?_
    · skip
      have h37 := Sp.of_c (H29 (hn 29 (show 29 ∈ [29] from .head _)))
      clear hn hl H0 H1 H2 H3 H4 H5 H6 H7 H8 H9 H10 H11 H12 H13 H14 H15 H16 H17 H18 H19 H20 H21 H22 H23 H24 H25 H26 H27 H28 H29
      refine stepC (wanted_free rfl) fun K hK => ?_
      go_simp
      exact hK _ (Below.refl _ _)
    refine steps_cons (fun hn hl => ?_) fun H31 => ?_
    · skip
      have h38 := Sp.of_c (H30 (hn 30 (show 30 ∈ [30] from .head _)))
      clear hn hl H0 H1 H2 H3 H4 H5 H6 H7 H8 H9 H10 H11 H12 H13 H14 H15 H16 H17 H18 H19 H20 H21 H22 H23 H24 H25 H26 H27 H28 H29 H30
      refine stepC (wanted_free rfl) fun K hK => ?_
      go_simp
      exact hK _ (Below.refl _ _)
    refine steps_cons (fun hn hl => ?_) fun H32 => ?_
    · skip
      have h8 := Sp.of_c (H0 (hn 0 (show 0 ∈ [0, 1, 4, 7, 10, 13, 16, 19, 22, 25, 28, 31] from .head _)))
      have h9 := Sp.of_c (H1 (hn 1 (show 1 ∈ [0, 1, 4, 7, 10, 13, 16, 19, 22, 25, 28, 31] from .tail _ (.head _))))
      have h12 := Sp.of_c (H4 (hn 4 (show 4 ∈ [0, 1, 4, 7, 10, 13, 16, 19, 22, 25, 28, 31] from .tail _ (.tail _ (.head _)))))
      have h15 := Sp.of_c (H7 (hn 7 (show 7 ∈ [0, 1, 4, 7, 10, 13, 16, 19, 22, 25, 28, 31] from .tail _ (.tail _ (.tail _ (.head _))))))
      have h18 := Sp.of_c (H10 (hn 10 (show 10 ∈ [0, 1, 4, 7, 10, 13, 16, 19, 22, 25, 28, 31] from .tail _ (.tail _ (.tail _ (.tail _ (.head _)))))))
      have h21 := Sp.of_c (H13 (hn 13 (show 13 ∈ [0, 1, 4, 7, 10, 13, 16, 19, 22, 25, 28, 31] from .tail _ (.tail _ (.tail _ (.tail _ (.tail _ (.head _))))))))
      have h24 := Sp.of_c (H16 (hn 16 (show 16 ∈ [0, 1, 4, 7, 10, 13, 16, 19, 22, 25, 28, 31] from .tail _ (.tail _ (.tail _ (.tail _ (.tail _ (.tail _ (.head _)))))))))
      have h27 := Sp.of_c (H19 (hn 19 (show 19 ∈ [0, 1, 4, 7, 10, 13, 16, 19, 22, 25, 28, 31] from .tail _ (.tail _ (.tail _ (.tail _ (.tail _ (.tail _ (.tail _ (.head _))))))))))
      have h30 := Sp.of_c (H22 (hn 22 (show 22 ∈ [0, 1, 4, 7, 10, 13, 16, 19, 22, 25, 28, 31] from .tail _ (.tail _ (.tail _ (.tail _ (.tail _ (.tail _ (.tail _ (.tail _ (.head _)))))))))))
      have h33 := Sp.of_c (H25 (hn 25 (show 25 ∈ [0, 1, 4, 7, 10, 13, 16, 19, 22, 25, 28, 31] from .tail _ (.tail _ (.tail _ (.tail _ (.tail _ (.tail _ (.tail _ (.tail _ (.tail _ (.head _))))))))))))
      have h36 := Sp.of_c (H28 (hn 28 (show 28 ∈ [0, 1, 4, 7, 10, 13, 16, 19, 22, 25, 28, 31] from .tail _ (.tail _ (.tail _ (.tail _ (.tail _ (.tail _ (.tail _ (.tail _ (.tail _ (.tail _ (.head _)))))))))))))
      have h39 := Sp.of_c (H31 (hn 31 (show 31 ∈ [0, 1, 4, 7, 10, 13, 16, 19, 22, 25, 28, 31] from .tail _ (.tail _ (.tail _ (.tail _ (.tail _ (.tail _ (.tail _ (.tail _ (.tail _ (.tail _ (.tail _ (.head _))))))))))))))
      clear hn hl H0 H1 H2 H3 H4 H5 H6 H7 H8 H9 H10 H11 H12 H13 H14 H15 H16 H17 H18 H19 H20 H21 H22 H23 H24 H25 H26 H27 H28 H29 H30 H31
      refine stepC (wanted_free rfl) fun K hK => ?_
      simp only [Array.getD_eq_getD_getElem?] at h8 h9 h12 h15 h18 h21 h24 h27 h30 h33 h36 h39
      go_simp
      exact hK _ (Below.refl _ _)
    refine steps_cons (fun hn hl => ?_) fun H33 => ?_
    · skip
      clear hn hl H0 H1 H2 H3 H4 H5 H6 H7 H8 H9 H10 H11 H12 H13 H14 H15 H16 H17 H18 H19 H20 H21 H22 H23 H24 H25 H26 H27 H28 H29 H30 H31 H32
      refine stepR (wanted_free rfl) fun K hK => ?_
      go_simp
      exact hK _ _ ((Below.refl _ _).alloc (Nat.le_refl _) _) ⟨_, rfl, hbm.size, Row.new rfl _ _⟩
    exact trivial
  · intro w5 hb5
    have hz5 := hb5.size
    refine end_cons ?_; rintro _ rfl
    refine end_cons ?_; rintro _ rfl
    refine end_cons ?_; rintro _ rfl
    refine end_cons ?_; rintro _ rfl
    refine end_cons ?_; rintro _ rfl
    refine end_cons ?_; rintro _ rfl
    refine end_cons ?_; rintro _ rfl
    refine end_cons ?_; rintro _ rfl
    refine end_cons ?_; rintro _ rfl
    refine end_cons ?_; rintro _ rfl
    refine end_cons ?_; rintro _ rfl
    refine end_cons ?_; rintro _ rfl
    refine end_cons ?_; rintro _ rfl
    refine end_cons ?_; rintro _ rfl
    refine end_cons ?_; rintro _ rfl
    refine end_cons ?_; rintro _ rfl
    refine end_cons ?_; rintro _ rfl
    refine end_cons ?_; rintro _ rfl
    refine end_cons ?_; rintro _ rfl
    refine end_cons ?_; rintro _ rfl
    refine end_cons ?_; rintro _ rfl
    refine end_cons ?_; rintro _ rfl
    refine end_cons ?_; rintro _ rfl
    refine end_cons ?_; rintro _ rfl
    refine end_cons ?_; rintro _ rfl
    refine end_cons ?_; rintro _ rfl
    refine end_cons ?_; rintro _ rfl
    refine end_cons ?_; rintro _ rfl
    refine end_cons ?_; rintro _ rfl
    refine end_cons ?_; rintro _ rfl
    refine end_cons ?_; rintro _ rfl
    refine end_cons ?_; rintro _ rfl
    refine end_cons ?_; rintro _ rfl
    refine end_cons ?_; rintro _ ⟨g, rfl, hgB, hrow⟩
    refine end_nil ?_
    simp only [List.setIfInBounds_toArray, List.set_cons_succ, List.set_cons_zero, Bool.not_false, Bool.not_true, Bool.true_or, Bool.or_true, Bool.false_or, Bool.or_false]
    simp only [List.drop_succ_cons, List.drop_zero]
    have HR5 := Lib.hid hrow
    clear hrow
    have d50 := carry hb5 c5
    have d60 := carry hb5 c6
    have d70 := carry hb5 c7
    have d80 := carry hb5 c8
    clear c1 c2 c3 c4 c5 c6 c7 c8 c9 c10 c11 c12 c13 c14
    go_wp2_with (refine wpList_store_row rfl 26 (.tmp 7) (.tmp 40) rfl g _ rfl rfl 26 _ HR5.out (by kernel_rfl) (by simp) (by simp [Value.oneCell']) ?_; generalize hw1 : World.setRow _ _ _ = w1)
    have hb1 : Below w5.heap.size w5 w5 := Below.refl _ _
    have hg1 : Row w1 g 26 #[.int .i64 q.kind, .int .i64 q.key, .int .i64 (q.n 1), .int .i64 (q.n 2), .int .i64 (q.n 3), .int .i64 (q.n 4), .int .i64 0, .int .i64 0, .int .i64 0, .int .i64 0, .int .i64 (q.n 9), .int .i64 (q.n 10), .slice none 0 0, .int .i64 (q.n 11), .int .i64 (q.n 12), .int .i64 (q.n 13), .int .i64 (q.n 14)] := by rw [← hw1]; exact setRow_heap _ _ _ _ _ _ HR5.out
    have hblw : b < w0.heap.size := by omega
    have d5 : w1.cell? ⟨b, off + 5, none⟩ = some (.int .i64 (q.n 5)) := by rw [← hw1]; exact (World.cell?_of_block (a := ⟨b, off + 5, none⟩) (setRow_other w5 g b _ (by omega))).trans d50
    have d6 : w1.cell? ⟨b, off + 6, none⟩ = some (.int .i64 (q.n 6)) := by rw [← hw1]; exact (World.cell?_of_block (a := ⟨b, off + 6, none⟩) (setRow_other w5 g b _ (by omega))).trans d60
    have d7 : w1.cell? ⟨b, off + 7, none⟩ = some (.int .i64 (q.n 7)) := by rw [← hw1]; exact (World.cell?_of_block (a := ⟨b, off + 7, none⟩) (setRow_other w5 g b _ (by omega))).trans d70
    have d8 : w1.cell? ⟨b, off + 8, none⟩ = some (.int .i64 (q.n 8)) := by rw [← hw1]; exact (World.cell?_of_block (a := ⟨b, off + 8, none⟩) (setRow_other w5 g b _ (by omega))).trans d80
    have HR01 : Hid (Row w1 w.heap.size 26 #[.int .i64 0, .int .i64 0, .int .i64 0, .int .i64 0, .int .i64 0, .int .i64 0, .int .i64 0, .int .i64 0, .int .i64 0, .int .i64 0, .int .i64 0, .int .i64 0, .slice none 0 0, .int .i64 0, .int .i64 0, .int .i64 0, .int .i64 0]) := Lib.hid (by rw [← hw1]; exact (setRow_other w5 g w.heap.size _ (by omega)).trans (HR0.out.on hb5))
    have hW1 : Below w.heap.size w w1 := by rw [← hw1]; exact below_setRow (hb0.trans (hb5.mono hb0.size)) (by omega) _
    have HG1 := Lib.hid hg1
    have hz1 := hg1.lt
    clear hw1 hg1 d50 d60 d70 d80 hb1
    dsimp only [Act.put]
    go_wp2_with fail
    refine region_mono_tail 14 (of2Sp b off c q g) [41, 42, 43, 44, 45, 46, 47, 48, 49, 50, 51, 52, 53, 54] (by kernel_rfl) (by kernel_rfl) (by kernel_rfl) (by kernel_rfl) (by kernel_rfl) (stables_cons (Sp.c_stable _ _) (stables_cons (Sp.c_stable _ _) (stables_cons (Sp.c_stable _ _) (stables_cons (Sp.c_stable _ _) (stables_cons (Sp.c_stable _ _) (stables_cons (Sp.c_stable _ _) (stables_cons (Sp.c_stable _ _) (stables_cons (Sp.c_stable _ _) (stables_cons (Sp.c_stable _ _) (stables_cons (Sp.c_stable _ _) (stables_cons (Sp.c_stable _ _) (stables_cons (Sp.c_stable _ _) (stables_cons (Sp.c_stable _ _) (stables_cons (Sp.c_stable _ _) (trivial))))))))))))))) ?_ ?_
    · intro am wm L hbm hbase hbase2
      have s2 : am.tmps.getD 2 undef = .slice (some ⟨b, off, none⟩) 15 c := (hbase 2 rfl).trans (by simp only [Array.getD_eq_getD_getElem?, List.getElem?_toArray, List.getElem?_cons_succ, List.getElem?_cons_zero, Option.getD_some])
      have s7 : am.tmps.getD 7 undef = .pointer (some ⟨g, 0, none⟩) := (hbase 7 rfl).trans (by simp only [Array.getD_eq_getD_getElem?, List.getElem?_toArray, List.getElem?_cons_succ, List.getElem?_cons_zero, Option.getD_some])
      clear hbase hbase2
      have l5 := carry hbm d5
      have l6 := carry hbm d6
      have l7 := carry hbm d7
      have l8 := carry hbm d8
      refine steps_cons (fun hn hl => ?_) fun H0 => ?_
      · skip
        clear hn hl 
        refine stepC (wanted_free rfl) fun K hK => ?_
        go_simp
        exact hK _ (Below.refl _ _)
      refine steps_cons (fun hn hl => ?_) fun H1 => ?_
      · skip
        have h41 := Sp.of_c (H0 (hn 0 (show 0 ∈ [0] from .head _)))
        clear hn hl H0
        refine stepC (wanted_free rfl) fun K hK => ?_
        go_simp
        exact hK _ (Below.refl _ _)
      refine steps_cons (fun hn hl => ?_) fun H2 => ?_
      · skip
        have h42 := Sp.of_c (H1 (hn 1 (show 1 ∈ [1] from .head _)))
        clear hn hl H0 H1
        refine stepC (wanted_free rfl) fun K hK => ?_
        go_simp
        exact hK _ (Below.refl _ _)
      refine steps_cons (fun hn hl => ?_) fun H3 => ?_
      · skip
        clear hn hl H0 H1 H2
        refine stepC (wanted_free rfl) fun K hK => ?_
        go_simp
        exact hK _ (Below.refl _ _)
      refine steps_cons (fun hn hl => ?_) fun H4 => ?_
      · skip
        have h44 := Sp.of_c (H3 (hn 3 (show 3 ∈ [3] from .head _)))
        clear hn hl H0 H1 H2 H3
        refine stepC (wanted_free rfl) fun K hK => ?_
        go_simp
        exact hK _ (Below.refl _ _)
      refine steps_cons (fun hn hl => ?_) fun H5 => ?_
      · skip
        have h45 := Sp.of_c (H4 (hn 4 (show 4 ∈ [4] from .head _)))
        clear hn hl H0 H1 H2 H3 H4
        refine stepC (wanted_free rfl) fun K hK => ?_
        go_simp
        exact hK _ (Below.refl _ _)
      refine steps_cons (fun hn hl => ?_) fun H6 => ?_
      · skip
        clear hn hl H0 H1 H2 H3 H4 H5
        refine stepC (wanted_free rfl) fun K hK => ?_
        go_simp
        exact hK _ (Below.refl _ _)
      refine steps_cons (fun hn hl => ?_) fun H7 => ?_
      · skip
        have h47 := Sp.of_c (H6 (hn 6 (show 6 ∈ [6] from .head _)))
        clear hn hl H0 H1 H2 H3 H4 H5 H6
        refine stepC (wanted_free rfl) fun K hK => ?_
        go_simp
        exact hK _ (Below.refl _ _)
      refine steps_cons (fun hn hl => ?_) fun H8 => ?_
      · skip
        have h48 := Sp.of_c (H7 (hn 7 (show 7 ∈ [7] from .head _)))
        clear hn hl H0 H1 H2 H3 H4 H5 H6 H7
        refine stepC (wanted_free rfl) fun K hK => ?_
        go_simp
        exact hK _ (Below.refl _ _)
      refine steps_cons (fun hn hl => ?_) fun H9 => ?_
      · skip
        clear hn hl H0 H1 H2 H3 H4 H5 H6 H7 H8
        refine stepC (wanted_free rfl) fun K hK => ?_
        go_simp
        exact hK _ (Below.refl _ _)
      refine steps_cons (fun hn hl => ?_) fun H10 => ?_
      · skip
        have h50 := Sp.of_c (H9 (hn 9 (show 9 ∈ [9] from .head _)))
        clear hn hl H0 H1 H2 H3 H4 H5 H6 H7 H8 H9
        refine stepC (wanted_free rfl) fun K hK => ?_
        go_simp
        exact hK _ (Below.refl _ _)
      refine steps_cons (fun hn hl => ?_) fun H11 => ?_
      · skip
        have h51 := Sp.of_c (H10 (hn 10 (show 10 ∈ [10] from .head _)))
        clear hn hl H0 H1 H2 H3 H4 H5 H6 H7 H8 H9 H10
        refine stepC (wanted_free rfl) fun K hK => ?_
        go_simp
        exact hK _ (Below.refl _ _)
      refine steps_cons (fun hn hl => ?_) fun H12 => ?_
      · skip
        have h43 := Sp.of_c (H2 (hn 2 (show 2 ∈ [2, 5, 8, 11] from .head _)))
        have h46 := Sp.of_c (H5 (hn 5 (show 5 ∈ [2, 5, 8, 11] from .tail _ (.head _))))
        have h49 := Sp.of_c (H8 (hn 8 (show 8 ∈ [2, 5, 8, 11] from .tail _ (.tail _ (.head _)))))
        have h52 := Sp.of_c (H11 (hn 11 (show 11 ∈ [2, 5, 8, 11] from .tail _ (.tail _ (.tail _ (.head _))))))
        clear hn hl H0 H1 H2 H3 H4 H5 H6 H7 H8 H9 H10 H11
        refine stepC (wanted_free rfl) fun K hK => ?_
        simp only [Array.getD_eq_getD_getElem?] at h43 h46 h49 h52
        go_simp
        exact hK _ (Below.refl _ _)
      refine steps_cons (fun hn hl => ?_) fun H13 => ?_
      · skip
        clear hn hl H0 H1 H2 H3 H4 H5 H6 H7 H8 H9 H10 H11 H12
        refine stepC (wanted_free rfl) fun K hK => ?_
        go_simp
        exact hK _ (Below.refl _ _)
      exact trivial
    · intro w6 hb6
      have hz6 := hb6.size
      refine end_cons ?_; rintro _ rfl
      refine end_cons ?_; rintro _ rfl
      refine end_cons ?_; rintro _ rfl
      refine end_cons ?_; rintro _ rfl
      refine end_cons ?_; rintro _ rfl
      refine end_cons ?_; rintro _ rfl
      refine end_cons ?_; rintro _ rfl
      refine end_cons ?_; rintro _ rfl
      refine end_cons ?_; rintro _ rfl
      refine end_cons ?_; rintro _ rfl
      refine end_cons ?_; rintro _ rfl
      refine end_cons ?_; rintro _ rfl
      refine end_cons ?_; rintro _ rfl
      refine end_cons ?_; rintro _ rfl
      refine end_nil ?_
      simp only [List.setIfInBounds_toArray, List.set_cons_succ, List.set_cons_zero, Bool.not_false, Bool.not_true, Bool.true_or, Bool.or_true, Bool.false_or, Bool.or_false]
      simp only [List.drop_succ_cons, List.drop_zero]
      have f0 := (HG1.out.on hb6).thaw
      have r6 : w6.cell? ⟨g, 6, none⟩ = some (.int .i64 0) := ((HG1.out.on hb6).cell 6).trans rfl
      have r7 : w6.cell? ⟨g, 7, none⟩ = some (.int .i64 0) := ((HG1.out.on hb6).cell 7).trans rfl
      have r8 : w6.cell? ⟨g, 8, none⟩ = some (.int .i64 0) := ((HG1.out.on hb6).cell 8).trans rfl
      have r9 : w6.cell? ⟨g, 9, none⟩ = some (.int .i64 0) := ((HG1.out.on hb6).cell 9).trans rfl
      have HG6 : Hid (Row ((((w6.setCell ⟨g, 6, none⟩ (.int .i64 (q.n 5))).setCell ⟨g, 7, none⟩ (.int .i64 (q.n 6))).setCell ⟨g, 8, none⟩ (.int .i64 (q.n 7))).setCell ⟨g, 9, none⟩ (.int .i64 (q.n 8))) g 26 #[.int .i64 q.kind, .int .i64 q.key, .int .i64 (q.n 1), .int .i64 (q.n 2), .int .i64 (q.n 3), .int .i64 (q.n 4), .int .i64 (q.n 5), .int .i64 (q.n 6), .int .i64 (q.n 7), .int .i64 (q.n 8), .int .i64 (q.n 9), .int .i64 (q.n 10), .slice none 0 0, .int .i64 (q.n 11), .int .i64 (q.n 12), .int .i64 (q.n 13), .int .i64 (q.n 14)]) := Lib.hid ((((((HG1.out.on hb6).put 6 (.int .i64 (q.n 5))).put 7 (.int .i64 (q.n 6))).put 8 (.int .i64 (q.n 7))).put 9 (.int .i64 (q.n 8))).as rfl)
      have HR6 := Lib.hid ((((HR01.out.on hb6).grown (grown_put (g := g) 6 (.int .i64 (q.n 5))) (fun h => by injection h with h; omega)).grown (grown_put (g := g) 7 (.int .i64 (q.n 6))) (fun h => by injection h with h; omega)).grown (grown_put (g := g) 8 (.int .i64 (q.n 7))) (fun h => by injection h with h; omega))
      have HR7 := Lib.hid (HR6.out.grown (grown_put (g := g) 9 (.int .i64 (q.n 8))) (fun h => by injection h with h; omega))
      have hW6 : Below w.heap.size w w6 := hW1.trans (hb6.mono hW1.size)
      have hgz : g < w6.heap.size := by omega
      have hW7 : Below w.heap.size w ((((w6.setCell ⟨g, 6, none⟩ (.int .i64 (q.n 5))).setCell ⟨g, 7, none⟩ (.int .i64 (q.n 6))).setCell ⟨g, 8, none⟩ (.int .i64 (q.n 7))).setCell ⟨g, 9, none⟩ (.int .i64 (q.n 8))) := (((hW6.setCell (by simp; omega) _).setCell (by simp; omega) _).setCell (by simp; omega) _).setCell (by simp; omega) _
      refine wpList_store_mid rfl 23 (.tmp 54) (.tmp 53) rfl g 6 #[.int .i64 (q.n 5), .int .i64 (q.n 6), .int .i64 (q.n 7), .int .i64 (q.n 8)] rfl rfl (fun j hj => by
        have hj4 : j < 4 := hj
        match j, hj4 with
        | 0, _ => exact ⟨by rw [r6]; rfl, f0 _⟩
        | 1, _ => exact ⟨by rw [r7]; rfl, f0 _⟩
        | 2, _ => exact ⟨by rw [r8]; rfl, f0 _⟩
        | 3, _ => exact ⟨by rw [r9]; rfl, f0 _⟩
        | n + 4, h => omega) (by kernel_rfl) (by simp [Value.oneCell']) ?_
      generalize hw7 : World.setCells _ _ _ _ = w7
      have HRh : Hid (w7.heap[w.heap.size]? = some (.cells #[.int .i64 0, .int .i64 0, .int .i64 0, .int .i64 0, .int .i64 0, .int .i64 0, .int .i64 0, .int .i64 0, .int .i64 0, .int .i64 0, .int .i64 0, .int .i64 0, .slice none 0 0, .int .i64 0, .int .i64 0, .int .i64 0, .int .i64 0] 26 (0, 0))) := Lib.hid (by rw [← hw7]; exact HR7.out)
      have HGh : Hid (w7.heap[g]? = some (.cells #[.int .i64 q.kind, .int .i64 q.key, .int .i64 (q.n 1), .int .i64 (q.n 2), .int .i64 (q.n 3), .int .i64 (q.n 4), .int .i64 (q.n 5), .int .i64 (q.n 6), .int .i64 (q.n 7), .int .i64 (q.n 8), .int .i64 (q.n 9), .int .i64 (q.n 10), .slice none 0 0, .int .i64 (q.n 11), .int .i64 (q.n 12), .int .i64 (q.n 13), .int .i64 (q.n 14)] 26 (0, 0))) := Lib.hid (by rw [← hw7]; exact HG6.out)
      have hW8 : Below w.heap.size w w7 := by rw [← hw7]; exact hW7
      clear hw7 HR6 HG1 HR01 hb6 HR7 HG6 hW7 r6 r7 r8 r9 f0
      dsimp only [Act.put]
      go_wp2_with (first
        | ((with_reducible refine wpList_store_row rfl 26 (.tmp 6) (.tmp 55) rfl w.heap.size _ rfl rfl 26 _ HRh.out (by kernel_rfl) (by simp) (by simp [Value.oneCell']) ?_)
           generalize hwz : World.setRow _ _ _ = wz
           have hbz : Below w.heap.size w wz := by rw [← hwz]; exact below_setRow hW8 (Nat.le_refl _) _
           have hgz9 : wz.heap[w.heap.size]? = some (.cells #[.int .i64 q.kind, .int .i64 q.key, .int .i64 (q.n 1), .int .i64 (q.n 2), .int .i64 (q.n 3), .int .i64 (q.n 4), .int .i64 (q.n 5), .int .i64 (q.n 6), .int .i64 (q.n 7), .int .i64 (q.n 8), .int .i64 (q.n 9), .int .i64 (q.n 10), .slice none 0 0, .int .i64 (q.n 11), .int .i64 (q.n 12), .int .i64 (q.n 13), .int .i64 (q.n 14)] 26 (0, 0)) := by rw [← hwz]; exact setRow_heap _ _ _ _ _ _ HRh.out
           clear hwz)
        | (with_reducible refine wpList_load_row rfl 26 (.tmp 7) rfl g rfl 26 #[.int .i64 q.kind, .int .i64 q.key, .int .i64 (q.n 1), .int .i64 (q.n 2), .int .i64 (q.n 3), .int .i64 (q.n 4), .int .i64 (q.n 5), .int .i64 (q.n 6), .int .i64 (q.n 7), .int .i64 (q.n 8), .int .i64 (q.n 9), .int .i64 (q.n 10), .slice none 0 0, .int .i64 (q.n 11), .int .i64 (q.n 12), .int .i64 (q.n 13), .int .i64 (q.n 14)] (0, 0) _ HGh.out Try.underlying26 rfl (by kernel_rfl) ?_))
      refine bodyPost_ret (results_cell_row (by simp [results, Try.results35]; rfl) _ _ w.heap.size _ _ _ _ rfl hgz9 Try.underlying26 rfl (by kernel_rfl)) rfl ?_
      exact ⟨by rw [HQ.out], hbz⟩
end Go.Proofs.Ytkeboafejebanaa.W
