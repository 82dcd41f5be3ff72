/-
  Contract of the document's Right over bookings.
-/
import Derived.Test.YtkkjbmedpdjgdaaBkRight
namespace Go.Proofs.Ytkkjbmedpdjgdaa.W
set_option linter.unusedVariables false
set_option linter.unusedSimpArgs false
open Go.ChangeShapes Go.WideShapes Go.ChangeAt Go.RowKit

def rbSp (b off L cap j k : Nat) (ci : Int) (s : Bk) (q m : Bool) : List Sp :=
  [Sp.c (.slice (some ⟨b, off, none⟩) L cap) [],
   Sp.c (.int .i64 (j : Int)) [],
   Sp.c (.pointer (some ⟨b, off + j * 4, none⟩)) [0, 1],
   Sp.c (.pointer (some ⟨b, off + j * 4, none⟩)) [2],
   Sp.c (.int .i64 ci) [3],
   Sp.c (.slice (some ⟨b, off, none⟩) L cap) [],
   Sp.c (.int .i64 (k : Int)) [],
   Sp.c (.pointer (some ⟨b, off + k * 4, none⟩)) [5, 6],
   Sp.c (.pointer (some ⟨b, off + k * 4, none⟩)) [7],
   Sp.c (.int .i64 s.id) [8],
   Sp.c (.bool q) [4, 9],
   Sp.c (.bool q) [10],
   Sp.g (!q) (.slice (some ⟨b, off, none⟩) L cap) [11],
   Sp.g (!q) (.int .i64 (j : Int)) [11],
   Sp.g (!q) (.int .i64 (j : Int)) [11],
   Sp.g (!q) (.int .i64 ((j : Int) + 1)) [14, 11],
   Sp.g (!q) (.slice (some ⟨b, off + j * 4, none⟩) 1 (cap - j)) [12, 13, 15, 11],
   Sp.g (!q) (.slice (some ⟨b, off, none⟩) L cap) [11],
   Sp.g (!q) (.int .i64 (k : Int)) [11],
   Sp.g (!q) (.pointer (some ⟨b, off + k * 4, none⟩)) [17, 18, 11],
   Sp.g (!q) (.pointer (some ⟨b, off + k * 4 + 1, none⟩)) [19, 11],
   Sp.g (!q) (.int .i64 s.node) [20, 11],
   Sp.g (!q) (.slice (some ⟨b, off, none⟩) L cap) [11],
   Sp.g (!q) (.int .i64 (k : Int)) [11],
   Sp.g (!q) (.pointer (some ⟨b, off + k * 4, none⟩)) [22, 23, 11],
   Sp.g (!q) (.pointer (some ⟨b, off + k * 4 + 2, none⟩)) [24, 11],
   Sp.g (!q) (.int .i64 s.frm) [25, 11],
   Sp.g (!q) (.slice (some ⟨b, off, none⟩) L cap) [11],
   Sp.g (!q) (.int .i64 (k : Int)) [11],
   Sp.g (!q) (.pointer (some ⟨b, off + k * 4, none⟩)) [27, 28, 11],
   Sp.g (!q) (.pointer (some ⟨b, off + k * 4 + 3, none⟩)) [29, 11],
   Sp.g (!q) (.int .i64 s.til) [30, 11],
   Sp.g (!q) (.bool m) [16, 21, 26, 31, 11],
   Sp.c (.bool (q || m)) [11, 32]]
theorem meets_one (c : Bk) (n f t : Int) : Meets [c] n f t ↔ Meet c n f t := by unfold Meets; simp
theorem one_of {l : List Bk} {j : Nat} (h : j < l.length) : (l.drop j).take 1 = [l[j]] := by rw [drop_at l j h]; rfl
set_option maxRecDepth 100000 in
set_option maxHeartbeats 8000000 in
theorem rBkRight (a : Option Addr) (cap : Nat) (l : List Bk) (hl : l.length ≤ 100000) (n : Int) (w : World) (HA : BkAt w a cap l) :
    Calls Try.prog 14 #[.slice a l.length cap, .int .i64 n] w fun e w' => e = .returned (.bool (rightBk l n)) ∧ Below w.heap.size w w' := by
  have HR := Lib.hid HA
  clear HA
  go_enter Try.func14, Try.ntmps14
  go_wp2
  go_loopw [5] (fun x wr => ∃ k : Nat, k ≤ l.length ∧ x = .int .i64 k ∧ Below w.heap.size w wr ∧ Hid (RightK n [] l ↔ RightK n (l.take k) (l.drop k))) (fun x _ => l.length - (intOf x).toNat)
  case atStart => exact ⟨0, Nat.zero_le _, rfl, (by repeat' (first | exact Below.refl _ _ | assumption | exact And.left (by assumption) | refine Below.drew ?_ | refine below_drewN ?_ _ | refine Below.setCell ?_ (by first | (simp; done) | (simp; omega) | omega) _ | refine Below.alloc ?_ (by first | (simp; done) | (simp; omega) | omega) _ | refine after (by assumption) (by first | (simp; done) | (simp; omega) | omega) ?_)), Lib.hid (by simp)⟩
  case round =>
    obtain ⟨k, hk, rfl, hb, HI⟩ := hrel
    have hz := hb.size
    by_cases hlt : k < l.length
    · have hcur := (HR.out.later hb)
      obtain ⟨b, off, ea, hbl, q0, q1, q2, q3⟩ := hcur.row.bk hlt
      have HN : Hid (RightK n [] l ↔ (BkOk n l[k] ∧ ∀ c ∈ l.take k, c.id < l[k].id ∧ ¬ Meet c l[k].node l[k].frm l[k].til) ∧ RightK n (l.take (k + 1)) (l.drop (k + 1))) := Lib.hid (by rw [HI.out, rightK_next hlt]; exact Iff.rfl)
      have HJ : Hid (∀ j (hj : j < k), wr.cell? ⟨b, off + j * 4, none⟩ = some (.int .i64 (l[j]'(by omega)).id)) := Lib.hid (by
        intro j hj
        obtain ⟨b', off', ea', _, p0, _⟩ := hcur.row.bk (k := j) (by omega)
        rw [ea] at ea'
        simp only [Option.some.injEq, Addr.mk.injEq, and_true] at ea'
        obtain ⟨rfl, rfl⟩ := ea'
        exact p0)
      subst ea
      have HC := Lib.hid hcur
      clear HI hcur
      generalize l[k] = s at q0 q1 q2 q3 HN
      have HO := Lib.hid (fun w' => rBkOne s n w')
      have hk0 : (0 : Int) ≤ k := by omega
      have hk1 : (k : Int) < l.length := by omega
      have hkt : ((k : Int)).toNat = k := by omega
      by_cases ho : BkOk n s
      · rw [show okB n s = true from decide_eq_true ho] at HO
        go_wp2_with fail
        refine (HO.out _).mono ?_; rintro e w1 ⟨rfl, hb1⟩
        have k1 := hb.trans (hb1.mono hz)
        replace q0 := carry hb1 q0
        replace q1 := carry hb1 q1
        replace q2 := carry hb1 q2
        replace q3 := carry hb1 q3
        have HC1 := Lib.hid (HC.out.later hb1)
        have HJ1 := Lib.hid (fun j hj => carry hb1 (HJ.out j hj))
        clear HC HJ
        go_wp2
        go_loopw [6] (fun x wk => ∃ j : Nat, j ≤ k ∧ x = .int .i64 (j : Int) ∧ Hid (∀ c ∈ l.take j, c.id < s.id ∧ ¬ Meet c s.node s.frm s.til) ∧ Below w1.heap.size w1 wk) (fun x _ => k - (intOf x).toNat)
        case atStart => exact ⟨0, Nat.zero_le _, rfl, Lib.hid (by simp), Below.refl _ _⟩
        case round =>
          rename World => wk
          obtain ⟨j, hj, rfl, HI, hbk⟩ := hrel
          have hzk := hbk.size
          have kk9 := k1.trans (hbk.mono k1.size)
          by_cases hjl : j < k
          · have z0 := carry hbk q0
            have z1 := carry hbk q1
            have z2 := carry hbk q2
            have z3 := carry hbk q3
            have p0 := carry hbk (HJ1.out j hjl)
            have hjlt : j < l.length := by omega
            have hjk : (j : Int) < k := by omega
            have HNX : Hid (l[j].id < s.id → ¬ Meet l[j] s.node s.frm s.til → ∀ c ∈ l.take (j + 1), c.id < s.id ∧ ¬ Meet c s.node s.frm s.til) := Lib.hid (by
              intro h1 h2 c hc
              rw [take_app l j hjlt, List.mem_append, List.mem_singleton] at hc
              rcases hc with hc | rfl
              · exact HI.out c hc
              · exact ⟨h1, h2⟩)
            have HIN : Hid (l[j] ∈ l.take k) := Lib.hid (by
              rw [List.mem_take_iff_getElem]
              exact ⟨j, by omega, rfl⟩)
            have ht := ((HC1.out.later hbk).from (k := j) (by omega)).take 1
            rw [one_of hjlt] at ht
            have HT := Lib.hid ht
            clear HI ht
            generalize l[j] = c at p0 HNX HIN HT
            have HM := Lib.hid (fun w' h' => rBkMeets (some ⟨b, off + j * 4, none⟩) (cap - j) [c] (by simp) s.node s.frm s.til w' h')
            rw [show [c].length = 1 from rfl] at HM
            have hj0 : (0 : Int) ≤ j := by omega
            have hj1 : (j : Int) < l.length := by omega
            have hjt : ((j : Int)).toNat = j := by omega
            have hjs : ((j : Int) + 1).toNat = j + 1 := by omega
            have hjw : IntKind.i64.wrap ((j : Int) + 1) = (j : Int) + 1 := IntWalk.i64_in _ (by omega)
            have hjc : (j : Int) + 1 ≤ cap := by have := HR.out.le; omega
            have hj2 : (0 : Int) ≤ (j : Int) + 1 := by omega
            have hcj : ¬ cap = j := by have := HR.out.le; omega
            by_cases hq : s.id ≤ c.id
            · have hqq : decide (s.id ≤ c.id) = true := decide_eq_true hq
              have E : Hid (rightBk l n = false) := Lib.hid (decide_eq_false (fun x => by have := ((HN.out.1 x.1).1.2 c HIN.out).1; omega))
              clear HN HNX hq
              go_wp2_with fail
              refine region_mono (rbSp b off l.length cap j k c.id s true false) [25, 26, 27, 28, 29, 30, 31, 32, 33, 34, 35, 36, 37, 38, 39, 40, 41, 42, 43, 44, 45, 46, 47, 48, 49, 50, 51, 52, 53, 54, 55, 56, 57, 58] (by kernel_rfl) (by kernel_rfl) (by kernel_rfl) (by kernel_rfl) (stables_cons (Sp.c_stable _ _) (stables_cons (Sp.c_stable _ _) (stables_cons (Sp.c_stable _ _) (stables_cons (Sp.c_stable _ _) (stables_cons (Sp.c_stable _ _) (stables_cons (Sp.c_stable _ _) (stables_cons (Sp.c_stable _ _) (stables_cons (Sp.c_stable _ _) (stables_cons (Sp.c_stable _ _) (stables_cons (Sp.c_stable _ _) (stables_cons (Sp.c_stable _ _) (stables_cons (Sp.c_stable _ _) (stables_cons (Sp.g_stable _ _ _) (stables_cons (Sp.g_stable _ _ _) (stables_cons (Sp.g_stable _ _ _) (stables_cons (Sp.g_stable _ _ _) (stables_cons (Sp.g_stable _ _ _) (stables_cons (Sp.g_stable _ _ _) (stables_cons (Sp.g_stable _ _ _) (stables_cons (Sp.g_stable _ _ _) (stables_cons (Sp.g_stable _ _ _) (stables_cons (Sp.g_stable _ _ _) (stables_cons (Sp.g_stable _ _ _) (stables_cons (Sp.g_stable _ _ _) (stables_cons (Sp.g_stable _ _ _) (stables_cons (Sp.g_stable _ _ _) (stables_cons (Sp.g_stable _ _ _) (stables_cons (Sp.g_stable _ _ _) (stables_cons (Sp.g_stable _ _ _) (stables_cons (Sp.g_stable _ _ _) (stables_cons (Sp.g_stable _ _ _) (stables_cons (Sp.g_stable _ _ _) (stables_cons (Sp.g_stable _ _ _) (stables_cons (Sp.c_stable _ _) (trivial))))))))))))))))))))))))))))))))))) ?_ ?_
              · intro am wm L hbm hbase hbase2
                have s0 : am.tmps.getD 0 undef = .slice (some ⟨b, off, none⟩) l.length cap := (hbase 0 rfl).trans (by simp only [Array.getD_eq_getD_getElem?, List.getElem?_toArray, List.getElem?_cons_succ, List.getElem?_cons_zero, Option.getD_some])
                have s5 : am.tmps.getD 5 undef = .int .i64 (k : Int) := (hbase 5 rfl).trans (by simp only [Array.getD_eq_getD_getElem?, List.getElem?_toArray, List.getElem?_cons_succ, List.getElem?_cons_zero, Option.getD_some])
                have s6 : am.tmps.getD 6 undef = .int .i64 (j : Int) := (hbase 6 rfl).trans (by simp only [Array.getD_eq_getD_getElem?, List.getElem?_toArray, List.getElem?_cons_succ, List.getElem?_cons_zero, Option.getD_some])
                clear hbase hbase2
                have m0 := carry hbm z0
                have m1 := carry hbm z1
                have m2 := carry hbm z2
                have m3 := carry hbm z3
                have m4 := carry hbm p0
                refine steps_cons (fun hn hl => ?_) fun H0 => ?_
                · skip
                  clear hn hl 
                  refine stepC (wanted_free rfl) fun K hK => ?_
                  go_simp
                  exact hK _ (Below.refl _ _)
                refine steps_cons (fun hn hl => ?_) fun H1 => ?_
                · skip
                  clear hn hl H0
                  refine stepC (wanted_free rfl) fun K hK => ?_
                  go_simp
                  exact hK _ (Below.refl _ _)
                refine steps_cons (fun hn hl => ?_) fun H2 => ?_
                · skip
                  have h25 := Sp.of_c (H0 (hn 0 (show 0 ∈ [0, 1] from .head _)))
                  have h26 := Sp.of_c (H1 (hn 1 (show 1 ∈ [0, 1] from .tail _ (.head _))))
                  clear hn hl H0 H1
                  refine stepC (wanted_free rfl) fun K hK => ?_
                  go_simp
                  exact hK _ (Below.refl _ _)
                refine steps_cons (fun hn hl => ?_) fun H3 => ?_
                · skip
                  have h27 := Sp.of_c (H2 (hn 2 (show 2 ∈ [2] from .head _)))
                  clear hn hl H0 H1 H2
                  refine stepC (wanted_free rfl) fun K hK => ?_
                  go_simp
                  exact hK _ (Below.refl _ _)
                refine steps_cons (fun hn hl => ?_) fun H4 => ?_
                · skip
                  have h28 := Sp.of_c (H3 (hn 3 (show 3 ∈ [3] from .head _)))
                  clear hn hl H0 H1 H2 H3
                  refine stepC (wanted_free rfl) fun K hK => ?_
                  go_simp
                  exact hK _ (Below.refl _ _)
                refine steps_cons (fun hn hl => ?_) fun H5 => ?_
                · skip
                  clear hn hl H0 H1 H2 H3 H4
                  refine stepC (wanted_free rfl) fun K hK => ?_
                  go_simp
                  exact hK _ (Below.refl _ _)
                refine steps_cons (fun hn hl => ?_) fun H6 => ?_
                · skip
                  clear hn hl H0 H1 H2 H3 H4 H5
                  refine stepC (wanted_free rfl) fun K hK => ?_
                  go_simp
                  exact hK _ (Below.refl _ _)
                refine steps_cons (fun hn hl => ?_) fun H7 => ?_
                · skip
                  have h30 := Sp.of_c (H5 (hn 5 (show 5 ∈ [5, 6] from .head _)))
                  have h31 := Sp.of_c (H6 (hn 6 (show 6 ∈ [5, 6] from .tail _ (.head _))))
                  clear hn hl H0 H1 H2 H3 H4 H5 H6
                  refine stepC (wanted_free rfl) fun K hK => ?_
                  go_simp
                  exact hK _ (Below.refl _ _)
                refine steps_cons (fun hn hl => ?_) fun H8 => ?_
                · skip
                  have h32 := Sp.of_c (H7 (hn 7 (show 7 ∈ [7] from .head _)))
                  clear hn hl H0 H1 H2 H3 H4 H5 H6 H7
                  refine stepC (wanted_free rfl) fun K hK => ?_
                  go_simp
                  exact hK _ (Below.refl _ _)
                refine steps_cons (fun hn hl => ?_) fun H9 => ?_
                · skip
                  have h33 := Sp.of_c (H8 (hn 8 (show 8 ∈ [8] from .head _)))
                  clear hn hl H0 H1 H2 H3 H4 H5 H6 H7 H8
                  refine stepC (wanted_free rfl) fun K hK => ?_
                  go_simp
                  exact hK _ (Below.refl _ _)
                refine steps_cons (fun hn hl => ?_) fun H10 => ?_
                · skip
                  have h29 := Sp.of_c (H4 (hn 4 (show 4 ∈ [4, 9] from .head _)))
                  have h34 := Sp.of_c (H9 (hn 9 (show 9 ∈ [4, 9] from .tail _ (.head _))))
                  clear hn hl H0 H1 H2 H3 H4 H5 H6 H7 H8 H9
                  refine stepC (wanted_free rfl) fun K hK => ?_
                  go_simp
                  exact hK _ (Below.refl _ _)
                refine steps_cons (fun hn hl => ?_) fun H11 => ?_
                · skip
                  have h35 := Sp.of_c (H10 (hn 10 (show 10 ∈ [10] from .head _)))
                  clear hn hl H0 H1 H2 H3 H4 H5 H6 H7 H8 H9 H10
                  refine stepC (wanted_free rfl) fun K hK => ?_
                  go_simp
                  exact hK _ (Below.refl _ _)
                refine steps_cons (fun hn hl => ?_) fun H12 => ?_
                · skip
                  have h36 := Sp.of_c (H11 (hn 11 (show 11 ∈ [11] from .head _)))
                  clear hn hl H0 H1 H2 H3 H4 H5 H6 H7 H8 H9 H10 H11
                  exact stepN (unwanted_guard rfl rfl h36 rfl)
                refine steps_cons (fun hn hl => ?_) fun H13 => ?_
                · skip
                  have h36 := Sp.of_c (H11 (hn 11 (show 11 ∈ [11] from .head _)))
                  clear hn hl H0 H1 H2 H3 H4 H5 H6 H7 H8 H9 H10 H11 H12
                  exact stepN (unwanted_guard rfl rfl h36 rfl)
                refine steps_cons (fun hn hl => ?_) fun H14 => ?_
                · skip
                  have h36 := Sp.of_c (H11 (hn 11 (show 11 ∈ [11] from .head _)))
                  clear hn hl H0 H1 H2 H3 H4 H5 H6 H7 H8 H9 H10 H11 H12 H13
                  exact stepN (unwanted_guard rfl rfl h36 rfl)
                refine steps_cons (fun hn hl => ?_) fun H15 => ?_
                · skip
                  have h39 := Sp.of_off (H14 (hn 14 (show 14 ∈ [14, 11] from .head _))) rfl
                  have h36 := Sp.of_c (H11 (hn 11 (show 11 ∈ [14, 11] from .tail _ (.head _))))
                  clear hn hl H0 H1 H2 H3 H4 H5 H6 H7 H8 H9 H10 H11 H12 H13 H14
                  exact stepN (unwanted_guard rfl rfl h36 rfl)
                refine steps_cons (fun hn hl => ?_) fun H16 => ?_
                · skip
                  have h37 := Sp.of_off (H12 (hn 12 (show 12 ∈ [12, 13, 15, 11] from .head _))) rfl
                  have h38 := Sp.of_off (H13 (hn 13 (show 13 ∈ [12, 13, 15, 11] from .tail _ (.head _)))) rfl
                  have h40 := Sp.of_off (H15 (hn 15 (show 15 ∈ [12, 13, 15, 11] from .tail _ (.tail _ (.head _))))) rfl
                  have h36 := Sp.of_c (H11 (hn 11 (show 11 ∈ [12, 13, 15, 11] from .tail _ (.tail _ (.tail _ (.head _))))))
                  clear hn hl H0 H1 H2 H3 H4 H5 H6 H7 H8 H9 H10 H11 H12 H13 H14 H15
                  exact stepN (unwanted_guard rfl rfl h36 rfl)
                refine steps_cons (fun hn hl => ?_) fun H17 => ?_
                · skip
                  have h36 := Sp.of_c (H11 (hn 11 (show 11 ∈ [11] from .head _)))
                  clear hn hl H0 H1 H2 H3 H4 H5 H6 H7 H8 H9 H10 H11 H12 H13 H14 H15 H16
                  exact stepN (unwanted_guard rfl rfl h36 rfl)
                refine steps_cons (fun hn hl => ?_) fun H18 => ?_
                · skip
                  have h36 := Sp.of_c (H11 (hn 11 (show 11 ∈ [11] from .head _)))
                  clear hn hl H0 H1 H2 H3 H4 H5 H6 H7 H8 H9 H10 H11 H12 H13 H14 H15 H16 H17
                  exact stepN (unwanted_guard rfl rfl h36 rfl)
                refine steps_cons (fun hn hl => ?_) fun H19 => ?_
                · skip
                  have h42 := Sp.of_off (H17 (hn 17 (show 17 ∈ [17, 18, 11] from .head _))) rfl
                  have h43 := Sp.of_off (H18 (hn 18 (show 18 ∈ [17, 18, 11] from .tail _ (.head _)))) rfl
                  have h36 := Sp.of_c (H11 (hn 11 (show 11 ∈ [17, 18, 11] from .tail _ (.tail _ (.head _)))))
                  clear hn hl H0 H1 H2 H3 H4 H5 H6 H7 H8 H9 H10 H11 H12 H13 H14 H15 H16 H17 H18
                  exact stepN (unwanted_guard rfl rfl h36 rfl)
                refine steps_cons (fun hn hl => ?_) fun H20 => ?_
                · skip
                  have h44 := Sp.of_off (H19 (hn 19 (show 19 ∈ [19, 11] from .head _))) rfl
                  have h36 := Sp.of_c (H11 (hn 11 (show 11 ∈ [19, 11] from .tail _ (.head _))))
                  clear hn hl H0 H1 H2 H3 H4 H5 H6 H7 H8 H9 H10 H11 H12 H13 H14 H15 H16 H17 H18 H19
                  exact stepN (unwanted_guard rfl rfl h36 rfl)
                refine steps_cons (fun hn hl => ?_) fun H21 => ?_
                · skip
                  have h45 := Sp.of_off (H20 (hn 20 (show 20 ∈ [20, 11] from .head _))) rfl
                  have h36 := Sp.of_c (H11 (hn 11 (show 11 ∈ [20, 11] from .tail _ (.head _))))
                  clear hn hl H0 H1 H2 H3 H4 H5 H6 H7 H8 H9 H10 H11 H12 H13 H14 H15 H16 H17 H18 H19 H20
                  exact stepN (unwanted_guard rfl rfl h36 rfl)
                refine steps_cons (fun hn hl => ?_) fun H22 => ?_
                · skip
                  have h36 := Sp.of_c (H11 (hn 11 (show 11 ∈ [11] from .head _)))
                  clear hn hl H0 H1 H2 H3 H4 H5 H6 H7 H8 H9 H10 H11 H12 H13 H14 H15 H16 H17 H18 H19 H20 H21
                  exact stepN (unwanted_guard rfl rfl h36 rfl)
                refine steps_cons (fun hn hl => ?_) fun H23 => ?_
                · skip
                  have h36 := Sp.of_c (H11 (hn 11 (show 11 ∈ [11] from .head _)))
                  clear hn hl H0 H1 H2 H3 H4 H5 H6 H7 H8 H9 H10 H11 H12 H13 H14 H15 H16 H17 H18 H19 H20 H21 H22
                  exact stepN (unwanted_guard rfl rfl h36 rfl)
                refine steps_cons (fun hn hl => ?_) fun H24 => ?_
                · skip
                  have h47 := Sp.of_off (H22 (hn 22 (show 22 ∈ [22, 23, 11] from .head _))) rfl
                  have h48 := Sp.of_off (H23 (hn 23 (show 23 ∈ [22, 23, 11] from .tail _ (.head _)))) rfl
                  have h36 := Sp.of_c (H11 (hn 11 (show 11 ∈ [22, 23, 11] from .tail _ (.tail _ (.head _)))))
                  clear hn hl H0 H1 H2 H3 H4 H5 H6 H7 H8 H9 H10 H11 H12 H13 H14 H15 H16 H17 H18 H19 H20 H21 H22 H23
                  exact stepN (unwanted_guard rfl rfl h36 rfl)
                refine steps_cons (fun hn hl => ?_) fun H25 => ?_
                · skip
                  have h49 := Sp.of_off (H24 (hn 24 (show 24 ∈ [24, 11] from .head _))) rfl
                  have h36 := Sp.of_c (H11 (hn 11 (show 11 ∈ [24, 11] from .tail _ (.head _))))
                  clear hn hl H0 H1 H2 H3 H4 H5 H6 H7 H8 H9 H10 H11 H12 H13 H14 H15 H16 H17 H18 H19 H20 H21 H22 H23 H24
                  exact stepN (unwanted_guard rfl rfl h36 rfl)
                refine steps_cons (fun hn hl => ?_) fun H26 => ?_
                · skip
                  have h50 := Sp.of_off (H25 (hn 25 (show 25 ∈ [25, 11] from .head _))) rfl
                  have h36 := Sp.of_c (H11 (hn 11 (show 11 ∈ [25, 11] from .tail _ (.head _))))
                  clear hn hl H0 H1 H2 H3 H4 H5 H6 H7 H8 H9 H10 H11 H12 H13 H14 H15 H16 H17 H18 H19 H20 H21 H22 H23 H24 H25
                  exact stepN (unwanted_guard rfl rfl h36 rfl)
                refine steps_cons (fun hn hl => ?_) fun H27 => ?_
                · skip
                  have h36 := Sp.of_c (H11 (hn 11 (show 11 ∈ [11] from .head _)))
                  clear hn hl H0 H1 H2 H3 H4 H5 H6 H7 H8 H9 H10 H11 H12 H13 H14 H15 H16 H17 H18 H19 H20 H21 H22 H23 H24 H25 H26
                  exact stepN (unwanted_guard rfl rfl h36 rfl)
                refine steps_cons (fun hn hl => ?_) fun H28 => ?_
                · skip
                  have h36 := Sp.of_c (H11 (hn 11 (show 11 ∈ [11] from .head _)))
                  clear hn hl H0 H1 H2 H3 H4 H5 H6 H7 H8 H9 H10 H11 H12 H13 H14 H15 H16 H17 H18 H19 H20 H21 H22 H23 H24 H25 H26 H27
                  exact stepN (unwanted_guard rfl rfl h36 rfl)
                refine steps_cons (fun hn hl => ?_) fun H29 => ?_
                · skip
                  have h52 := Sp.of_off (H27 (hn 27 (show 27 ∈ [27, 28, 11] from .head _))) rfl
                  have h53 := Sp.of_off (H28 (hn 28 (show 28 ∈ [27, 28, 11] from .tail _ (.head _)))) rfl
                  have h36 := Sp.of_c (H11 (hn 11 (show 11 ∈ [27, 28, 11] from .tail _ (.tail _ (.head _)))))
                  clear hn hl H0 H1 H2 H3 H4 H5 H6 H7 H8 H9 H10 H11 H12 H13 H14 H15 H16 H17 H18 H19 H20 H21 H22 H23 H24 H25 H26 H27 H28
                  exact stepN (unwanted_guard rfl rfl h36 rfl)
                refine steps_cons (fun hn hl => ?_) fun H30 => ?_
                · skip
                  have h54 := Sp.of_off (H29 (hn 29 (show 29 ∈ [29, 11] from .head _))) rfl
                  have h36 := Sp.of_c (H11 (hn 11 (show 11 ∈ [29, 11] from .tail _ (.head _))))
                  clear hn hl H0 H1 H2 H3 H4 H5 H6 H7 H8 H9 H10 H11 H12 H13 H14 H15 H16 H17 H18 H19 H20 H21 H22 H23 H24 H25 H26 H27 H28 H29
                  exact stepN (unwanted_guard rfl rfl h36 rfl)
                refine steps_cons (fun hn hl => ?_) fun H31 => ?_
                · skip
                  have h55 := Sp.of_off (H30 (hn 30 (show 30 ∈ [30, 11] from .head _))) rfl
                  have h36 := Sp.of_c (H11 (hn 11 (show 11 ∈ [30, 11] from .tail _ (.head _))))
                  clear hn hl H0 H1 H2 H3 H4 H5 H6 H7 H8 H9 H10 H11 H12 H13 H14 H15 H16 H17 H18 H19 H20 H21 H22 H23 H24 H25 H26 H27 H28 H29 H30
                  exact stepN (unwanted_guard rfl rfl h36 rfl)
                refine steps_cons (fun hn hl => ?_) fun H32 => ?_
                · skip
                  have h41 := Sp.of_off (H16 (hn 16 (show 16 ∈ [16, 21, 26, 31, 11] from .head _))) rfl
                  have h46 := Sp.of_off (H21 (hn 21 (show 21 ∈ [16, 21, 26, 31, 11] from .tail _ (.head _)))) rfl
                  have h51 := Sp.of_off (H26 (hn 26 (show 26 ∈ [16, 21, 26, 31, 11] from .tail _ (.tail _ (.head _))))) rfl
                  have h56 := Sp.of_off (H31 (hn 31 (show 31 ∈ [16, 21, 26, 31, 11] from .tail _ (.tail _ (.tail _ (.head _)))))) rfl
                  have h36 := Sp.of_c (H11 (hn 11 (show 11 ∈ [16, 21, 26, 31, 11] from .tail _ (.tail _ (.tail _ (.tail _ (.head _)))))))
                  clear hn hl H0 H1 H2 H3 H4 H5 H6 H7 H8 H9 H10 H11 H12 H13 H14 H15 H16 H17 H18 H19 H20 H21 H22 H23 H24 H25 H26 H27 H28 H29 H30 H31
                  exact stepN (unwanted_guard rfl rfl h36 rfl)
                refine steps_cons (fun hn hl => ?_) fun H33 => ?_
                · skip
                  have h36 := Sp.of_c (H11 (hn 11 (show 11 ∈ [11, 32] from .head _)))
                  have h57 := Sp.of_off (H32 (hn 32 (show 32 ∈ [11, 32] from .tail _ (.head _)))) rfl
                  clear hn hl H0 H1 H2 H3 H4 H5 H6 H7 H8 H9 H10 H11 H12 H13 H14 H15 H16 H17 H18 H19 H20 H21 H22 H23 H24 H25 H26 H27 H28 H29 H30 H31 H32
                  refine stepC (wanted_free rfl) fun K hK => ?_
                  go_simp
                  exact hK _ (Below.refl _ _)
                exact trivial
              · intro w5 hb5
                have hz5 := hb5.size
                refine end_cons ?_; rintro _ rfl
                refine end_cons ?_; rintro _ rfl
                refine end_cons ?_; rintro _ rfl
                refine end_cons ?_; rintro _ rfl
                refine end_cons ?_; rintro _ rfl
                refine end_cons ?_; rintro _ rfl
                refine end_cons ?_; rintro _ rfl
                refine end_cons ?_; rintro _ rfl
                refine end_cons ?_; rintro _ rfl
                refine end_cons ?_; rintro _ rfl
                refine end_cons ?_; rintro _ rfl
                refine end_cons ?_; rintro _ rfl
                refine end_cons ?_; rintro _ rfl
                refine end_cons ?_; rintro _ rfl
                refine end_cons ?_; rintro _ rfl
                refine end_cons ?_; rintro _ rfl
                refine end_cons ?_; rintro _ rfl
                refine end_cons ?_; rintro _ rfl
                refine end_cons ?_; rintro _ rfl
                refine end_cons ?_; rintro _ rfl
                refine end_cons ?_; rintro _ rfl
                refine end_cons ?_; rintro _ rfl
                refine end_cons ?_; rintro _ rfl
                refine end_cons ?_; rintro _ rfl
                refine end_cons ?_; rintro _ rfl
                refine end_cons ?_; rintro _ rfl
                refine end_cons ?_; rintro _ rfl
                refine end_cons ?_; rintro _ rfl
                refine end_cons ?_; rintro _ rfl
                refine end_cons ?_; rintro _ rfl
                refine end_cons ?_; rintro _ rfl
                refine end_cons ?_; rintro _ rfl
                refine end_cons ?_; rintro _ rfl
                refine end_cons ?_; rintro _ rfl
                refine end_nil ?_
                simp only [List.setIfInBounds_toArray, List.set_cons_succ, List.set_cons_zero, Bool.not_false, Bool.not_true, Bool.true_or, Bool.or_true, Bool.false_or, Bool.or_false]
                go_wp2
                go_ret
                exact ⟨by rw [E.out]; rfl, kk9.trans (hb5.mono kk9.size)⟩
            · have hqq : decide (s.id ≤ c.id) = false := decide_eq_false hq
              by_cases hm : Meet c s.node s.frm s.til
              · rw [show meetsB [c] s.node s.frm s.til = true from decide_eq_true ((meets_one _ _ _ _).2 hm)] at HM
                have E : Hid (rightBk l n = false) := Lib.hid (decide_eq_false (fun x => ((HN.out.1 x.1).1.2 c HIN.out).2 hm))
                clear HN HNX hq hm
                go_wp2_with fail
                refine region_mono (rbSp b off l.length cap j k c.id s false true) [25, 26, 27, 28, 29, 30, 31, 32, 33, 34, 35, 36, 37, 38, 39, 40, 41, 42, 43, 44, 45, 46, 47, 48, 49, 50, 51, 52, 53, 54, 55, 56, 57, 58] (by kernel_rfl) (by kernel_rfl) (by kernel_rfl) (by kernel_rfl) (stables_cons (Sp.c_stable _ _) (stables_cons (Sp.c_stable _ _) (stables_cons (Sp.c_stable _ _) (stables_cons (Sp.c_stable _ _) (stables_cons (Sp.c_stable _ _) (stables_cons (Sp.c_stable _ _) (stables_cons (Sp.c_stable _ _) (stables_cons (Sp.c_stable _ _) (stables_cons (Sp.c_stable _ _) (stables_cons (Sp.c_stable _ _) (stables_cons (Sp.c_stable _ _) (stables_cons (Sp.c_stable _ _) (stables_cons (Sp.g_stable _ _ _) (stables_cons (Sp.g_stable _ _ _) (stables_cons (Sp.g_stable _ _ _) (stables_cons (Sp.g_stable _ _ _) (stables_cons (Sp.g_stable _ _ _) (stables_cons (Sp.g_stable _ _ _) (stables_cons (Sp.g_stable _ _ _) (stables_cons (Sp.g_stable _ _ _) (stables_cons (Sp.g_stable _ _ _) (stables_cons (Sp.g_stable _ _ _) (stables_cons (Sp.g_stable _ _ _) (stables_cons (Sp.g_stable _ _ _) (stables_cons (Sp.g_stable _ _ _) (stables_cons (Sp.g_stable _ _ _) (stables_cons (Sp.g_stable _ _ _) (stables_cons (Sp.g_stable _ _ _) (stables_cons (Sp.g_stable _ _ _) (stables_cons (Sp.g_stable _ _ _) (stables_cons (Sp.g_stable _ _ _) (stables_cons (Sp.g_stable _ _ _) (stables_cons (Sp.g_stable _ _ _) (stables_cons (Sp.c_stable _ _) (trivial))))))))))))))))))))))))))))))))))) ?_ ?_
                · intro am wm L hbm hbase hbase2
                  have s0 : am.tmps.getD 0 undef = .slice (some ⟨b, off, none⟩) l.length cap := (hbase 0 rfl).trans (by simp only [Array.getD_eq_getD_getElem?, List.getElem?_toArray, List.getElem?_cons_succ, List.getElem?_cons_zero, Option.getD_some])
                  have s5 : am.tmps.getD 5 undef = .int .i64 (k : Int) := (hbase 5 rfl).trans (by simp only [Array.getD_eq_getD_getElem?, List.getElem?_toArray, List.getElem?_cons_succ, List.getElem?_cons_zero, Option.getD_some])
                  have s6 : am.tmps.getD 6 undef = .int .i64 (j : Int) := (hbase 6 rfl).trans (by simp only [Array.getD_eq_getD_getElem?, List.getElem?_toArray, List.getElem?_cons_succ, List.getElem?_cons_zero, Option.getD_some])
                  clear hbase hbase2
                  have m0 := carry hbm z0
                  have m1 := carry hbm z1
                  have m2 := carry hbm z2
                  have m3 := carry hbm z3
                  have m4 := carry hbm p0
                  refine steps_cons (fun hn hl => ?_) fun H0 => ?_
                  · skip
                    clear hn hl 
                    refine stepC (wanted_free rfl) fun K hK => ?_
                    go_simp
                    exact hK _ (Below.refl _ _)
                  refine steps_cons (fun hn hl => ?_) fun H1 => ?_
                  · skip
                    clear hn hl H0
                    refine stepC (wanted_free rfl) fun K hK => ?_
                    go_simp
                    exact hK _ (Below.refl _ _)
                  refine steps_cons (fun hn hl => ?_) fun H2 => ?_
                  · skip
                    have h25 := Sp.of_c (H0 (hn 0 (show 0 ∈ [0, 1] from .head _)))
                    have h26 := Sp.of_c (H1 (hn 1 (show 1 ∈ [0, 1] from .tail _ (.head _))))
                    clear hn hl H0 H1
                    refine stepC (wanted_free rfl) fun K hK => ?_
                    go_simp
                    exact hK _ (Below.refl _ _)
                  refine steps_cons (fun hn hl => ?_) fun H3 => ?_
                  · skip
                    have h27 := Sp.of_c (H2 (hn 2 (show 2 ∈ [2] from .head _)))
                    clear hn hl H0 H1 H2
                    refine stepC (wanted_free rfl) fun K hK => ?_
                    go_simp
                    exact hK _ (Below.refl _ _)
                  refine steps_cons (fun hn hl => ?_) fun H4 => ?_
                  · skip
                    have h28 := Sp.of_c (H3 (hn 3 (show 3 ∈ [3] from .head _)))
                    clear hn hl H0 H1 H2 H3
                    refine stepC (wanted_free rfl) fun K hK => ?_
                    go_simp
                    exact hK _ (Below.refl _ _)
                  refine steps_cons (fun hn hl => ?_) fun H5 => ?_
                  · skip
                    clear hn hl H0 H1 H2 H3 H4
                    refine stepC (wanted_free rfl) fun K hK => ?_
                    go_simp
                    exact hK _ (Below.refl _ _)
                  refine steps_cons (fun hn hl => ?_) fun H6 => ?_
                  · skip
                    clear hn hl H0 H1 H2 H3 H4 H5
                    refine stepC (wanted_free rfl) fun K hK => ?_
                    go_simp
                    exact hK _ (Below.refl _ _)
                  refine steps_cons (fun hn hl => ?_) fun H7 => ?_
                  · skip
                    have h30 := Sp.of_c (H5 (hn 5 (show 5 ∈ [5, 6] from .head _)))
                    have h31 := Sp.of_c (H6 (hn 6 (show 6 ∈ [5, 6] from .tail _ (.head _))))
                    clear hn hl H0 H1 H2 H3 H4 H5 H6
                    refine stepC (wanted_free rfl) fun K hK => ?_
                    go_simp
                    exact hK _ (Below.refl _ _)
                  refine steps_cons (fun hn hl => ?_) fun H8 => ?_
                  · skip
                    have h32 := Sp.of_c (H7 (hn 7 (show 7 ∈ [7] from .head _)))
                    clear hn hl H0 H1 H2 H3 H4 H5 H6 H7
                    refine stepC (wanted_free rfl) fun K hK => ?_
                    go_simp
                    exact hK _ (Below.refl _ _)
                  refine steps_cons (fun hn hl => ?_) fun H9 => ?_
                  · skip
                    have h33 := Sp.of_c (H8 (hn 8 (show 8 ∈ [8] from .head _)))
                    clear hn hl H0 H1 H2 H3 H4 H5 H6 H7 H8
                    refine stepC (wanted_free rfl) fun K hK => ?_
                    go_simp
                    exact hK _ (Below.refl _ _)
                  refine steps_cons (fun hn hl => ?_) fun H10 => ?_
                  · skip
                    have h29 := Sp.of_c (H4 (hn 4 (show 4 ∈ [4, 9] from .head _)))
                    have h34 := Sp.of_c (H9 (hn 9 (show 9 ∈ [4, 9] from .tail _ (.head _))))
                    clear hn hl H0 H1 H2 H3 H4 H5 H6 H7 H8 H9
                    refine stepC (wanted_free rfl) fun K hK => ?_
                    go_simp
                    exact hK _ (Below.refl _ _)
                  refine steps_cons (fun hn hl => ?_) fun H11 => ?_
                  · skip
                    have h35 := Sp.of_c (H10 (hn 10 (show 10 ∈ [10] from .head _)))
                    clear hn hl H0 H1 H2 H3 H4 H5 H6 H7 H8 H9 H10
                    refine stepC (wanted_free rfl) fun K hK => ?_
                    go_simp
                    exact hK _ (Below.refl _ _)
                  refine steps_cons (fun hn hl => ?_) fun H12 => ?_
                  · skip
                    have h36 := Sp.of_c (H11 (hn 11 (show 11 ∈ [11] from .head _)))
                    clear hn hl H0 H1 H2 H3 H4 H5 H6 H7 H8 H9 H10 H11
                    refine stepC (wanted_guard rfl rfl h36 rfl) fun K hK => ?_
                    go_simp
                    exact hK _ (Below.refl _ _)
                  refine steps_cons (fun hn hl => ?_) fun H13 => ?_
                  · skip
                    have h36 := Sp.of_c (H11 (hn 11 (show 11 ∈ [11] from .head _)))
                    clear hn hl H0 H1 H2 H3 H4 H5 H6 H7 H8 H9 H10 H11 H12
                    refine stepC (wanted_guard rfl rfl h36 rfl) fun K hK => ?_
                    go_simp
                    exact hK _ (Below.refl _ _)
                  refine steps_cons (fun hn hl => ?_) fun H14 => ?_
                  · skip
                    have h36 := Sp.of_c (H11 (hn 11 (show 11 ∈ [11] from .head _)))
                    clear hn hl H0 H1 H2 H3 H4 H5 H6 H7 H8 H9 H10 H11 H12 H13
                    refine stepC (wanted_guard rfl rfl h36 rfl) fun K hK => ?_
                    go_simp
                    exact hK _ (Below.refl _ _)
                  refine steps_cons (fun hn hl => ?_) fun H15 => ?_
                  · skip
                    have h39 := Sp.of_g (H14 (hn 14 (show 14 ∈ [14, 11] from .head _))) rfl
                    have h36 := Sp.of_c (H11 (hn 11 (show 11 ∈ [14, 11] from .tail _ (.head _))))
                    clear hn hl H0 H1 H2 H3 H4 H5 H6 H7 H8 H9 H10 H11 H12 H13 H14
                    refine stepC (wanted_guard rfl rfl h36 rfl) fun K hK => ?_
                    go_simp
                    exact hK _ (Below.refl _ _)
                  refine steps_cons (fun hn hl => ?_) fun H16 => ?_
                  · skip
                    have h37 := Sp.of_g (H12 (hn 12 (show 12 ∈ [12, 13, 15, 11] from .head _))) rfl
                    have h38 := Sp.of_g (H13 (hn 13 (show 13 ∈ [12, 13, 15, 11] from .tail _ (.head _)))) rfl
                    have h40 := Sp.of_g (H15 (hn 15 (show 15 ∈ [12, 13, 15, 11] from .tail _ (.tail _ (.head _))))) rfl
                    have h36 := Sp.of_c (H11 (hn 11 (show 11 ∈ [12, 13, 15, 11] from .tail _ (.tail _ (.tail _ (.head _))))))
                    clear hn hl H0 H1 H2 H3 H4 H5 H6 H7 H8 H9 H10 H11 H12 H13 H14 H15
                    refine stepC (wanted_guard rfl rfl h36 rfl) fun K hK => ?_
                    go_simp
                    exact hK _ (Below.refl _ _)
                  refine steps_cons (fun hn hl => ?_) fun H17 => ?_
                  · skip
                    have h36 := Sp.of_c (H11 (hn 11 (show 11 ∈ [11] from .head _)))
                    clear hn hl H0 H1 H2 H3 H4 H5 H6 H7 H8 H9 H10 H11 H12 H13 H14 H15 H16
                    refine stepC (wanted_guard rfl rfl h36 rfl) fun K hK => ?_
                    go_simp
                    exact hK _ (Below.refl _ _)
                  refine steps_cons (fun hn hl => ?_) fun H18 => ?_
                  · skip
                    have h36 := Sp.of_c (H11 (hn 11 (show 11 ∈ [11] from .head _)))
                    clear hn hl H0 H1 H2 H3 H4 H5 H6 H7 H8 H9 H10 H11 H12 H13 H14 H15 H16 H17
                    refine stepC (wanted_guard rfl rfl h36 rfl) fun K hK => ?_
                    go_simp
                    exact hK _ (Below.refl _ _)
                  refine steps_cons (fun hn hl => ?_) fun H19 => ?_
                  · skip
                    have h42 := Sp.of_g (H17 (hn 17 (show 17 ∈ [17, 18, 11] from .head _))) rfl
                    have h43 := Sp.of_g (H18 (hn 18 (show 18 ∈ [17, 18, 11] from .tail _ (.head _)))) rfl
                    have h36 := Sp.of_c (H11 (hn 11 (show 11 ∈ [17, 18, 11] from .tail _ (.tail _ (.head _)))))
                    clear hn hl H0 H1 H2 H3 H4 H5 H6 H7 H8 H9 H10 H11 H12 H13 H14 H15 H16 H17 H18
                    refine stepC (wanted_guard rfl rfl h36 rfl) fun K hK => ?_
                    go_simp
                    exact hK _ (Below.refl _ _)
                  refine steps_cons (fun hn hl => ?_) fun H20 => ?_
                  · skip
                    have h44 := Sp.of_g (H19 (hn 19 (show 19 ∈ [19, 11] from .head _))) rfl
                    have h36 := Sp.of_c (H11 (hn 11 (show 11 ∈ [19, 11] from .tail _ (.head _))))
                    clear hn hl H0 H1 H2 H3 H4 H5 H6 H7 H8 H9 H10 H11 H12 H13 H14 H15 H16 H17 H18 H19
                    refine stepC (wanted_guard rfl rfl h36 rfl) fun K hK => ?_
                    go_simp
                    exact hK _ (Below.refl _ _)
                  refine steps_cons (fun hn hl => ?_) fun H21 => ?_
                  · skip
                    have h45 := Sp.of_g (H20 (hn 20 (show 20 ∈ [20, 11] from .head _))) rfl
                    have h36 := Sp.of_c (H11 (hn 11 (show 11 ∈ [20, 11] from .tail _ (.head _))))
                    clear hn hl H0 H1 H2 H3 H4 H5 H6 H7 H8 H9 H10 H11 H12 H13 H14 H15 H16 H17 H18 H19 H20
                    refine stepC (wanted_guard rfl rfl h36 rfl) fun K hK => ?_
                    go_simp
                    exact hK _ (Below.refl _ _)
                  refine steps_cons (fun hn hl => ?_) fun H22 => ?_
                  · skip
                    have h36 := Sp.of_c (H11 (hn 11 (show 11 ∈ [11] from .head _)))
                    clear hn hl H0 H1 H2 H3 H4 H5 H6 H7 H8 H9 H10 H11 H12 H13 H14 H15 H16 H17 H18 H19 H20 H21
                    refine stepC (wanted_guard rfl rfl h36 rfl) fun K hK => ?_
                    go_simp
                    exact hK _ (Below.refl _ _)
                  refine steps_cons (fun hn hl => ?_) fun H23 => ?_
                  · skip
                    have h36 := Sp.of_c (H11 (hn 11 (show 11 ∈ [11] from .head _)))
                    clear hn hl H0 H1 H2 H3 H4 H5 H6 H7 H8 H9 H10 H11 H12 H13 H14 H15 H16 H17 H18 H19 H20 H21 H22
                    refine stepC (wanted_guard rfl rfl h36 rfl) fun K hK => ?_
                    go_simp
                    exact hK _ (Below.refl _ _)
                  refine steps_cons (fun hn hl => ?_) fun H24 => ?_
                  · skip
                    have h47 := Sp.of_g (H22 (hn 22 (show 22 ∈ [22, 23, 11] from .head _))) rfl
                    have h48 := Sp.of_g (H23 (hn 23 (show 23 ∈ [22, 23, 11] from .tail _ (.head _)))) rfl
                    have h36 := Sp.of_c (H11 (hn 11 (show 11 ∈ [22, 23, 11] from .tail _ (.tail _ (.head _)))))
                    clear hn hl H0 H1 H2 H3 H4 H5 H6 H7 H8 H9 H10 H11 H12 H13 H14 H15 H16 H17 H18 H19 H20 H21 H22 H23
                    refine stepC (wanted_guard rfl rfl h36 rfl) fun K hK => ?_
                    go_simp
                    exact hK _ (Below.refl _ _)
                  refine steps_cons (fun hn hl => ?_) fun H25 => ?_
                  · skip
                    have h49 := Sp.of_g (H24 (hn 24 (show 24 ∈ [24, 11] from .head _))) rfl
                    have h36 := Sp.of_c (H11 (hn 11 (show 11 ∈ [24, 11] from .tail _ (.head _))))
                    clear hn hl H0 H1 H2 H3 H4 H5 H6 H7 H8 H9 H10 H11 H12 H13 H14 H15 H16 H17 H18 H19 H20 H21 H22 H23 H24
                    refine stepC (wanted_guard rfl rfl h36 rfl) fun K hK => ?_
                    go_simp
                    exact hK _ (Below.refl _ _)
                  refine steps_cons (fun hn hl => ?_) fun H26 => ?_
                  · skip
                    have h50 := Sp.of_g (H25 (hn 25 (show 25 ∈ [25, 11] from .head _))) rfl
                    have h36 := Sp.of_c (H11 (hn 11 (show 11 ∈ [25, 11] from .tail _ (.head _))))
                    clear hn hl H0 H1 H2 H3 H4 H5 H6 H7 H8 H9 H10 H11 H12 H13 H14 H15 H16 H17 H18 H19 H20 H21 H22 H23 H24 H25
                    refine stepC (wanted_guard rfl rfl h36 rfl) fun K hK => ?_
                    go_simp
                    exact hK _ (Below.refl _ _)
                  refine steps_cons (fun hn hl => ?_) fun H27 => ?_
                  · skip
                    have h36 := Sp.of_c (H11 (hn 11 (show 11 ∈ [11] from .head _)))
                    clear hn hl H0 H1 H2 H3 H4 H5 H6 H7 H8 H9 H10 H11 H12 H13 H14 H15 H16 H17 H18 H19 H20 H21 H22 H23 H24 H25 H26
                    refine stepC (wanted_guard rfl rfl h36 rfl) fun K hK => ?_
                    go_simp
                    exact hK _ (Below.refl _ _)
                  refine steps_cons (fun hn hl => ?_) fun H28 => ?_
                  · skip
                    have h36 := Sp.of_c (H11 (hn 11 (show 11 ∈ [11] from .head _)))
                    clear hn hl H0 H1 H2 H3 H4 H5 H6 H7 H8 H9 H10 H11 H12 H13 H14 H15 H16 H17 H18 H19 H20 H21 H22 H23 H24 H25 H26 H27
                    refine stepC (wanted_guard rfl rfl h36 rfl) fun K hK => ?_
                    go_simp
                    exact hK _ (Below.refl _ _)
                  refine steps_cons (fun hn hl => ?_) fun H29 => ?_
                  · skip
                    have h52 := Sp.of_g (H27 (hn 27 (show 27 ∈ [27, 28, 11] from .head _))) rfl
                    have h53 := Sp.of_g (H28 (hn 28 (show 28 ∈ [27, 28, 11] from .tail _ (.head _)))) rfl
                    have h36 := Sp.of_c (H11 (hn 11 (show 11 ∈ [27, 28, 11] from .tail _ (.tail _ (.head _)))))
                    clear hn hl H0 H1 H2 H3 H4 H5 H6 H7 H8 H9 H10 H11 H12 H13 H14 H15 H16 H17 H18 H19 H20 H21 H22 H23 H24 H25 H26 H27 H28
                    refine stepC (wanted_guard rfl rfl h36 rfl) fun K hK => ?_
                    go_simp
                    exact hK _ (Below.refl _ _)
                  refine steps_cons (fun hn hl => ?_) fun H30 => ?_
                  · skip
                    have h54 := Sp.of_g (H29 (hn 29 (show 29 ∈ [29, 11] from .head _))) rfl
                    have h36 := Sp.of_c (H11 (hn 11 (show 11 ∈ [29, 11] from .tail _ (.head _))))
                    clear hn hl H0 H1 H2 H3 H4 H5 H6 H7 H8 H9 H10 H11 H12 H13 H14 H15 H16 H17 H18 H19 H20 H21 H22 H23 H24 H25 H26 H27 H28 H29
                    refine stepC (wanted_guard rfl rfl h36 rfl) fun K hK => ?_
                    go_simp
                    exact hK _ (Below.refl _ _)
                  refine steps_cons (fun hn hl => ?_) fun H31 => ?_
                  · skip
                    have h55 := Sp.of_g (H30 (hn 30 (show 30 ∈ [30, 11] from .head _))) rfl
                    have h36 := Sp.of_c (H11 (hn 11 (show 11 ∈ [30, 11] from .tail _ (.head _))))
                    clear hn hl H0 H1 H2 H3 H4 H5 H6 H7 H8 H9 H10 H11 H12 H13 H14 H15 H16 H17 H18 H19 H20 H21 H22 H23 H24 H25 H26 H27 H28 H29 H30
                    refine stepC (wanted_guard rfl rfl h36 rfl) fun K hK => ?_
                    go_simp
                    exact hK _ (Below.refl _ _)
                  refine steps_cons (fun hn hl => ?_) fun H32 => ?_
                  · skip
                    have h41 := Sp.of_g (H16 (hn 16 (show 16 ∈ [16, 21, 26, 31, 11] from .head _))) rfl
                    have h46 := Sp.of_g (H21 (hn 21 (show 21 ∈ [16, 21, 26, 31, 11] from .tail _ (.head _)))) rfl
                    have h51 := Sp.of_g (H26 (hn 26 (show 26 ∈ [16, 21, 26, 31, 11] from .tail _ (.tail _ (.head _))))) rfl
                    have h56 := Sp.of_g (H31 (hn 31 (show 31 ∈ [16, 21, 26, 31, 11] from .tail _ (.tail _ (.tail _ (.head _)))))) rfl
                    have h36 := Sp.of_c (H11 (hn 11 (show 11 ∈ [16, 21, 26, 31, 11] from .tail _ (.tail _ (.tail _ (.tail _ (.head _)))))))
                    clear hn hl H0 H1 H2 H3 H4 H5 H6 H7 H8 H9 H10 H11 H12 H13 H14 H15 H16 H17 H18 H19 H20 H21 H22 H23 H24 H25 H26 H27 H28 H29 H30 H31
                    refine stepC (wanted_guard rfl rfl h36 rfl) fun K hK => ?_
                    go_simp
                    first
                      | ((with_reducible refine (HM.out _ (HT.out.later hbm)).mono ?_); rintro e w6 ⟨rfl, hb6⟩; exact hK _ hb6)
                  refine steps_cons (fun hn hl => ?_) fun H33 => ?_
                  · skip
                    have h36 := Sp.of_c (H11 (hn 11 (show 11 ∈ [11, 32] from .head _)))
                    have h57 := Sp.of_g (H32 (hn 32 (show 32 ∈ [11, 32] from .tail _ (.head _)))) rfl
                    clear hn hl H0 H1 H2 H3 H4 H5 H6 H7 H8 H9 H10 H11 H12 H13 H14 H15 H16 H17 H18 H19 H20 H21 H22 H23 H24 H25 H26 H27 H28 H29 H30 H31 H32
                    refine stepC (wanted_free rfl) fun K hK => ?_
                    go_simp
                    exact hK _ (Below.refl _ _)
                  exact trivial
                · intro w5 hb5
                  have hz5 := hb5.size
                  refine end_cons ?_; rintro _ rfl
                  refine end_cons ?_; rintro _ rfl
                  refine end_cons ?_; rintro _ rfl
                  refine end_cons ?_; rintro _ rfl
                  refine end_cons ?_; rintro _ rfl
                  refine end_cons ?_; rintro _ rfl
                  refine end_cons ?_; rintro _ rfl
                  refine end_cons ?_; rintro _ rfl
                  refine end_cons ?_; rintro _ rfl
                  refine end_cons ?_; rintro _ rfl
                  refine end_cons ?_; rintro _ rfl
                  refine end_cons ?_; rintro _ rfl
                  refine end_cons ?_; rintro _ rfl
                  refine end_cons ?_; rintro _ rfl
                  refine end_cons ?_; rintro _ rfl
                  refine end_cons ?_; rintro _ rfl
                  refine end_cons ?_; rintro _ rfl
                  refine end_cons ?_; rintro _ rfl
                  refine end_cons ?_; rintro _ rfl
                  refine end_cons ?_; rintro _ rfl
                  refine end_cons ?_; rintro _ rfl
                  refine end_cons ?_; rintro _ rfl
                  refine end_cons ?_; rintro _ rfl
                  refine end_cons ?_; rintro _ rfl
                  refine end_cons ?_; rintro _ rfl
                  refine end_cons ?_; rintro _ rfl
                  refine end_cons ?_; rintro _ rfl
                  refine end_cons ?_; rintro _ rfl
                  refine end_cons ?_; rintro _ rfl
                  refine end_cons ?_; rintro _ rfl
                  refine end_cons ?_; rintro _ rfl
                  refine end_cons ?_; rintro _ rfl
                  refine end_cons ?_; rintro _ rfl
                  refine end_cons ?_; rintro _ rfl
                  refine end_nil ?_
                  simp only [List.setIfInBounds_toArray, List.set_cons_succ, List.set_cons_zero, Bool.not_false, Bool.not_true, Bool.true_or, Bool.or_true, Bool.false_or, Bool.or_false]
                  go_wp2
                  go_ret
                  exact ⟨by rw [E.out]; rfl, kk9.trans (hb5.mono kk9.size)⟩
              · rw [show meetsB [c] s.node s.frm s.til = false from decide_eq_false (fun x => hm ((meets_one _ _ _ _).1 x))] at HM
                have HX := Lib.hid (HNX.out (by omega) hm)
                clear HN HNX hq hm
                go_wp2_with fail
                refine region_mono (rbSp b off l.length cap j k c.id s false false) [25, 26, 27, 28, 29, 30, 31, 32, 33, 34, 35, 36, 37, 38, 39, 40, 41, 42, 43, 44, 45, 46, 47, 48, 49, 50, 51, 52, 53, 54, 55, 56, 57, 58] (by kernel_rfl) (by kernel_rfl) (by kernel_rfl) (by kernel_rfl) (stables_cons (Sp.c_stable _ _) (stables_cons (Sp.c_stable _ _) (stables_cons (Sp.c_stable _ _) (stables_cons (Sp.c_stable _ _) (stables_cons (Sp.c_stable _ _) (stables_cons (Sp.c_stable _ _) (stables_cons (Sp.c_stable _ _) (stables_cons (Sp.c_stable _ _) (stables_cons (Sp.c_stable _ _) (stables_cons (Sp.c_stable _ _) (stables_cons (Sp.c_stable _ _) (stables_cons (Sp.c_stable _ _) (stables_cons (Sp.g_stable _ _ _) (stables_cons (Sp.g_stable _ _ _) (stables_cons (Sp.g_stable _ _ _) (stables_cons (Sp.g_stable _ _ _) (stables_cons (Sp.g_stable _ _ _) (stables_cons (Sp.g_stable _ _ _) (stables_cons (Sp.g_stable _ _ _) (stables_cons (Sp.g_stable _ _ _) (stables_cons (Sp.g_stable _ _ _) (stables_cons (Sp.g_stable _ _ _) (stables_cons (Sp.g_stable _ _ _) (stables_cons (Sp.g_stable _ _ _) (stables_cons (Sp.g_stable _ _ _) (stables_cons (Sp.g_stable _ _ _) (stables_cons (Sp.g_stable _ _ _) (stables_cons (Sp.g_stable _ _ _) (stables_cons (Sp.g_stable _ _ _) (stables_cons (Sp.g_stable _ _ _) (stables_cons (Sp.g_stable _ _ _) (stables_cons (Sp.g_stable _ _ _) (stables_cons (Sp.g_stable _ _ _) (stables_cons (Sp.c_stable _ _) (trivial))))))))))))))))))))))))))))))))))) ?_ ?_
                · intro am wm L hbm hbase hbase2
                  have s0 : am.tmps.getD 0 undef = .slice (some ⟨b, off, none⟩) l.length cap := (hbase 0 rfl).trans (by simp only [Array.getD_eq_getD_getElem?, List.getElem?_toArray, List.getElem?_cons_succ, List.getElem?_cons_zero, Option.getD_some])
                  have s5 : am.tmps.getD 5 undef = .int .i64 (k : Int) := (hbase 5 rfl).trans (by simp only [Array.getD_eq_getD_getElem?, List.getElem?_toArray, List.getElem?_cons_succ, List.getElem?_cons_zero, Option.getD_some])
                  have s6 : am.tmps.getD 6 undef = .int .i64 (j : Int) := (hbase 6 rfl).trans (by simp only [Array.getD_eq_getD_getElem?, List.getElem?_toArray, List.getElem?_cons_succ, List.getElem?_cons_zero, Option.getD_some])
                  clear hbase hbase2
                  have m0 := carry hbm z0
                  have m1 := carry hbm z1
                  have m2 := carry hbm z2
                  have m3 := carry hbm z3
                  have m4 := carry hbm p0
                  refine steps_cons (fun hn hl => ?_) fun H0 => ?_
                  · skip
                    clear hn hl 
                    refine stepC (wanted_free rfl) fun K hK => ?_
                    go_simp
                    exact hK _ (Below.refl _ _)
                  refine steps_cons (fun hn hl => ?_) fun H1 => ?_
                  · skip
                    clear hn hl H0
                    refine stepC (wanted_free rfl) fun K hK => ?_
                    go_simp
                    exact hK _ (Below.refl _ _)
                  refine steps_cons (fun hn hl => ?_) fun H2 => ?_
                  · skip
                    have h25 := Sp.of_c (H0 (hn 0 (show 0 ∈ [0, 1] from .head _)))
                    have h26 := Sp.of_c (H1 (hn 1 (show 1 ∈ [0, 1] from .tail _ (.head _))))
                    clear hn hl H0 H1
                    refine stepC (wanted_free rfl) fun K hK => ?_
                    go_simp
                    exact hK _ (Below.refl _ _)
                  refine steps_cons (fun hn hl => ?_) fun H3 => ?_
                  · skip
                    have h27 := Sp.of_c (H2 (hn 2 (show 2 ∈ [2] from .head _)))
                    clear hn hl H0 H1 H2
                    refine stepC (wanted_free rfl) fun K hK => ?_
                    go_simp
                    exact hK _ (Below.refl _ _)
                  refine steps_cons (fun hn hl => ?_) fun H4 => ?_
                  · skip
                    have h28 := Sp.of_c (H3 (hn 3 (show 3 ∈ [3] from .head _)))
                    clear hn hl H0 H1 H2 H3
                    refine stepC (wanted_free rfl) fun K hK => ?_
                    go_simp
                    exact hK _ (Below.refl _ _)
                  refine steps_cons (fun hn hl => ?_) fun H5 => ?_
                  · skip
                    clear hn hl H0 H1 H2 H3 H4
                    refine stepC (wanted_free rfl) fun K hK => ?_
                    go_simp
                    exact hK _ (Below.refl _ _)
                  refine steps_cons (fun hn hl => ?_) fun H6 => ?_
                  · skip
                    clear hn hl H0 H1 H2 H3 H4 H5
                    refine stepC (wanted_free rfl) fun K hK => ?_
                    go_simp
                    exact hK _ (Below.refl _ _)
                  refine steps_cons (fun hn hl => ?_) fun H7 => ?_
                  · skip
                    have h30 := Sp.of_c (H5 (hn 5 (show 5 ∈ [5, 6] from .head _)))
                    have h31 := Sp.of_c (H6 (hn 6 (show 6 ∈ [5, 6] from .tail _ (.head _))))
                    clear hn hl H0 H1 H2 H3 H4 H5 H6
                    refine stepC (wanted_free rfl) fun K hK => ?_
                    go_simp
                    exact hK _ (Below.refl _ _)
                  refine steps_cons (fun hn hl => ?_) fun H8 => ?_
                  · skip
                    have h32 := Sp.of_c (H7 (hn 7 (show 7 ∈ [7] from .head _)))
                    clear hn hl H0 H1 H2 H3 H4 H5 H6 H7
                    refine stepC (wanted_free rfl) fun K hK => ?_
                    go_simp
                    exact hK _ (Below.refl _ _)
                  refine steps_cons (fun hn hl => ?_) fun H9 => ?_
                  · skip
                    have h33 := Sp.of_c (H8 (hn 8 (show 8 ∈ [8] from .head _)))
                    clear hn hl H0 H1 H2 H3 H4 H5 H6 H7 H8
                    refine stepC (wanted_free rfl) fun K hK => ?_
                    go_simp
                    exact hK _ (Below.refl _ _)
                  refine steps_cons (fun hn hl => ?_) fun H10 => ?_
                  · skip
                    have h29 := Sp.of_c (H4 (hn 4 (show 4 ∈ [4, 9] from .head _)))
                    have h34 := Sp.of_c (H9 (hn 9 (show 9 ∈ [4, 9] from .tail _ (.head _))))
                    clear hn hl H0 H1 H2 H3 H4 H5 H6 H7 H8 H9
                    refine stepC (wanted_free rfl) fun K hK => ?_
                    go_simp
                    exact hK _ (Below.refl _ _)
                  refine steps_cons (fun hn hl => ?_) fun H11 => ?_
                  · skip
                    have h35 := Sp.of_c (H10 (hn 10 (show 10 ∈ [10] from .head _)))
                    clear hn hl H0 H1 H2 H3 H4 H5 H6 H7 H8 H9 H10
                    refine stepC (wanted_free rfl) fun K hK => ?_
                    go_simp
                    exact hK _ (Below.refl _ _)
                  refine steps_cons (fun hn hl => ?_) fun H12 => ?_
                  · skip
                    have h36 := Sp.of_c (H11 (hn 11 (show 11 ∈ [11] from .head _)))
                    clear hn hl H0 H1 H2 H3 H4 H5 H6 H7 H8 H9 H10 H11
                    refine stepC (wanted_guard rfl rfl h36 rfl) fun K hK => ?_
                    go_simp
                    exact hK _ (Below.refl _ _)
                  refine steps_cons (fun hn hl => ?_) fun H13 => ?_
                  · skip
                    have h36 := Sp.of_c (H11 (hn 11 (show 11 ∈ [11] from .head _)))
                    clear hn hl H0 H1 H2 H3 H4 H5 H6 H7 H8 H9 H10 H11 H12
                    refine stepC (wanted_guard rfl rfl h36 rfl) fun K hK => ?_
                    go_simp
                    exact hK _ (Below.refl _ _)
                  refine steps_cons (fun hn hl => ?_) fun H14 => ?_
                  · skip
                    have h36 := Sp.of_c (H11 (hn 11 (show 11 ∈ [11] from .head _)))
                    clear hn hl H0 H1 H2 H3 H4 H5 H6 H7 H8 H9 H10 H11 H12 H13
                    refine stepC (wanted_guard rfl rfl h36 rfl) fun K hK => ?_
                    go_simp
                    exact hK _ (Below.refl _ _)
                  refine steps_cons (fun hn hl => ?_) fun H15 => ?_
                  · skip
                    have h39 := Sp.of_g (H14 (hn 14 (show 14 ∈ [14, 11] from .head _))) rfl
                    have h36 := Sp.of_c (H11 (hn 11 (show 11 ∈ [14, 11] from .tail _ (.head _))))
                    clear hn hl H0 H1 H2 H3 H4 H5 H6 H7 H8 H9 H10 H11 H12 H13 H14
                    refine stepC (wanted_guard rfl rfl h36 rfl) fun K hK => ?_
                    go_simp
                    exact hK _ (Below.refl _ _)
                  refine steps_cons (fun hn hl => ?_) fun H16 => ?_
                  · skip
                    have h37 := Sp.of_g (H12 (hn 12 (show 12 ∈ [12, 13, 15, 11] from .head _))) rfl
                    have h38 := Sp.of_g (H13 (hn 13 (show 13 ∈ [12, 13, 15, 11] from .tail _ (.head _)))) rfl
                    have h40 := Sp.of_g (H15 (hn 15 (show 15 ∈ [12, 13, 15, 11] from .tail _ (.tail _ (.head _))))) rfl
                    have h36 := Sp.of_c (H11 (hn 11 (show 11 ∈ [12, 13, 15, 11] from .tail _ (.tail _ (.tail _ (.head _))))))
                    clear hn hl H0 H1 H2 H3 H4 H5 H6 H7 H8 H9 H10 H11 H12 H13 H14 H15
                    refine stepC (wanted_guard rfl rfl h36 rfl) fun K hK => ?_
                    go_simp
                    exact hK _ (Below.refl _ _)
                  refine steps_cons (fun hn hl => ?_) fun H17 => ?_
                  · skip
                    have h36 := Sp.of_c (H11 (hn 11 (show 11 ∈ [11] from .head _)))
                    clear hn hl H0 H1 H2 H3 H4 H5 H6 H7 H8 H9 H10 H11 H12 H13 H14 H15 H16
                    refine stepC (wanted_guard rfl rfl h36 rfl) fun K hK => ?_
                    go_simp
                    exact hK _ (Below.refl _ _)
                  refine steps_cons (fun hn hl => ?_) fun H18 => ?_
                  · skip
                    have h36 := Sp.of_c (H11 (hn 11 (show 11 ∈ [11] from .head _)))
                    clear hn hl H0 H1 H2 H3 H4 H5 H6 H7 H8 H9 H10 H11 H12 H13 H14 H15 H16 H17
                    refine stepC (wanted_guard rfl rfl h36 rfl) fun K hK => ?_
                    go_simp
                    exact hK _ (Below.refl _ _)
                  refine steps_cons (fun hn hl => ?_) fun H19 => ?_
                  · skip
                    have h42 := Sp.of_g (H17 (hn 17 (show 17 ∈ [17, 18, 11] from .head _))) rfl
                    have h43 := Sp.of_g (H18 (hn 18 (show 18 ∈ [17, 18, 11] from .tail _ (.head _)))) rfl
                    have h36 := Sp.of_c (H11 (hn 11 (show 11 ∈ [17, 18, 11] from .tail _ (.tail _ (.head _)))))
                    clear hn hl H0 H1 H2 H3 H4 H5 H6 H7 H8 H9 H10 H11 H12 H13 H14 H15 H16 H17 H18
                    refine stepC (wanted_guard rfl rfl h36 rfl) fun K hK => ?_
                    go_simp
                    exact hK _ (Below.refl _ _)
                  refine steps_cons (fun hn hl => ?_) fun H20 => ?_
                  · skip
                    have h44 := Sp.of_g (H19 (hn 19 (show 19 ∈ [19, 11] from .head _))) rfl
                    have h36 := Sp.of_c (H11 (hn 11 (show 11 ∈ [19, 11] from .tail _ (.head _))))
                    clear hn hl H0 H1 H2 H3 H4 H5 H6 H7 H8 H9 H10 H11 H12 H13 H14 H15 H16 H17 H18 H19
                    refine stepC (wanted_guard rfl rfl h36 rfl) fun K hK => ?_
                    go_simp
                    exact hK _ (Below.refl _ _)
                  refine steps_cons (fun hn hl => ?_) fun H21 => ?_
                  · skip
                    have h45 := Sp.of_g (H20 (hn 20 (show 20 ∈ [20, 11] from .head _))) rfl
                    have h36 := Sp.of_c (H11 (hn 11 (show 11 ∈ [20, 11] from .tail _ (.head _))))
                    clear hn hl H0 H1 H2 H3 H4 H5 H6 H7 H8 H9 H10 H11 H12 H13 H14 H15 H16 H17 H18 H19 H20
                    refine stepC (wanted_guard rfl rfl h36 rfl) fun K hK => ?_
                    go_simp
                    exact hK _ (Below.refl _ _)
                  refine steps_cons (fun hn hl => ?_) fun H22 => ?_
                  · skip
                    have h36 := Sp.of_c (H11 (hn 11 (show 11 ∈ [11] from .head _)))
                    clear hn hl H0 H1 H2 H3 H4 H5 H6 H7 H8 H9 H10 H11 H12 H13 H14 H15 H16 H17 H18 H19 H20 H21
                    refine stepC (wanted_guard rfl rfl h36 rfl) fun K hK => ?_
                    go_simp
                    exact hK _ (Below.refl _ _)
                  refine steps_cons (fun hn hl => ?_) fun H23 => ?_
                  · skip
                    have h36 := Sp.of_c (H11 (hn 11 (show 11 ∈ [11] from .head _)))
                    clear hn hl H0 H1 H2 H3 H4 H5 H6 H7 H8 H9 H10 H11 H12 H13 H14 H15 H16 H17 H18 H19 H20 H21 H22
                    refine stepC (wanted_guard rfl rfl h36 rfl) fun K hK => ?_
                    go_simp
                    exact hK _ (Below.refl _ _)
                  refine steps_cons (fun hn hl => ?_) fun H24 => ?_
                  · skip
                    have h47 := Sp.of_g (H22 (hn 22 (show 22 ∈ [22, 23, 11] from .head _))) rfl
                    have h48 := Sp.of_g (H23 (hn 23 (show 23 ∈ [22, 23, 11] from .tail _ (.head _)))) rfl
                    have h36 := Sp.of_c (H11 (hn 11 (show 11 ∈ [22, 23, 11] from .tail _ (.tail _ (.head _)))))
                    clear hn hl H0 H1 H2 H3 H4 H5 H6 H7 H8 H9 H10 H11 H12 H13 H14 H15 H16 H17 H18 H19 H20 H21 H22 H23
                    refine stepC (wanted_guard rfl rfl h36 rfl) fun K hK => ?_
                    go_simp
                    exact hK _ (Below.refl _ _)
                  refine steps_cons (fun hn hl => ?_) fun H25 => ?_
                  · skip
                    have h49 := Sp.of_g (H24 (hn 24 (show 24 ∈ [24, 11] from .head _))) rfl
                    have h36 := Sp.of_c (H11 (hn 11 (show 11 ∈ [24, 11] from .tail _ (.head _))))
                    clear hn hl H0 H1 H2 H3 H4 H5 H6 H7 H8 H9 H10 H11 H12 H13 H14 H15 H16 H17 H18 H19 H20 H21 H22 H23 H24
                    refine stepC (wanted_guard rfl rfl h36 rfl) fun K hK => ?_
                    go_simp
                    exact hK _ (Below.refl _ _)
                  refine steps_cons (fun hn hl => ?_) fun H26 => ?_
                  · skip
                    have h50 := Sp.of_g (H25 (hn 25 (show 25 ∈ [25, 11] from .head _))) rfl
                    have h36 := Sp.of_c (H11 (hn 11 (show 11 ∈ [25, 11] from .tail _ (.head _))))
                    clear hn hl H0 H1 H2 H3 H4 H5 H6 H7 H8 H9 H10 H11 H12 H13 H14 H15 H16 H17 H18 H19 H20 H21 H22 H23 H24 H25
                    refine stepC (wanted_guard rfl rfl h36 rfl) fun K hK => ?_
                    go_simp
                    exact hK _ (Below.refl _ _)
                  refine steps_cons (fun hn hl => ?_) fun H27 => ?_
                  · skip
                    have h36 := Sp.of_c (H11 (hn 11 (show 11 ∈ [11] from .head _)))
                    clear hn hl H0 H1 H2 H3 H4 H5 H6 H7 H8 H9 H10 H11 H12 H13 H14 H15 H16 H17 H18 H19 H20 H21 H22 H23 H24 H25 H26
                    refine stepC (wanted_guard rfl rfl h36 rfl) fun K hK => ?_
                    go_simp
                    exact hK _ (Below.refl _ _)
                  refine steps_cons (fun hn hl => ?_) fun H28 => ?_
                  · skip
                    have h36 := Sp.of_c (H11 (hn 11 (show 11 ∈ [11] from .head _)))
                    clear hn hl H0 H1 H2 H3 H4 H5 H6 H7 H8 H9 H10 H11 H12 H13 H14 H15 H16 H17 H18 H19 H20 H21 H22 H23 H24 H25 H26 H27
                    refine stepC (wanted_guard rfl rfl h36 rfl) fun K hK => ?_
                    go_simp
                    exact hK _ (Below.refl _ _)
                  refine steps_cons (fun hn hl => ?_) fun H29 => ?_
                  · skip
                    have h52 := Sp.of_g (H27 (hn 27 (show 27 ∈ [27, 28, 11] from .head _))) rfl
                    have h53 := Sp.of_g (H28 (hn 28 (show 28 ∈ [27, 28, 11] from .tail _ (.head _)))) rfl
                    have h36 := Sp.of_c (H11 (hn 11 (show 11 ∈ [27, 28, 11] from .tail _ (.tail _ (.head _)))))
                    clear hn hl H0 H1 H2 H3 H4 H5 H6 H7 H8 H9 H10 H11 H12 H13 H14 H15 H16 H17 H18 H19 H20 H21 H22 H23 H24 H25 H26 H27 H28
                    refine stepC (wanted_guard rfl rfl h36 rfl) fun K hK => ?_
                    go_simp
                    exact hK _ (Below.refl _ _)
                  refine steps_cons (fun hn hl => ?_) fun H30 => ?_
                  · skip
                    have h54 := Sp.of_g (H29 (hn 29 (show 29 ∈ [29, 11] from .head _))) rfl
                    have h36 := Sp.of_c (H11 (hn 11 (show 11 ∈ [29, 11] from .tail _ (.head _))))
                    clear hn hl H0 H1 H2 H3 H4 H5 H6 H7 H8 H9 H10 H11 H12 H13 H14 H15 H16 H17 H18 H19 H20 H21 H22 H23 H24 H25 H26 H27 H28 H29
                    refine stepC (wanted_guard rfl rfl h36 rfl) fun K hK => ?_
                    go_simp
                    exact hK _ (Below.refl _ _)
                  refine steps_cons (fun hn hl => ?_) fun H31 => ?_
                  · skip
                    have h55 := Sp.of_g (H30 (hn 30 (show 30 ∈ [30, 11] from .head _))) rfl
                    have h36 := Sp.of_c (H11 (hn 11 (show 11 ∈ [30, 11] from .tail _ (.head _))))
                    clear hn hl H0 H1 H2 H3 H4 H5 H6 H7 H8 H9 H10 H11 H12 H13 H14 H15 H16 H17 H18 H19 H20 H21 H22 H23 H24 H25 H26 H27 H28 H29 H30
                    refine stepC (wanted_guard rfl rfl h36 rfl) fun K hK => ?_
                    go_simp
                    exact hK _ (Below.refl _ _)
                  refine steps_cons (fun hn hl => ?_) fun H32 => ?_
                  · skip
                    have h41 := Sp.of_g (H16 (hn 16 (show 16 ∈ [16, 21, 26, 31, 11] from .head _))) rfl
                    have h46 := Sp.of_g (H21 (hn 21 (show 21 ∈ [16, 21, 26, 31, 11] from .tail _ (.head _)))) rfl
                    have h51 := Sp.of_g (H26 (hn 26 (show 26 ∈ [16, 21, 26, 31, 11] from .tail _ (.tail _ (.head _))))) rfl
                    have h56 := Sp.of_g (H31 (hn 31 (show 31 ∈ [16, 21, 26, 31, 11] from .tail _ (.tail _ (.tail _ (.head _)))))) rfl
                    have h36 := Sp.of_c (H11 (hn 11 (show 11 ∈ [16, 21, 26, 31, 11] from .tail _ (.tail _ (.tail _ (.tail _ (.head _)))))))
                    clear hn hl H0 H1 H2 H3 H4 H5 H6 H7 H8 H9 H10 H11 H12 H13 H14 H15 H16 H17 H18 H19 H20 H21 H22 H23 H24 H25 H26 H27 H28 H29 H30 H31
                    refine stepC (wanted_guard rfl rfl h36 rfl) fun K hK => ?_
                    go_simp
                    first
                      | ((with_reducible refine (HM.out _ (HT.out.later hbm)).mono ?_); rintro e w6 ⟨rfl, hb6⟩; exact hK _ hb6)
                  refine steps_cons (fun hn hl => ?_) fun H33 => ?_
                  · skip
                    have h36 := Sp.of_c (H11 (hn 11 (show 11 ∈ [11, 32] from .head _)))
                    have h57 := Sp.of_g (H32 (hn 32 (show 32 ∈ [11, 32] from .tail _ (.head _)))) rfl
                    clear hn hl H0 H1 H2 H3 H4 H5 H6 H7 H8 H9 H10 H11 H12 H13 H14 H15 H16 H17 H18 H19 H20 H21 H22 H23 H24 H25 H26 H27 H28 H29 H30 H31 H32
                    refine stepC (wanted_free rfl) fun K hK => ?_
                    go_simp
                    exact hK _ (Below.refl _ _)
                  exact trivial
                · intro w5 hb5
                  have hz5 := hb5.size
                  refine end_cons ?_; rintro _ rfl
                  refine end_cons ?_; rintro _ rfl
                  refine end_cons ?_; rintro _ rfl
                  refine end_cons ?_; rintro _ rfl
                  refine end_cons ?_; rintro _ rfl
                  refine end_cons ?_; rintro _ rfl
                  refine end_cons ?_; rintro _ rfl
                  refine end_cons ?_; rintro _ rfl
                  refine end_cons ?_; rintro _ rfl
                  refine end_cons ?_; rintro _ rfl
                  refine end_cons ?_; rintro _ rfl
                  refine end_cons ?_; rintro _ rfl
                  refine end_cons ?_; rintro _ rfl
                  refine end_cons ?_; rintro _ rfl
                  refine end_cons ?_; rintro _ rfl
                  refine end_cons ?_; rintro _ rfl
                  refine end_cons ?_; rintro _ rfl
                  refine end_cons ?_; rintro _ rfl
                  refine end_cons ?_; rintro _ rfl
                  refine end_cons ?_; rintro _ rfl
                  refine end_cons ?_; rintro _ rfl
                  refine end_cons ?_; rintro _ rfl
                  refine end_cons ?_; rintro _ rfl
                  refine end_cons ?_; rintro _ rfl
                  refine end_cons ?_; rintro _ rfl
                  refine end_cons ?_; rintro _ rfl
                  refine end_cons ?_; rintro _ rfl
                  refine end_cons ?_; rintro _ rfl
                  refine end_cons ?_; rintro _ rfl
                  refine end_cons ?_; rintro _ rfl
                  refine end_cons ?_; rintro _ rfl
                  refine end_cons ?_; rintro _ rfl
                  refine end_cons ?_; rintro _ rfl
                  refine end_cons ?_; rintro _ rfl
                  refine end_nil ?_
                  simp only [List.setIfInBounds_toArray, List.set_cons_succ, List.set_cons_zero, Bool.not_false, Bool.not_true, Bool.true_or, Bool.or_true, Bool.false_or, Bool.or_false]
                  go_wp2
                  go_roundw
                  case rel => exact ⟨j + 1, by omega, by go_num, HX, hbk.trans (hb5.mono hbk.size)⟩
                  case measure => simp [intOf]; omega
          · have hjk : j = k := by omega
            have HX : Hid (RightK n [] l ↔ RightK n (l.take (k + 1)) (l.drop (k + 1))) := Lib.hid (HN.out.trans ⟨fun x => x.2, fun x => ⟨⟨ho, by have := HI.out; rw [hjk] at this; exact this⟩, x⟩⟩)
            have hjn : ¬ ((j : Int) < (k : Int)) := by omega
            clear HN HI hjk
            go_wp2
            go_roundw
            case rel => exact ⟨k + 1, by omega, by go_num, kk9, HX⟩
            case measure => simp [intOf]; omega
      · rw [show okB n s = false from decide_eq_false ho] at HO
        have E : Hid (rightBk l n = false) := Lib.hid (decide_eq_false (fun x => ho (HN.out.1 x.1).1.1))
        go_wp2_with fail
        refine (HO.out _).mono ?_; rintro e w1 ⟨rfl, hb1⟩
        go_wp2
        go_ret
        exact ⟨by rw [E.out]; rfl, hb.trans (hb1.mono hz)⟩
    · have hkl : k = l.length := by omega
      subst hkl
      have E : Hid (rightBk l n = decide (l.length ≤ 16)) := Lib.hid (by
        have h := HI.out
        rw [List.drop_length] at h
        unfold rightBk
        rw [decide_eq_decide]
        exact ⟨fun x => x.2, fun x => ⟨h.2 trivial, x⟩⟩)
      clear HI
      by_cases h0 : l.length ≤ 16
      · go_wp2
        go_ret
        exact ⟨by rw [E.out, decide_eq_true h0]; simp; omega, (by repeat' (first | exact Below.refl _ _ | assumption | exact And.left (by assumption) | refine Below.drew ?_ | refine below_drewN ?_ _ | refine Below.setCell ?_ (by first | (simp; done) | (simp; omega) | omega) _ | refine Below.alloc ?_ (by first | (simp; done) | (simp; omega) | omega) _ | refine after (by assumption) (by first | (simp; done) | (simp; omega) | omega) ?_))⟩
      · go_wp2
        go_ret
        exact ⟨by rw [E.out, decide_eq_false h0]; simp; omega, (by repeat' (first | exact Below.refl _ _ | assumption | exact And.left (by assumption) | refine Below.drew ?_ | refine below_drewN ?_ _ | refine Below.setCell ?_ (by first | (simp; done) | (simp; omega) | omega) _ | refine Below.alloc ?_ (by first | (simp; done) | (simp; omega) | omega) _ | refine after (by assumption) (by first | (simp; done) | (simp; omega) | omega) ?_))⟩
end Go.Proofs.Ytkkjbmedpdjgdaa.W
