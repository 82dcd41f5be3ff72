/-
  Contract of the document's Right over steps.
-/
import Derived.Test.YtcnpppkndcgmpaaStMem
import Derived.Test.YtcnpppkndcgmpaaVecRef
import Derived.Test.YtcnpppkndcgmpaaMono
namespace Go.Proofs.Ytcnpppkndcgmpaa.W
set_option linter.unusedVariables false
set_option linter.unusedSimpArgs false
open Go.ChangeShapes Go.WideShapes Go.ChangeAt Go.RowKit

def inM (n : Int) : Bool := decide (0 ≤ n ∧ n ≤ 281474976710656)
theorem nRight (n : Int) (w : World) :
    Calls Try.prog 9 #[.int .i64 n] w fun e w' => e = .returned (.bool (inM n)) ∧ w = w' := by
  by_cases h0 : 0 ≤ n
  · by_cases h1 : n ≤ 281474976710656
    · rw [show inM n = true from decide_eq_true ⟨h0, h1⟩]
      go_enter Try.func9, Try.ntmps9
      go_wp2
      go_ret
      exact ⟨rfl, rfl⟩
    · rw [show inM n = false from decide_eq_false (fun x => h1 x.2)]
      go_enter Try.func9, Try.ntmps9
      go_wp2
      go_ret
      exact ⟨rfl, rfl⟩
  · rw [show inM n = false from decide_eq_false (fun x => h0 x.1)]
    go_enter Try.func9, Try.ntmps9
    go_wp2
    go_ret
    exact ⟨rfl, rfl⟩

def rrSp (b off cap n : Nat) (k j : Nat) (s : St) (prev : Int) (p r z q : Bool) : List Sp :=
  [Sp.c (.slice (some ⟨b, off, none⟩) n cap) [],
   Sp.c (.int .i64 (k : Int)) [],
   Sp.c (.pointer (some ⟨b, off + k * 5, none⟩)) [0, 1],
   Sp.c (.pointer (some ⟨b, off + k * 5, none⟩)) [2],
   Sp.c (.int .i64 s.at_) [3],
   Sp.c (.bool p) [4],
   Sp.c (.bool (!p)) [5],
   Sp.c (.bool (!p)) [6],
   Sp.g (p) (.slice (some ⟨b, off, none⟩) n cap) [7],
   Sp.g (p) (.int .i64 (k : Int)) [7],
   Sp.g (p) (.pointer (some ⟨b, off + k * 5, none⟩)) [8, 9, 7],
   Sp.g (p) (.pointer (some ⟨b, off + k * 5 + 1, none⟩)) [10, 7],
   Sp.g (p) ((.agg #[.int .i64 s.free.cpu, .int .i64 s.free.mem, .int .i64 s.free.gpu, .int .i64 s.free.lic])) [11, 7],
   Sp.g (p) (.bool r) [12, 7],
   Sp.g (p) (.bool (!r)) [13, 7],
   Sp.c (.bool (!p || !r)) [7, 14],
   Sp.c (.bool (!p || !r)) [15],
   Sp.g (p && r) (.int .i64 (k : Int)) [16],
   Sp.g (p && r) (.bool z) [17, 16],
   Sp.g (p && r) (.bool z) [18, 16],
   Sp.g (p && r && z) (.slice (some ⟨b, off, none⟩) n cap) [19],
   Sp.g (p && r && z) (.int .i64 (k : Int)) [19],
   Sp.g (p && r && z) (.pointer (some ⟨b, off + k * 5, none⟩)) [20, 21, 19],
   Sp.g (p && r && z) (.pointer (some ⟨b, off + k * 5, none⟩)) [22, 19],
   Sp.g (p && r && z) (.int .i64 s.at_) [23, 19],
   Sp.g (p && r && z) (.slice (some ⟨b, off, none⟩) n cap) [19],
   Sp.g (p && r && z) (.int .i64 (k : Int)) [19],
   Sp.g (p && r && z) (.int .i64 (j : Int)) [26, 19],
   Sp.g (p && r && z) (.pointer (some ⟨b, off + j * 5, none⟩)) [25, 27, 19],
   Sp.g (p && r && z) (.pointer (some ⟨b, off + j * 5, none⟩)) [28, 19],
   Sp.g (p && r && z) (.int .i64 prev) [29, 19],
   Sp.g (p && r && z) (.bool q) [24, 30, 19],
   Sp.g (p && r) (.bool (z && q)) [19, 31, 16],
   Sp.c (.bool (!p || !r || (z && q))) [16, 32]]
/-- the one ahead of the k-th -/
def aheadOf (l : List St) (k : Nat) : Int := if k = 0 then -1 else (l.getD (k - 1) default).at_
set_option maxRecDepth 100000 in
set_option maxHeartbeats 8000000 in
theorem rStRight (a : Option Addr) (cap : Nat) (l : List St) (hl : l.length ≤ 100000) (w : World) (HA : StAt w a cap l) :
    Calls Try.prog 12 #[.slice a l.length cap] w fun e w' => e = .returned (.bool (rightS l)) ∧ Below w.heap.size w w' := by
  have HR := Lib.hid HA
  clear HA
  go_enter Try.func12, Try.ntmps12
  go_wp2
  go_loopw [3] (fun x wr => ∃ k : Nat, k ≤ l.length ∧ x = .int .i64 k ∧ Below w.heap.size w wr ∧ Hid ((Rise (-1) l ↔ Rise (aheadOf l k) (l.drop k)) ∧ -1 ≤ aheadOf l k)) (fun x _ => l.length - (intOf x).toNat)
  case atStart => exact ⟨0, Nat.zero_le _, rfl, (by repeat' (first | exact Below.refl _ _ | assumption | exact And.left (by assumption) | refine Below.drew ?_ | refine below_drewN ?_ _ | refine Below.setCell ?_ (by first | (simp; done) | (simp; omega) | omega) _ | refine Below.alloc ?_ (by first | (simp; done) | (simp; omega) | omega) _ | refine after (by assumption) (by first | (simp; done) | (simp; omega) | omega) ?_)), Lib.hid (by simp [aheadOf])⟩
  case round =>
    obtain ⟨k, hk, rfl, hb, HI⟩ := hrel
    have hz := hb.size
    by_cases hlt : k < l.length
    · obtain ⟨b, off, ea, hbl, q0, q1, q2, q3, q4⟩ := (HR.out.later hb).row.step hlt
      have HN2 : Hid (Rise (-1) l ↔ aheadOf l k < l[k].at_ ∧ l[k].at_ ≤ 281474976710656 ∧ l[k].free.Ok ∧ Rise l[k].at_ (l.drop (k + 1))) := Lib.hid (by rw [HI.out.1, drop_at l k hlt]; exact Iff.rfl)
      have HB := Lib.hid HI.out.2
      have HP : Hid (aheadOf l (k + 1) = l[k].at_) := Lib.hid (by unfold aheadOf; simp [hlt])
      have HJ : Hid (∀ j, k = j + 1 → ∃ pv, pv = aheadOf l k ∧ wr.cell? ⟨b, off + j * 5, none⟩ = some (.int .i64 pv)) := Lib.hid (by
        rintro j rfl
        obtain ⟨b', off', ea', _, p0, _⟩ := (HR.out.later hb).row.step (k := j) (by omega)
        rw [ea] at ea'
        simp only [Option.some.injEq, Addr.mk.injEq, and_true] at ea'
        obtain ⟨rfl, rfl⟩ := ea'
        refine ⟨_, rfl, ?_⟩
        rw [p0]; unfold aheadOf; simp [show j < l.length by omega])
      subst ea
      clear HI
      generalize l[k] = s at q0 q1 q2 q3 q4 HN2 HP
      have HN := Lib.hid (fun w => nRight s.at_ w)
      have HF := Lib.hid (fun w => rright s.free w)
      have hk0 : (0 : Int) ≤ k := by omega
      have hk1 : (k : Int) < l.length := by omega
      have hkt : ((k : Int)).toNat = k := by omega
      by_cases h0 : 0 ≤ s.at_ ∧ s.at_ ≤ 281474976710656
      · rw [show inM s.at_ = true from decide_eq_true h0] at HN
        by_cases ho : s.free.Ok
        · rw [right_yes ho] at HF
          have HX : Hid (aheadOf l k < s.at_ → (Rise (-1) l ↔ Rise (aheadOf l (k + 1)) (l.drop (k + 1))) ∧ -1 ≤ aheadOf l (k + 1)) := Lib.hid (fun x => by
            rw [HP.out]
            exact ⟨HN2.out.trans ⟨fun y => y.2.2.2, fun y => ⟨x, h0.2, ho, y⟩⟩, by omega⟩)
          have HD : Hid (¬ aheadOf l k < s.at_ → rightS l = false) := Lib.hid (fun x => decide_eq_false (fun y => x (HN2.out.1 y.2).1))
          have h00 := h0.1
          clear ho HN2 HP h0
          by_cases hz0 : k = 0
          · have HX := Lib.hid (HX.out (by rw [hz0]; unfold aheadOf; simp; omega))
            have hzz : decide (0 < k) = false := by rw [hz0]; rfl
            clear HD HJ hz0 h00
            go_wp2_with fail
            refine region_mono (rrSp b off cap l.length k 0 s 0 true true false false) [10, 11, 12, 13, 14, 15, 16, 17, 18, 19, 20, 21, 22, 23, 24, 25, 26, 27, 28, 29, 30, 31, 32, 33, 34, 35, 36, 37, 38, 39, 40, 41, 42, 43] (by kernel_rfl) (by kernel_rfl) (by kernel_rfl) (by kernel_rfl) (stables_cons (Sp.c_stable _ _) (stables_cons (Sp.c_stable _ _) (stables_cons (Sp.c_stable _ _) (stables_cons (Sp.c_stable _ _) (stables_cons (Sp.c_stable _ _) (stables_cons (Sp.c_stable _ _) (stables_cons (Sp.c_stable _ _) (stables_cons (Sp.c_stable _ _) (stables_cons (Sp.g_stable _ _ _) (stables_cons (Sp.g_stable _ _ _) (stables_cons (Sp.g_stable _ _ _) (stables_cons (Sp.g_stable _ _ _) (stables_cons (Sp.g_stable _ _ _) (stables_cons (Sp.g_stable _ _ _) (stables_cons (Sp.g_stable _ _ _) (stables_cons (Sp.c_stable _ _) (stables_cons (Sp.c_stable _ _) (stables_cons (Sp.g_stable _ _ _) (stables_cons (Sp.g_stable _ _ _) (stables_cons (Sp.g_stable _ _ _) (stables_cons (Sp.g_stable _ _ _) (stables_cons (Sp.g_stable _ _ _) (stables_cons (Sp.g_stable _ _ _) (stables_cons (Sp.g_stable _ _ _) (stables_cons (Sp.g_stable _ _ _) (stables_cons (Sp.g_stable _ _ _) (stables_cons (Sp.g_stable _ _ _) (stables_cons (Sp.g_stable _ _ _) (stables_cons (Sp.g_stable _ _ _) (stables_cons (Sp.g_stable _ _ _) (stables_cons (Sp.g_stable _ _ _) (stables_cons (Sp.g_stable _ _ _) (stables_cons (Sp.g_stable _ _ _) (stables_cons (Sp.c_stable _ _) (trivial))))))))))))))))))))))))))))))))))) ?_ ?_
            · intro am wm L hbm hbase hbase2
              have s0 : am.tmps.getD 0 undef = .slice (some ⟨b, off, none⟩) l.length cap := (hbase 0 rfl).trans (by simp only [Array.getD_eq_getD_getElem?, List.getElem?_toArray, List.getElem?_cons_succ, List.getElem?_cons_zero, Option.getD_some])
              have s3 : am.tmps.getD 3 undef = .int .i64 (k : Int) := (hbase 3 rfl).trans (by simp only [Array.getD_eq_getD_getElem?, List.getElem?_toArray, List.getElem?_cons_succ, List.getElem?_cons_zero, Option.getD_some])
              clear hbase hbase2
              have m0 := carry hbm q0
              have m1 := carry hbm q1
              have m2 : wm.cell? ⟨b, off + k * 5 + 1 + 1, none⟩ = some (.int .i64 s.free.mem) := carry hbm q2
              have m3 : wm.cell? ⟨b, off + k * 5 + 1 + 2, none⟩ = some (.int .i64 s.free.gpu) := carry hbm q3
              have m4 : wm.cell? ⟨b, off + k * 5 + 1 + 3, none⟩ = some (.int .i64 s.free.lic) := carry hbm q4
              refine steps_cons (fun hn hl => ?_) fun H0 => ?_
              · skip
                clear hn hl 
                refine stepC (wanted_free rfl) fun K hK => ?_
                go_simp
                exact hK _ (Below.refl _ _)
              refine steps_cons (fun hn hl => ?_) fun H1 => ?_
              · skip
                clear hn hl H0
                refine stepC (wanted_free rfl) fun K hK => ?_
                go_simp
                exact hK _ (Below.refl _ _)
              refine steps_cons (fun hn hl => ?_) fun H2 => ?_
              · skip
                have h10 := Sp.of_c (H0 (hn 0 (show 0 ∈ [0, 1] from .head _)))
                have h11 := Sp.of_c (H1 (hn 1 (show 1 ∈ [0, 1] from .tail _ (.head _))))
                clear hn hl H0 H1
                refine stepC (wanted_free rfl) fun K hK => ?_
                go_simp
                exact hK _ (Below.refl _ _)
              refine steps_cons (fun hn hl => ?_) fun H3 => ?_
              · skip
                have h12 := Sp.of_c (H2 (hn 2 (show 2 ∈ [2] from .head _)))
                clear hn hl H0 H1 H2
                refine stepC (wanted_free rfl) fun K hK => ?_
                go_simp
                exact hK _ (Below.refl _ _)
              refine steps_cons (fun hn hl => ?_) fun H4 => ?_
              · skip
                have h13 := Sp.of_c (H3 (hn 3 (show 3 ∈ [3] from .head _)))
                clear hn hl H0 H1 H2 H3
                refine stepC (wanted_free rfl) fun K hK => ?_
                go_simp
                exact hK _ (Below.refl _ _)
              refine steps_cons (fun hn hl => ?_) fun H5 => ?_
              · skip
                have h14 := Sp.of_c (H4 (hn 4 (show 4 ∈ [4] from .head _)))
                clear hn hl H0 H1 H2 H3 H4
                refine stepC (wanted_free rfl) fun K hK => ?_
                go_simp
                first
                  | ((with_reducible refine (HN.out _).mono ?_); rintro e w6 ⟨rfl, rfl⟩; exact hK _ (Below.refl _ _))
                  | ((with_reducible refine (HF.out _).mono ?_); rintro e w6 ⟨rfl, hb6⟩; exact hK _ hb6)
              refine steps_cons (fun hn hl => ?_) fun H6 => ?_
              · skip
                have h15 := Sp.of_c (H5 (hn 5 (show 5 ∈ [5] from .head _)))
                clear hn hl H0 H1 H2 H3 H4 H5
                refine stepC (wanted_free rfl) fun K hK => ?_
                go_simp
                exact hK _ (Below.refl _ _)
              refine steps_cons (fun hn hl => ?_) fun H7 => ?_
              · skip
                have h16 := Sp.of_c (H6 (hn 6 (show 6 ∈ [6] from .head _)))
                clear hn hl H0 H1 H2 H3 H4 H5 H6
                refine stepC (wanted_free rfl) fun K hK => ?_
                go_simp
                exact hK _ (Below.refl _ _)
              refine steps_cons (fun hn hl => ?_) fun H8 => ?_
              · skip
                have h17 := Sp.of_c (H7 (hn 7 (show 7 ∈ [7] from .head _)))
                clear hn hl H0 H1 H2 H3 H4 H5 H6 H7
                refine stepC (wanted_guard rfl rfl h17 rfl) fun K hK => ?_
                go_simp
                exact hK _ (Below.refl _ _)
              refine steps_cons (fun hn hl => ?_) fun H9 => ?_
              · skip
                have h17 := Sp.of_c (H7 (hn 7 (show 7 ∈ [7] from .head _)))
                clear hn hl H0 H1 H2 H3 H4 H5 H6 H7 H8
                refine stepC (wanted_guard rfl rfl h17 rfl) fun K hK => ?_
                go_simp
                exact hK _ (Below.refl _ _)
              refine steps_cons (fun hn hl => ?_) fun H10 => ?_
              · skip
                have h18 := Sp.of_g (H8 (hn 8 (show 8 ∈ [8, 9, 7] from .head _))) rfl
                have h19 := Sp.of_g (H9 (hn 9 (show 9 ∈ [8, 9, 7] from .tail _ (.head _)))) rfl
                have h17 := Sp.of_c (H7 (hn 7 (show 7 ∈ [8, 9, 7] from .tail _ (.tail _ (.head _)))))
                clear hn hl H0 H1 H2 H3 H4 H5 H6 H7 H8 H9
                refine stepC (wanted_guard rfl rfl h17 rfl) fun K hK => ?_
                go_simp
                exact hK _ (Below.refl _ _)
              refine steps_cons (fun hn hl => ?_) fun H11 => ?_
              · skip
                have h20 := Sp.of_g (H10 (hn 10 (show 10 ∈ [10, 7] from .head _))) rfl
                have h17 := Sp.of_c (H7 (hn 7 (show 7 ∈ [10, 7] from .tail _ (.head _))))
                clear hn hl H0 H1 H2 H3 H4 H5 H6 H7 H8 H9 H10
                refine stepC (wanted_guard rfl rfl h17 rfl) fun K hK => ?_
                go_simp
                exact hK _ (Below.refl _ _)
              refine steps_cons (fun hn hl => ?_) fun H12 => ?_
              · skip
                have h21 := Sp.of_g (H11 (hn 11 (show 11 ∈ [11, 7] from .head _))) rfl
                have h17 := Sp.of_c (H7 (hn 7 (show 7 ∈ [11, 7] from .tail _ (.head _))))
                clear hn hl H0 H1 H2 H3 H4 H5 H6 H7 H8 H9 H10 H11
                refine stepC (wanted_guard rfl rfl h17 rfl) fun K hK => ?_
                go_simp
                exact hK _ (Below.refl _ _)
              refine steps_cons (fun hn hl => ?_) fun H13 => ?_
              · skip
                have h22 := Sp.of_g (H12 (hn 12 (show 12 ∈ [12, 7] from .head _))) rfl
                have h17 := Sp.of_c (H7 (hn 7 (show 7 ∈ [12, 7] from .tail _ (.head _))))
                clear hn hl H0 H1 H2 H3 H4 H5 H6 H7 H8 H9 H10 H11 H12
                refine stepC (wanted_guard rfl rfl h17 rfl) fun K hK => ?_
                go_simp
                first
                  | ((with_reducible refine (HN.out _).mono ?_); rintro e w6 ⟨rfl, rfl⟩; exact hK _ (Below.refl _ _))
                  | ((with_reducible refine (HF.out _).mono ?_); rintro e w6 ⟨rfl, hb6⟩; exact hK _ hb6)
              refine steps_cons (fun hn hl => ?_) fun H14 => ?_
              · skip
                have h23 := Sp.of_g (H13 (hn 13 (show 13 ∈ [13, 7] from .head _))) rfl
                have h17 := Sp.of_c (H7 (hn 7 (show 7 ∈ [13, 7] from .tail _ (.head _))))
                clear hn hl H0 H1 H2 H3 H4 H5 H6 H7 H8 H9 H10 H11 H12 H13
                refine stepC (wanted_guard rfl rfl h17 rfl) fun K hK => ?_
                go_simp
                exact hK _ (Below.refl _ _)
              refine steps_cons (fun hn hl => ?_) fun H15 => ?_
              · skip
                have h17 := Sp.of_c (H7 (hn 7 (show 7 ∈ [7, 14] from .head _)))
                have h24 := Sp.of_g (H14 (hn 14 (show 14 ∈ [7, 14] from .tail _ (.head _)))) rfl
                clear hn hl H0 H1 H2 H3 H4 H5 H6 H7 H8 H9 H10 H11 H12 H13 H14
                refine stepC (wanted_free rfl) fun K hK => ?_
                go_simp
                exact hK _ (Below.refl _ _)
              refine steps_cons (fun hn hl => ?_) fun H16 => ?_
              · skip
                have h25 := Sp.of_c (H15 (hn 15 (show 15 ∈ [15] from .head _)))
                clear hn hl H0 H1 H2 H3 H4 H5 H6 H7 H8 H9 H10 H11 H12 H13 H14 H15
                refine stepC (wanted_free rfl) fun K hK => ?_
                go_simp
                exact hK _ (Below.refl _ _)
              refine steps_cons (fun hn hl => ?_) fun H17 => ?_
              · skip
                have h26 := Sp.of_c (H16 (hn 16 (show 16 ∈ [16] from .head _)))
                clear hn hl H0 H1 H2 H3 H4 H5 H6 H7 H8 H9 H10 H11 H12 H13 H14 H15 H16
                refine stepC (wanted_guard rfl rfl h26 rfl) fun K hK => ?_
                go_simp
                exact hK _ (Below.refl _ _)
              refine steps_cons (fun hn hl => ?_) fun H18 => ?_
              · skip
                have h27 := Sp.of_g (H17 (hn 17 (show 17 ∈ [17, 16] from .head _))) rfl
                have h26 := Sp.of_c (H16 (hn 16 (show 16 ∈ [17, 16] from .tail _ (.head _))))
                clear hn hl H0 H1 H2 H3 H4 H5 H6 H7 H8 H9 H10 H11 H12 H13 H14 H15 H16 H17
                refine stepC (wanted_guard rfl rfl h26 rfl) fun K hK => ?_
                go_simp
                exact hK _ (Below.refl _ _)
              refine steps_cons (fun hn hl => ?_) fun H19 => ?_
              · skip
                have h28 := Sp.of_g (H18 (hn 18 (show 18 ∈ [18, 16] from .head _))) rfl
                have h26 := Sp.of_c (H16 (hn 16 (show 16 ∈ [18, 16] from .tail _ (.head _))))
                clear hn hl H0 H1 H2 H3 H4 H5 H6 H7 H8 H9 H10 H11 H12 H13 H14 H15 H16 H17 H18
                refine stepC (wanted_guard rfl rfl h26 rfl) fun K hK => ?_
                go_simp
                exact hK _ (Below.refl _ _)
              refine steps_cons (fun hn hl => ?_) fun H20 => ?_
              · skip
                have h29 := Sp.of_g (H19 (hn 19 (show 19 ∈ [19] from .head _))) rfl
                clear hn hl H0 H1 H2 H3 H4 H5 H6 H7 H8 H9 H10 H11 H12 H13 H14 H15 H16 H17 H18 H19
                exact stepN (unwanted_guard rfl rfl h29 rfl)
              refine steps_cons (fun hn hl => ?_) fun H21 => ?_
              · skip
                have h29 := Sp.of_g (H19 (hn 19 (show 19 ∈ [19] from .head _))) rfl
                clear hn hl H0 H1 H2 H3 H4 H5 H6 H7 H8 H9 H10 H11 H12 H13 H14 H15 H16 H17 H18 H19 H20
                exact stepN (unwanted_guard rfl rfl h29 rfl)
              refine steps_cons (fun hn hl => ?_) fun H22 => ?_
              · skip
                have h30 := Sp.of_off (H20 (hn 20 (show 20 ∈ [20, 21, 19] from .head _))) rfl
                have h31 := Sp.of_off (H21 (hn 21 (show 21 ∈ [20, 21, 19] from .tail _ (.head _)))) rfl
                have h29 := Sp.of_g (H19 (hn 19 (show 19 ∈ [20, 21, 19] from .tail _ (.tail _ (.head _))))) rfl
                clear hn hl H0 H1 H2 H3 H4 H5 H6 H7 H8 H9 H10 H11 H12 H13 H14 H15 H16 H17 H18 H19 H20 H21
                exact stepN (unwanted_guard rfl rfl h29 rfl)
              refine steps_cons (fun hn hl => ?_) fun H23 => ?_
              · skip
                have h32 := Sp.of_off (H22 (hn 22 (show 22 ∈ [22, 19] from .head _))) rfl
                have h29 := Sp.of_g (H19 (hn 19 (show 19 ∈ [22, 19] from .tail _ (.head _)))) rfl
                clear hn hl H0 H1 H2 H3 H4 H5 H6 H7 H8 H9 H10 H11 H12 H13 H14 H15 H16 H17 H18 H19 H20 H21 H22
                exact stepN (unwanted_guard rfl rfl h29 rfl)
              refine steps_cons (fun hn hl => ?_) fun H24 => ?_
              · skip
                have h33 := Sp.of_off (H23 (hn 23 (show 23 ∈ [23, 19] from .head _))) rfl
                have h29 := Sp.of_g (H19 (hn 19 (show 19 ∈ [23, 19] from .tail _ (.head _)))) rfl
                clear hn hl H0 H1 H2 H3 H4 H5 H6 H7 H8 H9 H10 H11 H12 H13 H14 H15 H16 H17 H18 H19 H20 H21 H22 H23
                exact stepN (unwanted_guard rfl rfl h29 rfl)
              refine steps_cons (fun hn hl => ?_) fun H25 => ?_
              · skip
                have h29 := Sp.of_g (H19 (hn 19 (show 19 ∈ [19] from .head _))) rfl
                clear hn hl H0 H1 H2 H3 H4 H5 H6 H7 H8 H9 H10 H11 H12 H13 H14 H15 H16 H17 H18 H19 H20 H21 H22 H23 H24
                exact stepN (unwanted_guard rfl rfl h29 rfl)
              refine steps_cons (fun hn hl => ?_) fun H26 => ?_
              · skip
                have h29 := Sp.of_g (H19 (hn 19 (show 19 ∈ [19] from .head _))) rfl
                clear hn hl H0 H1 H2 H3 H4 H5 H6 H7 H8 H9 H10 H11 H12 H13 H14 H15 H16 H17 H18 H19 H20 H21 H22 H23 H24 H25
                exact stepN (unwanted_guard rfl rfl h29 rfl)
              refine steps_cons (fun hn hl => ?_) fun H27 => ?_
              · skip
                have h36 := Sp.of_off (H26 (hn 26 (show 26 ∈ [26, 19] from .head _))) rfl
                have h29 := Sp.of_g (H19 (hn 19 (show 19 ∈ [26, 19] from .tail _ (.head _)))) rfl
                clear hn hl H0 H1 H2 H3 H4 H5 H6 H7 H8 H9 H10 H11 H12 H13 H14 H15 H16 H17 H18 H19 H20 H21 H22 H23 H24 H25 H26
                exact stepN (unwanted_guard rfl rfl h29 rfl)
              refine steps_cons (fun hn hl => ?_) fun H28 => ?_
              · skip
                have h35 := Sp.of_off (H25 (hn 25 (show 25 ∈ [25, 27, 19] from .head _))) rfl
                have h37 := Sp.of_off (H27 (hn 27 (show 27 ∈ [25, 27, 19] from .tail _ (.head _)))) rfl
                have h29 := Sp.of_g (H19 (hn 19 (show 19 ∈ [25, 27, 19] from .tail _ (.tail _ (.head _))))) rfl
                clear hn hl H0 H1 H2 H3 H4 H5 H6 H7 H8 H9 H10 H11 H12 H13 H14 H15 H16 H17 H18 H19 H20 H21 H22 H23 H24 H25 H26 H27
                exact stepN (unwanted_guard rfl rfl h29 rfl)
              refine steps_cons (fun hn hl => ?_) fun H29 => ?_
              · skip
                have h38 := Sp.of_off (H28 (hn 28 (show 28 ∈ [28, 19] from .head _))) rfl
                have h29 := Sp.of_g (H19 (hn 19 (show 19 ∈ [28, 19] from .tail _ (.head _)))) rfl
                clear hn hl H0 H1 H2 H3 H4 H5 H6 H7 H8 H9 H10 H11 H12 H13 H14 H15 H16 H17 H18 H19 H20 H21 H22 H23 H24 H25 H26 H27 H28
                exact stepN (unwanted_guard rfl rfl h29 rfl)
              refine steps_cons (fun hn hl => ?_) fun H30 => ?_
              · skip
                have h39 := Sp.of_off (H29 (hn 29 (show 29 ∈ [29, 19] from .head _))) rfl
                have h29 := Sp.of_g (H19 (hn 19 (show 19 ∈ [29, 19] from .tail _ (.head _)))) rfl
                clear hn hl H0 H1 H2 H3 H4 H5 H6 H7 H8 H9 H10 H11 H12 H13 H14 H15 H16 H17 H18 H19 H20 H21 H22 H23 H24 H25 H26 H27 H28 H29
                exact stepN (unwanted_guard rfl rfl h29 rfl)
              refine steps_cons (fun hn hl => ?_) fun H31 => ?_
              · skip
                have h34 := Sp.of_off (H24 (hn 24 (show 24 ∈ [24, 30, 19] from .head _))) rfl
                have h40 := Sp.of_off (H30 (hn 30 (show 30 ∈ [24, 30, 19] from .tail _ (.head _)))) rfl
                have h29 := Sp.of_g (H19 (hn 19 (show 19 ∈ [24, 30, 19] from .tail _ (.tail _ (.head _))))) rfl
                clear hn hl H0 H1 H2 H3 H4 H5 H6 H7 H8 H9 H10 H11 H12 H13 H14 H15 H16 H17 H18 H19 H20 H21 H22 H23 H24 H25 H26 H27 H28 H29 H30
                exact stepN (unwanted_guard rfl rfl h29 rfl)
              refine steps_cons (fun hn hl => ?_) fun H32 => ?_
              · skip
                have h29 := Sp.of_g (H19 (hn 19 (show 19 ∈ [19, 31, 16] from .head _))) rfl
                have h41 := Sp.of_off (H31 (hn 31 (show 31 ∈ [19, 31, 16] from .tail _ (.head _)))) rfl
                have h26 := Sp.of_c (H16 (hn 16 (show 16 ∈ [19, 31, 16] from .tail _ (.tail _ (.head _)))))
                clear hn hl H0 H1 H2 H3 H4 H5 H6 H7 H8 H9 H10 H11 H12 H13 H14 H15 H16 H17 H18 H19 H20 H21 H22 H23 H24 H25 H26 H27 H28 H29 H30 H31
                refine stepC (wanted_guard rfl rfl h26 rfl) fun K hK => ?_
                go_simp
                exact hK _ (Below.refl _ _)
              refine steps_cons (fun hn hl => ?_) fun H33 => ?_
              · skip
                have h26 := Sp.of_c (H16 (hn 16 (show 16 ∈ [16, 32] from .head _)))
                have h42 := Sp.of_g (H32 (hn 32 (show 32 ∈ [16, 32] from .tail _ (.head _)))) rfl
                clear hn hl H0 H1 H2 H3 H4 H5 H6 H7 H8 H9 H10 H11 H12 H13 H14 H15 H16 H17 H18 H19 H20 H21 H22 H23 H24 H25 H26 H27 H28 H29 H30 H31 H32
                refine stepC (wanted_free rfl) fun K hK => ?_
                go_simp
                exact hK _ (Below.refl _ _)
              exact trivial
            · intro w5 hb5
              have hz5 := hb5.size
              refine end_cons ?_; rintro _ rfl
              refine end_cons ?_; rintro _ rfl
              refine end_cons ?_; rintro _ rfl
              refine end_cons ?_; rintro _ rfl
              refine end_cons ?_; rintro _ rfl
              refine end_cons ?_; rintro _ rfl
              refine end_cons ?_; rintro _ rfl
              refine end_cons ?_; rintro _ rfl
              refine end_cons ?_; rintro _ rfl
              refine end_cons ?_; rintro _ rfl
              refine end_cons ?_; rintro _ rfl
              refine end_cons ?_; rintro _ rfl
              refine end_cons ?_; rintro _ rfl
              refine end_cons ?_; rintro _ rfl
              refine end_cons ?_; rintro _ rfl
              refine end_cons ?_; rintro _ rfl
              refine end_cons ?_; rintro _ rfl
              refine end_cons ?_; rintro _ rfl
              refine end_cons ?_; rintro _ rfl
              refine end_cons ?_; rintro _ rfl
              refine end_cons ?_; rintro _ rfl
              refine end_cons ?_; rintro _ rfl
              refine end_cons ?_; rintro _ rfl
              refine end_cons ?_; rintro _ rfl
              refine end_cons ?_; rintro _ rfl
              refine end_cons ?_; rintro _ rfl
              refine end_cons ?_; rintro _ rfl
              refine end_cons ?_; rintro _ rfl
              refine end_cons ?_; rintro _ rfl
              refine end_cons ?_; rintro _ rfl
              refine end_cons ?_; rintro _ rfl
              refine end_cons ?_; rintro _ rfl
              refine end_cons ?_; rintro _ rfl
              refine end_cons ?_; rintro _ rfl
              refine end_nil ?_
              simp only [List.setIfInBounds_toArray, List.set_cons_succ, List.set_cons_zero, Bool.not_false, Bool.not_true, Bool.true_or, Bool.or_true, Bool.false_or, Bool.or_false]
              go_wp2
              go_roundw
              case rel => exact ⟨k + 1, by omega, by go_num, (by repeat' (first | exact Below.refl _ _ | assumption | exact And.left (by assumption) | refine Below.drew ?_ | refine below_drewN ?_ _ | refine Below.setCell ?_ (by first | (simp; done) | (simp; omega) | omega) _ | refine Below.alloc ?_ (by first | (simp; done) | (simp; omega) | omega) _ | refine after (by assumption) (by first | (simp; done) | (simp; omega) | omega) ?_)), HX⟩
              case measure => simp [intOf]; omega
          · obtain ⟨j, hj⟩ : ∃ j, k = j + 1 := ⟨k - 1, by omega⟩
            obtain ⟨pv, hp, p0⟩ := HJ.out j hj
            have hzz : decide (0 < k) = true := by simp; omega
            have hwr : IntKind.i64.wrap ((k : Int) - 1) = (j : Int) := by rw [show (k : Int) - 1 = (j : Int) by omega]; exact IntWalk.i64_in _ (by omega)
            have hj0 : (0 : Int) ≤ j := by omega
            have hj1 : (j : Int) < l.length := by omega
            have hjt : ((j : Int)).toNat = j := by omega
            rw [← hp] at HX HD
            have HJ := Lib.hid hj
            clear hj hp hz0
            by_cases hq : s.at_ ≤ pv
            · have hqq : decide (s.at_ ≤ pv) = true := decide_eq_true hq
              have E := Lib.hid (HD.out (by omega))
              clear HX HD hq
              go_wp2_with fail
              refine region_mono (rrSp b off cap l.length k j s pv true true true true) [10, 11, 12, 13, 14, 15, 16, 17, 18, 19, 20, 21, 22, 23, 24, 25, 26, 27, 28, 29, 30, 31, 32, 33, 34, 35, 36, 37, 38, 39, 40, 41, 42, 43] (by kernel_rfl) (by kernel_rfl) (by kernel_rfl) (by kernel_rfl) (stables_cons (Sp.c_stable _ _) (stables_cons (Sp.c_stable _ _) (stables_cons (Sp.c_stable _ _) (stables_cons (Sp.c_stable _ _) (stables_cons (Sp.c_stable _ _) (stables_cons (Sp.c_stable _ _) (stables_cons (Sp.c_stable _ _) (stables_cons (Sp.c_stable _ _) (stables_cons (Sp.g_stable _ _ _) (stables_cons (Sp.g_stable _ _ _) (stables_cons (Sp.g_stable _ _ _) (stables_cons (Sp.g_stable _ _ _) (stables_cons (Sp.g_stable _ _ _) (stables_cons (Sp.g_stable _ _ _) (stables_cons (Sp.g_stable _ _ _) (stables_cons (Sp.c_stable _ _) (stables_cons (Sp.c_stable _ _) (stables_cons (Sp.g_stable _ _ _) (stables_cons (Sp.g_stable _ _ _) (stables_cons (Sp.g_stable _ _ _) (stables_cons (Sp.g_stable _ _ _) (stables_cons (Sp.g_stable _ _ _) (stables_cons (Sp.g_stable _ _ _) (stables_cons (Sp.g_stable _ _ _) (stables_cons (Sp.g_stable _ _ _) (stables_cons (Sp.g_stable _ _ _) (stables_cons (Sp.g_stable _ _ _) (stables_cons (Sp.g_stable _ _ _) (stables_cons (Sp.g_stable _ _ _) (stables_cons (Sp.g_stable _ _ _) (stables_cons (Sp.g_stable _ _ _) (stables_cons (Sp.g_stable _ _ _) (stables_cons (Sp.g_stable _ _ _) (stables_cons (Sp.c_stable _ _) (trivial))))))))))))))))))))))))))))))))))) ?_ ?_
              · intro am wm L hbm hbase hbase2
                have s0 : am.tmps.getD 0 undef = .slice (some ⟨b, off, none⟩) l.length cap := (hbase 0 rfl).trans (by simp only [Array.getD_eq_getD_getElem?, List.getElem?_toArray, List.getElem?_cons_succ, List.getElem?_cons_zero, Option.getD_some])
                have s3 : am.tmps.getD 3 undef = .int .i64 (k : Int) := (hbase 3 rfl).trans (by simp only [Array.getD_eq_getD_getElem?, List.getElem?_toArray, List.getElem?_cons_succ, List.getElem?_cons_zero, Option.getD_some])
                clear hbase hbase2
                have m0 := carry hbm q0
                have m1 := carry hbm q1
                have m2 : wm.cell? ⟨b, off + k * 5 + 1 + 1, none⟩ = some (.int .i64 s.free.mem) := carry hbm q2
                have m3 : wm.cell? ⟨b, off + k * 5 + 1 + 2, none⟩ = some (.int .i64 s.free.gpu) := carry hbm q3
                have m4 : wm.cell? ⟨b, off + k * 5 + 1 + 3, none⟩ = some (.int .i64 s.free.lic) := carry hbm q4
                have m5 := carry hbm p0
                refine steps_cons (fun hn hl => ?_) fun H0 => ?_
                · skip
                  clear hn hl 
                  refine stepC (wanted_free rfl) fun K hK => ?_
                  go_simp
                  exact hK _ (Below.refl _ _)
                refine steps_cons (fun hn hl => ?_) fun H1 => ?_
                · skip
                  clear hn hl H0
                  refine stepC (wanted_free rfl) fun K hK => ?_
                  go_simp
                  exact hK _ (Below.refl _ _)
                refine steps_cons (fun hn hl => ?_) fun H2 => ?_
                · skip
                  have h10 := Sp.of_c (H0 (hn 0 (show 0 ∈ [0, 1] from .head _)))
                  have h11 := Sp.of_c (H1 (hn 1 (show 1 ∈ [0, 1] from .tail _ (.head _))))
                  clear hn hl H0 H1
                  refine stepC (wanted_free rfl) fun K hK => ?_
                  go_simp
                  exact hK _ (Below.refl _ _)
                refine steps_cons (fun hn hl => ?_) fun H3 => ?_
                · skip
                  have h12 := Sp.of_c (H2 (hn 2 (show 2 ∈ [2] from .head _)))
                  clear hn hl H0 H1 H2
                  refine stepC (wanted_free rfl) fun K hK => ?_
                  go_simp
                  exact hK _ (Below.refl _ _)
                refine steps_cons (fun hn hl => ?_) fun H4 => ?_
                · skip
                  have h13 := Sp.of_c (H3 (hn 3 (show 3 ∈ [3] from .head _)))
                  clear hn hl H0 H1 H2 H3
                  refine stepC (wanted_free rfl) fun K hK => ?_
                  go_simp
                  exact hK _ (Below.refl _ _)
                refine steps_cons (fun hn hl => ?_) fun H5 => ?_
                · skip
                  have h14 := Sp.of_c (H4 (hn 4 (show 4 ∈ [4] from .head _)))
                  clear hn hl H0 H1 H2 H3 H4
                  refine stepC (wanted_free rfl) fun K hK => ?_
                  go_simp
                  first
                    | ((with_reducible refine (HN.out _).mono ?_); rintro e w6 ⟨rfl, rfl⟩; exact hK _ (Below.refl _ _))
                    | ((with_reducible refine (HF.out _).mono ?_); rintro e w6 ⟨rfl, hb6⟩; exact hK _ hb6)
                refine steps_cons (fun hn hl => ?_) fun H6 => ?_
                · skip
                  have h15 := Sp.of_c (H5 (hn 5 (show 5 ∈ [5] from .head _)))
                  clear hn hl H0 H1 H2 H3 H4 H5
                  refine stepC (wanted_free rfl) fun K hK => ?_
                  go_simp
                  exact hK _ (Below.refl _ _)
                refine steps_cons (fun hn hl => ?_) fun H7 => ?_
                · skip
                  have h16 := Sp.of_c (H6 (hn 6 (show 6 ∈ [6] from .head _)))
                  clear hn hl H0 H1 H2 H3 H4 H5 H6
                  refine stepC (wanted_free rfl) fun K hK => ?_
                  go_simp
                  exact hK _ (Below.refl _ _)
                refine steps_cons (fun hn hl => ?_) fun H8 => ?_
                · skip
                  have h17 := Sp.of_c (H7 (hn 7 (show 7 ∈ [7] from .head _)))
                  clear hn hl H0 H1 H2 H3 H4 H5 H6 H7
                  refine stepC (wanted_guard rfl rfl h17 rfl) fun K hK => ?_
                  go_simp
                  exact hK _ (Below.refl _ _)
                refine steps_cons (fun hn hl => ?_) fun H9 => ?_
                · skip
                  have h17 := Sp.of_c (H7 (hn 7 (show 7 ∈ [7] from .head _)))
                  clear hn hl H0 H1 H2 H3 H4 H5 H6 H7 H8
                  refine stepC (wanted_guard rfl rfl h17 rfl) fun K hK => ?_
                  go_simp
                  exact hK _ (Below.refl _ _)
                refine steps_cons (fun hn hl => ?_) fun H10 => ?_
                · skip
                  have h18 := Sp.of_g (H8 (hn 8 (show 8 ∈ [8, 9, 7] from .head _))) rfl
                  have h19 := Sp.of_g (H9 (hn 9 (show 9 ∈ [8, 9, 7] from .tail _ (.head _)))) rfl
                  have h17 := Sp.of_c (H7 (hn 7 (show 7 ∈ [8, 9, 7] from .tail _ (.tail _ (.head _)))))
                  clear hn hl H0 H1 H2 H3 H4 H5 H6 H7 H8 H9
                  refine stepC (wanted_guard rfl rfl h17 rfl) fun K hK => ?_
                  go_simp
                  exact hK _ (Below.refl _ _)
                refine steps_cons (fun hn hl => ?_) fun H11 => ?_
                · skip
                  have h20 := Sp.of_g (H10 (hn 10 (show 10 ∈ [10, 7] from .head _))) rfl
                  have h17 := Sp.of_c (H7 (hn 7 (show 7 ∈ [10, 7] from .tail _ (.head _))))
                  clear hn hl H0 H1 H2 H3 H4 H5 H6 H7 H8 H9 H10
                  refine stepC (wanted_guard rfl rfl h17 rfl) fun K hK => ?_
                  go_simp
                  exact hK _ (Below.refl _ _)
                refine steps_cons (fun hn hl => ?_) fun H12 => ?_
                · skip
                  have h21 := Sp.of_g (H11 (hn 11 (show 11 ∈ [11, 7] from .head _))) rfl
                  have h17 := Sp.of_c (H7 (hn 7 (show 7 ∈ [11, 7] from .tail _ (.head _))))
                  clear hn hl H0 H1 H2 H3 H4 H5 H6 H7 H8 H9 H10 H11
                  refine stepC (wanted_guard rfl rfl h17 rfl) fun K hK => ?_
                  go_simp
                  exact hK _ (Below.refl _ _)
                refine steps_cons (fun hn hl => ?_) fun H13 => ?_
                · skip
                  have h22 := Sp.of_g (H12 (hn 12 (show 12 ∈ [12, 7] from .head _))) rfl
                  have h17 := Sp.of_c (H7 (hn 7 (show 7 ∈ [12, 7] from .tail _ (.head _))))
                  clear hn hl H0 H1 H2 H3 H4 H5 H6 H7 H8 H9 H10 H11 H12
                  refine stepC (wanted_guard rfl rfl h17 rfl) fun K hK => ?_
                  go_simp
                  first
                    | ((with_reducible refine (HN.out _).mono ?_); rintro e w6 ⟨rfl, rfl⟩; exact hK _ (Below.refl _ _))
                    | ((with_reducible refine (HF.out _).mono ?_); rintro e w6 ⟨rfl, hb6⟩; exact hK _ hb6)
                refine steps_cons (fun hn hl => ?_) fun H14 => ?_
                · skip
                  have h23 := Sp.of_g (H13 (hn 13 (show 13 ∈ [13, 7] from .head _))) rfl
                  have h17 := Sp.of_c (H7 (hn 7 (show 7 ∈ [13, 7] from .tail _ (.head _))))
                  clear hn hl H0 H1 H2 H3 H4 H5 H6 H7 H8 H9 H10 H11 H12 H13
                  refine stepC (wanted_guard rfl rfl h17 rfl) fun K hK => ?_
                  go_simp
                  exact hK _ (Below.refl _ _)
                refine steps_cons (fun hn hl => ?_) fun H15 => ?_
                · skip
                  have h17 := Sp.of_c (H7 (hn 7 (show 7 ∈ [7, 14] from .head _)))
                  have h24 := Sp.of_g (H14 (hn 14 (show 14 ∈ [7, 14] from .tail _ (.head _)))) rfl
                  clear hn hl H0 H1 H2 H3 H4 H5 H6 H7 H8 H9 H10 H11 H12 H13 H14
                  refine stepC (wanted_free rfl) fun K hK => ?_
                  go_simp
                  exact hK _ (Below.refl _ _)
                refine steps_cons (fun hn hl => ?_) fun H16 => ?_
                · skip
                  have h25 := Sp.of_c (H15 (hn 15 (show 15 ∈ [15] from .head _)))
                  clear hn hl H0 H1 H2 H3 H4 H5 H6 H7 H8 H9 H10 H11 H12 H13 H14 H15
                  refine stepC (wanted_free rfl) fun K hK => ?_
                  go_simp
                  exact hK _ (Below.refl _ _)
                refine steps_cons (fun hn hl => ?_) fun H17 => ?_
                · skip
                  have h26 := Sp.of_c (H16 (hn 16 (show 16 ∈ [16] from .head _)))
                  clear hn hl H0 H1 H2 H3 H4 H5 H6 H7 H8 H9 H10 H11 H12 H13 H14 H15 H16
                  refine stepC (wanted_guard rfl rfl h26 rfl) fun K hK => ?_
                  go_simp
                  exact hK _ (Below.refl _ _)
                refine steps_cons (fun hn hl => ?_) fun H18 => ?_
                · skip
                  have h27 := Sp.of_g (H17 (hn 17 (show 17 ∈ [17, 16] from .head _))) rfl
                  have h26 := Sp.of_c (H16 (hn 16 (show 16 ∈ [17, 16] from .tail _ (.head _))))
                  clear hn hl H0 H1 H2 H3 H4 H5 H6 H7 H8 H9 H10 H11 H12 H13 H14 H15 H16 H17
                  refine stepC (wanted_guard rfl rfl h26 rfl) fun K hK => ?_
                  go_simp
                  exact hK _ (Below.refl _ _)
                refine steps_cons (fun hn hl => ?_) fun H19 => ?_
                · skip
                  have h28 := Sp.of_g (H18 (hn 18 (show 18 ∈ [18, 16] from .head _))) rfl
                  have h26 := Sp.of_c (H16 (hn 16 (show 16 ∈ [18, 16] from .tail _ (.head _))))
                  clear hn hl H0 H1 H2 H3 H4 H5 H6 H7 H8 H9 H10 H11 H12 H13 H14 H15 H16 H17 H18
                  refine stepC (wanted_guard rfl rfl h26 rfl) fun K hK => ?_
                  go_simp
                  exact hK _ (Below.refl _ _)
                refine steps_cons (fun hn hl => ?_) fun H20 => ?_
                · skip
                  have h29 := Sp.of_g (H19 (hn 19 (show 19 ∈ [19] from .head _))) rfl
                  clear hn hl H0 H1 H2 H3 H4 H5 H6 H7 H8 H9 H10 H11 H12 H13 H14 H15 H16 H17 H18 H19
                  refine stepC (wanted_guard rfl rfl h29 rfl) fun K hK => ?_
                  go_simp
                  exact hK _ (Below.refl _ _)
                refine steps_cons (fun hn hl => ?_) fun H21 => ?_
                · skip
                  have h29 := Sp.of_g (H19 (hn 19 (show 19 ∈ [19] from .head _))) rfl
                  clear hn hl H0 H1 H2 H3 H4 H5 H6 H7 H8 H9 H10 H11 H12 H13 H14 H15 H16 H17 H18 H19 H20
                  refine stepC (wanted_guard rfl rfl h29 rfl) fun K hK => ?_
                  go_simp
                  exact hK _ (Below.refl _ _)
                refine steps_cons (fun hn hl => ?_) fun H22 => ?_
                · skip
                  have h30 := Sp.of_g (H20 (hn 20 (show 20 ∈ [20, 21, 19] from .head _))) rfl
                  have h31 := Sp.of_g (H21 (hn 21 (show 21 ∈ [20, 21, 19] from .tail _ (.head _)))) rfl
                  have h29 := Sp.of_g (H19 (hn 19 (show 19 ∈ [20, 21, 19] from .tail _ (.tail _ (.head _))))) rfl
                  clear hn hl H0 H1 H2 H3 H4 H5 H6 H7 H8 H9 H10 H11 H12 H13 H14 H15 H16 H17 H18 H19 H20 H21
                  refine stepC (wanted_guard rfl rfl h29 rfl) fun K hK => ?_
                  go_simp
                  exact hK _ (Below.refl _ _)
                refine steps_cons (fun hn hl => ?_) fun H23 => ?_
                · skip
                  have h32 := Sp.of_g (H22 (hn 22 (show 22 ∈ [22, 19] from .head _))) rfl
                  have h29 := Sp.of_g (H19 (hn 19 (show 19 ∈ [22, 19] from .tail _ (.head _)))) rfl
                  clear hn hl H0 H1 H2 H3 H4 H5 H6 H7 H8 H9 H10 H11 H12 H13 H14 H15 H16 H17 H18 H19 H20 H21 H22
                  refine stepC (wanted_guard rfl rfl h29 rfl) fun K hK => ?_
                  go_simp
                  exact hK _ (Below.refl _ _)
                refine steps_cons (fun hn hl => ?_) fun H24 => ?_
                · skip
                  have h33 := Sp.of_g (H23 (hn 23 (show 23 ∈ [23, 19] from .head _))) rfl
                  have h29 := Sp.of_g (H19 (hn 19 (show 19 ∈ [23, 19] from .tail _ (.head _)))) rfl
                  clear hn hl H0 H1 H2 H3 H4 H5 H6 H7 H8 H9 H10 H11 H12 H13 H14 H15 H16 H17 H18 H19 H20 H21 H22 H23
                  refine stepC (wanted_guard rfl rfl h29 rfl) fun K hK => ?_
                  go_simp
                  exact hK _ (Below.refl _ _)
                refine steps_cons (fun hn hl => ?_) fun H25 => ?_
                · skip
                  have h29 := Sp.of_g (H19 (hn 19 (show 19 ∈ [19] from .head _))) rfl
                  clear hn hl H0 H1 H2 H3 H4 H5 H6 H7 H8 H9 H10 H11 H12 H13 H14 H15 H16 H17 H18 H19 H20 H21 H22 H23 H24
                  refine stepC (wanted_guard rfl rfl h29 rfl) fun K hK => ?_
                  go_simp
                  exact hK _ (Below.refl _ _)
                refine steps_cons (fun hn hl => ?_) fun H26 => ?_
                · skip
                  have h29 := Sp.of_g (H19 (hn 19 (show 19 ∈ [19] from .head _))) rfl
                  clear hn hl H0 H1 H2 H3 H4 H5 H6 H7 H8 H9 H10 H11 H12 H13 H14 H15 H16 H17 H18 H19 H20 H21 H22 H23 H24 H25
                  refine stepC (wanted_guard rfl rfl h29 rfl) fun K hK => ?_
                  go_simp
                  exact hK _ (Below.refl _ _)
                refine steps_cons (fun hn hl => ?_) fun H27 => ?_
                · skip
                  have h36 := Sp.of_g (H26 (hn 26 (show 26 ∈ [26, 19] from .head _))) rfl
                  have h29 := Sp.of_g (H19 (hn 19 (show 19 ∈ [26, 19] from .tail _ (.head _)))) rfl
                  clear hn hl H0 H1 H2 H3 H4 H5 H6 H7 H8 H9 H10 H11 H12 H13 H14 H15 H16 H17 H18 H19 H20 H21 H22 H23 H24 H25 H26
                  refine stepC (wanted_guard rfl rfl h29 rfl) fun K hK => ?_
                  go_simp
                  exact hK _ (Below.refl _ _)
                refine steps_cons (fun hn hl => ?_) fun H28 => ?_
                · skip
                  have h35 := Sp.of_g (H25 (hn 25 (show 25 ∈ [25, 27, 19] from .head _))) rfl
                  have h37 := Sp.of_g (H27 (hn 27 (show 27 ∈ [25, 27, 19] from .tail _ (.head _)))) rfl
                  have h29 := Sp.of_g (H19 (hn 19 (show 19 ∈ [25, 27, 19] from .tail _ (.tail _ (.head _))))) rfl
                  clear hn hl H0 H1 H2 H3 H4 H5 H6 H7 H8 H9 H10 H11 H12 H13 H14 H15 H16 H17 H18 H19 H20 H21 H22 H23 H24 H25 H26 H27
                  refine stepC (wanted_guard rfl rfl h29 rfl) fun K hK => ?_
                  go_simp
                  exact hK _ (Below.refl _ _)
                refine steps_cons (fun hn hl => ?_) fun H29 => ?_
                · skip
                  have h38 := Sp.of_g (H28 (hn 28 (show 28 ∈ [28, 19] from .head _))) rfl
                  have h29 := Sp.of_g (H19 (hn 19 (show 19 ∈ [28, 19] from .tail _ (.head _)))) rfl
                  clear hn hl H0 H1 H2 H3 H4 H5 H6 H7 H8 H9 H10 H11 H12 H13 H14 H15 H16 H17 H18 H19 H20 H21 H22 H23 H24 H25 H26 H27 H28
                  refine stepC (wanted_guard rfl rfl h29 rfl) fun K hK => ?_
                  go_simp
                  exact hK _ (Below.refl _ _)
                refine steps_cons (fun hn hl => ?_) fun H30 => ?_
                · skip
                  have h39 := Sp.of_g (H29 (hn 29 (show 29 ∈ [29, 19] from .head _))) rfl
                  have h29 := Sp.of_g (H19 (hn 19 (show 19 ∈ [29, 19] from .tail _ (.head _)))) rfl
                  clear hn hl H0 H1 H2 H3 H4 H5 H6 H7 H8 H9 H10 H11 H12 H13 H14 H15 H16 H17 H18 H19 H20 H21 H22 H23 H24 H25 H26 H27 H28 H29
                  refine stepC (wanted_guard rfl rfl h29 rfl) fun K hK => ?_
                  go_simp
                  exact hK _ (Below.refl _ _)
                refine steps_cons (fun hn hl => ?_) fun H31 => ?_
                · skip
                  have h34 := Sp.of_g (H24 (hn 24 (show 24 ∈ [24, 30, 19] from .head _))) rfl
                  have h40 := Sp.of_g (H30 (hn 30 (show 30 ∈ [24, 30, 19] from .tail _ (.head _)))) rfl
                  have h29 := Sp.of_g (H19 (hn 19 (show 19 ∈ [24, 30, 19] from .tail _ (.tail _ (.head _))))) rfl
                  clear hn hl H0 H1 H2 H3 H4 H5 H6 H7 H8 H9 H10 H11 H12 H13 H14 H15 H16 H17 H18 H19 H20 H21 H22 H23 H24 H25 H26 H27 H28 H29 H30
                  refine stepC (wanted_guard rfl rfl h29 rfl) fun K hK => ?_
                  go_simp
                  exact hK _ (Below.refl _ _)
                refine steps_cons (fun hn hl => ?_) fun H32 => ?_
                · skip
                  have h29 := Sp.of_g (H19 (hn 19 (show 19 ∈ [19, 31, 16] from .head _))) rfl
                  have h41 := Sp.of_g (H31 (hn 31 (show 31 ∈ [19, 31, 16] from .tail _ (.head _)))) rfl
                  have h26 := Sp.of_c (H16 (hn 16 (show 16 ∈ [19, 31, 16] from .tail _ (.tail _ (.head _)))))
                  clear hn hl H0 H1 H2 H3 H4 H5 H6 H7 H8 H9 H10 H11 H12 H13 H14 H15 H16 H17 H18 H19 H20 H21 H22 H23 H24 H25 H26 H27 H28 H29 H30 H31
                  refine stepC (wanted_guard rfl rfl h26 rfl) fun K hK => ?_
                  go_simp
                  exact hK _ (Below.refl _ _)
                refine steps_cons (fun hn hl => ?_) fun H33 => ?_
                · skip
                  have h26 := Sp.of_c (H16 (hn 16 (show 16 ∈ [16, 32] from .head _)))
                  have h42 := Sp.of_g (H32 (hn 32 (show 32 ∈ [16, 32] from .tail _ (.head _)))) rfl
                  clear hn hl H0 H1 H2 H3 H4 H5 H6 H7 H8 H9 H10 H11 H12 H13 H14 H15 H16 H17 H18 H19 H20 H21 H22 H23 H24 H25 H26 H27 H28 H29 H30 H31 H32
                  refine stepC (wanted_free rfl) fun K hK => ?_
                  go_simp
                  exact hK _ (Below.refl _ _)
                exact trivial
              · intro w5 hb5
                have hz5 := hb5.size
                refine end_cons ?_; rintro _ rfl
                refine end_cons ?_; rintro _ rfl
                refine end_cons ?_; rintro _ rfl
                refine end_cons ?_; rintro _ rfl
                refine end_cons ?_; rintro _ rfl
                refine end_cons ?_; rintro _ rfl
                refine end_cons ?_; rintro _ rfl
                refine end_cons ?_; rintro _ rfl
                refine end_cons ?_; rintro _ rfl
                refine end_cons ?_; rintro _ rfl
                refine end_cons ?_; rintro _ rfl
                refine end_cons ?_; rintro _ rfl
                refine end_cons ?_; rintro _ rfl
                refine end_cons ?_; rintro _ rfl
                refine end_cons ?_; rintro _ rfl
                refine end_cons ?_; rintro _ rfl
                refine end_cons ?_; rintro _ rfl
                refine end_cons ?_; rintro _ rfl
                refine end_cons ?_; rintro _ rfl
                refine end_cons ?_; rintro _ rfl
                refine end_cons ?_; rintro _ rfl
                refine end_cons ?_; rintro _ rfl
                refine end_cons ?_; rintro _ rfl
                refine end_cons ?_; rintro _ rfl
                refine end_cons ?_; rintro _ rfl
                refine end_cons ?_; rintro _ rfl
                refine end_cons ?_; rintro _ rfl
                refine end_cons ?_; rintro _ rfl
                refine end_cons ?_; rintro _ rfl
                refine end_cons ?_; rintro _ rfl
                refine end_cons ?_; rintro _ rfl
                refine end_cons ?_; rintro _ rfl
                refine end_cons ?_; rintro _ rfl
                refine end_cons ?_; rintro _ rfl
                refine end_nil ?_
                simp only [List.setIfInBounds_toArray, List.set_cons_succ, List.set_cons_zero, Bool.not_false, Bool.not_true, Bool.true_or, Bool.or_true, Bool.false_or, Bool.or_false]
                go_wp2
                go_ret
                exact ⟨by rw [E.out]; rfl, (by repeat' (first | exact Below.refl _ _ | assumption | exact And.left (by assumption) | refine Below.drew ?_ | refine below_drewN ?_ _ | refine Below.setCell ?_ (by first | (simp; done) | (simp; omega) | omega) _ | refine Below.alloc ?_ (by first | (simp; done) | (simp; omega) | omega) _ | refine after (by assumption) (by first | (simp; done) | (simp; omega) | omega) ?_))⟩
            · have hqq : decide (s.at_ ≤ pv) = false := decide_eq_false hq
              have HX := Lib.hid (HX.out (by omega))
              clear HD hq
              go_wp2_with fail
              refine region_mono (rrSp b off cap l.length k j s pv true true true false) [10, 11, 12, 13, 14, 15, 16, 17, 18, 19, 20, 21, 22, 23, 24, 25, 26, 27, 28, 29, 30, 31, 32, 33, 34, 35, 36, 37, 38, 39, 40, 41, 42, 43] (by kernel_rfl) (by kernel_rfl) (by kernel_rfl) (by kernel_rfl) (stables_cons (Sp.c_stable _ _) (stables_cons (Sp.c_stable _ _) (stables_cons (Sp.c_stable _ _) (stables_cons (Sp.c_stable _ _) (stables_cons (Sp.c_stable _ _) (stables_cons (Sp.c_stable _ _) (stables_cons (Sp.c_stable _ _) (stables_cons (Sp.c_stable _ _) (stables_cons (Sp.g_stable _ _ _) (stables_cons (Sp.g_stable _ _ _) (stables_cons (Sp.g_stable _ _ _) (stables_cons (Sp.g_stable _ _ _) (stables_cons (Sp.g_stable _ _ _) (stables_cons (Sp.g_stable _ _ _) (stables_cons (Sp.g_stable _ _ _) (stables_cons (Sp.c_stable _ _) (stables_cons (Sp.c_stable _ _) (stables_cons (Sp.g_stable _ _ _) (stables_cons (Sp.g_stable _ _ _) (stables_cons (Sp.g_stable _ _ _) (stables_cons (Sp.g_stable _ _ _) (stables_cons (Sp.g_stable _ _ _) (stables_cons (Sp.g_stable _ _ _) (stables_cons (Sp.g_stable _ _ _) (stables_cons (Sp.g_stable _ _ _) (stables_cons (Sp.g_stable _ _ _) (stables_cons (Sp.g_stable _ _ _) (stables_cons (Sp.g_stable _ _ _) (stables_cons (Sp.g_stable _ _ _) (stables_cons (Sp.g_stable _ _ _) (stables_cons (Sp.g_stable _ _ _) (stables_cons (Sp.g_stable _ _ _) (stables_cons (Sp.g_stable _ _ _) (stables_cons (Sp.c_stable _ _) (trivial))))))))))))))))))))))))))))))))))) ?_ ?_
              · intro am wm L hbm hbase hbase2
                have s0 : am.tmps.getD 0 undef = .slice (some ⟨b, off, none⟩) l.length cap := (hbase 0 rfl).trans (by simp only [Array.getD_eq_getD_getElem?, List.getElem?_toArray, List.getElem?_cons_succ, List.getElem?_cons_zero, Option.getD_some])
                have s3 : am.tmps.getD 3 undef = .int .i64 (k : Int) := (hbase 3 rfl).trans (by simp only [Array.getD_eq_getD_getElem?, List.getElem?_toArray, List.getElem?_cons_succ, List.getElem?_cons_zero, Option.getD_some])
                clear hbase hbase2
                have m0 := carry hbm q0
                have m1 := carry hbm q1
                have m2 : wm.cell? ⟨b, off + k * 5 + 1 + 1, none⟩ = some (.int .i64 s.free.mem) := carry hbm q2
                have m3 : wm.cell? ⟨b, off + k * 5 + 1 + 2, none⟩ = some (.int .i64 s.free.gpu) := carry hbm q3
                have m4 : wm.cell? ⟨b, off + k * 5 + 1 + 3, none⟩ = some (.int .i64 s.free.lic) := carry hbm q4
                have m5 := carry hbm p0
                refine steps_cons (fun hn hl => ?_) fun H0 => ?_
                · skip
                  clear hn hl 
                  refine stepC (wanted_free rfl) fun K hK => ?_
                  go_simp
                  exact hK _ (Below.refl _ _)
                refine steps_cons (fun hn hl => ?_) fun H1 => ?_
                · skip
                  clear hn hl H0
                  refine stepC (wanted_free rfl) fun K hK => ?_
                  go_simp
                  exact hK _ (Below.refl _ _)
                refine steps_cons (fun hn hl => ?_) fun H2 => ?_
                · skip
                  have h10 := Sp.of_c (H0 (hn 0 (show 0 ∈ [0, 1] from .head _)))
                  have h11 := Sp.of_c (H1 (hn 1 (show 1 ∈ [0, 1] from .tail _ (.head _))))
                  clear hn hl H0 H1
                  refine stepC (wanted_free rfl) fun K hK => ?_
                  go_simp
                  exact hK _ (Below.refl _ _)
                refine steps_cons (fun hn hl => ?_) fun H3 => ?_
                · skip
                  have h12 := Sp.of_c (H2 (hn 2 (show 2 ∈ [2] from .head _)))
                  clear hn hl H0 H1 H2
                  refine stepC (wanted_free rfl) fun K hK => ?_
                  go_simp
                  exact hK _ (Below.refl _ _)
                refine steps_cons (fun hn hl => ?_) fun H4 => ?_
                · skip
                  have h13 := Sp.of_c (H3 (hn 3 (show 3 ∈ [3] from .head _)))
                  clear hn hl H0 H1 H2 H3
                  refine stepC (wanted_free rfl) fun K hK => ?_
                  go_simp
                  exact hK _ (Below.refl _ _)
                refine steps_cons (fun hn hl => ?_) fun H5 => ?_
                · skip
                  have h14 := Sp.of_c (H4 (hn 4 (show 4 ∈ [4] from .head _)))
                  clear hn hl H0 H1 H2 H3 H4
                  refine stepC (wanted_free rfl) fun K hK => ?_
                  go_simp
                  first
                    | ((with_reducible refine (HN.out _).mono ?_); rintro e w6 ⟨rfl, rfl⟩; exact hK _ (Below.refl _ _))
                    | ((with_reducible refine (HF.out _).mono ?_); rintro e w6 ⟨rfl, hb6⟩; exact hK _ hb6)
                refine steps_cons (fun hn hl => ?_) fun H6 => ?_
                · skip
                  have h15 := Sp.of_c (H5 (hn 5 (show 5 ∈ [5] from .head _)))
                  clear hn hl H0 H1 H2 H3 H4 H5
                  refine stepC (wanted_free rfl) fun K hK => ?_
                  go_simp
                  exact hK _ (Below.refl _ _)
                refine steps_cons (fun hn hl => ?_) fun H7 => ?_
                · skip
                  have h16 := Sp.of_c (H6 (hn 6 (show 6 ∈ [6] from .head _)))
                  clear hn hl H0 H1 H2 H3 H4 H5 H6
                  refine stepC (wanted_free rfl) fun K hK => ?_
                  go_simp
                  exact hK _ (Below.refl _ _)
                refine steps_cons (fun hn hl => ?_) fun H8 => ?_
                · skip
                  have h17 := Sp.of_c (H7 (hn 7 (show 7 ∈ [7] from .head _)))
                  clear hn hl H0 H1 H2 H3 H4 H5 H6 H7
                  refine stepC (wanted_guard rfl rfl h17 rfl) fun K hK => ?_
                  go_simp
                  exact hK _ (Below.refl _ _)
                refine steps_cons (fun hn hl => ?_) fun H9 => ?_
                · skip
                  have h17 := Sp.of_c (H7 (hn 7 (show 7 ∈ [7] from .head _)))
                  clear hn hl H0 H1 H2 H3 H4 H5 H6 H7 H8
                  refine stepC (wanted_guard rfl rfl h17 rfl) fun K hK => ?_
                  go_simp
                  exact hK _ (Below.refl _ _)
                refine steps_cons (fun hn hl => ?_) fun H10 => ?_
                · skip
                  have h18 := Sp.of_g (H8 (hn 8 (show 8 ∈ [8, 9, 7] from .head _))) rfl
                  have h19 := Sp.of_g (H9 (hn 9 (show 9 ∈ [8, 9, 7] from .tail _ (.head _)))) rfl
                  have h17 := Sp.of_c (H7 (hn 7 (show 7 ∈ [8, 9, 7] from .tail _ (.tail _ (.head _)))))
                  clear hn hl H0 H1 H2 H3 H4 H5 H6 H7 H8 H9
                  refine stepC (wanted_guard rfl rfl h17 rfl) fun K hK => ?_
                  go_simp
                  exact hK _ (Below.refl _ _)
                refine steps_cons (fun hn hl => ?_) fun H11 => ?_
                · skip
                  have h20 := Sp.of_g (H10 (hn 10 (show 10 ∈ [10, 7] from .head _))) rfl
                  have h17 := Sp.of_c (H7 (hn 7 (show 7 ∈ [10, 7] from .tail _ (.head _))))
                  clear hn hl H0 H1 H2 H3 H4 H5 H6 H7 H8 H9 H10
                  refine stepC (wanted_guard rfl rfl h17 rfl) fun K hK => ?_
                  go_simp
                  exact hK _ (Below.refl _ _)
                refine steps_cons (fun hn hl => ?_) fun H12 => ?_
                · skip
                  have h21 := Sp.of_g (H11 (hn 11 (show 11 ∈ [11, 7] from .head _))) rfl
                  have h17 := Sp.of_c (H7 (hn 7 (show 7 ∈ [11, 7] from .tail _ (.head _))))
                  clear hn hl H0 H1 H2 H3 H4 H5 H6 H7 H8 H9 H10 H11
                  refine stepC (wanted_guard rfl rfl h17 rfl) fun K hK => ?_
                  go_simp
                  exact hK _ (Below.refl _ _)
                refine steps_cons (fun hn hl => ?_) fun H13 => ?_
                · skip
                  have h22 := Sp.of_g (H12 (hn 12 (show 12 ∈ [12, 7] from .head _))) rfl
                  have h17 := Sp.of_c (H7 (hn 7 (show 7 ∈ [12, 7] from .tail _ (.head _))))
                  clear hn hl H0 H1 H2 H3 H4 H5 H6 H7 H8 H9 H10 H11 H12
                  refine stepC (wanted_guard rfl rfl h17 rfl) fun K hK => ?_
                  go_simp
                  first
                    | ((with_reducible refine (HN.out _).mono ?_); rintro e w6 ⟨rfl, rfl⟩; exact hK _ (Below.refl _ _))
                    | ((with_reducible refine (HF.out _).mono ?_); rintro e w6 ⟨rfl, hb6⟩; exact hK _ hb6)
                refine steps_cons (fun hn hl => ?_) fun H14 => ?_
                · skip
                  have h23 := Sp.of_g (H13 (hn 13 (show 13 ∈ [13, 7] from .head _))) rfl
                  have h17 := Sp.of_c (H7 (hn 7 (show 7 ∈ [13, 7] from .tail _ (.head _))))
                  clear hn hl H0 H1 H2 H3 H4 H5 H6 H7 H8 H9 H10 H11 H12 H13
                  refine stepC (wanted_guard rfl rfl h17 rfl) fun K hK => ?_
                  go_simp
                  exact hK _ (Below.refl _ _)
                refine steps_cons (fun hn hl => ?_) fun H15 => ?_
                · skip
                  have h17 := Sp.of_c (H7 (hn 7 (show 7 ∈ [7, 14] from .head _)))
                  have h24 := Sp.of_g (H14 (hn 14 (show 14 ∈ [7, 14] from .tail _ (.head _)))) rfl
                  clear hn hl H0 H1 H2 H3 H4 H5 H6 H7 H8 H9 H10 H11 H12 H13 H14
                  refine stepC (wanted_free rfl) fun K hK => ?_
                  go_simp
                  exact hK _ (Below.refl _ _)
                refine steps_cons (fun hn hl => ?_) fun H16 => ?_
                · skip
                  have h25 := Sp.of_c (H15 (hn 15 (show 15 ∈ [15] from .head _)))
                  clear hn hl H0 H1 H2 H3 H4 H5 H6 H7 H8 H9 H10 H11 H12 H13 H14 H15
                  refine stepC (wanted_free rfl) fun K hK => ?_
                  go_simp
                  exact hK _ (Below.refl _ _)
                refine steps_cons (fun hn hl => ?_) fun H17 => ?_
                · skip
                  have h26 := Sp.of_c (H16 (hn 16 (show 16 ∈ [16] from .head _)))
                  clear hn hl H0 H1 H2 H3 H4 H5 H6 H7 H8 H9 H10 H11 H12 H13 H14 H15 H16
                  refine stepC (wanted_guard rfl rfl h26 rfl) fun K hK => ?_
                  go_simp
                  exact hK _ (Below.refl _ _)
                refine steps_cons (fun hn hl => ?_) fun H18 => ?_
                · skip
                  have h27 := Sp.of_g (H17 (hn 17 (show 17 ∈ [17, 16] from .head _))) rfl
                  have h26 := Sp.of_c (H16 (hn 16 (show 16 ∈ [17, 16] from .tail _ (.head _))))
                  clear hn hl H0 H1 H2 H3 H4 H5 H6 H7 H8 H9 H10 H11 H12 H13 H14 H15 H16 H17
                  refine stepC (wanted_guard rfl rfl h26 rfl) fun K hK => ?_
                  go_simp
                  exact hK _ (Below.refl _ _)
                refine steps_cons (fun hn hl => ?_) fun H19 => ?_
                · skip
                  have h28 := Sp.of_g (H18 (hn 18 (show 18 ∈ [18, 16] from .head _))) rfl
                  have h26 := Sp.of_c (H16 (hn 16 (show 16 ∈ [18, 16] from .tail _ (.head _))))
                  clear hn hl H0 H1 H2 H3 H4 H5 H6 H7 H8 H9 H10 H11 H12 H13 H14 H15 H16 H17 H18
                  refine stepC (wanted_guard rfl rfl h26 rfl) fun K hK => ?_
                  go_simp
                  exact hK _ (Below.refl _ _)
                refine steps_cons (fun hn hl => ?_) fun H20 => ?_
                · skip
                  have h29 := Sp.of_g (H19 (hn 19 (show 19 ∈ [19] from .head _))) rfl
                  clear hn hl H0 H1 H2 H3 H4 H5 H6 H7 H8 H9 H10 H11 H12 H13 H14 H15 H16 H17 H18 H19
                  refine stepC (wanted_guard rfl rfl h29 rfl) fun K hK => ?_
                  go_simp
                  exact hK _ (Below.refl _ _)
                refine steps_cons (fun hn hl => ?_) fun H21 => ?_
                · skip
                  have h29 := Sp.of_g (H19 (hn 19 (show 19 ∈ [19] from .head _))) rfl
                  clear hn hl H0 H1 H2 H3 H4 H5 H6 H7 H8 H9 H10 H11 H12 H13 H14 H15 H16 H17 H18 H19 H20
                  refine stepC (wanted_guard rfl rfl h29 rfl) fun K hK => ?_
                  go_simp
                  exact hK _ (Below.refl _ _)
                refine steps_cons (fun hn hl => ?_) fun H22 => ?_
                · skip
                  have h30 := Sp.of_g (H20 (hn 20 (show 20 ∈ [20, 21, 19] from .head _))) rfl
                  have h31 := Sp.of_g (H21 (hn 21 (show 21 ∈ [20, 21, 19] from .tail _ (.head _)))) rfl
                  have h29 := Sp.of_g (H19 (hn 19 (show 19 ∈ [20, 21, 19] from .tail _ (.tail _ (.head _))))) rfl
                  clear hn hl H0 H1 H2 H3 H4 H5 H6 H7 H8 H9 H10 H11 H12 H13 H14 H15 H16 H17 H18 H19 H20 H21
                  refine stepC (wanted_guard rfl rfl h29 rfl) fun K hK => ?_
                  go_simp
                  exact hK _ (Below.refl _ _)
                refine steps_cons (fun hn hl => ?_) fun H23 => ?_
                · skip
                  have h32 := Sp.of_g (H22 (hn 22 (show 22 ∈ [22, 19] from .head _))) rfl
                  have h29 := Sp.of_g (H19 (hn 19 (show 19 ∈ [22, 19] from .tail _ (.head _)))) rfl
                  clear hn hl H0 H1 H2 H3 H4 H5 H6 H7 H8 H9 H10 H11 H12 H13 H14 H15 H16 H17 H18 H19 H20 H21 H22
                  refine stepC (wanted_guard rfl rfl h29 rfl) fun K hK => ?_
                  go_simp
                  exact hK _ (Below.refl _ _)
                refine steps_cons (fun hn hl => ?_) fun H24 => ?_
                · skip
                  have h33 := Sp.of_g (H23 (hn 23 (show 23 ∈ [23, 19] from .head _))) rfl
                  have h29 := Sp.of_g (H19 (hn 19 (show 19 ∈ [23, 19] from .tail _ (.head _)))) rfl
                  clear hn hl H0 H1 H2 H3 H4 H5 H6 H7 H8 H9 H10 H11 H12 H13 H14 H15 H16 H17 H18 H19 H20 H21 H22 H23
                  refine stepC (wanted_guard rfl rfl h29 rfl) fun K hK => ?_
                  go_simp
                  exact hK _ (Below.refl _ _)
                refine steps_cons (fun hn hl => ?_) fun H25 => ?_
                · skip
                  have h29 := Sp.of_g (H19 (hn 19 (show 19 ∈ [19] from .head _))) rfl
                  clear hn hl H0 H1 H2 H3 H4 H5 H6 H7 H8 H9 H10 H11 H12 H13 H14 H15 H16 H17 H18 H19 H20 H21 H22 H23 H24
                  refine stepC (wanted_guard rfl rfl h29 rfl) fun K hK => ?_
                  go_simp
                  exact hK _ (Below.refl _ _)
                refine steps_cons (fun hn hl => ?_) fun H26 => ?_
                · skip
                  have h29 := Sp.of_g (H19 (hn 19 (show 19 ∈ [19] from .head _))) rfl
                  clear hn hl H0 H1 H2 H3 H4 H5 H6 H7 H8 H9 H10 H11 H12 H13 H14 H15 H16 H17 H18 H19 H20 H21 H22 H23 H24 H25
                  refine stepC (wanted_guard rfl rfl h29 rfl) fun K hK => ?_
                  go_simp
                  exact hK _ (Below.refl _ _)
                refine steps_cons (fun hn hl => ?_) fun H27 => ?_
                · skip
                  have h36 := Sp.of_g (H26 (hn 26 (show 26 ∈ [26, 19] from .head _))) rfl
                  have h29 := Sp.of_g (H19 (hn 19 (show 19 ∈ [26, 19] from .tail _ (.head _)))) rfl
                  clear hn hl H0 H1 H2 H3 H4 H5 H6 H7 H8 H9 H10 H11 H12 H13 H14 H15 H16 H17 H18 H19 H20 H21 H22 H23 H24 H25 H26
                  refine stepC (wanted_guard rfl rfl h29 rfl) fun K hK => ?_
                  go_simp
                  exact hK _ (Below.refl _ _)
                refine steps_cons (fun hn hl => ?_) fun H28 => ?_
                · skip
                  have h35 := Sp.of_g (H25 (hn 25 (show 25 ∈ [25, 27, 19] from .head _))) rfl
                  have h37 := Sp.of_g (H27 (hn 27 (show 27 ∈ [25, 27, 19] from .tail _ (.head _)))) rfl
                  have h29 := Sp.of_g (H19 (hn 19 (show 19 ∈ [25, 27, 19] from .tail _ (.tail _ (.head _))))) rfl
                  clear hn hl H0 H1 H2 H3 H4 H5 H6 H7 H8 H9 H10 H11 H12 H13 H14 H15 H16 H17 H18 H19 H20 H21 H22 H23 H24 H25 H26 H27
                  refine stepC (wanted_guard rfl rfl h29 rfl) fun K hK => ?_
                  go_simp
                  exact hK _ (Below.refl _ _)
                refine steps_cons (fun hn hl => ?_) fun H29 => ?_
                · skip
                  have h38 := Sp.of_g (H28 (hn 28 (show 28 ∈ [28, 19] from .head _))) rfl
                  have h29 := Sp.of_g (H19 (hn 19 (show 19 ∈ [28, 19] from .tail _ (.head _)))) rfl
                  clear hn hl H0 H1 H2 H3 H4 H5 H6 H7 H8 H9 H10 H11 H12 H13 H14 H15 H16 H17 H18 H19 H20 H21 H22 H23 H24 H25 H26 H27 H28
                  refine stepC (wanted_guard rfl rfl h29 rfl) fun K hK => ?_
                  go_simp
                  exact hK _ (Below.refl _ _)
                refine steps_cons (fun hn hl => ?_) fun H30 => ?_
                · skip
                  have h39 := Sp.of_g (H29 (hn 29 (show 29 ∈ [29, 19] from .head _))) rfl
                  have h29 := Sp.of_g (H19 (hn 19 (show 19 ∈ [29, 19] from .tail _ (.head _)))) rfl
                  clear hn hl H0 H1 H2 H3 H4 H5 H6 H7 H8 H9 H10 H11 H12 H13 H14 H15 H16 H17 H18 H19 H20 H21 H22 H23 H24 H25 H26 H27 H28 H29
                  refine stepC (wanted_guard rfl rfl h29 rfl) fun K hK => ?_
                  go_simp
                  exact hK _ (Below.refl _ _)
                refine steps_cons (fun hn hl => ?_) fun H31 => ?_
                · skip
                  have h34 := Sp.of_g (H24 (hn 24 (show 24 ∈ [24, 30, 19] from .head _))) rfl
                  have h40 := Sp.of_g (H30 (hn 30 (show 30 ∈ [24, 30, 19] from .tail _ (.head _)))) rfl
                  have h29 := Sp.of_g (H19 (hn 19 (show 19 ∈ [24, 30, 19] from .tail _ (.tail _ (.head _))))) rfl
                  clear hn hl H0 H1 H2 H3 H4 H5 H6 H7 H8 H9 H10 H11 H12 H13 H14 H15 H16 H17 H18 H19 H20 H21 H22 H23 H24 H25 H26 H27 H28 H29 H30
                  refine stepC (wanted_guard rfl rfl h29 rfl) fun K hK => ?_
                  go_simp
                  exact hK _ (Below.refl _ _)
                refine steps_cons (fun hn hl => ?_) fun H32 => ?_
                · skip
                  have h29 := Sp.of_g (H19 (hn 19 (show 19 ∈ [19, 31, 16] from .head _))) rfl
                  have h41 := Sp.of_g (H31 (hn 31 (show 31 ∈ [19, 31, 16] from .tail _ (.head _)))) rfl
                  have h26 := Sp.of_c (H16 (hn 16 (show 16 ∈ [19, 31, 16] from .tail _ (.tail _ (.head _)))))
                  clear hn hl H0 H1 H2 H3 H4 H5 H6 H7 H8 H9 H10 H11 H12 H13 H14 H15 H16 H17 H18 H19 H20 H21 H22 H23 H24 H25 H26 H27 H28 H29 H30 H31
                  refine stepC (wanted_guard rfl rfl h26 rfl) fun K hK => ?_
                  go_simp
                  exact hK _ (Below.refl _ _)
                refine steps_cons (fun hn hl => ?_) fun H33 => ?_
                · skip
                  have h26 := Sp.of_c (H16 (hn 16 (show 16 ∈ [16, 32] from .head _)))
                  have h42 := Sp.of_g (H32 (hn 32 (show 32 ∈ [16, 32] from .tail _ (.head _)))) rfl
                  clear hn hl H0 H1 H2 H3 H4 H5 H6 H7 H8 H9 H10 H11 H12 H13 H14 H15 H16 H17 H18 H19 H20 H21 H22 H23 H24 H25 H26 H27 H28 H29 H30 H31 H32
                  refine stepC (wanted_free rfl) fun K hK => ?_
                  go_simp
                  exact hK _ (Below.refl _ _)
                exact trivial
              · intro w5 hb5
                have hz5 := hb5.size
                refine end_cons ?_; rintro _ rfl
                refine end_cons ?_; rintro _ rfl
                refine end_cons ?_; rintro _ rfl
                refine end_cons ?_; rintro _ rfl
                refine end_cons ?_; rintro _ rfl
                refine end_cons ?_; rintro _ rfl
                refine end_cons ?_; rintro _ rfl
                refine end_cons ?_; rintro _ rfl
                refine end_cons ?_; rintro _ rfl
                refine end_cons ?_; rintro _ rfl
                refine end_cons ?_; rintro _ rfl
                refine end_cons ?_; rintro _ rfl
                refine end_cons ?_; rintro _ rfl
                refine end_cons ?_; rintro _ rfl
                refine end_cons ?_; rintro _ rfl
                refine end_cons ?_; rintro _ rfl
                refine end_cons ?_; rintro _ rfl
                refine end_cons ?_; rintro _ rfl
                refine end_cons ?_; rintro _ rfl
                refine end_cons ?_; rintro _ rfl
                refine end_cons ?_; rintro _ rfl
                refine end_cons ?_; rintro _ rfl
                refine end_cons ?_; rintro _ rfl
                refine end_cons ?_; rintro _ rfl
                refine end_cons ?_; rintro _ rfl
                refine end_cons ?_; rintro _ rfl
                refine end_cons ?_; rintro _ rfl
                refine end_cons ?_; rintro _ rfl
                refine end_cons ?_; rintro _ rfl
                refine end_cons ?_; rintro _ rfl
                refine end_cons ?_; rintro _ rfl
                refine end_cons ?_; rintro _ rfl
                refine end_cons ?_; rintro _ rfl
                refine end_cons ?_; rintro _ rfl
                refine end_nil ?_
                simp only [List.setIfInBounds_toArray, List.set_cons_succ, List.set_cons_zero, Bool.not_false, Bool.not_true, Bool.true_or, Bool.or_true, Bool.false_or, Bool.or_false]
                go_wp2
                go_roundw
                case rel => exact ⟨k + 1, by omega, by go_num, (by repeat' (first | exact Below.refl _ _ | assumption | exact And.left (by assumption) | refine Below.drew ?_ | refine below_drewN ?_ _ | refine Below.setCell ?_ (by first | (simp; done) | (simp; omega) | omega) _ | refine Below.alloc ?_ (by first | (simp; done) | (simp; omega) | omega) _ | refine after (by assumption) (by first | (simp; done) | (simp; omega) | omega) ?_)), HX⟩
                case measure => simp [intOf]; omega
        · rw [right_no ho] at HF
          have E : Hid (rightS l = false) := Lib.hid (decide_eq_false (fun x => ho (HN2.out.1 x.2).2.2.1))
          clear ho HN2 HP h0 HJ HB
          go_wp2_with fail
          refine region_mono (rrSp b off cap l.length k 0 s 0 true false false false) [10, 11, 12, 13, 14, 15, 16, 17, 18, 19, 20, 21, 22, 23, 24, 25, 26, 27, 28, 29, 30, 31, 32, 33, 34, 35, 36, 37, 38, 39, 40, 41, 42, 43] (by kernel_rfl) (by kernel_rfl) (by kernel_rfl) (by kernel_rfl) (stables_cons (Sp.c_stable _ _) (stables_cons (Sp.c_stable _ _) (stables_cons (Sp.c_stable _ _) (stables_cons (Sp.c_stable _ _) (stables_cons (Sp.c_stable _ _) (stables_cons (Sp.c_stable _ _) (stables_cons (Sp.c_stable _ _) (stables_cons (Sp.c_stable _ _) (stables_cons (Sp.g_stable _ _ _) (stables_cons (Sp.g_stable _ _ _) (stables_cons (Sp.g_stable _ _ _) (stables_cons (Sp.g_stable _ _ _) (stables_cons (Sp.g_stable _ _ _) (stables_cons (Sp.g_stable _ _ _) (stables_cons (Sp.g_stable _ _ _) (stables_cons (Sp.c_stable _ _) (stables_cons (Sp.c_stable _ _) (stables_cons (Sp.g_stable _ _ _) (stables_cons (Sp.g_stable _ _ _) (stables_cons (Sp.g_stable _ _ _) (stables_cons (Sp.g_stable _ _ _) (stables_cons (Sp.g_stable _ _ _) (stables_cons (Sp.g_stable _ _ _) (stables_cons (Sp.g_stable _ _ _) (stables_cons (Sp.g_stable _ _ _) (stables_cons (Sp.g_stable _ _ _) (stables_cons (Sp.g_stable _ _ _) (stables_cons (Sp.g_stable _ _ _) (stables_cons (Sp.g_stable _ _ _) (stables_cons (Sp.g_stable _ _ _) (stables_cons (Sp.g_stable _ _ _) (stables_cons (Sp.g_stable _ _ _) (stables_cons (Sp.g_stable _ _ _) (stables_cons (Sp.c_stable _ _) (trivial))))))))))))))))))))))))))))))))))) ?_ ?_
          · intro am wm L hbm hbase hbase2
            have s0 : am.tmps.getD 0 undef = .slice (some ⟨b, off, none⟩) l.length cap := (hbase 0 rfl).trans (by simp only [Array.getD_eq_getD_getElem?, List.getElem?_toArray, List.getElem?_cons_succ, List.getElem?_cons_zero, Option.getD_some])
            have s3 : am.tmps.getD 3 undef = .int .i64 (k : Int) := (hbase 3 rfl).trans (by simp only [Array.getD_eq_getD_getElem?, List.getElem?_toArray, List.getElem?_cons_succ, List.getElem?_cons_zero, Option.getD_some])
            clear hbase hbase2
            have m0 := carry hbm q0
            have m1 := carry hbm q1
            have m2 : wm.cell? ⟨b, off + k * 5 + 1 + 1, none⟩ = some (.int .i64 s.free.mem) := carry hbm q2
            have m3 : wm.cell? ⟨b, off + k * 5 + 1 + 2, none⟩ = some (.int .i64 s.free.gpu) := carry hbm q3
            have m4 : wm.cell? ⟨b, off + k * 5 + 1 + 3, none⟩ = some (.int .i64 s.free.lic) := carry hbm q4
            refine steps_cons (fun hn hl => ?_) fun H0 => ?_
            · skip
              clear hn hl 
              refine stepC (wanted_free rfl) fun K hK => ?_
              go_simp
              exact hK _ (Below.refl _ _)
            refine steps_cons (fun hn hl => ?_) fun H1 => ?_
            · skip
              clear hn hl H0
              refine stepC (wanted_free rfl) fun K hK => ?_
              go_simp
              exact hK _ (Below.refl _ _)
            refine steps_cons (fun hn hl => ?_) fun H2 => ?_
            · skip
              have h10 := Sp.of_c (H0 (hn 0 (show 0 ∈ [0, 1] from .head _)))
              have h11 := Sp.of_c (H1 (hn 1 (show 1 ∈ [0, 1] from .tail _ (.head _))))
              clear hn hl H0 H1
              refine stepC (wanted_free rfl) fun K hK => ?_
              go_simp
              exact hK _ (Below.refl _ _)
            refine steps_cons (fun hn hl => ?_) fun H3 => ?_
            · skip
              have h12 := Sp.of_c (H2 (hn 2 (show 2 ∈ [2] from .head _)))
              clear hn hl H0 H1 H2
              refine stepC (wanted_free rfl) fun K hK => ?_
              go_simp
              exact hK _ (Below.refl _ _)
            refine steps_cons (fun hn hl => ?_) fun H4 => ?_
            · skip
              have h13 := Sp.of_c (H3 (hn 3 (show 3 ∈ [3] from .head _)))
              clear hn hl H0 H1 H2 H3
              refine stepC (wanted_free rfl) fun K hK => ?_
              go_simp
              exact hK _ (Below.refl _ _)
            refine steps_cons (fun hn hl => ?_) fun H5 => ?_
            · skip
              have h14 := Sp.of_c (H4 (hn 4 (show 4 ∈ [4] from .head _)))
              clear hn hl H0 H1 H2 H3 H4
              refine stepC (wanted_free rfl) fun K hK => ?_
              go_simp
              first
                | ((with_reducible refine (HN.out _).mono ?_); rintro e w6 ⟨rfl, rfl⟩; exact hK _ (Below.refl _ _))
                | ((with_reducible refine (HF.out _).mono ?_); rintro e w6 ⟨rfl, hb6⟩; exact hK _ hb6)
            refine steps_cons (fun hn hl => ?_) fun H6 => ?_
            · skip
              have h15 := Sp.of_c (H5 (hn 5 (show 5 ∈ [5] from .head _)))
              clear hn hl H0 H1 H2 H3 H4 H5
              refine stepC (wanted_free rfl) fun K hK => ?_
              go_simp
              exact hK _ (Below.refl _ _)
            refine steps_cons (fun hn hl => ?_) fun H7 => ?_
            · skip
              have h16 := Sp.of_c (H6 (hn 6 (show 6 ∈ [6] from .head _)))
              clear hn hl H0 H1 H2 H3 H4 H5 H6
              refine stepC (wanted_free rfl) fun K hK => ?_
              go_simp
              exact hK _ (Below.refl _ _)
            refine steps_cons (fun hn hl => ?_) fun H8 => ?_
            · skip
              have h17 := Sp.of_c (H7 (hn 7 (show 7 ∈ [7] from .head _)))
              clear hn hl H0 H1 H2 H3 H4 H5 H6 H7
              refine stepC (wanted_guard rfl rfl h17 rfl) fun K hK => ?_
              go_simp
              exact hK _ (Below.refl _ _)
            refine steps_cons (fun hn hl => ?_) fun H9 => ?_
            · skip
              have h17 := Sp.of_c (H7 (hn 7 (show 7 ∈ [7] from .head _)))
              clear hn hl H0 H1 H2 H3 H4 H5 H6 H7 H8
              refine stepC (wanted_guard rfl rfl h17 rfl) fun K hK => ?_
              go_simp
              exact hK _ (Below.refl _ _)
            refine steps_cons (fun hn hl => ?_) fun H10 => ?_
            · skip
              have h18 := Sp.of_g (H8 (hn 8 (show 8 ∈ [8, 9, 7] from .head _))) rfl
              have h19 := Sp.of_g (H9 (hn 9 (show 9 ∈ [8, 9, 7] from .tail _ (.head _)))) rfl
              have h17 := Sp.of_c (H7 (hn 7 (show 7 ∈ [8, 9, 7] from .tail _ (.tail _ (.head _)))))
              clear hn hl H0 H1 H2 H3 H4 H5 H6 H7 H8 H9
              refine stepC (wanted_guard rfl rfl h17 rfl) fun K hK => ?_
              go_simp
              exact hK _ (Below.refl _ _)
            refine steps_cons (fun hn hl => ?_) fun H11 => ?_
            · skip
              have h20 := Sp.of_g (H10 (hn 10 (show 10 ∈ [10, 7] from .head _))) rfl
              have h17 := Sp.of_c (H7 (hn 7 (show 7 ∈ [10, 7] from .tail _ (.head _))))
              clear hn hl H0 H1 H2 H3 H4 H5 H6 H7 H8 H9 H10
              refine stepC (wanted_guard rfl rfl h17 rfl) fun K hK => ?_
              go_simp
              exact hK _ (Below.refl _ _)
            refine steps_cons (fun hn hl => ?_) fun H12 => ?_
            · skip
              have h21 := Sp.of_g (H11 (hn 11 (show 11 ∈ [11, 7] from .head _))) rfl
              have h17 := Sp.of_c (H7 (hn 7 (show 7 ∈ [11, 7] from .tail _ (.head _))))
              clear hn hl H0 H1 H2 H3 H4 H5 H6 H7 H8 H9 H10 H11
              refine stepC (wanted_guard rfl rfl h17 rfl) fun K hK => ?_
              go_simp
              exact hK _ (Below.refl _ _)
            refine steps_cons (fun hn hl => ?_) fun H13 => ?_
            · skip
              have h22 := Sp.of_g (H12 (hn 12 (show 12 ∈ [12, 7] from .head _))) rfl
              have h17 := Sp.of_c (H7 (hn 7 (show 7 ∈ [12, 7] from .tail _ (.head _))))
              clear hn hl H0 H1 H2 H3 H4 H5 H6 H7 H8 H9 H10 H11 H12
              refine stepC (wanted_guard rfl rfl h17 rfl) fun K hK => ?_
              go_simp
              first
                | ((with_reducible refine (HN.out _).mono ?_); rintro e w6 ⟨rfl, rfl⟩; exact hK _ (Below.refl _ _))
                | ((with_reducible refine (HF.out _).mono ?_); rintro e w6 ⟨rfl, hb6⟩; exact hK _ hb6)
            refine steps_cons (fun hn hl => ?_) fun H14 => ?_
            · skip
              have h23 := Sp.of_g (H13 (hn 13 (show 13 ∈ [13, 7] from .head _))) rfl
              have h17 := Sp.of_c (H7 (hn 7 (show 7 ∈ [13, 7] from .tail _ (.head _))))
              clear hn hl H0 H1 H2 H3 H4 H5 H6 H7 H8 H9 H10 H11 H12 H13
              refine stepC (wanted_guard rfl rfl h17 rfl) fun K hK => ?_
              go_simp
              exact hK _ (Below.refl _ _)
            refine steps_cons (fun hn hl => ?_) fun H15 => ?_
            · skip
              have h17 := Sp.of_c (H7 (hn 7 (show 7 ∈ [7, 14] from .head _)))
              have h24 := Sp.of_g (H14 (hn 14 (show 14 ∈ [7, 14] from .tail _ (.head _)))) rfl
              clear hn hl H0 H1 H2 H3 H4 H5 H6 H7 H8 H9 H10 H11 H12 H13 H14
              refine stepC (wanted_free rfl) fun K hK => ?_
              go_simp
              exact hK _ (Below.refl _ _)
            refine steps_cons (fun hn hl => ?_) fun H16 => ?_
            · skip
              have h25 := Sp.of_c (H15 (hn 15 (show 15 ∈ [15] from .head _)))
              clear hn hl H0 H1 H2 H3 H4 H5 H6 H7 H8 H9 H10 H11 H12 H13 H14 H15
              refine stepC (wanted_free rfl) fun K hK => ?_
              go_simp
              exact hK _ (Below.refl _ _)
            refine steps_cons (fun hn hl => ?_) fun H17 => ?_
            · skip
              have h26 := Sp.of_c (H16 (hn 16 (show 16 ∈ [16] from .head _)))
              clear hn hl H0 H1 H2 H3 H4 H5 H6 H7 H8 H9 H10 H11 H12 H13 H14 H15 H16
              exact stepN (unwanted_guard rfl rfl h26 rfl)
            refine steps_cons (fun hn hl => ?_) fun H18 => ?_
            · skip
              have h27 := Sp.of_off (H17 (hn 17 (show 17 ∈ [17, 16] from .head _))) rfl
              have h26 := Sp.of_c (H16 (hn 16 (show 16 ∈ [17, 16] from .tail _ (.head _))))
              clear hn hl H0 H1 H2 H3 H4 H5 H6 H7 H8 H9 H10 H11 H12 H13 H14 H15 H16 H17
              exact stepN (unwanted_guard rfl rfl h26 rfl)
            refine steps_cons (fun hn hl => ?_) fun H19 => ?_
            · skip
              have h28 := Sp.of_off (H18 (hn 18 (show 18 ∈ [18, 16] from .head _))) rfl
              have h26 := Sp.of_c (H16 (hn 16 (show 16 ∈ [18, 16] from .tail _ (.head _))))
              clear hn hl H0 H1 H2 H3 H4 H5 H6 H7 H8 H9 H10 H11 H12 H13 H14 H15 H16 H17 H18
              exact stepN (unwanted_guard rfl rfl h26 rfl)
            refine steps_cons (fun hn hl => ?_) fun H20 => ?_
            · skip
              have h29 := Sp.of_off (H19 (hn 19 (show 19 ∈ [19] from .head _))) rfl
              clear hn hl H0 H1 H2 H3 H4 H5 H6 H7 H8 H9 H10 H11 H12 H13 H14 H15 H16 H17 H18 H19
              exact stepN (unwanted_off rfl rfl h29)
            refine steps_cons (fun hn hl => ?_) fun H21 => ?_
            · skip
              have h29 := Sp.of_off (H19 (hn 19 (show 19 ∈ [19] from .head _))) rfl
              clear hn hl H0 H1 H2 H3 H4 H5 H6 H7 H8 H9 H10 H11 H12 H13 H14 H15 H16 H17 H18 H19 H20
              exact stepN (unwanted_off rfl rfl h29)
            refine steps_cons (fun hn hl => ?_) fun H22 => ?_
            · skip
              have h30 := Sp.of_off (H20 (hn 20 (show 20 ∈ [20, 21, 19] from .head _))) rfl
              have h31 := Sp.of_off (H21 (hn 21 (show 21 ∈ [20, 21, 19] from .tail _ (.head _)))) rfl
              have h29 := Sp.of_off (H19 (hn 19 (show 19 ∈ [20, 21, 19] from .tail _ (.tail _ (.head _))))) rfl
              clear hn hl H0 H1 H2 H3 H4 H5 H6 H7 H8 H9 H10 H11 H12 H13 H14 H15 H16 H17 H18 H19 H20 H21
              exact stepN (unwanted_off rfl rfl h29)
            refine steps_cons (fun hn hl => ?_) fun H23 => ?_
            · skip
              have h32 := Sp.of_off (H22 (hn 22 (show 22 ∈ [22, 19] from .head _))) rfl
              have h29 := Sp.of_off (H19 (hn 19 (show 19 ∈ [22, 19] from .tail _ (.head _)))) rfl
              clear hn hl H0 H1 H2 H3 H4 H5 H6 H7 H8 H9 H10 H11 H12 H13 H14 H15 H16 H17 H18 H19 H20 H21 H22
              exact stepN (unwanted_off rfl rfl h29)
            refine steps_cons (fun hn hl => ?_) fun H24 => ?_
            · skip
              have h33 := Sp.of_off (H23 (hn 23 (show 23 ∈ [23, 19] from .head _))) rfl
              have h29 := Sp.of_off (H19 (hn 19 (show 19 ∈ [23, 19] from .tail _ (.head _)))) rfl
              clear hn hl H0 H1 H2 H3 H4 H5 H6 H7 H8 H9 H10 H11 H12 H13 H14 H15 H16 H17 H18 H19 H20 H21 H22 H23
              exact stepN (unwanted_off rfl rfl h29)
            refine steps_cons (fun hn hl => ?_) fun H25 => ?_
            · skip
              have h29 := Sp.of_off (H19 (hn 19 (show 19 ∈ [19] from .head _))) rfl
              clear hn hl H0 H1 H2 H3 H4 H5 H6 H7 H8 H9 H10 H11 H12 H13 H14 H15 H16 H17 H18 H19 H20 H21 H22 H23 H24
              exact stepN (unwanted_off rfl rfl h29)
            refine steps_cons (fun hn hl => ?_) fun H26 => ?_
            · skip
              have h29 := Sp.of_off (H19 (hn 19 (show 19 ∈ [19] from .head _))) rfl
              clear hn hl H0 H1 H2 H3 H4 H5 H6 H7 H8 H9 H10 H11 H12 H13 H14 H15 H16 H17 H18 H19 H20 H21 H22 H23 H24 H25
              exact stepN (unwanted_off rfl rfl h29)
            refine steps_cons (fun hn hl => ?_) fun H27 => ?_
            · skip
              have h36 := Sp.of_off (H26 (hn 26 (show 26 ∈ [26, 19] from .head _))) rfl
              have h29 := Sp.of_off (H19 (hn 19 (show 19 ∈ [26, 19] from .tail _ (.head _)))) rfl
              clear hn hl H0 H1 H2 H3 H4 H5 H6 H7 H8 H9 H10 H11 H12 H13 H14 H15 H16 H17 H18 H19 H20 H21 H22 H23 H24 H25 H26
              exact stepN (unwanted_off rfl rfl h29)
            refine steps_cons (fun hn hl => ?_) fun H28 => ?_
            · skip
              have h35 := Sp.of_off (H25 (hn 25 (show 25 ∈ [25, 27, 19] from .head _))) rfl
              have h37 := Sp.of_off (H27 (hn 27 (show 27 ∈ [25, 27, 19] from .tail _ (.head _)))) rfl
              have h29 := Sp.of_off (H19 (hn 19 (show 19 ∈ [25, 27, 19] from .tail _ (.tail _ (.head _))))) rfl
              clear hn hl H0 H1 H2 H3 H4 H5 H6 H7 H8 H9 H10 H11 H12 H13 H14 H15 H16 H17 H18 H19 H20 H21 H22 H23 H24 H25 H26 H27
              exact stepN (unwanted_off rfl rfl h29)
            refine steps_cons (fun hn hl => ?_) fun H29 => ?_
            · skip
              have h38 := Sp.of_off (H28 (hn 28 (show 28 ∈ [28, 19] from .head _))) rfl
              have h29 := Sp.of_off (H19 (hn 19 (show 19 ∈ [28, 19] from .tail _ (.head _)))) rfl
              clear hn hl H0 H1 H2 H3 H4 H5 H6 H7 H8 H9 H10 H11 H12 H13 H14 H15 H16 H17 H18 H19 H20 H21 H22 H23 H24 H25 H26 H27 H28
              exact stepN (unwanted_off rfl rfl h29)
            refine steps_cons (fun hn hl => ?_) fun H30 => ?_
            · skip
              have h39 := Sp.of_off (H29 (hn 29 (show 29 ∈ [29, 19] from .head _))) rfl
              have h29 := Sp.of_off (H19 (hn 19 (show 19 ∈ [29, 19] from .tail _ (.head _)))) rfl
              clear hn hl H0 H1 H2 H3 H4 H5 H6 H7 H8 H9 H10 H11 H12 H13 H14 H15 H16 H17 H18 H19 H20 H21 H22 H23 H24 H25 H26 H27 H28 H29
              exact stepN (unwanted_off rfl rfl h29)
            refine steps_cons (fun hn hl => ?_) fun H31 => ?_
            · skip
              have h34 := Sp.of_off (H24 (hn 24 (show 24 ∈ [24, 30, 19] from .head _))) rfl
              have h40 := Sp.of_off (H30 (hn 30 (show 30 ∈ [24, 30, 19] from .tail _ (.head _)))) rfl
              have h29 := Sp.of_off (H19 (hn 19 (show 19 ∈ [24, 30, 19] from .tail _ (.tail _ (.head _))))) rfl
              clear hn hl H0 H1 H2 H3 H4 H5 H6 H7 H8 H9 H10 H11 H12 H13 H14 H15 H16 H17 H18 H19 H20 H21 H22 H23 H24 H25 H26 H27 H28 H29 H30
              exact stepN (unwanted_off rfl rfl h29)
            refine steps_cons (fun hn hl => ?_) fun H32 => ?_
            · skip
              have h29 := Sp.of_off (H19 (hn 19 (show 19 ∈ [19, 31, 16] from .head _))) rfl
              have h41 := Sp.of_off (H31 (hn 31 (show 31 ∈ [19, 31, 16] from .tail _ (.head _)))) rfl
              have h26 := Sp.of_c (H16 (hn 16 (show 16 ∈ [19, 31, 16] from .tail _ (.tail _ (.head _)))))
              clear hn hl H0 H1 H2 H3 H4 H5 H6 H7 H8 H9 H10 H11 H12 H13 H14 H15 H16 H17 H18 H19 H20 H21 H22 H23 H24 H25 H26 H27 H28 H29 H30 H31
              exact stepN (unwanted_guard rfl rfl h26 rfl)
            refine steps_cons (fun hn hl => ?_) fun H33 => ?_
            · skip
              have h26 := Sp.of_c (H16 (hn 16 (show 16 ∈ [16, 32] from .head _)))
              have h42 := Sp.of_off (H32 (hn 32 (show 32 ∈ [16, 32] from .tail _ (.head _)))) rfl
              clear hn hl H0 H1 H2 H3 H4 H5 H6 H7 H8 H9 H10 H11 H12 H13 H14 H15 H16 H17 H18 H19 H20 H21 H22 H23 H24 H25 H26 H27 H28 H29 H30 H31 H32
              refine stepC (wanted_free rfl) fun K hK => ?_
              go_simp
              exact hK _ (Below.refl _ _)
            exact trivial
          · intro w5 hb5
            have hz5 := hb5.size
            refine end_cons ?_; rintro _ rfl
            refine end_cons ?_; rintro _ rfl
            refine end_cons ?_; rintro _ rfl
            refine end_cons ?_; rintro _ rfl
            refine end_cons ?_; rintro _ rfl
            refine end_cons ?_; rintro _ rfl
            refine end_cons ?_; rintro _ rfl
            refine end_cons ?_; rintro _ rfl
            refine end_cons ?_; rintro _ rfl
            refine end_cons ?_; rintro _ rfl
            refine end_cons ?_; rintro _ rfl
            refine end_cons ?_; rintro _ rfl
            refine end_cons ?_; rintro _ rfl
            refine end_cons ?_; rintro _ rfl
            refine end_cons ?_; rintro _ rfl
            refine end_cons ?_; rintro _ rfl
            refine end_cons ?_; rintro _ rfl
            refine end_cons ?_; rintro _ rfl
            refine end_cons ?_; rintro _ rfl
            refine end_cons ?_; rintro _ rfl
            refine end_cons ?_; rintro _ rfl
            refine end_cons ?_; rintro _ rfl
            refine end_cons ?_; rintro _ rfl
            refine end_cons ?_; rintro _ rfl
            refine end_cons ?_; rintro _ rfl
            refine end_cons ?_; rintro _ rfl
            refine end_cons ?_; rintro _ rfl
            refine end_cons ?_; rintro _ rfl
            refine end_cons ?_; rintro _ rfl
            refine end_cons ?_; rintro _ rfl
            refine end_cons ?_; rintro _ rfl
            refine end_cons ?_; rintro _ rfl
            refine end_cons ?_; rintro _ rfl
            refine end_cons ?_; rintro _ rfl
            refine end_nil ?_
            simp only [List.setIfInBounds_toArray, List.set_cons_succ, List.set_cons_zero, Bool.not_false, Bool.not_true, Bool.true_or, Bool.or_true, Bool.false_or, Bool.or_false]
            go_wp2
            go_ret
            exact ⟨by rw [E.out]; rfl, (by repeat' (first | exact Below.refl _ _ | assumption | exact And.left (by assumption) | refine Below.drew ?_ | refine below_drewN ?_ _ | refine Below.setCell ?_ (by first | (simp; done) | (simp; omega) | omega) _ | refine Below.alloc ?_ (by first | (simp; done) | (simp; omega) | omega) _ | refine after (by assumption) (by first | (simp; done) | (simp; omega) | omega) ?_))⟩
      · rw [show inM s.at_ = false from decide_eq_false h0] at HN
        have E : Hid (rightS l = false) := Lib.hid (decide_eq_false (fun x => by have := HN2.out.1 x.2; have := HB.out; omega))
        clear HN2 HP h0 HJ HB
        go_wp2_with fail
        refine region_mono (rrSp b off cap l.length k 0 s 0 false false false false) [10, 11, 12, 13, 14, 15, 16, 17, 18, 19, 20, 21, 22, 23, 24, 25, 26, 27, 28, 29, 30, 31, 32, 33, 34, 35, 36, 37, 38, 39, 40, 41, 42, 43] (by kernel_rfl) (by kernel_rfl) (by kernel_rfl) (by kernel_rfl) (stables_cons (Sp.c_stable _ _) (stables_cons (Sp.c_stable _ _) (stables_cons (Sp.c_stable _ _) (stables_cons (Sp.c_stable _ _) (stables_cons (Sp.c_stable _ _) (stables_cons (Sp.c_stable _ _) (stables_cons (Sp.c_stable _ _) (stables_cons (Sp.c_stable _ _) (stables_cons (Sp.g_stable _ _ _) (stables_cons (Sp.g_stable _ _ _) (stables_cons (Sp.g_stable _ _ _) (stables_cons (Sp.g_stable _ _ _) (stables_cons (Sp.g_stable _ _ _) (stables_cons (Sp.g_stable _ _ _) (stables_cons (Sp.g_stable _ _ _) (stables_cons (Sp.c_stable _ _) (stables_cons (Sp.c_stable _ _) (stables_cons (Sp.g_stable _ _ _) (stables_cons (Sp.g_stable _ _ _) (stables_cons (Sp.g_stable _ _ _) (stables_cons (Sp.g_stable _ _ _) (stables_cons (Sp.g_stable _ _ _) (stables_cons (Sp.g_stable _ _ _) (stables_cons (Sp.g_stable _ _ _) (stables_cons (Sp.g_stable _ _ _) (stables_cons (Sp.g_stable _ _ _) (stables_cons (Sp.g_stable _ _ _) (stables_cons (Sp.g_stable _ _ _) (stables_cons (Sp.g_stable _ _ _) (stables_cons (Sp.g_stable _ _ _) (stables_cons (Sp.g_stable _ _ _) (stables_cons (Sp.g_stable _ _ _) (stables_cons (Sp.g_stable _ _ _) (stables_cons (Sp.c_stable _ _) (trivial))))))))))))))))))))))))))))))))))) ?_ ?_
        · intro am wm L hbm hbase hbase2
          have s0 : am.tmps.getD 0 undef = .slice (some ⟨b, off, none⟩) l.length cap := (hbase 0 rfl).trans (by simp only [Array.getD_eq_getD_getElem?, List.getElem?_toArray, List.getElem?_cons_succ, List.getElem?_cons_zero, Option.getD_some])
          have s3 : am.tmps.getD 3 undef = .int .i64 (k : Int) := (hbase 3 rfl).trans (by simp only [Array.getD_eq_getD_getElem?, List.getElem?_toArray, List.getElem?_cons_succ, List.getElem?_cons_zero, Option.getD_some])
          clear hbase hbase2
          have m0 := carry hbm q0
          have m1 := carry hbm q1
          have m2 : wm.cell? ⟨b, off + k * 5 + 1 + 1, none⟩ = some (.int .i64 s.free.mem) := carry hbm q2
          have m3 : wm.cell? ⟨b, off + k * 5 + 1 + 2, none⟩ = some (.int .i64 s.free.gpu) := carry hbm q3
          have m4 : wm.cell? ⟨b, off + k * 5 + 1 + 3, none⟩ = some (.int .i64 s.free.lic) := carry hbm q4
          refine steps_cons (fun hn hl => ?_) fun H0 => ?_
          · skip
            clear hn hl 
            refine stepC (wanted_free rfl) fun K hK => ?_
            go_simp
            exact hK _ (Below.refl _ _)
          refine steps_cons (fun hn hl => ?_) fun H1 => ?_
          · skip
            clear hn hl H0
            refine stepC (wanted_free rfl) fun K hK => ?_
            go_simp
            exact hK _ (Below.refl _ _)
          refine steps_cons (fun hn hl => ?_) fun H2 => ?_
          · skip
            have h10 := Sp.of_c (H0 (hn 0 (show 0 ∈ [0, 1] from .head _)))
            have h11 := Sp.of_c (H1 (hn 1 (show 1 ∈ [0, 1] from .tail _ (.head _))))
            clear hn hl H0 H1
            refine stepC (wanted_free rfl) fun K hK => ?_
            go_simp
            exact hK _ (Below.refl _ _)
          refine steps_cons (fun hn hl => ?_) fun H3 => ?_
          · skip
            have h12 := Sp.of_c (H2 (hn 2 (show 2 ∈ [2] from .head _)))
            clear hn hl H0 H1 H2
            refine stepC (wanted_free rfl) fun K hK => ?_
            go_simp
            exact hK _ (Below.refl _ _)
          refine steps_cons (fun hn hl => ?_) fun H4 => ?_
          · skip
            have h13 := Sp.of_c (H3 (hn 3 (show 3 ∈ [3] from .head _)))
            clear hn hl H0 H1 H2 H3
            refine stepC (wanted_free rfl) fun K hK => ?_
            go_simp
            exact hK _ (Below.refl _ _)
          refine steps_cons (fun hn hl => ?_) fun H5 => ?_
          · skip
            have h14 := Sp.of_c (H4 (hn 4 (show 4 ∈ [4] from .head _)))
            clear hn hl H0 H1 H2 H3 H4
            refine stepC (wanted_free rfl) fun K hK => ?_
            go_simp
            first
              | ((with_reducible refine (HN.out _).mono ?_); rintro e w6 ⟨rfl, rfl⟩; exact hK _ (Below.refl _ _))
              | ((with_reducible refine (HF.out _).mono ?_); rintro e w6 ⟨rfl, hb6⟩; exact hK _ hb6)
          refine steps_cons (fun hn hl => ?_) fun H6 => ?_
          · skip
            have h15 := Sp.of_c (H5 (hn 5 (show 5 ∈ [5] from .head _)))
            clear hn hl H0 H1 H2 H3 H4 H5
            refine stepC (wanted_free rfl) fun K hK => ?_
            go_simp
            exact hK _ (Below.refl _ _)
          refine steps_cons (fun hn hl => ?_) fun H7 => ?_
          · skip
            have h16 := Sp.of_c (H6 (hn 6 (show 6 ∈ [6] from .head _)))
            clear hn hl H0 H1 H2 H3 H4 H5 H6
            refine stepC (wanted_free rfl) fun K hK => ?_
            go_simp
            exact hK _ (Below.refl _ _)
          refine steps_cons (fun hn hl => ?_) fun H8 => ?_
          · skip
            have h17 := Sp.of_c (H7 (hn 7 (show 7 ∈ [7] from .head _)))
            clear hn hl H0 H1 H2 H3 H4 H5 H6 H7
            exact stepN (unwanted_guard rfl rfl h17 rfl)
          refine steps_cons (fun hn hl => ?_) fun H9 => ?_
          · skip
            have h17 := Sp.of_c (H7 (hn 7 (show 7 ∈ [7] from .head _)))
            clear hn hl H0 H1 H2 H3 H4 H5 H6 H7 H8
            exact stepN (unwanted_guard rfl rfl h17 rfl)
          refine steps_cons (fun hn hl => ?_) fun H10 => ?_
          · skip
            have h18 := Sp.of_off (H8 (hn 8 (show 8 ∈ [8, 9, 7] from .head _))) rfl
            have h19 := Sp.of_off (H9 (hn 9 (show 9 ∈ [8, 9, 7] from .tail _ (.head _)))) rfl
            have h17 := Sp.of_c (H7 (hn 7 (show 7 ∈ [8, 9, 7] from .tail _ (.tail _ (.head _)))))
            clear hn hl H0 H1 H2 H3 H4 H5 H6 H7 H8 H9
            exact stepN (unwanted_guard rfl rfl h17 rfl)
          refine steps_cons (fun hn hl => ?_) fun H11 => ?_
          · skip
            have h20 := Sp.of_off (H10 (hn 10 (show 10 ∈ [10, 7] from .head _))) rfl
            have h17 := Sp.of_c (H7 (hn 7 (show 7 ∈ [10, 7] from .tail _ (.head _))))
            clear hn hl H0 H1 H2 H3 H4 H5 H6 H7 H8 H9 H10
            exact stepN (unwanted_guard rfl rfl h17 rfl)
          refine steps_cons (fun hn hl => ?_) fun H12 => ?_
          · skip
            have h21 := Sp.of_off (H11 (hn 11 (show 11 ∈ [11, 7] from .head _))) rfl
            have h17 := Sp.of_c (H7 (hn 7 (show 7 ∈ [11, 7] from .tail _ (.head _))))
            clear hn hl H0 H1 H2 H3 H4 H5 H6 H7 H8 H9 H10 H11
            exact stepN (unwanted_guard rfl rfl h17 rfl)
          refine steps_cons (fun hn hl => ?_) fun H13 => ?_
          · skip
            have h22 := Sp.of_off (H12 (hn 12 (show 12 ∈ [12, 7] from .head _))) rfl
            have h17 := Sp.of_c (H7 (hn 7 (show 7 ∈ [12, 7] from .tail _ (.head _))))
            clear hn hl H0 H1 H2 H3 H4 H5 H6 H7 H8 H9 H10 H11 H12
            exact stepN (unwanted_guard rfl rfl h17 rfl)
          refine steps_cons (fun hn hl => ?_) fun H14 => ?_
          · skip
            have h23 := Sp.of_off (H13 (hn 13 (show 13 ∈ [13, 7] from .head _))) rfl
            have h17 := Sp.of_c (H7 (hn 7 (show 7 ∈ [13, 7] from .tail _ (.head _))))
            clear hn hl H0 H1 H2 H3 H4 H5 H6 H7 H8 H9 H10 H11 H12 H13
            exact stepN (unwanted_guard rfl rfl h17 rfl)
          refine steps_cons (fun hn hl => ?_) fun H15 => ?_
          · skip
            have h17 := Sp.of_c (H7 (hn 7 (show 7 ∈ [7, 14] from .head _)))
            have h24 := Sp.of_off (H14 (hn 14 (show 14 ∈ [7, 14] from .tail _ (.head _)))) rfl
            clear hn hl H0 H1 H2 H3 H4 H5 H6 H7 H8 H9 H10 H11 H12 H13 H14
            refine stepC (wanted_free rfl) fun K hK => ?_
            go_simp
            exact hK _ (Below.refl _ _)
          refine steps_cons (fun hn hl => ?_) fun H16 => ?_
          · skip
            have h25 := Sp.of_c (H15 (hn 15 (show 15 ∈ [15] from .head _)))
            clear hn hl H0 H1 H2 H3 H4 H5 H6 H7 H8 H9 H10 H11 H12 H13 H14 H15
            refine stepC (wanted_free rfl) fun K hK => ?_
            go_simp
            exact hK _ (Below.refl _ _)
          refine steps_cons (fun hn hl => ?_) fun H17 => ?_
          · skip
            have h26 := Sp.of_c (H16 (hn 16 (show 16 ∈ [16] from .head _)))
            clear hn hl H0 H1 H2 H3 H4 H5 H6 H7 H8 H9 H10 H11 H12 H13 H14 H15 H16
            exact stepN (unwanted_guard rfl rfl h26 rfl)
          refine steps_cons (fun hn hl => ?_) fun H18 => ?_
          · skip
            have h27 := Sp.of_off (H17 (hn 17 (show 17 ∈ [17, 16] from .head _))) rfl
            have h26 := Sp.of_c (H16 (hn 16 (show 16 ∈ [17, 16] from .tail _ (.head _))))
            clear hn hl H0 H1 H2 H3 H4 H5 H6 H7 H8 H9 H10 H11 H12 H13 H14 H15 H16 H17
            exact stepN (unwanted_guard rfl rfl h26 rfl)
          refine steps_cons (fun hn hl => ?_) fun H19 => ?_
          · skip
            have h28 := Sp.of_off (H18 (hn 18 (show 18 ∈ [18, 16] from .head _))) rfl
            have h26 := Sp.of_c (H16 (hn 16 (show 16 ∈ [18, 16] from .tail _ (.head _))))
            clear hn hl H0 H1 H2 H3 H4 H5 H6 H7 H8 H9 H10 H11 H12 H13 H14 H15 H16 H17 H18
            exact stepN (unwanted_guard rfl rfl h26 rfl)
          refine steps_cons (fun hn hl => ?_) fun H20 => ?_
          · skip
            have h29 := Sp.of_off (H19 (hn 19 (show 19 ∈ [19] from .head _))) rfl
            clear hn hl H0 H1 H2 H3 H4 H5 H6 H7 H8 H9 H10 H11 H12 H13 H14 H15 H16 H17 H18 H19
            exact stepN (unwanted_off rfl rfl h29)
          refine steps_cons (fun hn hl => ?_) fun H21 => ?_
          · skip
            have h29 := Sp.of_off (H19 (hn 19 (show 19 ∈ [19] from .head _))) rfl
            clear hn hl H0 H1 H2 H3 H4 H5 H6 H7 H8 H9 H10 H11 H12 H13 H14 H15 H16 H17 H18 H19 H20
            exact stepN (unwanted_off rfl rfl h29)
          refine steps_cons (fun hn hl => ?_) fun H22 => ?_
          · skip
            have h30 := Sp.of_off (H20 (hn 20 (show 20 ∈ [20, 21, 19] from .head _))) rfl
            have h31 := Sp.of_off (H21 (hn 21 (show 21 ∈ [20, 21, 19] from .tail _ (.head _)))) rfl
            have h29 := Sp.of_off (H19 (hn 19 (show 19 ∈ [20, 21, 19] from .tail _ (.tail _ (.head _))))) rfl
            clear hn hl H0 H1 H2 H3 H4 H5 H6 H7 H8 H9 H10 H11 H12 H13 H14 H15 H16 H17 H18 H19 H20 H21
            exact stepN (unwanted_off rfl rfl h29)
          refine steps_cons (fun hn hl => ?_) fun H23 => ?_
          · skip
            have h32 := Sp.of_off (H22 (hn 22 (show 22 ∈ [22, 19] from .head _))) rfl
            have h29 := Sp.of_off (H19 (hn 19 (show 19 ∈ [22, 19] from .tail _ (.head _)))) rfl
            clear hn hl H0 H1 H2 H3 H4 H5 H6 H7 H8 H9 H10 H11 H12 H13 H14 H15 H16 H17 H18 H19 H20 H21 H22
            exact stepN (unwanted_off rfl rfl h29)
          refine steps_cons (fun hn hl => ?_) fun H24 => ?_
          · skip
            have h33 := Sp.of_off (H23 (hn 23 (show 23 ∈ [23, 19] from .head _))) rfl
            have h29 := Sp.of_off (H19 (hn 19 (show 19 ∈ [23, 19] from .tail _ (.head _)))) rfl
            clear hn hl H0 H1 H2 H3 H4 H5 H6 H7 H8 H9 H10 H11 H12 H13 H14 H15 H16 H17 H18 H19 H20 H21 H22 H23
            exact stepN (unwanted_off rfl rfl h29)
          refine steps_cons (fun hn hl => ?_) fun H25 => ?_
          · skip
            have h29 := Sp.of_off (H19 (hn 19 (show 19 ∈ [19] from .head _))) rfl
            clear hn hl H0 H1 H2 H3 H4 H5 H6 H7 H8 H9 H10 H11 H12 H13 H14 H15 H16 H17 H18 H19 H20 H21 H22 H23 H24
            exact stepN (unwanted_off rfl rfl h29)
          refine steps_cons (fun hn hl => ?_) fun H26 => ?_
          · skip
            have h29 := Sp.of_off (H19 (hn 19 (show 19 ∈ [19] from .head _))) rfl
            clear hn hl H0 H1 H2 H3 H4 H5 H6 H7 H8 H9 H10 H11 H12 H13 H14 H15 H16 H17 H18 H19 H20 H21 H22 H23 H24 H25
            exact stepN (unwanted_off rfl rfl h29)
          refine steps_cons (fun hn hl => ?_) fun H27 => ?_
          · skip
            have h36 := Sp.of_off (H26 (hn 26 (show 26 ∈ [26, 19] from .head _))) rfl
            have h29 := Sp.of_off (H19 (hn 19 (show 19 ∈ [26, 19] from .tail _ (.head _)))) rfl
            clear hn hl H0 H1 H2 H3 H4 H5 H6 H7 H8 H9 H10 H11 H12 H13 H14 H15 H16 H17 H18 H19 H20 H21 H22 H23 H24 H25 H26
            exact stepN (unwanted_off rfl rfl h29)
          refine steps_cons (fun hn hl => ?_) fun H28 => ?_
          · skip
            have h35 := Sp.of_off (H25 (hn 25 (show 25 ∈ [25, 27, 19] from .head _))) rfl
            have h37 := Sp.of_off (H27 (hn 27 (show 27 ∈ [25, 27, 19] from .tail _ (.head _)))) rfl
            have h29 := Sp.of_off (H19 (hn 19 (show 19 ∈ [25, 27, 19] from .tail _ (.tail _ (.head _))))) rfl
            clear hn hl H0 H1 H2 H3 H4 H5 H6 H7 H8 H9 H10 H11 H12 H13 H14 H15 H16 H17 H18 H19 H20 H21 H22 H23 H24 H25 H26 H27
            exact stepN (unwanted_off rfl rfl h29)
          refine steps_cons (fun hn hl => ?_) fun H29 => ?_
          · skip
            have h38 := Sp.of_off (H28 (hn 28 (show 28 ∈ [28, 19] from .head _))) rfl
            have h29 := Sp.of_off (H19 (hn 19 (show 19 ∈ [28, 19] from .tail _ (.head _)))) rfl
            clear hn hl H0 H1 H2 H3 H4 H5 H6 H7 H8 H9 H10 H11 H12 H13 H14 H15 H16 H17 H18 H19 H20 H21 H22 H23 H24 H25 H26 H27 H28
            exact stepN (unwanted_off rfl rfl h29)
          refine steps_cons (fun hn hl => ?_) fun H30 => ?_
          · skip
            have h39 := Sp.of_off (H29 (hn 29 (show 29 ∈ [29, 19] from .head _))) rfl
            have h29 := Sp.of_off (H19 (hn 19 (show 19 ∈ [29, 19] from .tail _ (.head _)))) rfl
            clear hn hl H0 H1 H2 H3 H4 H5 H6 H7 H8 H9 H10 H11 H12 H13 H14 H15 H16 H17 H18 H19 H20 H21 H22 H23 H24 H25 H26 H27 H28 H29
            exact stepN (unwanted_off rfl rfl h29)
          refine steps_cons (fun hn hl => ?_) fun H31 => ?_
          · skip
            have h34 := Sp.of_off (H24 (hn 24 (show 24 ∈ [24, 30, 19] from .head _))) rfl
            have h40 := Sp.of_off (H30 (hn 30 (show 30 ∈ [24, 30, 19] from .tail _ (.head _)))) rfl
            have h29 := Sp.of_off (H19 (hn 19 (show 19 ∈ [24, 30, 19] from .tail _ (.tail _ (.head _))))) rfl
            clear hn hl H0 H1 H2 H3 H4 H5 H6 H7 H8 H9 H10 H11 H12 H13 H14 H15 H16 H17 H18 H19 H20 H21 H22 H23 H24 H25 H26 H27 H28 H29 H30
            exact stepN (unwanted_off rfl rfl h29)
          refine steps_cons (fun hn hl => ?_) fun H32 => ?_
          · skip
            have h29 := Sp.of_off (H19 (hn 19 (show 19 ∈ [19, 31, 16] from .head _))) rfl
            have h41 := Sp.of_off (H31 (hn 31 (show 31 ∈ [19, 31, 16] from .tail _ (.head _)))) rfl
            have h26 := Sp.of_c (H16 (hn 16 (show 16 ∈ [19, 31, 16] from .tail _ (.tail _ (.head _)))))
            clear hn hl H0 H1 H2 H3 H4 H5 H6 H7 H8 H9 H10 H11 H12 H13 H14 H15 H16 H17 H18 H19 H20 H21 H22 H23 H24 H25 H26 H27 H28 H29 H30 H31
            exact stepN (unwanted_guard rfl rfl h26 rfl)
          refine steps_cons (fun hn hl => ?_) fun H33 => ?_
          · skip
            have h26 := Sp.of_c (H16 (hn 16 (show 16 ∈ [16, 32] from .head _)))
            have h42 := Sp.of_off (H32 (hn 32 (show 32 ∈ [16, 32] from .tail _ (.head _)))) rfl
            clear hn hl H0 H1 H2 H3 H4 H5 H6 H7 H8 H9 H10 H11 H12 H13 H14 H15 H16 H17 H18 H19 H20 H21 H22 H23 H24 H25 H26 H27 H28 H29 H30 H31 H32
            refine stepC (wanted_free rfl) fun K hK => ?_
            go_simp
            exact hK _ (Below.refl _ _)
          exact trivial
        · intro w5 hb5
          have hz5 := hb5.size
          refine end_cons ?_; rintro _ rfl
          refine end_cons ?_; rintro _ rfl
          refine end_cons ?_; rintro _ rfl
          refine end_cons ?_; rintro _ rfl
          refine end_cons ?_; rintro _ rfl
          refine end_cons ?_; rintro _ rfl
          refine end_cons ?_; rintro _ rfl
          refine end_cons ?_; rintro _ rfl
          refine end_cons ?_; rintro _ rfl
          refine end_cons ?_; rintro _ rfl
          refine end_cons ?_; rintro _ rfl
          refine end_cons ?_; rintro _ rfl
          refine end_cons ?_; rintro _ rfl
          refine end_cons ?_; rintro _ rfl
          refine end_cons ?_; rintro _ rfl
          refine end_cons ?_; rintro _ rfl
          refine end_cons ?_; rintro _ rfl
          refine end_cons ?_; rintro _ rfl
          refine end_cons ?_; rintro _ rfl
          refine end_cons ?_; rintro _ rfl
          refine end_cons ?_; rintro _ rfl
          refine end_cons ?_; rintro _ rfl
          refine end_cons ?_; rintro _ rfl
          refine end_cons ?_; rintro _ rfl
          refine end_cons ?_; rintro _ rfl
          refine end_cons ?_; rintro _ rfl
          refine end_cons ?_; rintro _ rfl
          refine end_cons ?_; rintro _ rfl
          refine end_cons ?_; rintro _ rfl
          refine end_cons ?_; rintro _ rfl
          refine end_cons ?_; rintro _ rfl
          refine end_cons ?_; rintro _ rfl
          refine end_cons ?_; rintro _ rfl
          refine end_cons ?_; rintro _ rfl
          refine end_nil ?_
          simp only [List.setIfInBounds_toArray, List.set_cons_succ, List.set_cons_zero, Bool.not_false, Bool.not_true, Bool.true_or, Bool.or_true, Bool.false_or, Bool.or_false]
          go_wp2
          go_ret
          exact ⟨by rw [E.out]; rfl, (by repeat' (first | exact Below.refl _ _ | assumption | exact And.left (by assumption) | refine Below.drew ?_ | refine below_drewN ?_ _ | refine Below.setCell ?_ (by first | (simp; done) | (simp; omega) | omega) _ | refine Below.alloc ?_ (by first | (simp; done) | (simp; omega) | omega) _ | refine after (by assumption) (by first | (simp; done) | (simp; omega) | omega) ?_))⟩
    · have hkl : k = l.length := by omega
      subst hkl
      have E : Hid (rightS l = decide (0 < l.length)) := Lib.hid (by
        have h := HI.out.1
        rw [List.drop_length] at h
        unfold rightS
        rw [decide_eq_decide]
        exact ⟨fun x => List.length_pos_iff.2 x.1, fun x => ⟨List.length_pos_iff.1 x, h.2 trivial⟩⟩)
      clear HI
      by_cases h0 : 0 < l.length
      · go_wp2
        go_ret
        exact ⟨by rw [E.out, decide_eq_true h0]; rfl, (by repeat' (first | exact Below.refl _ _ | assumption | exact And.left (by assumption) | refine Below.drew ?_ | refine below_drewN ?_ _ | refine Below.setCell ?_ (by first | (simp; done) | (simp; omega) | omega) _ | refine Below.alloc ?_ (by first | (simp; done) | (simp; omega) | omega) _ | refine after (by assumption) (by first | (simp; done) | (simp; omega) | omega) ?_))⟩
      · have e0 : l.length = 0 := by omega
        go_wp2
        go_ret
        exact ⟨by rw [E.out, decide_eq_false h0]; rfl, (by repeat' (first | exact Below.refl _ _ | assumption | exact And.left (by assumption) | refine Below.drew ?_ | refine below_drewN ?_ _ | refine Below.setCell ?_ (by first | (simp; done) | (simp; omega) | omega) _ | refine Below.alloc ?_ (by first | (simp; done) | (simp; omega) | omega) _ | refine after (by assumption) (by first | (simp; done) | (simp; omega) | omega) ?_))⟩
end Go.Proofs.Ytcnpppkndcgmpaa.W
