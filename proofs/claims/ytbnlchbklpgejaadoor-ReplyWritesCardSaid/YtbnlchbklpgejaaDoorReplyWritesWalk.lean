/-
  The walk of ReplyWrites.
-/
import Derived.Test.YtbnlchbklpgejaaDoorReplyAwake
import Derived.Test.YtbnlchbklpgejaaDoorFrameRep
namespace Go.Proofs.YtbnlchbklpgejaaDoor.W
set_option linter.unusedVariables false
set_option linter.unusedSimpArgs false
open Go.ChangeShapes Go.WideShapes Go.ChangeAt Go.RowKit

def rwSp (w : World) (r s : Rp) (rt sm : Bool) : List Sp :=
  [Sp.c (.agg #[.int .i64 r.key, .int .i64 r.err, .int .i64 r.job, .int .i64 r.ver, .slice r.na r.nums.length r.nc]) [],
   Sp.c (.bool rt) [0],
   Sp.c (.agg #[.int .i64 r.key, .int .i64 r.err, .int .i64 r.job, .int .i64 r.ver, .slice r.na r.nums.length r.nc]) [],
   Sp.c (.bool rt) [2],
   Sp.c (.bool false) [1, 3],
   Sp.c (.bool false) [4],
   Sp.g (true) (.agg #[.int .i64 r.key, .int .i64 r.err, .int .i64 r.job, .int .i64 r.ver, .slice r.na r.nums.length r.nc]) [5],
   Sp.g (true) (.agg #[.int .i64 s.key, .int .i64 s.err, .int .i64 s.job, .int .i64 s.ver, .slice s.na s.nums.length s.nc]) [5],
   Sp.g (true) (.bool sm) [6, 7, 5],
   Sp.g (true) (.agg #[.int .i64 r.key, .int .i64 r.err, .int .i64 r.job, .int .i64 r.ver, .slice r.na r.nums.length r.nc]) [5],
   Sp.g (true) (.agg #[.int .i64 s.key, .int .i64 s.err, .int .i64 s.job, .int .i64 s.ver, .slice s.na s.nums.length s.nc]) [5],
   Sp.g (true) (.bool sm) [9, 10, 5],
   Sp.g (true) (.bool false) [8, 11, 5],
   Sp.c (.bool false) [5, 12],
   Sp.c (.bool false) [13],
   Sp.g (true) (.agg #[.int .i64 r.key, .int .i64 r.err, .int .i64 r.job, .int .i64 r.ver, .slice r.na r.nums.length r.nc]) [14],
   Sp.g (true) (.agg #[.int .i64 r.key, .int .i64 r.err, .int .i64 r.job, .int .i64 r.ver, .slice r.na r.nums.length r.nc]) [14],
   Sp.g (true) (.bool true) [15, 16, 14],
   Sp.g (true) (.bool false) [17, 14],
   Sp.c (.bool false) [14, 18]]
theorem replyWrites_many (r s : Rp) (w : World) (hS : Std w) (h : 200 < r.nums.length ∨ 200 < s.nums.length) :
    Calls Tryd.prog 3 #[.agg #[.int .i64 r.key, .int .i64 r.err, .int .i64 r.job, .int .i64 r.ver, .slice r.na r.nums.length r.nc], .agg #[.int .i64 s.key, .int .i64 s.err, .int .i64 s.job, .int .i64 s.ver, .slice s.na s.nums.length s.nc]] w fun e w' => e = .returned (.bool true) ∧ Below w.heap.size w w' := by
  have HW := Lib.hid awake9
  have HT := Lib.hid hS
  clear hS
  by_cases h1 : 200 < r.nums.length
  · have d1 : decide ((200 : Int) < (r.nums.length : Int)) = true := decide_eq_true (by omega)
    clear h h1
    go_enter Tryd.func3, Tryd.ntmps3
    go_wp2_with fail
    generalize hw0 : World.alloc (World.alloc w _) _ = w0
    have hW0 : Below w.heap.size w w0 := by rw [← hw0]; exact (by repeat' (first | exact Below.refl _ _ | assumption | exact And.left (by assumption) | refine Below.drew ?_ | refine below_drewN ?_ _ | refine Below.setCell ?_ (by first | (simp; done) | (simp; omega) | omega) _ | refine Below.alloc ?_ (by first | (simp; done) | (simp; omega) | omega) _ | refine after (by assumption) (by first | (simp; done) | (simp; omega) | omega) ?_))
    have HX0 : Hid (BoxP w0 w.heap.size r) := Lib.hid (by rw [← hw0]; exact (BoxP.new w r).alloc _)
    clear hw0
    refine (HW.out w0 (HT.out.on hW0)).mono ?_; rintro e w1 ⟨rfl, hb1⟩
    have hW1 : Below w.heap.size w w1 := hW0.trans (hb1.mono hW0.size)
    have c4 := (HX0.out.on hb1).c4
    go_wp2
    go_ret
    exact ⟨rfl, hW1⟩
  · have d1 : decide ((200 : Int) < (r.nums.length : Int)) = false := decide_eq_false (by omega)
    have d2 : decide ((200 : Int) < (s.nums.length : Int)) = true := decide_eq_true (by omega)
    clear h h1
    go_enter Tryd.func3, Tryd.ntmps3
    go_wp2_with fail
    generalize hw0 : World.alloc (World.alloc w _) _ = w0
    have hW0 : Below w.heap.size w w0 := by rw [← hw0]; exact (by repeat' (first | exact Below.refl _ _ | assumption | exact And.left (by assumption) | refine Below.drew ?_ | refine below_drewN ?_ _ | refine Below.setCell ?_ (by first | (simp; done) | (simp; omega) | omega) _ | refine Below.alloc ?_ (by first | (simp; done) | (simp; omega) | omega) _ | refine after (by assumption) (by first | (simp; done) | (simp; omega) | omega) ?_))
    have HX0 : Hid (BoxP w0 w.heap.size r) := Lib.hid (by rw [← hw0]; exact (BoxP.new w r).alloc _)
    have HY0 : Hid (BoxP w0 (w.heap.size + 1) s) := Lib.hid (by rw [← hw0]; simpa using BoxP.new (w.alloc (.cells #[.int .i64 r.key, .int .i64 r.err, .int .i64 r.job, .int .i64 r.ver, .slice r.na r.nums.length r.nc] 25)) s)
    clear hw0
    refine (HW.out w0 (HT.out.on hW0)).mono ?_; rintro e w1 ⟨rfl, hb1⟩
    have hW1 : Below w.heap.size w w1 := hW0.trans (hb1.mono hW0.size)
    have c4 := (HX0.out.on hb1).c4
    have d4 := (HY0.out.on hb1).c4
    go_wp2
    go_ret
    exact ⟨rfl, hW1⟩
set_option maxRecDepth 100000 in
set_option maxHeartbeats 4000000 in
theorem replyWrites_few (r s : Rp) (hlr : r.nums.length ≤ 200) (hls : s.nums.length ≤ 200) (w : World) (hS : Std w) (hc : r.na = none → r.nc = 0) (ha : RowAt w r.na (vals r.nums)) (hb : RowAt w s.na (vals s.nums)) (rt sm : Bool) (hrt : rightP r = rt) (hsm : sameP r s = sm) :
    Calls Tryd.prog 3 #[.agg #[.int .i64 r.key, .int .i64 r.err, .int .i64 r.job, .int .i64 r.ver, .slice r.na r.nums.length r.nc], .agg #[.int .i64 s.key, .int .i64 s.err, .int .i64 s.job, .int .i64 s.ver, .slice s.na s.nums.length s.nc]] w fun e w' => e = .returned (.bool true) ∧ Below w.heap.size w w' := by
  have HAW := Lib.hid awake9
  have HWA := Lib.hid (fun w' hs h => replyWrite r w' hs hc h)
  have HRT := Lib.hid (fun w' hs h => replyRight r w' hs h)
  have HRR := Lib.hid (fun w' h => refRightP r (by omega) w' h)
  have HSA := Lib.hid (fun w' h1 h2 => replySame r s (by omega) (by omega) w' h1 h2)
  have HSB := Lib.hid (fun w' h1 h2 => refSameP r s (by omega) (by omega) w' h1 h2)
  have HSC := Lib.hid (fun w' h1 h2 => replySame r r (by omega) (by omega) w' h1 h2)
  rw [hrt] at HRT HRR
  rw [hsm] at HSA HSB
  rw [sameP_refl] at HSC
  have HRV := Lib.hid hrt
  have HGR := Lib.hid (fun (h : rightP r = true) => rightP_is h)
  have HWRT := Lib.hid (fun (h : rightP r = true) w' h2 => refWriteP r w' hc h2 h)
  have HBACK := Lib.hid (fun (h : rightP r = true) na nc => read_writeP (rightP_is h) na nc)
  have HLEN := Lib.hid (readP_len (writeP r))
  have HWL : Hid (rightP r = true → (writeP r).length ≤ 1000) := Lib.hid (fun h => by
    have h1 := putL_len (numsP_ok (rightP_is h))
    rw [numsP_len] at h1
    have := (rightP_is h).few
    unfold writeP
    omega)
  have HRD := Lib.hid (fun A c (h : (writeP r).length ≤ 1000) hc w' hs h2 => replyRead A c (writeP r) (by omega) hc w' hs h2)
  have HA := Lib.hid ha
  have HB := Lib.hid hb
  have HT := Lib.hid hS
  have d1 : decide ((200 : Int) < (r.nums.length : Int)) = false := decide_eq_false (by omega)
  have d2 : decide ((200 : Int) < (s.nums.length : Int)) = false := decide_eq_false (by omega)
  have hss : (sm != sm) = false := by cases sm <;> rfl
  have HLR := Lib.hid hlr
  clear hrt hsm ha hb hS hc hls hlr
  go_enter Tryd.func3, Tryd.ntmps3
  go_wp2_with fail
  generalize hw0 : World.alloc (World.alloc w _) _ = w0
  have hW0 : Below w.heap.size w w0 := by rw [← hw0]; exact (by repeat' (first | exact Below.refl _ _ | assumption | exact And.left (by assumption) | refine Below.drew ?_ | refine below_drewN ?_ _ | refine Below.setCell ?_ (by first | (simp; done) | (simp; omega) | omega) _ | refine Below.alloc ?_ (by first | (simp; done) | (simp; omega) | omega) _ | refine after (by assumption) (by first | (simp; done) | (simp; omega) | omega) ?_))
  have HX0 : Hid (BoxP w0 w.heap.size r) := Lib.hid (by rw [← hw0]; exact (BoxP.new w r).alloc _)
  have HY0 : Hid (BoxP w0 (w.heap.size + 1) s) := Lib.hid (by rw [← hw0]; simpa using BoxP.new (w.alloc (.cells #[.int .i64 r.key, .int .i64 r.err, .int .i64 r.job, .int .i64 r.ver, .slice r.na r.nums.length r.nc] 25)) s)
  have HA0 := Lib.hid (HA.out.later hW0)
  have HB0 := Lib.hid (HB.out.later hW0)
  clear hw0 HA HB
  refine (HAW.out w0 (HT.out.on hW0)).mono ?_; rintro e w1 ⟨rfl, hb1⟩
  have HX1 := Lib.hid (HX0.out.on hb1)
  have HA1 := Lib.hid (HA0.out.later hb1)
  have HY1 := Lib.hid (HY0.out.on hb1)
  have HB1 := Lib.hid (HB0.out.later hb1)
  have hW1 : Below w.heap.size w w1 := hW0.trans (hb1.mono hW0.size)
  clear HX0 HA0 HY0 HB0 hb1
  have c4 := HX1.out.c4
  have d4 := HY1.out.c4
  go_wp2_with (with_reducible refine wpList_load_p (r := r) rfl (.tmp 2) rfl rfl HX1.out ?_)
  clear c4 d4
  refine (HWA.out w1 (HT.out.on hW1) HA1.out).mono ?_; rintro e w2 ⟨hb2, hw2⟩
  have HX2 := Lib.hid (HX1.out.on hb2)
  have HA2 := Lib.hid (HA1.out.later hb2)
  have HY2 := Lib.hid (HY1.out.on hb2)
  have HB2 := Lib.hid (HB1.out.later hb2)
  have hW2 : Below w.heap.size w w2 := hW1.trans (hb2.mono hW1.size)
  clear HX1 HA1 HY1 HB1 hb2
  have HT2 := Lib.hid (HT.out.on hW2)
  rcases hw2 with ⟨hra, A2, c2, rfl, hn2, hrow2⟩ | ⟨hra, rfl⟩
  · have HR2 := Lib.hid hrow2
    have HN2 := Lib.hid hn2
    have ert : rt = true := HRV.out.symm.trans hra
    have HRA := Lib.hid hra
    subst ert
    clear hrow2 hn2 hra
    go_wp2_with fail
    refine region_mono (rwSp w r s true sm) [26, 27, 28, 29, 30, 31, 32, 33, 34, 35, 36, 37, 38, 39, 40, 41, 42, 43, 44, 45] (by kernel_rfl) (by kernel_rfl) (by kernel_rfl) (by kernel_rfl) (stables_cons (Sp.c_stable _ _) (stables_cons (Sp.c_stable _ _) (stables_cons (Sp.c_stable _ _) (stables_cons (Sp.c_stable _ _) (stables_cons (Sp.c_stable _ _) (stables_cons (Sp.c_stable _ _) (stables_cons (Sp.g_stable _ _ _) (stables_cons (Sp.g_stable _ _ _) (stables_cons (Sp.g_stable _ _ _) (stables_cons (Sp.g_stable _ _ _) (stables_cons (Sp.g_stable _ _ _) (stables_cons (Sp.g_stable _ _ _) (stables_cons (Sp.g_stable _ _ _) (stables_cons (Sp.c_stable _ _) (stables_cons (Sp.c_stable _ _) (stables_cons (Sp.g_stable _ _ _) (stables_cons (Sp.g_stable _ _ _) (stables_cons (Sp.g_stable _ _ _) (stables_cons (Sp.g_stable _ _ _) (stables_cons (Sp.c_stable _ _) (trivial))))))))))))))))))))) ?_ ?_
    · intro am wm L hbm hbase hbase2
      have s2 : am.tmps.getD 2 undef = .pointer (some ⟨w.heap.size, 0, none⟩) := (hbase 2 rfl).trans (by simp only [Array.getD_eq_getD_getElem?, List.getElem?_toArray, List.getElem?_cons_succ, List.getElem?_cons_zero, Option.getD_some])
      have s3 : am.tmps.getD 3 undef = .pointer (some ⟨w.heap.size + 1, 0, none⟩) := (hbase 3 rfl).trans (by simp only [Array.getD_eq_getD_getElem?, List.getElem?_toArray, List.getElem?_cons_succ, List.getElem?_cons_zero, Option.getD_some])
      clear hbase hbase2
      have bm := HX2.out.on hbm
      have bm3 := HY2.out.on hbm
      have RA := HA2.out.later hbm
      have RB := HB2.out.later hbm
      have TT := HT2.out.on hbm
      refine steps_cons (fun hn hl => ?_) fun H0 => ?_
      · skip
        clear hn hl 
        refine stepC (wanted_free rfl) fun K hK => ?_
        exact wp_load_p (.tmp 2) rfl s2 bm (hK _ (Below.refl _ _))
      refine steps_cons (fun hn hl => ?_) fun H1 => ?_
      · skip
        have h26 := Sp.of_c (H0 (hn 0 (show 0 ∈ [0] from .head _)))
        clear hn hl H0
        refine stepC (wanted_free rfl) fun K hK => ?_
        go_simp
        first
          | ((with_reducible refine (HRT.out _ TT RA).mono ?_); rintro e w6 ⟨rfl, hb6⟩; exact hK _ hb6)
          | ((with_reducible refine (HRR.out _ RA).mono ?_); rintro e w6 ⟨rfl, hb6⟩; exact hK _ hb6)
          | ((with_reducible refine (HSA.out _ RA RB).mono ?_); rintro e w6 ⟨rfl, hb6⟩; exact hK _ hb6)
          | ((with_reducible refine (HSB.out _ RA RB).mono ?_); rintro e w6 ⟨rfl, hb6⟩; exact hK _ hb6)
          | ((with_reducible refine (HSC.out _ RA RA).mono ?_); rintro e w6 ⟨rfl, hb6⟩; exact hK _ hb6)
      refine steps_cons (fun hn hl => ?_) fun H2 => ?_
      · skip
        clear hn hl H0 H1
        refine stepC (wanted_free rfl) fun K hK => ?_
        exact wp_load_p (.tmp 2) rfl s2 bm (hK _ (Below.refl _ _))
      refine steps_cons (fun hn hl => ?_) fun H3 => ?_
      · skip
        have h28 := Sp.of_c (H2 (hn 2 (show 2 ∈ [2] from .head _)))
        clear hn hl H0 H1 H2
        refine stepC (wanted_free rfl) fun K hK => ?_
        go_simp
        first
          | ((with_reducible refine (HRT.out _ TT RA).mono ?_); rintro e w6 ⟨rfl, hb6⟩; exact hK _ hb6)
          | ((with_reducible refine (HRR.out _ RA).mono ?_); rintro e w6 ⟨rfl, hb6⟩; exact hK _ hb6)
          | ((with_reducible refine (HSA.out _ RA RB).mono ?_); rintro e w6 ⟨rfl, hb6⟩; exact hK _ hb6)
          | ((with_reducible refine (HSB.out _ RA RB).mono ?_); rintro e w6 ⟨rfl, hb6⟩; exact hK _ hb6)
          | ((with_reducible refine (HSC.out _ RA RA).mono ?_); rintro e w6 ⟨rfl, hb6⟩; exact hK _ hb6)
      refine steps_cons (fun hn hl => ?_) fun H4 => ?_
      · skip
        have h27 := Sp.of_c (H1 (hn 1 (show 1 ∈ [1, 3] from .head _)))
        have h29 := Sp.of_c (H3 (hn 3 (show 3 ∈ [1, 3] from .tail _ (.head _))))
        clear hn hl H0 H1 H2 H3
        refine stepC (wanted_free rfl) fun K hK => ?_
        go_simp
        exact hK _ (Below.refl _ _)
      refine steps_cons (fun hn hl => ?_) fun H5 => ?_
      · skip
        have h30 := Sp.of_c (H4 (hn 4 (show 4 ∈ [4] from .head _)))
        clear hn hl H0 H1 H2 H3 H4
        refine stepC (wanted_free rfl) fun K hK => ?_
        go_simp
        exact hK _ (Below.refl _ _)
      refine steps_cons (fun hn hl => ?_) fun H6 => ?_
      · skip
        have h31 := Sp.of_c (H5 (hn 5 (show 5 ∈ [5] from .head _)))
        clear hn hl H0 H1 H2 H3 H4 H5
        refine stepC (wanted_guard rfl rfl h31 rfl) fun K hK => ?_
        exact wp_load_p (.tmp 2) rfl s2 bm (hK _ (Below.refl _ _))
      refine steps_cons (fun hn hl => ?_) fun H7 => ?_
      · skip
        have h31 := Sp.of_c (H5 (hn 5 (show 5 ∈ [5] from .head _)))
        clear hn hl H0 H1 H2 H3 H4 H5 H6
        refine stepC (wanted_guard rfl rfl h31 rfl) fun K hK => ?_
        exact wp_load_p (.tmp 3) rfl s3 bm3 (hK _ (Below.refl _ _))
      refine steps_cons (fun hn hl => ?_) fun H8 => ?_
      · skip
        have h32 := Sp.of_g (H6 (hn 6 (show 6 ∈ [6, 7, 5] from .head _))) rfl
        have h33 := Sp.of_g (H7 (hn 7 (show 7 ∈ [6, 7, 5] from .tail _ (.head _)))) rfl
        have h31 := Sp.of_c (H5 (hn 5 (show 5 ∈ [6, 7, 5] from .tail _ (.tail _ (.head _)))))
        clear hn hl H0 H1 H2 H3 H4 H5 H6 H7
        refine stepC (wanted_guard rfl rfl h31 rfl) fun K hK => ?_
        go_simp
        first
          | ((with_reducible refine (HRT.out _ TT RA).mono ?_); rintro e w6 ⟨rfl, hb6⟩; exact hK _ hb6)
          | ((with_reducible refine (HRR.out _ RA).mono ?_); rintro e w6 ⟨rfl, hb6⟩; exact hK _ hb6)
          | ((with_reducible refine (HSA.out _ RA RB).mono ?_); rintro e w6 ⟨rfl, hb6⟩; exact hK _ hb6)
          | ((with_reducible refine (HSB.out _ RA RB).mono ?_); rintro e w6 ⟨rfl, hb6⟩; exact hK _ hb6)
          | ((with_reducible refine (HSC.out _ RA RA).mono ?_); rintro e w6 ⟨rfl, hb6⟩; exact hK _ hb6)
      refine steps_cons (fun hn hl => ?_) fun H9 => ?_
      · skip
        have h31 := Sp.of_c (H5 (hn 5 (show 5 ∈ [5] from .head _)))
        clear hn hl H0 H1 H2 H3 H4 H5 H6 H7 H8
        refine stepC (wanted_guard rfl rfl h31 rfl) fun K hK => ?_
        exact wp_load_p (.tmp 2) rfl s2 bm (hK _ (Below.refl _ _))
      refine steps_cons (fun hn hl => ?_) fun H10 => ?_
      · skip
        have h31 := Sp.of_c (H5 (hn 5 (show 5 ∈ [5] from .head _)))
        clear hn hl H0 H1 H2 H3 H4 H5 H6 H7 H8 H9
        refine stepC (wanted_guard rfl rfl h31 rfl) fun K hK => ?_
        exact wp_load_p (.tmp 3) rfl s3 bm3 (hK _ (Below.refl _ _))
      refine steps_cons (fun hn hl => ?_) fun H11 => ?_
      · skip
        have h35 := Sp.of_g (H9 (hn 9 (show 9 ∈ [9, 10, 5] from .head _))) rfl
        have h36 := Sp.of_g (H10 (hn 10 (show 10 ∈ [9, 10, 5] from .tail _ (.head _)))) rfl
        have h31 := Sp.of_c (H5 (hn 5 (show 5 ∈ [9, 10, 5] from .tail _ (.tail _ (.head _)))))
        clear hn hl H0 H1 H2 H3 H4 H5 H6 H7 H8 H9 H10
        refine stepC (wanted_guard rfl rfl h31 rfl) fun K hK => ?_
        go_simp
        first
          | ((with_reducible refine (HRT.out _ TT RA).mono ?_); rintro e w6 ⟨rfl, hb6⟩; exact hK _ hb6)
          | ((with_reducible refine (HRR.out _ RA).mono ?_); rintro e w6 ⟨rfl, hb6⟩; exact hK _ hb6)
          | ((with_reducible refine (HSA.out _ RA RB).mono ?_); rintro e w6 ⟨rfl, hb6⟩; exact hK _ hb6)
          | ((with_reducible refine (HSB.out _ RA RB).mono ?_); rintro e w6 ⟨rfl, hb6⟩; exact hK _ hb6)
          | ((with_reducible refine (HSC.out _ RA RA).mono ?_); rintro e w6 ⟨rfl, hb6⟩; exact hK _ hb6)
      refine steps_cons (fun hn hl => ?_) fun H12 => ?_
      · skip
        have h34 := Sp.of_g (H8 (hn 8 (show 8 ∈ [8, 11, 5] from .head _))) rfl
        have h37 := Sp.of_g (H11 (hn 11 (show 11 ∈ [8, 11, 5] from .tail _ (.head _)))) rfl
        have h31 := Sp.of_c (H5 (hn 5 (show 5 ∈ [8, 11, 5] from .tail _ (.tail _ (.head _)))))
        clear hn hl H0 H1 H2 H3 H4 H5 H6 H7 H8 H9 H10 H11
        refine stepC (wanted_guard rfl rfl h31 rfl) fun K hK => ?_
        go_simp
        exact hK _ (Below.refl _ _)
      refine steps_cons (fun hn hl => ?_) fun H13 => ?_
      · skip
        have h31 := Sp.of_c (H5 (hn 5 (show 5 ∈ [5, 12] from .head _)))
        have h38 := Sp.of_g (H12 (hn 12 (show 12 ∈ [5, 12] from .tail _ (.head _)))) rfl
        clear hn hl H0 H1 H2 H3 H4 H5 H6 H7 H8 H9 H10 H11 H12
        refine stepC (wanted_free rfl) fun K hK => ?_
        go_simp
        exact hK _ (Below.refl _ _)
      refine steps_cons (fun hn hl => ?_) fun H14 => ?_
      · skip
        have h39 := Sp.of_c (H13 (hn 13 (show 13 ∈ [13] from .head _)))
        clear hn hl H0 H1 H2 H3 H4 H5 H6 H7 H8 H9 H10 H11 H12 H13
        refine stepC (wanted_free rfl) fun K hK => ?_
        go_simp
        exact hK _ (Below.refl _ _)
      refine steps_cons (fun hn hl => ?_) fun H15 => ?_
      · skip
        have h40 := Sp.of_c (H14 (hn 14 (show 14 ∈ [14] from .head _)))
        clear hn hl H0 H1 H2 H3 H4 H5 H6 H7 H8 H9 H10 H11 H12 H13 H14
        refine stepC (wanted_guard rfl rfl h40 rfl) fun K hK => ?_
        exact wp_load_p (.tmp 2) rfl s2 bm (hK _ (Below.refl _ _))
      refine steps_cons (fun hn hl => ?_) fun H16 => ?_
      · skip
        have h40 := Sp.of_c (H14 (hn 14 (show 14 ∈ [14] from .head _)))
        clear hn hl H0 H1 H2 H3 H4 H5 H6 H7 H8 H9 H10 H11 H12 H13 H14 H15
        refine stepC (wanted_guard rfl rfl h40 rfl) fun K hK => ?_
        exact wp_load_p (.tmp 2) rfl s2 bm (hK _ (Below.refl _ _))
      refine steps_cons (fun hn hl => ?_) fun H17 => ?_
      · skip
        have h41 := Sp.of_g (H15 (hn 15 (show 15 ∈ [15, 16, 14] from .head _))) rfl
        have h42 := Sp.of_g (H16 (hn 16 (show 16 ∈ [15, 16, 14] from .tail _ (.head _)))) rfl
        have h40 := Sp.of_c (H14 (hn 14 (show 14 ∈ [15, 16, 14] from .tail _ (.tail _ (.head _)))))
        clear hn hl H0 H1 H2 H3 H4 H5 H6 H7 H8 H9 H10 H11 H12 H13 H14 H15 H16
        refine stepC (wanted_guard rfl rfl h40 rfl) fun K hK => ?_
        go_simp
        first
          | ((with_reducible refine (HRT.out _ TT RA).mono ?_); rintro e w6 ⟨rfl, hb6⟩; exact hK _ hb6)
          | ((with_reducible refine (HRR.out _ RA).mono ?_); rintro e w6 ⟨rfl, hb6⟩; exact hK _ hb6)
          | ((with_reducible refine (HSA.out _ RA RB).mono ?_); rintro e w6 ⟨rfl, hb6⟩; exact hK _ hb6)
          | ((with_reducible refine (HSB.out _ RA RB).mono ?_); rintro e w6 ⟨rfl, hb6⟩; exact hK _ hb6)
          | ((with_reducible refine (HSC.out _ RA RA).mono ?_); rintro e w6 ⟨rfl, hb6⟩; exact hK _ hb6)
      refine steps_cons (fun hn hl => ?_) fun H18 => ?_
      · skip
        have h43 := Sp.of_g (H17 (hn 17 (show 17 ∈ [17, 14] from .head _))) rfl
        have h40 := Sp.of_c (H14 (hn 14 (show 14 ∈ [17, 14] from .tail _ (.head _))))
        clear hn hl H0 H1 H2 H3 H4 H5 H6 H7 H8 H9 H10 H11 H12 H13 H14 H15 H16 H17
        refine stepC (wanted_guard rfl rfl h40 rfl) fun K hK => ?_
        go_simp
        exact hK _ (Below.refl _ _)
      refine steps_cons (fun hn hl => ?_) fun H19 => ?_
      · skip
        have h40 := Sp.of_c (H14 (hn 14 (show 14 ∈ [14, 18] from .head _)))
        have h44 := Sp.of_g (H18 (hn 18 (show 18 ∈ [14, 18] from .tail _ (.head _)))) rfl
        clear hn hl H0 H1 H2 H3 H4 H5 H6 H7 H8 H9 H10 H11 H12 H13 H14 H15 H16 H17 H18
        refine stepC (wanted_free rfl) fun K hK => ?_
        go_simp
        exact hK _ (Below.refl _ _)
      exact trivial
    · intro w3 hb3
      have hz3 := hb3.size
      refine end_cons ?_; rintro _ rfl
      refine end_cons ?_; rintro _ rfl
      refine end_cons ?_; rintro _ rfl
      refine end_cons ?_; rintro _ rfl
      refine end_cons ?_; rintro _ rfl
      refine end_cons ?_; rintro _ rfl
      refine end_cons ?_; rintro _ rfl
      refine end_cons ?_; rintro _ rfl
      refine end_cons ?_; rintro _ rfl
      refine end_cons ?_; rintro _ rfl
      refine end_cons ?_; rintro _ rfl
      refine end_cons ?_; rintro _ rfl
      refine end_cons ?_; rintro _ rfl
      refine end_cons ?_; rintro _ rfl
      refine end_cons ?_; rintro _ rfl
      refine end_cons ?_; rintro _ rfl
      refine end_cons ?_; rintro _ rfl
      refine end_cons ?_; rintro _ rfl
      refine end_cons ?_; rintro _ rfl
      refine end_cons ?_; rintro _ rfl
      refine end_nil ?_
      simp only [List.setIfInBounds_toArray, List.set_cons_succ, List.set_cons_zero, Bool.not_false, Bool.not_true, Bool.true_or, Bool.or_true, Bool.false_or, Bool.or_false]
      have HX3 := Lib.hid (HX2.out.on hb3)
      have HA3 := Lib.hid (HA2.out.later hb3)
      have HR3 := Lib.hid (HR2.out.later hb3)
      have hW3 : Below w.heap.size w w3 := hW2.trans (hb3.mono hW2.size)
      clear HX2 HA2 HR2 hb3
      clear HY2 HB2 HT2
      go_wp2_with (with_reducible refine wpList_load_p (r := r) rfl (.tmp 2) rfl rfl HX3.out ?_)
      refine (HRR.out w3 HA3.out).mono ?_; rintro e w4 ⟨rfl, hb4⟩
      have HX4 := Lib.hid (HX3.out.on hb4)
      have HA4 := Lib.hid (HA3.out.later hb4)
      have HR4 := Lib.hid (HR3.out.later hb4)
      have hW4 : Below w.heap.size w w4 := hW3.trans (hb4.mono hW3.size)
      clear HX3 HA3 HR3 hb4
      have KR := HRD.out A2 c2 (HWL.out HRA.out) HN2.out w4 (HT.out.on hW4) HR4.out
      go_wp2_with fail
      refine KR.mono ?_; rintro e w5 ⟨na, nc, rfl, hrow5, hn5, hb5⟩
      clear KR
      have HE5 := Lib.hid (HBACK.out HRA.out na nc)
      have HL5 := Lib.hid (HLEN.out na nc)
      rw [HE5.out.1]
      have HB5 := Lib.hid hrow5
      have HX5 := Lib.hid (HX4.out.on hb5)
      have HA5 := Lib.hid (HA4.out.later hb5)
      have HR5 := Lib.hid (HR4.out.later hb5)
      have hW5 : Below w.heap.size w w5 := hW4.trans (hb5.mono hW4.size)
      clear HX4 HA4 HR4 hb5
      have HE6 := Lib.hid HE5.out.2
      clear hrow5 hn5 HE5 HLEN HBACK HRD
      generalize readP (writeP r) na nc = back at HE6 HL5 HB5 ⊢
      go_wp2_with (first
        | ((with_reducible refine wpList_store_row rfl 25 (.tmp 7) (.tmp 59) rfl w5.heap.size _ rfl rfl 25 #[.int .i64 0, .int .i64 0, .int .i64 0, .int .i64 0, .slice none 0 0] (by repeat (first | (refine heap_top (by first | omega | (simp only [World.size_alloc]; done) | (simp only [World.size_alloc]; omega))) | refine heap_up ?_)) (by kernel_rfl) (by simp) (by simp [Value.oneCell']) ?_)
           generalize hw6 : World.setRow _ _ _ = w6
           have hb6 : Below w5.heap.size w5 w6 := by rw [← hw6]; exact below_setRow ((by repeat' (first | exact Below.refl _ _ | assumption | exact And.left (by assumption) | refine Below.drew ?_ | refine below_drewN ?_ _ | refine Below.setCell ?_ (by first | (simp; done) | (simp; omega) | omega) _ | refine Below.alloc ?_ (by first | (simp; done) | (simp; omega) | omega) _ | refine after (by assumption) (by first | (simp; done) | (simp; omega) | omega) ?_))) (Nat.le_refl _) _
           have HK6 : Hid (BoxP w6 w5.heap.size back) := Lib.hid ⟨by rw [← hw6]; exact setRow_heap _ _ _ _ _ _ (by repeat (first | (refine heap_top (by first | omega | (simp only [World.size_alloc]; done) | (simp only [World.size_alloc]; omega))) | refine heap_up ?_))⟩
           have HX6 := Lib.hid (HX5.out.on hb6)
           clear hw6)
        | refine wpList_load_p_g (r := r) (.tmp 2) rfl rfl HX6.out rfl ?_)
      have HA6 := Lib.hid (HA5.out.later hb6)
      have HR6 := Lib.hid (HR5.out.later hb6)
      have HB6 := Lib.hid (HB5.out.later hb6)
      have hW6 : Below w.heap.size w w6 := hW5.trans (hb6.mono hW5.size)
      clear HX5 HA5 HR5 HB5 hb6
      refine (HWRT.out HRA.out w6 HA6.out).mono ?_; rintro e w7 ⟨v7, rfl, hown7, hb7⟩
      obtain ⟨A7, c7, rfl, hrow7, _, _⟩ := own_form2 hown7
      have hwl := HWL.out HRA.out
      have KB := same A2 A7 c2 c7 (writeP r) (by omega) w7 (HR6.out.later hb7) hrow7
      have HX7 := Lib.hid (HX6.out.on hb7)
      have HK7 := Lib.hid (HK6.out.on hb7)
      have HA7 := Lib.hid (HA6.out.later hb7)
      have HB7 := Lib.hid (HB6.out.later hb7)
      have hW7 : Below w.heap.size w w7 := hW6.trans (hb7.mono hW6.size)
      clear HX6 HK6 HA6 HB6 hb7
      clear HR6 hown7 hrow7 hwl
      go_wp2_with fail
      refine KB.mono ?_; rintro e w8 ⟨rfl, hb8⟩
      clear KB
      have HX8 := Lib.hid (HX7.out.on hb8)
      have HK8 := Lib.hid (HK7.out.on hb8)
      have HA8 := Lib.hid (HA7.out.later hb8)
      have HB8 := Lib.hid (HB7.out.later hb8)
      have hW8 : Below w.heap.size w w8 := hW7.trans (hb8.mono hW7.size)
      clear HX7 HK7 HA7 HB7 hb8
      have KS := refSameP back r (by have := HL5.out; omega) (by have := HLR.out; omega) w8 HB8.out HA8.out
      rw [HE6.out] at KS
      go_wp2_with (first
        | refine wpList_load_p_g (r := back) (.tmp 7) rfl rfl HK8.out rfl ?_
        | refine wpList_load_p_g (r := r) (.tmp 2) rfl rfl HX8.out rfl ?_)
      refine KS.mono ?_; rintro e w9 ⟨rfl, hb9⟩
      go_wp2
      go_ret
      exact ⟨rfl, hW8.trans (hb9.mono hW8.size)⟩
  · have ert : rt = false := HRV.out.symm.trans hra
    subst ert
    clear hra
    go_wp2_with fail
    refine region_mono (rwSp w r s false sm) [26, 27, 28, 29, 30, 31, 32, 33, 34, 35, 36, 37, 38, 39, 40, 41, 42, 43, 44, 45] (by kernel_rfl) (by kernel_rfl) (by kernel_rfl) (by kernel_rfl) (stables_cons (Sp.c_stable _ _) (stables_cons (Sp.c_stable _ _) (stables_cons (Sp.c_stable _ _) (stables_cons (Sp.c_stable _ _) (stables_cons (Sp.c_stable _ _) (stables_cons (Sp.c_stable _ _) (stables_cons (Sp.g_stable _ _ _) (stables_cons (Sp.g_stable _ _ _) (stables_cons (Sp.g_stable _ _ _) (stables_cons (Sp.g_stable _ _ _) (stables_cons (Sp.g_stable _ _ _) (stables_cons (Sp.g_stable _ _ _) (stables_cons (Sp.g_stable _ _ _) (stables_cons (Sp.c_stable _ _) (stables_cons (Sp.c_stable _ _) (stables_cons (Sp.g_stable _ _ _) (stables_cons (Sp.g_stable _ _ _) (stables_cons (Sp.g_stable _ _ _) (stables_cons (Sp.g_stable _ _ _) (stables_cons (Sp.c_stable _ _) (trivial))))))))))))))))))))) ?_ ?_
    · intro am wm L hbm hbase hbase2
      have s2 : am.tmps.getD 2 undef = .pointer (some ⟨w.heap.size, 0, none⟩) := (hbase 2 rfl).trans (by simp only [Array.getD_eq_getD_getElem?, List.getElem?_toArray, List.getElem?_cons_succ, List.getElem?_cons_zero, Option.getD_some])
      have s3 : am.tmps.getD 3 undef = .pointer (some ⟨w.heap.size + 1, 0, none⟩) := (hbase 3 rfl).trans (by simp only [Array.getD_eq_getD_getElem?, List.getElem?_toArray, List.getElem?_cons_succ, List.getElem?_cons_zero, Option.getD_some])
      clear hbase hbase2
      have bm := HX2.out.on hbm
      have bm3 := HY2.out.on hbm
      have RA := HA2.out.later hbm
      have RB := HB2.out.later hbm
      have TT := HT2.out.on hbm
      refine steps_cons (fun hn hl => ?_) fun H0 => ?_
      · skip
        clear hn hl 
        refine stepC (wanted_free rfl) fun K hK => ?_
        exact wp_load_p (.tmp 2) rfl s2 bm (hK _ (Below.refl _ _))
      refine steps_cons (fun hn hl => ?_) fun H1 => ?_
      · skip
        have h26 := Sp.of_c (H0 (hn 0 (show 0 ∈ [0] from .head _)))
        clear hn hl H0
        refine stepC (wanted_free rfl) fun K hK => ?_
        go_simp
        first
          | ((with_reducible refine (HRT.out _ TT RA).mono ?_); rintro e w6 ⟨rfl, hb6⟩; exact hK _ hb6)
          | ((with_reducible refine (HRR.out _ RA).mono ?_); rintro e w6 ⟨rfl, hb6⟩; exact hK _ hb6)
          | ((with_reducible refine (HSA.out _ RA RB).mono ?_); rintro e w6 ⟨rfl, hb6⟩; exact hK _ hb6)
          | ((with_reducible refine (HSB.out _ RA RB).mono ?_); rintro e w6 ⟨rfl, hb6⟩; exact hK _ hb6)
          | ((with_reducible refine (HSC.out _ RA RA).mono ?_); rintro e w6 ⟨rfl, hb6⟩; exact hK _ hb6)
      refine steps_cons (fun hn hl => ?_) fun H2 => ?_
      · skip
        clear hn hl H0 H1
        refine stepC (wanted_free rfl) fun K hK => ?_
        exact wp_load_p (.tmp 2) rfl s2 bm (hK _ (Below.refl _ _))
      refine steps_cons (fun hn hl => ?_) fun H3 => ?_
      · skip
        have h28 := Sp.of_c (H2 (hn 2 (show 2 ∈ [2] from .head _)))
        clear hn hl H0 H1 H2
        refine stepC (wanted_free rfl) fun K hK => ?_
        go_simp
        first
          | ((with_reducible refine (HRT.out _ TT RA).mono ?_); rintro e w6 ⟨rfl, hb6⟩; exact hK _ hb6)
          | ((with_reducible refine (HRR.out _ RA).mono ?_); rintro e w6 ⟨rfl, hb6⟩; exact hK _ hb6)
          | ((with_reducible refine (HSA.out _ RA RB).mono ?_); rintro e w6 ⟨rfl, hb6⟩; exact hK _ hb6)
          | ((with_reducible refine (HSB.out _ RA RB).mono ?_); rintro e w6 ⟨rfl, hb6⟩; exact hK _ hb6)
          | ((with_reducible refine (HSC.out _ RA RA).mono ?_); rintro e w6 ⟨rfl, hb6⟩; exact hK _ hb6)
      refine steps_cons (fun hn hl => ?_) fun H4 => ?_
      · skip
        have h27 := Sp.of_c (H1 (hn 1 (show 1 ∈ [1, 3] from .head _)))
        have h29 := Sp.of_c (H3 (hn 3 (show 3 ∈ [1, 3] from .tail _ (.head _))))
        clear hn hl H0 H1 H2 H3
        refine stepC (wanted_free rfl) fun K hK => ?_
        go_simp
        exact hK _ (Below.refl _ _)
      refine steps_cons (fun hn hl => ?_) fun H5 => ?_
      · skip
        have h30 := Sp.of_c (H4 (hn 4 (show 4 ∈ [4] from .head _)))
        clear hn hl H0 H1 H2 H3 H4
        refine stepC (wanted_free rfl) fun K hK => ?_
        go_simp
        exact hK _ (Below.refl _ _)
      refine steps_cons (fun hn hl => ?_) fun H6 => ?_
      · skip
        have h31 := Sp.of_c (H5 (hn 5 (show 5 ∈ [5] from .head _)))
        clear hn hl H0 H1 H2 H3 H4 H5
        refine stepC (wanted_guard rfl rfl h31 rfl) fun K hK => ?_
        exact wp_load_p (.tmp 2) rfl s2 bm (hK _ (Below.refl _ _))
      refine steps_cons (fun hn hl => ?_) fun H7 => ?_
      · skip
        have h31 := Sp.of_c (H5 (hn 5 (show 5 ∈ [5] from .head _)))
        clear hn hl H0 H1 H2 H3 H4 H5 H6
        refine stepC (wanted_guard rfl rfl h31 rfl) fun K hK => ?_
        exact wp_load_p (.tmp 3) rfl s3 bm3 (hK _ (Below.refl _ _))
      refine steps_cons (fun hn hl => ?_) fun H8 => ?_
      · skip
        have h32 := Sp.of_g (H6 (hn 6 (show 6 ∈ [6, 7, 5] from .head _))) rfl
        have h33 := Sp.of_g (H7 (hn 7 (show 7 ∈ [6, 7, 5] from .tail _ (.head _)))) rfl
        have h31 := Sp.of_c (H5 (hn 5 (show 5 ∈ [6, 7, 5] from .tail _ (.tail _ (.head _)))))
        clear hn hl H0 H1 H2 H3 H4 H5 H6 H7
        refine stepC (wanted_guard rfl rfl h31 rfl) fun K hK => ?_
        go_simp
        first
          | ((with_reducible refine (HRT.out _ TT RA).mono ?_); rintro e w6 ⟨rfl, hb6⟩; exact hK _ hb6)
          | ((with_reducible refine (HRR.out _ RA).mono ?_); rintro e w6 ⟨rfl, hb6⟩; exact hK _ hb6)
          | ((with_reducible refine (HSA.out _ RA RB).mono ?_); rintro e w6 ⟨rfl, hb6⟩; exact hK _ hb6)
          | ((with_reducible refine (HSB.out _ RA RB).mono ?_); rintro e w6 ⟨rfl, hb6⟩; exact hK _ hb6)
          | ((with_reducible refine (HSC.out _ RA RA).mono ?_); rintro e w6 ⟨rfl, hb6⟩; exact hK _ hb6)
      refine steps_cons (fun hn hl => ?_) fun H9 => ?_
      · skip
        have h31 := Sp.of_c (H5 (hn 5 (show 5 ∈ [5] from .head _)))
        clear hn hl H0 H1 H2 H3 H4 H5 H6 H7 H8
        refine stepC (wanted_guard rfl rfl h31 rfl) fun K hK => ?_
        exact wp_load_p (.tmp 2) rfl s2 bm (hK _ (Below.refl _ _))
      refine steps_cons (fun hn hl => ?_) fun H10 => ?_
      · skip
        have h31 := Sp.of_c (H5 (hn 5 (show 5 ∈ [5] from .head _)))
        clear hn hl H0 H1 H2 H3 H4 H5 H6 H7 H8 H9
        refine stepC (wanted_guard rfl rfl h31 rfl) fun K hK => ?_
        exact wp_load_p (.tmp 3) rfl s3 bm3 (hK _ (Below.refl _ _))
      refine steps_cons (fun hn hl => ?_) fun H11 => ?_
      · skip
        have h35 := Sp.of_g (H9 (hn 9 (show 9 ∈ [9, 10, 5] from .head _))) rfl
        have h36 := Sp.of_g (H10 (hn 10 (show 10 ∈ [9, 10, 5] from .tail _ (.head _)))) rfl
        have h31 := Sp.of_c (H5 (hn 5 (show 5 ∈ [9, 10, 5] from .tail _ (.tail _ (.head _)))))
        clear hn hl H0 H1 H2 H3 H4 H5 H6 H7 H8 H9 H10
        refine stepC (wanted_guard rfl rfl h31 rfl) fun K hK => ?_
        go_simp
        first
          | ((with_reducible refine (HRT.out _ TT RA).mono ?_); rintro e w6 ⟨rfl, hb6⟩; exact hK _ hb6)
          | ((with_reducible refine (HRR.out _ RA).mono ?_); rintro e w6 ⟨rfl, hb6⟩; exact hK _ hb6)
          | ((with_reducible refine (HSA.out _ RA RB).mono ?_); rintro e w6 ⟨rfl, hb6⟩; exact hK _ hb6)
          | ((with_reducible refine (HSB.out _ RA RB).mono ?_); rintro e w6 ⟨rfl, hb6⟩; exact hK _ hb6)
          | ((with_reducible refine (HSC.out _ RA RA).mono ?_); rintro e w6 ⟨rfl, hb6⟩; exact hK _ hb6)
      refine steps_cons (fun hn hl => ?_) fun H12 => ?_
      · skip
        have h34 := Sp.of_g (H8 (hn 8 (show 8 ∈ [8, 11, 5] from .head _))) rfl
        have h37 := Sp.of_g (H11 (hn 11 (show 11 ∈ [8, 11, 5] from .tail _ (.head _)))) rfl
        have h31 := Sp.of_c (H5 (hn 5 (show 5 ∈ [8, 11, 5] from .tail _ (.tail _ (.head _)))))
        clear hn hl H0 H1 H2 H3 H4 H5 H6 H7 H8 H9 H10 H11
        refine stepC (wanted_guard rfl rfl h31 rfl) fun K hK => ?_
        go_simp
        exact hK _ (Below.refl _ _)
      refine steps_cons (fun hn hl => ?_) fun H13 => ?_
      · skip
        have h31 := Sp.of_c (H5 (hn 5 (show 5 ∈ [5, 12] from .head _)))
        have h38 := Sp.of_g (H12 (hn 12 (show 12 ∈ [5, 12] from .tail _ (.head _)))) rfl
        clear hn hl H0 H1 H2 H3 H4 H5 H6 H7 H8 H9 H10 H11 H12
        refine stepC (wanted_free rfl) fun K hK => ?_
        go_simp
        exact hK _ (Below.refl _ _)
      refine steps_cons (fun hn hl => ?_) fun H14 => ?_
      · skip
        have h39 := Sp.of_c (H13 (hn 13 (show 13 ∈ [13] from .head _)))
        clear hn hl H0 H1 H2 H3 H4 H5 H6 H7 H8 H9 H10 H11 H12 H13
        refine stepC (wanted_free rfl) fun K hK => ?_
        go_simp
        exact hK _ (Below.refl _ _)
      refine steps_cons (fun hn hl => ?_) fun H15 => ?_
      · skip
        have h40 := Sp.of_c (H14 (hn 14 (show 14 ∈ [14] from .head _)))
        clear hn hl H0 H1 H2 H3 H4 H5 H6 H7 H8 H9 H10 H11 H12 H13 H14
        refine stepC (wanted_guard rfl rfl h40 rfl) fun K hK => ?_
        exact wp_load_p (.tmp 2) rfl s2 bm (hK _ (Below.refl _ _))
      refine steps_cons (fun hn hl => ?_) fun H16 => ?_
      · skip
        have h40 := Sp.of_c (H14 (hn 14 (show 14 ∈ [14] from .head _)))
        clear hn hl H0 H1 H2 H3 H4 H5 H6 H7 H8 H9 H10 H11 H12 H13 H14 H15
        refine stepC (wanted_guard rfl rfl h40 rfl) fun K hK => ?_
        exact wp_load_p (.tmp 2) rfl s2 bm (hK _ (Below.refl _ _))
      refine steps_cons (fun hn hl => ?_) fun H17 => ?_
      · skip
        have h41 := Sp.of_g (H15 (hn 15 (show 15 ∈ [15, 16, 14] from .head _))) rfl
        have h42 := Sp.of_g (H16 (hn 16 (show 16 ∈ [15, 16, 14] from .tail _ (.head _)))) rfl
        have h40 := Sp.of_c (H14 (hn 14 (show 14 ∈ [15, 16, 14] from .tail _ (.tail _ (.head _)))))
        clear hn hl H0 H1 H2 H3 H4 H5 H6 H7 H8 H9 H10 H11 H12 H13 H14 H15 H16
        refine stepC (wanted_guard rfl rfl h40 rfl) fun K hK => ?_
        go_simp
        first
          | ((with_reducible refine (HRT.out _ TT RA).mono ?_); rintro e w6 ⟨rfl, hb6⟩; exact hK _ hb6)
          | ((with_reducible refine (HRR.out _ RA).mono ?_); rintro e w6 ⟨rfl, hb6⟩; exact hK _ hb6)
          | ((with_reducible refine (HSA.out _ RA RB).mono ?_); rintro e w6 ⟨rfl, hb6⟩; exact hK _ hb6)
          | ((with_reducible refine (HSB.out _ RA RB).mono ?_); rintro e w6 ⟨rfl, hb6⟩; exact hK _ hb6)
          | ((with_reducible refine (HSC.out _ RA RA).mono ?_); rintro e w6 ⟨rfl, hb6⟩; exact hK _ hb6)
      refine steps_cons (fun hn hl => ?_) fun H18 => ?_
      · skip
        have h43 := Sp.of_g (H17 (hn 17 (show 17 ∈ [17, 14] from .head _))) rfl
        have h40 := Sp.of_c (H14 (hn 14 (show 14 ∈ [17, 14] from .tail _ (.head _))))
        clear hn hl H0 H1 H2 H3 H4 H5 H6 H7 H8 H9 H10 H11 H12 H13 H14 H15 H16 H17
        refine stepC (wanted_guard rfl rfl h40 rfl) fun K hK => ?_
        go_simp
        exact hK _ (Below.refl _ _)
      refine steps_cons (fun hn hl => ?_) fun H19 => ?_
      · skip
        have h40 := Sp.of_c (H14 (hn 14 (show 14 ∈ [14, 18] from .head _)))
        have h44 := Sp.of_g (H18 (hn 18 (show 18 ∈ [14, 18] from .tail _ (.head _)))) rfl
        clear hn hl H0 H1 H2 H3 H4 H5 H6 H7 H8 H9 H10 H11 H12 H13 H14 H15 H16 H17 H18
        refine stepC (wanted_free rfl) fun K hK => ?_
        go_simp
        exact hK _ (Below.refl _ _)
      exact trivial
    · intro w3 hb3
      have hz3 := hb3.size
      refine end_cons ?_; rintro _ rfl
      refine end_cons ?_; rintro _ rfl
      refine end_cons ?_; rintro _ rfl
      refine end_cons ?_; rintro _ rfl
      refine end_cons ?_; rintro _ rfl
      refine end_cons ?_; rintro _ rfl
      refine end_cons ?_; rintro _ rfl
      refine end_cons ?_; rintro _ rfl
      refine end_cons ?_; rintro _ rfl
      refine end_cons ?_; rintro _ rfl
      refine end_cons ?_; rintro _ rfl
      refine end_cons ?_; rintro _ rfl
      refine end_cons ?_; rintro _ rfl
      refine end_cons ?_; rintro _ rfl
      refine end_cons ?_; rintro _ rfl
      refine end_cons ?_; rintro _ rfl
      refine end_cons ?_; rintro _ rfl
      refine end_cons ?_; rintro _ rfl
      refine end_cons ?_; rintro _ rfl
      refine end_cons ?_; rintro _ rfl
      refine end_nil ?_
      simp only [List.setIfInBounds_toArray, List.set_cons_succ, List.set_cons_zero, Bool.not_false, Bool.not_true, Bool.true_or, Bool.or_true, Bool.false_or, Bool.or_false]
      have HX3 := Lib.hid (HX2.out.on hb3)
      have HA3 := Lib.hid (HA2.out.later hb3)
      have hW3 : Below w.heap.size w w3 := hW2.trans (hb3.mono hW2.size)
      clear HX2 HA2 hb3
      go_wp2_with (with_reducible refine wpList_load_p (r := r) rfl (.tmp 2) rfl rfl HX3.out ?_)
      refine (HRR.out w3 HA3.out).mono ?_; rintro e w4 ⟨rfl, hb4⟩
      go_wp2
      go_ret
      exact ⟨rfl, hW3.trans (hb4.mono hW3.size)⟩
theorem replyWrites_walk (v0 : Value) (v1 : Value) (w : World) (F0 : FRep w v0) (F1 : FRep w v1) (hS : Std w) :
    Calls Tryd.prog 3 #[v0, v1] w fun e w' => e = .returned (.bool true) ∧ Below w.heap.size w w' := by
  obtain ⟨r, rfl, hc, ha⟩ := F0
  obtain ⟨s, rfl, _, hb⟩ := F1
  by_cases h1 : 200 < r.nums.length
  · exact replyWrites_many r s w hS (.inl h1)
  · by_cases h2 : 200 < s.nums.length
    · exact replyWrites_many r s w hS (.inr h2)
    · exact replyWrites_few r s (by omega) (by omega) w hS hc ha hb _ _ rfl rfl
end Go.Proofs.YtbnlchbklpgejaaDoor.W
