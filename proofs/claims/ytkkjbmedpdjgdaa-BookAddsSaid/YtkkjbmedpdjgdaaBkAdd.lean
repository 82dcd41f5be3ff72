/-
  Contract of book.Add.
-/
import Derived.Test.YtkkjbmedpdjgdaaBkRight
import Derived.Test.YtkkjbmedpdjgdaaBkDrop
namespace Go.Proofs.Ytkkjbmedpdjgdaa.W
set_option linter.unusedVariables false
set_option linter.unusedSimpArgs false
open Go.ChangeShapes Go.WideShapes Go.ChangeAt Go.RowKit

/-- the last of right ones has the greatest number -/
theorem last_top {n : Int} {l : List Bk} (h : RightBk n l) {k : Nat} (hk : k < l.length) (he : l.length = k + 1) : ∀ c ∈ l, c.id ≤ l[k].id := by
  have e : l.take k ++ [l[k]] = l := by rw [← take_app l k hk, ← he, List.take_length]
  have h1 := h.1
  rw [← e, rightK_app] at h1
  intro c hc
  rw [← e] at hc
  rcases List.mem_append.1 hc with hc | hc
  · have := (h1.2.1.2 c (by simpa using hc)).1; omega
  · rw [List.mem_singleton.1 hc]; exact Int.le_refl _
theorem ek_arg {l : List Bk} {n : Int} {x : Bk} (h : ¬ (RightBk n l ∧ BkOk n x)) : addEk l n x = 2 := if_pos h
theorem ek_limit {l : List Bk} {n : Int} {x : Bk} (h : RightBk n l ∧ BkOk n x) (h1 : l.length = 16) : addEk l n x = 3 := by unfold addEk; rw [if_neg (fun c => c h), if_pos h1]
theorem ek_state {l : List Bk} {n : Int} {x : Bk} (h : RightBk n l ∧ BkOk n x) (h1 : ¬ l.length = 16) (h2 : ∃ c ∈ l, x.id ≤ c.id) : addEk l n x = 31 := by unfold addEk; rw [if_neg (fun c => c h), if_neg h1, if_pos h2]
theorem ek_booked {l : List Bk} {n : Int} {x : Bk} (h : RightBk n l ∧ BkOk n x) (h1 : ¬ l.length = 16) (h2 : ¬ ∃ c ∈ l, x.id ≤ c.id) (h3 : Meets l x.node x.frm x.til) : addEk l n x = 39 := by unfold addEk; rw [if_neg (fun c => c h), if_neg h1, if_neg h2, if_pos h3]
theorem ek_ok {l : List Bk} {n : Int} {x : Bk} (h : RightBk n l ∧ BkOk n x) (h1 : ¬ l.length = 16) (h2 : ¬ ∃ c ∈ l, x.id ≤ c.id) (h3 : ¬ Meets l x.node x.frm x.til) : addEk l n x = 0 := by unfold addEk; rw [if_neg (fun c => c h), if_neg h1, if_neg h2, if_neg h3]
theorem row_src {w : World} {a : Option Addr} {xs : List Value} (h : RowAt w a xs) (hp : 0 < xs.length) : ∃ ad, a = some ad ∧ ∀ j v, xs[j]? = some v → w.cell? (ad.add j) = some v := by
  obtain ⟨b, off, rfl, hl, hc⟩ := h.row hp
  exact ⟨_, rfl, row_reads h⟩
set_option maxHeartbeats 4000000 in
theorem bAdd_wrong (a : Option Addr) (cap : Nat) (l : List Bk) (hl : l.length ≤ 100000) (n : Int) (x : Bk) (w : World) (HA : BkAt w a cap l) (h : ¬ RightBk n l) :
    Calls Try.prog 6 #[.slice a l.length cap, .int .i64 n, .agg #[.int .i64 x.id, .int .i64 x.node, .int .i64 x.frm, .int .i64 x.til]] w fun e w' => e = .returned (.tuple #[.slice none 0 0, .int .i64 2]) ∧ Below w.heap.size w w' := by
  have HR := Lib.hid HA
  have HQ1 := Lib.hid (fun w' h => bRight a cap l hl n w' h)
  have HQ2 := Lib.hid (fun w' => bAlone x n w')
  rw [show rightBk l n = false from decide_eq_false h] at HQ1
  clear HA h
  go_enter Try.func6, Try.ntmps6
  go_wp2_with fail
  generalize hw0 : World.alloc w _ = w0
  have hb0 : Below w.heap.size w w0 := by rw [← hw0]; exact (by repeat' (first | exact Below.refl _ _ | assumption | exact And.left (by assumption) | refine Below.drew ?_ | refine below_drewN ?_ _ | refine Below.setCell ?_ (by first | (simp; done) | (simp; omega) | omega) _ | refine Below.alloc ?_ (by first | (simp; done) | (simp; omega) | omega) _ | refine after (by assumption) (by first | (simp; done) | (simp; omega) | omega) ?_))
  have y0 : w0.cell? ⟨w.heap.size, 0, none⟩ = some (.int .i64 x.id) := by rw [← hw0]; simp [go_sem]
  have y1 : w0.cell? ⟨w.heap.size, 1, none⟩ = some (.int .i64 x.node) := by rw [← hw0]; simp [go_sem]
  have y2 : w0.cell? ⟨w.heap.size, 2, none⟩ = some (.int .i64 x.frm) := by rw [← hw0]; simp [go_sem]
  have y3 : w0.cell? ⟨w.heap.size, 3, none⟩ = some (.int .i64 x.til) := by rw [← hw0]; simp [go_sem]
  clear hw0
  refine (HQ1.out w0 (HR.out.later hb0)).mono ?_; rintro e w1 ⟨rfl, hb1⟩
  have k1 := hb0.trans (hb1.mono hb0.size)
  replace y0 := carry hb1 y0
  replace y1 := carry hb1 y1
  replace y2 := carry hb1 y2
  replace y3 := carry hb1 y3
  go_wp2
  go_ret2
  exact ⟨rfl, k1⟩
set_option maxHeartbeats 4000000 in
theorem bAdd_alone (a : Option Addr) (cap : Nat) (l : List Bk) (hl : l.length ≤ 100000) (n : Int) (x : Bk) (w : World) (HA : BkAt w a cap l) (h : RightBk n l) (h2 : ¬ BkOk n x) :
    Calls Try.prog 6 #[.slice a l.length cap, .int .i64 n, .agg #[.int .i64 x.id, .int .i64 x.node, .int .i64 x.frm, .int .i64 x.til]] w fun e w' => e = .returned (.tuple #[.slice none 0 0, .int .i64 2]) ∧ Below w.heap.size w w' := by
  have HR := Lib.hid HA
  have HQ1 := Lib.hid (fun w' h => bRight a cap l hl n w' h)
  have HQ2 := Lib.hid (fun w' => bAlone x n w')
  rw [show rightBk l n = true from decide_eq_true h] at HQ1
  rw [show okB n x = false from decide_eq_false h2] at HQ2
  clear HA h h2
  go_enter Try.func6, Try.ntmps6
  go_wp2_with fail
  generalize hw0 : World.alloc w _ = w0
  have hb0 : Below w.heap.size w w0 := by rw [← hw0]; exact (by repeat' (first | exact Below.refl _ _ | assumption | exact And.left (by assumption) | refine Below.drew ?_ | refine below_drewN ?_ _ | refine Below.setCell ?_ (by first | (simp; done) | (simp; omega) | omega) _ | refine Below.alloc ?_ (by first | (simp; done) | (simp; omega) | omega) _ | refine after (by assumption) (by first | (simp; done) | (simp; omega) | omega) ?_))
  have y0 : w0.cell? ⟨w.heap.size, 0, none⟩ = some (.int .i64 x.id) := by rw [← hw0]; simp [go_sem]
  have y1 : w0.cell? ⟨w.heap.size, 1, none⟩ = some (.int .i64 x.node) := by rw [← hw0]; simp [go_sem]
  have y2 : w0.cell? ⟨w.heap.size, 2, none⟩ = some (.int .i64 x.frm) := by rw [← hw0]; simp [go_sem]
  have y3 : w0.cell? ⟨w.heap.size, 3, none⟩ = some (.int .i64 x.til) := by rw [← hw0]; simp [go_sem]
  clear hw0
  refine (HQ1.out w0 (HR.out.later hb0)).mono ?_; rintro e w1 ⟨rfl, hb1⟩
  have k1 := hb0.trans (hb1.mono hb0.size)
  replace y0 := carry hb1 y0
  replace y1 := carry hb1 y1
  replace y2 := carry hb1 y2
  replace y3 := carry hb1 y3
  go_wp2_with fail
  refine (HQ2.out w1).mono ?_; rintro e w2 ⟨rfl, hb2⟩
  have k2 := k1.trans (hb2.mono k1.size)
  replace y0 := carry hb2 y0
  replace y1 := carry hb2 y1
  replace y2 := carry hb2 y2
  replace y3 := carry hb2 y3
  go_wp2
  go_ret2
  exact ⟨rfl, k2⟩
set_option maxHeartbeats 4000000 in
theorem bAdd_limit (a : Option Addr) (cap : Nat) (l : List Bk) (hl : l.length ≤ 100000) (n : Int) (x : Bk) (w : World) (HA : BkAt w a cap l) (h : RightBk n l) (h2 : BkOk n x) (h3 : l.length = 16) :
    Calls Try.prog 6 #[.slice a l.length cap, .int .i64 n, .agg #[.int .i64 x.id, .int .i64 x.node, .int .i64 x.frm, .int .i64 x.til]] w fun e w' => e = .returned (.tuple #[.slice none 0 0, .int .i64 3]) ∧ Below w.heap.size w w' := by
  have HR := Lib.hid HA
  have HQ1 := Lib.hid (fun w' h => bRight a cap l hl n w' h)
  have HQ2 := Lib.hid (fun w' => bAlone x n w')
  rw [show rightBk l n = true from decide_eq_true h] at HQ1
  rw [show okB n x = true from decide_eq_true h2] at HQ2
  have g3 : ((l.length : Int) == 16) = true := by simp; omega
  have e16 : (l.length : Int) = 16 := by omega
  clear HA h h2 h3
  go_enter Try.func6, Try.ntmps6
  go_wp2_with fail
  generalize hw0 : World.alloc w _ = w0
  have hb0 : Below w.heap.size w w0 := by rw [← hw0]; exact (by repeat' (first | exact Below.refl _ _ | assumption | exact And.left (by assumption) | refine Below.drew ?_ | refine below_drewN ?_ _ | refine Below.setCell ?_ (by first | (simp; done) | (simp; omega) | omega) _ | refine Below.alloc ?_ (by first | (simp; done) | (simp; omega) | omega) _ | refine after (by assumption) (by first | (simp; done) | (simp; omega) | omega) ?_))
  have y0 : w0.cell? ⟨w.heap.size, 0, none⟩ = some (.int .i64 x.id) := by rw [← hw0]; simp [go_sem]
  have y1 : w0.cell? ⟨w.heap.size, 1, none⟩ = some (.int .i64 x.node) := by rw [← hw0]; simp [go_sem]
  have y2 : w0.cell? ⟨w.heap.size, 2, none⟩ = some (.int .i64 x.frm) := by rw [← hw0]; simp [go_sem]
  have y3 : w0.cell? ⟨w.heap.size, 3, none⟩ = some (.int .i64 x.til) := by rw [← hw0]; simp [go_sem]
  clear hw0
  refine (HQ1.out w0 (HR.out.later hb0)).mono ?_; rintro e w1 ⟨rfl, hb1⟩
  have k1 := hb0.trans (hb1.mono hb0.size)
  replace y0 := carry hb1 y0
  replace y1 := carry hb1 y1
  replace y2 := carry hb1 y2
  replace y3 := carry hb1 y3
  go_wp2_with fail
  refine (HQ2.out w1).mono ?_; rintro e w2 ⟨rfl, hb2⟩
  have k2 := k1.trans (hb2.mono k1.size)
  replace y0 := carry hb2 y0
  replace y1 := carry hb2 y1
  replace y2 := carry hb2 y2
  replace y3 := carry hb2 y3
  go_wp2
  go_ret2
  exact ⟨rfl, k2⟩
set_option maxHeartbeats 4000000 in
theorem bAdd_state (a : Option Addr) (cap : Nat) (l : List Bk) (hl : l.length ≤ 100000) (n : Int) (x : Bk) (w : World) (HA : BkAt w a cap l) (h : RightBk n l) (h2 : BkOk n x) (h3 : ¬ l.length = 16) (h4 : ∃ k, ∃ hk : k < l.length, l.length = k + 1 ∧ x.id ≤ l[k].id) :
    Calls Try.prog 6 #[.slice a l.length cap, .int .i64 n, .agg #[.int .i64 x.id, .int .i64 x.node, .int .i64 x.frm, .int .i64 x.til]] w fun e w' => e = .returned (.tuple #[.slice none 0 0, .int .i64 31]) ∧ Below w.heap.size w w' := by
  have HR := Lib.hid HA
  have HQ1 := Lib.hid (fun w' h => bRight a cap l hl n w' h)
  have HQ2 := Lib.hid (fun w' => bAlone x n w')
  rw [show rightBk l n = true from decide_eq_true h] at HQ1
  rw [show okB n x = true from decide_eq_true h2] at HQ2
  have g3 : ((l.length : Int) == 16) = false := by simp; omega
  have e16 : ¬ (l.length : Int) = 16 := by omega
  have H4 := Lib.hid h4
  clear HA h h2 h3 h4
  go_enter Try.func6, Try.ntmps6
  go_wp2_with fail
  generalize hw0 : World.alloc w _ = w0
  have hb0 : Below w.heap.size w w0 := by rw [← hw0]; exact (by repeat' (first | exact Below.refl _ _ | assumption | exact And.left (by assumption) | refine Below.drew ?_ | refine below_drewN ?_ _ | refine Below.setCell ?_ (by first | (simp; done) | (simp; omega) | omega) _ | refine Below.alloc ?_ (by first | (simp; done) | (simp; omega) | omega) _ | refine after (by assumption) (by first | (simp; done) | (simp; omega) | omega) ?_))
  have y0 : w0.cell? ⟨w.heap.size, 0, none⟩ = some (.int .i64 x.id) := by rw [← hw0]; simp [go_sem]
  have y1 : w0.cell? ⟨w.heap.size, 1, none⟩ = some (.int .i64 x.node) := by rw [← hw0]; simp [go_sem]
  have y2 : w0.cell? ⟨w.heap.size, 2, none⟩ = some (.int .i64 x.frm) := by rw [← hw0]; simp [go_sem]
  have y3 : w0.cell? ⟨w.heap.size, 3, none⟩ = some (.int .i64 x.til) := by rw [← hw0]; simp [go_sem]
  clear hw0
  refine (HQ1.out w0 (HR.out.later hb0)).mono ?_; rintro e w1 ⟨rfl, hb1⟩
  have k1 := hb0.trans (hb1.mono hb0.size)
  replace y0 := carry hb1 y0
  replace y1 := carry hb1 y1
  replace y2 := carry hb1 y2
  replace y3 := carry hb1 y3
  go_wp2_with fail
  refine (HQ2.out w1).mono ?_; rintro e w2 ⟨rfl, hb2⟩
  have k2 := k1.trans (hb2.mono k1.size)
  replace y0 := carry hb2 y0
  replace y1 := carry hb2 y1
  replace y2 := carry hb2 y2
  replace y3 := carry hb2 y3
  obtain ⟨n1, hk, hn1, hle⟩ := H4.out
  obtain ⟨b, off, ea, hbl, q0, -⟩ := (HR.out.later k2).row.bk hk
  subst ea
  have g4 : decide (x.id ≤ l[n1].id) = true := decide_eq_true hle
  generalize l[n1].id = li at q0 g4 hle
  have hwr : IntKind.i64.wrap ((l.length : Int) - 1) = (n1 : Int) := by rw [show (l.length : Int) - 1 = n1 by omega]; exact IntWalk.i64_in _ (by omega)
  have hj0 : (0 : Int) ≤ n1 := by omega
  have hj1 : (n1 : Int) < l.length := by omega
  have hjt : ((n1 : Int)).toNat = n1 := by omega
  have g5 : decide (0 < (l.length : Int)) = true := decide_eq_true (by omega)
  have g6 : decide (0 < l.length) = true := decide_eq_true (by omega)
  clear hn1 hk
  go_wp2_with fail
  go_quiet (fail)
  go_wp2
  go_ret2
  exact ⟨rfl, below_drewN k2 _⟩
set_option maxHeartbeats 4000000 in
theorem bAdd_ok0 (a : Option Addr) (cap : Nat) (l : List Bk) (hl : l.length ≤ 100000) (n : Int) (x : Bk) (w : World) (HA : BkAt w a cap l) (h : RightBk n l) (h2 : BkOk n x) (h3 : ¬ l.length = 16) (h4 : l.length = 0) (h5 : ¬ Meets l x.node x.frm x.til) :
    Calls Try.prog 6 #[.slice a l.length cap, .int .i64 n, .agg #[.int .i64 x.id, .int .i64 x.node, .int .i64 x.frm, .int .i64 x.til]] w fun e w' => ∃ v, e = .returned (.tuple #[v, .int .i64 0]) ∧ w'.ownsRow w.heap.size 24 4 v (l.length + 1) (bksV (l ++ [x])) ∧ Below w.heap.size w w' := by
  have HR := Lib.hid HA
  have HQ1 := Lib.hid (fun w' h => bRight a cap l hl n w' h)
  have HQ2 := Lib.hid (fun w' => bAlone x n w')
  rw [show rightBk l n = true from decide_eq_true h] at HQ1
  rw [show okB n x = true from decide_eq_true h2] at HQ2
  have g3 : ((l.length : Int) == 16) = false := by simp; omega
  have e16 : ¬ (l.length : Int) = 16 := by omega
  have HM := Lib.hid (fun w' h => bMeets a cap l hl x.node x.frm x.til w' h)
  rw [show meetsB l x.node x.frm x.til = false from decide_eq_false h5] at HM
  obtain ⟨i0, hi, hzz, hzs, hzb⟩ := info_parts infoBk
  have hmk := fun W => run_make (P := Try.prog) W 22 24 i0 _ Try.underlying22 hi hzz .i64 .i64 ((l.length : Int) + 1) ((l.length : Int) + 1) (by omega) (by omega) (by rw [hzb]; omega) (by omega)
  simp only [show ((l.length : Int) + 1).toNat = l.length + 1 by omega, hzs] at hmk
  obtain ⟨zs, hze, hzl⟩ : ∃ zs : List Value, madeCells (Value.agg #[.int .i64 0, .int .i64 0, .int .i64 0, .int .i64 0]).cells ((l.length + 1) * 4) = zs.toArray ∧ zs.length = (l.length + 1) * 4 := ⟨(madeCells (Value.agg #[.int .i64 0, .int .i64 0, .int .i64 0, .int .i64 0]).cells ((l.length + 1) * 4)).toList, by rw [Array.toArray_toList], by rw [Array.length_toList, size_madeCells]⟩
  rw [hze] at hmk
  have HZ := Lib.hid hzl
  have hwl : IntKind.i64.wrap ((l.length : Int) + 1) = (l.length : Int) + 1 := IntWalk.i64_in _ (by omega)
  have hlt : (l.length : Int) < (l.length : Int) + 1 := by omega
  clear hze hzl
  clear HA h h2 h3 h5
  have g5 : decide (0 < (l.length : Int)) = false := decide_eq_false (by omega)
  have g6 : decide (0 < l.length) = false := decide_eq_false (by omega)
  clear h4
  go_enter Try.func6, Try.ntmps6
  go_wp2_with fail
  generalize hw0 : World.alloc w _ = w0
  have hb0 : Below w.heap.size w w0 := by rw [← hw0]; exact (by repeat' (first | exact Below.refl _ _ | assumption | exact And.left (by assumption) | refine Below.drew ?_ | refine below_drewN ?_ _ | refine Below.setCell ?_ (by first | (simp; done) | (simp; omega) | omega) _ | refine Below.alloc ?_ (by first | (simp; done) | (simp; omega) | omega) _ | refine after (by assumption) (by first | (simp; done) | (simp; omega) | omega) ?_))
  have y0 : w0.cell? ⟨w.heap.size, 0, none⟩ = some (.int .i64 x.id) := by rw [← hw0]; simp [go_sem]
  have y1 : w0.cell? ⟨w.heap.size, 1, none⟩ = some (.int .i64 x.node) := by rw [← hw0]; simp [go_sem]
  have y2 : w0.cell? ⟨w.heap.size, 2, none⟩ = some (.int .i64 x.frm) := by rw [← hw0]; simp [go_sem]
  have y3 : w0.cell? ⟨w.heap.size, 3, none⟩ = some (.int .i64 x.til) := by rw [← hw0]; simp [go_sem]
  clear hw0
  refine (HQ1.out w0 (HR.out.later hb0)).mono ?_; rintro e w1 ⟨rfl, hb1⟩
  have k1 := hb0.trans (hb1.mono hb0.size)
  replace y0 := carry hb1 y0
  replace y1 := carry hb1 y1
  replace y2 := carry hb1 y2
  replace y3 := carry hb1 y3
  go_wp2_with fail
  refine (HQ2.out w1).mono ?_; rintro e w2 ⟨rfl, hb2⟩
  have k2 := k1.trans (hb2.mono k1.size)
  replace y0 := carry hb2 y0
  replace y1 := carry hb2 y1
  replace y2 := carry hb2 y2
  replace y3 := carry hb2 y3
  go_wp2_with fail
  go_quiet (fail)
  generalize hw3 : w2.drewN _ = w3
  have k3 : Below w.heap.size w w3 := by rw [← hw3]; exact below_drewN k2 _
  have hb3 : Below w2.heap.size w2 w3 := by rw [← hw3]; exact below_drewN (Below.refl _ _) _
  clear hw3
  replace y0 := carry hb3 y0
  replace y1 := carry hb3 y1
  replace y2 := carry hb3 y2
  replace y3 := carry hb3 y3
  go_wp2_with fail
  refine (HM.out _ (HR.out.later k3)).mono ?_; rintro e w4 ⟨rfl, hb4⟩
  have k4 := k3.trans (hb4.mono k3.size)
  replace y0 := carry hb4 y0
  replace y1 := carry hb4 y1
  replace y2 := carry hb4 y2
  replace y3 := carry hb4 y3
  go_wp2_with ((with_reducible show wpList _ _ _ _ _ _); refine wpList_copy_wide rfl (.tmp 53) (.tmp 54) 22 22 rfl 24 Try.underlying22 4 (by kernel_rfl) (some ⟨w4.heap.size, 0, none⟩) _ (l.length + 1) (l.length + 1) l.length cap rfl rfl w4.heap.size 0 l.length zs 24 (heap_alloc_new _ _) (bksV l) (Nat.min_eq_left (Nat.le_succ _)) (bksV_len l) (fun hp => ⟨rfl, row_src ((HR.out.row.later k4).alloc _) (by rw [bksV_len]; omega)⟩) (by rw [bksV_len, HZ.out]; omega) (bksV_cells _) w4.heap.size w4 ((Below.refl _ _).alloc (Nat.le_refl _) _) (Nat.le_refl _) ?_)
  intro w5 HW5 hb5
  have k5 := k4.trans (hb5.mono k4.size)
  replace y0 := carry hb5 y0
  replace y1 := carry hb5 y1
  replace y2 := carry hb5 y2
  replace y3 := carry hb5 y3
  go_wp2_with ((with_reducible show wpList _ _ _ _ _ _); refine wpList_store_splice rfl 24 (.tmp 60) (.tmp 59) rfl w4.heap.size (l.length * 4) (bkV x) rfl rfl (by kernel_rfl) _ 24 HW5.out (by rw [length_splice _ _ _ (by rw [bksV_len, HZ.out]; omega), HZ.out]; show _ + 4 ≤ _; omega) (by rw [← bksV_one]; exact bksV_cells _) w.heap.size w k5 k4.size ?_)
  intro w6 HW6 k6
  have HO : Hid (w6.ownsRow w.heap.size 24 4 (.slice (some ⟨w4.heap.size, 0, none⟩) (l.length + 1) (l.length + 1)) (l.length + 1) (bksV (l ++ [x]))) := Lib.hid (own_whole (by
    have h := HW6.out
    rw [splice_two (bksV_len l) (by rw [HZ.out, bksV_len]; show _ = _ + 4; omega), ← bksV_one, ← bksV_app] at h
    exact h) k4.size (by unfold maxLen; omega) (by rw [bksV_len]; simp))
  go_wp2
  go_ret2
  exact ⟨_, rfl, HO.out, k6⟩
set_option maxHeartbeats 4000000 in
theorem bAdd_booked (a : Option Addr) (cap : Nat) (l : List Bk) (hl : l.length ≤ 100000) (n : Int) (x : Bk) (w : World) (HA : BkAt w a cap l) (h : RightBk n l) (h2 : BkOk n x) (h3 : ¬ l.length = 16) (h4 : ∃ k, ∃ hk : k < l.length, l.length = k + 1 ∧ ¬ x.id ≤ l[k].id) (h5 : Meets l x.node x.frm x.til) :
    Calls Try.prog 6 #[.slice a l.length cap, .int .i64 n, .agg #[.int .i64 x.id, .int .i64 x.node, .int .i64 x.frm, .int .i64 x.til]] w fun e w' => e = .returned (.tuple #[.slice none 0 0, .int .i64 39]) ∧ Below w.heap.size w w' := by
  have HR := Lib.hid HA
  have HQ1 := Lib.hid (fun w' h => bRight a cap l hl n w' h)
  have HQ2 := Lib.hid (fun w' => bAlone x n w')
  rw [show rightBk l n = true from decide_eq_true h] at HQ1
  rw [show okB n x = true from decide_eq_true h2] at HQ2
  have g3 : ((l.length : Int) == 16) = false := by simp; omega
  have e16 : ¬ (l.length : Int) = 16 := by omega
  have HM := Lib.hid (fun w' h => bMeets a cap l hl x.node x.frm x.til w' h)
  rw [show meetsB l x.node x.frm x.til = true from decide_eq_true h5] at HM
  clear HA h h2 h3 h5
  have H4 := Lib.hid h4
  clear h4
  go_enter Try.func6, Try.ntmps6
  go_wp2_with fail
  generalize hw0 : World.alloc w _ = w0
  have hb0 : Below w.heap.size w w0 := by rw [← hw0]; exact (by repeat' (first | exact Below.refl _ _ | assumption | exact And.left (by assumption) | refine Below.drew ?_ | refine below_drewN ?_ _ | refine Below.setCell ?_ (by first | (simp; done) | (simp; omega) | omega) _ | refine Below.alloc ?_ (by first | (simp; done) | (simp; omega) | omega) _ | refine after (by assumption) (by first | (simp; done) | (simp; omega) | omega) ?_))
  have y0 : w0.cell? ⟨w.heap.size, 0, none⟩ = some (.int .i64 x.id) := by rw [← hw0]; simp [go_sem]
  have y1 : w0.cell? ⟨w.heap.size, 1, none⟩ = some (.int .i64 x.node) := by rw [← hw0]; simp [go_sem]
  have y2 : w0.cell? ⟨w.heap.size, 2, none⟩ = some (.int .i64 x.frm) := by rw [← hw0]; simp [go_sem]
  have y3 : w0.cell? ⟨w.heap.size, 3, none⟩ = some (.int .i64 x.til) := by rw [← hw0]; simp [go_sem]
  clear hw0
  refine (HQ1.out w0 (HR.out.later hb0)).mono ?_; rintro e w1 ⟨rfl, hb1⟩
  have k1 := hb0.trans (hb1.mono hb0.size)
  replace y0 := carry hb1 y0
  replace y1 := carry hb1 y1
  replace y2 := carry hb1 y2
  replace y3 := carry hb1 y3
  go_wp2_with fail
  refine (HQ2.out w1).mono ?_; rintro e w2 ⟨rfl, hb2⟩
  have k2 := k1.trans (hb2.mono k1.size)
  replace y0 := carry hb2 y0
  replace y1 := carry hb2 y1
  replace y2 := carry hb2 y2
  replace y3 := carry hb2 y3
  obtain ⟨n1, hk, hn1, hle⟩ := H4.out
  obtain ⟨b, off, ea, hbl, q0, -⟩ := (HR.out.later k2).row.bk hk
  subst ea
  have g4 : decide (x.id ≤ l[n1].id) = false := decide_eq_false (by omega)
  generalize l[n1].id = li at q0 g4 hle
  have hwr : IntKind.i64.wrap ((l.length : Int) - 1) = (n1 : Int) := by rw [show (l.length : Int) - 1 = n1 by omega]; exact IntWalk.i64_in _ (by omega)
  have hj0 : (0 : Int) ≤ n1 := by omega
  have hj1 : (n1 : Int) < l.length := by omega
  have hjt : ((n1 : Int)).toNat = n1 := by omega
  have g5 : decide (0 < (l.length : Int)) = true := decide_eq_true (by omega)
  have g6 : decide (0 < l.length) = true := decide_eq_true (by omega)
  clear hn1 hk
  go_wp2_with fail
  go_quiet (fail)
  generalize hw3 : w2.drewN _ = w3
  have k3 : Below w.heap.size w w3 := by rw [← hw3]; exact below_drewN k2 _
  have hb3 : Below w2.heap.size w2 w3 := by rw [← hw3]; exact below_drewN (Below.refl _ _) _
  clear hw3
  replace y0 := carry hb3 y0
  replace y1 := carry hb3 y1
  replace y2 := carry hb3 y2
  replace y3 := carry hb3 y3
  go_wp2_with fail
  refine (HM.out _ (HR.out.later k3)).mono ?_; rintro e w4 ⟨rfl, hb4⟩
  have k4 := k3.trans (hb4.mono k3.size)
  replace y0 := carry hb4 y0
  replace y1 := carry hb4 y1
  replace y2 := carry hb4 y2
  replace y3 := carry hb4 y3
  go_wp2
  go_ret2
  exact ⟨rfl, k4⟩
set_option maxHeartbeats 4000000 in
theorem bAdd_ok1 (a : Option Addr) (cap : Nat) (l : List Bk) (hl : l.length ≤ 100000) (n : Int) (x : Bk) (w : World) (HA : BkAt w a cap l) (h : RightBk n l) (h2 : BkOk n x) (h3 : ¬ l.length = 16) (h4 : ∃ k, ∃ hk : k < l.length, l.length = k + 1 ∧ ¬ x.id ≤ l[k].id) (h5 : ¬ Meets l x.node x.frm x.til) :
    Calls Try.prog 6 #[.slice a l.length cap, .int .i64 n, .agg #[.int .i64 x.id, .int .i64 x.node, .int .i64 x.frm, .int .i64 x.til]] w fun e w' => ∃ v, e = .returned (.tuple #[v, .int .i64 0]) ∧ w'.ownsRow w.heap.size 24 4 v (l.length + 1) (bksV (l ++ [x])) ∧ Below w.heap.size w w' := by
  have HR := Lib.hid HA
  have HQ1 := Lib.hid (fun w' h => bRight a cap l hl n w' h)
  have HQ2 := Lib.hid (fun w' => bAlone x n w')
  rw [show rightBk l n = true from decide_eq_true h] at HQ1
  rw [show okB n x = true from decide_eq_true h2] at HQ2
  have g3 : ((l.length : Int) == 16) = false := by simp; omega
  have e16 : ¬ (l.length : Int) = 16 := by omega
  have HM := Lib.hid (fun w' h => bMeets a cap l hl x.node x.frm x.til w' h)
  rw [show meetsB l x.node x.frm x.til = false from decide_eq_false h5] at HM
  obtain ⟨i0, hi, hzz, hzs, hzb⟩ := info_parts infoBk
  have hmk := fun W => run_make (P := Try.prog) W 22 24 i0 _ Try.underlying22 hi hzz .i64 .i64 ((l.length : Int) + 1) ((l.length : Int) + 1) (by omega) (by omega) (by rw [hzb]; omega) (by omega)
  simp only [show ((l.length : Int) + 1).toNat = l.length + 1 by omega, hzs] at hmk
  obtain ⟨zs, hze, hzl⟩ : ∃ zs : List Value, madeCells (Value.agg #[.int .i64 0, .int .i64 0, .int .i64 0, .int .i64 0]).cells ((l.length + 1) * 4) = zs.toArray ∧ zs.length = (l.length + 1) * 4 := ⟨(madeCells (Value.agg #[.int .i64 0, .int .i64 0, .int .i64 0, .int .i64 0]).cells ((l.length + 1) * 4)).toList, by rw [Array.toArray_toList], by rw [Array.length_toList, size_madeCells]⟩
  rw [hze] at hmk
  have HZ := Lib.hid hzl
  have hwl : IntKind.i64.wrap ((l.length : Int) + 1) = (l.length : Int) + 1 := IntWalk.i64_in _ (by omega)
  have hlt : (l.length : Int) < (l.length : Int) + 1 := by omega
  clear hze hzl
  clear HA h h2 h3 h5
  have H4 := Lib.hid h4
  clear h4
  go_enter Try.func6, Try.ntmps6
  go_wp2_with fail
  generalize hw0 : World.alloc w _ = w0
  have hb0 : Below w.heap.size w w0 := by rw [← hw0]; exact (by repeat' (first | exact Below.refl _ _ | assumption | exact And.left (by assumption) | refine Below.drew ?_ | refine below_drewN ?_ _ | refine Below.setCell ?_ (by first | (simp; done) | (simp; omega) | omega) _ | refine Below.alloc ?_ (by first | (simp; done) | (simp; omega) | omega) _ | refine after (by assumption) (by first | (simp; done) | (simp; omega) | omega) ?_))
  have y0 : w0.cell? ⟨w.heap.size, 0, none⟩ = some (.int .i64 x.id) := by rw [← hw0]; simp [go_sem]
  have y1 : w0.cell? ⟨w.heap.size, 1, none⟩ = some (.int .i64 x.node) := by rw [← hw0]; simp [go_sem]
  have y2 : w0.cell? ⟨w.heap.size, 2, none⟩ = some (.int .i64 x.frm) := by rw [← hw0]; simp [go_sem]
  have y3 : w0.cell? ⟨w.heap.size, 3, none⟩ = some (.int .i64 x.til) := by rw [← hw0]; simp [go_sem]
  clear hw0
  refine (HQ1.out w0 (HR.out.later hb0)).mono ?_; rintro e w1 ⟨rfl, hb1⟩
  have k1 := hb0.trans (hb1.mono hb0.size)
  replace y0 := carry hb1 y0
  replace y1 := carry hb1 y1
  replace y2 := carry hb1 y2
  replace y3 := carry hb1 y3
  go_wp2_with fail
  refine (HQ2.out w1).mono ?_; rintro e w2 ⟨rfl, hb2⟩
  have k2 := k1.trans (hb2.mono k1.size)
  replace y0 := carry hb2 y0
  replace y1 := carry hb2 y1
  replace y2 := carry hb2 y2
  replace y3 := carry hb2 y3
  obtain ⟨n1, hk, hn1, hle⟩ := H4.out
  obtain ⟨b, off, ea, hbl, q0, -⟩ := (HR.out.later k2).row.bk hk
  subst ea
  have g4 : decide (x.id ≤ l[n1].id) = false := decide_eq_false (by omega)
  generalize l[n1].id = li at q0 g4 hle
  have hwr : IntKind.i64.wrap ((l.length : Int) - 1) = (n1 : Int) := by rw [show (l.length : Int) - 1 = n1 by omega]; exact IntWalk.i64_in _ (by omega)
  have hj0 : (0 : Int) ≤ n1 := by omega
  have hj1 : (n1 : Int) < l.length := by omega
  have hjt : ((n1 : Int)).toNat = n1 := by omega
  have g5 : decide (0 < (l.length : Int)) = true := decide_eq_true (by omega)
  have g6 : decide (0 < l.length) = true := decide_eq_true (by omega)
  clear hn1 hk
  go_wp2_with fail
  go_quiet (fail)
  generalize hw3 : w2.drewN _ = w3
  have k3 : Below w.heap.size w w3 := by rw [← hw3]; exact below_drewN k2 _
  have hb3 : Below w2.heap.size w2 w3 := by rw [← hw3]; exact below_drewN (Below.refl _ _) _
  clear hw3
  replace y0 := carry hb3 y0
  replace y1 := carry hb3 y1
  replace y2 := carry hb3 y2
  replace y3 := carry hb3 y3
  go_wp2_with fail
  refine (HM.out _ (HR.out.later k3)).mono ?_; rintro e w4 ⟨rfl, hb4⟩
  have k4 := k3.trans (hb4.mono k3.size)
  replace y0 := carry hb4 y0
  replace y1 := carry hb4 y1
  replace y2 := carry hb4 y2
  replace y3 := carry hb4 y3
  go_wp2_with ((with_reducible show wpList _ _ _ _ _ _); refine wpList_copy_wide rfl (.tmp 53) (.tmp 54) 22 22 rfl 24 Try.underlying22 4 (by kernel_rfl) (some ⟨w4.heap.size, 0, none⟩) _ (l.length + 1) (l.length + 1) l.length cap rfl rfl w4.heap.size 0 l.length zs 24 (heap_alloc_new _ _) (bksV l) (Nat.min_eq_left (Nat.le_succ _)) (bksV_len l) (fun hp => ⟨rfl, row_src ((HR.out.row.later k4).alloc _) (by rw [bksV_len]; omega)⟩) (by rw [bksV_len, HZ.out]; omega) (bksV_cells _) w4.heap.size w4 ((Below.refl _ _).alloc (Nat.le_refl _) _) (Nat.le_refl _) ?_)
  intro w5 HW5 hb5
  have k5 := k4.trans (hb5.mono k4.size)
  replace y0 := carry hb5 y0
  replace y1 := carry hb5 y1
  replace y2 := carry hb5 y2
  replace y3 := carry hb5 y3
  go_wp2_with ((with_reducible show wpList _ _ _ _ _ _); refine wpList_store_splice rfl 24 (.tmp 60) (.tmp 59) rfl w4.heap.size (l.length * 4) (bkV x) rfl rfl (by kernel_rfl) _ 24 HW5.out (by rw [length_splice _ _ _ (by rw [bksV_len, HZ.out]; omega), HZ.out]; show _ + 4 ≤ _; omega) (by rw [← bksV_one]; exact bksV_cells _) w.heap.size w k5 k4.size ?_)
  intro w6 HW6 k6
  have HO : Hid (w6.ownsRow w.heap.size 24 4 (.slice (some ⟨w4.heap.size, 0, none⟩) (l.length + 1) (l.length + 1)) (l.length + 1) (bksV (l ++ [x]))) := Lib.hid (own_whole (by
    have h := HW6.out
    rw [splice_two (bksV_len l) (by rw [HZ.out, bksV_len]; show _ = _ + 4; omega), ← bksV_one, ← bksV_app] at h
    exact h) k4.size (by unfold maxLen; omega) (by rw [bksV_len]; simp))
  go_wp2
  go_ret2
  exact ⟨_, rfl, HO.out, k6⟩

/-- what is wrong, or one more -/
theorem bAdd (a : Option Addr) (cap : Nat) (l : List Bk) (hl : l.length ≤ 100000) (n : Int) (x : Bk) (w : World) (HA : BkAt w a cap l) :
    Calls Try.prog 6 #[.slice a l.length cap, .int .i64 n, .agg #[.int .i64 x.id, .int .i64 x.node, .int .i64 x.frm, .int .i64 x.til]] w fun e w' =>
      ∃ v, e = .returned (.tuple #[v, .int .i64 (addEk l n x)]) ∧ Below w.heap.size w w' ∧ ((addEk l n x ≠ 0 ∧ v = .slice none 0 0) ∨ (addEk l n x = 0 ∧ w'.ownsRow w.heap.size 24 4 v (l.length + 1) (bksV (l ++ [x])))) := by
  by_cases h : RightBk n l
  · by_cases h2 : BkOk n x
    · by_cases h3 : l.length = 16
      · refine (bAdd_limit a cap l hl n x w HA h h2 h3).mono ?_
        rintro e w' ⟨rfl, hb⟩
        exact ⟨_, by rw [ek_limit ⟨h, h2⟩ h3], hb, .inl ⟨by rw [ek_limit ⟨h, h2⟩ h3]; decide, rfl⟩⟩
      · by_cases h0 : l.length = 0
        · have hn : l = [] := List.eq_nil_of_length_eq_zero h0
          have h4 : ¬ ∃ c ∈ l, x.id ≤ c.id := by rintro ⟨c, hc, _⟩; rw [hn] at hc; cases hc
          have h5 : ¬ Meets l x.node x.frm x.til := by rintro ⟨c, hc, _⟩; rw [hn] at hc; cases hc
          refine (bAdd_ok0 a cap l hl n x w HA h h2 h3 h0 h5).mono ?_
          rintro e w' ⟨v, rfl, ho, hb⟩
          exact ⟨v, by rw [ek_ok ⟨h, h2⟩ h3 h4 h5], hb, .inr ⟨ek_ok ⟨h, h2⟩ h3 h4 h5, ho⟩⟩
        · have hk : l.length - 1 < l.length := by omega
          have he : l.length = l.length - 1 + 1 := by omega
          by_cases hle : x.id ≤ l[l.length - 1].id
          · have h4 : ∃ c ∈ l, x.id ≤ c.id := ⟨_, List.getElem_mem hk, hle⟩
            refine (bAdd_state a cap l hl n x w HA h h2 h3 ⟨_, hk, he, hle⟩).mono ?_
            rintro e w' ⟨rfl, hb⟩
            exact ⟨_, by rw [ek_state ⟨h, h2⟩ h3 h4], hb, .inl ⟨by rw [ek_state ⟨h, h2⟩ h3 h4]; decide, rfl⟩⟩
          · have h4 : ¬ ∃ c ∈ l, x.id ≤ c.id := by
              rintro ⟨c, hc, hx⟩
              have := last_top h hk he c hc
              omega
            by_cases h5 : Meets l x.node x.frm x.til
            · refine (bAdd_booked a cap l hl n x w HA h h2 h3 ⟨_, hk, he, hle⟩ h5).mono ?_
              rintro e w' ⟨rfl, hb⟩
              exact ⟨_, by rw [ek_booked ⟨h, h2⟩ h3 h4 h5], hb, .inl ⟨by rw [ek_booked ⟨h, h2⟩ h3 h4 h5]; decide, rfl⟩⟩
            · refine (bAdd_ok1 a cap l hl n x w HA h h2 h3 ⟨_, hk, he, hle⟩ h5).mono ?_
              rintro e w' ⟨v, rfl, ho, hb⟩
              exact ⟨v, by rw [ek_ok ⟨h, h2⟩ h3 h4 h5], hb, .inr ⟨ek_ok ⟨h, h2⟩ h3 h4 h5, ho⟩⟩
    · refine (bAdd_alone a cap l hl n x w HA h h2).mono ?_
      rintro e w' ⟨rfl, hb⟩
      exact ⟨_, by rw [ek_arg (fun y => h2 y.2)], hb, .inl ⟨by rw [ek_arg (fun y => h2 y.2)]; decide, rfl⟩⟩
  · refine (bAdd_wrong a cap l hl n x w HA h).mono ?_
    rintro e w' ⟨rfl, hb⟩
    exact ⟨_, by rw [ek_arg (fun y => h y.1)], hb, .inl ⟨by rw [ek_arg (fun y => h y.1)]; decide, rfl⟩⟩
end Go.Proofs.Ytkkjbmedpdjgdaa.W
