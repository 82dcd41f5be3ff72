/-
  The small set-up, and the law's own examples.
-/
import Derived.Test.YtgopjpnlpcmldaaGreatDoorSpecRoom
import Derived.Test.YtgopjpnlpcmldaaGreatDoorSpecRFlaw
namespace Go.Proofs.YtgopjpnlpcmldaaGreatDoor.W
set_option linter.unusedVariables false
set_option linter.unusedSimpArgs false
open Go.ChangeShapes Go.WideShapes Go.ChangeAt Go.RowKit

/-- the small set-up, its lists in blocks from one on -/
def smallS (b : Nat) : S :=
  { na := some ⟨b + 1, 0, none⟩, nc := 2, nodes := [⟨4, 8, 0, 1⟩, ⟨8, 8, 1, 0⟩],
    pa := some ⟨b + 4, 0, none⟩, pc := 2, parts := [⟨some ⟨b + 2, 0, none⟩, 2, [0, 1]⟩, ⟨some ⟨b + 3, 0, none⟩, 1, [1]⟩],
    qa := some ⟨b + 6, 0, none⟩, qc := 2, queues := [⟨0, ⟨none, 0, []⟩, 8, 4, 3, 1⟩, ⟨1, ⟨some ⟨b + 5, 0, none⟩, 2, [0, 1]⟩, 4, 2, 2, 5⟩],
    users := 3, age := 1, size := 2, qos := 10, share := 3, decay := 4, mode := 1, jobs := 12, ids := 100, versions := 50, linger := 5, keep := 4, inn := 3, out := 6, cache := 4 }
def zeroS : S := ⟨none, 0, [], none, 0, [], none, 0, [], 0, 0, 0, 0, 0, 0, 0, 0, 0, 0, 0, 0, 0, 0, 0⟩
theorem small_right (b : Nat) : rightS (smallS b) = true := by kernel_rfl
theorem small_fits (b : Nat) : fitsS (smallS b) 1 2 ⟨4, 0, 0, 0⟩ = true := by kernel_rfl
theorem small_fits_no (b : Nat) : fitsS (smallS b) 1 3 ⟨4, 0, 0, 0⟩ = false := by kernel_rfl
theorem zero_flaw : flawW zeroS = wordB 0 := by kernel_rfl
theorem small_small (b : Nat) : SmallS (smallS b) := ⟨fun p hp => by simp [smallS] at hp; rcases hp with rfl | rfl <;> simp, fun p hp => by simp [smallS] at hp; rcases hp with rfl | rfl <;> simp⟩
theorem zero_small : SmallS zeroS := ⟨fun p hp => (by cases hp), fun p hp => (by cases hp)⟩
theorem zero_rows (w : World) : Rows w zeroS := ⟨.inl rfl, .inl rfl, fun p hp => (by cases hp), .inl rfl, fun p hp => (by cases hp)⟩

theorem rowAt_new {w : World} {b : Nat} {cs : Array Value} {t : TypeId} (h : w.heap[b]? = some (.cells cs t (0, 0))) {xs : List Value} (hx : xs = cs.toList) : RowAt w (some ⟨b, 0, none⟩) xs := by
  subst hx
  refine .inr ⟨b, 0, rfl, ?_, fun i u hu => ?_⟩
  · rcases Nat.lt_or_ge b w.heap.size with h' | h'
    · exact h'
    · rw [Array.getElem?_eq_none h'] at h; cases h
  · rw [Nat.zero_add, cell_of_row w b i cs t _ h, ← hu]; simp

theorem heap_up {w : World} {o x : Obj} {i : Nat} (h : w.heap[i]? = some x) : (w.alloc o).heap[i]? = some x := by
  have hl : i < w.heap.size := by
    rcases Nat.lt_or_ge i w.heap.size with h' | h'
    · exact h'
    · rw [Array.getElem?_eq_none h'] at h; cases h
  show (w.heap.push o)[i]? = some x
  rw [Array.getElem?_push, if_neg (Nat.ne_of_lt hl)]
  exact h
theorem heap_top {w : World} {o : Obj} {i : Nat} (h : i = w.heap.size) : (w.alloc o).heap[i]? = some o := by
  subst h
  show (w.heap.push o)[w.heap.size]? = some o
  simp
theorem heap_setRow {W : World} {g i : Nat} {cs : Array Value} {x : Obj} (h : i ≠ g) (hx : W.heap[i]? = some x) : (W.setRow g cs).heap[i]? = some x := (setRow_other W g i cs h).trans hx
theorem below_setRow {B : Nat} {w W : World} (h : Below B w W) {g : Nat} (hg : B ≤ g) (cs : Array Value) : Below B w (W.setRow g cs) :=
  ⟨h.os, h.tape, h.output, by simpa using h.size, fun k hk => (setRow_other W g k cs (by omega)).trans (h.block k hk)⟩
set_option maxHeartbeats 2000000 in
theorem small (w : World) : Calls Tryz.prog 11 #[] w fun e w' => e = .returned (.agg #[.slice (smallS w.heap.size).na (smallS w.heap.size).nodes.length (smallS w.heap.size).nc, .slice (smallS w.heap.size).pa (smallS w.heap.size).parts.length (smallS w.heap.size).pc, .slice (smallS w.heap.size).qa (smallS w.heap.size).queues.length (smallS w.heap.size).qc, .int .i64 (smallS w.heap.size).users, .int .i64 (smallS w.heap.size).age, .int .i64 (smallS w.heap.size).size, .int .i64 (smallS w.heap.size).qos, .int .i64 (smallS w.heap.size).share, .int .i64 (smallS w.heap.size).decay, .int .i64 (smallS w.heap.size).mode, .int .i64 (smallS w.heap.size).jobs, .int .i64 (smallS w.heap.size).ids, .int .i64 (smallS w.heap.size).versions, .int .i64 (smallS w.heap.size).linger, .int .i64 (smallS w.heap.size).keep, .int .i64 (smallS w.heap.size).inn, .int .i64 (smallS w.heap.size).out, .int .i64 (smallS w.heap.size).cache]) ∧ Below w.heap.size w w' ∧ Rows w' (smallS w.heap.size) := by
  go_enter Tryz.func11, Tryz.ntmps11
  go_wp2_with ((refine wpList_store_row rfl 28 (.tmp 0) (.tmp 12) rfl w.heap.size _ rfl rfl 28 #[.slice none 0 0, .slice none 0 0, .slice none 0 0, .int .i64 0, .int .i64 0, .int .i64 0, .int .i64 0, .int .i64 0, .int .i64 0, .int .i64 0, .int .i64 0, .int .i64 0, .int .i64 0, .int .i64 0, .int .i64 0, .int .i64 0, .int .i64 0, .int .i64 0] (by repeat (first | (refine heap_top (by first | omega | (simp only [World.size_alloc]; done) | (simp only [World.size_alloc]; omega))) | refine heap_up ?_)) (by kernel_rfl) (by simp) (by simp [Value.oneCell']) ?_; generalize hw9 : World.setRow _ _ _ = w9))
  have hb9 : Below w.heap.size w w9 := by rw [← hw9]; exact below_setRow ((by repeat' (first | exact Below.refl _ _ | assumption | exact And.left (by assumption) | refine Below.drew ?_ | refine below_drewN ?_ _ | refine Below.setCell ?_ (by first | (simp; done) | (simp; omega) | omega) _ | refine Below.alloc ?_ (by first | (simp; done) | (simp; omega) | omega) _ | refine after (by assumption) (by first | (simp; done) | (simp; omega) | omega) ?_))) (Nat.le_refl _) _
  have hg9 : w9.heap[w.heap.size]? = some (.cells #[.slice (smallS w.heap.size).na (smallS w.heap.size).nodes.length (smallS w.heap.size).nc, .slice (smallS w.heap.size).pa (smallS w.heap.size).parts.length (smallS w.heap.size).pc, .slice (smallS w.heap.size).qa (smallS w.heap.size).queues.length (smallS w.heap.size).qc, .int .i64 (smallS w.heap.size).users, .int .i64 (smallS w.heap.size).age, .int .i64 (smallS w.heap.size).size, .int .i64 (smallS w.heap.size).qos, .int .i64 (smallS w.heap.size).share, .int .i64 (smallS w.heap.size).decay, .int .i64 (smallS w.heap.size).mode, .int .i64 (smallS w.heap.size).jobs, .int .i64 (smallS w.heap.size).ids, .int .i64 (smallS w.heap.size).versions, .int .i64 (smallS w.heap.size).linger, .int .i64 (smallS w.heap.size).keep, .int .i64 (smallS w.heap.size).inn, .int .i64 (smallS w.heap.size).out, .int .i64 (smallS w.heap.size).cache] 28 (0, 0)) := by rw [← hw9]; exact setRow_heap _ _ _ _ _ _ (by repeat (first | (refine heap_top (by first | omega | (simp only [World.size_alloc]; done) | (simp only [World.size_alloc]; omega))) | refine heap_up ?_))
  have hr9 : Rows w9 (smallS w.heap.size) := by
    rw [← hw9]
    refine ⟨rowAt_new (heap_setRow (by omega) (by repeat (first | (refine heap_top (by first | omega | (simp only [World.size_alloc]; done) | (simp only [World.size_alloc]; omega))) | refine heap_up ?_))) (by rfl), rowAt_new (heap_setRow (by omega) (by repeat (first | (refine heap_top (by first | omega | (simp only [World.size_alloc]; done) | (simp only [World.size_alloc]; omega))) | refine heap_up ?_))) (by rfl), fun p hp => ?_, rowAt_new (heap_setRow (by omega) (by repeat (first | (refine heap_top (by first | omega | (simp only [World.size_alloc]; done) | (simp only [World.size_alloc]; omega))) | refine heap_up ?_))) (by rfl), fun q hq => ?_⟩
    · simp only [smallS, List.mem_cons, List.not_mem_nil, or_false] at hp
      rcases hp with rfl | rfl
      · exact rowAt_new (heap_setRow (by omega) (by repeat (first | (refine heap_top (by first | omega | (simp only [World.size_alloc]; done) | (simp only [World.size_alloc]; omega))) | refine heap_up ?_))) (by rfl)
      · exact rowAt_new (heap_setRow (by omega) (by repeat (first | (refine heap_top (by first | omega | (simp only [World.size_alloc]; done) | (simp only [World.size_alloc]; omega))) | refine heap_up ?_))) (by rfl)
    · simp only [smallS, List.mem_cons, List.not_mem_nil, or_false] at hq
      rcases hq with rfl | rfl
      · exact .inl rfl
      · exact rowAt_new (heap_setRow (by omega) (by repeat (first | (refine heap_top (by first | omega | (simp only [World.size_alloc]; done) | (simp only [World.size_alloc]; omega))) | refine heap_up ?_))) (by rfl)
  clear hw9
  go_wp2
  refine bodyPost_ret (results_cell_row (by simp [results, Tryz.results11]; rfl) _ _ w.heap.size _ _ _ _ rfl hg9 Tryz.underlying28 rfl (by kernel_rfl)) rfl ⟨rfl, hb9, hr9⟩

/-- a set-up in a block that was stored whole -/
theorem box_row {W : World} {g : Nat} {s : S} {t : TypeId} (h : W.heap[g]? = some (.cells #[.slice s.na s.nodes.length s.nc, .slice s.pa s.parts.length s.pc, .slice s.qa s.queues.length s.qc, .int .i64 s.users, .int .i64 s.age, .int .i64 s.size, .int .i64 s.qos, .int .i64 s.share, .int .i64 s.decay, .int .i64 s.mode, .int .i64 s.jobs, .int .i64 s.ids, .int .i64 s.versions, .int .i64 s.linger, .int .i64 s.keep, .int .i64 s.inn, .int .i64 s.out, .int .i64 s.cache] t (0, 0))) : Box W g s :=
  ⟨(cell_of_row W g 0 _ t _ h).trans rfl, (cell_of_row W g 1 _ t _ h).trans rfl, (cell_of_row W g 2 _ t _ h).trans rfl, (cell_of_row W g 3 _ t _ h).trans rfl, (cell_of_row W g 4 _ t _ h).trans rfl, (cell_of_row W g 5 _ t _ h).trans rfl, (cell_of_row W g 6 _ t _ h).trans rfl, (cell_of_row W g 7 _ t _ h).trans rfl, (cell_of_row W g 8 _ t _ h).trans rfl, (cell_of_row W g 9 _ t _ h).trans rfl, (cell_of_row W g 10 _ t _ h).trans rfl, (cell_of_row W g 11 _ t _ h).trans rfl, (cell_of_row W g 12 _ t _ h).trans rfl, (cell_of_row W g 13 _ t _ h).trans rfl, (cell_of_row W g 14 _ t _ h).trans rfl, (cell_of_row W g 15 _ t _ h).trans rfl, (cell_of_row W g 16 _ t _ h).trans rfl, (cell_of_row W g 17 _ t _ h).trans rfl⟩
set_option maxHeartbeats 4000000 in
theorem awake7 (w : World) : Calls Tryz.prog 4 #[] w fun e w' => e = .returned (.bool true) ∧ Below w.heap.size w w' := by
  go_enter Tryz.func4, Tryz.ntmps4
  go_wp2_with fail
  refine (small _).mono ?_; rintro e w1 ⟨rfl, hb1, hr1⟩
  have k0 := small_right w.heap.size
  have k1 := small_fits w.heap.size
  have k2 := small_fits_no w.heap.size
  have k3 := small_small w.heap.size
  generalize smallS w.heap.size = s at hr1 k0 k1 k2 k3 ⊢
  have HA := Lib.hid (fun w' h => sright s k3 w' h)
  have HB := Lib.hid (fun w' h => fits7 s k3 1 2 ⟨4, 0, 0, 0⟩ w' h)
  have HC := Lib.hid (fun w' h => fits7 s k3 1 3 ⟨4, 0, 0, 0⟩ w' h)
  have HD : Hid (∀ w', Calls Tryz.prog 14 #[.agg #[.slice none 0 0, .slice none 0 0, .slice none 0 0, .int .i64 0, .int .i64 0, .int .i64 0, .int .i64 0, .int .i64 0, .int .i64 0, .int .i64 0, .int .i64 0, .int .i64 0, .int .i64 0, .int .i64 0, .int .i64 0, .int .i64 0, .int .i64 0, .int .i64 0]] w' fun e w'' => e = .returned (.string ⟨#[78, 111, 100, 101, 115]⟩) ∧ Below w'.heap.size w' w'') := Lib.hid (fun w' => (flaw zeroS zero_small w' (zero_rows w')).mono fun e w'' h => ⟨h.1.trans (by rw [zero_flaw]; rfl), h.2⟩)
  rw [k0] at HA
  rw [k1] at HB
  rw [k2] at HC
  have HR := Lib.hid hr1
  clear hr1 k0 k1 k2 k3
  go_wp2_with (first
    | (refine wpList_store_row rfl 28 (.tmp 1) (.tmp 3) rfl w1.heap.size _ rfl rfl 28 #[.slice none 0 0, .slice none 0 0, .slice none 0 0, .int .i64 0, .int .i64 0, .int .i64 0, .int .i64 0, .int .i64 0, .int .i64 0, .int .i64 0, .int .i64 0, .int .i64 0, .int .i64 0, .int .i64 0, .int .i64 0, .int .i64 0, .int .i64 0, .int .i64 0] (by repeat (first | (refine heap_top (by first | omega | (simp only [World.size_alloc]; done) | (simp only [World.size_alloc]; omega))) | refine heap_up ?_)) (by kernel_rfl) (by simp) (by simp [Value.oneCell']) ?_
       generalize hw9 : World.setRow _ _ _ = w9
       have hb9 : Below w1.heap.size w1 w9 := by rw [← hw9]; exact below_setRow ((by repeat' (first | exact Below.refl _ _ | assumption | exact And.left (by assumption) | refine Below.drew ?_ | refine below_drewN ?_ _ | refine Below.setCell ?_ (by first | (simp; done) | (simp; omega) | omega) _ | refine Below.alloc ?_ (by first | (simp; done) | (simp; omega) | omega) _ | refine after (by assumption) (by first | (simp; done) | (simp; omega) | omega) ?_))) (Nat.le_refl _) _
       have hg9 : w9.heap[w1.heap.size]? = some (.cells #[.slice s.na s.nodes.length s.nc, .slice s.pa s.parts.length s.pc, .slice s.qa s.queues.length s.qc, .int .i64 s.users, .int .i64 s.age, .int .i64 s.size, .int .i64 s.qos, .int .i64 s.share, .int .i64 s.decay, .int .i64 s.mode, .int .i64 s.jobs, .int .i64 s.ids, .int .i64 s.versions, .int .i64 s.linger, .int .i64 s.keep, .int .i64 s.inn, .int .i64 s.out, .int .i64 s.cache] 28 (0, 0)) := by rw [← hw9]; exact setRow_heap _ _ _ _ _ _ (by repeat (first | (refine heap_top (by first | omega | (simp only [World.size_alloc]; done) | (simp only [World.size_alloc]; omega))) | refine heap_up ?_))
       have HX := Lib.hid (box_row hg9)
       have hz9 : w1.heap.size < w9.heap.size := HX.out.lt
       have HR9 := Lib.hid (HR.out.later hb9)
       have hW : Below w.heap.size w w9 := hb1.trans (hb9.mono hb1.size)
       clear hw9 hg9)
    | refine wpList_load_box (s := s) rfl (.tmp 1) rfl rfl (HX.out.later ((by repeat' (first | exact Below.refl _ _ | assumption | exact And.left (by assumption) | refine Below.drew ?_ | refine below_drewN ?_ _ | refine Below.setCell ?_ (by first | (simp; done) | (simp; omega) | omega) _ | refine Below.alloc ?_ (by first | (simp; done) | (simp; omega) | omega) _ | refine after (by assumption) (by first | (simp; done) | (simp; omega) | omega) ?_)))) ?_)
  generalize hw5 : World.alloc w9 _ = w5
  have hb5 : Below w9.heap.size w9 w5 := by rw [← hw5]; exact (by repeat' (first | exact Below.refl _ _ | assumption | exact And.left (by assumption) | refine Below.drew ?_ | refine below_drewN ?_ _ | refine Below.setCell ?_ (by first | (simp; done) | (simp; omega) | omega) _ | refine Below.alloc ?_ (by first | (simp; done) | (simp; omega) | omega) _ | refine after (by assumption) (by first | (simp; done) | (simp; omega) | omega) ?_))
  have r0 : w5.cell? ⟨w9.heap.size, 0, none⟩ = some (.int .i64 4) := by rw [← hw5]; simp [go_sem]
  have r1 : w5.cell? ⟨w9.heap.size, 1, none⟩ = some (.int .i64 0) := by rw [← hw5]; simp [go_sem]
  have r2 : w5.cell? ⟨w9.heap.size, 2, none⟩ = some (.int .i64 0) := by rw [← hw5]; simp [go_sem]
  have r3 : w5.cell? ⟨w9.heap.size, 3, none⟩ = some (.int .i64 0) := by rw [← hw5]; simp [go_sem]
  clear hw5
  have HX5 := Lib.hid (HX.out.later hb5)
  have HR5 := Lib.hid (HR9.out.later hb5)
  refine (HA.out _ HR5.out).mono ?_; rintro e w6 ⟨rfl, hb6⟩
  have HX6 := Lib.hid (HX5.out.later hb6)
  have HR6 := Lib.hid (HR5.out.later hb6)
  replace r0 := carry hb6 r0
  replace r1 := carry hb6 r1
  replace r2 := carry hb6 r2
  replace r3 := carry hb6 r3
  go_wp2_with (refine wpList_load_box_g (s := s) (.tmp 1) rfl rfl HX6.out rfl ?_)
  refine (HB.out _ HR6.out).mono ?_; rintro e w7 ⟨rfl, hb7⟩
  have HX7 := Lib.hid (HX6.out.later hb7)
  have HR7 := Lib.hid (HR6.out.later hb7)
  replace r0 := carry hb7 r0
  replace r1 := carry hb7 r1
  replace r2 := carry hb7 r2
  replace r3 := carry hb7 r3
  go_wp2_with (refine wpList_load_box_g (s := s) (.tmp 1) rfl rfl HX7.out rfl ?_)
  refine (HC.out _ HR7.out).mono ?_; rintro e w8 ⟨rfl, hb8⟩
  go_wp2_with fail
  refine (HD.out _).mono ?_; rintro e w10 ⟨rfl, hb10⟩
  go_wp2
  go_ret
  have h6 := hW.trans (hb5.mono hW.size)
  have h7 := h6.trans (hb6.mono h6.size)
  have h8 := h7.trans (hb7.mono h7.size)
  have h9 := h8.trans (hb8.mono h8.size)
  exact ⟨by simp, h9.trans (hb10.mono h9.size)⟩
end Go.Proofs.YtgopjpnlpcmldaaGreatDoor.W
