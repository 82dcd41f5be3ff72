/-
  Contracts of slices.IndexFunc over bookings, of book.Drop.
-/
import Derived.Test.YtkkjbmedpdjgdaaBkMem
import Derived.Test.YtkkjbmedpdjgdaaCopyWide
import Derived.Test.YtkkjbmedpdjgdaaMonoT
namespace Go.Proofs.Ytkkjbmedpdjgdaa.W
set_option linter.unusedVariables false
set_option linter.unusedSimpArgs false
open Go.ChangeShapes Go.WideShapes Go.ChangeAt Go.RowKit

/-- where the first of that number stands; -1, if there is none -/
def idxK (id : Int) : List Bk → Nat → Int
  | [], _ => -1
  | b :: r, k => if b.id = id then k else idxK id r (k + 1)
theorem idx_no {id : Int} : ∀ {l : List Bk} {k : Nat}, ¬ HasK l id → idxK id l k = -1
  | [], _, _ => rfl
  | b :: r, k, h => by
    rw [idxK, if_neg (fun e => h ⟨b, by simp, e⟩)]
    exact idx_no fun ⟨c, hc, e⟩ => h ⟨c, List.mem_cons_of_mem _ hc, e⟩
theorem idx_at {id : Int} : ∀ {l : List Bk} {j : Nat}, HasK l id → ∃ k, ∃ hk : k < l.length, idxK id l j = ((j + k : Nat) : Int) ∧ (∀ i (hi : i < k), (l[i]'(by omega)).id ≠ id) ∧ l[k].id = id
  | [], _, ⟨_, h, _⟩ => by cases h
  | b :: r, j, h => by
    by_cases hb : b.id = id
    · exact ⟨0, by simp, by rw [idxK, if_pos hb]; rfl, fun i hi => absurd hi (by omega), hb⟩
    · have hr : HasK r id := by
        obtain ⟨c, hc, e⟩ := h
        rcases List.mem_cons.1 hc with rfl | hc
        · exact absurd e hb
        · exact ⟨c, hc, e⟩
      obtain ⟨k, hk, h1, h2, h3⟩ := idx_at (j := j + 1) hr
      refine ⟨k + 1, by simpa using hk, by rw [idxK, if_neg hb, h1]; congr 1; omega, fun i hi => ?_, by simpa using h3⟩
      match i, hi with
      | 0, _ => exact hb
      | i + 1, hi => simpa using h2 i (by omega)
theorem idx_next {id : Int} {l : List Bk} {k : Nat} (hk : k < l.length) : idxK id (l.drop k) k = if l[k].id = id then (k : Int) else idxK id (l.drop (k + 1)) (k + 1) := by rw [drop_at l k hk, idxK]
theorem row_reads {w : World} {a : Addr} {xs : List Value} (h : RowAt w (some a) xs) : ∀ j v, xs[j]? = some v → w.cell? (a.add j) = some v := by
  intro j y hj
  rcases h with rfl | ⟨b, off, e, hl, hc⟩
  · simp at hj
  · injection e with e
    subst e
    rw [add_plain]
    exact hc j y hj
theorem splice_two {Z X Y : List Value} {k : Nat} (hk : X.length = k) (hZ : Z.length = X.length + Y.length) : splice (splice Z 0 X) k Y = X ++ Y := by
  subst hk
  simp [splice, List.take_append, List.drop_append, hZ]
theorem lt_heap {w : World} {g : Nat} {o : Obj} (h : w.heap[g]? = some o) : g < w.heap.size := by
  rcases Nat.lt_or_ge g w.heap.size with h' | h'
  · exact h'
  · rw [Array.getElem?_eq_none h'] at h; cases h
set_option maxHeartbeats 1000000 in
theorem idxBk (a : Option Addr) (cap : Nat) (l : List Bk) (hl : l.length ≤ 100000) (g : Nat) (id : Int) (w : World) (HA : BkAt w a cap l) (hg : w.cell? ⟨g, 0, none⟩ = some (.int .i64 id)) :
    Calls Try.prog 17 #[.slice a l.length cap, .func (.func 18) #[] #[.pointer (some ⟨g, 0, none⟩)]] w fun e w' => e = .returned (.int .i64 (idxK id l 0)) ∧ Below w.heap.size w w' := by
  have HR := Lib.hid HA
  clear HA
  go_enter Try.func17, Try.ntmps17
  go_wp2
  go_loopw [8] (fun x wr => ∃ k : Nat, k ≤ l.length ∧ x = .int .i64 k ∧ Below w.heap.size w wr ∧ Hid (idxK id l 0 = idxK id (l.drop k) k)) (fun x _ => l.length - (intOf x).toNat)
  case atStart => exact ⟨0, Nat.zero_le _, rfl, (by repeat' (first | exact Below.refl _ _ | assumption | exact And.left (by assumption) | refine Below.drew ?_ | refine below_drewN ?_ _ | refine Below.setCell ?_ (by first | (simp; done) | (simp; omega) | omega) _ | refine Below.alloc ?_ (by first | (simp; done) | (simp; omega) | omega) _ | refine after (by assumption) (by first | (simp; done) | (simp; omega) | omega) ?_)), Lib.hid (by simp)⟩
  case round =>
    obtain ⟨k, hk, rfl, hb, HI⟩ := hrel
    have hz := hb.size
    have c0 := carry hb hg
    have hgl := World.block_lt_of_cell? _ _ c0
    by_cases hlt : k < l.length
    · obtain ⟨b, off, ea, hbl, q0, q1, q2, q3⟩ := (HR.out.later hb).row.bk hlt
      subst ea
      have HN := Lib.hid (HI.out.trans (idx_next hlt))
      clear HI
      generalize l[k] = s at q0 q1 q2 q3 HN
      by_cases h0 : s.id = id
      · have g0 : (s.id == id) = true := by simpa using h0
        have E : Hid (idxK id l 0 = (k : Int)) := Lib.hid (by rw [HN.out, if_pos h0])
        clear HN h0
        go_wp2
        go_ret
        exact ⟨by rw [E.out]; rfl, (by repeat' (first | exact Below.refl _ _ | assumption | exact And.left (by assumption) | refine Below.drew ?_ | refine below_drewN ?_ _ | refine Below.setCell ?_ (by first | (simp; done) | (simp; omega) | omega) _ | refine Below.alloc ?_ (by first | (simp; done) | (simp; omega) | omega) _ | refine after (by assumption) (by first | (simp; done) | (simp; omega) | omega) ?_))⟩
      · have g0 : (s.id == id) = false := by simpa using h0
        have HX : Hid (idxK id l 0 = idxK id (l.drop (k + 1)) (k + 1)) := Lib.hid (by rw [HN.out, if_neg h0])
        clear HN h0
        go_wp2
        go_roundw
        case rel => exact ⟨k + 1, by omega, by go_num, (by repeat' (first | exact Below.refl _ _ | assumption | exact And.left (by assumption) | refine Below.drew ?_ | refine below_drewN ?_ _ | refine Below.setCell ?_ (by first | (simp; done) | (simp; omega) | omega) _ | refine Below.alloc ?_ (by first | (simp; done) | (simp; omega) | omega) _ | refine after (by assumption) (by first | (simp; done) | (simp; omega) | omega) ?_)), HX⟩
        case measure => simp [intOf]; omega
    · have hkl : k = l.length := by omega
      subst hkl
      have E : Hid (idxK id l 0 = -1) := Lib.hid (by rw [HI.out, List.drop_length]; rfl)
      clear HI
      go_wp2
      go_ret
      exact ⟨by rw [E.out]; rfl, (by repeat' (first | exact Below.refl _ _ | assumption | exact And.left (by assumption) | refine Below.drew ?_ | refine below_drewN ?_ _ | refine Below.setCell ?_ (by first | (simp; done) | (simp; omega) | omega) _ | refine Below.alloc ?_ (by first | (simp; done) | (simp; omega) | omega) _ | refine after (by assumption) (by first | (simp; done) | (simp; omega) | omega) ?_))⟩

theorem bDrop_no (a : Option Addr) (cap : Nat) (l : List Bk) (hl : l.length ≤ 100000) (id : Int) (h : ¬ HasK l id) (w : World) (HA : BkAt w a cap l) :
    Calls Try.prog 8 #[.slice a l.length cap, .int .i64 id] w fun e w' => e = .returned (.tuple #[.slice none 0 0, .int .i64 30]) ∧ Below w.heap.size w w' := by
  have HR := Lib.hid HA
  have HX := Lib.hid (fun g w' h1 h2 => idxBk a cap l hl g id w' h1 h2)
  rw [idx_no h] at HX
  have hmf : ∀ (fn : Fn) (first cap : Array Value) (w : World), (Instr.makeFunc fn first cap).run Try.prog w = .ok (.func fn first cap) w := fun _ _ _ _ => rfl
  clear HA h
  go_enter Try.func8, Try.ntmps8
  go_wp2_with fail
  generalize hw0 : World.alloc w _ = w0
  have hb0 : Below w.heap.size w w0 := by rw [← hw0]; exact (by repeat' (first | exact Below.refl _ _ | assumption | exact And.left (by assumption) | refine Below.drew ?_ | refine below_drewN ?_ _ | refine Below.setCell ?_ (by first | (simp; done) | (simp; omega) | omega) _ | refine Below.alloc ?_ (by first | (simp; done) | (simp; omega) | omega) _ | refine after (by assumption) (by first | (simp; done) | (simp; omega) | omega) ?_))
  have n0 : w0.cell? ⟨w.heap.size, 0, none⟩ = some (.int .i64 id) := by rw [← hw0]; simp [go_sem]
  clear hw0
  refine (HX.out w.heap.size w0 (HR.out.later hb0) n0).mono ?_; rintro e w1 ⟨rfl, hb1⟩
  have k1 := hb0.trans (hb1.mono hb0.size)
  go_wp2
  go_ret2
  exact ⟨rfl, k1⟩
def bdSp (b off L cap g k n1 : Nat) (dp : Option Addr) (dn : Nat) (sp : Option Addr) (sn sc : Nat) : List Sp :=
  [Sp.c (.slice (some ⟨g, 0, none⟩) n1 n1) [],
   Sp.c (.int .i64 (k : Int)) [],
   Sp.c (.slice dp dn dn) [0, 1],
   Sp.c (.slice (some ⟨b, off, none⟩) L cap) [],
   Sp.c (.int .i64 (k : Int)) [],
   Sp.c (.int .i64 ((k : Int) + 1)) [4],
   Sp.c (.slice sp sn sc) [3, 5]]
set_option maxHeartbeats 4000000 in
set_option maxRecDepth 100000 in
theorem bDrop_yes (a : Option Addr) (cap : Nat) (l : List Bk) (hl : l.length ≤ 100000) (id : Int) (h : HasK l id) (w : World) (HA : BkAt w a cap l) :
    Calls Try.prog 8 #[.slice a l.length cap, .int .i64 id] w fun e w' => ∃ v, e = .returned (.tuple #[v, .int .i64 0]) ∧ w'.ownsRow w.heap.size 24 4 v (dropK id l).length (bksV (dropK id l)) ∧ Below w.heap.size w w' := by
  obtain ⟨i0, hi, hzz, hzs, hzb⟩ := info_parts infoBk
  obtain ⟨k, hk, e1, h2, h3⟩ := idx_at (j := 0) h
  rw [Nat.zero_add] at e1
  have hdr := dropK_at hk h2 h3
  obtain ⟨n1, hn1⟩ : ∃ n1, l.length = n1 + 1 := ⟨l.length - 1, by omega⟩
  obtain ⟨b, off, ea, -⟩ := HA.row.bk hk
  subst ea
  have HR := Lib.hid HA
  have HX := Lib.hid (fun g w' h1 h2 => idxBk (some ⟨b, off, none⟩) cap l hl g id w' h1 h2)
  rw [e1] at HX
  have HFIN : Hid (∀ (v : Value) (w' : World), w'.ownsRow w.heap.size 24 4 v n1 (bksV (l.take k ++ l.drop (k + 1))) → w'.ownsRow w.heap.size 24 4 v (dropK id l).length (bksV (dropK id l))) := Lib.hid (fun v w' h => by
    rw [hdr, show (l.take k ++ l.drop (k + 1)).length = n1 by simp; omega]; exact h)
  have hmf : ∀ (fn : Fn) (first cap : Array Value) (w : World), (Instr.makeFunc fn first cap).run Try.prog w = .ok (.func fn first cap) w := fun _ _ _ _ => rfl
  have hmk := fun W => run_make (P := Try.prog) W 22 24 i0 _ Try.underlying22 hi hzz .i64 .i64 (n1 : Int) (n1 : Int) (by omega) (by omega) (by rw [hzb]; omega) (by omega)
  simp only [Int.toNat_natCast, hzs] at hmk
  obtain ⟨zs, hze, hzl⟩ : ∃ zs : List Value, madeCells (Value.agg #[.int .i64 0, .int .i64 0, .int .i64 0, .int .i64 0]).cells (n1 * 4) = zs.toArray ∧ zs.length = n1 * 4 := ⟨(madeCells (Value.agg #[.int .i64 0, .int .i64 0, .int .i64 0, .int .i64 0]).cells (n1 * 4)).toList, by rw [Array.toArray_toList], by rw [Array.length_toList, size_madeCells]⟩
  rw [hze] at hmk
  have HZ := Lib.hid hzl
  have HX1 : Hid ((bksV (l.take k)).length = k * 4) := Lib.hid (by rw [bksV_len, List.length_take]; congr 1; omega)
  have HD : Hid (RowAt w (some ⟨b, off + (k + 1) * 4, none⟩) (bksV (l.drop (k + 1)))) := Lib.hid (HA.from (k := k + 1) (by omega)).row
  have hwr : IntKind.i64.wrap ((l.length : Int) - 1) = (n1 : Int) := by rw [show (l.length : Int) - 1 = n1 by omega]; exact IntWalk.i64_in _ (by omega)
  have hwk : IntKind.i64.wrap ((k : Int) + 1) = (k : Int) + 1 := IntWalk.i64_in _ (by omega)
  have hk0 : (0 : Int) ≤ k := by omega
  have hk1 : ¬ ((k : Int) < 0) := by omega
  have hkt : ((k : Int)).toNat = k := by omega
  have hkn : (k : Int) ≤ n1 := by omega
  have hkN : k ≤ n1 := by omega
  have hks : ((k : Int) + 1).toNat = k + 1 := by omega
  have hk2 : (0 : Int) ≤ (k : Int) + 1 := by omega
  have hkc : (k : Int) ≤ cap := by have := HA.le; omega
  have hkl : (k : Int) + 1 ≤ l.length := by omega
  have hkl2 : k + 1 ≤ l.length := by omega
  have HLC : Hid (n1 + 1 ≤ cap) := Lib.hid (by have := HA.le; omega)
  have HN1 := Lib.hid hn1
  clear HA h hn1 h2 h3 hdr hze hzl e1 hk
  go_enter Try.func8, Try.ntmps8
  go_wp2_with fail
  generalize hw0 : World.alloc w _ = w0
  have hb0 : Below w.heap.size w w0 := by rw [← hw0]; exact (by repeat' (first | exact Below.refl _ _ | assumption | exact And.left (by assumption) | refine Below.drew ?_ | refine below_drewN ?_ _ | refine Below.setCell ?_ (by first | (simp; done) | (simp; omega) | omega) _ | refine Below.alloc ?_ (by first | (simp; done) | (simp; omega) | omega) _ | refine after (by assumption) (by first | (simp; done) | (simp; omega) | omega) ?_))
  have n0 : w0.cell? ⟨w.heap.size, 0, none⟩ = some (.int .i64 id) := by rw [← hw0]; simp [go_sem]
  clear hw0
  refine (HX.out w.heap.size w0 (HR.out.later hb0) n0).mono ?_; rintro e w1 ⟨rfl, hb1⟩
  have k1 := hb0.trans (hb1.mono hb0.size)
  clear n0
  go_wp2_with ((with_reducible show wpList _ _ _ _ _ _); refine wpList_copy_wide rfl (.tmp 17) (.tmp 20) 22 22 rfl 24 Try.underlying22 4 (by kernel_rfl) (some ⟨w1.heap.size, 0, none⟩) (some ⟨b, off, none⟩) n1 n1 k cap rfl rfl w1.heap.size 0 k zs 24 (heap_alloc_new _ _) (bksV (l.take k)) (Nat.min_eq_left hkN) HX1.out (fun _ => ⟨rfl, _, rfl, row_reads (((HR.out.take k).row.later k1).alloc _)⟩) (by rw [HX1.out, HZ.out]; omega) (bksV_cells _) w.heap.size w (k1.alloc k1.size _) k1.size ?_)
  intro w5 HW5 k5
  by_cases hlast : k = n1
  · have hks : k - k = 0 := by omega
    subst hlast
    have hsl : l.length - (k + 1) = 0 := by have := HN1.out; omega
    by_cases hcp : cap = k + 1
    · subst hcp
      go_wp2_with fail
      refine region_mono_tail 7 (bdSp b off l.length (k + 1) w1.heap.size k k (some ⟨w1.heap.size, 0, none⟩) (0) (some ⟨b, off, none⟩) (0) (0)) [22, 23, 24, 25, 26, 27, 28] (by kernel_rfl) (by kernel_rfl) (by kernel_rfl) (by kernel_rfl) (by kernel_rfl) (stables_cons (Sp.c_stable _ _) (stables_cons (Sp.c_stable _ _) (stables_cons (Sp.c_stable _ _) (stables_cons (Sp.c_stable _ _) (stables_cons (Sp.c_stable _ _) (stables_cons (Sp.c_stable _ _) (stables_cons (Sp.c_stable _ _) (trivial)))))))) ?_ ?_
      · intro am wm L hbm hbase hbase2
        have s0 : am.tmps.getD 0 undef = .slice (some ⟨b, off, none⟩) l.length (k + 1) := (hbase 0 rfl).trans (by simp only [Array.getD_eq_getD_getElem?, List.getElem?_toArray, List.getElem?_cons_succ, List.getElem?_cons_zero, Option.getD_some])
        have s6 : am.tmps.getD 6 undef = .int .i64 (k : Int) := (hbase 6 rfl).trans (by simp only [Array.getD_eq_getD_getElem?, List.getElem?_toArray, List.getElem?_cons_succ, List.getElem?_cons_zero, Option.getD_some])
        have s7 : am.tmps.getD 7 undef = .slice (some ⟨w1.heap.size, 0, none⟩) k k := (hbase 7 rfl).trans (by simp only [Array.getD_eq_getD_getElem?, List.getElem?_toArray, List.getElem?_cons_succ, List.getElem?_cons_zero, Option.getD_some])
        clear hbase hbase2
        refine steps_cons (fun hn hl => ?_) fun H0 => ?_
        · skip
          clear hn hl 
          refine stepC (wanted_free rfl) fun K hK => ?_
          go_simp
          exact hK _ (Below.refl _ _)
        refine steps_cons (fun hn hl => ?_) fun H1 => ?_
        · skip
          clear hn hl H0
          refine stepC (wanted_free rfl) fun K hK => ?_
          go_simp
          exact hK _ (Below.refl _ _)
        refine steps_cons (fun hn hl => ?_) fun H2 => ?_
        · skip
          have h22 := Sp.of_c (H0 (hn 0 (show 0 ∈ [0, 1] from .head _)))
          have h23 := Sp.of_c (H1 (hn 1 (show 1 ∈ [0, 1] from .tail _ (.head _))))
          clear hn hl H0 H1
          refine stepC (wanted_free rfl) fun K hK => ?_
          go_simp
          exact hK _ (Below.refl _ _)
        refine steps_cons (fun hn hl => ?_) fun H3 => ?_
        · skip
          clear hn hl H0 H1 H2
          refine stepC (wanted_free rfl) fun K hK => ?_
          go_simp
          exact hK _ (Below.refl _ _)
        refine steps_cons (fun hn hl => ?_) fun H4 => ?_
        · skip
          clear hn hl H0 H1 H2 H3
          refine stepC (wanted_free rfl) fun K hK => ?_
          go_simp
          exact hK _ (Below.refl _ _)
        refine steps_cons (fun hn hl => ?_) fun H5 => ?_
        · skip
          have h26 := Sp.of_c (H4 (hn 4 (show 4 ∈ [4] from .head _)))
          clear hn hl H0 H1 H2 H3 H4
          refine stepC (wanted_free rfl) fun K hK => ?_
          go_simp
          exact hK _ (Below.refl _ _)
        refine steps_cons (fun hn hl => ?_) fun H6 => ?_
        · skip
          have h25 := Sp.of_c (H3 (hn 3 (show 3 ∈ [3, 5] from .head _)))
          have h27 := Sp.of_c (H5 (hn 5 (show 5 ∈ [3, 5] from .tail _ (.head _))))
          clear hn hl H0 H1 H2 H3 H4 H5
          refine stepC (wanted_free rfl) fun K hK => ?_
          go_simp
          exact hK _ (Below.refl _ _)
        exact trivial
      · intro w6 hb6
        have hz6 := hb6.size
        refine end_cons ?_; rintro _ rfl
        refine end_cons ?_; rintro _ rfl
        refine end_cons ?_; rintro _ rfl
        refine end_cons ?_; rintro _ rfl
        refine end_cons ?_; rintro _ rfl
        refine end_cons ?_; rintro _ rfl
        refine end_cons ?_; rintro _ rfl
        refine end_nil ?_
        simp only [List.setIfInBounds_toArray, List.set_cons_succ, List.set_cons_zero, Bool.not_false, Bool.not_true, Bool.true_or, Bool.or_true, Bool.false_or, Bool.or_false]
        simp only [List.drop_succ_cons, List.drop_zero]
        have k6 := k5.trans (hb6.mono k5.size)
        have HW6 : Hid (w6.heap[w1.heap.size]? = some (.cells (splice zs 0 (bksV (l.take k))).toArray 24 (0, 0))) := Lib.hid ((hb6.block _ (lt_heap HW5.out)).trans HW5.out)
        go_wp2_with ((with_reducible show wpList _ _ _ _ _ _); refine wpList_copy_wide rfl (.tmp 24) (.tmp 28) 22 22 rfl 24 Try.underlying22 4 (by kernel_rfl) (some ⟨w1.heap.size, 0, none⟩) (some ⟨b, off, none⟩) (0) (0) (0) (0) rfl rfl w1.heap.size (k * 4) (k - k) _ 24 HW6.out (bksV (l.drop (k + 1))) (by have := HN1.out; show min _ _ = _; omega) (by rw [bksV_len, List.length_drop]; have := HN1.out; omega) (fun hp => absurd hp (by omega)) (by rw [length_splice _ _ _ (by rw [HX1.out, HZ.out]; have := HN1.out; omega), HZ.out, bksV_len, List.length_drop]; have := HN1.out; omega) (bksV_cells _) w.heap.size w k6 k1.size ?_)
        intro w7 hw7 hb7
        have HO : Hid (w7.ownsRow w.heap.size 24 4 (.slice (some ⟨w1.heap.size, 0, none⟩) k k) k (bksV (l.take k ++ l.drop (k + 1)))) := Lib.hid (own_whole (by
          have h := hw7.out
          rw [splice_two (by rw [HX1.out]) (by rw [HX1.out, HZ.out, bksV_len, List.length_drop]; have := HN1.out; omega), ← bksV_app] at h
          exact h) k1.size (by have := HN1.out; unfold maxLen; omega) (by rw [bksV_app, List.length_append, HX1.out, bksV_len, List.length_drop]; have := HN1.out; omega))
        go_wp2
        go_ret2
        exact ⟨_, rfl, HFIN.out _ _ HO.out, hb7⟩
    · go_wp2_with fail
      refine region_mono_tail 7 (bdSp b off l.length cap w1.heap.size k k (some ⟨w1.heap.size, 0, none⟩) (0) (some ⟨b, off + (k + 1) * 4, none⟩) (0) (cap - (k + 1))) [22, 23, 24, 25, 26, 27, 28] (by kernel_rfl) (by kernel_rfl) (by kernel_rfl) (by kernel_rfl) (by kernel_rfl) (stables_cons (Sp.c_stable _ _) (stables_cons (Sp.c_stable _ _) (stables_cons (Sp.c_stable _ _) (stables_cons (Sp.c_stable _ _) (stables_cons (Sp.c_stable _ _) (stables_cons (Sp.c_stable _ _) (stables_cons (Sp.c_stable _ _) (trivial)))))))) ?_ ?_
      · intro am wm L hbm hbase hbase2
        have s0 : am.tmps.getD 0 undef = .slice (some ⟨b, off, none⟩) l.length cap := (hbase 0 rfl).trans (by simp only [Array.getD_eq_getD_getElem?, List.getElem?_toArray, List.getElem?_cons_succ, List.getElem?_cons_zero, Option.getD_some])
        have s6 : am.tmps.getD 6 undef = .int .i64 (k : Int) := (hbase 6 rfl).trans (by simp only [Array.getD_eq_getD_getElem?, List.getElem?_toArray, List.getElem?_cons_succ, List.getElem?_cons_zero, Option.getD_some])
        have s7 : am.tmps.getD 7 undef = .slice (some ⟨w1.heap.size, 0, none⟩) k k := (hbase 7 rfl).trans (by simp only [Array.getD_eq_getD_getElem?, List.getElem?_toArray, List.getElem?_cons_succ, List.getElem?_cons_zero, Option.getD_some])
        clear hbase hbase2
        refine steps_cons (fun hn hl => ?_) fun H0 => ?_
        · skip
          clear hn hl 
          refine stepC (wanted_free rfl) fun K hK => ?_
          go_simp
          exact hK _ (Below.refl _ _)
        refine steps_cons (fun hn hl => ?_) fun H1 => ?_
        · skip
          clear hn hl H0
          refine stepC (wanted_free rfl) fun K hK => ?_
          go_simp
          exact hK _ (Below.refl _ _)
        refine steps_cons (fun hn hl => ?_) fun H2 => ?_
        · skip
          have h22 := Sp.of_c (H0 (hn 0 (show 0 ∈ [0, 1] from .head _)))
          have h23 := Sp.of_c (H1 (hn 1 (show 1 ∈ [0, 1] from .tail _ (.head _))))
          clear hn hl H0 H1
          refine stepC (wanted_free rfl) fun K hK => ?_
          go_simp
          exact hK _ (Below.refl _ _)
        refine steps_cons (fun hn hl => ?_) fun H3 => ?_
        · skip
          clear hn hl H0 H1 H2
          refine stepC (wanted_free rfl) fun K hK => ?_
          go_simp
          exact hK _ (Below.refl _ _)
        refine steps_cons (fun hn hl => ?_) fun H4 => ?_
        · skip
          clear hn hl H0 H1 H2 H3
          refine stepC (wanted_free rfl) fun K hK => ?_
          go_simp
          exact hK _ (Below.refl _ _)
        refine steps_cons (fun hn hl => ?_) fun H5 => ?_
        · skip
          have h26 := Sp.of_c (H4 (hn 4 (show 4 ∈ [4] from .head _)))
          clear hn hl H0 H1 H2 H3 H4
          refine stepC (wanted_free rfl) fun K hK => ?_
          go_simp
          exact hK _ (Below.refl _ _)
        refine steps_cons (fun hn hl => ?_) fun H6 => ?_
        · skip
          have h25 := Sp.of_c (H3 (hn 3 (show 3 ∈ [3, 5] from .head _)))
          have h27 := Sp.of_c (H5 (hn 5 (show 5 ∈ [3, 5] from .tail _ (.head _))))
          clear hn hl H0 H1 H2 H3 H4 H5
          refine stepC (wanted_free rfl) fun K hK => ?_
          go_simp
          exact hK _ (Below.refl _ _)
        exact trivial
      · intro w6 hb6
        have hz6 := hb6.size
        refine end_cons ?_; rintro _ rfl
        refine end_cons ?_; rintro _ rfl
        refine end_cons ?_; rintro _ rfl
        refine end_cons ?_; rintro _ rfl
        refine end_cons ?_; rintro _ rfl
        refine end_cons ?_; rintro _ rfl
        refine end_cons ?_; rintro _ rfl
        refine end_nil ?_
        simp only [List.setIfInBounds_toArray, List.set_cons_succ, List.set_cons_zero, Bool.not_false, Bool.not_true, Bool.true_or, Bool.or_true, Bool.false_or, Bool.or_false]
        simp only [List.drop_succ_cons, List.drop_zero]
        have k6 := k5.trans (hb6.mono k5.size)
        have HW6 : Hid (w6.heap[w1.heap.size]? = some (.cells (splice zs 0 (bksV (l.take k))).toArray 24 (0, 0))) := Lib.hid ((hb6.block _ (lt_heap HW5.out)).trans HW5.out)
        go_wp2_with ((with_reducible show wpList _ _ _ _ _ _); refine wpList_copy_wide rfl (.tmp 24) (.tmp 28) 22 22 rfl 24 Try.underlying22 4 (by kernel_rfl) (some ⟨w1.heap.size, 0, none⟩) (some ⟨b, off + (k + 1) * 4, none⟩) (0) (0) (0) (cap - (k + 1)) rfl rfl w1.heap.size (k * 4) (k - k) _ 24 HW6.out (bksV (l.drop (k + 1))) (by have := HN1.out; show min _ _ = _; omega) (by rw [bksV_len, List.length_drop]; have := HN1.out; omega) (fun hp => absurd hp (by omega)) (by rw [length_splice _ _ _ (by rw [HX1.out, HZ.out]; have := HN1.out; omega), HZ.out, bksV_len, List.length_drop]; have := HN1.out; omega) (bksV_cells _) w.heap.size w k6 k1.size ?_)
        intro w7 hw7 hb7
        have HO : Hid (w7.ownsRow w.heap.size 24 4 (.slice (some ⟨w1.heap.size, 0, none⟩) k k) k (bksV (l.take k ++ l.drop (k + 1)))) := Lib.hid (own_whole (by
          have h := hw7.out
          rw [splice_two (by rw [HX1.out]) (by rw [HX1.out, HZ.out, bksV_len, List.length_drop]; have := HN1.out; omega), ← bksV_app] at h
          exact h) k1.size (by have := HN1.out; unfold maxLen; omega) (by rw [bksV_app, List.length_append, HX1.out, bksV_len, List.length_drop]; have := HN1.out; omega))
        go_wp2
        go_ret2
        exact ⟨_, rfl, HFIN.out _ _ HO.out, hb7⟩
  · have hne : ¬ n1 = k := fun e => hlast e.symm
    have hcp : ¬ cap = k + 1 := by have := HLC.out; omega
    go_wp2_with fail
    refine region_mono_tail 7 (bdSp b off l.length cap w1.heap.size k n1 (some ⟨w1.heap.size, k * 4, none⟩) (n1 - k) (some ⟨b, off + (k + 1) * 4, none⟩) (l.length - (k + 1)) (cap - (k + 1))) [22, 23, 24, 25, 26, 27, 28] (by kernel_rfl) (by kernel_rfl) (by kernel_rfl) (by kernel_rfl) (by kernel_rfl) (stables_cons (Sp.c_stable _ _) (stables_cons (Sp.c_stable _ _) (stables_cons (Sp.c_stable _ _) (stables_cons (Sp.c_stable _ _) (stables_cons (Sp.c_stable _ _) (stables_cons (Sp.c_stable _ _) (stables_cons (Sp.c_stable _ _) (trivial)))))))) ?_ ?_
    · intro am wm L hbm hbase hbase2
      have s0 : am.tmps.getD 0 undef = .slice (some ⟨b, off, none⟩) l.length cap := (hbase 0 rfl).trans (by simp only [Array.getD_eq_getD_getElem?, List.getElem?_toArray, List.getElem?_cons_succ, List.getElem?_cons_zero, Option.getD_some])
      have s6 : am.tmps.getD 6 undef = .int .i64 (k : Int) := (hbase 6 rfl).trans (by simp only [Array.getD_eq_getD_getElem?, List.getElem?_toArray, List.getElem?_cons_succ, List.getElem?_cons_zero, Option.getD_some])
      have s7 : am.tmps.getD 7 undef = .slice (some ⟨w1.heap.size, 0, none⟩) n1 n1 := (hbase 7 rfl).trans (by simp only [Array.getD_eq_getD_getElem?, List.getElem?_toArray, List.getElem?_cons_succ, List.getElem?_cons_zero, Option.getD_some])
      clear hbase hbase2
      refine steps_cons (fun hn hl => ?_) fun H0 => ?_
      · skip
        clear hn hl 
        refine stepC (wanted_free rfl) fun K hK => ?_
        go_simp
        exact hK _ (Below.refl _ _)
      refine steps_cons (fun hn hl => ?_) fun H1 => ?_
      · skip
        clear hn hl H0
        refine stepC (wanted_free rfl) fun K hK => ?_
        go_simp
        exact hK _ (Below.refl _ _)
      refine steps_cons (fun hn hl => ?_) fun H2 => ?_
      · skip
        have h22 := Sp.of_c (H0 (hn 0 (show 0 ∈ [0, 1] from .head _)))
        have h23 := Sp.of_c (H1 (hn 1 (show 1 ∈ [0, 1] from .tail _ (.head _))))
        clear hn hl H0 H1
        refine stepC (wanted_free rfl) fun K hK => ?_
        go_simp
        exact hK _ (Below.refl _ _)
      refine steps_cons (fun hn hl => ?_) fun H3 => ?_
      · skip
        clear hn hl H0 H1 H2
        refine stepC (wanted_free rfl) fun K hK => ?_
        go_simp
        exact hK _ (Below.refl _ _)
      refine steps_cons (fun hn hl => ?_) fun H4 => ?_
      · skip
        clear hn hl H0 H1 H2 H3
        refine stepC (wanted_free rfl) fun K hK => ?_
        go_simp
        exact hK _ (Below.refl _ _)
      refine steps_cons (fun hn hl => ?_) fun H5 => ?_
      · skip
        have h26 := Sp.of_c (H4 (hn 4 (show 4 ∈ [4] from .head _)))
        clear hn hl H0 H1 H2 H3 H4
        refine stepC (wanted_free rfl) fun K hK => ?_
        go_simp
        exact hK _ (Below.refl _ _)
      refine steps_cons (fun hn hl => ?_) fun H6 => ?_
      · skip
        have h25 := Sp.of_c (H3 (hn 3 (show 3 ∈ [3, 5] from .head _)))
        have h27 := Sp.of_c (H5 (hn 5 (show 5 ∈ [3, 5] from .tail _ (.head _))))
        clear hn hl H0 H1 H2 H3 H4 H5
        refine stepC (wanted_free rfl) fun K hK => ?_
        go_simp
        exact hK _ (Below.refl _ _)
      exact trivial
    · intro w6 hb6
      have hz6 := hb6.size
      refine end_cons ?_; rintro _ rfl
      refine end_cons ?_; rintro _ rfl
      refine end_cons ?_; rintro _ rfl
      refine end_cons ?_; rintro _ rfl
      refine end_cons ?_; rintro _ rfl
      refine end_cons ?_; rintro _ rfl
      refine end_cons ?_; rintro _ rfl
      refine end_nil ?_
      simp only [List.setIfInBounds_toArray, List.set_cons_succ, List.set_cons_zero, Bool.not_false, Bool.not_true, Bool.true_or, Bool.or_true, Bool.false_or, Bool.or_false]
      simp only [List.drop_succ_cons, List.drop_zero]
      have k6 := k5.trans (hb6.mono k5.size)
      have HW6 : Hid (w6.heap[w1.heap.size]? = some (.cells (splice zs 0 (bksV (l.take k))).toArray 24 (0, 0))) := Lib.hid ((hb6.block _ (lt_heap HW5.out)).trans HW5.out)
      go_wp2_with ((with_reducible show wpList _ _ _ _ _ _); refine wpList_copy_wide rfl (.tmp 24) (.tmp 28) 22 22 rfl 24 Try.underlying22 4 (by kernel_rfl) (some ⟨w1.heap.size, k * 4, none⟩) (some ⟨b, off + (k + 1) * 4, none⟩) (n1 - k) (n1 - k) (l.length - (k + 1)) (cap - (k + 1)) rfl rfl w1.heap.size (k * 4) (n1 - k) _ 24 HW6.out (bksV (l.drop (k + 1))) (by have := HN1.out; show min _ _ = _; omega) (by rw [bksV_len, List.length_drop]; have := HN1.out; omega) (fun _ => ⟨rfl, _, rfl, row_reads (HD.out.later k6)⟩) (by rw [length_splice _ _ _ (by rw [HX1.out, HZ.out]; have := HN1.out; omega), HZ.out, bksV_len, List.length_drop]; have := HN1.out; omega) (bksV_cells _) w.heap.size w k6 k1.size ?_)
      intro w7 hw7 hb7
      have HO : Hid (w7.ownsRow w.heap.size 24 4 (.slice (some ⟨w1.heap.size, 0, none⟩) n1 n1) n1 (bksV (l.take k ++ l.drop (k + 1)))) := Lib.hid (own_whole (by
        have h := hw7.out
        rw [splice_two (by rw [HX1.out]) (by rw [HX1.out, HZ.out, bksV_len, List.length_drop]; have := HN1.out; omega), ← bksV_app] at h
        exact h) k1.size (by have := HN1.out; unfold maxLen; omega) (by rw [bksV_app, List.length_append, HX1.out, bksV_len, List.length_drop]; have := HN1.out; omega))
      go_wp2
      go_ret2
      exact ⟨_, rfl, HFIN.out _ _ HO.out, hb7⟩
end Go.Proofs.Ytkkjbmedpdjgdaa.W
