/-
  Contracts of slices.Equal of integers, of the judge's own comparison of two lists of integers, of reply.Same, and of the document's Same.
-/
import Derived.Test.YtbnlchbklpgejaaDoorReplyRight
import Derived.Test.YtbnlchbklpgejaaDoorCodecRef
namespace Go.Proofs.YtbnlchbklpgejaaDoor.W
set_option linter.unusedVariables false
set_option linter.unusedSimpArgs false
open Go.ChangeShapes Go.WideShapes Go.ChangeAt Go.RowKit

theorem take_eq_succI {x y : List Int} {k : Nat} (h : x.take k = y.take k) (hx : k < x.length) (hy : k < y.length) (e : x[k] = y[k]) : x.take (k + 1) = y.take (k + 1) := by
  rw [take_snoc x k hx, take_snoc y k hy, h, e]
set_option maxHeartbeats 2000000 in
theorem equalI (a b : Option Addr) (ca cb : Nat) (x y : List Int) (hx : x.length ≤ 1048576) (hy : y.length ≤ 1048576) (w : World) (ha : RowAt w a (vals x)) (hb : RowAt w b (vals y)) :
    Calls Tryd.prog 21 #[.slice a x.length ca, .slice b y.length cb] w fun e w' => e = .returned (.bool (decide (x = y))) ∧ Below w.heap.size w w' := by
  by_cases hl : x.length = y.length
  · have HA := Lib.hid ha
    have HB := Lib.hid hb
    have HL := Lib.hid hl
    clear ha hb
    rw [← hl]
    clear hl hy
    go_enter Tryd.func21, Tryd.ntmps21
    go_wp2
    go_loopw [13] (fun i wr => ∃ k : Nat, k ≤ x.length ∧ i = .int .i64 (k : Int) ∧ Hid (x.take k = y.take k) ∧ Below w.heap.size w wr) (fun i _ => x.length - (intOf i).toNat)
    case atStart => exact ⟨0, Nat.zero_le _, rfl, Lib.hid rfl, Below.refl _ _⟩
    case round =>
      obtain ⟨k, hk, rfl, HE, hbw⟩ := hrel
      by_cases hlt : k < x.length
      · have hlt2 : k < y.length := by have := HL.out; omega
        obtain ⟨b1, o1, e1, _, c1⟩ := (HA.out.later hbw).row (by rw [vals_len]; omega)
        obtain ⟨b2, o2, e2, _, d1⟩ := (HB.out.later hbw).row (by rw [vals_len]; omega)
        have c2 := c1 k _ (vals_at x k hlt)
        have d2 := d1 k _ (vals_at y k hlt2)
        have HT : Hid (x[k] = y[k] → x.take (k + 1) = y.take (k + 1)) := Lib.hid (fun e => take_eq_succI HE.out hlt hlt2 e)
        have HF := Lib.hid (fun (e : ¬ x[k] = y[k]) => (decide_eq_false (fun (h : x = y) => e (by subst h; rfl)) : decide (x = y) = false))
        have E1 := Lib.hid e1
        have E2 := Lib.hid e2
        clear e1 e2 c1 d1
        generalize x[k] = p at c2 HT HF
        generalize y[k] = r at d2 HT HF
        clear hlt2
        obtain rfl := E1.out
        obtain rfl := E2.out
        by_cases he : p = r
        · subst he
          have HT2 := Lib.hid (HT.out rfl)
          clear HT HF
          go_wp2_with fail
          go_quiet (fail)
          go_wp2
          go_roundw
          case rel => exact ⟨k + 1, by omega, by go_num, HT2, (by repeat' (first | exact Below.refl _ _ | assumption | exact And.left (by assumption) | refine Below.drew ?_ | refine below_drewN ?_ _ | refine Below.setCell ?_ (by first | (simp; done) | (simp; omega) | omega) _ | refine Below.alloc ?_ (by first | (simp; done) | (simp; omega) | omega) _ | refine after (by assumption) (by first | (simp; done) | (simp; omega) | omega) ?_))⟩
          case measure => simp [intOf]; omega
        · have HD := Lib.hid (HF.out he)
          have q1 : (p == r) = false := by simpa using he
          have q2 : (p != r) = true := by simpa using he
          clear he HT HF
          go_wp2_with fail
          go_quiet (fail)
          go_wp2
          go_ret
          exact ⟨by rw [HD.out]; rfl, (by repeat' (first | exact Below.refl _ _ | assumption | exact And.left (by assumption) | refine Below.drew ?_ | refine below_drewN ?_ _ | refine Below.setCell ?_ (by first | (simp; done) | (simp; omega) | omega) _ | refine Below.alloc ?_ (by first | (simp; done) | (simp; omega) | omega) _ | refine after (by assumption) (by first | (simp; done) | (simp; omega) | omega) ?_))⟩
      · have hkl : k = x.length := by omega
        subst hkl
        have HD : Hid (decide (x = y) = true) := Lib.hid (decide_eq_true (by
          have h1 := HE.out
          have h2 := HL.out
          rw [List.take_length] at h1
          rw [h1, List.take_of_length_le (by omega)]))
        go_wp2
        go_ret
        exact ⟨by rw [HD.out]; rfl, hbw⟩
  · have HD : Hid (decide (x = y) = false) := Lib.hid (decide_eq_false (fun e => hl (by rw [e])))
    have h1 : ¬ ((x.length : Int) = (y.length : Int)) := by omega
    have h2 : ((x.length : Int) == (y.length : Int)) = false := by simpa using h1
    have h3 : ((x.length : Int) != (y.length : Int)) = true := by simpa using h1
    clear hl ha hb
    go_enter Tryd.func21, Tryd.ntmps21
    go_wp2
    go_ret
    exact ⟨by rw [HD.out]; rfl, Below.refl _ _⟩
set_option maxHeartbeats 2000000 in
theorem intsD (a b : Option Addr) (ca cb : Nat) (x y : List Int) (hx : x.length ≤ 1048576) (hy : y.length ≤ 1048576) (w : World) (ha : RowAt w a (vals x)) (hb : RowAt w b (vals y)) :
    Calls Tryd.prog 22 #[.slice a x.length ca, .slice b y.length cb] w fun e w' => e = .returned (.bool (decide (x = y))) ∧ Below w.heap.size w w' := by
  by_cases hl : x.length = y.length
  · have HA := Lib.hid ha
    have HB := Lib.hid hb
    have HL := Lib.hid hl
    clear ha hb
    rw [← hl]
    clear hl hy
    go_enter Tryd.func22, Tryd.ntmps22
    go_wp2
    go_loopw [5] (fun i wr => ∃ k : Nat, k ≤ x.length ∧ i = .int .i64 (k : Int) ∧ Hid (x.take k = y.take k) ∧ Below w.heap.size w wr) (fun i _ => x.length - (intOf i).toNat)
    case atStart => exact ⟨0, Nat.zero_le _, rfl, Lib.hid rfl, Below.refl _ _⟩
    case round =>
      obtain ⟨k, hk, rfl, HE, hbw⟩ := hrel
      by_cases hlt : k < x.length
      · have hlt2 : k < y.length := by have := HL.out; omega
        obtain ⟨b1, o1, e1, _, c1⟩ := (HA.out.later hbw).row (by rw [vals_len]; omega)
        obtain ⟨b2, o2, e2, _, d1⟩ := (HB.out.later hbw).row (by rw [vals_len]; omega)
        have c2 := c1 k _ (vals_at x k hlt)
        have d2 := d1 k _ (vals_at y k hlt2)
        have HT : Hid (x[k] = y[k] → x.take (k + 1) = y.take (k + 1)) := Lib.hid (fun e => take_eq_succI HE.out hlt hlt2 e)
        have HF := Lib.hid (fun (e : ¬ x[k] = y[k]) => (decide_eq_false (fun (h : x = y) => e (by subst h; rfl)) : decide (x = y) = false))
        have E1 := Lib.hid e1
        have E2 := Lib.hid e2
        clear e1 e2 c1 d1
        generalize x[k] = p at c2 HT HF
        generalize y[k] = r at d2 HT HF
        clear hlt2
        obtain rfl := E1.out
        obtain rfl := E2.out
        by_cases he : p = r
        · subst he
          have HT2 := Lib.hid (HT.out rfl)
          clear HT HF
          go_wp2_with fail
          go_quiet (fail)
          go_wp2
          go_roundw
          case rel => exact ⟨k + 1, by omega, by go_num, HT2, (by repeat' (first | exact Below.refl _ _ | assumption | exact And.left (by assumption) | refine Below.drew ?_ | refine below_drewN ?_ _ | refine Below.setCell ?_ (by first | (simp; done) | (simp; omega) | omega) _ | refine Below.alloc ?_ (by first | (simp; done) | (simp; omega) | omega) _ | refine after (by assumption) (by first | (simp; done) | (simp; omega) | omega) ?_))⟩
          case measure => simp [intOf]; omega
        · have HD := Lib.hid (HF.out he)
          have q1 : (p == r) = false := by simpa using he
          have q2 : (p != r) = true := by simpa using he
          clear he HT HF
          go_wp2_with fail
          go_quiet (fail)
          go_wp2
          go_ret
          exact ⟨by rw [HD.out]; rfl, (by repeat' (first | exact Below.refl _ _ | assumption | exact And.left (by assumption) | refine Below.drew ?_ | refine below_drewN ?_ _ | refine Below.setCell ?_ (by first | (simp; done) | (simp; omega) | omega) _ | refine Below.alloc ?_ (by first | (simp; done) | (simp; omega) | omega) _ | refine after (by assumption) (by first | (simp; done) | (simp; omega) | omega) ?_))⟩
      · have hkl : k = x.length := by omega
        subst hkl
        have HD : Hid (decide (x = y) = true) := Lib.hid (decide_eq_true (by
          have h1 := HE.out
          have h2 := HL.out
          rw [List.take_length] at h1
          rw [h1, List.take_of_length_le (by omega)]))
        go_wp2
        go_ret
        exact ⟨by rw [HD.out]; rfl, hbw⟩
  · have HD : Hid (decide (x = y) = false) := Lib.hid (decide_eq_false (fun e => hl (by rw [e])))
    have h1 : ¬ ((x.length : Int) = (y.length : Int)) := by omega
    have h2 : ((x.length : Int) == (y.length : Int)) = false := by simpa using h1
    have h3 : ((x.length : Int) != (y.length : Int)) = true := by simpa using h1
    clear hl ha hb
    go_enter Tryd.func22, Tryd.ntmps22
    go_wp2
    go_ret
    exact ⟨by rw [HD.out]; rfl, Below.refl _ _⟩
theorem run_itemsP {P : Program} (w : World) {e : TypeId} {k : IntKind} (he : P.plainKey e = true) (hu : P.underlying e = some (.int k)) (d : Nat) (xs ys : Array Value) (x y : Nat → Int) :
    ∀ (is : List Nat), (∀ i ∈ is, xs[i]? = some (.int k (x i)) ∧ ys[i]? = some (.int k (y i))) → (Op.eqItems (d + 1) e 1 xs ys is).run P w = .ok (is.all fun i => x i == y i) w
  | [], _ => by simp [Op.eqItems]
  | i :: is, h => by
    have h1 := h i (by simp)
    have ih := run_itemsP w he hu d xs ys x y is (fun j hj => h j (by simp [hj]))
    simp only [Op.eqItems, Sem.run_bind, Nat.mul_one, run_part_plain w he h1.1, run_part_plain w he h1.2, Result.andThen_ok, run_equalIn_int w d e k k (x i) (y i) hu]
    cases hx : x i == y i
    · simp [hx]
    · simp [hx, ih]
theorem eq_runP (a b : Rp) (w : World) : (Op.equalIn 10000 41 (.agg #[.int .i64 a.key, .int .i64 a.err, .int .i64 a.job, .int .i64 a.ver]) (.agg #[.int .i64 b.key, .int .i64 b.err, .int .i64 b.job, .int .i64 b.ver])).run Tryd.prog w = .ok (decide (fourL a = fourL b)) w := by
  obtain ⟨i0, hi, _⟩ := info_parts infoI
  rw [show (10000 : Nat) = 9999 + 1 from rfl, run_equalIn_array w 9999 _ _ Tryd.underlying41 hi, show Tryd.prog.cellsOf 3 = 1 by kernel_rfl, show (9999 : Nat) = 9998 + 1 from rfl]
  rw [run_itemsP w (by kernel_rfl) Tryd.underlying3 9998 _ _ (fun i => (fourL a).getD i 0) (fun i => (fourL b).getD i 0) _ ?_]
  · congr 1
    rw [Bool.eq_iff_iff, List.all_eq_true, decide_eq_true_eq]
    constructor
    · intro h
      have h0 : a.key = b.key := by simpa [fourL] using h 0 (by decide)
      have h1 : a.err = b.err := by simpa [fourL] using h 1 (by decide)
      have h2 : a.job = b.job := by simpa [fourL] using h 2 (by decide)
      have h3 : a.ver = b.ver := by simpa [fourL] using h 3 (by decide)
      unfold fourL
      rw [h0, h1, h2, h3]
    · intro h i _
      rw [h]
      simp
  · intro i hi
    have hi' := List.mem_range.1 hi
    match i, hi' with
    | 0, _ | 1, _ | 2, _ | 3, _ => exact ⟨rfl, rfl⟩
    | n + 4, h => omega

def sameSpP (w : World) (a b : Rp) (f : Bool) : List Sp :=
  [Sp.c (.agg #[.int .i64 a.key, .int .i64 a.err, .int .i64 a.job, .int .i64 a.ver, .slice a.na a.nums.length a.nc]) [],
   Sp.c (.agg #[.int .i64 a.key, .int .i64 a.err, .int .i64 a.job, .int .i64 a.ver]) [0],
   Sp.c (.agg #[.int .i64 b.key, .int .i64 b.err, .int .i64 b.job, .int .i64 b.ver, .slice b.na b.nums.length b.nc]) [],
   Sp.c (.agg #[.int .i64 b.key, .int .i64 b.err, .int .i64 b.job, .int .i64 b.ver]) [2],
   Sp.c (.bool f) [1, 3],
   Sp.c (.bool f) [4],
   Sp.g (f) (.pointer (some ⟨w.heap.size, 4, none⟩)) [5],
   Sp.g (f) (.slice a.na a.nums.length a.nc) [6, 5],
   Sp.g (f) (.pointer (some ⟨w.heap.size + 1, 4, none⟩)) [5],
   Sp.g (f) (.slice b.na b.nums.length b.nc) [8, 5],
   Sp.g (f) (.bool (decide (a.nums = b.nums))) [7, 9, 5],
   Sp.c (.bool (f && decide (a.nums = b.nums))) [5, 10],
   Sp.c (.bool (f && decide (a.nums = b.nums))) [11]]
set_option maxRecDepth 100000 in
set_option maxHeartbeats 4000000 in
theorem sameP_yes (a b : Rp) (hfa : a.nums.length ≤ 1048576) (hfb : b.nums.length ≤ 1048576) (w : World) (ha : RowAt w a.na (vals a.nums)) (hb : RowAt w b.na (vals b.nums)) (he : decide (fourL a = fourL b) = true) :
    Calls Tryd.prog 10 #[.agg #[.int .i64 a.key, .int .i64 a.err, .int .i64 a.job, .int .i64 a.ver, .slice a.na a.nums.length a.nc], .agg #[.int .i64 b.key, .int .i64 b.err, .int .i64 b.job, .int .i64 b.ver, .slice b.na b.nums.length b.nc]] w fun e w' => e = .returned (.bool (true && decide (a.nums = b.nums))) ∧ Below w.heap.size w w' := by
  have HE := fun w => eq_runP a b w
  rw [he] at HE
  have HA := Lib.hid ha
  have HB := Lib.hid hb
  clear ha hb he
  go_enter Tryd.func10, Tryd.ntmps10
  go_wp2_with fail
  generalize hw0 : World.alloc (World.alloc w _) _ = w0
  have hb0 : Below w.heap.size w w0 := by rw [← hw0]; exact (by repeat' (first | exact Below.refl _ _ | assumption | exact And.left (by assumption) | refine Below.drew ?_ | refine below_drewN ?_ _ | refine Below.setCell ?_ (by first | (simp; done) | (simp; omega) | omega) _ | refine Below.alloc ?_ (by first | (simp; done) | (simp; omega) | omega) _ | refine after (by assumption) (by first | (simp; done) | (simp; omega) | omega) ?_))
  have HBA : Hid (BoxP w0 w.heap.size a) := Lib.hid (by rw [← hw0]; exact (BoxP.new w a).alloc _)
  have HBB : Hid (BoxP w0 (w.heap.size + 1) b) := Lib.hid (by rw [← hw0]; simpa using BoxP.new (w.alloc (.cells #[.int .i64 a.key, .int .i64 a.err, .int .i64 a.job, .int .i64 a.ver, .slice a.na a.nums.length a.nc] 25)) b)
  have HRA := Lib.hid (HA.out.later hb0)
  have HRB := Lib.hid (HB.out.later hb0)
  have hz0 := hb0.size
  clear hw0
  refine region_mono (sameSpP w a b true) [5, 6, 7, 8, 9, 10, 11, 12, 13, 14, 15, 16, 4] (by kernel_rfl) (by kernel_rfl) (by kernel_rfl) (by kernel_rfl) (stables_cons (Sp.c_stable _ _) (stables_cons (Sp.c_stable _ _) (stables_cons (Sp.c_stable _ _) (stables_cons (Sp.c_stable _ _) (stables_cons (Sp.c_stable _ _) (stables_cons (Sp.c_stable _ _) (stables_cons (Sp.g_stable _ _ _) (stables_cons (Sp.g_stable _ _ _) (stables_cons (Sp.g_stable _ _ _) (stables_cons (Sp.g_stable _ _ _) (stables_cons (Sp.g_stable _ _ _) (stables_cons (Sp.c_stable _ _) (stables_cons (Sp.c_stable _ _) (trivial)))))))))))))) ?_ ?_
  · intro am wm L hbm hbase hbase2
    have s2 : am.tmps.getD 2 undef = .pointer (some ⟨w.heap.size, 0, none⟩) := (hbase 2 rfl).trans (by simp only [Array.getD_eq_getD_getElem?, List.getElem?_toArray, List.getElem?_cons_succ, List.getElem?_cons_zero, Option.getD_some])
    have s3 : am.tmps.getD 3 undef = .pointer (some ⟨w.heap.size + 1, 0, none⟩) := (hbase 3 rfl).trans (by simp only [Array.getD_eq_getD_getElem?, List.getElem?_toArray, List.getElem?_cons_succ, List.getElem?_cons_zero, Option.getD_some])
    clear hbase hbase2
    have bm := HBA.out.on hbm
    have bm3 := HBB.out.on hbm
    have x12 := bm.c4
    have y12 := bm3.c4
    have RA := HRA.out.later hbm
    have RB := HRB.out.later hbm
    refine steps_cons (fun hn hl => ?_) fun H0 => ?_
    · skip
      clear hn hl 
      refine stepC (wanted_free rfl) fun K hK => ?_
      exact wp_load_p (.tmp 2) rfl s2 bm (hK _ (Below.refl _ _))
    refine steps_cons (fun hn hl => ?_) fun H1 => ?_
    · skip
      have h5 := Sp.of_c (H0 (hn 0 (show 0 ∈ [0] from .head _)))
      clear hn hl H0
      refine stepC (wanted_free rfl) fun K hK => ?_
      go_simp
      first
        | ((with_reducible refine (four4 a _).mono ?_); rintro e w6 ⟨rfl, hb6⟩; exact hK _ hb6)
        | ((with_reducible refine (four4 b _).mono ?_); rintro e w6 ⟨rfl, hb6⟩; exact hK _ hb6)
        | ((with_reducible refine (equalI _ _ _ _ _ _ hfa hfb _ RA RB).mono ?_); rintro e w6 ⟨rfl, hb6⟩; exact hK _ hb6)
    refine steps_cons (fun hn hl => ?_) fun H2 => ?_
    · skip
      clear hn hl H0 H1
      refine stepC (wanted_free rfl) fun K hK => ?_
      exact wp_load_p (.tmp 3) rfl s3 bm3 (hK _ (Below.refl _ _))
    refine steps_cons (fun hn hl => ?_) fun H3 => ?_
    · skip
      have h7 := Sp.of_c (H2 (hn 2 (show 2 ∈ [2] from .head _)))
      clear hn hl H0 H1 H2
      refine stepC (wanted_free rfl) fun K hK => ?_
      go_simp
      first
        | ((with_reducible refine (four4 a _).mono ?_); rintro e w6 ⟨rfl, hb6⟩; exact hK _ hb6)
        | ((with_reducible refine (four4 b _).mono ?_); rintro e w6 ⟨rfl, hb6⟩; exact hK _ hb6)
        | ((with_reducible refine (equalI _ _ _ _ _ _ hfa hfb _ RA RB).mono ?_); rintro e w6 ⟨rfl, hb6⟩; exact hK _ hb6)
    refine steps_cons (fun hn hl => ?_) fun H4 => ?_
    · skip
      have h6 := Sp.of_c (H1 (hn 1 (show 1 ∈ [1, 3] from .head _)))
      have h8 := Sp.of_c (H3 (hn 3 (show 3 ∈ [1, 3] from .tail _ (.head _))))
      clear hn hl H0 H1 H2 H3
      refine stepC (wanted_free rfl) fun K hK => ?_
      go_simp
      exact hK _ (Below.refl _ _)
    refine steps_cons (fun hn hl => ?_) fun H5 => ?_
    · skip
      have h9 := Sp.of_c (H4 (hn 4 (show 4 ∈ [4] from .head _)))
      clear hn hl H0 H1 H2 H3 H4
      refine stepC (wanted_free rfl) fun K hK => ?_
      go_simp
      exact hK _ (Below.refl _ _)
    refine steps_cons (fun hn hl => ?_) fun H6 => ?_
    · skip
      have h10 := Sp.of_c (H5 (hn 5 (show 5 ∈ [5] from .head _)))
      clear hn hl H0 H1 H2 H3 H4 H5
      refine stepC (wanted_guard rfl rfl h10 rfl) fun K hK => ?_
      go_simp
      exact hK _ (Below.refl _ _)
    refine steps_cons (fun hn hl => ?_) fun H7 => ?_
    · skip
      have h11 := Sp.of_g (H6 (hn 6 (show 6 ∈ [6, 5] from .head _))) rfl
      have h10 := Sp.of_c (H5 (hn 5 (show 5 ∈ [6, 5] from .tail _ (.head _))))
      clear hn hl H0 H1 H2 H3 H4 H5 H6
      refine stepC (wanted_guard rfl rfl h10 rfl) fun K hK => ?_
      go_simp
      exact hK _ (Below.refl _ _)
    refine steps_cons (fun hn hl => ?_) fun H8 => ?_
    · skip
      have h10 := Sp.of_c (H5 (hn 5 (show 5 ∈ [5] from .head _)))
      clear hn hl H0 H1 H2 H3 H4 H5 H6 H7
      refine stepC (wanted_guard rfl rfl h10 rfl) fun K hK => ?_
      go_simp
      exact hK _ (Below.refl _ _)
    refine steps_cons (fun hn hl => ?_) fun H9 => ?_
    · skip
      have h13 := Sp.of_g (H8 (hn 8 (show 8 ∈ [8, 5] from .head _))) rfl
      have h10 := Sp.of_c (H5 (hn 5 (show 5 ∈ [8, 5] from .tail _ (.head _))))
      clear hn hl H0 H1 H2 H3 H4 H5 H6 H7 H8
      refine stepC (wanted_guard rfl rfl h10 rfl) fun K hK => ?_
      go_simp
      exact hK _ (Below.refl _ _)
    refine steps_cons (fun hn hl => ?_) fun H10 => ?_
    · skip
      have h12 := Sp.of_g (H7 (hn 7 (show 7 ∈ [7, 9, 5] from .head _))) rfl
      have h14 := Sp.of_g (H9 (hn 9 (show 9 ∈ [7, 9, 5] from .tail _ (.head _)))) rfl
      have h10 := Sp.of_c (H5 (hn 5 (show 5 ∈ [7, 9, 5] from .tail _ (.tail _ (.head _)))))
      clear hn hl H0 H1 H2 H3 H4 H5 H6 H7 H8 H9
      refine stepC (wanted_guard rfl rfl h10 rfl) fun K hK => ?_
      go_simp
      first
        | ((with_reducible refine (four4 a _).mono ?_); rintro e w6 ⟨rfl, hb6⟩; exact hK _ hb6)
        | ((with_reducible refine (four4 b _).mono ?_); rintro e w6 ⟨rfl, hb6⟩; exact hK _ hb6)
        | ((with_reducible refine (equalI _ _ _ _ _ _ hfa hfb _ RA RB).mono ?_); rintro e w6 ⟨rfl, hb6⟩; exact hK _ hb6)
    refine steps_cons (fun hn hl => ?_) fun H11 => ?_
    · skip
      have h10 := Sp.of_c (H5 (hn 5 (show 5 ∈ [5, 10] from .head _)))
      have h15 := Sp.of_g (H10 (hn 10 (show 10 ∈ [5, 10] from .tail _ (.head _)))) rfl
      clear hn hl H0 H1 H2 H3 H4 H5 H6 H7 H8 H9 H10
      refine stepC (wanted_free rfl) fun K hK => ?_
      go_simp
      exact hK _ (Below.refl _ _)
    refine steps_cons (fun hn hl => ?_) fun H12 => ?_
    · skip
      have h16 := Sp.of_c (H11 (hn 11 (show 11 ∈ [11] from .head _)))
      clear hn hl H0 H1 H2 H3 H4 H5 H6 H7 H8 H9 H10 H11
      refine stepC (wanted_free rfl) fun K hK => ?_
      go_simp
      exact hK _ (Below.refl _ _)
    exact trivial
  · intro w5 hb5
    have hz5 := hb5.size
    refine end_cons ?_; rintro _ rfl
    refine end_cons ?_; rintro _ rfl
    refine end_cons ?_; rintro _ rfl
    refine end_cons ?_; rintro _ rfl
    refine end_cons ?_; rintro _ rfl
    refine end_cons ?_; rintro _ rfl
    refine end_cons ?_; rintro _ rfl
    refine end_cons ?_; rintro _ rfl
    refine end_cons ?_; rintro _ rfl
    refine end_cons ?_; rintro _ rfl
    refine end_cons ?_; rintro _ rfl
    refine end_cons ?_; rintro _ rfl
    refine end_cons ?_; rintro _ rfl
    refine end_nil ?_
    simp only [List.setIfInBounds_toArray, List.set_cons_succ, List.set_cons_zero, Bool.not_false, Bool.not_true, Bool.true_or, Bool.or_true, Bool.false_or, Bool.or_false]
    go_wp2
    go_ret
    exact ⟨rfl, hb0.trans (hb5.mono hz0)⟩
set_option maxRecDepth 100000 in
set_option maxHeartbeats 4000000 in
theorem sameP_no (a b : Rp) (hfa : a.nums.length ≤ 1048576) (hfb : b.nums.length ≤ 1048576) (w : World) (ha : RowAt w a.na (vals a.nums)) (hb : RowAt w b.na (vals b.nums)) (he : decide (fourL a = fourL b) = false) :
    Calls Tryd.prog 10 #[.agg #[.int .i64 a.key, .int .i64 a.err, .int .i64 a.job, .int .i64 a.ver, .slice a.na a.nums.length a.nc], .agg #[.int .i64 b.key, .int .i64 b.err, .int .i64 b.job, .int .i64 b.ver, .slice b.na b.nums.length b.nc]] w fun e w' => e = .returned (.bool (false && decide (a.nums = b.nums))) ∧ Below w.heap.size w w' := by
  have HE := fun w => eq_runP a b w
  rw [he] at HE
  have HA := Lib.hid ha
  have HB := Lib.hid hb
  clear ha hb he
  go_enter Tryd.func10, Tryd.ntmps10
  go_wp2_with fail
  generalize hw0 : World.alloc (World.alloc w _) _ = w0
  have hb0 : Below w.heap.size w w0 := by rw [← hw0]; exact (by repeat' (first | exact Below.refl _ _ | assumption | exact And.left (by assumption) | refine Below.drew ?_ | refine below_drewN ?_ _ | refine Below.setCell ?_ (by first | (simp; done) | (simp; omega) | omega) _ | refine Below.alloc ?_ (by first | (simp; done) | (simp; omega) | omega) _ | refine after (by assumption) (by first | (simp; done) | (simp; omega) | omega) ?_))
  have HBA : Hid (BoxP w0 w.heap.size a) := Lib.hid (by rw [← hw0]; exact (BoxP.new w a).alloc _)
  have HBB : Hid (BoxP w0 (w.heap.size + 1) b) := Lib.hid (by rw [← hw0]; simpa using BoxP.new (w.alloc (.cells #[.int .i64 a.key, .int .i64 a.err, .int .i64 a.job, .int .i64 a.ver, .slice a.na a.nums.length a.nc] 25)) b)
  have HRA := Lib.hid (HA.out.later hb0)
  have HRB := Lib.hid (HB.out.later hb0)
  have hz0 := hb0.size
  clear hw0
  refine region_mono (sameSpP w a b false) [5, 6, 7, 8, 9, 10, 11, 12, 13, 14, 15, 16, 4] (by kernel_rfl) (by kernel_rfl) (by kernel_rfl) (by kernel_rfl) (stables_cons (Sp.c_stable _ _) (stables_cons (Sp.c_stable _ _) (stables_cons (Sp.c_stable _ _) (stables_cons (Sp.c_stable _ _) (stables_cons (Sp.c_stable _ _) (stables_cons (Sp.c_stable _ _) (stables_cons (Sp.g_stable _ _ _) (stables_cons (Sp.g_stable _ _ _) (stables_cons (Sp.g_stable _ _ _) (stables_cons (Sp.g_stable _ _ _) (stables_cons (Sp.g_stable _ _ _) (stables_cons (Sp.c_stable _ _) (stables_cons (Sp.c_stable _ _) (trivial)))))))))))))) ?_ ?_
  · intro am wm L hbm hbase hbase2
    have s2 : am.tmps.getD 2 undef = .pointer (some ⟨w.heap.size, 0, none⟩) := (hbase 2 rfl).trans (by simp only [Array.getD_eq_getD_getElem?, List.getElem?_toArray, List.getElem?_cons_succ, List.getElem?_cons_zero, Option.getD_some])
    have s3 : am.tmps.getD 3 undef = .pointer (some ⟨w.heap.size + 1, 0, none⟩) := (hbase 3 rfl).trans (by simp only [Array.getD_eq_getD_getElem?, List.getElem?_toArray, List.getElem?_cons_succ, List.getElem?_cons_zero, Option.getD_some])
    clear hbase hbase2
    have bm := HBA.out.on hbm
    have bm3 := HBB.out.on hbm
    have x12 := bm.c4
    have y12 := bm3.c4
    have RA := HRA.out.later hbm
    have RB := HRB.out.later hbm
    refine steps_cons (fun hn hl => ?_) fun H0 => ?_
    · skip
      clear hn hl 
      refine stepC (wanted_free rfl) fun K hK => ?_
      exact wp_load_p (.tmp 2) rfl s2 bm (hK _ (Below.refl _ _))
    refine steps_cons (fun hn hl => ?_) fun H1 => ?_
    · skip
      have h5 := Sp.of_c (H0 (hn 0 (show 0 ∈ [0] from .head _)))
      clear hn hl H0
      refine stepC (wanted_free rfl) fun K hK => ?_
      go_simp
      first
        | ((with_reducible refine (four4 a _).mono ?_); rintro e w6 ⟨rfl, hb6⟩; exact hK _ hb6)
        | ((with_reducible refine (four4 b _).mono ?_); rintro e w6 ⟨rfl, hb6⟩; exact hK _ hb6)
        | ((with_reducible refine (equalI _ _ _ _ _ _ hfa hfb _ RA RB).mono ?_); rintro e w6 ⟨rfl, hb6⟩; exact hK _ hb6)
    refine steps_cons (fun hn hl => ?_) fun H2 => ?_
    · skip
      clear hn hl H0 H1
      refine stepC (wanted_free rfl) fun K hK => ?_
      exact wp_load_p (.tmp 3) rfl s3 bm3 (hK _ (Below.refl _ _))
    refine steps_cons (fun hn hl => ?_) fun H3 => ?_
    · skip
      have h7 := Sp.of_c (H2 (hn 2 (show 2 ∈ [2] from .head _)))
      clear hn hl H0 H1 H2
      refine stepC (wanted_free rfl) fun K hK => ?_
      go_simp
      first
        | ((with_reducible refine (four4 a _).mono ?_); rintro e w6 ⟨rfl, hb6⟩; exact hK _ hb6)
        | ((with_reducible refine (four4 b _).mono ?_); rintro e w6 ⟨rfl, hb6⟩; exact hK _ hb6)
        | ((with_reducible refine (equalI _ _ _ _ _ _ hfa hfb _ RA RB).mono ?_); rintro e w6 ⟨rfl, hb6⟩; exact hK _ hb6)
    refine steps_cons (fun hn hl => ?_) fun H4 => ?_
    · skip
      have h6 := Sp.of_c (H1 (hn 1 (show 1 ∈ [1, 3] from .head _)))
      have h8 := Sp.of_c (H3 (hn 3 (show 3 ∈ [1, 3] from .tail _ (.head _))))
      clear hn hl H0 H1 H2 H3
      refine stepC (wanted_free rfl) fun K hK => ?_
      go_simp
      exact hK _ (Below.refl _ _)
    refine steps_cons (fun hn hl => ?_) fun H5 => ?_
    · skip
      have h9 := Sp.of_c (H4 (hn 4 (show 4 ∈ [4] from .head _)))
      clear hn hl H0 H1 H2 H3 H4
      refine stepC (wanted_free rfl) fun K hK => ?_
      go_simp
      exact hK _ (Below.refl _ _)
    refine steps_cons (fun hn hl => ?_) fun H6 => ?_
    · skip
      have h10 := Sp.of_c (H5 (hn 5 (show 5 ∈ [5] from .head _)))
      clear hn hl H0 H1 H2 H3 H4 H5
      exact stepN (unwanted_guard rfl rfl h10 rfl)
    refine steps_cons (fun hn hl => ?_) fun H7 => ?_
    · skip
      have h11 := Sp.of_off (H6 (hn 6 (show 6 ∈ [6, 5] from .head _))) rfl
      have h10 := Sp.of_c (H5 (hn 5 (show 5 ∈ [6, 5] from .tail _ (.head _))))
      clear hn hl H0 H1 H2 H3 H4 H5 H6
      exact stepN (unwanted_guard rfl rfl h10 rfl)
    refine steps_cons (fun hn hl => ?_) fun H8 => ?_
    · skip
      have h10 := Sp.of_c (H5 (hn 5 (show 5 ∈ [5] from .head _)))
      clear hn hl H0 H1 H2 H3 H4 H5 H6 H7
      exact stepN (unwanted_guard rfl rfl h10 rfl)
    refine steps_cons (fun hn hl => ?_) fun H9 => ?_
    · skip
      have h13 := Sp.of_off (H8 (hn 8 (show 8 ∈ [8, 5] from .head _))) rfl
      have h10 := Sp.of_c (H5 (hn 5 (show 5 ∈ [8, 5] from .tail _ (.head _))))
      clear hn hl H0 H1 H2 H3 H4 H5 H6 H7 H8
      exact stepN (unwanted_guard rfl rfl h10 rfl)
    refine steps_cons (fun hn hl => ?_) fun H10 => ?_
    · skip
      have h12 := Sp.of_off (H7 (hn 7 (show 7 ∈ [7, 9, 5] from .head _))) rfl
      have h14 := Sp.of_off (H9 (hn 9 (show 9 ∈ [7, 9, 5] from .tail _ (.head _)))) rfl
      have h10 := Sp.of_c (H5 (hn 5 (show 5 ∈ [7, 9, 5] from .tail _ (.tail _ (.head _)))))
      clear hn hl H0 H1 H2 H3 H4 H5 H6 H7 H8 H9
      exact stepN (unwanted_guard rfl rfl h10 rfl)
    refine steps_cons (fun hn hl => ?_) fun H11 => ?_
    · skip
      have h10 := Sp.of_c (H5 (hn 5 (show 5 ∈ [5, 10] from .head _)))
      have h15 := Sp.of_off (H10 (hn 10 (show 10 ∈ [5, 10] from .tail _ (.head _)))) rfl
      clear hn hl H0 H1 H2 H3 H4 H5 H6 H7 H8 H9 H10
      refine stepC (wanted_free rfl) fun K hK => ?_
      go_simp
      exact hK _ (Below.refl _ _)
    refine steps_cons (fun hn hl => ?_) fun H12 => ?_
    · skip
      have h16 := Sp.of_c (H11 (hn 11 (show 11 ∈ [11] from .head _)))
      clear hn hl H0 H1 H2 H3 H4 H5 H6 H7 H8 H9 H10 H11
      refine stepC (wanted_free rfl) fun K hK => ?_
      go_simp
      exact hK _ (Below.refl _ _)
    exact trivial
  · intro w5 hb5
    have hz5 := hb5.size
    refine end_cons ?_; rintro _ rfl
    refine end_cons ?_; rintro _ rfl
    refine end_cons ?_; rintro _ rfl
    refine end_cons ?_; rintro _ rfl
    refine end_cons ?_; rintro _ rfl
    refine end_cons ?_; rintro _ rfl
    refine end_cons ?_; rintro _ rfl
    refine end_cons ?_; rintro _ rfl
    refine end_cons ?_; rintro _ rfl
    refine end_cons ?_; rintro _ rfl
    refine end_cons ?_; rintro _ rfl
    refine end_cons ?_; rintro _ rfl
    refine end_cons ?_; rintro _ rfl
    refine end_nil ?_
    simp only [List.setIfInBounds_toArray, List.set_cons_succ, List.set_cons_zero, Bool.not_false, Bool.not_true, Bool.true_or, Bool.or_true, Bool.false_or, Bool.or_false]
    go_wp2
    go_ret
    exact ⟨rfl, hb0.trans (hb5.mono hz0)⟩
theorem replySame (a b : Rp) (hfa : a.nums.length ≤ 1048576) (hfb : b.nums.length ≤ 1048576) (w : World) (ha : RowAt w a.na (vals a.nums)) (hb : RowAt w b.na (vals b.nums)) :
    Calls Tryd.prog 10 #[.agg #[.int .i64 a.key, .int .i64 a.err, .int .i64 a.job, .int .i64 a.ver, .slice a.na a.nums.length a.nc], .agg #[.int .i64 b.key, .int .i64 b.err, .int .i64 b.job, .int .i64 b.ver, .slice b.na b.nums.length b.nc]] w fun e w' => e = .returned (.bool (sameP a b)) ∧ Below w.heap.size w w' := by
  unfold sameP
  cases h : decide (fourL a = fourL b)
  · exact sameP_no a b hfa hfb w ha hb h
  · exact sameP_yes a b hfa hfb w ha hb h
set_option maxHeartbeats 2000000 in
theorem refSameP (a b : Rp) (hfa : a.nums.length ≤ 1048576) (hfb : b.nums.length ≤ 1048576) (w : World) (ha : RowAt w a.na (vals a.nums)) (hb : RowAt w b.na (vals b.nums)) :
    Calls Tryd.prog 11 #[.agg #[.int .i64 a.key, .int .i64 a.err, .int .i64 a.job, .int .i64 a.ver, .slice a.na a.nums.length a.nc], .agg #[.int .i64 b.key, .int .i64 b.err, .int .i64 b.job, .int .i64 b.ver, .slice b.na b.nums.length b.nc]] w fun e w' => e = .returned (.bool (sameP a b)) ∧ Below w.heap.size w w' := by
  have HNO : ¬ (a.key = b.key ∧ a.err = b.err ∧ a.job = b.job ∧ a.ver = b.ver) → sameP a b = false := fun h => by
    cases e : sameP a b with
    | false => rfl
    | true => have := (sameP_iff a b).1 e; exact absurd ⟨this.1, this.2.1, this.2.2.1, this.2.2.2.1⟩ h
  have HYES : a.key = b.key → a.err = b.err → a.job = b.job → a.ver = b.ver → sameP a b = decide (a.nums = b.nums) := fun h1 h2 h3 h4 => by unfold sameP fourL; rw [h1, h2, h3, h4]; simp
  by_cases g0 : a.key = b.key
  · have e0 : (a.key == b.key) = true := by simpa using g0
    by_cases g1 : a.err = b.err
    · have e1 : (a.err == b.err) = true := by simpa using g1
      by_cases g2 : a.job = b.job
      · have e2 : (a.job == b.job) = true := by simpa using g2
        by_cases g3 : a.ver = b.ver
        · have e3 : (a.ver == b.ver) = true := by simpa using g3
          have HD := Lib.hid (HYES g0 g1 g2 g3)
          have HI := Lib.hid (fun w' h1 h2 => intsD a.na b.na a.nc b.nc a.nums b.nums hfa hfb w' h1 h2)
          have HA := Lib.hid ha
          have HB := Lib.hid hb
          rw [HD.out]
          clear HNO HYES ha hb g0 g1 g2 g3
          go_enter Tryd.func11, Tryd.ntmps11
          go_wp2_with fail
          refine (HI.out _ ((HA.out.alloc _).alloc _) ((HB.out.alloc _).alloc _)).mono ?_; rintro e w2 ⟨rfl, hb2⟩
          have hW : Below w.heap.size w w2 := (((Below.refl _ w).alloc (Nat.le_refl _) _).alloc (by simp) _).trans (hb2.mono (by simp; omega))
          go_wp2
          go_ret
          exact ⟨rfl, hW⟩
        · have e3 : (a.ver == b.ver) = false := by simpa using g3
          rw [HNO (fun h => g3 h.2.2.2)]
          clear HNO HYES g0 g1 g2 g3
          go_enter Tryd.func11, Tryd.ntmps11
          go_wp2
          go_ret
          exact ⟨rfl, (by repeat' (first | exact Below.refl _ _ | assumption | exact And.left (by assumption) | refine Below.drew ?_ | refine below_drewN ?_ _ | refine Below.setCell ?_ (by first | (simp; done) | (simp; omega) | omega) _ | refine Below.alloc ?_ (by first | (simp; done) | (simp; omega) | omega) _ | refine after (by assumption) (by first | (simp; done) | (simp; omega) | omega) ?_))⟩
      · have e2 : (a.job == b.job) = false := by simpa using g2
        rw [HNO (fun h => g2 h.2.2.1)]
        clear HNO HYES g0 g1 g2
        go_enter Tryd.func11, Tryd.ntmps11
        go_wp2
        go_ret
        exact ⟨rfl, (by repeat' (first | exact Below.refl _ _ | assumption | exact And.left (by assumption) | refine Below.drew ?_ | refine below_drewN ?_ _ | refine Below.setCell ?_ (by first | (simp; done) | (simp; omega) | omega) _ | refine Below.alloc ?_ (by first | (simp; done) | (simp; omega) | omega) _ | refine after (by assumption) (by first | (simp; done) | (simp; omega) | omega) ?_))⟩
    · have e1 : (a.err == b.err) = false := by simpa using g1
      rw [HNO (fun h => g1 h.2.1)]
      clear HNO HYES g0 g1
      go_enter Tryd.func11, Tryd.ntmps11
      go_wp2
      go_ret
      exact ⟨rfl, (by repeat' (first | exact Below.refl _ _ | assumption | exact And.left (by assumption) | refine Below.drew ?_ | refine below_drewN ?_ _ | refine Below.setCell ?_ (by first | (simp; done) | (simp; omega) | omega) _ | refine Below.alloc ?_ (by first | (simp; done) | (simp; omega) | omega) _ | refine after (by assumption) (by first | (simp; done) | (simp; omega) | omega) ?_))⟩
  · have e0 : (a.key == b.key) = false := by simpa using g0
    rw [HNO (fun h => g0 h.1)]
    clear HNO HYES g0
    go_enter Tryd.func11, Tryd.ntmps11
    go_wp2
    go_ret
    exact ⟨rfl, (by repeat' (first | exact Below.refl _ _ | assumption | exact And.left (by assumption) | refine Below.drew ?_ | refine below_drewN ?_ _ | refine Below.setCell ?_ (by first | (simp; done) | (simp; omega) | omega) _ | refine Below.alloc ?_ (by first | (simp; done) | (simp; omega) | omega) _ | refine after (by assumption) (by first | (simp; done) | (simp; omega) | omega) ?_))⟩
end Go.Proofs.YtbnlchbklpgejaaDoor.W
